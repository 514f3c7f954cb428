/-
  SameExt of extrinsics whose calls have nothing in them, walked.
-/
import Derived.Test.YtbndegkgpoemnaaCod5
namespace Go.Proofs.Ytbndegkgpoemnaa
open Go.RowKit
set_option linter.unusedVariables false
set_option linter.unusedSimpArgs false

attribute [local go_sem ↓] load_h load_v load_c eq_hash eq_vote
set_option maxHeartbeats 4000000 in
set_option maxRecDepth 100000 in
theorem code_SameExt0 (a b : Ex) (hbm : b.m = 0) (w : World) :
    Calls Try.prog 18 #[.agg (ec a).toArray, .agg (ec b).toArray] w fun e w' => e = .returned (.bool (extEq a b)) ∧ Below w.heap.size w w' := by
  obtain ⟨W, hW⟩ : ∃ W, W = (w.alloc (.cells (ec a).toArray 30)).alloc (.cells (ec b).toArray 30) := ⟨_, rfl⟩
  have hB : Below w.heap.size w W := by rw [hW]; exact ((Below.refl _ w).alloc (Nat.le_refl _) _).alloc (by simp) _
  have h1 := World.alloc_heap_new w (.cells (ec a).toArray 30)
  have h2 := World.alloc_heap_new (w.alloc (.cells (ec a).toArray 30)) (.cells (ec b).toArray 30)
  rw [World.size_alloc] at h2
  obtain ⟨cb, hcb⟩ : ∃ cb, cb = w.heap.size := ⟨_, rfl⟩
  obtain ⟨db, hdb⟩ : ∃ db, db = cb + 1 := ⟨_, rfl⟩
  have g1 : W.heap[cb]? = some (.cells (ec a).toArray 30 (0, 0)) := by rw [hW, hcb]; exact (Below.heap_alloc _ _ _ (by simp)).trans h1
  have g2 : W.heap[db]? = some (.cells (ec b).toArray 30 (0, 0)) := by rw [hW, hdb, hcb]; exact h2
  have lc : cb < W.heap.size := (Array.getElem?_eq_some_iff.1 g1).1
  have ld : db < W.heap.size := (Array.getElem?_eq_some_iff.1 g2).1
  have ga : ∀ w', Below W.heap.size W w' → w'.heap[cb]? = some (.cells (ec a).toArray 30 (0, 0)) := fun w' hb => (hb.block cb lc).trans g1
  have gb : ∀ w', Below W.heap.size W w' → w'.heap[db]? = some (.cells (ec b).toArray 30 (0, 0)) := fun w' hb => (hb.block db ld).trans g2
  have GA := Lib.hid ga
  have GB := Lib.hid gb
  have HB := Lib.hid hB
  have HBM := Lib.hid hbm
  have B0 := Lib.hid (Below.refl W.heap.size W)
  have SH := fun w => run_eqHash w a.sum b.sum a.h32 b.h32
  have SV := fun w => run_eqVote w a.vote b.vote
  obtain ⟨q1, hq1⟩ : ∃ q, q = decide (a.hd = b.hd) := ⟨_, rfl⟩
  obtain ⟨q2, hq2⟩ : ∃ q, q = decide (a.sum = b.sum) := ⟨_, rfl⟩
  obtain ⟨q3, hq3⟩ : ∃ q, q = voteEq a.vote b.vote := ⟨_, rfl⟩
  obtain ⟨q4, hq4⟩ : ∃ q, q = (decide ([a.ck, a.ct, a.cn] = [b.ck, b.ct, b.cn]) && decide (a.m = 0)) := ⟨_, rfl⟩
  have hx : extEq a b = (q1 && (q2 && (q3 && q4))) := by rw [hq1, hq2, hq3, hq4]; rfl
  rw [hx]
  rw [← hq2] at SH
  rw [← hq3] at SV
  have HQ1 := Lib.hid hq1
  have HQ4 := Lib.hid hq4
  clear h1 h2 g1 g2 ga gb hB lc ld hq1 hq2 hq3 hq4 hx
  go_enter Try.func18, Try.ntmps18
  go_upto_region 1 with fail
  rw [← hW, ← hcb, ← hdb]
  clear hW hcb hdb
  cases q1 <;> cases q2 <;> cases q3 <;> cases q4
  all_goals
    go_wp2_with (first
      | (go_at_call 29; with_reducible refine (code_headFields cb 0 W).mono ?_; rintro e w1 ⟨x1, y1, rfl, hb, hx, hr, l1, l2⟩; have B1 := Lib.hid (B0.out.trans hb); have X1 := Lib.hid hx; have R1 := Lib.hid hr; have L1 := Lib.hid l1; have M1 := Lib.hid l2; clear hb hx hr l1 l2)
      | (go_at_call 28; with_reducible refine (code_numbers x1 y1 7 _ a.hd _ X1.out L1.out M1.out R1.out (by simp) (points7 (GA.out _ B1.out))).mono ?_; rintro e w2 ⟨v1, rfl, ho, hb⟩; have B2 := Lib.hid (B1.out.trans (hb.mono B1.out.size)); have O2 := Lib.hid ho.reads; clear ho hb)
      | (go_at_call 29; with_reducible refine (code_headFields db 0 _).mono ?_; rintro e w3 ⟨x3, y3, rfl, hb, hx, hr, l1, l2⟩; have B3 := Lib.hid (B2.out.trans (hb.mono B2.out.size)); have O3 := Lib.hid (O2.out.below hb); have X3 := Lib.hid hx; have R3 := Lib.hid hr; have L3 := Lib.hid l1; have M3 := Lib.hid l2; clear hb hx hr l1 l2)
      | (go_at_call 28; with_reducible refine (code_numbers x3 y3 7 _ b.hd _ X3.out L3.out M3.out R3.out (by simp) (points7 (GB.out _ B3.out))).mono ?_; rintro e w4 ⟨v4, rfl, ho, hb⟩; have B4 := Lib.hid (B3.out.trans (hb.mono B3.out.size)); have O4 := Lib.hid ho.reads; have P4 := Lib.hid (O3.out.below hb); clear ho hb)
      | (go_at_call 50; with_reducible refine (slices_Equal v1 v4 a.hd b.hd _ P4.out O4.out (by rw [a.h7]; omega)).mono ?_; rw [← HQ1.out]; rintro e w5 ⟨rfl, hb⟩; have B5 := Lib.hid (B4.out.trans (hb.mono B4.out.size)); have la := run_loadH (GA.out _ B5.out); have lb := run_loadH (GB.out _ B5.out); have va := run_loadV (GA.out _ B5.out); have vb := run_loadV (GB.out _ B5.out); have ca := run_loadC (GA.out _ B5.out); have cb5 := run_loadC (GB.out _ B5.out); rw [HBM.out] at cb5; clear hb)
      | (go_at_call 51; with_reducible refine (code_SameCall0 _ _ _ _ _ _ _ _ _ _ _ _).mono ?_; rw [← HQ4.out]; rintro e w6 ⟨rfl, hb⟩; have B6 := Lib.hid (B5.out.trans (hb.mono B5.out.size)); clear hb)
      | fail)
    first
      | exact bodyPost_ret (v := .bool true) (by simp [results, Try.results18, go_sem]) rfl ⟨rfl, HB.out.trans (B6.out.mono HB.out.size)⟩
      | exact bodyPost_ret (v := .bool false) (by simp [results, Try.results18, go_sem]) rfl ⟨rfl, HB.out.trans (B6.out.mono HB.out.size)⟩
      | exact bodyPost_ret (v := .bool false) (by simp [results, Try.results18, go_sem]) rfl ⟨rfl, HB.out.trans (B5.out.mono HB.out.size)⟩
end Go.Proofs.Ytbndegkgpoemnaa
