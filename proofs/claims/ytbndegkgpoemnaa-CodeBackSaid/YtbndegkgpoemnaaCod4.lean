/-
  SameCall of calls with nothing in them.
-/
import Derived.Test.YtbndegkgpoemnaaCod3
namespace Go.Proofs.Ytbndegkgpoemnaa
open Go.RowKit
set_option linter.unusedVariables false
set_option linter.unusedSimpArgs false

set_option maxHeartbeats 4000000 in
theorem equalFunc0 (a1 a2 : Option Addr) (m c1 c2 : Nat) (f : Fn) (b1 b2 : Array Value) (w : World) :
    Calls Try.prog 70 #[.slice a1 m c1, .slice a2 0 c2, .func f b1 b2] w fun e w' => e = .returned (.bool (decide (m = 0))) ∧ Below w.heap.size w w' := by
  by_cases hm : m = 0
  · subst hm
    go_enter Try.func70, Try.ntmps70
    go_wp2_with fail
    go_loopw [17] (fun i wr => i = .int .i64 0 ∧ wr = w) (fun _ _ => 0)
    case atStart => exact ⟨rfl, rfl⟩
    case round =>
      obtain ⟨rfl, rfl⟩ := hrel
      go_wp2_with fail
      exact bodyPost_ret (v := .bool true) (by simp [results, Try.results70, go_sem]) rfl ⟨rfl, Below.refl _ _⟩
  · have g : ((m : Int) == 0) = false := by simp only [beq_eq_false_iff_ne, ne_eq]; omega
    rw [decide_eq_false hm]
    go_enter Try.func70, Try.ntmps70
    go_wp2_with fail
    exact bodyPost_ret (v := .bool false) (by simp [results, Try.results70, go_sem]) rfl ⟨rfl, Below.refl _ _⟩
theorem points3 {w : World} {cb : Nat} {k t n : Int} (h : cb < w.heap.size) (a0 : w.cell? ⟨cb, 0, none⟩ = some (.int .i64 k)) (a1 : w.cell? ⟨cb, 1, none⟩ = some (.int .i64 t)) (a2 : w.cell? ⟨cb, 2, none⟩ = some (.int .i64 n)) :
    Points w.heap.size w.heap.size [.pointer (some ⟨cb, 0, none⟩), .pointer (some ⟨cb, 0 + 1, none⟩), .pointer (some ⟨cb, 0 + 2, none⟩)] [k, t, n] w := by
  refine ⟨rfl, fun i v hi => ?_⟩
  match i, hi with
  | 0, hi => simp at hi; subst hi; exact ⟨cb, 0, rfl, h, by omega, a0⟩
  | 1, hi => simp at hi; subst hi; exact ⟨cb, 1, rfl, h, by omega, a1⟩
  | 2, hi => simp at hi; subst hi; exact ⟨cb, 2, rfl, h, by omega, a2⟩
  | i + 3, hi => simp at hi
theorem cell_of_below {w w' : World} {b o : Nat} {v : Value} (hb : Below w.heap.size w w') (h : w.cell? ⟨b, o, none⟩ = some v) (hl : b < w.heap.size) : w'.cell? ⟨b, o, none⟩ = some v := (World.cell?_of_block (a := ⟨b, o, none⟩) (hb.block b hl)).trans h
set_option maxHeartbeats 4000000 in
set_option maxRecDepth 100000 in
theorem code_SameCall0 (k t n k' t' n' : Int) (a1 a2 : Option Addr) (m c1 c2 : Nat) (w : World) :
    Calls Try.prog 51 #[.agg #[.int .i64 k, .int .i64 t, .int .i64 n, .slice a1 m c1], .agg #[.int .i64 k', .int .i64 t', .int .i64 n', .slice a2 0 c2]] w fun e w' => e = .returned (.bool (decide ([k, t, n] = [k', t', n']) && decide (m = 0))) ∧ Below w.heap.size w w' := by
  obtain ⟨W, hW⟩ : ∃ W, W = (w.alloc (.cells #[.int .i64 k, .int .i64 t, .int .i64 n, .slice a1 m c1] 28)).alloc (.cells #[.int .i64 k', .int .i64 t', .int .i64 n', .slice a2 0 c2] 28) := ⟨_, rfl⟩
  have hB : Below w.heap.size w W := by rw [hW]; exact ((Below.refl _ w).alloc (Nat.le_refl _) _).alloc (by simp) _
  have h1 := World.alloc_heap_new w (.cells #[.int .i64 k, .int .i64 t, .int .i64 n, .slice a1 m c1] 28)
  have h2 := World.alloc_heap_new (w.alloc (.cells #[.int .i64 k, .int .i64 t, .int .i64 n, .slice a1 m c1] 28)) (.cells #[.int .i64 k', .int .i64 t', .int .i64 n', .slice a2 0 c2] 28)
  rw [World.size_alloc] at h2
  obtain ⟨cb, hcb⟩ : ∃ cb, cb = w.heap.size := ⟨_, rfl⟩
  obtain ⟨db, hdb⟩ : ∃ db, db = cb + 1 := ⟨_, rfl⟩
  have g1 : W.heap[cb]? = some (.cells #[.int .i64 k, .int .i64 t, .int .i64 n, .slice a1 m c1] 28 (0, 0)) := by rw [hW, hcb]; exact (Below.heap_alloc _ _ _ (by simp)).trans h1
  have g2 : W.heap[db]? = some (.cells #[.int .i64 k', .int .i64 t', .int .i64 n', .slice a2 0 c2] 28 (0, 0)) := by rw [hW, hdb, hcb]; exact h2
  have lc : cb < W.heap.size := (Array.getElem?_eq_some_iff.1 g1).1
  have ld : db < W.heap.size := (Array.getElem?_eq_some_iff.1 g2).1
  have pa : ∀ w', Below W.heap.size W w' → Points w'.heap.size w'.heap.size [.pointer (some ⟨cb, 0, none⟩), .pointer (some ⟨cb, 0 + 1, none⟩), .pointer (some ⟨cb, 0 + 2, none⟩)] [k, t, n] w' := fun w' hb =>
    points3 (Nat.lt_of_lt_of_le lc hb.size) (cell_of_below hb (by rw [World.cell?, g1]; rfl) lc) (cell_of_below hb (by rw [World.cell?, g1]; rfl) lc) (cell_of_below hb (by rw [World.cell?, g1]; rfl) lc)
  have pb : ∀ w', Below W.heap.size W w' → Points w'.heap.size w'.heap.size [.pointer (some ⟨db, 0, none⟩), .pointer (some ⟨db, 0 + 1, none⟩), .pointer (some ⟨db, 0 + 2, none⟩)] [k', t', n'] w' := fun w' hb =>
    points3 (Nat.lt_of_lt_of_le ld hb.size) (cell_of_below hb (by rw [World.cell?, g2]; rfl) ld) (cell_of_below hb (by rw [World.cell?, g2]; rfl) ld) (cell_of_below hb (by rw [World.cell?, g2]; rfl) ld)
  have ka : ∀ w', Below W.heap.size W w' → w'.cell? ⟨cb, 3, none⟩ = some (.slice a1 m c1) := fun w' hb => cell_of_below hb (by rw [World.cell?, g1]; rfl) lc
  have kb : ∀ w', Below W.heap.size W w' → w'.cell? ⟨db, 3, none⟩ = some (.slice a2 0 c2) := fun w' hb => cell_of_below hb (by rw [World.cell?, g2]; rfl) ld
  have PA := Lib.hid pa
  have PB := Lib.hid pb
  have KA := Lib.hid ka
  have KB := Lib.hid kb
  have HB := Lib.hid hB
  have hW0 : Below W.heap.size W W := Below.refl _ _
  have B0 := Lib.hid hW0
  clear h1 h2 g1 g2 pa pb ka kb hB hW0 lc ld
  obtain ⟨q, hq⟩ : ∃ q, q = decide ([k, t, n] = [k', t', n']) := ⟨_, rfl⟩
  have HQ := Lib.hid hq
  obtain ⟨z, hz⟩ : ∃ z, z = decide (m = 0) := ⟨_, rfl⟩
  have HZ := Lib.hid hz
  rw [← hq, ← hz]
  clear hq hz
  go_enter Try.func51, Try.ntmps51
  go_upto_region 1 with fail
  rw [← hW, ← hcb, ← hdb]
  clear hW hcb hdb
  cases q <;> cases z
  all_goals
    go_wp2_with (first
      | (go_at_call 60; with_reducible refine (code_callFields cb 0 W).mono ?_; rintro e w1 ⟨x1, y1, rfl, hb, hx, hr, l1, l2⟩; have B1 := Lib.hid (B0.out.trans hb); have X1 := Lib.hid hx; have R1 := Lib.hid hr; have L1 := Lib.hid l1; have M1 := Lib.hid l2; clear hb hx hr l1 l2)
      | (go_at_call 28; with_reducible refine (code_numbers x1 y1 3 _ [k, t, n] _ X1.out L1.out M1.out R1.out (by simp) (PA.out _ B1.out)).mono ?_; rintro e w2 ⟨v1, rfl, ho, hb⟩; have B2 := Lib.hid (B1.out.trans (hb.mono B1.out.size)); have O2 := Lib.hid ho.reads; clear ho hb)
      | (go_at_call 60; with_reducible refine (code_callFields db 0 _).mono ?_; rintro e w3 ⟨x3, y3, rfl, hb, hx, hr, l1, l2⟩; have B3 := Lib.hid (B2.out.trans (hb.mono B2.out.size)); have O3 := Lib.hid (O2.out.below hb); have X3 := Lib.hid hx; have R3 := Lib.hid hr; have L3 := Lib.hid l1; have M3 := Lib.hid l2; clear hb hx hr l1 l2)
      | (go_at_call 28; with_reducible refine (code_numbers x3 y3 3 _ [k', t', n'] _ X3.out L3.out M3.out R3.out (by simp) (PB.out _ B3.out)).mono ?_; rintro e w4 ⟨v4, rfl, ho, hb⟩; have B4 := Lib.hid (B3.out.trans (hb.mono B3.out.size)); have O4 := Lib.hid ho.reads; have P4 := Lib.hid (O3.out.below hb); clear ho hb)
      | (go_at_call 50; with_reducible refine (slices_Equal v1 v4 [k, t, n] [k', t', n'] _ P4.out O4.out (by simp)).mono ?_; rw [← HQ.out]; rintro e w5 ⟨rfl, hb⟩; have B5 := Lib.hid (B4.out.trans (hb.mono B4.out.size)); have ca := KA.out _ B5.out; have cb5 := KB.out _ B5.out; clear hb)
      | (go_at_call 70; with_reducible refine (equalFunc0 a1 a2 m c1 c2 _ _ _ _).mono ?_; rw [← HZ.out]; rintro e w6 ⟨rfl, hb⟩; have B6 := Lib.hid (B5.out.trans (hb.mono B5.out.size)); clear hb)
      | fail)
    first
      | exact bodyPost_ret (v := .bool true) (by simp [results, Try.results51, go_sem]) rfl ⟨rfl, HB.out.trans (B6.out.mono HB.out.size)⟩
      | exact bodyPost_ret (v := .bool false) (by simp [results, Try.results51, go_sem]) rfl ⟨rfl, HB.out.trans (B6.out.mono HB.out.size)⟩
      | exact bodyPost_ret (v := .bool false) (by simp [results, Try.results51, go_sem]) rfl ⟨rfl, HB.out.trans (B5.out.mono HB.out.size)⟩
end Go.Proofs.Ytbndegkgpoemnaa
