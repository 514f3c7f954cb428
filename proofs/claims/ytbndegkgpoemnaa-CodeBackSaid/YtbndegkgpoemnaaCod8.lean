/-
  IsExt, walked: what it asks of an extrinsic that names a referendum.
-/
import Derived.Test.YtbndegkgpoemnaaCod7
import Derived.Deep.DeepCutAuto
namespace Go.Proofs.Ytbndegkgpoemnaa
open Go.RowKit
set_option linter.unusedVariables false
set_option linter.unusedSimpArgs false

/-- Two extrinsics in places of their own. -/
structure PairE (w0 : World) (b0 b1 : Nat) (e u : Ex) (W : World) : Prop where
  old : Below w0.heap.size w0 W
  ne : b1 ≠ b0
  l0 : w0.heap.size ≤ b0
  l1 : w0.heap.size ≤ b1
  c0 : W.heap[b0]? = some (.cells (ec e).toArray 30 (0, 0))
  c1 : W.heap[b1]? = some (.cells (ec u).toArray 30 (0, 0))
theorem PairE.drew {w : World} {b0 b1 : Nat} {e u : Ex} {W : World} (h : PairE w b0 b1 e u W) : PairE w b0 b1 e u W.drew := ⟨h.old.drew, h.ne, h.l0, h.l1, h.c0, h.c1⟩
theorem PairE.below {w : World} {b0 b1 : Nat} {e u : Ex} {W W' : World} (h : PairE w b0 b1 e u W) (hb : Below W.heap.size W W') : PairE w b0 b1 e u W' :=
  ⟨h.old.trans (hb.mono h.old.size), h.ne, h.l0, h.l1, (hb.block b0 (Array.getElem?_eq_some_iff.1 h.c0).1).trans h.c0, (hb.block b1 (Array.getElem?_eq_some_iff.1 h.c1).1).trans h.c1⟩
theorem PairE.set {w : World} {b0 b1 : Nat} {e u : Ex} {W : World} (h : PairE w b0 b1 e u W) {i : Nat} {x : Int} (hi : i < 7) : PairE w b0 b1 e (exWith u (u.hd.set i x) (by simp [u.h7])) (W.setCell ⟨b1, i, none⟩ (.int .i64 x)) :=
  ⟨h.old.trans ⟨rfl, rfl, rfl, by simp [World.setCell], fun k hk => heap_setCell_other _ _ _ _ (by show k ≠ b1; have := h.l1; omega)⟩, h.ne, h.l0, h.l1, (heap_setCell_other _ _ _ _ (by show b0 ≠ b1; exact h.ne.symm)).trans h.c0, by rw [← ec_set hi]; exact heap_setCell_same _ _ _ _ _ _ h.c1⟩
theorem PairE.cell {w : World} {b0 b1 : Nat} {e u : Ex} {W : World} (h : PairE w b0 b1 e u W) {i : Nat} (hi : i < 7) : W.cell? ⟨b0, i, none⟩ = some (.int .i64 (e.hd.getD i 0)) := by
  rw [World.cell?, h.c0]
  have hi2 : i < e.hd.length := by rw [e.h7]; exact hi
  simp [ec, Is, List.getElem?_append, hi2]
theorem PairE.cell1 {w : World} {b0 b1 : Nat} {e u : Ex} {W : World} (h : PairE w b0 b1 e u W) {i : Nat} (hi : i < 7) : W.cell? ⟨b1, i, none⟩ = some (.int .i64 (u.hd.getD i 0)) := by
  rw [World.cell?, h.c1]
  have hi2 : i < u.hd.length := by rw [u.h7]; exact hi
  simp [ec, Is, List.getElem?_append, hi2]
theorem PairE.frozen {w : World} {b0 b1 : Nat} {e u : Ex} {W : World} (h : PairE w b0 b1 e u W) (i : Nat) : W.frozen? ⟨b1, i, none⟩ = false := frozen_of_row _ _ _ _ _ h.c1
theorem pairE_new {w : World} {e : Ex} {W : World} (hw : W = w.alloc (.cells (ec e).toArray 30)) (Z : Array Value) :
    PairE w w.heap.size (w.heap.size + 1) e e ((W.alloc (.cells Z 30)).drew.setRow (w.heap.size + 1) (ec e).toArray) := by
  subst hw
  have h1 := World.alloc_heap_new w (.cells (ec e).toArray 30)
  have h2 := World.alloc_heap_new (w.alloc (.cells (ec e).toArray 30)) (.cells Z 30)
  rw [World.size_alloc] at h2
  have h1' := (Below.heap_alloc (w.alloc (.cells (ec e).toArray 30)) (.cells Z 30) w.heap.size (by simp)).trans h1
  have hB : Below w.heap.size w ((w.alloc (.cells (ec e).toArray 30)).alloc (.cells Z 30)) := ((Below.refl _ w).alloc (Nat.le_refl _) _).alloc (by simp) _
  exact ⟨hB.trans ⟨rfl, rfl, rfl, by simp, fun k hk => setRow_other _ _ k _ (by omega)⟩, by omega, Nat.le_refl _, by omega, (setRow_other _ _ _ _ (by omega)).trans h1', setRow_heap _ _ _ _ _ _ h2⟩
attribute [local go_sem ↓] load_e store_e alloc_e build_e
set_option maxHeartbeats 4000000 in
set_option maxRecDepth 100000 in
theorem code_IsExt5 (e : Ex) (r : Int) (who n to' tr lv : Int) (he : e.hd = [5, who, to', n, r, tr, lv]) (w : World) :
    Calls Try.prog 16 #[.agg (ec e).toArray] w fun x w' => x = .returned (.bool (decide (0 ≤ r ∧ r < 12) && (decide (0 ≤ who ∧ who < 10) && extEq (exWith e [0, 0, to', n, 0, tr, lv] rfl) exZero))) ∧ Below w.heap.size w w' := by
  obtain ⟨W, hW⟩ : ∃ W, W = w.alloc (.cells (ec e).toArray 30) := ⟨_, rfl⟩
  have h1 := World.alloc_heap_new w (.cells (ec e).toArray 30)
  rw [← hW] at h1
  have h2 := (Below.heap_alloc W (.cells (ec exZero).toArray 30) w.heap.size (by rw [hW]; simp)).trans h1
  have h3 := World.alloc_heap_new W (.cells (ec exZero).toArray 30)
  have hs : W.heap.size = w.heap.size + 1 := by rw [hW]; simp
  rw [hs] at h3
  have RA := run_allocE
  have LE1 := run_loadE h1
  have LE2 := run_loadE h2
  have LE3 := run_loadE (w := W.drew) h1
  have LE4 := run_loadE (w := (W.alloc (.cells (ec exZero).toArray 30)).drew) h2
  have SE1 := run_storeE (e := e) h3
  have SE2 := run_storeE (w := (W.alloc (.cells (ec exZero).toArray 30)).drew) (e := e) h3
  have P0 := Lib.hid (pairE_new hW (ec exZero).toArray)
  go_enter Try.func16, Try.ntmps16
  go_upto_region 1 with fail
  rw [← hW]
  clear hW h1 h2 h3
  go_cut [3, 4] (fun p3 p4 wx => p3 = .bool true ∧ ∃ b1, p4 = .pointer (some ⟨b1, 0, none⟩) ∧ PairE w w.heap.size b1 e e wx)
  case first =>
    go_region
    all_goals go_wp2_with fail
    all_goals go_meet
    all_goals exact ⟨rfl, _, rfl, P0.out⟩
  case rest =>
    obtain ⟨rfl, b1, rfl, hp⟩ := hcut
    clear LE1 LE2 LE3 LE4 SE1 SE2 RA P0 hs
    have C0 : wc.cell? ⟨w.heap.size, 0, none⟩ = some (.int .i64 5) := by rw [hp.cell (by omega), he]; rfl
    have C4 : wc.cell? ⟨w.heap.size, 4, none⟩ = some (.int .i64 r) := by rw [hp.cell (by omega), he]; rfl
    have HP := Lib.hid hp
    have HE := Lib.hid he
    clear hp he
    obtain ⟨q1, hq1⟩ : ∃ q, q = decide (0 ≤ r ∧ r < 12) := ⟨_, rfl⟩
    have HQ1 := Lib.hid hq1
    clear hq1
    have D4 : wc.cell? ⟨b1, 4, none⟩ = some (.int .i64 r) := by rw [HP.out.cell1 (by omega), HE.out]; rfl
    have F4 := HP.out.frozen 4
    go_upto_region 30 with (first | (go_at_call 44; refine (code_isRef r _).mono ?_; rintro x w' ⟨rfl, hh⟩; rw [← HQ1.out, hh]; clear hh w') | fail)
    obtain ⟨W2, hW2⟩ : ∃ W2, W2 = wc.setCell ⟨b1, 4, none⟩ (.int .i64 0) := ⟨_, rfl⟩
    have hp2 := HP.out.set (i := 4) (x := 0) (by omega)
    rw [← hW2] at hp2 ⊢
    obtain ⟨u, hu⟩ : ∃ u, u = exWith e (e.hd.set 4 0) (by simp [e.h7]) := ⟨_, rfl⟩
    rw [← hu] at hp2
    clear hW2 C0 C4 D4 F4 HP
    have D0 : W2.cell? ⟨b1, 0, none⟩ = some (.int .i64 (u.hd.getD 0 0)) := hp2.cell1 (by omega)
    have D1 : W2.cell? ⟨b1, 1, none⟩ = some (.int .i64 (u.hd.getD 1 0)) := hp2.cell1 (by omega)
    have F0 := hp2.frozen 0
    have F1 := hp2.frozen 1
    have HP2 := Lib.hid hp2
    have HU := Lib.hid hu
    clear hp2 hu
    go_cut [] (fun wx => PairE w w.heap.size b1 e (exWith u ((u.hd.set 0 0).set 1 0) (by simp [u.h7])) wx)
    case first =>
      go_wp2_with fail
      all_goals go_meet
      all_goals first
        | exact (HP2.out.set (i := 0) (x := 0) (by omega)).set (i := 1) (x := 0) (by omega)
        | exact ((HP2.out.set (i := 0) (x := 0) (by omega)).set (i := 1) (x := 0) (by omega)).drew
    case rest =>
      have hp := hcut
      clear hcut D0 D1 F0 F1 HP2
      obtain ⟨v, hv⟩ : ∃ v, v = exWith u ((u.hd.set 0 0).set 1 0) (by simp [u.h7]) := ⟨_, rfl⟩
      rw [← hv] at hp
      have C1 : wc.cell? ⟨w.heap.size, 1, none⟩ = some (.int .i64 who) := by rw [hp.cell (by omega), HE.out]; rfl
      have LE := run_loadE hp.c1
      have BE := run_buildE wc
      have HP := Lib.hid hp
      have HV := Lib.hid hv
      clear hp hv
      obtain ⟨q2, hq2⟩ : ∃ q, q = decide (0 ≤ who ∧ who < 10) := ⟨_, rfl⟩
      have HQ2 := Lib.hid hq2
      obtain ⟨q3, hq3⟩ : ∃ q, q = extEq v exZero := ⟨_, rfl⟩
      have HQ3 := Lib.hid hq3
      clear hq2 hq3
      have HX : v = exWith e [0, 0, to', n, 0, tr, lv] rfl := by rw [HV.out, HU.out]; unfold exWith; simp [HE.out]
      have hr : (decide (0 ≤ r ∧ r < 12) && (decide (0 ≤ who ∧ who < 10) && extEq (exWith e [0, 0, to', n, 0, tr, lv] rfl) exZero)) = (q1 && (q2 && q3)) := by rw [← HX, ← HQ1.out, ← HQ2.out, ← HQ3.out]
      have HR := Lib.hid hr
      clear HX hr
      cases q1 <;> cases q2
      all_goals
        go_wp2_with (first
          | (go_at_call 40; refine (bound_Account who _).mono ?_; rintro x w' ⟨rfl, hh⟩; rw [← HQ2.out, hh]; clear hh w')
          | (go_at_call 18; refine (code_SameExt0 v exZero rfl _).mono ?_; rintro x w5 ⟨rfl, hb⟩; rw [← HQ3.out]; have B5 := Lib.hid hb; clear hb)
          | fail)
      all_goals first
        | exact bodyPost_ret (v := .bool false) (by simp [results, Try.results16, go_sem]) rfl ⟨by rw [HR.out]; rfl, HP.out.old⟩
        | exact bodyPost_ret (v := .bool q3) (by simp [results, Try.results16, go_sem]) rfl ⟨by rw [HR.out]; rfl, HP.out.old.trans (B5.out.mono HP.out.old.size)⟩
end Go.Proofs.Ytbndegkgpoemnaa
