/-
  The reference's Row and Column.
-/
import Derived.Test.YtlfngdfbimcjhaaRgP
import Derived.Test.YtlfngdfbimcjhaaRowA
namespace Go.Proofs.Ytlfngdfbimcjhaa
open Go.RowKit Go.Maps Go.Shelf
set_option linter.unusedVariables false
set_option linter.unusedSimpArgs false

def rowC (M : Cls Int) (a : Int) : Cls Int := M.filter (fun x => decide (x.1.1 = a))
def colC (M : Cls Int) (b : Int) : Cls Int := M.filter (fun x => decide (x.1.2 = b))
theorem rowC_map (M : Cls Int) (a : Int) : (rowC M a).map (fun x => (x.1.2, x.2)) = rowOf M a := by
  unfold rowC rowOf
  induction M with
  | nil => rfl
  | cons x M ih =>
    rw [List.filter_cons, List.filterMap_cons]
    by_cases h : x.1.1 = a
    · simp [h, ih]
    · simp [h, ih]
theorem colC_map (M : Cls Int) (b : Int) : (colC M b).map (fun x => (x.1.1, x.2)) = colOf M b := by
  unfold colC colOf
  induction M with
  | nil => rfl
  | cons x M ih =>
    rw [List.filter_cons, List.filterMap_cons]
    by_cases h : x.1.2 = b
    · simp [h, ih]
    · simp [h, ih]
theorem rowC_take {M : Cls Int} {a : Int} {k : Nat} (h : k < M.length) : rowC (M.take (k + 1)) a = if (M[k]).1.1 = a then rowC (M.take k) a ++ [M[k]] else rowC (M.take k) a := by
  rw [List.take_succ_eq_append_getElem h, rowC, List.filter_append]
  by_cases e : (M[k]).1.1 = a <;> simp [e, rowC]
theorem colC_take {M : Cls Int} {a : Int} {k : Nat} (h : k < M.length) : colC (M.take (k + 1)) a = if (M[k]).1.2 = a then colC (M.take k) a ++ [M[k]] else colC (M.take k) a := by
  rw [List.take_succ_eq_append_getElem h, colC, List.filter_append]
  by_cases e : (M[k]).1.2 = a <;> simp [e, colC]
theorem rowC_len (M : Cls Int) (a : Int) : (rowC M a).length ≤ M.length := List.length_filter_le _ _
theorem colC_len (M : Cls Int) (a : Int) : (colC M a).length ≤ M.length := List.length_filter_le _ _
/-- A row read in a world. -/
theorem cell3 {w : World} {b o : Nat} {x : (Int × Int) × Int} (hrg : w.rangeAt b o (cellR.f x)) : w.cell? ⟨b, o, none⟩ = some (.int .i64 x.1.1) ∧ w.cell? ⟨b, o + 1, none⟩ = some (.int .i64 x.1.2) ∧ w.cell? ⟨b, o + 2, none⟩ = some (.int .i64 x.2) :=
  ⟨by have := hrg 0 (.int .i64 x.1.1) (by simp [cellR, prOf_P]); simpa using this, by have := hrg 1 (.int .i64 x.1.2) (by simp [cellR, prOf_P]); simpa using this, by have := hrg 2 (.int .i64 x.2) (by simp [cellR, prOf_P]); simpa using this⟩

set_option maxHeartbeats 8000000 in
set_option maxRecDepth 100000 in
theorem ref_Row (yb : Nat) (v : Value) (M : Cls Int) (a : Int) (w : World) (hA : RefG yb v M w) (hl : M.length ≤ 400000) :
    Calls Try.prog 20 #[.pointer (some ⟨yb, 0, none⟩), .int .i64 a] w fun e w' => ∃ u, e = .returned u ∧ OwnR cellR w.heap.size u (rowC M a) w' ∧ Below w.heap.size w w' := by
  obtain ⟨ao, cap, hv⟩ := hA.own.lenOf
  obtain ⟨n, hn⟩ : ∃ n, n = M.length := ⟨_, rfl⟩
  have hRd : ∀ w', Below w.heap.size w w' → RdR cellR w' (.slice ao n cap) M ∧ w'.cell? ⟨yb, 0, none⟩ = some (.slice ao n cap) := fun w' hb => by
    have h := hA.below hb
    rw [hv, ← hn] at h
    exact ⟨h.own.reads, h.at_.cell⟩
  have hn4 : n ≤ 400000 := by omega
  have hnI : (n : Int) ≤ 400000 := by omega
  have HRD := Lib.hid hRd
  have HN := Lib.hid hn
  clear hA hl hv hRd hn
  go_enter Try.func20, Try.ntmps20
  go_wp2_with fail
  go_loopw [5, 6] (fun u i wr => ∃ (k : Nat), k ≤ n ∧ i = .int .i64 k ∧ OwnR cellR w.heap.size u (rowC (M.take k) a) wr ∧ Below w.heap.size w wr) (fun _ i _ => n - (intOf i).toNat)
  case atStart => exact ⟨0, by omega, rfl, OwnR.nil _ _, Below.refl _ _⟩
  case round =>
    obtain ⟨k, hk, rfl, ho, hb⟩ := hrel
    have HO := Lib.hid ho
    have HB := Lib.hid hb
    obtain ⟨hrd, cY⟩ := HRD.out _ hb
    clear ho hb
    by_cases hlt : k < n
    · have hlt' : (k : Int) < n := by omega
      have hkl : k < M.length := by rw [← HN.out]; exact hlt
      obtain ⟨bb, off, rfl, hrg, hbl⟩ := hrd.at hkl
      obtain ⟨x, hx⟩ : ∃ x, x = M[k] := ⟨_, rfl⟩
      obtain ⟨⟨xa, xb⟩, xv⟩ := x
      rw [← hx] at hrg
      have htk := rowC_take (a := a) hkl
      rw [← hx] at htk
      have hlen : (rowC (M.take k) a).length ≤ 1000000 := Nat.le_trans (rowC_len _ _) (by rw [List.length_take]; omega)
      have HRG := Lib.hid hrg
      have cC := (cell3 hrg).1
      rw [show cellR.k = 3 from rfl] at cC
      dsimp only at cC htk
      have HTK := Lib.hid htk
      have HLE := Lib.hid hlen
      have hbs : w.heap.size ≤ wr.heap.size := HB.out.size
      clear hrg hkl hrd hx htk hlen
      by_cases c1 : xa = a
      · subst c1
        go_wp2_with (first
          | (refine wpl_loadR (r := cellR) _ rfl rfl rfl HRG.out ?_; dsimp only [cellR, prOf_P])
          | (refine wpl_appR (r := cellR) (y := ((xa, xb), xv)) rfl rfl rfl rfl (OwnR.of HO.out (Nat.le_refl _) (fun k hk => Below.heap_alloc _ _ _ (HO.out.block hk).2)) (rangeAt_whole (T := 48) (by exact World.alloc_heap_new _ _)) HLE.out (by rw [World.size_alloc]; omega) ?_; intro v3 w3 ho3 hg3 hf3 hn3; have HO3 := Lib.hid ho3; have HB3 := Lib.hid (Below.grown (HB.out.alloc HB.out.size _) hg3 (by rw [World.size_alloc]; omega) (fun k hk => (HO.out.block hk).1)); clear ho3 hg3 hf3 hn3)
          | fail)
        go_roundw
        case rel => exact ⟨k + 1, by omega, by go_num, by rw [HTK.out, if_pos rfl]; exact HO3.out, HB3.out⟩
        case measure => simp [intOf]; omega
      · have e1 : (xa == a) = false := by simpa using c1
        go_wp2_with fail
        go_roundw
        case rel => exact ⟨k + 1, by omega, by go_num, by rw [HTK.out, if_neg c1]; exact HO.out, HB.out⟩
        case measure => simp [intOf]; omega
    · have hge : ¬ (k : Int) < n := by omega
      have hM : M.take k = M := List.take_of_length_le (by rw [← HN.out]; omega)
      obtain ⟨a5, c5, hv5⟩ := HO.out.lenOf
      have HM := Lib.hid hM
      have HV5 := Lib.hid hv5
      clear hrd hM hv5
      go_wp2_with fail
      exact bodyPost_ret (v := u5) (by simp [results, Try.results20, go_sem]) rfl ⟨u5, rfl, by have h := HO.out; rw [HM.out] at h; exact h, HB.out⟩

set_option maxHeartbeats 8000000 in
set_option maxRecDepth 100000 in
theorem ref_Column (yb : Nat) (v : Value) (M : Cls Int) (a : Int) (w : World) (hA : RefG yb v M w) (hl : M.length ≤ 400000) :
    Calls Try.prog 21 #[.pointer (some ⟨yb, 0, none⟩), .int .i64 a] w fun e w' => ∃ u, e = .returned u ∧ OwnR cellR w.heap.size u (colC M a) w' ∧ Below w.heap.size w w' := by
  obtain ⟨ao, cap, hv⟩ := hA.own.lenOf
  obtain ⟨n, hn⟩ : ∃ n, n = M.length := ⟨_, rfl⟩
  have hRd : ∀ w', Below w.heap.size w w' → RdR cellR w' (.slice ao n cap) M ∧ w'.cell? ⟨yb, 0, none⟩ = some (.slice ao n cap) := fun w' hb => by
    have h := hA.below hb
    rw [hv, ← hn] at h
    exact ⟨h.own.reads, h.at_.cell⟩
  have hn4 : n ≤ 400000 := by omega
  have hnI : (n : Int) ≤ 400000 := by omega
  have HRD := Lib.hid hRd
  have HN := Lib.hid hn
  clear hA hl hv hRd hn
  go_enter Try.func21, Try.ntmps21
  go_wp2_with fail
  go_loopw [5, 6] (fun u i wr => ∃ (k : Nat), k ≤ n ∧ i = .int .i64 k ∧ OwnR cellR w.heap.size u (colC (M.take k) a) wr ∧ Below w.heap.size w wr) (fun _ i _ => n - (intOf i).toNat)
  case atStart => exact ⟨0, by omega, rfl, OwnR.nil _ _, Below.refl _ _⟩
  case round =>
    obtain ⟨k, hk, rfl, ho, hb⟩ := hrel
    have HO := Lib.hid ho
    have HB := Lib.hid hb
    obtain ⟨hrd, cY⟩ := HRD.out _ hb
    clear ho hb
    by_cases hlt : k < n
    · have hlt' : (k : Int) < n := by omega
      have hkl : k < M.length := by rw [← HN.out]; exact hlt
      obtain ⟨bb, off, rfl, hrg, hbl⟩ := hrd.at hkl
      obtain ⟨x, hx⟩ : ∃ x, x = M[k] := ⟨_, rfl⟩
      obtain ⟨⟨xa, xb⟩, xv⟩ := x
      rw [← hx] at hrg
      have htk := colC_take (a := a) hkl
      rw [← hx] at htk
      have hlen : (colC (M.take k) a).length ≤ 1000000 := Nat.le_trans (colC_len _ _) (by rw [List.length_take]; omega)
      have HRG := Lib.hid hrg
      have cC := (cell3 hrg).2.1
      rw [show cellR.k = 3 from rfl] at cC
      dsimp only at cC htk
      have HTK := Lib.hid htk
      have HLE := Lib.hid hlen
      have hbs : w.heap.size ≤ wr.heap.size := HB.out.size
      clear hrg hkl hrd hx htk hlen
      by_cases c1 : xb = a
      · subst c1
        go_wp2_with (first
          | (refine wpl_loadR (r := cellR) _ rfl rfl rfl HRG.out ?_; dsimp only [cellR, prOf_P])
          | (refine wpl_appR (r := cellR) (y := ((xa, xb), xv)) rfl rfl rfl rfl (OwnR.of HO.out (Nat.le_refl _) (fun k hk => Below.heap_alloc _ _ _ (HO.out.block hk).2)) (rangeAt_whole (T := 48) (by exact World.alloc_heap_new _ _)) HLE.out (by rw [World.size_alloc]; omega) ?_; intro v3 w3 ho3 hg3 hf3 hn3; have HO3 := Lib.hid ho3; have HB3 := Lib.hid (Below.grown (HB.out.alloc HB.out.size _) hg3 (by rw [World.size_alloc]; omega) (fun k hk => (HO.out.block hk).1)); clear ho3 hg3 hf3 hn3)
          | fail)
        go_roundw
        case rel => exact ⟨k + 1, by omega, by go_num, by rw [HTK.out, if_pos rfl]; exact HO3.out, HB3.out⟩
        case measure => simp [intOf]; omega
      · have e1 : (xb == a) = false := by simpa using c1
        go_wp2_with fail
        go_roundw
        case rel => exact ⟨k + 1, by omega, by go_num, by rw [HTK.out, if_neg c1]; exact HO.out, HB.out⟩
        case measure => simp [intOf]; omega
    · have hge : ¬ (k : Int) < n := by omega
      have hM : M.take k = M := List.take_of_length_le (by rw [← HN.out]; omega)
      obtain ⟨a5, c5, hv5⟩ := HO.out.lenOf
      have HM := Lib.hid hM
      have HV5 := Lib.hid hv5
      clear hrd hM hv5
      go_wp2_with fail
      exact bodyPost_ret (v := u5) (by simp [results, Try.results21, go_sem]) rfl ⟨u5, rfl, by have h := HO.out; rw [HM.out] at h; exact h, HB.out⟩

end Go.Proofs.Ytlfngdfbimcjhaa
