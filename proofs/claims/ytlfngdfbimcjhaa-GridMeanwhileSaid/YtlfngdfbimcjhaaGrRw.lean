/-
  The law GridRows, walked.
-/
import Derived.Test.YtlfngdfbimcjhaaRgB
namespace Go.Proofs.Ytlfngdfbimcjhaa
open Go.RowKit Go.Maps Go.Shelf
set_option linter.unusedVariables false
set_option linter.unusedSimpArgs false
set_option linter.constructorNameAsVariable false

theorem getD_map {α : Type} (f : α → Int) {l : List α} {j : Nat} (h : j < l.length) (d : Int) : (l.map f).getD j d = f l[j] := by
  simp [List.getD_eq_getElem?_getD, h]
theorem OwnR.lenAt {B n : Nat} {v : Value} {xs : Cls Int} {w : World} (h : OwnR cellR B v xs w) (hn : n = xs.length) : ∃ ao cap, v = .slice ao n cap := by rw [hn]; exact h.lenOf
theorem rowC_fst (M : Cls Int) (a : Int) : (rowOf M a).map (·.1) = (rowC M a).map (·.1.2) := by rw [← rowC_map, List.map_map]; rfl
theorem rowC_snd (M : Cls Int) (a : Int) : (rowOf M a).map (·.2) = (rowC M a).map (·.2) := by rw [← rowC_map, List.map_map]; rfl
theorem colC_fst (M : Cls Int) (a : Int) : (colOf M a).map (·.1) = (colC M a).map (·.1.1) := by rw [← colC_map, List.map_map]; rfl
theorem colC_snd (M : Cls Int) (a : Int) : (colOf M a).map (·.2) = (colC M a).map (·.2) := by rw [← colC_map, List.map_map]; rfl
theorem OwnN.later {B : Nat} {v : Value} {l : List Int} {w w' : World} (h : OwnN B v l w) (hb : Below w.heap.size w w') : OwnN B v l w' := h.of (Nat.le_refl _) (fun k hk => hb.block k (h.block hk).2)
theorem OwnR.later {B : Nat} {v : Value} {l : Cls Int} {w w' : World} (h : OwnR cellR B v l w) (hb : Below w.heap.size w w') : OwnR cellR B v l w' := h.of (Nat.le_refl _) (fun k hk => hb.block k (h.block hk).2)

set_option maxHeartbeats 8000000 in
set_option maxRecDepth 100000 in
theorem gridRows_walk (v : Value) (l : List A4) (a b : Int) (wa : (Lit.int .i64 a).wf = true) (wb : (Lit.int .i64 b).wf = true) (w : World) (hr : RdS actR w v l) (hm : l.length ≤ maxLen ∧ ∀ x ∈ l, ActWf x) :
    Calls Try.prog 4 #[v, .int .i64 a, .int .i64 b] w fun e w' => e = .returned (.bool true) ∧ Below w.heap.size w w' := by
  have hr0 := hr
  obtain ⟨ao, cap, rfl, -⟩ := hr0
  obtain ⟨L, hL⟩ : ∃ L, L = l.length := ⟨_, rfl⟩
  rw [← hL] at hr ⊢
  have HR := Lib.hid (And.intro hr hm)
  have HWA := Lib.hid (And.intro wa wb)
  clear hr hL hm wa wb
  go_enter Try.func4, Try.ntmps4
  by_cases c0 : (10000 : Int) < (L : Int)
  · go_wp2_with fail
    exact bodyPost_ret (v := .bool true) (by simp [results, Try.results4, go_sem]) rfl ⟨rfl, Below.refl _ _⟩
  have tokd : True := trivial
  go_wp2_with (first
    | (go_at_call 16; refine (law_built _ l w HR.out.1 HR.out.2).mono ?_; rintro e w1 ⟨g, yb, M, rfl, hlM, hX, hb1⟩; have H1 := Lib.hid (And.intro hX (And.intro hb1 hlM)); clear hX hb1; obtain ⟨pc, hpc⟩ : ∃ pc, pc = rowC M a := ⟨_, rfl⟩; obtain ⟨qc, hqc⟩ : ∃ qc, qc = colC M b := ⟨_, rfl⟩; obtain ⟨n, hn⟩ : ∃ n, n = pc.length := ⟨_, rfl⟩; obtain ⟨m, hmm⟩ : ∃ m, m = qc.length := ⟨_, rfl⟩; have hp1 : pc.length ≤ 100 := (by rw [hpc]; exact Nat.le_trans (rowC_len M a) hlM); have hq1 : qc.length ≤ 100 := (by rw [hqc]; exact Nat.le_trans (colC_len M b) hlM); have hxl : (rowOf M a).length ≤ 1000 := (by have := row_length M a; omega); have hyl : (colOf M b).length ≤ 1000 := (by have := col_length M b; omega); have hn60 : (n : Int) ≤ 100 := (by omega); have hm60 : (m : Int) ≤ 100 := (by omega); have HC := Lib.hid (And.intro hpc (And.intro hqc (And.intro hn (And.intro hmm (And.intro hxl hyl))))); clear hpc hqc hn hmm hp1 hq1 hxl hyl hlM)
    | (go_at_call 18; obtain ⟨F, hF, hF2⟩ := H1.out.1.one; refine (grid_Row_I hF (by have := H1.out.2.2; omega) HWA.out.1).mono ?_; rintro e w2 ⟨f, rfl, hway, hb⟩; have hway' := hway; obtain ⟨gf, lb, rfl, -⟩ := hway'; have H2 := Lib.hid (And.intro hway hb); clear hway hb hF hF2)
    | (go_at_call 17; have _t := tokd; refine (told_way H2.out.1 HC.out.2.2.2.2.1).mono ?_; rintro e w3 ⟨u, v, rfl, hu, hv, hb⟩; rw [rowC_fst, ← HC.out.1] at hu; rw [rowC_snd, ← HC.out.1] at hv; obtain ⟨ab1, ac1, rfl⟩ := hu.lenAt (n := n) (by rw [List.length_map]; exact HC.out.2.2.1); obtain ⟨ab2, ac2, rfl⟩ := hv.lenAt (n := n) (by rw [List.length_map]; exact HC.out.2.2.1); have H3 := Lib.hid (And.intro (H2.out.2.trans (hb.mono H2.out.2.size)) (And.intro hu hv)); clear hu hv hb tokd)
    | (go_at_call 19; obtain ⟨F, hF, hF2⟩ := (H1.out.1.below H3.out.1).one; refine (grid_Column_I hF (by have := H1.out.2.2; omega) HWA.out.2).mono ?_; rintro e w4 ⟨f, rfl, hway, hb⟩; have hway' := hway; obtain ⟨gf', lb', rfl, -⟩ := hway'; have H4 := Lib.hid (And.intro hway hb); clear hway hb hF hF2)
    | (go_at_call 17; refine (told_way H4.out.1 HC.out.2.2.2.2.2).mono ?_; rintro e w5 ⟨u, v, rfl, hu, hv, hb⟩; rw [colC_fst, ← HC.out.2.1] at hu; rw [colC_snd, ← HC.out.2.1] at hv; obtain ⟨ab3, ac3, rfl⟩ := hu.lenAt (n := m) (by rw [List.length_map]; exact HC.out.2.2.2.1); obtain ⟨ab4, ac4, rfl⟩ := hv.lenAt (n := m) (by rw [List.length_map]; exact HC.out.2.2.2.1); have H5 := Lib.hid (And.intro (H4.out.2.trans (hb.mono H4.out.2.size)) (And.intro hu hv)); clear hu hv hb)
    | (go_at_call 20; obtain ⟨vr, hvr⟩ := ((H1.out.1.below H3.out.1).below H5.out.1).ref; refine (ref_Row yb vr M a w5 hvr (by have := H1.out.2.2; omega)).mono ?_; rintro e w6 ⟨u, rfl, hu, hb⟩; rw [← HC.out.1] at hu; obtain ⟨ab5, ac5, rfl⟩ := hu.lenAt HC.out.2.2.1; have H6 := Lib.hid (And.intro hb hu); clear hu hb hvr)
    | (go_at_call 21; obtain ⟨vr, hvr⟩ := (((H1.out.1.below H3.out.1).below H5.out.1).below H6.out.1).ref; refine (ref_Column yb vr M b w6 hvr (by have := H1.out.2.2; omega)).mono ?_; rintro e w7 ⟨u, rfl, hu, hb⟩; rw [← HC.out.2.1] at hu; obtain ⟨ab6, ac6, rfl⟩ := hu.lenAt HC.out.2.2.2.1; have H7 := Lib.hid (And.intro hb hu); clear hu hb hvr)
    | fail)
  have h57 : Below w5.heap.size w5 w7 := H6.out.1.trans (H7.out.1.mono H6.out.1.size)
  have h37 : Below w3.heap.size w3 w7 := H5.out.1.trans (h57.mono H5.out.1.size)
  have h17 : Below w1.heap.size w1 w7 := H3.out.1.trans (h37.mono H3.out.1.size)
  have hb7 : Below w.heap.size w w7 := H1.out.2.1.trans (h17.mono H1.out.2.1.size)
  have HU1 := Lib.hid (And.intro (H3.out.2.1.later h37) (H3.out.2.2.later h37))
  have HU2 := Lib.hid (And.intro (H5.out.2.1.later h57) (H5.out.2.2.later h57))
  have HP := Lib.hid (And.intro (H6.out.2.later H7.out.1) H7.out.2)
  have HB7 := Lib.hid hb7
  have hn1 : n = pc.length := HC.out.2.2.1
  have hm1 : m = qc.length := HC.out.2.2.2.1
  have HNN := Lib.hid (And.intro hn1 hm1)
  clear h57 h37 h17 hb7 H1 H2 H3 H4 H5 H6 H7 HC hn1 hm1 HR HWA
  go_loopw [17] (fun i wr => ∃ j : Nat, j ≤ n ∧ i = .int .i64 j ∧ Below w7.heap.size w7 wr) (fun i _ => n - (intOf i).toNat)
  case atStart => exact ⟨0, by omega, rfl, Below.refl _ _⟩
  case round =>
    obtain ⟨j, hj, rfl, hbj⟩ := hrel
    by_cases hlt : j < n
    · have hjp : j < pc.length := by rw [← HNN.out.1]; exact hlt
      obtain ⟨b1, rfl, q1⟩ := OwnN.atn (HU1.out.1.later hbj) (by rw [List.length_map]; exact HNN.out.1) hlt
      obtain ⟨b2, rfl, q2⟩ := OwnN.atn (HU1.out.2.later hbj) (by rw [List.length_map]; exact HNN.out.1) hlt
      obtain ⟨b3, off, rfl, hrg, -⟩ := (HP.out.1.later hbj).reads.at hjp
      rw [getD_map _ hjp] at q1 q2
      obtain ⟨x, hx⟩ : ∃ x, x = pc[j] := ⟨_, rfl⟩
      obtain ⟨⟨xa, xb⟩, xv⟩ := x
      rw [← hx] at q1 q2 hrg
      obtain ⟨-, q3, q4⟩ := cell3 hrg
      rw [show cellR.k = 3 from rfl] at q3 q4
      dsimp only at q1 q2 q3 q4
      have hlt' : (j : Int) < n := by omega
      have HBJ := Lib.hid hbj
      clear hbj hrg hx hjp
      go_upto_region 14 with fail
      go_quiet (fail)
      go_wp2_with fail
      go_roundw
      case rel => exact ⟨j + 1, by omega, by go_num, HBJ.out.trans ⟨rfl, rfl, rfl, Nat.le_refl _, fun _ _ => rfl⟩⟩
      case measure => simp [intOf]; omega
    · have hge : ¬ (j : Int) < n := by omega
      have HBJ0 := Lib.hid hbj
      clear hbj
      go_wp2_with fail
      go_loopw [18] (fun i wz => ∃ j : Nat, j ≤ m ∧ i = .int .i64 j ∧ Below w7.heap.size w7 wz) (fun i _ => m - (intOf i).toNat)
      case atStart => exact ⟨0, by omega, rfl, HBJ0.out⟩
      case round =>
        obtain ⟨i, hi, rfl, hbi⟩ := hrel
        clear HBJ0
        by_cases hlt2 : i < m
        · have hjp : i < qc.length := by rw [← HNN.out.2]; exact hlt2
          obtain ⟨b1, rfl, q1⟩ := OwnN.atn (HU2.out.1.later hbi) (by rw [List.length_map]; exact HNN.out.2) hlt2
          obtain ⟨b2, rfl, q2⟩ := OwnN.atn (HU2.out.2.later hbi) (by rw [List.length_map]; exact HNN.out.2) hlt2
          obtain ⟨b3, off, rfl, hrg, -⟩ := (HP.out.2.later hbi).reads.at hjp
          rw [getD_map _ hjp] at q1 q2
          obtain ⟨x, hx⟩ : ∃ x, x = qc[i] := ⟨_, rfl⟩
          obtain ⟨⟨xa, xb⟩, xv⟩ := x
          rw [← hx] at q1 q2 hrg
          obtain ⟨q3, -, q4⟩ := cell3 hrg
          rw [show cellR.k = 3 from rfl] at q3 q4
          dsimp only at q1 q2 q3 q4
          have hlt' : (i : Int) < m := by omega
          have HBJ := Lib.hid hbi
          clear hbi hrg hx hjp
          go_upto_region 19 with fail
          go_quiet (fail)
          go_wp2_with fail
          go_roundw
          case rel => exact ⟨i + 1, by omega, by go_num, HBJ.out.trans ⟨rfl, rfl, rfl, Nat.le_refl _, fun _ _ => rfl⟩⟩
          case measure => simp [intOf]; omega
        · have hge2 : ¬ (i : Int) < m := by omega
          have HBJ := Lib.hid (HB7.out.trans (hbi.mono HB7.out.size))
          clear hbi
          go_wp2_with (first
            | (go_at_call 15; refine (law_known _).mono ?_; rintro e w9 ⟨rfl, hb⟩; have H9 := Lib.hid (HBJ.out.trans (hb.mono HBJ.out.size)); clear hb)
            | fail)
          go_ret
          exact ⟨rfl, H9.out⟩
end Go.Proofs.Ytlfngdfbimcjhaa
