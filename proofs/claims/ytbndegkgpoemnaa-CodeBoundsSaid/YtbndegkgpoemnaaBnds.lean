/-
  The law CodeBounds, walked.
-/
import Derived.Test.YtbndegkgpoemnaaKn7
import Derived.Deep.DeepCutAuto
import Derived.Deep.CutBlock
namespace Go.Proofs.Ytbndegkgpoemnaa
open Go.RowKit
set_option linter.unusedVariables false
set_option linter.unusedSimpArgs false

theorem bnd_a (u t n : Int) (w : World) : Calls Try.prog 16 #[.agg (ec (exHd [1, u, t, n, 0, 0, 0] rfl)).toArray] w fun x w' => x = .returned (.bool ((decide (0 ≤ t ∧ t < 10) && decide (0 ≤ n ∧ n ≤ 1073741824)) && decide (0 ≤ u ∧ u < 10))) ∧ Below w.heap.size w w' := by
  have h := code_IsExt1 (exHd [1, u, t, n, 0, 0, 0] rfl) 0 u n t 0 0 rfl w
  rw [extEq_zero 1 u t n 0 0 0 [0, 0, 0, 0, 0, 0, 0] rfl rfl, Bool.and_true] at h
  exact h
theorem bnd_b (t : Int) (w : World) : Calls Try.prog 16 #[.agg (ec (exHd [5, 1, 0, 0, t, 0, 0] rfl)).toArray] w fun x w' => x = .returned (.bool (decide (0 ≤ t ∧ t < 12))) ∧ Below w.heap.size w w' := by
  have h := code_IsExt5 (exHd [5, 1, 0, 0, t, 0, 0] rfl) t 1 0 0 0 0 rfl w
  rw [extEq_zero 5 1 0 0 t 0 0 [0, 0, 0, 0, 0, 0, 0] rfl rfl, Bool.and_true, show decide ((0 : Int) ≤ 1 ∧ (1 : Int) < 10) = true from rfl, Bool.and_true] at h
  exact h
theorem bnd_c (t : Int) (w : World) : Calls Try.prog 16 #[.agg (ec (exHd [11, 1, 0, 0, 0, t, 0] rfl)).toArray] w fun x w' => x = .returned (.bool (decide (0 ≤ t ∧ t < 4))) ∧ Below w.heap.size w w' := by
  have h := code_IsExt11 (exHd [11, 1, 0, 0, 0, t, 0] rfl) 0 1 0 0 t 0 rfl w
  rw [extEq_zero 11 1 0 0 0 t 0 [0, 0, 0, 0, 0, 0, 0] rfl rfl, Bool.and_true, show decide ((0 : Int) ≤ 1 ∧ (1 : Int) < 10) = true from rfl, Bool.and_true] at h
  exact h
theorem bnd_d (t n : Int) (w : World) : Calls Try.prog 24 #[.agg #[.int .i64 2, .int .i64 t, .int .i64 n, .slice none 0 0]] w fun x w' => x = .returned (.bool (decide (0 ≤ t ∧ t < 10) && decide (0 ≤ n ∧ n ≤ 1073741824))) ∧ Below w.heap.size w w' := by
  have h := code_IsCall 1 (.mk 2 t n []) _ w rdC0
  have e : okC 3 (.mk 2 t n []) = (decide (0 ≤ t ∧ t < 10) && decide (0 ≤ n ∧ n ≤ 1073741824)) := by
    rw [okC_n5 (by show (2 : Int) ≠ 5; decide)]
    show decide (leafOk 2 t n 0) = _
    rw [Bool.eq_iff_iff]
    unfold leafOk
    simp
  rw [e] at h
  exact h
attribute [local go_sem ↓] build_e
set_option maxHeartbeats 4000000 in
set_option maxRecDepth 100000 in
theorem codeBounds_walk (u t n : Int) (wu : (Lit.int .i64 u).wf = true) (wt : (Lit.int .i64 t).wf = true) (wn : (Lit.int .i64 n).wf = true) (w : World) : Calls Try.prog 8 #[.int .i64 u, .int .i64 t, .int .i64 n] w fun e w' => e = .returned (.bool true) ∧ Below w.heap.size w w' := by
  clear wu wt wn
  have E4 := run_buildE4 1 u t n
  have E5 := run_buildE5 5 1 t
  have E6 := run_buildE6 11 1 t
  obtain ⟨U, hU⟩ : ∃ U, U = decide (0 ≤ u ∧ u < 10) := ⟨_, rfl⟩
  obtain ⟨A, hA⟩ : ∃ A, A = decide (0 ≤ t ∧ t < 10) := ⟨_, rfl⟩
  obtain ⟨R, hR⟩ : ∃ R, R = decide (0 ≤ t ∧ t < 12) := ⟨_, rfl⟩
  obtain ⟨T, hT⟩ : ∃ T, T = decide (0 ≤ t ∧ t < 4) := ⟨_, rfl⟩
  obtain ⟨B, hB⟩ : ∃ B, B = decide (0 ≤ n ∧ n ≤ 1073741824) := ⟨_, rfl⟩
  have ha := bnd_a u t n
  have hb := bnd_b t
  have hc := bnd_c t
  have hd := bnd_d t n
  rw [← hU, ← hA, ← hB] at ha
  rw [← hR] at hb
  rw [← hT] at hc
  rw [← hA, ← hB] at hd
  have CA := Lib.hid ha
  have CB := Lib.hid hb
  have CC := Lib.hid hc
  have CD := Lib.hid hd
  clear ha hb hc hd
  have HE := Lib.hid (And.intro hU (And.intro hA (And.intro hR (And.intro hT hB))))
  clear hU hA hR hT hB
  go_enter Try.func8, Try.ntmps8
  have tok1 : True := trivial
  have tok2 : True := trivial
  go_upto_region 5 with (first
    | (go_at_call 16; have _t := tok1; refine (CA.out _).mono ?_; rintro e w1 ⟨rfl, hb⟩; have H1 := Lib.hid hb; clear hb tok1)
    | (go_at_call 16; have _t := tok2; refine (CB.out _).mono ?_; rintro e w2 ⟨rfl, hb⟩; have H2 := Lib.hid (H1.out.trans (hb.mono H1.out.size)); clear hb tok2)
    | (go_at_call 16; refine (CC.out _).mono ?_; rintro e w3 ⟨rfl, hb⟩; have H3 := Lib.hid (H2.out.trans (hb.mono H2.out.size)); clear hb)
    | (go_at_call 24; refine (CD.out _).mono ?_; rintro e w4 ⟨rfl, hb⟩; have H4 := Lib.hid (H3.out.trans (hb.mono H3.out.size)); clear hb)
    | fail)
  have hu : (u < 0 ∧ U = false) ∨ ((0 ≤ u ∧ u < 10) ∧ U = true) ∨ ((0 ≤ u ∧ ¬ u < 10) ∧ U = false) := by
    have h1 := HE.out.1
    rw [h1]
    simp only [decide_eq_true_eq, decide_eq_false_iff_not]
    omega
  have ht : (t < 0 ∧ A = false ∧ R = false ∧ T = false) ∨ ((0 ≤ t ∧ t < 4 ∧ t < 10 ∧ t < 12) ∧ A = true ∧ R = true ∧ T = true) ∨ ((0 ≤ t ∧ ¬ t < 4 ∧ t < 10 ∧ t < 12) ∧ A = true ∧ R = true ∧ T = false) ∨ ((0 ≤ t ∧ ¬ t < 4 ∧ ¬ t < 10 ∧ t < 12) ∧ A = false ∧ R = true ∧ T = false) ∨ ((0 ≤ t ∧ ¬ t < 4 ∧ ¬ t < 10 ∧ ¬ t < 12) ∧ A = false ∧ R = false ∧ T = false) := by
    have h1 := HE.out.2.1
    have h2 := HE.out.2.2.1
    have h3 := HE.out.2.2.2.1
    rw [h1, h2, h3]
    simp only [decide_eq_true_eq, decide_eq_false_iff_not]
    omega
  have hn : (n < 0 ∧ B = false) ∨ ((0 ≤ n ∧ n ≤ 1073741824) ∧ B = true) ∨ ((0 ≤ n ∧ ¬ n ≤ 1073741824) ∧ B = false) := by
    have h1 := HE.out.2.2.2.2
    rw [h1]
    simp only [decide_eq_true_eq, decide_eq_false_iff_not]
    omega
  clear CA CB CC CD HE E4 E5 E6
  rcases hn with ⟨hn, rfl⟩ | ⟨⟨n1, n2⟩, rfl⟩ | ⟨⟨n1, n2⟩, rfl⟩ <;> rcases ht with ⟨t1, rfl, rfl, rfl⟩ | ⟨⟨t1, t2, t3, t4⟩, rfl, rfl, rfl⟩ | ⟨⟨t1, t2, t3, t4⟩, rfl, rfl, rfl⟩ | ⟨⟨t1, t2, t3, t4⟩, rfl, rfl, rfl⟩ | ⟨⟨t1, t2, t3, t4⟩, rfl, rfl, rfl⟩ <;> rcases hu with ⟨u1, rfl⟩ | ⟨⟨u1, u2⟩, rfl⟩ | ⟨⟨u1, u2⟩, rfl⟩
  all_goals go_wp2_with (first
    | (go_at_call 19; refine (law_known _).mono ?_; rintro e w9 ⟨rfl, hb⟩; have H9 := Lib.hid (H4.out.trans (hb.mono H4.out.size)); clear hb)
    | fail)
  all_goals go_ret
  all_goals exact ⟨rfl, H9.out⟩
end Go.Proofs.Ytbndegkgpoemnaa
