/-
  The laws on what balances and votes weigh.
-/
import Derived.Test.YtgoomkailpnjaaaConv2
namespace Go.Proofs.Ytgoomkailpnjaaa
open Go.RowKit
set_option linter.unusedVariables false

set_option maxHeartbeats 1000000 in
theorem convTells_walk (n l p : Int) (_w0 : (Lit.int .i64 n).wf = true) (_w1 : (Lit.int .i64 l).wf = true) (_w2 : (Lit.int .i64 p).wf = true) (w : World) :
    Calls Try.prog 3 #[.int .i64 n, .int .i64 l, .int .i64 p] w fun e w' => e = .returned (.bool true) ∧ Below w.heap.size w w' := by
  by_cases h0 : inB n 8589934592 = true ∧ inB l 6 = true ∧ inB p 1073741824 = true
  · obtain ⟨h0, h1, h2⟩ := h0
    obtain ⟨n0, n1⟩ := inB_out h0
    obtain ⟨l0, l1⟩ := inB_out h1
    obtain ⟨p0, p1⟩ := inB_out h2
    go_enter Try.func3, Try.ntmps3
    go_wp2_with (first | (go_at_call 18; refine (law5_in _ _ _).mono ?_; rintro e w' ⟨rfl, rfl⟩) | (go_at_call 19; refine (conv_Votes _ _ _ (by omega) (by omega) (by omega) (by omega)).mono ?_; rintro e w' ⟨rfl, rfl⟩) | (go_at_call 20; refine (ref_Votes _ _ _ (by omega) (by omega) (by omega) (by omega)).mono ?_; rintro e w' ⟨rfl, rfl⟩) | (go_at_call 21; refine (conv_Period _ _ _ (by omega) (by omega) (by omega) (by omega)).mono ?_; rintro e w' ⟨rfl, rfl⟩) | (go_at_call 22; refine (ref_Period _ _ _ (by omega) (by omega) (by omega) (by omega)).mono ?_; rintro e w' ⟨rfl, rfl⟩) | (go_at_call 23; refine (known5 _).mono ?_; rintro e w' ⟨rfl, rfl⟩) | fail)
    go_ret
    exact ⟨rfl, Below.refl _ _⟩
  · have H0 := Lib.hid h0
    clear h0
    go_enter Try.func3, Try.ntmps3
    go_wp2_with (go_at_call 18; refine (law5_in _ _ _).mono ?_; rintro e w' ⟨rfl, rfl⟩)
    all_goals first | (go_ret; exact ⟨rfl, Below.refl _ _⟩) | (exfalso; have h0 := H0.out; simp_all; done)

theorem more_math {n l p : Int} (n0 : 0 ≤ n) (l0 : 0 ≤ l) (l1 : l ≤ 5) (p0 : 0 ≤ p) :
    0 ≤ votesI n l ∧ votesI n l ≤ votesI n (l + 1) ∧ 0 ≤ periodI l p ∧ periodI l p ≤ periodI (l + 1) p ∧ periodI l p ≤ 32 * p ∧ periodI (l + 1) p ≤ 32 * p ∧ votesI n (l + 1) ≤ 6 * n ∧ (0 < l → periodI (l + 1) p = 2 * periodI l p ∧ votesI n (l + 1) - votesI n l = n) := by
  have hl : l = 0 ∨ l = 1 ∨ l = 2 ∨ l = 3 ∨ l = 4 ∨ l = 5 := by omega
  rcases hl with rfl | rfl | rfl | rfl | rfl | rfl <;> simp [votesI, periodI] <;> omega

set_option maxHeartbeats 1000000 in
theorem convMore_walk (n l p : Int) (_w0 : (Lit.int .i64 n).wf = true) (_w1 : (Lit.int .i64 l).wf = true) (_w2 : (Lit.int .i64 p).wf = true) (w : World) :
    Calls Try.prog 6 #[.int .i64 n, .int .i64 l, .int .i64 p] w fun e w' => e = .returned (.bool true) ∧ Below w.heap.size w w' := by
  by_cases h0 : inB n 8589934592 = true ∧ inB l 5 = true ∧ inB p 1073741824 = true
  · obtain ⟨h0, h1, h2⟩ := h0
    obtain ⟨n0, n1⟩ := inB_out h0
    obtain ⟨l0, l1⟩ := inB_out h1
    obtain ⟨p0, p1⟩ := inB_out h2
    obtain ⟨v0, v1, q0, q1, q2, q3, q4, hq⟩ := more_math n0 l0 l1 p0
    have e1 : periodI 0 p = 0 := rfl
    have e2 : periodI 1 p = p := by simp [periodI]
    by_cases hl : 0 < l
    · obtain ⟨hq1, hq2⟩ := hq hl
      have g1 : (periodI (l + 1) p != 2 * periodI l p) = false := by simp [hq1]
      have g2 : (votesI n (l + 1) - votesI n l != n) = false := by simp [hq2]
      clear hq hq1 hq2
      go_enter Try.func6, Try.ntmps6
      go_wp2_with (first | (go_at_call 18; refine (law5_in _ _ _).mono ?_; rintro e w' ⟨rfl, rfl⟩) | (go_at_call 19; refine (conv_Votes _ _ _ (by omega) (by omega) (by omega) (by omega)).mono ?_; rintro e w' ⟨rfl, rfl⟩) | (go_at_call 21; refine (conv_Period _ _ _ (by omega) (by omega) (by omega) (by omega)).mono ?_; rintro e w' ⟨rfl, rfl⟩) | (go_at_call 23; refine (known5 _).mono ?_; rintro e w' ⟨rfl, rfl⟩) | fail)
      go_ret
      exact ⟨rfl, Below.refl _ _⟩
    · obtain rfl : l = 0 := by omega
      clear hq hl
      go_enter Try.func6, Try.ntmps6
      go_wp2_with (first | (go_at_call 18; refine (law5_in _ _ _).mono ?_; rintro e w' ⟨rfl, rfl⟩) | (go_at_call 19; refine (conv_Votes _ _ _ (by omega) (by omega) (by omega) (by omega)).mono ?_; rintro e w' ⟨rfl, rfl⟩) | (go_at_call 21; refine (conv_Period _ _ _ (by omega) (by omega) (by omega) (by omega)).mono ?_; rintro e w' ⟨rfl, rfl⟩) | (go_at_call 23; refine (known5 _).mono ?_; rintro e w' ⟨rfl, rfl⟩) | fail)
      go_ret
      exact ⟨rfl, Below.refl _ _⟩
  · have H0 := Lib.hid h0
    clear h0
    go_enter Try.func6, Try.ntmps6
    go_wp2_with (go_at_call 18; refine (law5_in _ _ _).mono ?_; rintro e w' ⟨rfl, rfl⟩)
    all_goals first | (go_ret; exact ⟨rfl, Below.refl _ _⟩) | (exfalso; have h0 := H0.out; simp_all; done)

end Go.Proofs.Ytgoomkailpnjaaa
