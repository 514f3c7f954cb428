/-
  The example of chapter 4, and the laws on parts and ratios.
-/
import Derived.Test.YtnboghkdhfpfnaaPer3
import Derived.Test.YtnboghkdhfpfnaaPerM
namespace Go.Proofs.Ytnboghkdhfpfnaa
open Go.RowKit

theorem known_yes (w : World) : Calls Try.prog 19 #[] w fun e w' => e = .returned (.bool true) ∧ Below w.heap.size w w' := by
  have e1 : atI 1 1000000000 0 1000000000 0 250000000 = 750000000 := by decide
  have e2 : partI 10 500000000 false = 5 := by decide
  have e3 : ratioI 1 2 = 500000000 := by decide
  have e4 : isB 1 1000000000 0 1000000000 0 = true := by decide
  go_enter Try.func19, Try.ntmps19
  go_wp2_with (first | (go_at_call 22; refine (per_At _ _ _ _ _ _ _ (by decide)).mono ?_; rintro e w1 ⟨rfl, hb1⟩; obtain ⟨hc1, hf1⟩ := bcell hb1) | (go_at_call 15; refine (per_Part _ _ _ _ (by decide) (by decide) (by decide) (by decide)).mono ?_; rintro e w' ⟨rfl, rfl⟩) | (go_at_call 17; refine (per_Ratio _ _ _ (by decide) (by decide) (by decide) (by decide)).mono ?_; rintro e w' ⟨rfl, rfl⟩) | (go_at_call 21; refine (per_Is _ _ _ _ _ _).mono ?_; rintro e w2 ⟨rfl, hb2⟩))
  go_ret
  exact ⟨ret_bool e4, (below_box hb1).trans (hb2.mono (by have := hb1.size; simp at this; omega))⟩

theorem perTells_walk (n p a b : Int) (_w0 : (Lit.int .i64 n).wf = true) (_w1 : (Lit.int .i64 p).wf = true) (_w2 : (Lit.int .i64 a).wf = true) (_w3 : (Lit.int .i64 b).wf = true) (w : World) :
    Calls Try.prog 3 #[.int .i64 n, .int .i64 p, .int .i64 a, .int .i64 b] w fun e w' => e = .returned (.bool true) ∧ Below w.heap.size w w' := by
  by_cases h0 : inB n 8589934592 = true ∧ inB p 1000000000 = true ∧ inB a 8589934592 = true ∧ inB b 8589934592 = true
  · obtain ⟨h0, h1, h2, h3⟩ := h0
    obtain ⟨n0, n1⟩ := inB_out h0
    obtain ⟨p0, p1⟩ := inB_out h1
    obtain ⟨a0, a1⟩ := inB_out h2
    obtain ⟨b0, b1⟩ := inB_out h3
    go_enter Try.func3, Try.ntmps3
    go_wp2_with (first | (go_at_call 14; refine (law_in _ _ _).mono ?_; rintro e w' ⟨rfl, rfl⟩) | (go_at_call 15; refine (per_Part _ _ _ _ n0 n1 p0 p1).mono ?_; rintro e w' ⟨rfl, rfl⟩) | (go_at_call 16; refine (ref_Part _ _ _ _ n0 n1 p0 p1).mono ?_; rintro e w' ⟨rfl, rfl⟩) | (go_at_call 17; refine (per_Ratio _ _ _ a0 a1 b0 b1).mono ?_; rintro e w' ⟨rfl, rfl⟩) | (go_at_call 18; refine (ref_Ratio _ _ _ a0 a1 b0 b1).mono ?_; rintro e w' ⟨rfl, rfl⟩) | (go_at_call 19; refine (known_yes _).mono ?_; rintro e w2 ⟨rfl, hb2⟩))
    go_ret
    exact ⟨rfl, hb2⟩
  · go_enter Try.func3, Try.ntmps3
    go_wp2_with (go_at_call 14; refine (law_in _ _ _).mono ?_; rintro e w' ⟨rfl, rfl⟩)
    all_goals first | (go_ret; exact ⟨rfl, Below.refl _ _⟩) | (exfalso; simp_all; done)

theorem perParts_walk (n p : Int) (_w0 : (Lit.int .i64 n).wf = true) (_w1 : (Lit.int .i64 p).wf = true) (w : World) :
    Calls Try.prog 5 #[.int .i64 n, .int .i64 p] w fun e w' => e = .returned (.bool true) ∧ Below w.heap.size w w' := by
  by_cases h0 : inB n 8589934592 = true ∧ inB p 1000000000 = true
  · obtain ⟨h0, h1⟩ := h0
    obtain ⟨n0, n1⟩ := inB_out h0
    obtain ⟨p0, p1⟩ := inB_out h1
    obtain ⟨d0, d1⟩ := part_down_bd n0 p0 p1
    obtain ⟨u0, u1, u2, u3⟩ := part_up_bd n0 p0 p1
    obtain ⟨v0, v1, -, -⟩ := part_up_bd (p := 1000000000 - p) n0 (by omega) (by omega)
    have e1 : (partI n p false + partI n (1000000000 - p) true == n) = true := beq_iff_eq.2 part_sum
    go_enter Try.func5, Try.ntmps5
    go_wp2_with (first | (go_at_call 14; refine (law_in _ _ _).mono ?_; rintro e w' ⟨rfl, rfl⟩) | (go_at_call 15; refine (per_Part _ _ _ _ n0 n1 (by omega) (by omega)).mono ?_; rintro e w' ⟨rfl, rfl⟩) | (go_at_call 19; refine (known_yes _).mono ?_; rintro e w2 ⟨rfl, hb2⟩))
    go_ret
    exact ⟨rfl, hb2⟩
  · go_enter Try.func5, Try.ntmps5
    go_wp2_with (go_at_call 14; refine (law_in _ _ _).mono ?_; rintro e w' ⟨rfl, rfl⟩)
    all_goals first | (go_ret; exact ⟨rfl, Below.refl _ _⟩) | (exfalso; simp_all; done)

theorem perRatios_walk (a b t : Int) (_w0 : (Lit.int .i64 a).wf = true) (_w1 : (Lit.int .i64 b).wf = true) (_w2 : (Lit.int .i64 t).wf = true) (w : World) :
    Calls Try.prog 6 #[.int .i64 a, .int .i64 b, .int .i64 t] w fun e w' => e = .returned (.bool true) ∧ Below w.heap.size w w' := by
  by_cases h0 : inB a 8589934592 = true ∧ inB b 8589934592 = true ∧ inB t 1000000000 = true ∧ ¬ b = 0
  · obtain ⟨h0, h1, h2, hb⟩ := h0
    obtain ⟨a0, a1⟩ := inB_out h0
    obtain ⟨b0, b1⟩ := inB_out h1
    obtain ⟨t0, t1⟩ := inB_out h2
    obtain ⟨m0, m1⟩ := mul_bd t0 t1 b0 b1 (by omega)
    obtain ⟨r0, r1⟩ := ratio_bd a0 b0
    have hb' : (b == 0) = false := by simpa using hb
    have e := ratio_iff (a := a) (b := b) (t := t) (by omega) t1
    clear hb
    by_cases hr : t ≤ ratioI a b
    · have h4 := e.1 hr
      clear e
      go_enter Try.func6, Try.ntmps6
      go_wp2_with (first | (go_at_call 14; refine (law_in _ _ _).mono ?_; rintro e w' ⟨rfl, rfl⟩) | (go_at_call 17; refine (per_Ratio _ _ _ a0 a1 b0 b1).mono ?_; rintro e w' ⟨rfl, rfl⟩) | (go_at_call 19; refine (known_yes _).mono ?_; rintro e w2 ⟨rfl, hb2⟩))
      go_ret
      exact ⟨rfl, hb2⟩
    · have h4 : ¬ t * b ≤ a * 1000000000 := fun h => hr (e.2 h)
      clear e
      go_enter Try.func6, Try.ntmps6
      go_wp2_with (first | (go_at_call 14; refine (law_in _ _ _).mono ?_; rintro e w' ⟨rfl, rfl⟩) | (go_at_call 17; refine (per_Ratio _ _ _ a0 a1 b0 b1).mono ?_; rintro e w' ⟨rfl, rfl⟩) | (go_at_call 19; refine (known_yes _).mono ?_; rintro e w2 ⟨rfl, hb2⟩))
      go_ret
      exact ⟨rfl, hb2⟩
  · go_enter Try.func6, Try.ntmps6
    go_wp2_with (go_at_call 14; refine (law_in _ _ _).mono ?_; rintro e w' ⟨rfl, rfl⟩)
    all_goals first | (go_ret; exact ⟨rfl, Below.refl _ _⟩) | (exfalso; simp_all; done)

theorem perWhole_walk (n m : Int) (_w0 : (Lit.int .i64 n).wf = true) (_w1 : (Lit.int .i64 m).wf = true) (w : World) :
    Calls Try.prog 10 #[.int .i64 n, .int .i64 m] w fun e w' => e = .returned (.bool true) ∧ Below w.heap.size w w' := by
  by_cases h0 : inB n 8589934592 = true ∧ inB m 8589934592 = true
  · obtain ⟨h0, h1⟩ := h0
    obtain ⟨n0, n1⟩ := inB_out h0
    obtain ⟨m0, m1⟩ := inB_out h1
    have e1 : partI n 1000000000 false = n := part_all _
    have e2 : partI n 1000000000 true = n := part_all _
    have e3 : partI n 0 true = 0 := part_none _
    have e4 : ratioI n 0 = 0 := rfl
    have e5 := ratio_self n0
    obtain ⟨r0, r1⟩ := ratio_bd n0 m0
    obtain ⟨r2, r3⟩ := ratio_bd m0 n0
    by_cases hn : 0 < n
    · rw [if_pos hn] at e5
      by_cases hm : n < m
      · go_enter Try.func10, Try.ntmps10
        go_wp2_with (first | (go_at_call 14; refine (law_in _ _ _).mono ?_; rintro e w' ⟨rfl, rfl⟩) | (go_at_call 15; refine (per_Part _ _ _ _ n0 n1 (by omega) (by omega)).mono ?_; rintro e w' ⟨rfl, rfl⟩) | (go_at_call 17; refine (per_Ratio _ _ _ (by omega) (by omega) (by omega) (by omega)).mono ?_; rintro e w' ⟨rfl, rfl⟩) | (go_at_call 19; refine (known_yes _).mono ?_; rintro e w2 ⟨rfl, hb2⟩))
        go_ret
        exact ⟨rfl, hb2⟩
      · go_enter Try.func10, Try.ntmps10
        go_wp2_with (first | (go_at_call 14; refine (law_in _ _ _).mono ?_; rintro e w' ⟨rfl, rfl⟩) | (go_at_call 15; refine (per_Part _ _ _ _ n0 n1 (by omega) (by omega)).mono ?_; rintro e w' ⟨rfl, rfl⟩) | (go_at_call 17; refine (per_Ratio _ _ _ (by omega) (by omega) (by omega) (by omega)).mono ?_; rintro e w' ⟨rfl, rfl⟩) | (go_at_call 19; refine (known_yes _).mono ?_; rintro e w2 ⟨rfl, hb2⟩))
        all_goals
          go_ret
          exact ⟨rfl, hb2⟩
    · obtain rfl : n = 0 := by omega
      clear e5 hn n0 n1
      have e5 : ratioI m 0 = 0 := rfl
      by_cases hm : 0 < m
      · go_enter Try.func10, Try.ntmps10
        go_wp2_with (first | (go_at_call 14; refine (law_in _ _ _).mono ?_; rintro e w' ⟨rfl, rfl⟩) | (go_at_call 15; refine (per_Part _ _ _ _ (by omega) (by omega) (by omega) (by omega)).mono ?_; rintro e w' ⟨rfl, rfl⟩) | (go_at_call 17; refine (per_Ratio _ _ _ (by omega) (by omega) (by omega) (by omega)).mono ?_; rintro e w' ⟨rfl, rfl⟩) | (go_at_call 19; refine (known_yes _).mono ?_; rintro e w2 ⟨rfl, hb2⟩))
        all_goals
          go_ret
          exact ⟨rfl, hb2⟩
      · obtain rfl : m = 0 := by omega
        go_enter Try.func10, Try.ntmps10
        go_wp2_with (first | (go_at_call 14; refine (law_in _ _ _).mono ?_; rintro e w' ⟨rfl, rfl⟩) | (go_at_call 15; refine (per_Part _ _ _ _ (by omega) (by omega) (by omega) (by omega)).mono ?_; rintro e w' ⟨rfl, rfl⟩) | (go_at_call 17; refine (per_Ratio _ _ _ (by omega) (by omega) (by omega) (by omega)).mono ?_; rintro e w' ⟨rfl, rfl⟩) | (go_at_call 19; refine (known_yes _).mono ?_; rintro e w2 ⟨rfl, hb2⟩))
        all_goals
          go_ret
          exact ⟨rfl, hb2⟩
  · go_enter Try.func10, Try.ntmps10
    go_wp2_with (go_at_call 14; refine (law_in _ _ _).mono ?_; rintro e w' ⟨rfl, rfl⟩)
    all_goals first | (go_ret; exact ⟨rfl, Below.refl _ _⟩) | (exfalso; simp_all; done)

end Go.Proofs.Ytnboghkdhfpfnaa
