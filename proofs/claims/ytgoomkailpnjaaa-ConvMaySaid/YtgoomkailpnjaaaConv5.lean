/-
  The laws on what balances weigh together, and on votes of no kind.
-/
import Derived.Test.YtgoomkailpnjaaaConv2
namespace Go.Proofs.Ytgoomkailpnjaaa
open Go.RowKit
set_option linter.unusedVariables false

theorem sums_math {a b l : Int} (a0 : 0 ≤ a) (b0 : 0 ≤ b) (l0 : 0 < l) : votesI (a + b) l = votesI a l + votesI b l := by
  unfold votesI; rw [if_neg (by omega), if_neg (by omega), if_neg (by omega), Int.add_mul]
theorem sums_zero {a b : Int} : votesI a 0 + votesI b 0 ≤ votesI (a + b) 0 ∧ votesI (a + b) 0 ≤ votesI a 0 + votesI b 0 + 1 := by
  simp [votesI]; omega
theorem sums_tens {a : Int} : votesI (10 * (a / 10)) 0 = a / 10 := by simp [votesI]

set_option maxHeartbeats 1000000 in
theorem convSums_walk (a b l : Int) (_w0 : (Lit.int .i64 a).wf = true) (_w1 : (Lit.int .i64 b).wf = true) (_w2 : (Lit.int .i64 l).wf = true) (w : World) :
    Calls Try.prog 9 #[.int .i64 a, .int .i64 b, .int .i64 l] w fun e w' => e = .returned (.bool true) ∧ Below w.heap.size w w' := by
  by_cases h0 : inB a 4294967296 = true ∧ inB b 4294967296 = true ∧ inB l 6 = true
  · obtain ⟨h0, h1, h2⟩ := h0
    obtain ⟨a0, a1⟩ := inB_out h0
    obtain ⟨b0, b1⟩ := inB_out h1
    obtain ⟨l0, l1⟩ := inB_out h2
    obtain ⟨q0, q1⟩ := votes_bd a0 l0
    obtain ⟨r0, r1⟩ := votes_bd b0 l0
    obtain ⟨m0, m1⟩ := mul_bd a0 a1 (show 0 ≤ l + 1 by omega) (show l + 1 ≤ 7 by omega) (by omega)
    obtain ⟨k0, k1⟩ := mul_bd b0 b1 (show 0 ≤ l + 1 by omega) (show l + 1 ≤ 7 by omega) (by omega)
    have Q1 : votesI a l ≤ 30064771072 := by omega
    have R1 : votesI b l ≤ 30064771072 := by omega
    clear q1 r1 m0 m1 k0 k1
    by_cases hl : l = 0
    · subst hl
      obtain ⟨s0, s1⟩ := sums_zero (a := a) (b := b)
      have s2 := sums_tens (a := a)
      go_enter Try.func9, Try.ntmps9
      go_wp2_with (first | (go_at_call 18; refine (law5_in _ _ _).mono ?_; rintro e w' ⟨rfl, rfl⟩) | (go_at_call 19; refine (conv_Votes _ _ _ (by omega) (by omega) (by omega) (by omega)).mono ?_; rintro e w' ⟨rfl, rfl⟩) | (go_at_call 23; refine (known5 _).mono ?_; rintro e w' ⟨rfl, rfl⟩) | fail)
      go_ret
      exact ⟨rfl, Below.refl _ _⟩
    · have s0 := sums_math (l := l) a0 b0 (by omega)
      have hl' : (l == 0) = false := by simpa using hl
      go_enter Try.func9, Try.ntmps9
      go_wp2_with (first | (go_at_call 18; refine (law5_in _ _ _).mono ?_; rintro e w' ⟨rfl, rfl⟩) | (go_at_call 19; refine (conv_Votes _ _ _ (by omega) (by omega) (by omega) (by omega)).mono ?_; rintro e w' ⟨rfl, rfl⟩) | (go_at_call 23; refine (known5 _).mono ?_; rintro e w' ⟨rfl, rfl⟩) | fail)
      go_ret
      exact ⟨rfl, Below.refl _ _⟩
  · have H0 := Lib.hid h0
    clear h0
    go_enter Try.func9, Try.ntmps9
    go_wp2_with (go_at_call 18; refine (law5_in _ _ _).mono ?_; rintro e w' ⟨rfl, rfl⟩)
    all_goals first | (go_ret; exact ⟨rfl, Below.refl _ _⟩) | (exfalso; have h0 := H0.out; simp_all; done)

theorem voteB_small {k l a n s : Int} {aye : Bool} (a0 : 0 ≤ a) (a1 : a ≤ 268435456) (n0 : 0 ≤ n) (n1 : n ≤ 268435456) (s0 : 0 ≤ s) (s1 : s ≤ 268435456) : voteB k aye l a n s = shapedB k aye l n s := by
  have w1 : withinB a 0 1073741824 = true := by simp [withinB]; omega
  have w2 : withinB n 0 1073741824 = true := by simp [withinB]; omega
  have w3 : withinB s 0 1073741824 = true := by simp [withinB]; omega
  have w4 : withinB (a + n + s) 0 1073741824 = true := by simp [withinB]; omega
  simp [voteB, w1, w2, w3, w4]

set_option maxHeartbeats 1000000 in
theorem convKinds_yes (k l a n s : Int) (aye : Bool) (a0 : 0 ≤ a) (a1 : a ≤ 268435456) (n0 : 0 ≤ n) (n1 : n ≤ 268435456) (s0 : 0 ≤ s) (s1 : s ≤ 268435456) (w : World) :
    Calls Try.prog 10 #[.int .i64 k, .int .i64 l, .int .i64 a, .int .i64 n, .int .i64 s, .bool aye] w fun e w' => e = .returned (.bool true) ∧ Below w.heap.size w w' := by
  have E : voteB k aye l a n s = shapedB k aye l n s := voteB_small a0 a1 n0 n1 s0 s1
  have i1 : inB a 268435456 = true := by simp [inB, a0, a1]
  have i2 : inB n 268435456 = true := by simp [inB, n0, n1]
  have i3 : inB s 268435456 = true := by simp [inB, s0, s1]
  have E1 := Lib.hid E
  clear E
  have hk : k = 1 ∨ k = 2 ∨ k = 3 ∨ (k ≠ 1 ∧ k ≠ 2 ∧ k ≠ 3) := by omega
  rcases hk with rfl | rfl | rfl | ⟨k1, k2, k3⟩
  · have hc : l < 0 ∨ 6 < l ∨ (0 ≤ l ∧ l ≤ 6 ∧ ¬ n = 0) ∨ (0 ≤ l ∧ l ≤ 6 ∧ n = 0 ∧ ¬ s = 0) ∨ (0 ≤ l ∧ l ≤ 6 ∧ n = 0 ∧ s = 0) := by omega
    rcases hc with hl | hl | ⟨hl, hl', hn⟩ | ⟨hl, hl', rfl, hs⟩ | ⟨hl, hl', rfl, rfl⟩
    · have E2 : voteB 1 aye l a n s = false := by rw [E1.out]; simp [shapedB, withinB]; omega
      go_enter Try.func10, Try.ntmps10
      go_wp2_with (first | (go_at_call 18; refine (law5_in _ _ _).mono ?_; rintro e w' ⟨rfl, rfl⟩) | (go_at_call 25; refine (conv_Is _ _ _ _ _ _ _).mono ?_; rintro e w1 ⟨rfl, hb1⟩) | (go_at_call 23; refine (known5 _).mono ?_; rintro e w' ⟨rfl, rfl⟩) | fail)
      go_ret
      exact ⟨rfl, by first | exact hb1 | exact below_box hb1⟩
    · have E2 : voteB 1 aye l a n s = false := by rw [E1.out]; simp [shapedB, withinB]; omega
      have g : 0 ≤ l := by omega
      go_enter Try.func10, Try.ntmps10
      go_wp2_with (first | (go_at_call 18; refine (law5_in _ _ _).mono ?_; rintro e w' ⟨rfl, rfl⟩) | (go_at_call 25; refine (conv_Is _ _ _ _ _ _ _).mono ?_; rintro e w1 ⟨rfl, hb1⟩) | (go_at_call 23; refine (known5 _).mono ?_; rintro e w' ⟨rfl, rfl⟩) | fail)
      go_ret
      exact ⟨rfl, by first | exact hb1 | exact below_box hb1⟩
    · have E2 : voteB 1 aye l a n s = false := by rw [E1.out]; simp [shapedB, hn]
      have g : (n == 0) = false := by simpa using hn
      go_enter Try.func10, Try.ntmps10
      go_wp2_with (first | (go_at_call 18; refine (law5_in _ _ _).mono ?_; rintro e w' ⟨rfl, rfl⟩) | (go_at_call 25; refine (conv_Is _ _ _ _ _ _ _).mono ?_; rintro e w1 ⟨rfl, hb1⟩) | (go_at_call 23; refine (known5 _).mono ?_; rintro e w' ⟨rfl, rfl⟩) | fail)
      go_ret
      exact ⟨rfl, by first | exact hb1 | exact below_box hb1⟩
    · have E2 : voteB 1 aye l a 0 s = false := by rw [E1.out]; simp [shapedB, hs]
      have g : (s == 0) = false := by simpa using hs
      go_enter Try.func10, Try.ntmps10
      go_wp2_with (first | (go_at_call 18; refine (law5_in _ _ _).mono ?_; rintro e w' ⟨rfl, rfl⟩) | (go_at_call 25; refine (conv_Is _ _ _ _ _ _ _).mono ?_; rintro e w1 ⟨rfl, hb1⟩) | (go_at_call 23; refine (known5 _).mono ?_; rintro e w' ⟨rfl, rfl⟩) | fail)
      go_ret
      exact ⟨rfl, by first | exact hb1 | exact below_box hb1⟩
    · have E2 : voteB 1 aye l a 0 0 = true := by rw [E1.out]; simp [shapedB, withinB, hl, hl']
      go_enter Try.func10, Try.ntmps10
      go_wp2_with (first | (go_at_call 18; refine (law5_in _ _ _).mono ?_; rintro e w' ⟨rfl, rfl⟩) | (go_at_call 25; refine (conv_Is _ _ _ _ _ _ _).mono ?_; rintro e w1 ⟨rfl, hb1⟩) | (go_at_call 23; refine (known5 _).mono ?_; rintro e w' ⟨rfl, rfl⟩) | fail)
      go_ret
      exact ⟨rfl, by first | exact hb1 | exact below_box hb1⟩
  · have hc : ¬ l = 0 ∨ (l = 0 ∧ ¬ s = 0) ∨ (l = 0 ∧ s = 0) := by omega
    rcases hc with hl | ⟨rfl, hs⟩ | ⟨rfl, rfl⟩
    · have E2 : voteB 2 aye l a n s = false := by rw [E1.out]; simp [shapedB, hl]
      have g : (l == 0) = false := by simpa using hl
      go_enter Try.func10, Try.ntmps10
      go_wp2_with (first | (go_at_call 18; refine (law5_in _ _ _).mono ?_; rintro e w' ⟨rfl, rfl⟩) | (go_at_call 25; refine (conv_Is _ _ _ _ _ _ _).mono ?_; rintro e w1 ⟨rfl, hb1⟩) | (go_at_call 23; refine (known5 _).mono ?_; rintro e w' ⟨rfl, rfl⟩) | fail)
      go_ret
      exact ⟨rfl, by first | exact hb1 | exact below_box hb1⟩
    · have E2 : voteB 2 aye 0 a n s = false := by rw [E1.out]; simp [shapedB, hs]
      have g : (s == 0) = false := by simpa using hs
      go_enter Try.func10, Try.ntmps10
      go_wp2_with (first | (go_at_call 18; refine (law5_in _ _ _).mono ?_; rintro e w' ⟨rfl, rfl⟩) | (go_at_call 25; refine (conv_Is _ _ _ _ _ _ _).mono ?_; rintro e w1 ⟨rfl, hb1⟩) | (go_at_call 23; refine (known5 _).mono ?_; rintro e w' ⟨rfl, rfl⟩) | fail)
      go_ret
      exact ⟨rfl, by first | exact hb1 | exact below_box hb1⟩
    · cases aye
      · have E2 : voteB 2 false 0 a n 0 = true := by rw [E1.out]; simp [shapedB]
        go_enter Try.func10, Try.ntmps10
        go_wp2_with (first | (go_at_call 18; refine (law5_in _ _ _).mono ?_; rintro e w' ⟨rfl, rfl⟩) | (go_at_call 25; refine (conv_Is _ _ _ _ _ _ _).mono ?_; rintro e w1 ⟨rfl, hb1⟩) | (go_at_call 23; refine (known5 _).mono ?_; rintro e w' ⟨rfl, rfl⟩) | fail)
        go_ret
        exact ⟨rfl, by first | exact hb1 | exact below_box hb1⟩
      · have E2 : voteB 2 true 0 a n 0 = false := by rw [E1.out]; simp [shapedB]
        go_enter Try.func10, Try.ntmps10
        go_wp2_with (first | (go_at_call 18; refine (law5_in _ _ _).mono ?_; rintro e w' ⟨rfl, rfl⟩) | (go_at_call 25; refine (conv_Is _ _ _ _ _ _ _).mono ?_; rintro e w1 ⟨rfl, hb1⟩) | (go_at_call 23; refine (known5 _).mono ?_; rintro e w' ⟨rfl, rfl⟩) | fail)
        go_ret
        exact ⟨rfl, by first | exact hb1 | exact below_box hb1⟩
  · by_cases hl : l = 0
    · subst hl
      cases aye
      · have E2 : voteB 3 false 0 a n s = true := by rw [E1.out]; simp [shapedB]
        go_enter Try.func10, Try.ntmps10
        go_wp2_with (first | (go_at_call 18; refine (law5_in _ _ _).mono ?_; rintro e w' ⟨rfl, rfl⟩) | (go_at_call 25; refine (conv_Is _ _ _ _ _ _ _).mono ?_; rintro e w1 ⟨rfl, hb1⟩) | (go_at_call 23; refine (known5 _).mono ?_; rintro e w' ⟨rfl, rfl⟩) | fail)
        go_ret
        exact ⟨rfl, by first | exact hb1 | exact below_box hb1⟩
      · have E2 : voteB 3 true 0 a n s = false := by rw [E1.out]; simp [shapedB]
        go_enter Try.func10, Try.ntmps10
        go_wp2_with (first | (go_at_call 18; refine (law5_in _ _ _).mono ?_; rintro e w' ⟨rfl, rfl⟩) | (go_at_call 25; refine (conv_Is _ _ _ _ _ _ _).mono ?_; rintro e w1 ⟨rfl, hb1⟩) | (go_at_call 23; refine (known5 _).mono ?_; rintro e w' ⟨rfl, rfl⟩) | fail)
        go_ret
        exact ⟨rfl, by first | exact hb1 | exact below_box hb1⟩
    · have E2 : voteB 3 aye l a n s = false := by rw [E1.out]; simp [shapedB, hl]
      have g : (l == 0) = false := by simpa using hl
      go_enter Try.func10, Try.ntmps10
      go_wp2_with (first | (go_at_call 18; refine (law5_in _ _ _).mono ?_; rintro e w' ⟨rfl, rfl⟩) | (go_at_call 25; refine (conv_Is _ _ _ _ _ _ _).mono ?_; rintro e w1 ⟨rfl, hb1⟩) | (go_at_call 23; refine (known5 _).mono ?_; rintro e w' ⟨rfl, rfl⟩) | fail)
      go_ret
      exact ⟨rfl, by first | exact hb1 | exact below_box hb1⟩
  · have E2 : voteB k aye l a n s = false := by rw [E1.out]; simp [shapedB, k1, k2, k3]
    go_enter Try.func10, Try.ntmps10
    go_wp2_with (first | (go_at_call 18; refine (law5_in _ _ _).mono ?_; rintro e w' ⟨rfl, rfl⟩) | (go_at_call 25; refine (conv_Is _ _ _ _ _ _ _).mono ?_; rintro e w1 ⟨rfl, hb1⟩) | (go_at_call 23; refine (known5 _).mono ?_; rintro e w' ⟨rfl, rfl⟩) | fail)
    go_ret
    exact ⟨rfl, by first | exact hb1 | exact below_box hb1⟩

theorem convKinds_walk (k l a n s : Int) (aye : Bool) (_w0 : (Lit.int .i64 k).wf = true) (_w1 : (Lit.int .i64 l).wf = true) (_w2 : (Lit.int .i64 a).wf = true) (_w3 : (Lit.int .i64 n).wf = true) (_w4 : (Lit.int .i64 s).wf = true) (w : World) :
    Calls Try.prog 10 #[.int .i64 k, .int .i64 l, .int .i64 a, .int .i64 n, .int .i64 s, .bool aye] w fun e w' => e = .returned (.bool true) ∧ Below w.heap.size w w' := by
  by_cases h0 : inB a 268435456 = true ∧ inB n 268435456 = true ∧ inB s 268435456 = true
  · obtain ⟨h0, h1, h2⟩ := h0
    exact convKinds_yes k l a n s aye (inB_out h0).1 (inB_out h0).2 (inB_out h1).1 (inB_out h1).2 (inB_out h2).1 (inB_out h2).2 w
  · have hq : inB a 268435456 = false ∨ (inB a 268435456 = true ∧ inB n 268435456 = false) ∨ (inB a 268435456 = true ∧ inB n 268435456 = true ∧ inB s 268435456 = false) := by
      cases h1 : inB a 268435456 <;> cases h2 : inB n 268435456 <;> cases h3 : inB s 268435456 <;> simp_all
    clear h0
    rcases hq with h1 | ⟨h1, h2⟩ | ⟨h1, h2, h3⟩
    all_goals
      go_enter Try.func10, Try.ntmps10
      go_wp2_with (go_at_call 18; refine (law5_in _ _ _).mono ?_; rintro e w' ⟨rfl, rfl⟩)
      go_ret
      exact ⟨rfl, Below.refl _ _⟩

end Go.Proofs.Ytgoomkailpnjaaa
