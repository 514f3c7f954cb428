/-
  The laws on a curve's delay, and on every answer of any curve.
-/
import Derived.Test.YtnboghkdhfpfnaaPer9
namespace Go.Proofs.Ytnboghkdhfpfnaa
open Go.RowKit
set_option linter.unusedVariables false

theorem delay_exists_at {k a b c d y : Int} : ∀ n : Nat, (n : Int) < 1000000000 → atI k a b c d n ≤ y → ∃ r, IsDelay k a b c d y r := by
  intro n
  induction n using Nat.strongRecOn with
  | ind n ih =>
    intro hn ha
    by_cases h : ∃ m : Nat, m < n ∧ atI k a b c d m ≤ y
    · obtain ⟨m, hm, hma⟩ := h
      exact ih m hm (by omega) hma
    · refine ⟨n, by omega, by omega, fun x x0 x1 => ?_, fun _ => ha⟩
      apply Int.not_le.1
      intro hx
      exact h ⟨x.toNat, by omega, by rw [Int.toNat_of_nonneg x0]; exact hx⟩

theorem delay_is (k a b c d y : Int) : IsDelay k a b c d y (delayI k a b c d y) := by
  have : ∃ r, IsDelay k a b c d y r := by
    by_cases h : ∃ m : Nat, (m : Int) < 1000000000 ∧ atI k a b c d m ≤ y
    · obtain ⟨m, hm, hma⟩ := h
      exact delay_exists_at m hm hma
    · refine ⟨1000000000, by omega, by omega, fun x x0 x1 => ?_, fun h => by omega⟩
      apply Int.not_le.1
      intro hx
      exact h ⟨x.toNat, by omega, by rw [Int.toNat_of_nonneg x0]; exact hx⟩
  exact Classical.epsilon_spec this

set_option maxHeartbeats 1000000 in
theorem perDelays_yes (k a b c d y x : Int) (hi : isB k a b c d = true) (w : World) :
    Calls Try.prog 8 #[curve k a b c d, .int .i64 y, .int .i64 x] w fun e w' => e = .returned (.bool true) ∧ Below w.heap.size w w' := by
  obtain ⟨r0, r1, h1, h2⟩ := delay_is k a b c d y
  have hin : inB (delayI k a b c d y) 1000000000 = true := by simp [inB, r0, r1]
  have q1 : (decide (atI k a b c d 1000000000 ≤ y) = true ∧ decide (y < atI k a b c d (delayI k a b c d y)) = false) ∨ decide (atI k a b c d 1000000000 ≤ y) = false := by
    by_cases hB : atI k a b c d 1000000000 ≤ y
    · left
      refine ⟨by simpa using hB, ?_⟩
      by_cases hd : delayI k a b c d y < 1000000000
      · have := h2 hd; simp; omega
      · rw [show delayI k a b c d y = 1000000000 by omega]; simp; omega
    · right; simpa using hB
  have q2 : decide (x < 0) = true ∨ (decide (x < 0) = false ∧ decide (delayI k a b c d y ≤ x) = true) ∨ (decide (x < 0) = false ∧ decide (delayI k a b c d y ≤ x) = false ∧ decide (y < atI k a b c d x) = true) := by
    by_cases hx : x < 0
    · left; simpa using hx
    · right
      by_cases hd : delayI k a b c d y ≤ x
      · left; exact ⟨by simp; omega, by simpa using hd⟩
      · right; exact ⟨by simp; omega, by simp; omega, by simpa using h1 x (by omega) (by omega)⟩
  clear h1 h2
  rcases q1 with ⟨qa, qb⟩ | qa <;> rcases q2 with qc | ⟨qc, qd⟩ | ⟨qc, qd, qe⟩
  all_goals
    go_enter Try.func8, Try.ntmps8
    go_wp2_with (first | (go_at_call 20; refine (ref_Is _ _ _ _ _ _).mono ?_; rintro e w1 ⟨rfl, hb1⟩; have B := Boxed.new.below hb1; clear hb1; obtain ⟨c0, c1, c2, c3, c4⟩ := B.all) | (go_at_call 24; refine (per_Delay _ _ _ _ _ _ _ hi).mono ?_; rintro e w2 ⟨rfl, hb2⟩; have B2 := B.below hb2; clear hb2 c0 c1 c2 c3 c4 B; have B := B2; clear B2; obtain ⟨c0, c1, c2, c3, c4⟩ := B.all) | (go_at_call 14; refine (law_in _ _ _).mono ?_; rintro e w' ⟨rfl, rfl⟩) | (go_at_call 22; refine (per_At _ _ _ _ _ _ _ hi).mono ?_; rintro e w3 ⟨rfl, hb3⟩; have B3 := B.below hb3; clear hb3 c0 c1 c2 c3 c4 B; have B := B3; clear B3; obtain ⟨c0, c1, c2, c3, c4⟩ := B.all) | (go_at_call 19; refine (known_yes _).mono ?_; rintro e w3 ⟨rfl, hb3⟩; have B3 := B.below hb3) | fail)
    go_ret
    exact ⟨rfl, B3.old⟩

theorem perDelays_walk (k a b c d y x : Int) (_w0 : (Lit.int .i64 k).wf = true) (_w1 : (Lit.int .i64 a).wf = true) (_w2 : (Lit.int .i64 b).wf = true) (_w3 : (Lit.int .i64 c).wf = true) (_w4 : (Lit.int .i64 d).wf = true) (_w5 : (Lit.int .i64 y).wf = true) (_w6 : (Lit.int .i64 x).wf = true) (w : World) :
    Calls Try.prog 8 #[curve k a b c d, .int .i64 y, .int .i64 x] w fun e w' => e = .returned (.bool true) ∧ Below w.heap.size w w' := by
  by_cases hi : isB k a b c d = true
  · exact perDelays_yes k a b c d y x hi w
  · have hi' : isB k a b c d = false := by simpa using hi
    clear hi
    go_enter Try.func8, Try.ntmps8
    go_wp2_with (go_at_call 20; refine (ref_Is _ _ _ _ _ _).mono ?_; rintro e w1 ⟨rfl, hb1⟩)
    go_ret
    exact ⟨rfl, below_box hb1⟩

set_option maxHeartbeats 1000000 in
theorem perCurves_yes (k a b c d x y : Int) (hi : isB k a b c d = true) (w : World) :
    Calls Try.prog 4 #[curve k a b c d, .int .i64 x, .int .i64 y] w fun e w' => e = .returned (.bool true) ∧ Below w.heap.size w w' := by
  go_enter Try.func4, Try.ntmps4
  go_wp2_with (go_at_call 20; refine (ref_Is _ _ _ _ _ _).mono ?_; rintro e w1 ⟨rfl, hb1⟩)
  have B1 := Boxed.new.below hb1
  clear hb1
  go_region_held3 (fun w' => w'.cell? ⟨w.heap.size, 0, none⟩ = some (.int .i64 k) ∧ w'.cell? ⟨w.heap.size, 1, none⟩ = some (.int .i64 a) ∧ w'.cell? ⟨w.heap.size, 2, none⟩ = some (.int .i64 b) ∧ w'.cell? ⟨w.heap.size, 3, none⟩ = some (.int .i64 c) ∧ w'.cell? ⟨w.heap.size, 4, none⟩ = some (.int .i64 d)) (first | exact B1.all | exact B2.all | exact B3.all | exact B4.all | exact B5.all | exact B6.all | exact B7.all) (first | (go_at_call 21; refine (per_Is _ _ _ _ _ _).mono ?_; rintro e wn ⟨rfl, hbn⟩; have B2 := B1.drew.below hbn) | (go_at_call 22; refine (per_At _ _ _ _ _ _ _ hi).mono ?_; rintro e wn ⟨rfl, hbn⟩; have B3 := B2.below hbn) | (go_at_call 23; refine (ref_At _ _ _ _ _ _ _ hi).mono ?_; rintro e wn ⟨rfl, hbn⟩; have B4 := B3.below hbn) | (go_at_call 24; refine (per_Delay _ _ _ _ _ _ _ hi).mono ?_; rintro e wn ⟨rfl, hbn⟩; have B5 := B4.below hbn) | (go_at_call 25; refine (ref_Delay _ _ _ _ _ _ _ hi).mono ?_; rintro e wn ⟨rfl, hbn⟩; have B6 := B5.below hbn) | (go_at_call 19; refine (known_yes _).mono ?_; rintro e wn ⟨rfl, hbn⟩; have B7 := B6.below hbn) | fail)
  all_goals go_wp2
  all_goals go_ret
  all_goals exact ⟨rfl, B7.old⟩

theorem perCurves_walk (k a b c d x y : Int) (_w0 : (Lit.int .i64 k).wf = true) (_w1 : (Lit.int .i64 a).wf = true) (_w2 : (Lit.int .i64 b).wf = true) (_w3 : (Lit.int .i64 c).wf = true) (_w4 : (Lit.int .i64 d).wf = true) (_w5 : (Lit.int .i64 x).wf = true) (_w6 : (Lit.int .i64 y).wf = true) (w : World) :
    Calls Try.prog 4 #[curve k a b c d, .int .i64 x, .int .i64 y] w fun e w' => e = .returned (.bool true) ∧ Below w.heap.size w w' := by
  by_cases hi : isB k a b c d = true
  · exact perCurves_yes k a b c d x y hi w
  · have hi' : isB k a b c d = false := by simpa using hi
    clear hi
    go_enter Try.func4, Try.ntmps4
    go_wp2_with (first | (go_at_call 20; refine (ref_Is _ _ _ _ _ _).mono ?_; rintro e w1 ⟨rfl, hb1⟩; have B := Boxed.new.below hb1; clear hb1; obtain ⟨c0, c1, c2, c3, c4⟩ := B.all) | (go_at_call 21; refine (per_Is _ _ _ _ _ _).mono ?_; rintro e w2 ⟨rfl, hb2⟩; have B2 := B.below hb2) | (go_at_call 19; refine (known_yes _).mono ?_; rintro e w3 ⟨rfl, hb3⟩; have B3 := B2.below hb3) | fail)
    go_ret
    exact ⟨rfl, B3.old⟩

end Go.Proofs.Ytnboghkdhfpfnaa
