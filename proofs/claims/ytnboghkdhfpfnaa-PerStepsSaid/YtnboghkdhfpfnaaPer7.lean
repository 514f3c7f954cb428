/-
  The law on stepped curves.
-/
import Derived.Test.YtnboghkdhfpfnaaPer5
import Derived.IntWalk
namespace Go.Proofs.Ytnboghkdhfpfnaa
open Go.RowKit
set_option linter.unusedVariables false

theorem step_math {a b c d k x : Int} (d0 : 1 ≤ d) (k0 : 0 ≤ k) (x0 : 0 ≤ x) (x1 : x < d) (h : k * d + x ≤ 1000000000) : atI 2 a b c d (k * d + x) = max (a - k * c) b := by
  have m := Int.mul_nonneg k0 (show 0 ≤ d by omega)
  have e : heldI (k * d + x) = k * d + x := by unfold heldI; omega
  have e2 : (k * d + x) / d = k := by
    rw [Int.add_comm, Int.add_mul_ediv_right _ _ (show d ≠ 0 by omega), Int.ediv_eq_zero_of_lt x0 x1]; omega
  rw [at2_eq, e, e2, Int.mul_comm c]

set_option maxHeartbeats 1000000 in
theorem perSteps_yes (a b c d k x : Int) (hi : isB 2 a b c d = true) (k0 : 0 ≤ k) (k1 : k ≤ 50) (x0 : 0 ≤ x) (x1 : x < d) (h : k * d + x ≤ 1000000000) (w : World) :
    Calls Try.prog 11 #[.int .i64 a, .int .i64 b, .int .i64 c, .int .i64 d, .int .i64 k, .int .i64 x] w fun e w' => e = .returned (.bool true) ∧ Below w.heap.size w w' := by
  obtain ⟨⟨a0, a1⟩, ⟨b0, b1⟩, ⟨c0, c1⟩, d0, d1⟩ := is2_out hi
  have m0 := Int.mul_nonneg k0 (show 0 ≤ d by omega)
  obtain ⟨n0, n1⟩ := mul_bd k0 k1 (show 0 ≤ c by omega) c1 (by omega)
  have e1 := step_math (a := a) (b := b) (c := c) d0 k0 x0 x1 h
  have e2 := step_math (a := a) (b := b) (c := c) (x := 0) d0 k0 (by omega) (by omega) (by omega)
  rw [Int.add_zero] at e2
  have g0 : decide (a < 0) = false := by simp; omega
  have g1 : decide (1000000000 < a) = false := by simp; omega
  have g2 : decide (b < 0) = false := by simp; omega
  have g3 : decide (a < b) = false := by simp; omega
  have g4 : decide (c < 1) = false := by simp; omega
  have g5 : decide (1000000000 < c) = false := by simp; omega
  have g6 : decide (d < 1) = false := by simp; omega
  have g7 : decide (1000000000 < d) = false := by simp; omega
  have g8 : decide (k < 0) = false := by simp; omega
  have g9 : decide (50 < k) = false := by simp; omega
  have ga : decide (x < 0) = false := by simp; omega
  have gb : decide (d ≤ x) = false := by simp; omega
  have gc : decide (1000000000 < k * d + x) = false := by simp; omega
  by_cases hlt : b < a - k * c
  · rw [show max (a - k * c) b = a - k * c from by omega] at e1 e2
    go_enter Try.func11, Try.ntmps11
    go_wp2_with fail
    have B1 : Boxed w 2 a b c d (w.alloc (.cells #[.int .i64 2, .int .i64 a, .int .i64 b, .int .i64 c, .int .i64 d] 28)) := Boxed.new
    have W1 : IntKind.i64.wrap (k * d) = k * d := IntWalk.i64_in _ (by omega)
    have W2 : IntKind.i64.wrap (k * d + x) = k * d + x := IntWalk.i64_in _ (by omega)
    have W3 : IntKind.i64.wrap (k * c) = k * c := IntWalk.i64_in _ (by omega)
    have W4 : IntKind.i64.wrap (a - k * c) = a - k * c := IntWalk.i64_in _ (by omega)
    go_region_held3 (fun w' => w'.cell? ⟨w.heap.size, 0, none⟩ = some (.int .i64 2) ∧ w'.cell? ⟨w.heap.size, 1, none⟩ = some (.int .i64 a) ∧ w'.cell? ⟨w.heap.size, 2, none⟩ = some (.int .i64 b) ∧ w'.cell? ⟨w.heap.size, 3, none⟩ = some (.int .i64 c) ∧ w'.cell? ⟨w.heap.size, 4, none⟩ = some (.int .i64 d)) (first | exact B1.all | exact B2.all | exact B3.all | exact B4.all | exact B5.all) (first | (go_at_call 22; refine (per_At _ _ _ _ _ _ _ hi).mono ?_; rintro e wn ⟨rfl, hbn⟩; first | (have B4 := B3.below hbn) | (have B3 := B2.below hbn) | (have B2 := B1.drew.below hbn)) | (go_at_call 19; refine (known_yes _).mono ?_; rintro e wn ⟨rfl, hbn⟩; have B5 := B4.below hbn))
    all_goals clear W1 W2 W3 W4
    all_goals go_wp2
    all_goals go_ret
    all_goals exact ⟨rfl, B5.old⟩
  · rw [show max (a - k * c) b = b from by omega] at e1 e2
    have nlt : (if b < a - k * c then a - k * c else b) = b := if_neg hlt
    clear hlt
    go_enter Try.func11, Try.ntmps11
    go_wp2_with fail
    have B1 : Boxed w 2 a b c d (w.alloc (.cells #[.int .i64 2, .int .i64 a, .int .i64 b, .int .i64 c, .int .i64 d] 28)) := Boxed.new
    have W1 : IntKind.i64.wrap (k * d) = k * d := IntWalk.i64_in _ (by omega)
    have W2 : IntKind.i64.wrap (k * d + x) = k * d + x := IntWalk.i64_in _ (by omega)
    have W3 : IntKind.i64.wrap (k * c) = k * c := IntWalk.i64_in _ (by omega)
    have W4 : IntKind.i64.wrap (a - k * c) = a - k * c := IntWalk.i64_in _ (by omega)
    go_region_held3 (fun w' => w'.cell? ⟨w.heap.size, 0, none⟩ = some (.int .i64 2) ∧ w'.cell? ⟨w.heap.size, 1, none⟩ = some (.int .i64 a) ∧ w'.cell? ⟨w.heap.size, 2, none⟩ = some (.int .i64 b) ∧ w'.cell? ⟨w.heap.size, 3, none⟩ = some (.int .i64 c) ∧ w'.cell? ⟨w.heap.size, 4, none⟩ = some (.int .i64 d)) (first | exact B1.all | exact B2.all | exact B3.all | exact B4.all | exact B5.all) (first | (go_at_call 22; refine (per_At _ _ _ _ _ _ _ hi).mono ?_; rintro e wn ⟨rfl, hbn⟩; first | (have B4 := B3.below hbn) | (have B3 := B2.below hbn) | (have B2 := B1.drew.below hbn)) | (go_at_call 19; refine (known_yes _).mono ?_; rintro e wn ⟨rfl, hbn⟩; have B5 := B4.below hbn))
    all_goals clear W1 W2 W3 W4
    all_goals go_wp2
    all_goals go_ret
    all_goals exact ⟨rfl, B5.old⟩

set_option maxHeartbeats 1000000 in
theorem perSteps_walk (a b c d k x : Int) (_w0 : (Lit.int .i64 a).wf = true) (_w1 : (Lit.int .i64 b).wf = true) (_w2 : (Lit.int .i64 c).wf = true) (_w3 : (Lit.int .i64 d).wf = true) (_w4 : (Lit.int .i64 k).wf = true) (_w5 : (Lit.int .i64 x).wf = true) (w : World) :
    Calls Try.prog 11 #[.int .i64 a, .int .i64 b, .int .i64 c, .int .i64 d, .int .i64 k, .int .i64 x] w fun e w' => e = .returned (.bool true) ∧ Below w.heap.size w w' := by
  by_cases hs : 0 ≤ a ∧ a ≤ 1000000000 ∧ 0 ≤ b ∧ b ≤ a ∧ 1 ≤ c ∧ c ≤ 1000000000 ∧ 1 ≤ d ∧ d ≤ 1000000000 ∧ 0 ≤ k ∧ k ≤ 50 ∧ 0 ≤ x ∧ x < d
  · obtain ⟨a0, a1, b0, b1, c0, c1, d0, d1, k0, k1, x0, x1⟩ := hs
    obtain ⟨m0, m1⟩ := mul_bd k0 k1 (show 0 ≤ d by omega) d1 (by omega)
    have hi : isB 2 a b c d = true := by simp [isB, fallsB, withinB, a0, a1, b0, b1, c0, c1, d0, d1]
    by_cases h : k * d + x ≤ 1000000000
    · exact perSteps_yes a b c d k x hi k0 k1 x0 x1 h w
    · have h' : decide (1000000000 < k * d + x) = true := by simp; omega
      clear h hi
      go_enter Try.func11, Try.ntmps11
      go_wp2_with fail
      all_goals first | (go_ret; exact ⟨rfl, Below.refl _ _⟩) | (exfalso; simp at h'; omega)
  · have H0 := Lib.hid hs
    clear hs
    go_enter Try.func11, Try.ntmps11
    go_wp2_with fail
    all_goals first | (go_ret; exact ⟨rfl, Below.refl _ _⟩) | (exfalso; have h0 := H0.out; omega)

end Go.Proofs.Ytnboghkdhfpfnaa
