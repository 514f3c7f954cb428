/-
  The law on where curves begin and end.
-/
import Derived.Test.YtnboghkdhfpfnaaPer5
import Derived.IntWalk
namespace Go.Proofs.Ytnboghkdhfpfnaa
open Go.RowKit
set_option linter.unusedVariables false

theorem ends1 {a b c d : Int} (hi : isB 1 a b c d = true) : atI 1 a b c d 0 = a ∧ atI 1 a b c d 1000000000 = b ∧ atI 1 a b c d c = b ∧ atI 1 a b c d (-5) = a := by
  obtain ⟨⟨a0, a1⟩, ⟨b0, b1⟩, ⟨c0, c1⟩, -⟩ := is1_out hi
  have h0 : heldI 0 = 0 := by decide
  have h1 : heldI 1000000000 = 1000000000 := by decide
  have h2 : heldI (-5) = 0 := by decide
  have h3 : heldI c = c := by unfold heldI; omega
  refine ⟨?_, at1_end (by omega), at1_end (by omega), ?_⟩
  · rw [at1_mid (by omega), h0]; simp
  · rw [at1_mid (by omega), h2]; simp

theorem ends2 {a b c d : Int} (hi : isB 2 a b c d = true) : atI 2 a b c d 0 = a ∧ b ≤ atI 2 a b c d 1000000000 ∧ atI 2 a b c d (d - 1) = a ∧ atI 2 a b c d d = max b (a - c) := by
  obtain ⟨⟨a0, a1⟩, ⟨b0, b1⟩, ⟨c0, c1⟩, d0, d1⟩ := is2_out hi
  have h0 : heldI 0 = 0 := by decide
  have h3 : heldI d = d := by unfold heldI; omega
  have h4 : heldI (d - 1) = d - 1 := by unfold heldI; omega
  refine ⟨?_, ?_, ?_, ?_⟩
  · rw [at2_eq, h0]; simp; omega
  · rw [at2_eq]; omega
  · rw [at2_eq, h4, Int.ediv_eq_zero_of_lt (by omega) (by omega)]; omega
  · rw [at2_eq, h3, Int.ediv_self (by omega)]; omega

theorem ends3 {a b c d : Int} (hi : isB 3 a b c d = true) : atI 3 a b c d 1000000000 = max 0 (a * 1000000000 / (1000000000 + b) - c) ∧ atI 3 a b c d 1000000000 ≤ atI 3 a b c d 0 := by
  obtain ⟨⟨a0, a1⟩, ⟨b0, b1⟩, ⟨c0, c1⟩, -⟩ := is3_out hi
  have h1 : heldI 1000000000 = 1000000000 := by decide
  refine ⟨?_, at_falls hi (by omega)⟩
  rw [at3_eq, h1]
  have : a * 1000000000 / (1000000000 + b) ≤ 1000000000 := Int.ediv_le_of_le_mul (by omega) (by omega)
  unfold heldI; omega

set_option maxHeartbeats 1000000 in
theorem perEnds1 (a b c d : Int) (hi : isB 1 a b c d = true) (w : World) :
    Calls Try.prog 9 #[curve 1 a b c d] w fun e w' => e = .returned (.bool true) ∧ Below w.heap.size w w' := by
  obtain ⟨e0, e1, e2, e3⟩ := ends1 hi
  go_enter Try.func9, Try.ntmps9
  go_wp2_with (go_at_call 20; refine (ref_Is _ _ _ _ _ _).mono ?_; rintro e w1 ⟨rfl, hb1⟩)
  have B1 := Boxed.new.below hb1
  clear hb1
  go_region_held3 (fun w' => w'.cell? ⟨w.heap.size, 0, none⟩ = some (.int .i64 1) ∧ w'.cell? ⟨w.heap.size, 1, none⟩ = some (.int .i64 a) ∧ w'.cell? ⟨w.heap.size, 2, none⟩ = some (.int .i64 b) ∧ w'.cell? ⟨w.heap.size, 3, none⟩ = some (.int .i64 c) ∧ w'.cell? ⟨w.heap.size, 4, none⟩ = some (.int .i64 d)) (first | exact B1.all | exact B2.all | exact B3.all) (first | (go_at_call 22; refine (per_At _ _ _ _ _ _ _ hi).mono ?_; rintro e wn ⟨rfl, hbn⟩; first | (have B3 := B2.below hbn) | (have B2 := B1.drew.below hbn)))
  obtain ⟨c0, c1, c2, c3, c4⟩ := B3.all
  go_wp2_with fail
  clear c0 c1 c2 c3 c4 B1 B2
  go_region_held3 (fun w' => w'.cell? ⟨w.heap.size, 0, none⟩ = some (.int .i64 1) ∧ w'.cell? ⟨w.heap.size, 1, none⟩ = some (.int .i64 a) ∧ w'.cell? ⟨w.heap.size, 2, none⟩ = some (.int .i64 b) ∧ w'.cell? ⟨w.heap.size, 3, none⟩ = some (.int .i64 c) ∧ w'.cell? ⟨w.heap.size, 4, none⟩ = some (.int .i64 d)) (first | exact B3.all | exact B4.all | exact B5.all | exact B6.all) (first | (go_at_call 22; refine (per_At _ _ _ _ _ _ _ hi).mono ?_; rintro e wn ⟨rfl, hbn⟩; first | (have B5 := B4.below hbn) | (have B4 := B3.drew.below hbn)) | (go_at_call 19; refine (known_yes _).mono ?_; rintro e wn ⟨rfl, hbn⟩; first | (have B6 := B5.below hbn) | (have B6 := B3.drew.below hbn)))
  all_goals go_wp2
  all_goals go_ret
  all_goals exact ⟨rfl, B6.old⟩

set_option maxHeartbeats 1000000 in
theorem perEnds2 (a b c d : Int) (hi : isB 2 a b c d = true) (w : World) :
    Calls Try.prog 9 #[curve 2 a b c d] w fun e w' => e = .returned (.bool true) ∧ Below w.heap.size w w' := by
  obtain ⟨⟨a0, a1⟩, ⟨b0, b1⟩, ⟨c0, c1⟩, d0, d1⟩ := is2_out hi
  obtain ⟨e0, e1, e2, e3⟩ := ends2 hi
  have e4 : (if b < a - c then a - c else b) = max b (a - c) := by omega
  have W1 : IntKind.i64.wrap (d - 1) = d - 1 := IntWalk.i64_in _ (by omega)
  have W2 : IntKind.i64.wrap (a - c) = a - c := IntWalk.i64_in _ (by omega)
  clear a0 a1 b0 b1 c0 c1 d0 d1
  go_enter Try.func9, Try.ntmps9
  go_wp2_with (go_at_call 20; refine (ref_Is _ _ _ _ _ _).mono ?_; rintro e w1 ⟨rfl, hb1⟩)
  have B1 := Boxed.new.below hb1
  clear hb1
  go_region_held3 (fun w' => w'.cell? ⟨w.heap.size, 0, none⟩ = some (.int .i64 2) ∧ w'.cell? ⟨w.heap.size, 1, none⟩ = some (.int .i64 a) ∧ w'.cell? ⟨w.heap.size, 2, none⟩ = some (.int .i64 b) ∧ w'.cell? ⟨w.heap.size, 3, none⟩ = some (.int .i64 c) ∧ w'.cell? ⟨w.heap.size, 4, none⟩ = some (.int .i64 d)) (first | exact B1.all | exact B2.all | exact B3.all) (first | (go_at_call 22; refine (per_At _ _ _ _ _ _ _ hi).mono ?_; rintro e wn ⟨rfl, hbn⟩; first | (have B3 := B2.below hbn) | (have B2 := B1.drew.below hbn)))
  obtain ⟨c0, c1, c2, c3, c4⟩ := B3.all
  go_wp2_with fail
  clear c0 c1 c2 c3 c4 B1 B2
  go_region_held3 (fun w' => w'.cell? ⟨w.heap.size, 0, none⟩ = some (.int .i64 2) ∧ w'.cell? ⟨w.heap.size, 1, none⟩ = some (.int .i64 a) ∧ w'.cell? ⟨w.heap.size, 2, none⟩ = some (.int .i64 b) ∧ w'.cell? ⟨w.heap.size, 3, none⟩ = some (.int .i64 c) ∧ w'.cell? ⟨w.heap.size, 4, none⟩ = some (.int .i64 d)) (first | exact B3.all | exact B4.all | exact B5.all | exact B6.all) (first | (go_at_call 22; refine (per_At _ _ _ _ _ _ _ hi).mono ?_; rintro e wn ⟨rfl, hbn⟩; first | (have B5 := B4.below hbn) | (have B4 := B3.drew.below hbn)) | (go_at_call 19; refine (known_yes _).mono ?_; rintro e wn ⟨rfl, hbn⟩; first | (have B6 := B5.below hbn) | (have B6 := B3.drew.below hbn)))
  all_goals go_wp2
  all_goals go_ret
  all_goals exact ⟨rfl, B6.old⟩

set_option maxHeartbeats 1000000 in
theorem perEnds3 (a b c d : Int) (hi : isB 3 a b c d = true) (w : World) :
    Calls Try.prog 9 #[curve 3 a b c d] w fun e w' => e = .returned (.bool true) ∧ Below w.heap.size w w' := by
  obtain ⟨⟨a0, a1⟩, ⟨b0, b1⟩, ⟨c0, c1⟩, -⟩ := is3_out hi
  obtain ⟨e0, e1⟩ := ends3 hi
  obtain ⟨q0, q1⟩ := div_le_self' (a := a * 1000000000) (b := 1000000000 + b) (by omega) (by omega)
  have e4 : (if c < a * 1000000000 / (1000000000 + b) then a * 1000000000 / (1000000000 + b) - c else 0) = max 0 (a * 1000000000 / (1000000000 + b) - c) := by omega
  have W1 : IntKind.i64.wrap (a * 1000000000) = a * 1000000000 := IntWalk.i64_in _ (by omega)
  have W2 : IntKind.i64.wrap (1000000000 + b) = 1000000000 + b := IntWalk.i64_in _ (by omega)
  have Z1 : (1000000000 + b == 0) = false := by simp; omega
  have Z2 : ¬ (1000000000 + b = 0) := by omega
  have T1 : (a * 1000000000).tdiv (1000000000 + b) = a * 1000000000 / (1000000000 + b) := Int.tdiv_eq_ediv_of_nonneg (by omega)
  have W4 : IntKind.i64.wrap (a * 1000000000 / (1000000000 + b)) = a * 1000000000 / (1000000000 + b) := IntWalk.i64_in _ (by omega)
  have W3 : IntKind.i64.wrap (a * 1000000000 / (1000000000 + b) - c) = a * 1000000000 / (1000000000 + b) - c := IntWalk.i64_in _ (by omega)
  go_enter Try.func9, Try.ntmps9
  go_wp2_with (go_at_call 20; refine (ref_Is _ _ _ _ _ _).mono ?_; rintro e w1 ⟨rfl, hb1⟩)
  have B1 := Boxed.new.below hb1
  clear hb1
  go_region_held3 (fun w' => w'.cell? ⟨w.heap.size, 0, none⟩ = some (.int .i64 3) ∧ w'.cell? ⟨w.heap.size, 1, none⟩ = some (.int .i64 a) ∧ w'.cell? ⟨w.heap.size, 2, none⟩ = some (.int .i64 b) ∧ w'.cell? ⟨w.heap.size, 3, none⟩ = some (.int .i64 c) ∧ w'.cell? ⟨w.heap.size, 4, none⟩ = some (.int .i64 d)) (first | exact B1.all | exact B2.all | exact B3.all) (first | (go_at_call 22; refine (per_At _ _ _ _ _ _ _ hi).mono ?_; rintro e wn ⟨rfl, hbn⟩; first | (have B3 := B2.below hbn) | (have B2 := B1.drew.below hbn)))
  obtain ⟨c0, c1, c2, c3, c4⟩ := B3.all
  go_wp2_with fail
  clear c0 c1 c2 c3 c4 B1 B2
  go_region_held3 (fun w' => w'.cell? ⟨w.heap.size, 0, none⟩ = some (.int .i64 3) ∧ w'.cell? ⟨w.heap.size, 1, none⟩ = some (.int .i64 a) ∧ w'.cell? ⟨w.heap.size, 2, none⟩ = some (.int .i64 b) ∧ w'.cell? ⟨w.heap.size, 3, none⟩ = some (.int .i64 c) ∧ w'.cell? ⟨w.heap.size, 4, none⟩ = some (.int .i64 d)) (first | exact B3.all | exact B4.all | exact B5.all | exact B6.all) (first | (go_at_call 22; refine (per_At _ _ _ _ _ _ _ hi).mono ?_; rintro e wn ⟨rfl, hbn⟩; first | (have B5 := B4.below hbn) | (have B4 := B3.drew.below hbn)) | (go_at_call 19; refine (known_yes _).mono ?_; rintro e wn ⟨rfl, hbn⟩; first | (have B6 := B5.below hbn) | (have B6 := B3.drew.below hbn)))
  all_goals go_wp2
  all_goals go_ret
  all_goals exact ⟨rfl, B6.old⟩


theorem perEnds_walk (k a b c d : Int) (_w0 : (Lit.int .i64 k).wf = true) (_w1 : (Lit.int .i64 a).wf = true) (_w2 : (Lit.int .i64 b).wf = true) (_w3 : (Lit.int .i64 c).wf = true) (_w4 : (Lit.int .i64 d).wf = true) (w : World) :
    Calls Try.prog 9 #[curve k a b c d] w fun e w' => e = .returned (.bool true) ∧ Below w.heap.size w w' := by
  by_cases hi : isB k a b c d = true
  · rcases is_kind hi with rfl | rfl | rfl
    · exact perEnds1 a b c d hi w
    · exact perEnds2 a b c d hi w
    · exact perEnds3 a b c d hi w
  · have hi' : isB k a b c d = false := by simpa using hi
    clear hi
    go_enter Try.func9, Try.ntmps9
    go_wp2_with (go_at_call 20; refine (ref_Is _ _ _ _ _ _).mono ?_; rintro e w1 ⟨rfl, hb1⟩)
    go_ret
    exact ⟨rfl, below_box hb1⟩

end Go.Proofs.Ytnboghkdhfpfnaa
