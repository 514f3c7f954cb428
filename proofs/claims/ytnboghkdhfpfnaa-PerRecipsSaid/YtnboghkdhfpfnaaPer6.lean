/-
  The laws on each kind of curve by itself.
-/
import Derived.Test.YtnboghkdhfpfnaaPer5
namespace Go.Proofs.Ytnboghkdhfpfnaa
open Go.RowKit
set_option linter.unusedVariables false

theorem recip_math {a b c x : Int} (a0 : 0 ≤ a) (a1 : a ≤ 1000000000) (b0 : 1 ≤ b) (b1 : b ≤ 1000000000) (c0 : 0 ≤ c) (c1 : c ≤ 1000000000) (x0 : 0 ≤ x) (x1 : x ≤ 1000000000) :
    atI 3 a b c 0 x = 0 ∨ atI 3 a b c 0 x = 1000000000 ∨
      (0 < atI 3 a b c 0 x ∧ atI 3 a b c 0 x < 1000000000 ∧ 0 ≤ (atI 3 a b c 0 x + c) * (x + b) ∧ (atI 3 a b c 0 x + c) * (x + b) ≤ a * 1000000000 ∧ a * 1000000000 < (atI 3 a b c 0 x + c + 1) * (x + b) ∧ (atI 3 a b c 0 x + c + 1) * (x + b) ≤ a * 1000000000 + 2000000000) := by
  have e : heldI x = x := by unfold heldI; omega
  rw [at3_eq, e]
  generalize hq : a * 1000000000 / (x + b) = q
  have h1 := Int.mul_ediv_add_emod (a * 1000000000) (x + b)
  have h2 := Int.emod_nonneg (a * 1000000000) (show x + b ≠ 0 by omega)
  have h3 := Int.emod_lt_of_pos (a * 1000000000) (show 0 < x + b by omega)
  rw [hq] at h1
  by_cases z : heldI (q - c) = 0
  · exact .inl z
  by_cases z' : heldI (q - c) = 1000000000
  · exact .inr (.inl z')
  refine .inr (.inr ?_)
  have hy : heldI (q - c) = q - c := by unfold heldI at *; omega
  have hy0 : 0 < q - c ∧ q - c < 1000000000 := by unfold heldI at *; omega
  rw [hy]
  have e1 : q - c + c = q := by omega
  rw [e1]
  have e2 : (q + 1) * (x + b) = (x + b) * q + (x + b) := by rw [Int.add_mul, Int.mul_comm q]; omega
  have e3 : q * (x + b) = (x + b) * q := Int.mul_comm _ _
  rw [e2, e3]
  have h4 := Int.mul_nonneg (show 0 ≤ x + b by omega) (show 0 ≤ q by omega)
  omega

set_option maxHeartbeats 1000000 in
theorem perRecips_walk (a b c x : Int) (_w0 : (Lit.int .i64 a).wf = true) (_w1 : (Lit.int .i64 b).wf = true) (_w2 : (Lit.int .i64 c).wf = true) (_w3 : (Lit.int .i64 x).wf = true) (w : World) :
    Calls Try.prog 12 #[.int .i64 a, .int .i64 b, .int .i64 c, .int .i64 x] w fun e w' => e = .returned (.bool true) ∧ Below w.heap.size w w' := by
  by_cases h0 : (0 ≤ a ∧ a ≤ 1000000000) ∧ (1 ≤ b ∧ b ≤ 1000000000) ∧ (0 ≤ c ∧ c ≤ 1000000000) ∧ (0 ≤ x ∧ x ≤ 1000000000)
  · obtain ⟨⟨a0, a1⟩, ⟨b0, b1⟩, ⟨c0, c1⟩, x0, x1⟩ := h0
    have hi : isB 3 a b c 0 = true := by simp [isB, withinB, a0, a1, b0, b1, c0, c1]
    rcases recip_math a0 a1 b0 b1 c0 c1 x0 x1 with z | z | ⟨z, z', m0, m1, m2, m3⟩
    · go_enter Try.func12, Try.ntmps12
      go_wp2_with (first | (go_at_call 22; refine (per_At _ _ _ _ _ _ _ hi).mono ?_; rintro e w1 ⟨rfl, hb1⟩) | (go_at_call 19; refine (known_yes _).mono ?_; rintro e w2 ⟨rfl, hb2⟩))
      go_ret
      exact ⟨rfl, hb1.trans (hb2.mono hb1.size)⟩
    · go_enter Try.func12, Try.ntmps12
      go_wp2_with (first | (go_at_call 22; refine (per_At _ _ _ _ _ _ _ hi).mono ?_; rintro e w1 ⟨rfl, hb1⟩) | (go_at_call 19; refine (known_yes _).mono ?_; rintro e w2 ⟨rfl, hb2⟩))
      go_ret
      exact ⟨rfl, hb1.trans (hb2.mono hb1.size)⟩
    · have n0 : (atI 3 a b c 0 x == 0) = false := by simp; omega
      have n1 : (atI 3 a b c 0 x == 1000000000) = false := by simp; omega
      go_enter Try.func12, Try.ntmps12
      go_wp2_with (first | (go_at_call 22; refine (per_At _ _ _ _ _ _ _ hi).mono ?_; rintro e w1 ⟨rfl, hb1⟩) | (go_at_call 19; refine (known_yes _).mono ?_; rintro e w2 ⟨rfl, hb2⟩))
      go_ret
      exact ⟨rfl, hb1.trans (hb2.mono hb1.size)⟩
  · have H0 := Lib.hid h0
    clear h0
    go_enter Try.func12, Try.ntmps12
    go_wp2_with fail
    all_goals first | (go_ret; exact ⟨rfl, Below.refl _ _⟩) | (exfalso; have h0 := H0.out; omega)

theorem middle_math {a b c x : Int} (b1 : b ≤ a) (c0 : 1 ≤ c) (c1 : c ≤ 1000000000) (x0 : 0 ≤ x) (x1 : x ≤ c) : atI 1 a b c 0 x = a - (a - b) * x / c := by
  have e : heldI x = x := by unfold heldI; omega
  by_cases h : c ≤ x
  · obtain rfl : x = c := by omega
    rw [at1_end (by omega), Int.mul_ediv_cancel _ (by omega)]; omega
  · rw [at1_mid (by omega), e]

theorem middle_more {a b c x : Int} (a0 : 0 ≤ a) (a1 : a ≤ 1000000000) (b0 : 0 ≤ b) (b1 : b ≤ a) (c0 : 1 ≤ c) (c1 : c ≤ 1000000000) (x0 : 0 ≤ x) (x1 : x ≤ c) :
    0 ≤ (a - atI 1 a b c 0 x) * c ∧ (a - atI 1 a b c 0 x) * c ≤ (a - b) * x ∧ (a - b) * x < (a - atI 1 a b c 0 x + 1) * c ∧ (a - atI 1 a b c 0 x + 1) * c ≤ 2000000000000000000 ∧ 0 ≤ (a - b) * x ∧ (a - b) * x ≤ 1000000000000000000 := by
  rw [middle_math b1 c0 c1 x0 x1]
  obtain ⟨m0, m1⟩ := mul_bd (a := a - b) (b := x) (by omega) (show a - b ≤ 1000000000 by omega) x0 (Int.le_trans x1 c1) (by omega)
  have h1 := Int.mul_ediv_add_emod ((a - b) * x) c
  have h2 := Int.emod_nonneg ((a - b) * x) (show c ≠ 0 by omega)
  have h3 := Int.emod_lt_of_pos ((a - b) * x) (show 0 < c by omega)
  have h4 := Int.ediv_nonneg m0 (show 0 ≤ c by omega)
  generalize (a - b) * x / c = q at *
  have e1 : a - (a - q) = q := by omega
  have e2 : (q + 1) * c = c * q + c := by rw [Int.add_mul, Int.mul_comm q]; omega
  rw [e1, e2, Int.mul_comm q]
  have q0 : 0 ≤ c * q := Int.mul_nonneg (by omega) h4
  omega

set_option maxHeartbeats 1000000 in
theorem perMiddles_walk (a b c x : Int) (_w0 : (Lit.int .i64 a).wf = true) (_w1 : (Lit.int .i64 b).wf = true) (_w2 : (Lit.int .i64 c).wf = true) (_w3 : (Lit.int .i64 x).wf = true) (w : World) :
    Calls Try.prog 13 #[.int .i64 a, .int .i64 b, .int .i64 c, .int .i64 x] w fun e w' => e = .returned (.bool true) ∧ Below w.heap.size w w' := by
  by_cases h0 : (0 ≤ a ∧ a ≤ 1000000000) ∧ (0 ≤ b ∧ b ≤ a) ∧ (1 ≤ c ∧ c ≤ 1000000000) ∧ (0 ≤ x ∧ x ≤ c)
  · obtain ⟨⟨a0, a1⟩, ⟨b0, b1⟩, ⟨c0, c1⟩, x0, x1⟩ := h0
    have hi : isB 1 a b c 0 = true := by simp [isB, fallsB, withinB, a0, a1, b0, b1, c0, c1]
    obtain ⟨y0, y1⟩ := at_bd hi x
    obtain ⟨m0, m1, m2, m3, m4, m5⟩ := middle_more a0 a1 b0 b1 c0 c1 x0 x1
    go_enter Try.func13, Try.ntmps13
    go_wp2_with (first | (go_at_call 22; refine (per_At _ _ _ _ _ _ _ hi).mono ?_; rintro e w1 ⟨rfl, hb1⟩) | (go_at_call 19; refine (known_yes _).mono ?_; rintro e w2 ⟨rfl, hb2⟩))
    go_ret
    exact ⟨rfl, hb1.trans (hb2.mono hb1.size)⟩
  · have H0 := Lib.hid h0
    clear h0
    go_enter Try.func13, Try.ntmps13
    go_wp2_with fail
    all_goals first | (go_ret; exact ⟨rfl, Below.refl _ _⟩) | (exfalso; have h0 := H0.out; omega)

end Go.Proofs.Ytnboghkdhfpfnaa
