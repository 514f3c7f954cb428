/-
  The walk of compact's law of sizes.
-/
import Derived.Test.YtioleibcekobeaaCom8
namespace Go.Proofs.Ytioleibcekobeaa
open Go.RowKit
set_option linter.unusedVariables false

theorem kN_mono {a b : Nat} (h : a ≤ b) : kN a ≤ kN b := by
  unfold kN
  split
  · split <;> (try split) <;> (try split) <;> (try split) <;> omega
  split
  · split <;> (try split) <;> (try split) <;> (try split) <;> omega
  split
  · split <;> (try split) <;> (try split) <;> (try split) <;> omega
  split
  · split <;> (try split) <;> (try split) <;> (try split) <;> omega
  · split <;> (try split) <;> (try split) <;> (try split) <;> omega
theorem sizeN_mono {a b : Nat} (h : a ≤ b) : sizeN a ≤ sizeN b := by
  have ka := kN_ge a
  have kb := kN_ge b
  have hk := kN_mono h
  unfold sizeN
  split
  · split <;> (try split) <;> (try split) <;> omega
  split
  · split <;> (try split) <;> (try split) <;> omega
  split
  · split <;> (try split) <;> (try split) <;> omega
  · split <;> (try split) <;> (try split) <;> omega
theorem heldN_mono {a b : Int} (h : a ≤ b) : heldN a ≤ heldN b := by unfold heldN; omega
theorem fit_i64 {n : Int} (h : (Lit.int .i64 n).wf = true) : -9223372036854775808 ≤ n ∧ n ≤ 9223372036854775807 := by
  simp [Lit.wf, IntKind.min, IntKind.max, IntKind.signed, IntKind.bits] at h
  omega

set_option maxHeartbeats 2000000 in
theorem compactSizes_walk (n m : Int) (w0 : (Lit.int .i64 n).wf = true) (w1 : (Lit.int .i64 m).wf = true) (w : World) :
    Calls Try.prog 4 #[.int .i64 n, .int .i64 m] w fun e w' => e = .returned (.bool true) ∧ Below w.heap.size w w' := by
  obtain ⟨n0, n1⟩ := fit_i64 w0
  obtain ⟨m0, m1⟩ := fit_i64 w1
  obtain ⟨a, ha⟩ : ∃ a, a = min n m := ⟨_, rfl⟩
  obtain ⟨b, hb⟩ : ∃ b, b = max n m := ⟨_, rfl⟩
  have hab : a ≤ b := by omega
  have sa := compact_Size a
  have sb := compact_Size b
  have sn := compact_Size n
  obtain ⟨x, hx⟩ : ∃ x, x = sizeN (heldN a) := ⟨_, rfl⟩
  obtain ⟨y, hy⟩ : ∃ y, y = sizeN (heldN b) := ⟨_, rfl⟩
  obtain ⟨z, hz⟩ : ∃ z, z = sizeN (heldN n) := ⟨_, rfl⟩
  have hxy : x ≤ y := by rw [hx, hy]; exact sizeN_mono (heldN_mono hab)
  have x1 := (sizeN_le (heldN a)).1
  have y9 := (sizeN_le (heldN b)).2
  rw [← hx] at x1 sa
  rw [← hy] at y9 sb
  rw [← hz] at sn
  have la := numL_size (heldN a)
  rw [← hx] at la
  have ln : (numsL [n]).length = z := by rw [hz]; simp [numsL, numL_size]
  have na := ref_Num a
  have g1 : ((x : Int) == (x : Int)) = true := by simp
  have g2 : decide ((x : Int) ≤ (y : Int)) = true := by simp; omega
  have g3 : decide ((1 : Int) ≤ (x : Int)) = true := by simp; omega
  have g4 : decide ((y : Int) ≤ (9 : Int)) = true := by simp; omega
  have ea : min n m = a := ha.symm
  have eb : max n m = b := hb.symm
  have HX := Lib.hid hx.symm
  have HY := Lib.hid hy.symm
  have HZ := Lib.hid hz.symm
  have NA := Lib.hid na
  have LA := Lib.hid la
  have LN := Lib.hid ln
  clear sa sb sn na la ln ha hb hx hy hz w0 w1
  go_enter Try.func4, Try.ntmps4
  go_wp2_with (first | (go_at_call 21; refine (compact_Size _ _ (by omega)).mono ?_; simp only [HX.out, HY.out, HZ.out]; rintro e w' ⟨rfl, rfl⟩) | (go_at_call 22; refine (ref_Num _ _).mono ?_; rintro e w1 ⟨v1, rfl, ho1, hb1, hs1⟩; have hl := ho1.reads.lenOf; rw [LA.out] at hl; obtain ⟨ao1, cap1, rfl⟩ := hl) | (go_at_call 13; refine (compact_Put _ _ [] [n] _ (rdB_nil _) (rdI_lit _ [n] _ _ (by intro i hi; match i, hi with | 0, _ => rfl)) (by simp) (by simp)).mono ?_; rw [List.nil_append]; rintro e w2 ⟨v2, rfl, ho2, hb2, hs2⟩; have hl := ho2.reads.lenOf; rw [LN.out] at hl; obtain ⟨ao2, cap2, rfl⟩ := hl) | (go_at_call 20; refine (known_calls _).mono ?_; rintro e w3 ⟨rfl, hb3⟩) | fail)
  go_ret
  have hs2' : w1.heap.size + 1 ≤ w2.heap.size := by simpa using hs2
  exact ⟨rfl, ((hb1.alloc hs1 _).trans (hb2.mono (by simp; omega))).trans (hb3.mono (by omega))⟩

end Go.Proofs.Ytioleibcekobeaa
