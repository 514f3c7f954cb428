/-
  The walk of compact's law of sizes.
-/
import Derived.Test.YtbndegkgpoemnaaCom8
namespace Go.Proofs.Ytbndegkgpoemnaa
open Go.RowKit
set_option linter.unusedVariables false

theorem kN_mono {a b : Nat} (h : a ≤ b) : kN a ≤ kN b := by
  unfold kN
  split
  · split <;> (try split) <;> (try split) <;> (try split) <;> omega
  split
  · split <;> (try split) <;> (try split) <;> (try split) <;> omega
  split
  · split <;> (try split) <;> (try split) <;> (try split) <;> omega
  split
  · split <;> (try split) <;> (try split) <;> (try split) <;> omega
  · split <;> (try split) <;> (try split) <;> (try split) <;> omega
theorem sizeN_mono {a b : Nat} (h : a ≤ b) : sizeN a ≤ sizeN b := by
  have ka := kN_ge a
  have kb := kN_ge b
  have hk := kN_mono h
  unfold sizeN
  split
  · split <;> (try split) <;> (try split) <;> omega
  split
  · split <;> (try split) <;> (try split) <;> omega
  split
  · split <;> (try split) <;> (try split) <;> omega
  · split <;> (try split) <;> (try split) <;> omega
theorem heldN_mono {a b : Int} (h : a ≤ b) : heldN a ≤ heldN b := by unfold heldN; omega
theorem fit_i64 {n : Int} (h : (Lit.int .i64 n).wf = true) : -9223372036854775808 ≤ n ∧ n ≤ 9223372036854775807 := by
  simp [Lit.wf, IntKind.min, IntKind.max, IntKind.signed, IntKind.bits] at h
  omega

end Go.Proofs.Ytbndegkgpoemnaa
