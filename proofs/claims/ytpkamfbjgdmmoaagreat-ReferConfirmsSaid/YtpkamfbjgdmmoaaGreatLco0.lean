/-
  The law ReferConfirms out of its range. Printed by mk12.py.
-/
import Derived.Test.YtpkamfbjgdmmoaaGreatMo
import Derived.BigRegion
import Derived.RegionTactic
import Derived.Deep.RegionHeld3
namespace Go.Proofs.YtpkamfbjgdmmoaaGreat
open Go.RowKit Go.Maps Go.Shelf
set_option linter.unusedVariables false
set_option linter.unusedSimpArgs false

set_option maxRecDepth 100000 in
set_option maxHeartbeats 8000000 in
theorem conf_out0 (a b c d e : Int) (w : World) (hout : (a < 0) ∨ (¬ a < 0 ∧ a > 10) ∨ (¬ a < 0 ∧ ¬ a > 10 ∧ b < 1) ∨ (¬ a < 0 ∧ ¬ a > 10 ∧ ¬ b < 1 ∧ b > 20)) : Calls Tryz.prog 4 #[.int .i64 a, .int .i64 b, .int .i64 c, .int .i64 d, .int .i64 e] w fun e w' => e = .returned (.bool true) ∧ Below w.heap.size w w' := by
  rcases hout with h | ⟨h0, h⟩ | ⟨h0, h1, h⟩ | ⟨h0, h1, h2, h⟩
  all_goals
    go_enter Tryz.func4, Tryz.ntmps4
    go_wp2
    exact bodyPost_ret (v := .bool true) (by simp [results, Tryz.results4, go_sem]) rfl ⟨rfl, Below.refl _ w⟩
end Go.Proofs.YtpkamfbjgdmmoaaGreat
