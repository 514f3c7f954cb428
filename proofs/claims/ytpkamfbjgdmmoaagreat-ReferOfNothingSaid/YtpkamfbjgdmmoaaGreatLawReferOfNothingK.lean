/-
  The law ReferOfNothing: the facts of its row together.
-/
import Derived.Test.YtpkamfbjgdmmoaaGreatLawReferOfNothingJ
namespace Go.Proofs.YtpkamfbjgdmmoaaGreat.referOfNothing
open Go.ChangeShapes Go.WideShapes Go.ChangeAt Go.RowKit
set_option linter.unusedVariables false
set_option linter.unusedSimpArgs false

theorem jAll : joinedFacts Tryz.prog 8 Tryz.f8 Rows.referOfNothingSpec Rows.referOfNothingRow = true := by
  unfold joinedFacts
  rw [jIn, jUn, jRe, jNa, jLa, jMa]
  kernel_rfl
end Go.Proofs.YtpkamfbjgdmmoaaGreat.referOfNothing

