/-
  The law ReferBacks: the facts of its row together.
-/
import Derived.Test.YtpkamfbjgdmmoaaGreatLawReferBacksJ
namespace Go.Proofs.YtpkamfbjgdmmoaaGreat.referBacks
open Go.ChangeShapes Go.WideShapes Go.ChangeAt Go.RowKit
set_option linter.unusedVariables false
set_option linter.unusedSimpArgs false

theorem jAll : joinedFacts Tryz.prog 10 Tryz.f10 Rows.referBacksSpec Rows.referBacksRow = true := by
  unfold joinedFacts
  rw [jIn, jUn, jRe, jNa, jLa, jMa]
  kernel_rfl
end Go.Proofs.YtpkamfbjgdmmoaaGreat.referBacks

