/-
  The law ReferFails: the facts of its row together.
-/
import Derived.Test.YtpkamfbjgdmmoaaGreatLawReferFailsJ
namespace Go.Proofs.YtpkamfbjgdmmoaaGreat.referFails
open Go.ChangeShapes Go.WideShapes Go.ChangeAt Go.RowKit
set_option linter.unusedVariables false
set_option linter.unusedSimpArgs false

theorem jAll : joinedFacts Tryz.prog 5 Tryz.f5 Rows.referFailsSpec Rows.referFailsRow = true := by
  unfold joinedFacts
  rw [jIn, jUn, jRe, jNa, jLa, jMa]
  kernel_rfl
end Go.Proofs.YtpkamfbjgdmmoaaGreat.referFails

