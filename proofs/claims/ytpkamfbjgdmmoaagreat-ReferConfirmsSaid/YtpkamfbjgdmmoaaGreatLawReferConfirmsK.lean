/-
  The law ReferConfirms: the facts of its row together.
-/
import Derived.Test.YtpkamfbjgdmmoaaGreatLawReferConfirmsJ
namespace Go.Proofs.YtpkamfbjgdmmoaaGreat.referConfirms
open Go.ChangeShapes Go.WideShapes Go.ChangeAt Go.RowKit
set_option linter.unusedVariables false
set_option linter.unusedSimpArgs false

theorem jAll : joinedFacts Tryz.prog 4 Tryz.f4 Rows.referConfirmsSpec Rows.referConfirmsRow = true := by
  unfold joinedFacts
  rw [jIn, jUn, jRe, jNa, jLa, jMa]
  kernel_rfl
end Go.Proofs.YtpkamfbjgdmmoaaGreat.referConfirms

