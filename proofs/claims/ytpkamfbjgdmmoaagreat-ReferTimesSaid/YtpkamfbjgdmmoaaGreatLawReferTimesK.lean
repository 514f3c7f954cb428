/-
  The law ReferTimes: the facts of its row together.
-/
import Derived.Test.YtpkamfbjgdmmoaaGreatLawReferTimesJ
namespace Go.Proofs.YtpkamfbjgdmmoaaGreat.referTimes
open Go.ChangeShapes Go.WideShapes Go.ChangeAt Go.RowKit
set_option linter.unusedVariables false
set_option linter.unusedSimpArgs false

theorem jAll : joinedFacts Tryz.prog 9 Tryz.f9 Rows.referTimesSpec Rows.referTimesRow = true := by
  unfold joinedFacts
  rw [jIn, jUn, jRe, jNa, jLa, jMa]
  kernel_rfl
end Go.Proofs.YtpkamfbjgdmmoaaGreat.referTimes

