/-
  The law ReferTracks: the facts of its row together.
-/
import Derived.Test.YtpkamfbjgdmmoaaGreatLawReferTracksJ
namespace Go.Proofs.YtpkamfbjgdmmoaaGreat.referTracks
open Go.ChangeShapes Go.WideShapes Go.ChangeAt Go.RowKit
set_option linter.unusedVariables false
set_option linter.unusedSimpArgs false

theorem jAll : joinedFacts Tryz.prog 11 Tryz.f11 Rows.referTracksSpec Rows.referTracksRow = true := by
  unfold joinedFacts
  rw [jIn, jUn, jRe, jNa, jLa, jMa]
  kernel_rfl
end Go.Proofs.YtpkamfbjgdmmoaaGreat.referTracks

