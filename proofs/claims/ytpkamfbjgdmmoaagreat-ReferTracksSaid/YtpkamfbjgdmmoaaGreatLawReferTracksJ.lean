/-
  The law ReferTracks: facts of its row.
-/
import Derived.Test.YtpkamfbjgdmmoaaGreatRows
import Derived.Test.YtpkamfbjgdmmoaaGreatChecked
import Derived.JoinedOf
import Derived.ProofKit
import Derived.Stop.Joined
namespace Go.Proofs.YtpkamfbjgdmmoaaGreat.referTracks
open Go.ChangeShapes Go.WideShapes Go.ChangeAt Go.RowKit
set_option linter.unusedVariables false
set_option linter.unusedSimpArgs false

theorem jIn : (Rows.referTracksRow.inPlace == Tryz.prog.inPlace 11) = true := by kernel_rfl
theorem jUn : (Rows.referTracksRow.unfollowed == Tryz.prog.unfollowed 11) = true := by kernel_rfl
theorem jRe : (Rows.referTracksRow.recurses == Tryz.prog.recurses 11) = true := by kernel_rfl
theorem jNa : (Rows.referTracksRow.named == Tryz.prog.varsNamed 11) = true := by kernel_rfl
theorem jLa : laidOutB Tryz.prog = true := by kernel_rfl
theorem jMa : mapsRowed Tryz.prog = true := by kernel_rfl
theorem jFn : Tryz.prog.funcNamed Rows.referTracksRow.func = some 11 := by kernel_rfl
end Go.Proofs.YtpkamfbjgdmmoaaGreat.referTracks

