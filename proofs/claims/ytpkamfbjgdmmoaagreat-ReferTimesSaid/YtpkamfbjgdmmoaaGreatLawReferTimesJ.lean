/-
  The law ReferTimes: facts of its row.
-/
import Derived.Test.YtpkamfbjgdmmoaaGreatRows
import Derived.Test.YtpkamfbjgdmmoaaGreatChecked
import Derived.JoinedOf
import Derived.ProofKit
import Derived.Stop.Joined
namespace Go.Proofs.YtpkamfbjgdmmoaaGreat.referTimes
open Go.ChangeShapes Go.WideShapes Go.ChangeAt Go.RowKit
set_option linter.unusedVariables false
set_option linter.unusedSimpArgs false

theorem jIn : (Rows.referTimesRow.inPlace == Tryz.prog.inPlace 9) = true := by kernel_rfl
theorem jUn : (Rows.referTimesRow.unfollowed == Tryz.prog.unfollowed 9) = true := by kernel_rfl
theorem jRe : (Rows.referTimesRow.recurses == Tryz.prog.recurses 9) = true := by kernel_rfl
theorem jNa : (Rows.referTimesRow.named == Tryz.prog.varsNamed 9) = true := by kernel_rfl
theorem jLa : laidOutB Tryz.prog = true := by kernel_rfl
theorem jMa : mapsRowed Tryz.prog = true := by kernel_rfl
theorem jFn : Tryz.prog.funcNamed Rows.referTimesRow.func = some 9 := by kernel_rfl
end Go.Proofs.YtpkamfbjgdmmoaaGreat.referTimes

