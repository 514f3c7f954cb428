/-
  The law ReferFails: facts of its row.
-/
import Derived.Test.YtpkamfbjgdmmoaaGreatRows
import Derived.Test.YtpkamfbjgdmmoaaGreatChecked
import Derived.JoinedOf
import Derived.ProofKit
import Derived.Stop.Joined
namespace Go.Proofs.YtpkamfbjgdmmoaaGreat.referFails
open Go.ChangeShapes Go.WideShapes Go.ChangeAt Go.RowKit
set_option linter.unusedVariables false
set_option linter.unusedSimpArgs false

theorem jIn : (Rows.referFailsRow.inPlace == Tryz.prog.inPlace 5) = true := by kernel_rfl
theorem jUn : (Rows.referFailsRow.unfollowed == Tryz.prog.unfollowed 5) = true := by kernel_rfl
theorem jRe : (Rows.referFailsRow.recurses == Tryz.prog.recurses 5) = true := by kernel_rfl
theorem jNa : (Rows.referFailsRow.named == Tryz.prog.varsNamed 5) = true := by kernel_rfl
theorem jLa : laidOutB Tryz.prog = true := by kernel_rfl
theorem jMa : mapsRowed Tryz.prog = true := by kernel_rfl
theorem jFn : Tryz.prog.funcNamed Rows.referFailsRow.func = some 5 := by kernel_rfl
end Go.Proofs.YtpkamfbjgdmmoaaGreat.referFails

