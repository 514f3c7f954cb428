/-
  The law ReferOfNothing: facts of its row.
-/
import Derived.Test.YtpkamfbjgdmmoaaGreatRows
import Derived.Test.YtpkamfbjgdmmoaaGreatChecked
import Derived.JoinedOf
import Derived.ProofKit
import Derived.Stop.Joined
namespace Go.Proofs.YtpkamfbjgdmmoaaGreat.referOfNothing
open Go.ChangeShapes Go.WideShapes Go.ChangeAt Go.RowKit
set_option linter.unusedVariables false
set_option linter.unusedSimpArgs false

theorem jIn : (Rows.referOfNothingRow.inPlace == Tryz.prog.inPlace 8) = true := by kernel_rfl
theorem jUn : (Rows.referOfNothingRow.unfollowed == Tryz.prog.unfollowed 8) = true := by kernel_rfl
theorem jRe : (Rows.referOfNothingRow.recurses == Tryz.prog.recurses 8) = true := by kernel_rfl
theorem jNa : (Rows.referOfNothingRow.named == Tryz.prog.varsNamed 8) = true := by kernel_rfl
theorem jLa : laidOutB Tryz.prog = true := by kernel_rfl
theorem jMa : mapsRowed Tryz.prog = true := by kernel_rfl
theorem jFn : Tryz.prog.funcNamed Rows.referOfNothingRow.func = some 8 := by kernel_rfl
end Go.Proofs.YtpkamfbjgdmmoaaGreat.referOfNothing

