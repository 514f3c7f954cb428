/-
  The law ReferBacks: facts of its row.
-/
import Derived.Test.YtpkamfbjgdmmoaaGreatRows
import Derived.Test.YtpkamfbjgdmmoaaGreatChecked
import Derived.JoinedOf
import Derived.ProofKit
import Derived.Stop.Joined
namespace Go.Proofs.YtpkamfbjgdmmoaaGreat.referBacks
open Go.ChangeShapes Go.WideShapes Go.ChangeAt Go.RowKit
set_option linter.unusedVariables false
set_option linter.unusedSimpArgs false

theorem jIn : (Rows.referBacksRow.inPlace == Tryz.prog.inPlace 10) = true := by kernel_rfl
theorem jUn : (Rows.referBacksRow.unfollowed == Tryz.prog.unfollowed 10) = true := by kernel_rfl
theorem jRe : (Rows.referBacksRow.recurses == Tryz.prog.recurses 10) = true := by kernel_rfl
theorem jNa : (Rows.referBacksRow.named == Tryz.prog.varsNamed 10) = true := by kernel_rfl
theorem jLa : laidOutB Tryz.prog = true := by kernel_rfl
theorem jMa : mapsRowed Tryz.prog = true := by kernel_rfl
theorem jFn : Tryz.prog.funcNamed Rows.referBacksRow.func = some 10 := by kernel_rfl
end Go.Proofs.YtpkamfbjgdmmoaaGreat.referBacks

