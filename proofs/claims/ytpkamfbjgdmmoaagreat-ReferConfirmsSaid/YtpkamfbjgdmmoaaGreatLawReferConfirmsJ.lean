/-
  The law ReferConfirms: facts of its row.
-/
import Derived.Test.YtpkamfbjgdmmoaaGreatRows
import Derived.Test.YtpkamfbjgdmmoaaGreatChecked
import Derived.JoinedOf
import Derived.ProofKit
import Derived.Stop.Joined
namespace Go.Proofs.YtpkamfbjgdmmoaaGreat.referConfirms
open Go.ChangeShapes Go.WideShapes Go.ChangeAt Go.RowKit
set_option linter.unusedVariables false
set_option linter.unusedSimpArgs false

theorem jIn : (Rows.referConfirmsRow.inPlace == Tryz.prog.inPlace 4) = true := by kernel_rfl
theorem jUn : (Rows.referConfirmsRow.unfollowed == Tryz.prog.unfollowed 4) = true := by kernel_rfl
theorem jRe : (Rows.referConfirmsRow.recurses == Tryz.prog.recurses 4) = true := by kernel_rfl
theorem jNa : (Rows.referConfirmsRow.named == Tryz.prog.varsNamed 4) = true := by kernel_rfl
theorem jLa : laidOutB Tryz.prog = true := by kernel_rfl
theorem jMa : mapsRowed Tryz.prog = true := by kernel_rfl
theorem jFn : Tryz.prog.funcNamed Rows.referConfirmsRow.func = some 4 := by kernel_rfl
end Go.Proofs.YtpkamfbjgdmmoaaGreat.referConfirms

