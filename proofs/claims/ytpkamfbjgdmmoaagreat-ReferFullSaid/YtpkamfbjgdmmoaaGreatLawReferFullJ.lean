/-
  The law ReferFull: facts of its row.
-/
import Derived.Test.YtpkamfbjgdmmoaaGreatRows
import Derived.Test.YtpkamfbjgdmmoaaGreatChecked
import Derived.JoinedOf
import Derived.ProofKit
import Derived.Stop.Joined
namespace Go.Proofs.YtpkamfbjgdmmoaaGreat.referFull
open Go.ChangeShapes Go.WideShapes Go.ChangeAt Go.RowKit
set_option linter.unusedVariables false
set_option linter.unusedSimpArgs false

theorem jIn : (Rows.referFullRow.inPlace == Tryz.prog.inPlace 7) = true := by kernel_rfl
theorem jUn : (Rows.referFullRow.unfollowed == Tryz.prog.unfollowed 7) = true := by kernel_rfl
theorem jRe : (Rows.referFullRow.recurses == Tryz.prog.recurses 7) = true := by kernel_rfl
theorem jNa : (Rows.referFullRow.named == Tryz.prog.varsNamed 7) = true := by kernel_rfl
theorem jLa : laidOutB Tryz.prog = true := by kernel_rfl
theorem jMa : mapsRowed Tryz.prog = true := by kernel_rfl
theorem jFn : Tryz.prog.funcNamed Rows.referFullRow.func = some 7 := by kernel_rfl
end Go.Proofs.YtpkamfbjgdmmoaaGreat.referFull

