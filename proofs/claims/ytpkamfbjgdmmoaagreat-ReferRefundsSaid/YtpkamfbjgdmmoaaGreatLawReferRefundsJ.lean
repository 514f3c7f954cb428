/-
  The law ReferRefunds: facts of its row.
-/
import Derived.Test.YtpkamfbjgdmmoaaGreatRows
import Derived.Test.YtpkamfbjgdmmoaaGreatChecked
import Derived.JoinedOf
import Derived.ProofKit
import Derived.Stop.Joined
namespace Go.Proofs.YtpkamfbjgdmmoaaGreat.referRefunds
open Go.ChangeShapes Go.WideShapes Go.ChangeAt Go.RowKit
set_option linter.unusedVariables false
set_option linter.unusedSimpArgs false

theorem jIn : (Rows.referRefundsRow.inPlace == Tryz.prog.inPlace 6) = true := by kernel_rfl
theorem jUn : (Rows.referRefundsRow.unfollowed == Tryz.prog.unfollowed 6) = true := by kernel_rfl
theorem jRe : (Rows.referRefundsRow.recurses == Tryz.prog.recurses 6) = true := by kernel_rfl
theorem jNa : (Rows.referRefundsRow.named == Tryz.prog.varsNamed 6) = true := by kernel_rfl
theorem jLa : laidOutB Tryz.prog = true := by kernel_rfl
theorem jMa : mapsRowed Tryz.prog = true := by kernel_rfl
theorem jFn : Tryz.prog.funcNamed Rows.referRefundsRow.func = some 6 := by kernel_rfl
end Go.Proofs.YtpkamfbjgdmmoaaGreat.referRefunds

