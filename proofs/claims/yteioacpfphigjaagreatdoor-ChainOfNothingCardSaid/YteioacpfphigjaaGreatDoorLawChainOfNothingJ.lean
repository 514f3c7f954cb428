/-
  The law ChainOfNothing: facts of its row.
-/
import Derived.Test.YteioacpfphigjaaGreatDoorRows
import Derived.Test.YteioacpfphigjaaGreatDoorChecked
import Derived.JoinedOf
import Derived.ProofKit
import Derived.Stop.Joined
namespace Go.Proofs.YteioacpfphigjaaGreatDoor.chainOfNothing
open Go.ChangeShapes Go.WideShapes Go.ChangeAt Go.RowKit
set_option linter.unusedVariables false
set_option linter.unusedSimpArgs false

theorem jIn : (Rows.chainOfNothingRow.inPlace == Tryz.prog.inPlace 3) = true := by kernel_rfl
theorem jUn : (Rows.chainOfNothingRow.unfollowed == Tryz.prog.unfollowed 3) = true := by kernel_rfl
theorem jRe : (Rows.chainOfNothingRow.recurses == Tryz.prog.recurses 3) = true := by kernel_rfl
theorem jNa : (Rows.chainOfNothingRow.named == Tryz.prog.varsNamed 3) = true := by kernel_rfl
theorem jLa : laidOutB Tryz.prog = true := by kernel_rfl
theorem jMa : mapsRowed Tryz.prog = true := by kernel_rfl
theorem jFn : Tryz.prog.funcNamed Rows.chainOfNothingRow.func = some 3 := by kernel_rfl
end Go.Proofs.YteioacpfphigjaaGreatDoor.chainOfNothing

