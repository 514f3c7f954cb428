/-
  The law PreOrder: facts of its row.
-/
import Derived.Test.YtcfcfijmfgnpfaaGreatDoorRows
import Derived.Test.YtcfcfijmfgnpfaaGreatDoorChecked
import Derived.JoinedOf
import Derived.ProofKit
import Derived.Stop.Joined
namespace Go.Proofs.YtcfcfijmfgnpfaaGreatDoor.preOrder
open Go.ChangeShapes Go.WideShapes Go.ChangeAt Go.RowKit
set_option linter.unusedVariables false
set_option linter.unusedSimpArgs false

theorem jIn : (Rows.preOrderRow.inPlace == Tryz.prog.inPlace 9) = true := by kernel_rfl
theorem jUn : (Rows.preOrderRow.unfollowed == Tryz.prog.unfollowed 9) = true := by kernel_rfl
theorem jRe : (Rows.preOrderRow.recurses == Tryz.prog.recurses 9) = true := by kernel_rfl
theorem jNa : (Rows.preOrderRow.named == Tryz.prog.varsNamed 9) = true := by kernel_rfl
theorem jLa : laidOutB Tryz.prog = true := by kernel_rfl
theorem jMa : mapsRowed Tryz.prog = true := by kernel_rfl
theorem jFn : Tryz.prog.funcNamed Rows.preOrderRow.func = some 9 := by kernel_rfl
end Go.Proofs.YtcfcfijmfgnpfaaGreatDoor.preOrder

