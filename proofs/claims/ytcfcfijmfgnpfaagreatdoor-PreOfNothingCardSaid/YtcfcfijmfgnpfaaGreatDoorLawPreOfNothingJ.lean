/-
  The law PreOfNothing: facts of its row.
-/
import Derived.Test.YtcfcfijmfgnpfaaGreatDoorRows
import Derived.Test.YtcfcfijmfgnpfaaGreatDoorChecked
import Derived.JoinedOf
import Derived.ProofKit
import Derived.Stop.Joined
namespace Go.Proofs.YtcfcfijmfgnpfaaGreatDoor.preOfNothing
open Go.ChangeShapes Go.WideShapes Go.ChangeAt Go.RowKit
set_option linter.unusedVariables false
set_option linter.unusedSimpArgs false

theorem jIn : (Rows.preOfNothingRow.inPlace == Tryz.prog.inPlace 8) = true := by kernel_rfl
theorem jUn : (Rows.preOfNothingRow.unfollowed == Tryz.prog.unfollowed 8) = true := by kernel_rfl
theorem jRe : (Rows.preOfNothingRow.recurses == Tryz.prog.recurses 8) = true := by kernel_rfl
theorem jNa : (Rows.preOfNothingRow.named == Tryz.prog.varsNamed 8) = true := by kernel_rfl
theorem jLa : laidOutB Tryz.prog = true := by kernel_rfl
theorem jMa : mapsRowed Tryz.prog = true := by kernel_rfl
theorem jFn : Tryz.prog.funcNamed Rows.preOfNothingRow.func = some 8 := by kernel_rfl
end Go.Proofs.YtcfcfijmfgnpfaaGreatDoor.preOfNothing

