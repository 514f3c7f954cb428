/-
  The law PreFull: facts of its row.
-/
import Derived.Test.YtcfcfijmfgnpfaaGreatDoorRows
import Derived.Test.YtcfcfijmfgnpfaaGreatDoorChecked
import Derived.JoinedOf
import Derived.ProofKit
import Derived.Stop.Joined
namespace Go.Proofs.YtcfcfijmfgnpfaaGreatDoor.preFull
open Go.ChangeShapes Go.WideShapes Go.ChangeAt Go.RowKit
set_option linter.unusedVariables false
set_option linter.unusedSimpArgs false

theorem jIn : (Rows.preFullRow.inPlace == Tryz.prog.inPlace 6) = true := by kernel_rfl
theorem jUn : (Rows.preFullRow.unfollowed == Tryz.prog.unfollowed 6) = true := by kernel_rfl
theorem jRe : (Rows.preFullRow.recurses == Tryz.prog.recurses 6) = true := by kernel_rfl
theorem jNa : (Rows.preFullRow.named == Tryz.prog.varsNamed 6) = true := by kernel_rfl
theorem jLa : laidOutB Tryz.prog = true := by kernel_rfl
theorem jMa : mapsRowed Tryz.prog = true := by kernel_rfl
theorem jFn : Tryz.prog.funcNamed Rows.preFullRow.func = some 6 := by kernel_rfl
end Go.Proofs.YtcfcfijmfgnpfaaGreatDoor.preFull

