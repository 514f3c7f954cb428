/-
  The law PreStops: facts of its row.
-/
import Derived.Test.YtcfcfijmfgnpfaaGreatDoorRows
import Derived.Test.YtcfcfijmfgnpfaaGreatDoorChecked
import Derived.JoinedOf
import Derived.ProofKit
import Derived.Stop.Joined
namespace Go.Proofs.YtcfcfijmfgnpfaaGreatDoor.preStops
open Go.ChangeShapes Go.WideShapes Go.ChangeAt Go.RowKit
set_option linter.unusedVariables false
set_option linter.unusedSimpArgs false

theorem jIn : (Rows.preStopsRow.inPlace == Tryz.prog.inPlace 7) = true := by kernel_rfl
theorem jUn : (Rows.preStopsRow.unfollowed == Tryz.prog.unfollowed 7) = true := by kernel_rfl
theorem jRe : (Rows.preStopsRow.recurses == Tryz.prog.recurses 7) = true := by kernel_rfl
theorem jNa : (Rows.preStopsRow.named == Tryz.prog.varsNamed 7) = true := by kernel_rfl
theorem jLa : laidOutB Tryz.prog = true := by kernel_rfl
theorem jMa : mapsRowed Tryz.prog = true := by kernel_rfl
theorem jFn : Tryz.prog.funcNamed Rows.preStopsRow.func = some 7 := by kernel_rfl
end Go.Proofs.YtcfcfijmfgnpfaaGreatDoor.preStops

