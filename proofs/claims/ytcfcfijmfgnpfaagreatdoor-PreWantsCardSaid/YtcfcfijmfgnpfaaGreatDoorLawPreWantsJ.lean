/-
  The law PreWants: facts of its row.
-/
import Derived.Test.YtcfcfijmfgnpfaaGreatDoorRows
import Derived.Test.YtcfcfijmfgnpfaaGreatDoorChecked
import Derived.JoinedOf
import Derived.ProofKit
import Derived.Stop.Joined
namespace Go.Proofs.YtcfcfijmfgnpfaaGreatDoor.preWants
open Go.ChangeShapes Go.WideShapes Go.ChangeAt Go.RowKit
set_option linter.unusedVariables false
set_option linter.unusedSimpArgs false

theorem jIn : (Rows.preWantsRow.inPlace == Tryz.prog.inPlace 5) = true := by kernel_rfl
theorem jUn : (Rows.preWantsRow.unfollowed == Tryz.prog.unfollowed 5) = true := by kernel_rfl
theorem jRe : (Rows.preWantsRow.recurses == Tryz.prog.recurses 5) = true := by kernel_rfl
theorem jNa : (Rows.preWantsRow.named == Tryz.prog.varsNamed 5) = true := by kernel_rfl
theorem jLa : laidOutB Tryz.prog = true := by kernel_rfl
theorem jMa : mapsRowed Tryz.prog = true := by kernel_rfl
theorem jFn : Tryz.prog.funcNamed Rows.preWantsRow.func = some 5 := by kernel_rfl
end Go.Proofs.YtcfcfijmfgnpfaaGreatDoor.preWants

