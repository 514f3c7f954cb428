/-
  The law PreFull: the facts of its row together.
-/
import Derived.Test.YtcfcfijmfgnpfaaGreatDoorLawPreFullJ
namespace Go.Proofs.YtcfcfijmfgnpfaaGreatDoor.preFull
open Go.ChangeShapes Go.WideShapes Go.ChangeAt Go.RowKit
set_option linter.unusedVariables false
set_option linter.unusedSimpArgs false

theorem jAll : joinedFacts Tryz.prog 6 Tryz.f6 Rows.preFullSpec Rows.preFullRow = true := by
  unfold joinedFacts
  rw [jIn, jUn, jRe, jNa, jLa, jMa]
  kernel_rfl
end Go.Proofs.YtcfcfijmfgnpfaaGreatDoor.preFull

