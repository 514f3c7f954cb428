/-
  The law PreOrder: the facts of its row together.
-/
import Derived.Test.YtcfcfijmfgnpfaaGreatDoorLawPreOrderJ
namespace Go.Proofs.YtcfcfijmfgnpfaaGreatDoor.preOrder
open Go.ChangeShapes Go.WideShapes Go.ChangeAt Go.RowKit
set_option linter.unusedVariables false
set_option linter.unusedSimpArgs false

theorem jAll : joinedFacts Tryz.prog 9 Tryz.f9 Rows.preOrderSpec Rows.preOrderRow = true := by
  unfold joinedFacts
  rw [jIn, jUn, jRe, jNa, jLa, jMa]
  kernel_rfl
end Go.Proofs.YtcfcfijmfgnpfaaGreatDoor.preOrder

