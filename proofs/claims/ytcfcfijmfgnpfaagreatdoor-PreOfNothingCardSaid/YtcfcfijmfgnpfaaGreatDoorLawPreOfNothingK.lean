/-
  The law PreOfNothing: the facts of its row together.
-/
import Derived.Test.YtcfcfijmfgnpfaaGreatDoorLawPreOfNothingJ
namespace Go.Proofs.YtcfcfijmfgnpfaaGreatDoor.preOfNothing
open Go.ChangeShapes Go.WideShapes Go.ChangeAt Go.RowKit
set_option linter.unusedVariables false
set_option linter.unusedSimpArgs false

theorem jAll : joinedFacts Tryz.prog 8 Tryz.f8 Rows.preOfNothingSpec Rows.preOfNothingRow = true := by
  unfold joinedFacts
  rw [jIn, jUn, jRe, jNa, jLa, jMa]
  kernel_rfl
end Go.Proofs.YtcfcfijmfgnpfaaGreatDoor.preOfNothing

