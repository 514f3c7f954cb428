/-
  The law PreWants: the facts of its row together.
-/
import Derived.Test.YtcfcfijmfgnpfaaGreatDoorLawPreWantsJ
namespace Go.Proofs.YtcfcfijmfgnpfaaGreatDoor.preWants
open Go.ChangeShapes Go.WideShapes Go.ChangeAt Go.RowKit
set_option linter.unusedVariables false
set_option linter.unusedSimpArgs false

theorem jAll : joinedFacts Tryz.prog 5 Tryz.f5 Rows.preWantsSpec Rows.preWantsRow = true := by
  unfold joinedFacts
  rw [jIn, jUn, jRe, jNa, jLa, jMa]
  kernel_rfl
end Go.Proofs.YtcfcfijmfgnpfaaGreatDoor.preWants

