/-
  The law PreStops: the facts of its row together.
-/
import Derived.Test.YtcfcfijmfgnpfaaGreatDoorLawPreStopsJ
namespace Go.Proofs.YtcfcfijmfgnpfaaGreatDoor.preStops
open Go.ChangeShapes Go.WideShapes Go.ChangeAt Go.RowKit
set_option linter.unusedVariables false
set_option linter.unusedSimpArgs false

theorem jAll : joinedFacts Tryz.prog 7 Tryz.f7 Rows.preStopsSpec Rows.preStopsRow = true := by
  unfold joinedFacts
  rw [jIn, jUn, jRe, jNa, jLa, jMa]
  kernel_rfl
end Go.Proofs.YtcfcfijmfgnpfaaGreatDoor.preStops

