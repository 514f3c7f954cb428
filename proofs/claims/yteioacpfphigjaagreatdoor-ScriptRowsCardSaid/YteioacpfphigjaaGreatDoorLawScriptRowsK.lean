/-
  The law ScriptRows: the facts of its row together.
-/
import Derived.Test.YteioacpfphigjaaGreatDoorLawScriptRowsJ
namespace Go.Proofs.YteioacpfphigjaaGreatDoor.scriptRows
open Go.ChangeShapes Go.WideShapes Go.ChangeAt Go.RowKit
set_option linter.unusedVariables false
set_option linter.unusedSimpArgs false

theorem jAll : joinedFacts Tryz.prog 4 Tryz.f4 Rows.scriptRowsSpec Rows.scriptRowsRow = true := by
  unfold joinedFacts
  rw [jIn, jUn, jRe, jNa, jLa, jMa]
  kernel_rfl
end Go.Proofs.YteioacpfphigjaaGreatDoor.scriptRows

