/-
  The law ScriptMakes: the facts of its row together.
-/
import Derived.Test.YteioacpfphigjaaGreatDoorLawScriptMakesJ
namespace Go.Proofs.YteioacpfphigjaaGreatDoor.scriptMakes
open Go.ChangeShapes Go.WideShapes Go.ChangeAt Go.RowKit
set_option linter.unusedVariables false
set_option linter.unusedSimpArgs false

theorem jAll : joinedFacts Tryz.prog 5 Tryz.f5 (Rows.OpenSpec.upto Rows.scriptMakesSpec).bare Rows.scriptMakesUptoRow = true := by
  unfold joinedFacts
  rw [jIn, jUn, jRe, jNa, jLa, jMa]
  kernel_rfl
end Go.Proofs.YteioacpfphigjaaGreatDoor.scriptMakes

