/-
  The law ScriptMakes: facts of its row.
-/
import Derived.Test.YteioacpfphigjaaGreatDoorRows
import Derived.Test.YteioacpfphigjaaGreatDoorChecked
import Derived.JoinedOf
import Derived.ProofKit
import Derived.Stop.Joined
namespace Go.Proofs.YteioacpfphigjaaGreatDoor.scriptMakes
open Go.ChangeShapes Go.WideShapes Go.ChangeAt Go.RowKit
set_option linter.unusedVariables false
set_option linter.unusedSimpArgs false

theorem jIn : (Rows.scriptMakesUptoRow.inPlace == Tryz.prog.inPlace 5) = true := by kernel_rfl
theorem jUn : (Rows.scriptMakesUptoRow.unfollowed == Tryz.prog.unfollowed 5) = true := by kernel_rfl
theorem jRe : (Rows.scriptMakesUptoRow.recurses == Tryz.prog.recurses 5) = true := by kernel_rfl
theorem jNa : (Rows.scriptMakesUptoRow.named == Tryz.prog.varsNamed 5) = true := by kernel_rfl
theorem jLa : laidOutB Tryz.prog = true := by kernel_rfl
theorem jMa : mapsRowed Tryz.prog = true := by kernel_rfl
theorem jFn : Tryz.prog.funcNamed Rows.scriptMakesUptoRow.func = some 5 := by kernel_rfl
end Go.Proofs.YteioacpfphigjaaGreatDoor.scriptMakes

