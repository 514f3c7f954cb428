/-
  The law ScriptRows: facts of its row.
-/
import Derived.Test.YteioacpfphigjaaGreatDoorRows
import Derived.Test.YteioacpfphigjaaGreatDoorChecked
import Derived.JoinedOf
import Derived.ProofKit
import Derived.Stop.Joined
namespace Go.Proofs.YteioacpfphigjaaGreatDoor.scriptRows
open Go.ChangeShapes Go.WideShapes Go.ChangeAt Go.RowKit
set_option linter.unusedVariables false
set_option linter.unusedSimpArgs false

theorem jIn : (Rows.scriptRowsRow.inPlace == Tryz.prog.inPlace 4) = true := by kernel_rfl
theorem jUn : (Rows.scriptRowsRow.unfollowed == Tryz.prog.unfollowed 4) = true := by kernel_rfl
theorem jRe : (Rows.scriptRowsRow.recurses == Tryz.prog.recurses 4) = true := by kernel_rfl
theorem jNa : (Rows.scriptRowsRow.named == Tryz.prog.varsNamed 4) = true := by kernel_rfl
theorem jLa : laidOutB Tryz.prog = true := by kernel_rfl
theorem jMa : mapsRowed Tryz.prog = true := by kernel_rfl
theorem jFn : Tryz.prog.funcNamed Rows.scriptRowsRow.func = some 4 := by kernel_rfl
end Go.Proofs.YteioacpfphigjaaGreatDoor.scriptRows

