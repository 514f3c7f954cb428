/-
  The law ScriptStops: facts of its row.
-/
import Derived.Test.YteioacpfphigjaaGreatDoorRows
import Derived.Test.YteioacpfphigjaaGreatDoorChecked
import Derived.JoinedOf
import Derived.ProofKit
import Derived.Stop.Joined
namespace Go.Proofs.YteioacpfphigjaaGreatDoor.scriptStops
open Go.ChangeShapes Go.WideShapes Go.ChangeAt Go.RowKit
set_option linter.unusedVariables false
set_option linter.unusedSimpArgs false

theorem jIn : (Rows.scriptStopsRow.inPlace == Tryz.prog.inPlace 6) = true := by kernel_rfl
theorem jUn : (Rows.scriptStopsRow.unfollowed == Tryz.prog.unfollowed 6) = true := by kernel_rfl
theorem jRe : (Rows.scriptStopsRow.recurses == Tryz.prog.recurses 6) = true := by kernel_rfl
theorem jNa : (Rows.scriptStopsRow.named == Tryz.prog.varsNamed 6) = true := by kernel_rfl
theorem jLa : laidOutB Tryz.prog = true := by kernel_rfl
theorem jMa : mapsRowed Tryz.prog = true := by kernel_rfl
theorem jFn : Tryz.prog.funcNamed Rows.scriptStopsRow.func = some 6 := by kernel_rfl
end Go.Proofs.YteioacpfphigjaaGreatDoor.scriptStops

