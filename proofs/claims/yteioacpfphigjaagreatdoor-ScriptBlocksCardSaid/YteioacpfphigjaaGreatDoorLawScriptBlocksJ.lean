/-
  The law ScriptBlocks: facts of its row.
-/
import Derived.Test.YteioacpfphigjaaGreatDoorRows
import Derived.Test.YteioacpfphigjaaGreatDoorChecked
import Derived.JoinedOf
import Derived.ProofKit
import Derived.Stop.Joined
namespace Go.Proofs.YteioacpfphigjaaGreatDoor.scriptBlocks
open Go.ChangeShapes Go.WideShapes Go.ChangeAt Go.RowKit
set_option linter.unusedVariables false
set_option linter.unusedSimpArgs false

theorem jIn : (Rows.scriptBlocksRow.inPlace == Tryz.prog.inPlace 7) = true := by kernel_rfl
theorem jUn : (Rows.scriptBlocksRow.unfollowed == Tryz.prog.unfollowed 7) = true := by kernel_rfl
theorem jRe : (Rows.scriptBlocksRow.recurses == Tryz.prog.recurses 7) = true := by kernel_rfl
theorem jNa : (Rows.scriptBlocksRow.named == Tryz.prog.varsNamed 7) = true := by kernel_rfl
theorem jLa : laidOutB Tryz.prog = true := by kernel_rfl
theorem jMa : mapsRowed Tryz.prog = true := by kernel_rfl
theorem jFn : Tryz.prog.funcNamed Rows.scriptBlocksRow.func = some 7 := by kernel_rfl
end Go.Proofs.YteioacpfphigjaaGreatDoor.scriptBlocks

