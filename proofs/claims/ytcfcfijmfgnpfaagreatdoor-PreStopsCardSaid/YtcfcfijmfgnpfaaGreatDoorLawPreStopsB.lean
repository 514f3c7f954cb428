/-
  The law PreStops: its row.
-/
import Derived.Test.YtcfcfijmfgnpfaaGreatDoorLawPreStopsA
import Derived.Test.YtcfcfijmfgnpfaaGreatDoorLawPreStopsK
namespace Go.Proofs.YtcfcfijmfgnpfaaGreatDoor.preStops
open Go.ChangeShapes Go.WideShapes Go.ChangeAt Go.RowKit
set_option linter.unusedVariables false
set_option linter.unusedSimpArgs false

theorem row : Rows.PreStopsSaid :=
  OpenClaim.holds_of_wide 7 Tryz.f7 rfl rfl rfl rfl rfl rfl rfl ⟨rfl, rfl, rfl, rfl, rfl⟩ rfl rfl rfl rfl rfl jFn Tryz.func7 jAll
    (of_decide_eq_true (by kernel_rfl)) (by unfold Func.isWrapper; first | (rw [if_pos (by decide +kernel)]; kernel_rfl) | (rw [if_neg (by decide +kernel)]; exact ⟨rfl, rfl⟩))
    (fun os started H enc _ => lifted os started H enc)

end Go.Proofs.YtcfcfijmfgnpfaaGreatDoor.preStops

