/-
  The law PreWants: its row.
-/
import Derived.Test.YtcfcfijmfgnpfaaGreatDoorLawPreWantsA
import Derived.Test.YtcfcfijmfgnpfaaGreatDoorLawPreWantsK
namespace Go.Proofs.YtcfcfijmfgnpfaaGreatDoor.preWants
open Go.ChangeShapes Go.WideShapes Go.ChangeAt Go.RowKit
set_option linter.unusedVariables false
set_option linter.unusedSimpArgs false

theorem row : Rows.PreWantsSaid :=
  OpenClaim.holds_of_wide 5 Tryz.f5 rfl rfl rfl rfl rfl rfl rfl ⟨rfl, rfl, rfl, rfl, rfl⟩ rfl rfl rfl rfl rfl jFn Tryz.func5 jAll
    (of_decide_eq_true (by kernel_rfl)) (by unfold Func.isWrapper; first | (rw [if_pos (by decide +kernel)]; kernel_rfl) | (rw [if_neg (by decide +kernel)]; exact ⟨rfl, rfl⟩))
    (fun os started H enc _ => lifted os started H enc)

end Go.Proofs.YtcfcfijmfgnpfaaGreatDoor.preWants

