/-
  The law PreFull: its row.
-/
import Derived.Test.YtcfcfijmfgnpfaaGreatDoorLawPreFullA
import Derived.Test.YtcfcfijmfgnpfaaGreatDoorLawPreFullK
namespace Go.Proofs.YtcfcfijmfgnpfaaGreatDoor.preFull
open Go.ChangeShapes Go.WideShapes Go.ChangeAt Go.RowKit
set_option linter.unusedVariables false
set_option linter.unusedSimpArgs false

theorem row : Rows.PreFullSaid :=
  OpenClaim.holds_of_wide 6 Tryz.f6 rfl rfl rfl rfl rfl rfl rfl ⟨rfl, rfl, rfl, rfl, rfl⟩ rfl rfl rfl rfl rfl jFn Tryz.func6 jAll
    (of_decide_eq_true (by kernel_rfl)) (by unfold Func.isWrapper; first | (rw [if_pos (by decide +kernel)]; kernel_rfl) | (rw [if_neg (by decide +kernel)]; exact ⟨rfl, rfl⟩))
    (fun os started H enc _ => lifted os started H enc)

end Go.Proofs.YtcfcfijmfgnpfaaGreatDoor.preFull

