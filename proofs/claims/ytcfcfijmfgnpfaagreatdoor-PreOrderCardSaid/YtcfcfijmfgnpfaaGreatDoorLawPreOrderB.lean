/-
  The law PreOrder: its row.
-/
import Derived.Test.YtcfcfijmfgnpfaaGreatDoorLawPreOrderA
import Derived.Test.YtcfcfijmfgnpfaaGreatDoorLawPreOrderK
namespace Go.Proofs.YtcfcfijmfgnpfaaGreatDoor.preOrder
open Go.ChangeShapes Go.WideShapes Go.ChangeAt Go.RowKit
set_option linter.unusedVariables false
set_option linter.unusedSimpArgs false

theorem row : Rows.PreOrderSaid :=
  OpenClaim.holds_of_wide 9 Tryz.f9 rfl rfl rfl rfl rfl rfl rfl ⟨rfl, rfl, rfl, rfl, rfl⟩ rfl rfl rfl rfl rfl jFn Tryz.func9 jAll
    (of_decide_eq_true (by kernel_rfl)) (by unfold Func.isWrapper; first | (rw [if_pos (by decide +kernel)]; kernel_rfl) | (rw [if_neg (by decide +kernel)]; exact ⟨rfl, rfl⟩))
    (fun os started H enc _ => lifted os started H enc)

end Go.Proofs.YtcfcfijmfgnpfaaGreatDoor.preOrder

