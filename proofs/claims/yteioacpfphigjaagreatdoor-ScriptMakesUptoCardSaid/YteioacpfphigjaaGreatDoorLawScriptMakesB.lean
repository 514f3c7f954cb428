/-
  The law ScriptMakes: its row.
-/
import Derived.Test.YteioacpfphigjaaGreatDoorLawScriptMakesA
import Derived.Test.YteioacpfphigjaaGreatDoorLawScriptMakesK
namespace Go.Proofs.YteioacpfphigjaaGreatDoor.scriptMakes
open Go.ChangeShapes Go.WideShapes Go.ChangeAt Go.RowKit
set_option linter.unusedVariables false
set_option linter.unusedSimpArgs false

theorem row : Rows.ScriptMakesUptoSaid :=
  OpenClaim.holds_of_cond 5 Tryz.f5 rfl rfl rfl rfl rfl rfl rfl ⟨rfl, rfl, rfl, rfl, rfl⟩ rfl rfl rfl rfl rfl jFn Tryz.func5 jAll
    (of_decide_eq_true (by kernel_rfl)) (by unfold Func.isWrapper; first | (rw [if_pos (by decide +kernel)]; kernel_rfl) | (rw [if_neg (by decide +kernel)]; exact ⟨rfl, rfl⟩))
    (fun os started H enc _ F => by rw [OpenClaim.pre_eq_preRow]; exact lifted os started H enc F)

end Go.Proofs.YteioacpfphigjaaGreatDoor.scriptMakes

