/-
  The law ReferBacks: its row.
-/
import Derived.Test.YtpkamfbjgdmmoaaGreatLawReferBacksA
import Derived.Test.YtpkamfbjgdmmoaaGreatLawReferBacksK
namespace Go.Proofs.YtpkamfbjgdmmoaaGreat.referBacks
open Go.ChangeShapes Go.WideShapes Go.ChangeAt Go.RowKit
set_option linter.unusedVariables false
set_option linter.unusedSimpArgs false

theorem row : Rows.ReferBacksSaid :=
  OpenClaim.holds_of_wide 10 Tryz.f10 rfl rfl rfl rfl rfl rfl rfl ⟨rfl, rfl, rfl, rfl, rfl⟩ rfl rfl rfl rfl rfl jFn Tryz.func10 jAll
    (of_decide_eq_true (by kernel_rfl)) (by unfold Func.isWrapper; first | (rw [if_pos (by decide +kernel)]; kernel_rfl) | (rw [if_neg (by decide +kernel)]; exact ⟨rfl, rfl⟩))
    (fun os started H enc _ => lifted os started H enc)

end Go.Proofs.YtpkamfbjgdmmoaaGreat.referBacks

