/-
  The law VotingLends: its row.
-/
import Derived.Test.YtlnjcfgihklppaaGreatLawVotingLendsA
import Derived.Test.YtlnjcfgihklppaaGreatLawVotingLendsK
namespace Go.Proofs.YtlnjcfgihklppaaGreat.votingLends
open Go.ChangeShapes Go.WideShapes Go.ChangeAt Go.RowKit
set_option linter.unusedVariables false
set_option linter.unusedSimpArgs false

theorem row : Rows.VotingLendsSaid :=
  OpenClaim.holds_of_wide 7 Tryz.f7 rfl rfl rfl rfl rfl rfl rfl ⟨rfl, rfl, rfl, rfl, rfl⟩ rfl rfl rfl rfl rfl jFn Tryz.func7 jAll
    (of_decide_eq_true (by kernel_rfl)) (by unfold Func.isWrapper; first | (rw [if_pos (by decide +kernel)]; kernel_rfl) | (rw [if_neg (by decide +kernel)]; exact ⟨rfl, rfl⟩))
    (fun os started H enc _ => lifted os started H enc)

end Go.Proofs.YtlnjcfgihklppaaGreat.votingLends

