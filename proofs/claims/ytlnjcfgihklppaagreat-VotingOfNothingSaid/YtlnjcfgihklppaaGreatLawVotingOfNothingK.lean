/-
  The law VotingOfNothing: the facts of its row together.
-/
import Derived.Test.YtlnjcfgihklppaaGreatLawVotingOfNothingJ
namespace Go.Proofs.YtlnjcfgihklppaaGreat.votingOfNothing
open Go.ChangeShapes Go.WideShapes Go.ChangeAt Go.RowKit
set_option linter.unusedVariables false
set_option linter.unusedSimpArgs false

theorem jAll : joinedFacts Tryz.prog 3 Tryz.f3 Rows.votingOfNothingSpec Rows.votingOfNothingRow = true := by
  unfold joinedFacts
  rw [jIn, jUn, jRe, jNa, jLa, jMa]
  kernel_rfl
end Go.Proofs.YtlnjcfgihklppaaGreat.votingOfNothing

