/-
  The law VotingFunds: the facts of its row together.
-/
import Derived.Test.YtlnjcfgihklppaaGreatLawVotingFundsJ
namespace Go.Proofs.YtlnjcfgihklppaaGreat.votingFunds
open Go.ChangeShapes Go.WideShapes Go.ChangeAt Go.RowKit
set_option linter.unusedVariables false
set_option linter.unusedSimpArgs false

theorem jAll : joinedFacts Tryz.prog 12 Tryz.f12 Rows.votingFundsSpec Rows.votingFundsRow = true := by
  unfold joinedFacts
  rw [jIn, jUn, jRe, jNa, jLa, jMa]
  kernel_rfl
end Go.Proofs.YtlnjcfgihklppaaGreat.votingFunds

