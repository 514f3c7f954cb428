/-
  The law VotingChain: the facts of its row together.
-/
import Derived.Test.YtlnjcfgihklppaaGreatLawVotingChainJ
namespace Go.Proofs.YtlnjcfgihklppaaGreat.votingChain
open Go.ChangeShapes Go.WideShapes Go.ChangeAt Go.RowKit
set_option linter.unusedVariables false
set_option linter.unusedSimpArgs false

theorem jAll : joinedFacts Tryz.prog 10 Tryz.f10 Rows.votingChainSpec Rows.votingChainRow = true := by
  unfold joinedFacts
  rw [jIn, jUn, jRe, jNa, jLa, jMa]
  kernel_rfl
end Go.Proofs.YtlnjcfgihklppaaGreat.votingChain

