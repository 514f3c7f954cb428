/-
  The law VotingCounts: the facts of its row together.
-/
import Derived.Test.YtbpemdihoabbcaaGreatLawVotingCountsJ
namespace Go.Proofs.YtbpemdihoabbcaaGreat.votingCounts
open Go.ChangeShapes Go.WideShapes Go.ChangeAt Go.RowKit
set_option linter.unusedVariables false
set_option linter.unusedSimpArgs false

theorem jAll : joinedFacts Tryz.prog 4 Tryz.f4 Rows.votingCountsSpec Rows.votingCountsRow = true := by
  unfold joinedFacts
  rw [jIn, jUn, jRe, jNa, jLa, jMa]
  kernel_rfl
end Go.Proofs.YtbpemdihoabbcaaGreat.votingCounts

