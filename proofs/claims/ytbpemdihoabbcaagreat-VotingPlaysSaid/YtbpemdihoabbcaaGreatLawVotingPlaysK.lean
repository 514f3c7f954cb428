/-
  The law VotingPlays: the facts of its row together.
-/
import Derived.Test.YtbpemdihoabbcaaGreatLawVotingPlaysJ
namespace Go.Proofs.YtbpemdihoabbcaaGreat.votingPlays
open Go.ChangeShapes Go.WideShapes Go.ChangeAt Go.RowKit
set_option linter.unusedVariables false
set_option linter.unusedSimpArgs false

theorem jAll : joinedFacts Tryz.prog 3 Tryz.f3 Rows.votingPlaysSpec Rows.votingPlaysRow = true := by
  unfold joinedFacts
  rw [jIn, jUn, jRe, jNa, jLa, jMa]
  kernel_rfl
end Go.Proofs.YtbpemdihoabbcaaGreat.votingPlays

