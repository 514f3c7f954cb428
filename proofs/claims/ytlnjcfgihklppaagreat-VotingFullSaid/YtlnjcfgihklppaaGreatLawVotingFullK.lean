/-
  The law VotingFull: the facts of its row together.
-/
import Derived.Test.YtlnjcfgihklppaaGreatLawVotingFullJ
namespace Go.Proofs.YtlnjcfgihklppaaGreat.votingFull
open Go.ChangeShapes Go.WideShapes Go.ChangeAt Go.RowKit
set_option linter.unusedVariables false
set_option linter.unusedSimpArgs false

theorem jAll : joinedFacts Tryz.prog 8 Tryz.f8 Rows.votingFullSpec Rows.votingFullRow = true := by
  unfold joinedFacts
  rw [jIn, jUn, jRe, jNa, jLa, jMa]
  kernel_rfl
end Go.Proofs.YtlnjcfgihklppaaGreat.votingFull

