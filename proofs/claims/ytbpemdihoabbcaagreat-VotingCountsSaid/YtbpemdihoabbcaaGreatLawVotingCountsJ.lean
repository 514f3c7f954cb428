/-
  The law VotingCounts: facts of its row.
-/
import Derived.Test.YtbpemdihoabbcaaGreatRows
import Derived.Test.YtbpemdihoabbcaaGreatChecked
import Derived.JoinedOf
import Derived.ProofKit
import Derived.Stop.Joined
namespace Go.Proofs.YtbpemdihoabbcaaGreat.votingCounts
open Go.ChangeShapes Go.WideShapes Go.ChangeAt Go.RowKit
set_option linter.unusedVariables false
set_option linter.unusedSimpArgs false

theorem jIn : (Rows.votingCountsRow.inPlace == Tryz.prog.inPlace 4) = true := by kernel_rfl
theorem jUn : (Rows.votingCountsRow.unfollowed == Tryz.prog.unfollowed 4) = true := by kernel_rfl
theorem jRe : (Rows.votingCountsRow.recurses == Tryz.prog.recurses 4) = true := by kernel_rfl
theorem jNa : (Rows.votingCountsRow.named == Tryz.prog.varsNamed 4) = true := by kernel_rfl
theorem jLa : laidOutB Tryz.prog = true := by kernel_rfl
theorem jMa : mapsRowed Tryz.prog = true := by kernel_rfl
theorem jFn : Tryz.prog.funcNamed Rows.votingCountsRow.func = some 4 := by kernel_rfl
end Go.Proofs.YtbpemdihoabbcaaGreat.votingCounts

