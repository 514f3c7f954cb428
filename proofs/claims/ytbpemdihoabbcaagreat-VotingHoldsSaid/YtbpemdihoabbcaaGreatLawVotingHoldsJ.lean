/-
  The law VotingHolds: facts of its row.
-/
import Derived.Test.YtbpemdihoabbcaaGreatRows
import Derived.Test.YtbpemdihoabbcaaGreatChecked
import Derived.JoinedOf
import Derived.ProofKit
import Derived.Stop.Joined
namespace Go.Proofs.YtbpemdihoabbcaaGreat.votingHolds
open Go.ChangeShapes Go.WideShapes Go.ChangeAt Go.RowKit
set_option linter.unusedVariables false
set_option linter.unusedSimpArgs false

theorem jIn : (Rows.votingHoldsRow.inPlace == Tryz.prog.inPlace 5) = true := by kernel_rfl
theorem jUn : (Rows.votingHoldsRow.unfollowed == Tryz.prog.unfollowed 5) = true := by kernel_rfl
theorem jRe : (Rows.votingHoldsRow.recurses == Tryz.prog.recurses 5) = true := by kernel_rfl
theorem jNa : (Rows.votingHoldsRow.named == Tryz.prog.varsNamed 5) = true := by kernel_rfl
theorem jLa : laidOutB Tryz.prog = true := by kernel_rfl
theorem jMa : mapsRowed Tryz.prog = true := by kernel_rfl
theorem jFn : Tryz.prog.funcNamed Rows.votingHoldsRow.func = some 5 := by kernel_rfl
end Go.Proofs.YtbpemdihoabbcaaGreat.votingHolds

