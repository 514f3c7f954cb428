/-
  The law VotingPriors: facts of its row.
-/
import Derived.Test.YtlnjcfgihklppaaGreatRows
import Derived.Test.YtlnjcfgihklppaaGreatChecked
import Derived.JoinedOf
import Derived.ProofKit
import Derived.Stop.Joined
namespace Go.Proofs.YtlnjcfgihklppaaGreat.votingPriors
open Go.ChangeShapes Go.WideShapes Go.ChangeAt Go.RowKit
set_option linter.unusedVariables false
set_option linter.unusedSimpArgs false

theorem jIn : (Rows.votingPriorsRow.inPlace == Tryz.prog.inPlace 6) = true := by kernel_rfl
theorem jUn : (Rows.votingPriorsRow.unfollowed == Tryz.prog.unfollowed 6) = true := by kernel_rfl
theorem jRe : (Rows.votingPriorsRow.recurses == Tryz.prog.recurses 6) = true := by kernel_rfl
theorem jNa : (Rows.votingPriorsRow.named == Tryz.prog.varsNamed 6) = true := by kernel_rfl
theorem jLa : laidOutB Tryz.prog = true := by kernel_rfl
theorem jMa : mapsRowed Tryz.prog = true := by kernel_rfl
theorem jFn : Tryz.prog.funcNamed Rows.votingPriorsRow.func = some 6 := by kernel_rfl
end Go.Proofs.YtlnjcfgihklppaaGreat.votingPriors

