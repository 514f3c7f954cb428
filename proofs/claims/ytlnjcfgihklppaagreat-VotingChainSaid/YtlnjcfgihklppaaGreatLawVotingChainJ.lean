/-
  The law VotingChain: facts of its row.
-/
import Derived.Test.YtlnjcfgihklppaaGreatRows
import Derived.Test.YtlnjcfgihklppaaGreatChecked
import Derived.JoinedOf
import Derived.ProofKit
import Derived.Stop.Joined
namespace Go.Proofs.YtlnjcfgihklppaaGreat.votingChain
open Go.ChangeShapes Go.WideShapes Go.ChangeAt Go.RowKit
set_option linter.unusedVariables false
set_option linter.unusedSimpArgs false

theorem jIn : (Rows.votingChainRow.inPlace == Tryz.prog.inPlace 10) = true := by kernel_rfl
theorem jUn : (Rows.votingChainRow.unfollowed == Tryz.prog.unfollowed 10) = true := by kernel_rfl
theorem jRe : (Rows.votingChainRow.recurses == Tryz.prog.recurses 10) = true := by kernel_rfl
theorem jNa : (Rows.votingChainRow.named == Tryz.prog.varsNamed 10) = true := by kernel_rfl
theorem jLa : laidOutB Tryz.prog = true := by kernel_rfl
theorem jMa : mapsRowed Tryz.prog = true := by kernel_rfl
theorem jFn : Tryz.prog.funcNamed Rows.votingChainRow.func = some 10 := by kernel_rfl
end Go.Proofs.YtlnjcfgihklppaaGreat.votingChain

