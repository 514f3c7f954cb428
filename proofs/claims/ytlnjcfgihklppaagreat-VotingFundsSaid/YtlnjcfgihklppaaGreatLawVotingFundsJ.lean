/-
  The law VotingFunds: facts of its row.
-/
import Derived.Test.YtlnjcfgihklppaaGreatRows
import Derived.Test.YtlnjcfgihklppaaGreatChecked
import Derived.JoinedOf
import Derived.ProofKit
import Derived.Stop.Joined
namespace Go.Proofs.YtlnjcfgihklppaaGreat.votingFunds
open Go.ChangeShapes Go.WideShapes Go.ChangeAt Go.RowKit
set_option linter.unusedVariables false
set_option linter.unusedSimpArgs false

theorem jIn : (Rows.votingFundsRow.inPlace == Tryz.prog.inPlace 12) = true := by kernel_rfl
theorem jUn : (Rows.votingFundsRow.unfollowed == Tryz.prog.unfollowed 12) = true := by kernel_rfl
theorem jRe : (Rows.votingFundsRow.recurses == Tryz.prog.recurses 12) = true := by kernel_rfl
theorem jNa : (Rows.votingFundsRow.named == Tryz.prog.varsNamed 12) = true := by kernel_rfl
theorem jLa : laidOutB Tryz.prog = true := by kernel_rfl
theorem jMa : mapsRowed Tryz.prog = true := by kernel_rfl
theorem jFn : Tryz.prog.funcNamed Rows.votingFundsRow.func = some 12 := by kernel_rfl
end Go.Proofs.YtlnjcfgihklppaaGreat.votingFunds

