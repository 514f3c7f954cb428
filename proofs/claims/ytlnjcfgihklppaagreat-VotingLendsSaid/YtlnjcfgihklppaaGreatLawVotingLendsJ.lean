/-
  The law VotingLends: facts of its row.
-/
import Derived.Test.YtlnjcfgihklppaaGreatRows
import Derived.Test.YtlnjcfgihklppaaGreatChecked
import Derived.JoinedOf
import Derived.ProofKit
import Derived.Stop.Joined
namespace Go.Proofs.YtlnjcfgihklppaaGreat.votingLends
open Go.ChangeShapes Go.WideShapes Go.ChangeAt Go.RowKit
set_option linter.unusedVariables false
set_option linter.unusedSimpArgs false

theorem jIn : (Rows.votingLendsRow.inPlace == Tryz.prog.inPlace 7) = true := by kernel_rfl
theorem jUn : (Rows.votingLendsRow.unfollowed == Tryz.prog.unfollowed 7) = true := by kernel_rfl
theorem jRe : (Rows.votingLendsRow.recurses == Tryz.prog.recurses 7) = true := by kernel_rfl
theorem jNa : (Rows.votingLendsRow.named == Tryz.prog.varsNamed 7) = true := by kernel_rfl
theorem jLa : laidOutB Tryz.prog = true := by kernel_rfl
theorem jMa : mapsRowed Tryz.prog = true := by kernel_rfl
theorem jFn : Tryz.prog.funcNamed Rows.votingLendsRow.func = some 7 := by kernel_rfl
end Go.Proofs.YtlnjcfgihklppaaGreat.votingLends

