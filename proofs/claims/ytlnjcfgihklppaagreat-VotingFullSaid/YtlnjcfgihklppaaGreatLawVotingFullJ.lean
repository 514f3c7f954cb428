/-
  The law VotingFull: facts of its row.
-/
import Derived.Test.YtlnjcfgihklppaaGreatRows
import Derived.Test.YtlnjcfgihklppaaGreatChecked
import Derived.JoinedOf
import Derived.ProofKit
import Derived.Stop.Joined
namespace Go.Proofs.YtlnjcfgihklppaaGreat.votingFull
open Go.ChangeShapes Go.WideShapes Go.ChangeAt Go.RowKit
set_option linter.unusedVariables false
set_option linter.unusedSimpArgs false

theorem jIn : (Rows.votingFullRow.inPlace == Tryz.prog.inPlace 8) = true := by kernel_rfl
theorem jUn : (Rows.votingFullRow.unfollowed == Tryz.prog.unfollowed 8) = true := by kernel_rfl
theorem jRe : (Rows.votingFullRow.recurses == Tryz.prog.recurses 8) = true := by kernel_rfl
theorem jNa : (Rows.votingFullRow.named == Tryz.prog.varsNamed 8) = true := by kernel_rfl
theorem jLa : laidOutB Tryz.prog = true := by kernel_rfl
theorem jMa : mapsRowed Tryz.prog = true := by kernel_rfl
theorem jFn : Tryz.prog.funcNamed Rows.votingFullRow.func = some 8 := by kernel_rfl
end Go.Proofs.YtlnjcfgihklppaaGreat.votingFull

