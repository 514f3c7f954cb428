/-
  The law VotingErrs: facts of its row.
-/
import Derived.Test.YtbpemdihoabbcaaGreatRows
import Derived.Test.YtbpemdihoabbcaaGreatChecked
import Derived.JoinedOf
import Derived.ProofKit
import Derived.Stop.Joined
namespace Go.Proofs.YtbpemdihoabbcaaGreat.votingErrs
open Go.ChangeShapes Go.WideShapes Go.ChangeAt Go.RowKit
set_option linter.unusedVariables false
set_option linter.unusedSimpArgs false

theorem jIn : (Rows.votingErrsRow.inPlace == Tryz.prog.inPlace 6) = true := by kernel_rfl
theorem jUn : (Rows.votingErrsRow.unfollowed == Tryz.prog.unfollowed 6) = true := by kernel_rfl
theorem jRe : (Rows.votingErrsRow.recurses == Tryz.prog.recurses 6) = true := by kernel_rfl
theorem jNa : (Rows.votingErrsRow.named == Tryz.prog.varsNamed 6) = true := by kernel_rfl
theorem jLa : laidOutB Tryz.prog = true := by kernel_rfl
theorem jMa : mapsRowed Tryz.prog = true := by kernel_rfl
theorem jFn : Tryz.prog.funcNamed Rows.votingErrsRow.func = some 6 := by kernel_rfl
end Go.Proofs.YtbpemdihoabbcaaGreat.votingErrs

