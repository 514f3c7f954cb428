/-
  The law VotingBack: facts of its row.
-/
import Derived.Test.YtlnjcfgihklppaaGreatRows
import Derived.Test.YtlnjcfgihklppaaGreatChecked
import Derived.JoinedOf
import Derived.ProofKit
import Derived.Stop.Joined
namespace Go.Proofs.YtlnjcfgihklppaaGreat.votingBack
open Go.ChangeShapes Go.WideShapes Go.ChangeAt Go.RowKit
set_option linter.unusedVariables false
set_option linter.unusedSimpArgs false

theorem jIn : (Rows.votingBackRow.inPlace == Tryz.prog.inPlace 5) = true := by kernel_rfl
theorem jUn : (Rows.votingBackRow.unfollowed == Tryz.prog.unfollowed 5) = true := by kernel_rfl
theorem jRe : (Rows.votingBackRow.recurses == Tryz.prog.recurses 5) = true := by kernel_rfl
theorem jNa : (Rows.votingBackRow.named == Tryz.prog.varsNamed 5) = true := by kernel_rfl
theorem jLa : laidOutB Tryz.prog = true := by kernel_rfl
theorem jMa : mapsRowed Tryz.prog = true := by kernel_rfl
theorem jFn : Tryz.prog.funcNamed Rows.votingBackRow.func = some 5 := by kernel_rfl
end Go.Proofs.YtlnjcfgihklppaaGreat.votingBack

