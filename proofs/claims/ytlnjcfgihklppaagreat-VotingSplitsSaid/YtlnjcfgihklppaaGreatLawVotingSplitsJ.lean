/-
  The law VotingSplits: facts of its row.
-/
import Derived.Test.YtlnjcfgihklppaaGreatRows
import Derived.Test.YtlnjcfgihklppaaGreatChecked
import Derived.JoinedOf
import Derived.ProofKit
import Derived.Stop.Joined
namespace Go.Proofs.YtlnjcfgihklppaaGreat.votingSplits
open Go.ChangeShapes Go.WideShapes Go.ChangeAt Go.RowKit
set_option linter.unusedVariables false
set_option linter.unusedSimpArgs false

theorem jIn : (Rows.votingSplitsRow.inPlace == Tryz.prog.inPlace 9) = true := by kernel_rfl
theorem jUn : (Rows.votingSplitsRow.unfollowed == Tryz.prog.unfollowed 9) = true := by kernel_rfl
theorem jRe : (Rows.votingSplitsRow.recurses == Tryz.prog.recurses 9) = true := by kernel_rfl
theorem jNa : (Rows.votingSplitsRow.named == Tryz.prog.varsNamed 9) = true := by kernel_rfl
theorem jLa : laidOutB Tryz.prog = true := by kernel_rfl
theorem jMa : mapsRowed Tryz.prog = true := by kernel_rfl
theorem jFn : Tryz.prog.funcNamed Rows.votingSplitsRow.func = some 9 := by kernel_rfl
end Go.Proofs.YtlnjcfgihklppaaGreat.votingSplits

