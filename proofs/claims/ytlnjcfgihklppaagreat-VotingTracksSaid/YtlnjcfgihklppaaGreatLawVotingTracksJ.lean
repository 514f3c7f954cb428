/-
  The law VotingTracks: facts of its row.
-/
import Derived.Test.YtlnjcfgihklppaaGreatRows
import Derived.Test.YtlnjcfgihklppaaGreatChecked
import Derived.JoinedOf
import Derived.ProofKit
import Derived.Stop.Joined
namespace Go.Proofs.YtlnjcfgihklppaaGreat.votingTracks
open Go.ChangeShapes Go.WideShapes Go.ChangeAt Go.RowKit
set_option linter.unusedVariables false
set_option linter.unusedSimpArgs false

theorem jIn : (Rows.votingTracksRow.inPlace == Tryz.prog.inPlace 11) = true := by kernel_rfl
theorem jUn : (Rows.votingTracksRow.unfollowed == Tryz.prog.unfollowed 11) = true := by kernel_rfl
theorem jRe : (Rows.votingTracksRow.recurses == Tryz.prog.recurses 11) = true := by kernel_rfl
theorem jNa : (Rows.votingTracksRow.named == Tryz.prog.varsNamed 11) = true := by kernel_rfl
theorem jLa : laidOutB Tryz.prog = true := by kernel_rfl
theorem jMa : mapsRowed Tryz.prog = true := by kernel_rfl
theorem jFn : Tryz.prog.funcNamed Rows.votingTracksRow.func = some 11 := by kernel_rfl
end Go.Proofs.YtlnjcfgihklppaaGreat.votingTracks

