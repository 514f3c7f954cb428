/- For every argument the law VotingTracks returns true, and each argument reads behind the call as it read before it. No condition. -/
import Derived.Test.YtlnjcfgihklppaaGreatRows
import Derived.Test.YtlnjcfgihklppaaGreatLawVotingTracksB
namespace Go.Proofs.YtlnjcfgihklppaaGreat.votingTracks
open Go.ChangeShapes Go.WideShapes Go.ChangeAt Go.RowKit

theorem proved : Rows.VotingTracksSaid := row
end Go.Proofs.YtlnjcfgihklppaaGreat.votingTracks
