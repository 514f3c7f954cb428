/- For every argument the law VotingPlays returns true, and each argument reads behind the call as it read before it. No condition. -/
import Derived.Test.YtbpemdihoabbcaaGreatRows
import Derived.Test.YtbpemdihoabbcaaGreatLawVotingPlaysB
namespace Go.Proofs.YtbpemdihoabbcaaGreat.votingPlays
open Go.ChangeShapes Go.WideShapes Go.ChangeAt Go.RowKit

theorem proved : Rows.VotingPlaysSaid := row
end Go.Proofs.YtbpemdihoabbcaaGreat.votingPlays
