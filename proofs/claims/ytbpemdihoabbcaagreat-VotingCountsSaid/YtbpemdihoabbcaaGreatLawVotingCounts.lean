/- For every argument the law VotingCounts returns true, and each argument reads behind the call as it read before it. No condition. -/
import Derived.Test.YtbpemdihoabbcaaGreatRows
import Derived.Test.YtbpemdihoabbcaaGreatLawVotingCountsB
namespace Go.Proofs.YtbpemdihoabbcaaGreat.votingCounts
open Go.ChangeShapes Go.WideShapes Go.ChangeAt Go.RowKit

theorem proved : Rows.VotingCountsSaid := row
end Go.Proofs.YtbpemdihoabbcaaGreat.votingCounts
