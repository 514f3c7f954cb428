/- For every argument the law VotingHolds returns true, and each argument reads behind the call as it read before it. No condition. -/
import Derived.Test.YtbpemdihoabbcaaGreatRows
import Derived.Test.YtbpemdihoabbcaaGreatLawVotingHoldsB
namespace Go.Proofs.YtbpemdihoabbcaaGreat.votingHolds
open Go.ChangeShapes Go.WideShapes Go.ChangeAt Go.RowKit

theorem proved : Rows.VotingHoldsSaid := row
end Go.Proofs.YtbpemdihoabbcaaGreat.votingHolds
