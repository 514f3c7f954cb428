/- For every argument the law VotingErrs returns true, and each argument reads behind the call as it read before it. No condition. -/
import Derived.Test.YtbpemdihoabbcaaGreatRows
import Derived.Test.YtbpemdihoabbcaaGreatLawVotingErrsB
namespace Go.Proofs.YtbpemdihoabbcaaGreat.votingErrs
open Go.ChangeShapes Go.WideShapes Go.ChangeAt Go.RowKit

theorem proved : Rows.VotingErrsSaid := row
end Go.Proofs.YtbpemdihoabbcaaGreat.votingErrs
