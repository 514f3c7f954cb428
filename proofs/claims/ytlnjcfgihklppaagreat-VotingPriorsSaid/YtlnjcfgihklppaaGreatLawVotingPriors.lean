/- For every argument the law VotingPriors returns true, and each argument reads behind the call as it read before it. No condition. -/
import Derived.Test.YtlnjcfgihklppaaGreatRows
import Derived.Test.YtlnjcfgihklppaaGreatLawVotingPriorsB
namespace Go.Proofs.YtlnjcfgihklppaaGreat.votingPriors
open Go.ChangeShapes Go.WideShapes Go.ChangeAt Go.RowKit

theorem proved : Rows.VotingPriorsSaid := row
end Go.Proofs.YtlnjcfgihklppaaGreat.votingPriors
