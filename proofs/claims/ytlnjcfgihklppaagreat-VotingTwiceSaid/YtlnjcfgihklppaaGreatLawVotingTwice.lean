/- For every argument the law VotingTwice returns true, and each argument reads behind the call as it read before it. No condition. -/
import Derived.Test.YtlnjcfgihklppaaGreatRows
import Derived.Test.YtlnjcfgihklppaaGreatLawVotingTwiceB
namespace Go.Proofs.YtlnjcfgihklppaaGreat.votingTwice
open Go.ChangeShapes Go.WideShapes Go.ChangeAt Go.RowKit

theorem proved : Rows.VotingTwiceSaid := row
end Go.Proofs.YtlnjcfgihklppaaGreat.votingTwice
