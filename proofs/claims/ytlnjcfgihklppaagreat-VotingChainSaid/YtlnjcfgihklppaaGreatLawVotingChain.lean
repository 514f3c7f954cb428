/- For every argument the law VotingChain returns true, and each argument reads behind the call as it read before it. No condition. -/
import Derived.Test.YtlnjcfgihklppaaGreatRows
import Derived.Test.YtlnjcfgihklppaaGreatLawVotingChainB
namespace Go.Proofs.YtlnjcfgihklppaaGreat.votingChain
open Go.ChangeShapes Go.WideShapes Go.ChangeAt Go.RowKit

theorem proved : Rows.VotingChainSaid := row
end Go.Proofs.YtlnjcfgihklppaaGreat.votingChain
