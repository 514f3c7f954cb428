/- For every argument the law VotingFunds returns true, and each argument reads behind the call as it read before it. No condition. -/
import Derived.Test.YtlnjcfgihklppaaGreatRows
import Derived.Test.YtlnjcfgihklppaaGreatLawVotingFundsB
namespace Go.Proofs.YtlnjcfgihklppaaGreat.votingFunds
open Go.ChangeShapes Go.WideShapes Go.ChangeAt Go.RowKit

theorem proved : Rows.VotingFundsSaid := row
end Go.Proofs.YtlnjcfgihklppaaGreat.votingFunds
