/- For every argument the law VotingLends returns true, and each argument reads behind the call as it read before it. No condition. -/
import Derived.Test.YtlnjcfgihklppaaGreatRows
import Derived.Test.YtlnjcfgihklppaaGreatLawVotingLendsB
namespace Go.Proofs.YtlnjcfgihklppaaGreat.votingLends
open Go.ChangeShapes Go.WideShapes Go.ChangeAt Go.RowKit

theorem proved : Rows.VotingLendsSaid := row
end Go.Proofs.YtlnjcfgihklppaaGreat.votingLends
