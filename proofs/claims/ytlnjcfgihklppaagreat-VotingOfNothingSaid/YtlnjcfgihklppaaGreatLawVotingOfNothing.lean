/- For every argument the law VotingOfNothing returns true, and each argument reads behind the call as it read before it. No condition. -/
import Derived.Test.YtlnjcfgihklppaaGreatRows
import Derived.Test.YtlnjcfgihklppaaGreatLawVotingOfNothingB
namespace Go.Proofs.YtlnjcfgihklppaaGreat.votingOfNothing
open Go.ChangeShapes Go.WideShapes Go.ChangeAt Go.RowKit

theorem proved : Rows.VotingOfNothingSaid := row
end Go.Proofs.YtlnjcfgihklppaaGreat.votingOfNothing
