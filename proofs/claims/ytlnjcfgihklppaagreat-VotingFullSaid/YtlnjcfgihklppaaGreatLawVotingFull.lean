/- For every argument the law VotingFull returns true, and each argument reads behind the call as it read before it. No condition. -/
import Derived.Test.YtlnjcfgihklppaaGreatRows
import Derived.Test.YtlnjcfgihklppaaGreatLawVotingFullB
namespace Go.Proofs.YtlnjcfgihklppaaGreat.votingFull
open Go.ChangeShapes Go.WideShapes Go.ChangeAt Go.RowKit

theorem proved : Rows.VotingFullSaid := row
end Go.Proofs.YtlnjcfgihklppaaGreat.votingFull
