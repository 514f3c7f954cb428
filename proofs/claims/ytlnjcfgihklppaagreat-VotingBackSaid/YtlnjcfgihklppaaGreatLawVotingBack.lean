/- For every argument the law VotingBack returns true, and each argument reads behind the call as it read before it. No condition. -/
import Derived.Test.YtlnjcfgihklppaaGreatRows
import Derived.Test.YtlnjcfgihklppaaGreatLawVotingBackB
namespace Go.Proofs.YtlnjcfgihklppaaGreat.votingBack
open Go.ChangeShapes Go.WideShapes Go.ChangeAt Go.RowKit

theorem proved : Rows.VotingBackSaid := row
end Go.Proofs.YtlnjcfgihklppaaGreat.votingBack
