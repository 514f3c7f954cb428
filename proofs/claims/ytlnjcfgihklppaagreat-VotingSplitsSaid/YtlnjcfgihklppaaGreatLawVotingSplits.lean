/- For every argument the law VotingSplits returns true, and each argument reads behind the call as it read before it. No condition. -/
import Derived.Test.YtlnjcfgihklppaaGreatRows
import Derived.Test.YtlnjcfgihklppaaGreatLawVotingSplitsB
namespace Go.Proofs.YtlnjcfgihklppaaGreat.votingSplits
open Go.ChangeShapes Go.WideShapes Go.ChangeAt Go.RowKit

theorem proved : Rows.VotingSplitsSaid := row
end Go.Proofs.YtlnjcfgihklppaaGreat.votingSplits
