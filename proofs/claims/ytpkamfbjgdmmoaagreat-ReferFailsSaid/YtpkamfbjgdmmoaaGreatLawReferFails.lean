/- For every argument the law ReferFails returns true, and each argument reads behind the call as it read before it. No condition. -/
import Derived.Test.YtpkamfbjgdmmoaaGreatRows
import Derived.Test.YtpkamfbjgdmmoaaGreatLawReferFailsB
namespace Go.Proofs.YtpkamfbjgdmmoaaGreat.referFails
open Go.ChangeShapes Go.WideShapes Go.ChangeAt Go.RowKit

theorem proved : Rows.ReferFailsSaid := row
end Go.Proofs.YtpkamfbjgdmmoaaGreat.referFails
