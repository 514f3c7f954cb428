/- For every argument the law ReferOfNothing returns true, and each argument reads behind the call as it read before it. No condition. -/
import Derived.Test.YtpkamfbjgdmmoaaGreatRows
import Derived.Test.YtpkamfbjgdmmoaaGreatLawReferOfNothingB
namespace Go.Proofs.YtpkamfbjgdmmoaaGreat.referOfNothing
open Go.ChangeShapes Go.WideShapes Go.ChangeAt Go.RowKit

theorem proved : Rows.ReferOfNothingSaid := row
end Go.Proofs.YtpkamfbjgdmmoaaGreat.referOfNothing
