/- For every argument the law ReferFull returns true, and each argument reads behind the call as it read before it. No condition. -/
import Derived.Test.YtpkamfbjgdmmoaaGreatRows
import Derived.Test.YtpkamfbjgdmmoaaGreatLawReferFullB
namespace Go.Proofs.YtpkamfbjgdmmoaaGreat.referFull
open Go.ChangeShapes Go.WideShapes Go.ChangeAt Go.RowKit

theorem proved : Rows.ReferFullSaid := row
end Go.Proofs.YtpkamfbjgdmmoaaGreat.referFull
