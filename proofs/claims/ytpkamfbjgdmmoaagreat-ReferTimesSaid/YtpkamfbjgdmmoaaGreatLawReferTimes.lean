/- For every argument the law ReferTimes returns true, and each argument reads behind the call as it read before it. No condition. -/
import Derived.Test.YtpkamfbjgdmmoaaGreatRows
import Derived.Test.YtpkamfbjgdmmoaaGreatLawReferTimesB
namespace Go.Proofs.YtpkamfbjgdmmoaaGreat.referTimes
open Go.ChangeShapes Go.WideShapes Go.ChangeAt Go.RowKit

theorem proved : Rows.ReferTimesSaid := row
end Go.Proofs.YtpkamfbjgdmmoaaGreat.referTimes
