/- For every argument the law ReferBacks returns true, and each argument reads behind the call as it read before it. No condition. -/
import Derived.Test.YtpkamfbjgdmmoaaGreatRows
import Derived.Test.YtpkamfbjgdmmoaaGreatLawReferBacksB
namespace Go.Proofs.YtpkamfbjgdmmoaaGreat.referBacks
open Go.ChangeShapes Go.WideShapes Go.ChangeAt Go.RowKit

theorem proved : Rows.ReferBacksSaid := row
end Go.Proofs.YtpkamfbjgdmmoaaGreat.referBacks
