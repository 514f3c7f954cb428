/- For every argument the law ReferRefunds returns true, and each argument reads behind the call as it read before it. No condition. -/
import Derived.Test.YtpkamfbjgdmmoaaGreatRows
import Derived.Test.YtpkamfbjgdmmoaaGreatLawReferRefundsB
namespace Go.Proofs.YtpkamfbjgdmmoaaGreat.referRefunds
open Go.ChangeShapes Go.WideShapes Go.ChangeAt Go.RowKit

theorem proved : Rows.ReferRefundsSaid := row
end Go.Proofs.YtpkamfbjgdmmoaaGreat.referRefunds
