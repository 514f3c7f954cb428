/- For every argument the law ReferConfirms returns true, and each argument reads behind the call as it read before it. No condition. -/
import Derived.Test.YtpkamfbjgdmmoaaGreatRows
import Derived.Test.YtpkamfbjgdmmoaaGreatLawReferConfirmsB
namespace Go.Proofs.YtpkamfbjgdmmoaaGreat.referConfirms
open Go.ChangeShapes Go.WideShapes Go.ChangeAt Go.RowKit

theorem proved : Rows.ReferConfirmsSaid := row
end Go.Proofs.YtpkamfbjgdmmoaaGreat.referConfirms
