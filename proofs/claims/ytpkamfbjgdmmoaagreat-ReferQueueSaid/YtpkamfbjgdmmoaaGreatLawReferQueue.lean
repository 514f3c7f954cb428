/- For every argument the law ReferQueue returns true, and each argument reads behind the call as it read before it. No condition. -/
import Derived.Test.YtpkamfbjgdmmoaaGreatRows
import Derived.Test.YtpkamfbjgdmmoaaGreatLawReferQueueB
namespace Go.Proofs.YtpkamfbjgdmmoaaGreat.referQueue
open Go.ChangeShapes Go.WideShapes Go.ChangeAt Go.RowKit

theorem proved : Rows.ReferQueueSaid := row
end Go.Proofs.YtpkamfbjgdmmoaaGreat.referQueue
