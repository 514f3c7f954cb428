/- For every argument the law ReferTracks returns true, and each argument reads behind the call as it read before it. No condition. -/
import Derived.Test.YtpkamfbjgdmmoaaGreatRows
import Derived.Test.YtpkamfbjgdmmoaaGreatLawReferTracksB
namespace Go.Proofs.YtpkamfbjgdmmoaaGreat.referTracks
open Go.ChangeShapes Go.WideShapes Go.ChangeAt Go.RowKit

theorem proved : Rows.ReferTracksSaid := row
end Go.Proofs.YtpkamfbjgdmmoaaGreat.referTracks
