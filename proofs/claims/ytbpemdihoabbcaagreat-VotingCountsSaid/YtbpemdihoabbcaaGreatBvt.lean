/- A part. -/
import Derived.Test.YtbpemdihoabbcaaGreatBac3
import Derived.Test.YtbpemdihoabbcaaGreatBact
namespace Go.Proofs.YtbpemdihoabbcaaGreat
set_option linter.unusedVariables false
set_option linter.unusedSimpArgs false
set_option maxRecDepth 100000
set_option maxHeartbeats 8000000
open Go.RowKit Go.Maps
theorem voteAct : VoteAct := fun d now s F w a r t st who lv n x wa wr wt h0 hs hN => law11_act_Vote (d := d) (now := now) (s := s) (F := F) (w := w) a r t st who lv n x wa wr wt h0 hs hN
end Go.Proofs.YtbpemdihoabbcaaGreat
