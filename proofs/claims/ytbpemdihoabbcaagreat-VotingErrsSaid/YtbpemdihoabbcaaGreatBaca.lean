/- A part. -/
import Derived.Test.YtbpemdihoabbcaaGreatBact
namespace Go.Proofs.YtbpemdihoabbcaaGreat
set_option linter.unusedVariables false
set_option linter.unusedSimpArgs false
set_option maxRecDepth 100000
set_option maxHeartbeats 8000000
open Go.RowKit Go.Maps Go.Shelf
section
variable {d : Bp} {now : Int} {s : Sx} {F : FP} {w w' : World}
theorem law11_act (hv : VoteAct) (z : Ac) (hz : AcWf z) (h : (bwM d now s s).is F w) (hs : s.Ok) (hN : d.N ≤ d.p) : Calls Tryz.prog 8 #[.pointer (some ⟨d.p, 0, none⟩), .agg (acF z).toArray] w fun e w' => e = .returned (.bool true) ∧ ∃ now' s', (bwM d now' s' s').to F w w' ∧ Sx.Ok s' := by
 obtain ⟨k, a, r, t, st, who, lv, n, x⟩ := z
 obtain ⟨wa, wr, wt⟩ := hz
 by_cases e1 : k = 1
 · subst e1
   exact (law11_act_Open a r t st who lv n x wa wr wt h hs hN).mono fun e w' ⟨he, h1, h2⟩ => ⟨he, _, _, h1, h2⟩
 by_cases e2 : k = 2
 · subst e2
   exact (law11_act_Close a r t st who lv n x wa wr wt h hs hN).mono fun e w' ⟨he, h1, h2⟩ => ⟨he, _, _, h1, h2⟩
 by_cases e3 : k = 3
 · subst e3
   exact (hv d now s F w a r t st who lv n x wa wr wt h hs hN).mono fun e w' ⟨he, h1, h2⟩ => ⟨he, _, _, h1, h2⟩
 by_cases e4 : k = 4
 · subst e4
   exact (law11_act_Unvote a r t st who lv n x wa wr wt h hs hN).mono fun e w' ⟨he, h1, h2⟩ => ⟨he, _, _, h1, h2⟩
 by_cases e5 : k = 5
 · subst e5
   exact (law11_act_Delegate a r t st who lv n x wa wr wt h hs hN).mono fun e w' ⟨he, h1, h2⟩ => ⟨he, _, _, h1, h2⟩
 by_cases e6 : k = 6
 · subst e6
   exact (law11_act_Undelegate a r t st who lv n x wa wr wt h hs hN).mono fun e w' ⟨he, h1, h2⟩ => ⟨he, _, _, h1, h2⟩
 by_cases e7 : k = 7
 · subst e7
   exact (law11_act_Unlock a r t st who lv n x wa wr wt h hs hN).mono fun e w' ⟨he, h1, h2⟩ => ⟨he, _, _, h1, h2⟩
 by_cases e8 : k = 8
 · subst e8
   exact (law11_act_Tick a r t st who lv n x h).mono fun e w' ⟨he, now', h1⟩ => ⟨he, now', s, h1, hs⟩
 exact (law11_act_Transfer k a r t st who lv n x e1 e2 e3 e4 e5 e6 e7 e8 (bq_accOk h) wa wr wt h hs hN).mono fun e w' ⟨he, h1, h2⟩ => ⟨he, _, _, h1, h2⟩
end
end Go.Proofs.YtbpemdihoabbcaaGreat
