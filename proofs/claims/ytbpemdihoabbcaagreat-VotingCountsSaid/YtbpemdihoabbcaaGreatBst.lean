/- A part. -/
import Derived.Test.YtbpemdihoabbcaaGreatBact
import Derived.Test.YtbpemdihoabbcaaGreatSxs
namespace Go.Proofs.YtbpemdihoabbcaaGreat
set_option linter.unusedVariables false
set_option linter.unusedSimpArgs false
set_option maxRecDepth 100000
set_option maxHeartbeats 8000000
open Go.RowKit Go.Maps Go.Shelf
def stepX (now : Int) (s : Sx) (z : Ac) : Sx :=
 if z.k = 1 then ⟨s.A, s.M, openS s.S z.r z.t⟩
 else if z.k = 2 then ⟨s.A, s.M, closeS s.S z.r z.st now⟩
 else if z.k = 3 then ⟨s.A, voteM s.S s.A s.M z.a z.r z.x, voteS s.S s.A z.a z.r z.x⟩
 else if z.k = 4 then ⟨s.A, s.M, unvoteS s.S z.a z.r now⟩
 else if z.k = 5 then ⟨s.A, delM s.S s.A s.M z.a z.t z.who z.lv z.n, delS s.S s.A z.a z.t z.who z.lv z.n⟩
 else if z.k = 6 then ⟨s.A, s.M, undS s.S z.a z.t now⟩
 else if z.k = 7 then ⟨s.A, unlM s.S s.M z.a z.t now, unlS s.S z.a z.t now⟩
 else if z.k = 8 then s
 else ⟨transA s.A s.M z.a z.who z.n, s.M, s.S⟩
section
variable {d : Bp} {now : Int} {s : Sx} {F : FP} {w w' : World}
theorem bq_srt (h : (bwM d now s s).is F w) : s.Srt := by
 obtain ⟨Fv, hx⟩ := bq_vo h
 obtain ⟨Fl, hl⟩ := bq_ld h
 obtain ⟨h1, h2, h3, h4⟩ := hx.srt
 exact ⟨hl.srt.1, h1, h2, h3, h4⟩
theorem law11_actS (hv : VoteAct) (z : Ac) (hz : AcWf z) (h : (bwM d now s s).is F w) (hs : s.Ok) (hN : d.N ≤ d.p) : Calls Tryz.prog 8 #[.pointer (some ⟨d.p, 0, none⟩), .agg (acF z).toArray] w fun e w' => e = .returned (.bool true) ∧ ∃ now', (bwM d now' (stepX now s z) (stepX now s z)).to F w w' ∧ Sx.Ok (stepX now s z) := by
 obtain ⟨k, a, r, t, st, who, lv, n, x⟩ := z
 obtain ⟨wa, wr, wt⟩ := hz
 unfold stepX
 dsimp only
 by_cases e1 : k = 1
 · subst e1
   rw [if_pos rfl]
   exact (law11_act_Open a r t st who lv n x wa wr wt h hs hN).mono fun e w' ⟨he, h1, h2⟩ => ⟨he, _, h1, h2⟩
 rw [if_neg e1]
 by_cases e2 : k = 2
 · subst e2
   rw [if_pos rfl]
   exact (law11_act_Close a r t st who lv n x wa wr wt h hs hN).mono fun e w' ⟨he, h1, h2⟩ => ⟨he, _, h1, h2⟩
 rw [if_neg e2]
 by_cases e3 : k = 3
 · subst e3
   rw [if_pos rfl]
   exact (hv d now s F w a r t st who lv n x wa wr wt h hs hN).mono fun e w' ⟨he, h1, h2⟩ => ⟨he, _, h1, h2⟩
 rw [if_neg e3]
 by_cases e4 : k = 4
 · subst e4
   rw [if_pos rfl]
   exact (law11_act_Unvote a r t st who lv n x wa wr wt h hs hN).mono fun e w' ⟨he, h1, h2⟩ => ⟨he, _, h1, h2⟩
 rw [if_neg e4]
 by_cases e5 : k = 5
 · subst e5
   rw [if_pos rfl]
   exact (law11_act_Delegate a r t st who lv n x wa wr wt h hs hN).mono fun e w' ⟨he, h1, h2⟩ => ⟨he, _, h1, h2⟩
 rw [if_neg e5]
 by_cases e6 : k = 6
 · subst e6
   rw [if_pos rfl]
   exact (law11_act_Undelegate a r t st who lv n x wa wr wt h hs hN).mono fun e w' ⟨he, h1, h2⟩ => ⟨he, _, h1, h2⟩
 rw [if_neg e6]
 by_cases e7 : k = 7
 · subst e7
   rw [if_pos rfl]
   exact (law11_act_Unlock a r t st who lv n x wa wr wt h hs hN).mono fun e w' ⟨he, h1, h2⟩ => ⟨he, _, h1, h2⟩
 rw [if_neg e7]
 by_cases e8 : k = 8
 · subst e8
   rw [if_pos rfl]
   exact (law11_act_Tick a r t st who lv n x h).mono fun e w' ⟨he, now', h1⟩ => ⟨he, now', h1, hs⟩
 rw [if_neg e8]
 exact (law11_act_Transfer k a r t st who lv n x e1 e2 e3 e4 e5 e6 e7 e8 (bq_accOk h) wa wr wt h hs hN).mono fun e w' ⟨he, h1, h2⟩ => ⟨he, _, h1, h2⟩
end
end Go.Proofs.YtbpemdihoabbcaaGreat
