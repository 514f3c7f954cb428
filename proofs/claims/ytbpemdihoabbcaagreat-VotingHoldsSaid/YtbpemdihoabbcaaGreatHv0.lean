/-
  VotingHolds: what a vote, a delegation, a prior lock asks for is locked, and what is locked is free.
-/
import Derived.Test.YtbpemdihoabbcaaGreatUC
import Derived.Test.YtbpemdihoabbcaaGreatMhm
import Derived.Test.YtbpemdihoabbcaaGreatSxs
namespace Go.Proofs.YtbpemdihoabbcaaGreat
set_option linter.unusedVariables false
set_option linter.unusedSimpArgs false
set_option maxRecDepth 100000
set_option maxHeartbeats 8000000
open Go.RowKit Go.Maps
def lkv (M : Cls Int) (a t : Int) : Int := (cget M a t).getD 0
theorem lkv_put {M : Cls Int} (h : SrtC M) (a t a' t' v : Int) : lkv (cput M a t v) a' t' = if a' = a ∧ t' = t then v else lkv M a' t' := by
 unfold lkv
 rw [cget_put h]
 split <;> rfl
theorem lkv_del {M : Cls Int} (h : SrtC M) (a t a' t' : Int) : lkv (cdel M a t) a' t' = if a' = a ∧ t' = t then 0 else lkv M a' t' := by
 unfold lkv
 rw [cget_del h]
 split <;> rfl
theorem lkv_lockM {M : Cls Int} (h : SrtC M) {a n : Int} (ha : isAcc a) (hn : isBal n) (t a' t' : Int) : lkv (lockM M a t n) a' t' = if a' = a ∧ t' = t then n else lkv M a' t' := by
 unfold lockM
 rw [if_neg (fun q => q ha)]
 split
 · rename_i q
   have hn0 : n = 0 := by
    rcases q with q | q
    · exact q
    · exact (q hn).elim
   rw [lkv_del h, hn0]
 · rw [lkv_put h]
theorem lkv_raiseM {M : Cls Int} (h : SrtC M) {a n : Int} (ha : isAcc a) (hn : isBal n) (t a' t' : Int) : lkv (raiseM M a t n) a' t' = if a' = a ∧ t' = t then max (lkv M a t) n else lkv M a' t' := by
 unfold raiseM
 split
 · rename_i q
   obtain ⟨x, hx, h1, h2⟩ := q
   have hm := mem_rowOf.1 hx
   rw [h1] at hm
   have hg : lkv M a t = x.2 := by unfold lkv; rw [h.get.2 hm]; rfl
   by_cases e : a' = a ∧ t' = t
   · rw [if_pos e, e.1, e.2, hg]; omega
   · rw [if_neg e]
 · rename_i q
   rw [lkv_lockM h ha hn]
   by_cases e : a' = a ∧ t' = t
   · rw [if_pos e, if_pos e]
     cases hg : cget M a t with
     | none =>
      have : lkv M a t = 0 := by unfold lkv; rw [hg]; rfl
      rw [this]
      have := hn.1
      omega
     | some y =>
      have e1 : lkv M a t = y := by unfold lkv; rw [hg]; rfl
      rw [e1]
      have : ¬ n ≤ y := fun hle => q ⟨(t, y), mem_rowOf.2 (h.get.1 hg), rfl, hle⟩
      omega
   · rw [if_neg e, if_neg e]
theorem lkv_le_locked {M : Cls Int} (h : SrtC M) (a t : Int) : lkv M a t ≤ lockedOf M a := by
 unfold lkv
 cases hg : cget M a t with
 | none => exact maxTo_nonneg _
 | some y => exact maxTo_le (x := (t, y)) (mem_rowOf.2 (h.get.1 hg))
theorem locked_le_lk {M : Cls Int} (h : SrtC M) {a x : Int} (h0 : 0 ≤ x) (hx : ∀ t, lkv M a t ≤ x) : lockedOf M a ≤ x := by
 rcases maxTo_is (rowOf M a) with e | ⟨y, hy, e⟩
 · unfold lockedOf; rw [e]; exact h0
 · have h1 := hx y.1
   unfold lkv at h1
   rw [h.get.2 (mem_rowOf.1 hy)] at h1
   unfold lockedOf
   rw [e]
   exact h1
theorem capB_bd {x : Bal} (h : balOk x = true) : isBal (capB x) ∧ 0 ≤ x.a ∧ x.a ≤ capB x := by
 obtain ⟨k, aye, l, a, n, s⟩ := x
 simp only [balOk, voteB, Bool.and_eq_true] at h
 obtain ⟨⟨⟨⟨h0, h1⟩, h2⟩, h3⟩, h4⟩ := h
 have := (withinB_out h1).1
 have := (withinB_out h2).1
 have := (withinB_out h3).1
 have := withinB_out h4
 refine ⟨⟨?_, ?_⟩, ?_, ?_⟩
 · show 0 ≤ a + n + s; omega
 · show a + n + s ≤ 1073741824; omega
 · show 0 ≤ a; omega
 · show a ≤ a + n + s; omega
structure HInv (s : Sx) : Prop where
 m : ∀ a t, isBal (lkv s.M a t)
 f : ∀ a t, isAcc a → lkv s.M a t ≤ (s.A a.toNat).1
 v : ∀ a k x, cget s.S.V a k = some x → capB x ≤ lkv s.M a (s.S.P k.toNat).tr
 d : ∀ a t x, cget s.S.D a t = some x → x.n ≤ lkv s.M a t
 q : ∀ a t x, cget s.S.Q a t = some x → x.c ≤ lkv s.M a t
section
variable {s : Sx}
theorem HInv.joinQ (h : HInv s) (hq : SrtC s.S.Q) {a t n : Int} (hn : n ≤ lkv s.M a t) (u now : Int) : ∀ a' t' x, cget (joinQ s.S.Q a t u n now) a' t' = some x → x.c ≤ lkv s.M a' t' := by
 intro a' t' x hx
 unfold Go.Proofs.YtbpemdihoabbcaaGreat.joinQ at hx
 split at hx
 · exact h.q a' t' x hx
 · rw [cget_put hq] at hx
   split at hx
   · rename_i e
     injection hx with hx
     rw [← hx, e.1, e.2]
     show max ((cget s.S.Q a t).getD ⟨0, 0⟩).c n ≤ _
     have : ((cget s.S.Q a t).getD ⟨0, 0⟩).c ≤ lkv s.M a t := by
      cases hg : cget s.S.Q a t with
      | none => exact (h.m a t).1
      | some y => exact h.q a t y hg
     omega
   · exact h.q a' t' x hx
theorem HInv.open (h : HInv s) (hs : s.Srt) (hi : VInv s.S) (r t : Int) : HInv ⟨s.A, s.M, openS s.S r t⟩ := by
 unfold openS
 split
 · rename_i e
   refine ⟨h.m, h.f, fun a k x hx => ?_, h.d, h.q⟩
   have hx' : cget s.S.V a k = some x := hx
   have h1 := h.v a k x hx'
   have h2 : (putP s.S.P r.toNat (newPl t) k.toNat).tr = (s.S.P k.toNat).tr := by
    by_cases e1 : k.toNat = r.toNat
    · have h3 := (hi.v _ (hs.v.get.1 hx')).2.1
      have h3' : (s.S.P k.toNat).st ≠ 0 := h3
      unfold openE at e
      rw [← e1, if_pos h3'] at e
      split at e <;> omega
    · rw [putP_other _ _ e1]
   show capB x ≤ lkv s.M a (putP s.S.P r.toNat (newPl t) k.toNat).tr
   rw [h2]
   exact h1
 · exact h
theorem HInv.polls (h : HInv s) {P' : Nat → Pl} (hp : ∀ k, (P' k).tr = (s.S.P k).tr) : HInv ⟨s.A, s.M, { s.S with P := P' }⟩ :=
 ⟨h.m, h.f, fun a k x hx => by show capB x ≤ lkv s.M a (P' k.toNat).tr; rw [hp]; exact h.v a k x hx, h.d, h.q⟩
theorem putP_tr' (P : Nat → Pl) (j : Nat) (p : Pl) (h : p.tr = (P j).tr) (k : Nat) : (putP P j p k).tr = (P k).tr := by
 by_cases e : k = j
 · subst e; rw [putP_same]; exact h
 · rw [putP_other _ _ e]
theorem HInv.close (h : HInv s) (r st en : Int) : HInv ⟨s.A, s.M, closeS s.S r st en⟩ := by
 unfold closeS
 split
 · exact h.polls (putP_tr' _ _ _ rfl)
 · exact h
theorem voteE_free {S : Vs} {A : Acc} {a r : Int} {x : Bal} (h : voteE S A a r x = 0) : capB x ≤ (A a.toNat).1 := by
 unfold voteE at h
 split at h
 · omega
 split at h
 · omega
 split at h
 · omega
 split at h
 · omega
 split at h
 · omega
 · omega
theorem delE_free {S : Vs} {A : Acc} {a t who l n : Int} (h : delE S A a t who l n = 0) : n ≤ (A a.toNat).1 := by
 unfold delE at h
 split at h
 · omega
 split at h
 · omega
 split at h
 · omega
 split at h
 · omega
 · omega
theorem HInv.raise (h : HInv s) (hs : SrtC s.M) {a t n : Int} (ha : isAcc a) (hn : isBal n) (hf : n ≤ (s.A a.toNat).1) : HInv ⟨s.A, raiseM s.M a t n, s.S⟩ ∧ n ≤ lkv (raiseM s.M a t n) a t := by
 have hmo : ∀ a' t', lkv s.M a' t' ≤ lkv (raiseM s.M a t n) a' t' := fun a' t' => by
  rw [lkv_raiseM hs ha hn]
  split
  · rename_i e; rw [e.1, e.2]; omega
  · exact Int.le_refl _
 refine ⟨⟨fun a' t' => ?_, fun a' t' ha' => ?_, fun a' k x hx => Int.le_trans (h.v a' k x hx) (hmo _ _), fun a' t' x hx => Int.le_trans (h.d a' t' x hx) (hmo _ _), fun a' t' x hx => Int.le_trans (h.q a' t' x hx) (hmo _ _)⟩, ?_⟩
 · show isBal (lkv (raiseM s.M a t n) a' t')
   rw [lkv_raiseM hs ha hn]
   split
   · have := h.m a t
     obtain ⟨h1, h2⟩ := this
     obtain ⟨h3, h4⟩ := hn
     exact ⟨by omega, by omega⟩
   · exact h.m a' t'
 · show lkv (raiseM s.M a t n) a' t' ≤ (s.A a'.toNat).1
   rw [lkv_raiseM hs ha hn]
   split
   · rename_i e
     rw [e.1]
     have := h.f a t ha
     omega
   · exact h.f a' t' ha'
 · rw [lkv_raiseM hs ha hn, if_pos ⟨rfl, rfl⟩]; omega
theorem HInv.vote (h : HInv s) (hs : s.Srt) (a r : Int) (x : Bal) : HInv ⟨s.A, voteM s.S s.A s.M a r x, voteS s.S s.A a r x⟩ := by
 unfold voteM voteS
 split
 · rename_i e
   obtain ⟨ha, hok, -, -⟩ := voteE_ok e
   obtain ⟨h1, h2⟩ := h.raise hs.m (t := (s.S.P r.toNat).tr) ha (capB_bd hok).1 (voteE_free e)
   have h3 := h1.polls (P' := putP s.S.P r.toNat ((s.S.P r.toNat).withT (voteT s.S a r x))) (putP_tr' _ _ _ rfl)
   refine ⟨h3.m, h3.f, fun a' k y hy => ?_, h3.d, h3.q⟩
   have hy' : cget (cput s.S.V a r x) a' k = some y := hy
   rw [cget_put hs.v] at hy'
   split at hy'
   · rename_i e2
     injection hy' with hy'
     rw [← hy', e2.1, e2.2]
     show capB x ≤ lkv (raiseM s.M a (s.S.P r.toNat).tr (capB x)) a (putP s.S.P r.toNat ((s.S.P r.toNat).withT (voteT s.S a r x)) r.toNat).tr
     rw [putP_same]
     exact h2
   · exact h3.v a' k y hy'
 · exact h
theorem HInv.delV (h : HInv s) (hs : SrtC s.S.V) (a r : Int) : HInv ⟨s.A, s.M, { s.S with V := cdel s.S.V a r }⟩ :=
 ⟨h.m, h.f, fun a' k x hx => by
  have hx' : cget (cdel s.S.V a r) a' k = some x := hx
  rw [cget_del hs] at hx'
  split at hx'
  · cases hx'
  · exact h.v a' k x hx', h.d, h.q⟩
theorem HInv.delD (h : HInv s) (hs : SrtC s.S.D) (a r : Int) : HInv ⟨s.A, s.M, { s.S with D := cdel s.S.D a r }⟩ :=
 ⟨h.m, h.f, h.v, fun a' k x hx => by
  have hx' : cget (cdel s.S.D a r) a' k = some x := hx
  rw [cget_del hs] at hx'
  split at hx'
  · cases hx'
  · exact h.d a' k x hx', h.q⟩
theorem HInv.setQ (h : HInv s) {Q : Cls Wgt} (hq : ∀ a t x, cget Q a t = some x → x.c ≤ lkv s.M a t) : HInv ⟨s.A, s.M, { s.S with Q := Q }⟩ := ⟨h.m, h.f, h.v, h.d, hq⟩
theorem HInv.unvote (h : HInv s) (hs : s.Srt) (hi : VInv s.S) (a r now : Int) : HInv ⟨s.A, s.M, unvoteS s.S a r now⟩ := by
 unfold unvoteS
 split
 · rename_i e
   have hd := h.delV hs.v a r
   split
   · exact hd.polls (putP_tr' _ _ _ rfl)
   · split
     · refine hd.setQ (HInv.joinQ hd hs.q ?_ _ _)
       have hsome : (cget s.S.V a r).isSome = true := by
        unfold unvoteE at e
        split at e
        · omega
        split at e
        · omega
        rename_i q
        cases hc : (cget s.S.V a r).isSome with
        | true => rfl
        | false => exact (q (.inr hc)).elim
       obtain ⟨y, hy⟩ := Option.isSome_iff_exists.1 hsome
       rw [hy]
       show y.a ≤ lkv s.M a (s.S.P r.toNat).tr
       have h1 := h.v a r y hy
       have h2 := (hi.v _ (hs.v.get.1 hy)).2.2
       exact Int.le_trans (capB_bd h2).2.2 h1
     · exact hd
 · exact h
theorem HInv.lend (h : HInv s) (who t dv dc : Int) : HInv ⟨s.A, s.M, lendS s.S who t dv dc⟩ := by
 have h1 := h.polls (P' := lendP ((cget s.S.G who t).getD ⟨0, 0⟩) (lendG s.S who t dv dc) s.S.P (ballots s.S who t)) (fun k => (lendP_same _ _ _ _ k).2.1)
 exact ⟨h1.m, h1.f, h1.v, h1.d, h1.q⟩
theorem HInv.del (h : HInv s) (hs : s.Srt) (a t who l n : Int) : HInv ⟨s.A, delM s.S s.A s.M a t who l n, delS s.S s.A a t who l n⟩ := by
 unfold delM delS
 split
 · rename_i e
   obtain ⟨ha, -, -, -, hn⟩ := delE_ok e
   obtain ⟨h1, h2⟩ := h.raise hs.m (t := t) ha hn (delE_free e)
   have h3 : HInv ⟨s.A, raiseM s.M a t n, { s.S with D := cput s.S.D a t ⟨who, l, n⟩ }⟩ := ⟨h1.m, h1.f, h1.v, fun a' k y hy => by
    have hy' : cget (cput s.S.D a t ⟨who, l, n⟩) a' k = some y := hy
    rw [cget_put hs.d] at hy'
    split at hy'
    · rename_i e2
      injection hy' with hy'
      rw [← hy', e2.1, e2.2]
      exact h2
    · exact h1.d a' k y hy', h1.q⟩
   exact h3.lend who t _ _
 · exact h
theorem HInv.und (h : HInv s) (hs : s.Srt) (a t now : Int) : HInv ⟨s.A, s.M, undS s.S a t now⟩ := by
 unfold undS
 split
 · have h1 := (h.delD hs.d a t).lend (undD s.S a t).to t (wrap64 (-(votesI (undD s.S a t).n (undD s.S a t).l))) (wrap64 (-(undD s.S a t).n))
   refine h1.setQ (HInv.joinQ h hs.q ?_ _ _)
   unfold undD
   cases hc : cget s.S.D a t with
   | none => exact (h.m a t).1
   | some y => exact h.d a t y hc
 · exact h
theorem foldl_capB : ∀ (l : List (Int × Bal)) (n : Int), n ≤ maxCap l n ∧ (∀ x ∈ l, capB x.2 ≤ maxCap l n) ∧ (maxCap l n = n ∨ ∃ x ∈ l, maxCap l n = capB x.2)
 | [], n => ⟨Int.le_refl _, fun x hx => absurd hx List.not_mem_nil, .inl rfl⟩
 | y :: l, n => by
  obtain ⟨h1, h2, h3⟩ := foldl_capB l (max n (capB y.2))
  have e : maxCap (y :: l) n = maxCap l (max n (capB y.2)) := rfl
  rw [e]
  refine ⟨by omega, fun x hx => ?_, ?_⟩
  · rcases List.mem_cons.1 hx with rfl | hx
    · omega
    · exact h2 x hx
  · rcases h3 with h3 | ⟨x, hx, h3⟩
    · rcases Int.le_total n (capB y.2) with h | h
      · exact .inr ⟨y, List.mem_cons_self, by rw [h3]; omega⟩
      · exact .inl (by rw [h3]; omega)
    · exact .inr ⟨x, List.mem_cons_of_mem _ hx, h3⟩
theorem unlQ_le (h : HInv s) (hq : SrtC s.S.Q) (a t now : Int) : ∀ a' t' x, cget (unlQ s.S a t now) a' t' = some x → x.c ≤ lkv s.M a' t' := by
 intro a' t' x hx
 unfold unlQ at hx
 split at hx
 · rw [cget_del hq] at hx
   split at hx
   · cases hx
   · exact h.q a' t' x hx
 · exact h.q a' t' x hx
theorem HInv.unl (h : HInv s) (hs : s.Srt) (hi : VInv s.S) (a t now : Int) : HInv ⟨s.A, unlM s.S s.M a t now, unlS s.S a t now⟩ := by
 unfold unlM unlS
 split
 · rename_i e
   have ha : isAcc a := by
    unfold unlE at e
    split at e
    · omega
    · rename_i q; exact Classical.not_not.1 (fun p => q (.inl p))
   have hQ := unlQ_le h hs.q a t now
   have hd0 : (undD s.S a t).n ≤ lkv s.M a t ∧ (cget s.S.D a t = none → (undD s.S a t).n = 0) := by
    unfold undD
    cases hc : cget s.S.D a t with
    | none => exact ⟨(h.m a t).1, fun _ => rfl⟩
    | some y => exact ⟨h.d a t y hc, fun q => by cases q⟩
   have hq0 : ((cget (unlQ s.S a t now) a t).getD ⟨0, 0⟩).c ≤ lkv s.M a t ∧ (cget (unlQ s.S a t now) a t = none → ((cget (unlQ s.S a t now) a t).getD ⟨0, 0⟩).c = 0) := by
    cases hc : cget (unlQ s.S a t now) a t with
    | none => exact ⟨(h.m a t).1, fun _ => rfl⟩
    | some y => exact ⟨hQ a t y hc, fun q => by cases q⟩
   obtain ⟨f1, f2, f3⟩ := foldl_capB (ballots s.S a t) (max (undD s.S a t).n ((cget (unlQ s.S a t now) a t).getD ⟨0, 0⟩).c)
   have hN : unlN s.S a t now = maxCap (ballots s.S a t) (max (undD s.S a t).n ((cget (unlQ s.S a t now) a t).getD ⟨0, 0⟩).c) := rfl
   rw [← hN] at f1 f2 f3
   have hle : unlN s.S a t now ≤ lkv s.M a t := by
    rcases f3 with q | ⟨x, hx, q⟩
    · rw [q]; omega
    · rw [q]
      obtain ⟨h1, h2⟩ := mem_ballots.1 hx
      have := h.v a x.1 x.2 (hs.v.get.2 (mem_rowOf.1 h1))
      rw [h2] at this
      exact this
   have hbd := (h.m a t).2
   have hn0 : 0 ≤ (undD s.S a t).n := by
    unfold undD
    cases hc : cget s.S.D a t with
    | none => exact Int.le_refl _
    | some y => exact (hi.d _ (hs.d.get.1 hc)).2.2.2.1
   have h0 : 0 ≤ unlN s.S a t now := by omega
   have hbal : isBal (unlN s.S a t now) := ⟨h0, by omega⟩
   have hl : ∀ a' t', lkv (lockM s.M a t (unlN s.S a t now)) a' t' = if a' = a ∧ t' = t then unlN s.S a t now else lkv s.M a' t' := fun a' t' => lkv_lockM hs.m ha hbal t a' t'
   refine ⟨fun a' t' => ?_, fun a' t' ha' => ?_, fun a' k x hx => ?_, fun a' t' x hx => ?_, fun a' t' x hx => ?_⟩
   · show isBal (lkv (lockM s.M a t (unlN s.S a t now)) a' t')
     rw [hl]; split
     · exact hbal
     · exact h.m a' t'
   · show lkv (lockM s.M a t (unlN s.S a t now)) a' t' ≤ _
     rw [hl]; split
     · rename_i e2; rw [e2.1]; exact Int.le_trans hle (h.f a t ha)
     · exact h.f a' t' ha'
   · show capB x ≤ lkv (lockM s.M a t (unlN s.S a t now)) a' (s.S.P k.toNat).tr
     have hx' : cget s.S.V a' k = some x := hx
     rw [hl]; split
     · rename_i e2
       exact f2 (k, x) (mem_ballots.2 ⟨mem_rowOf.2 (by rw [← e2.1]; exact hs.v.get.1 hx'), e2.2⟩)
     · exact h.v a' k x hx'
   · show x.n ≤ lkv (lockM s.M a t (unlN s.S a t now)) a' t'
     have hx' : cget s.S.D a' t' = some x := hx
     rw [hl]; split
     · rename_i e2
       have e3 : (undD s.S a t).n = x.n := by rw [e2.1, e2.2] at hx'; unfold undD; rw [hx']; rfl
       omega
     · exact h.d a' t' x hx'
   · show x.c ≤ lkv (lockM s.M a t (unlN s.S a t now)) a' t'
     have hx' : cget (unlQ s.S a t now) a' t' = some x := hx
     rw [hl]; split
     · rename_i e2
       have e3 : ((cget (unlQ s.S a t now) a t).getD ⟨0, 0⟩).c = x.c := by rw [e2.1, e2.2] at hx'; rw [hx']; rfl
       omega
     · exact hQ a' t' x hx'
 · exact h
theorem HInv.trans (h : HInv s) (hs : SrtC s.M) (a b n : Int) (hA : AccOk s.A) : HInv ⟨transA s.A s.M a b n, s.M, s.S⟩ := by
 refine ⟨h.m, fun a' t' ha' => ?_, h.v, h.d, h.q⟩
 show lkv s.M a' t' ≤ (transA s.A s.M a b n a'.toNat).1
 unfold transA
 split
 · rename_i e
   unfold transE at e
   split at e
   case isFalse => omega
   rename_i hb
   obtain ⟨ha, hn, hle⟩ := spendE_ok e
   have hg : (spendA s.A a n a'.toNat).1 ≤ (giveA (spendA s.A a n) b.toNat n a'.toNat).1 := by
    unfold giveA
    have h0 := hn.1
    by_cases q : a'.toNat = b.toNat
    · rw [q, upd_same]
      show (spendA s.A a n b.toNat).1 ≤ (spendA s.A a n b.toNat).1 + n
      omega
    · rw [upd_other _ _ q]; exact Int.le_refl _
   by_cases ea : a'.toNat = a.toNat
   · have ea' : a' = a := by
      have h1 : isAcc a' := ha'
      have h2 : isAcc a := ha
      unfold isAcc at h1 h2
      omega
     subst ea'
     clear ea
     have hs1 : (spendA s.A a' n a'.toNat).1 = (s.A a'.toNat).1 - n := by unfold spendA; rw [upd_same]
     by_cases n0 : 0 < n
     · by_cases eab : a' = b
       · have hb2 : a'.toNat = b.toNat := by rw [eab]
         have : (giveA (spendA s.A a' n) b.toNat n a'.toNat).1 = (s.A a'.toNat).1 := by
          unfold giveA
          rw [hb2, upd_same, ← hb2, hs1]
          show (s.A a'.toNat).1 - n + n = (s.A a'.toNat).1
          omega
         rw [this]
         exact h.f a' t' ha
       · unfold spendE at e
         rw [decide_eq_false eab] at e
         split at e
         · omega
         split at e
         · omega
         split at e
         · omega
         rename_i q
         have hq : lockedOf s.M a' ≤ (s.A a'.toNat).1 - n := Int.not_lt.1 (fun p => q ⟨n0, rfl, p⟩)
         have := lkv_le_locked hs a' t'
         omega
     · have : n = 0 := by have := hn.1; omega
       have := h.f a' t' ha
       omega
   · have : (spendA s.A a n a'.toNat).1 = (s.A a'.toNat).1 := by unfold spendA; rw [upd_other _ _ ea]
     have := h.f a' t' ha'
     omega
 · exact h.f a' t' ha'
end
end Go.Proofs.YtbpemdihoabbcaaGreat
