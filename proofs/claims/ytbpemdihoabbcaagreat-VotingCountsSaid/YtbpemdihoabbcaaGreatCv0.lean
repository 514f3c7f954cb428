/- A part. -/
import Derived.Test.YtbpemdihoabbcaaGreatSxs
namespace Go.Proofs.YtbpemdihoabbcaaGreat
set_option linter.unusedVariables false
set_option linter.unusedSimpArgs false
set_option maxRecDepth 100000
set_option maxHeartbeats 8000000
open Go.RowKit Go.Maps
def sumF (f : Nat → Int) : Nat → Int
 | 0 => 0
 | k + 1 => sumF f k + f k
theorem sumF_congr {f g : Nat → Int} : ∀ n : Nat, (∀ j, j < n → f j = g j) → sumF f n = sumF g n
 | 0, _ => rfl
 | n + 1, h => by
  show sumF f n + f n = sumF g n + g n
  rw [sumF_congr n (fun j hj => h j (Nat.lt_succ_of_lt hj)), h n (Nat.lt_succ_self n)]
theorem sumF_upd {f g : Nat → Int} {i : Nat} (h : ∀ j, j ≠ i → g j = f j) : ∀ n : Nat, i < n → sumF g n = sumF f n - f i + g i
 | 0, hi => absurd hi (Nat.not_lt_zero _)
 | n + 1, hi => by
  show sumF g n + g n = sumF f n + f n - f i + g i
  by_cases e : i = n
  · rw [← e, sumF_congr i (fun j hj => h j (Nat.ne_of_lt hj))]; omega
  · rw [sumF_upd h n (by omega), h n (fun q => e q.symm)]; omega
theorem sumF_zero : ∀ n : Nat, sumF (fun _ => 0) n = 0
 | 0 => rfl
 | n + 1 => by show sumF (fun _ => 0) n + 0 = 0; rw [sumF_zero n]; rfl
def Tl.p (x : Tl) (i : Nat) : Int := if i = 0 then x.a else if i = 1 then x.n else x.s
theorem Tl.p_add (x y : Tl) (i : Nat) : (x.add y).p i = wrap64 (x.p i + y.p i) := by
 unfold Tl.p Tl.add
 by_cases h0 : i = 0
 · simp only [if_pos h0]
 · by_cases h1 : i = 1
   · simp only [if_neg h0, if_pos h1]
   · simp only [if_neg h0, if_neg h1]
theorem Tl.p_sub (x y : Tl) (i : Nat) : (x.sub y).p i = wrap64 (x.p i + wrap64 (-(y.p i))) := by
 unfold Tl.sub
 rw [Tl.p_add]
 unfold Tl.p Tl.neg
 by_cases h0 : i = 0
 · simp only [if_pos h0]
 · by_cases h1 : i = 1
   · simp only [if_neg h0, if_pos h1]
   · simp only [if_neg h0, if_neg h1]
theorem Tl.p_zero (i : Nat) : Tl.zero.p i = 0 := by
 unfold Tl.p Tl.zero
 by_cases h0 : i = 0
 · simp only [if_pos h0]
 · by_cases h1 : i = 1
   · simp only [if_neg h0, if_pos h1]
   · simp only [if_neg h0, if_neg h1]
theorem Tl.ext_p {x y : Tl} (h : ∀ i, x.p i = y.p i) : x = y := by
 have h0 : x.a = y.a := h 0
 have h1 : x.n = y.n := h 1
 have h2 : x.s = y.s := h 2
 obtain ⟨a, n, s⟩ := x
 obtain ⟨a', n', s'⟩ := y
 simp only at h0 h1 h2
 rw [h0, h1, h2]
def gainAt (S : Vs) (k a : Nat) : Tl := match cget S.V a k with
 | some x => gainW x (gotS S a (S.P k).tr)
 | none => Tl.zero
def TInv (S : Vs) : Prop := ∀ k : Nat, k < 12 → (S.P k).st = 1 → ∀ i : Nat, (S.P k).t.p i = wrap64 (sumF (fun a => (gainAt S k a).p i) 10)
def lentW (S : Vs) (a t : Int) (d : Nat) : Wgt := match cget S.D d t with
 | some x => if x.to = a then ⟨votesI x.n x.l, x.n⟩ else ⟨0, 0⟩
 | none => ⟨0, 0⟩
def GInv (S : Vs) : Prop := ∀ a t : Int, isAcc a → (0 ≤ t ∧ t < 4) → gotS S a t = ⟨wrap64 (sumF (fun d => (lentW S a t d).v) 10), wrap64 (sumF (fun d => (lentW S a t d).c) 10)⟩
theorem gainAt_some {S : Vs} {k a : Nat} {x : Bal} (h : cget S.V a k = some x) : gainAt S k a = gainW x (gotS S a (S.P k).tr) := by unfold gainAt; rw [h]
theorem gainAt_none {S : Vs} {k a : Nat} (h : cget S.V a k = none) : gainAt S k a = Tl.zero := by unfold gainAt; rw [h]
theorem gainAt_congr {S S' : Vs} {k a : Nat} (hv : cget S'.V a k = cget S.V a k) (hg : gotS S' a (S'.P k).tr = gotS S a (S.P k).tr) : gainAt S' k a = gainAt S k a := by unfold gainAt; rw [hv, hg]
section
variable {S S' : Vs}
theorem TInv.upd (h : TInv S) {k a : Nat} (hk : k < 12) (ha : a < 10) (hst : (S.P k).st = 1) (ho : ∀ j, j ≠ a → gainAt S' k j = gainAt S k j) (i : Nat) (ht : (S'.P k).t.p i = wrap64 ((S.P k).t.p i - (gainAt S k a).p i + (gainAt S' k a).p i)) : (S'.P k).t.p i = wrap64 (sumF (fun a => (gainAt S' k a).p i) 10) := by
 rw [ht, h k hk hst i, sumF_upd (f := fun a => (gainAt S k a).p i) (g := fun a => (gainAt S' k a).p i) (i := a) (fun j hj => by rw [ho j hj]) 10 ha]
 generalize sumF (fun a => (gainAt S k a).p i) 10 = z
 unfold wrap64
 omega
theorem TInv.same (h : TInv S) {k : Nat} (hk : k < 12) (hst : (S'.P k).st = 1) (e : S'.P k = S.P k) (ho : ∀ j : Nat, j < 10 → cget S'.V j k = cget S.V j k) (hg : ∀ j : Nat, j < 10 → gotS S' j (S.P k).tr = gotS S j (S.P k).tr) (i : Nat) : (S'.P k).t.p i = wrap64 (sumF (fun a => (gainAt S' k a).p i) 10) := by
 rw [e] at hst ⊢
 rw [h k hk hst i]
 congr 1
 refine sumF_congr 10 (fun j hj => ?_)
 rw [gainAt_congr (ho j hj) (by rw [e]; exact hg j hj)]
theorem TInv.open (h : TInv S) (hs : SrtC S.V) (hi : VInv S) (r t : Int) : TInv (openS S r t) := by
 unfold openS
 split
 case isFalse => exact h
 rename_i e
 intro k hk hst i
 by_cases ek : k = r.toNat
 · have hst0 : (S.P k).st = 0 := by
    unfold openE at e
    rw [← ek] at e
    split at e
    · omega
    · split at e
      · omega
      · rename_i q; exact Classical.not_not.1 q
   have e1 : ((putP S.P r.toNat (newPl t)) k).t = Tl.zero := by rw [ek, putP_same]; rfl
   show ((putP S.P r.toNat (newPl t)) k).t.p i = _
   rw [e1, Tl.p_zero, sumF_congr (g := fun _ => 0) 10 (fun j hj => ?_), sumF_zero]
   · unfold wrap64; omega
   · have : cget S.V j k = none := by
      cases hc : cget S.V j k with
      | none => rfl
      | some x =>
       have := (hi.v _ (hs.get.1 hc)).2.1
       exact absurd hst0 this
     rw [gainAt_none (S := { S with P := putP S.P r.toNat (newPl t) }) this, Tl.p_zero]
 · exact h.same hk hst (putP_other _ _ ek) (fun j hj => rfl) (fun j hj => rfl) i
theorem TInv.close (h : TInv S) (r st en : Int) : TInv (closeS S r st en) := by
 unfold closeS
 split
 case isFalse => exact h
 rename_i e
 intro k hk hst i
 by_cases ek : k = r.toNat
 · exfalso
   have h1 : ((putP S.P r.toNat ⟨st, (S.P r.toNat).tr, (S.P r.toNat).ay, (S.P r.toNat).na, (S.P r.toNat).su, en⟩) k).st = 1 := hst
   rw [ek, putP_same] at h1
   have h2 : st = 1 := h1
   unfold closeE at e
   split at e
   · omega
   split at e
   · omega
   split at e
   · omega
   · omega
 · exact h.same hk hst (putP_other _ _ ek) (fun j hj => rfl) (fun j hj => rfl) i
theorem TInv.vote (h : TInv S) (hs : SrtC S.V) (A : Acc) (a r : Int) (x : Bal) : TInv (voteS S A a r x) := by
 unfold voteS
 split
 case isFalse => exact h
 rename_i e
 obtain ⟨ha, hok, ⟨⟨r0, r1⟩, -⟩, hst1⟩ := voteE_ok e
 have ha0 : 0 ≤ a ∧ a < 10 := ha
 intro k hk hst i
 obtain ⟨rk, hrk⟩ : ∃ rk : Nat, rk = r.toNat := ⟨_, rfl⟩
 have hr : r = (rk : Int) := by omega
 obtain ⟨ak, hak⟩ : ∃ ak : Nat, ak = a.toNat := ⟨_, rfl⟩
 have ha' : a = (ak : Int) := by omega
 rw [← hrk] at hst1
 subst ha'
 subst hr
 rw [Int.toNat_natCast] at hst ⊢
 by_cases ek : k = rk
 · subst ek
   have et : (putP S.P k ((S.P k).withT (voteT S ak k x)) k).tr = (S.P k).tr := by rw [putP_same]; rfl
   have ett : (putP S.P k ((S.P k).withT (voteT S ak k x)) k).t = voteT S ak k x := by rw [putP_same]; rfl
   refine TInv.upd (S' := { S with P := putP S.P k ((S.P k).withT (voteT S ak k x)), V := cput S.V ak k x }) h hk (a := ak) (by omega) hst1 (fun j hj => ?_) i ?_
   · refine gainAt_congr ?_ ?_
     · show cget (cput S.V ak k x) j k = cget S.V j k
       rw [cget_put hs, if_neg (fun q => hj (by omega))]
     · show gotS S j (putP S.P k ((S.P k).withT (voteT S ak k x)) k).tr = _
       rw [et]
   · have e1 : gainAt { S with P := putP S.P k ((S.P k).withT (voteT S ak k x)), V := cput S.V ak k x } k ak = gainW x (gotS S ak (S.P k).tr) := by
      rw [gainAt_some (x := x) (by show cget (cput S.V ak k x) ak k = some x; rw [cget_put hs, if_pos ⟨rfl, rfl⟩])]
      show gainW x (gotS S ak (putP S.P k ((S.P k).withT (voteT S ak k x)) k).tr) = _
      rw [et]
     rw [e1]
     show (putP S.P k ((S.P k).withT (voteT S ak k x)) k).t.p i = _
     rw [ett]
     unfold voteT voteT0
     rw [Tl.p_add, Int.toNat_natCast]
     cases hc : cget S.V ak k with
     | none =>
      rw [gainAt_none hc, Tl.p_zero]
      show wrap64 ((S.P k).t.p i + _) = _
      congr 1; omega
     | some y =>
      rw [gainAt_some hc]
      show wrap64 (((S.P k).t.sub (gainW y (gotS S ak (S.P k).tr))).p i + _) = _
      rw [Tl.p_sub]
      generalize (S.P k).t.p i = z
      generalize (gainW y (gotS S ak (S.P k).tr)).p i = z2
      generalize (gainW x (gotS S ak (S.P k).tr)).p i = z3
      unfold wrap64
      omega
 · refine h.same hk hst (putP_other _ _ ek) (fun j hj => ?_) (fun j hj => rfl) i
   show cget (cput S.V ak rk x) j k = cget S.V j k
   rw [cget_put hs, if_neg (fun q => ek (by omega))]
theorem TInv.delV (h : TInv S) (hs : SrtC S.V) {a r : Int} (hst1 : (S.P r.toNat).st ≠ 1) (hr0 : 0 ≤ r) : TInv { S with V := cdel S.V a r } := by
 intro k hk hst i
 have ek : (k : Int) ≠ r := fun q => by
  have e : r.toNat = k := by omega
  rw [e] at hst1
  exact hst1 hst
 refine h.same (S' := { S with V := cdel S.V a r }) hk hst rfl (fun j hj => ?_) (fun j hj => rfl) i
 show cget (cdel S.V a r) j k = cget S.V j k
 rw [cget_del hs, if_neg (fun q => ek q.2)]
theorem TInv.unvote (h : TInv S) (hs : SrtC S.V) (a r now : Int) : TInv (unvoteS S a r now) := by
 unfold unvoteS
 split
 case isFalse => exact h
 rename_i e
 have hfacts : isAcc a ∧ plHas S.P r ∧ (cget S.V a r).isSome = true := by
  unfold unvoteE at e
  split at e
  · omega
  rename_i q1
  split at e
  · omega
  rename_i q
  refine ⟨Classical.not_not.1 q1, Classical.not_not.1 (fun p => q (.inl p)), ?_⟩
  cases hc : (cget S.V a r).isSome with
  | true => rfl
  | false => exact (q (.inr hc)).elim
 obtain ⟨ha, ⟨⟨r0, r1⟩, -⟩, hsome⟩ := hfacts
 have ha0 : 0 ≤ a ∧ a < 10 := ha
 split
 · rename_i hst1
   obtain ⟨y, hy⟩ := Option.isSome_iff_exists.1 hsome
   rw [hy]
   intro k hk hst i
   obtain ⟨rk, hrk⟩ : ∃ rk : Nat, rk = r.toNat := ⟨_, rfl⟩
   have hr : r = (rk : Int) := by omega
   obtain ⟨ak, hak⟩ : ∃ ak : Nat, ak = a.toNat := ⟨_, rfl⟩
   have ha' : a = (ak : Int) := by omega
   rw [← hrk] at hst1
   subst ha'
   subst hr
   rw [Int.toNat_natCast] at hst ⊢
   obtain ⟨T', hT'⟩ : ∃ T', T' = (S.P rk).t.sub (gainW ((some y : Option Bal).getD balS.zero) (gotS S ak (S.P rk).tr)) := ⟨_, rfl⟩
   rw [← hT'] at hst ⊢
   have hTy : T' = (S.P rk).t.sub (gainW y (gotS S ak (S.P rk).tr)) := hT'
   by_cases ek : k = rk
   · subst ek
     have et : (putP S.P k ((S.P k).withT T') k).tr = (S.P k).tr := by rw [putP_same]; rfl
     have ett : (putP S.P k ((S.P k).withT T') k).t = T' := by rw [putP_same]; rfl
     refine TInv.upd (S' := { S with V := cdel S.V ak k, P := putP S.P k ((S.P k).withT T') }) h hk (a := ak) (by omega) hst1 (fun j hj => ?_) i ?_
     · refine gainAt_congr ?_ ?_
       · show cget (cdel S.V ak k) j k = cget S.V j k
         rw [cget_del hs, if_neg (fun q => hj (by omega))]
       · show gotS S j (putP S.P k ((S.P k).withT T') k).tr = _
         rw [et]
     · rw [gainAt_none (S := { S with V := cdel S.V ak k, P := putP S.P k ((S.P k).withT T') }) (by show cget (cdel S.V ak k) ak k = none; rw [cget_del hs, if_pos ⟨rfl, rfl⟩]), Tl.p_zero, gainAt_some hy]
       show (putP S.P k ((S.P k).withT T') k).t.p i = _
       rw [ett, hTy, Tl.p_sub]
       generalize (S.P k).t.p i = z
       generalize (gainW y (gotS S ak (S.P k).tr)).p i = z2
       unfold wrap64
       omega
   · refine h.same (S' := { S with V := cdel S.V ak rk, P := putP S.P rk ((S.P rk).withT T') }) hk hst (putP_other _ _ ek) (fun j hj => ?_) (fun j hj => rfl) i
     show cget (cdel S.V ak rk) j k = cget S.V j k
     rw [cget_del hs, if_neg (fun q => ek (by omega))]
 · rename_i hst1
   have hd := h.delV hs (a := a) hst1 r0
   split
   · exact hd
   · exact hd
theorem lendP_at (was is : Wgt) (k : Nat) : ∀ (l : List (Int × Bal)) (P : Nat → Pl), (l.map (·.1.toNat)).Nodup →
 (∀ x ∈ l, x.1.toNat = k → (P k).st = 1 → lendP was is P l k = (P k).withT (relend x.2 was is (P k).t)) ∧ ((∀ x ∈ l, x.1.toNat ≠ k) ∨ (P k).st ≠ 1 → lendP was is P l k = P k)
 | [], P, _ => ⟨fun x hx => absurd hx List.not_mem_nil, fun _ => rfl⟩
 | y :: l, P, hn => by
  rw [List.map_cons, List.nodup_cons] at hn
  obtain ⟨hy, hn⟩ := hn
  obtain ⟨i1, i2⟩ := lendP_at was is k l (lendP1 was is P y) hn
  have e : lendP was is P (y :: l) = lendP was is (lendP1 was is P y) l := rfl
  have hno : y.1.toNat = k → ∀ x ∈ l, x.1.toNat ≠ k := fun q x hx q2 => hy (List.mem_map.2 ⟨x, hx, by rw [q2, q]⟩)
  have hoth : y.1.toNat ≠ k → lendP1 was is P y k = P k := fun q => by
   unfold lendP1
   split
   · exact putP_other _ _ (fun e => q e.symm)
   · rfl
  rw [e]
  refine ⟨fun x hx hxk hst => ?_, fun hh => ?_⟩
  · rcases List.mem_cons.1 hx with rfl | hx
    · rw [i2 (.inl (hno hxk))]
      unfold lendP1
      rw [hxk, if_pos hst, putP_same]
    · have q : y.1.toNat ≠ k := fun q => hno q x hx hxk
      rw [i1 x hx hxk (by rw [hoth q]; exact hst), hoth q]
  · rcases hh with hh | hh
    · have q := hh y List.mem_cons_self
      rw [i2 (.inl (fun x hx => hh x (List.mem_cons_of_mem _ hx))), hoth q]
    · have hst : (lendP1 was is P y k).st ≠ 1 := by rw [(lendP1_same was is P y k).1]; exact hh
      rw [i2 (.inr hst)]
      by_cases q : y.1.toNat = k
      · unfold lendP1
        rw [q, if_neg hh]
      · exact hoth q
theorem ballots_nodup (hs : SrtC S.V) (hi : VInv S) (a t : Int) : ((ballots S a t).map (·.1.toNat)).Nodup := by
 have h1 : SrtK (ballots S a t) := ballots_srt hs a t
 rw [List.nodup_iff_pairwise_ne, List.pairwise_map]
 refine List.Pairwise.imp_of_mem (fun {x y} hx hy hxy => ?_) h1
 have := (hi.row a x (mem_ballots.1 hx).1).1
 have := (hi.row a y (mem_ballots.1 hy).1).1
 omega
theorem gotS_lend (hs : SrtC S.G) (who t dv dc a' t' : Int) : gotS (lendS S who t dv dc) a' t' = if a' = who ∧ t' = t then lendG S who t dv dc else gotS S a' t' := by
 unfold gotS lendS
 show (cget (cput S.G who t (lendG S who t dv dc)) a' t').getD ⟨0, 0⟩ = _
 rw [cget_put hs]
 split <;> rfl
theorem TInv.lend (h : TInv S) (hv : SrtC S.V) (hg : SrtC S.G) (hi : VInv S) {who : Int} (hw : isAcc who) (t dv dc : Int) : TInv (lendS S who t dv dc) := by
 have hw0 : 0 ≤ who ∧ who < 10 := hw
 obtain ⟨wk, hwk⟩ : ∃ wk : Nat, wk = who.toNat := ⟨_, rfl⟩
 have hw' : who = (wk : Int) := by omega
 subst hw'
 intro k hk hst i
 have hgl := gotS_lend hg wk t dv dc
 obtain ⟨is, his⟩ : ∃ is, is = lendG S wk t dv dc := ⟨_, rfl⟩
 rw [← his] at hgl
 obtain ⟨was, hwas⟩ : ∃ was, was = gotS S wk t := ⟨_, rfl⟩
 have hP : (lendS S wk t dv dc).P = lendP was is S.P (ballots S wk t) := by unfold lendS; rw [his, hwas]; rfl
 have hV : (lendS S wk t dv dc).V = S.V := rfl
 obtain ⟨i1, i2⟩ := lendP_at was is k (ballots S wk t) S.P (ballots_nodup hv hi wk t)
 have hst0 : (S.P k).st = 1 := by rw [hP, (lendP_same _ _ _ _ k).1] at hst; exact hst
 have htr : ((lendS S wk t dv dc).P k).tr = (S.P k).tr := by rw [hP]; exact (lendP_same _ _ _ _ k).2.1
 by_cases hex : ∃ x, cget S.V wk k = some x ∧ (S.P k).tr = t
 · obtain ⟨x, hx, ht⟩ := hex
   have hmem : ((k : Int), x) ∈ ballots S wk t := mem_ballots.2 ⟨mem_rowOf.2 (hv.get.1 hx), by rw [Int.toNat_natCast]; exact ht⟩
   have hPk := i1 _ hmem (Int.toNat_natCast k) hst0
   refine TInv.upd h hk (a := wk) (by omega) hst0 (fun j hj => ?_) i ?_
   · refine gainAt_congr rfl ?_
     rw [htr, hgl, if_neg (fun q => hj (by omega))]
   · rw [gainAt_some (S := lendS S wk t dv dc) (x := x) hx, gainAt_some hx, htr, hgl, if_pos ⟨rfl, ht⟩, hP, hPk, ht, ← hwas]
     show (relend x was is (S.P k).t).p i = _
     unfold relend
     rw [Tl.p_add, Tl.p_sub]
     generalize (S.P k).t.p i = z
     generalize (gainW x was).p i = z2
     generalize (gainW x is).p i = z3
     unfold wrap64
     omega
 · have hPk : (lendS S wk t dv dc).P k = S.P k := by
    rw [hP]
    refine i2 (.inl (fun x hx q => hex ?_))
    obtain ⟨h1, h2⟩ := mem_ballots.1 hx
    have h3 := (hi.row wk x h1).1
    have h4 : x.1 = (k : Int) := by omega
    have h5 : ((k : Int), x.2) ∈ rowOf S.V wk := by rw [← h4]; exact h1
    exact ⟨x.2, hv.get.2 (mem_rowOf.1 h5), by rw [q] at h2; exact h2⟩
   rw [hPk, h k hk hst0 i]
   congr 1
   refine sumF_congr 10 (fun j hj => ?_)
   unfold gainAt
   rw [hV, htr, hgl]
   by_cases e2 : (j : Int) = wk ∧ (S.P k).tr = t
   · have ej : j = wk := by omega
     subst ej
     cases hc : cget S.V j k with
     | none => rfl
     | some x => exact (hex ⟨x, hc, e2.2⟩).elim
   · rw [if_neg e2]
theorem TInv.setQ (h : TInv S) (Q : Cls Wgt) : TInv { S with Q := Q } := h
theorem TInv.del (h : TInv S) (hv : SrtC S.V) (hg : SrtC S.G) (hi : VInv S) (A : Acc) (a t who l n : Int) : TInv (delS S A a t who l n) := by
 unfold delS
 split
 case isFalse => exact h
 rename_i e
 obtain ⟨h1, h2, h3, h4, h5⟩ := delE_ok e
 have hi' : VInv { S with D := cput S.D a t ⟨who, l, n⟩ } := by
  have h1' : 0 ≤ a ∧ a < 10 := h1
  exact ⟨hi.v, fun x hx => by
   rcases mem_cput.1 hx with rfl | ⟨hx, -⟩
   · exact ⟨⟨h1, by show 0 ≤ t ∧ t < 12; omega⟩, h3, h4, h5⟩
   · exact hi.d x hx, hi.g, hi.q, hi.t⟩
 exact TInv.lend (S := { S with D := cput S.D a t ⟨who, l, n⟩ }) h hv hg hi' h3 _ _ _
theorem undD_some (hi : VInv S) (hd : SrtC S.D) {a t : Int} (h : undE S a t = 0) : isAcc a ∧ (0 ≤ t ∧ t < 4) ∧ cget S.D a t = some (undD S a t) ∧ isAcc (undD S a t).to := by
 unfold undE at h
 split at h
 · omega
 rename_i q
 split at h
 · omega
 rename_i q2
 obtain ⟨d, hdd⟩ := Option.isSome_iff_exists.1 (show (cget S.D a t).isSome = true by cases e2 : (cget S.D a t).isSome with | true => rfl | false => exact (q2 e2).elim)
 have e1 : undD S a t = d := by unfold undD; rw [hdd]; rfl
 rw [e1]
 exact ⟨Classical.not_not.1 (fun p => q (.inl p)), Classical.not_not.1 (fun p => q (.inr p)), hdd, (hi.d _ (hd.get.1 hdd)).2.1⟩
theorem TInv.und (h : TInv S) (hv : SrtC S.V) (hg : SrtC S.G) (hd : SrtC S.D) (hi : VInv S) (a t now : Int) : TInv (undS S a t now) := by
 unfold undS
 split
 case isFalse => exact h
 rename_i e
 obtain ⟨-, -, -, h4⟩ := undD_some hi hd e
 exact (TInv.lend (S := { S with D := cdel S.D a t }) h hv hg (hi.delD a t) h4 _ _ _).setQ _
theorem sums_upd {f g : Nat → Wgt} {i : Nat} (h : ∀ j, j ≠ i → g j = f j) (hi : i < 10) : sumF (fun d => (g d).v) 10 = sumF (fun d => (f d).v) 10 - (f i).v + (g i).v ∧ sumF (fun d => (g d).c) 10 = sumF (fun d => (f d).c) 10 - (f i).c + (g i).c :=
 ⟨sumF_upd (f := fun d => (f d).v) (g := fun d => (g d).v) (fun j hj => by rw [h j hj]) 10 hi, sumF_upd (f := fun d => (f d).c) (g := fun d => (g d).c) (fun j hj => by rw [h j hj]) 10 hi⟩
theorem sums_same {f g : Nat → Wgt} (h : ∀ j, g j = f j) : (⟨wrap64 (sumF (fun d => (f d).v) 10), wrap64 (sumF (fun d => (f d).c) 10)⟩ : Wgt) = ⟨wrap64 (sumF (fun d => (g d).v) 10), wrap64 (sumF (fun d => (g d).c) 10)⟩ := by
 rw [funext h]
theorem GInv.del (h : GInv S) (hg : SrtC S.G) (hd : SrtC S.D) (A : Acc) (a t who l n : Int) : GInv (delS S A a t who l n) := by
 unfold delS
 split
 case isFalse => exact h
 rename_i e
 obtain ⟨h1, h2, h3, h4, h5⟩ := delE_ok e
 have hno : cget S.D a t = none := by
  unfold delE at e
  split at e
  · omega
  split at e
  · omega
  · rename_i q
    cases hc : cget S.D a t with
    | none => rfl
    | some y => rw [hc] at q; exact (q rfl).elim
 have h1' : 0 ≤ a ∧ a < 10 := h1
 obtain ⟨ak, hak⟩ : ∃ ak : Nat, ak = a.toNat := ⟨_, rfl⟩
 have ha' : a = (ak : Int) := by omega
 subst ha'
 intro a' t' ha' ht'
 have hgl := gotS_lend (S := { S with D := cput S.D ak t ⟨who, l, n⟩ }) hg who t (votesI n l) n a' t'
 rw [hgl]
 have hle : ∀ d : Nat, lentW (lendS { S with D := cput S.D ak t ⟨who, l, n⟩ } who t (votesI n l) n) a' t' d = if d = ak ∧ t' = t then (if who = a' then ⟨votesI n l, n⟩ else ⟨0, 0⟩) else lentW S a' t' d := fun d => by
  unfold lentW
  show (match cget (cput S.D ak t ⟨who, l, n⟩) d t' with | some x => if x.to = a' then (⟨votesI x.n x.l, x.n⟩ : Wgt) else ⟨0, 0⟩ | none => ⟨0, 0⟩) = _
  rw [cget_put hd]
  by_cases q : d = ak ∧ t' = t
  · rw [if_pos q, if_pos ⟨by rw [q.1], q.2⟩]
  · rw [if_neg q, if_neg (fun p => q ⟨by omega, p.2⟩)]
 have hold : lentW S a' t ak = ⟨0, 0⟩ := by unfold lentW; rw [hno]
 by_cases q : a' = who ∧ t' = t
 · obtain ⟨q1, q2⟩ := q
   subst q1
   subst q2
   rw [if_pos ⟨rfl, rfl⟩]
   have e0 := h a' t' ha' ht'
   unfold gotS at e0
   show (⟨wrap64 (((cget S.G a' t').getD ⟨0, 0⟩).v + votesI n l), wrap64 (((cget S.G a' t').getD ⟨0, 0⟩).c + n)⟩ : Wgt) = _
   rw [e0]
   obtain ⟨s1, s2⟩ := sums_upd (f := lentW S a' t') (g := lentW (lendS { S with D := cput S.D ak t' ⟨a', l, n⟩ } a' t' (votesI n l) n) a' t') (i := ak) (fun j hj => by rw [hle, if_neg (fun p => hj p.1)]) (by omega)
   rw [s1, s2]
   dsimp only
   rw [hle, hold, if_pos ⟨rfl, rfl⟩, if_pos rfl]
   dsimp only
   generalize sumF (fun d => (lentW S a' t' d).v) 10 = z1
   generalize sumF (fun d => (lentW S a' t' d).c) 10 = z2
   rw [show wrap64 (wrap64 z1 + votesI n l) = wrap64 (z1 - 0 + votesI n l) by unfold wrap64; omega, show wrap64 (wrap64 z2 + n) = wrap64 (z2 - 0 + n) by unfold wrap64; omega]
 · rw [if_neg q]
   show gotS S a' t' = _
   rw [h a' t' ha' ht']
   have hs : ∀ d : Nat, lentW (lendS { S with D := cput S.D ak t ⟨who, l, n⟩ } who t (votesI n l) n) a' t' d = lentW S a' t' d := fun d => by
    rw [hle]
    by_cases p : d = ak ∧ t' = t
    · rw [if_pos p, if_neg (fun w => q ⟨w.symm, p.2⟩), p.1, p.2, hold]
    · rw [if_neg p]
   exact sums_same hs
theorem GInv.und (h : GInv S) (hg : SrtC S.G) (hd : SrtC S.D) (hi : VInv S) (a t now : Int) : GInv (undS S a t now) := by
 unfold undS
 split
 case isFalse => exact h
 rename_i e
 obtain ⟨h1, h2, h3, h4⟩ := undD_some hi hd e
 obtain ⟨dd, hdd⟩ : ∃ dd, dd = undD S a t := ⟨_, rfl⟩
 have h1' : 0 ≤ a ∧ a < 10 := h1
 obtain ⟨ak, hak⟩ : ∃ ak : Nat, ak = a.toNat := ⟨_, rfl⟩
 have ha' : a = (ak : Int) := by omega
 subst ha'
 rw [← hdd] at h3 h4 ⊢
 intro a' t' ha' ht'
 show gotS (undS1 S ak t) a' t' = _
 have hu : undS1 S ak t = lendS { S with D := cdel S.D ak t } dd.to t (wrap64 (-(votesI dd.n dd.l))) (wrap64 (-dd.n)) := by unfold undS1; rw [hdd]
 have hlq : ∀ d : Nat, lentW { undS1 S ak t with Q := joinQ S.Q ak t (wrap64 (now + periodI dd.l 8)) dd.n now } a' t' d = lentW (lendS { S with D := cdel S.D ak t } dd.to t (wrap64 (-(votesI dd.n dd.l))) (wrap64 (-dd.n))) a' t' d := fun d => by rw [← hu]; rfl
 rw [hu]
 rw [gotS_lend (S := { S with D := cdel S.D ak t }) hg]
 have hle : ∀ d : Nat, lentW { undS1 S ak t with Q := joinQ S.Q ak t (wrap64 (now + periodI dd.l 8)) dd.n now } a' t' d = if d = ak ∧ t' = t then ⟨0, 0⟩ else lentW S a' t' d := fun d => by
  rw [hlq]
  unfold lentW
  show (match cget (cdel S.D ak t) d t' with | some x => if x.to = a' then (⟨votesI x.n x.l, x.n⟩ : Wgt) else ⟨0, 0⟩ | none => ⟨0, 0⟩) = _
  rw [cget_del hd]
  by_cases q : d = ak ∧ t' = t
  · rw [if_pos q, if_pos ⟨by rw [q.1], q.2⟩]
  · rw [if_neg q, if_neg (fun p => q ⟨by omega, p.2⟩)]
 have hold : lentW S a' t ak = if dd.to = a' then ⟨votesI dd.n dd.l, dd.n⟩ else ⟨0, 0⟩ := by unfold lentW; rw [h3]
 rw [hu] at hle
 by_cases q : a' = dd.to ∧ t' = t
 · obtain ⟨q1, q2⟩ := q
   subst q2
   rw [if_pos ⟨q1, rfl⟩]
   have e0 := h a' t' ha' ht'
   rw [q1] at e0 hle hold ⊢
   rw [if_pos rfl] at hold
   unfold gotS at e0
   show (⟨wrap64 (((cget S.G dd.to t').getD ⟨0, 0⟩).v + wrap64 (-(votesI dd.n dd.l))), wrap64 (((cget S.G dd.to t').getD ⟨0, 0⟩).c + wrap64 (-dd.n))⟩ : Wgt) = _
   rw [e0]
   obtain ⟨s1, s2⟩ := sums_upd (f := lentW S dd.to t') (g := lentW { lendS { S with D := cdel S.D ak t' } dd.to t' (wrap64 (-(votesI dd.n dd.l))) (wrap64 (-dd.n)) with Q := joinQ S.Q ak t' (wrap64 (now + periodI dd.l 8)) dd.n now } dd.to t') (i := ak) (fun j hj => by rw [hle, if_neg (fun p => hj p.1)]) (by omega)
   rw [s1, s2]
   dsimp only
   rw [hle, hold, if_pos ⟨rfl, rfl⟩]
   dsimp only
   generalize sumF (fun d => (lentW S dd.to t' d).v) 10 = z1
   generalize sumF (fun d => (lentW S dd.to t' d).c) 10 = z2
   rw [show wrap64 (wrap64 z1 + wrap64 (-(votesI dd.n dd.l))) = wrap64 (z1 - votesI dd.n dd.l + 0) by unfold wrap64; omega, show wrap64 (wrap64 z2 + wrap64 (-dd.n)) = wrap64 (z2 - dd.n + 0) by unfold wrap64; omega]
 · rw [if_neg q]
   show gotS S a' t' = _
   rw [h a' t' ha' ht']
   have hs : ∀ d : Nat, lentW { lendS { S with D := cdel S.D ak t } dd.to t (wrap64 (-(votesI dd.n dd.l))) (wrap64 (-dd.n)) with Q := joinQ S.Q ak t (wrap64 (now + periodI dd.l 8)) dd.n now } a' t' d = lentW S a' t' d := fun d => by
    rw [hle]
    by_cases p : d = ak ∧ t' = t
    · rw [if_pos p, p.1, p.2, hold, if_neg (fun w => q ⟨w.symm, p.2⟩)]
    · rw [if_neg p]
   exact sums_same hs
end
end Go.Proofs.YtbpemdihoabbcaaGreat
