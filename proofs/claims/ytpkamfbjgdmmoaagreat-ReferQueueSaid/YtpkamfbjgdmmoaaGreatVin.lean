/-
  The votings as data: what always holds goes on holding.
-/
import Derived.Test.YtpkamfbjgdmmoaaGreatMp
namespace Go.Proofs.YtpkamfbjgdmmoaaGreat
open Go.RowKit Go.Maps
set_option linter.unusedVariables false
set_option linter.unusedSimpArgs false

theorem withT_st (p : Pl) (t : Tl) : (p.withT t).st = p.st ∧ (p.withT t).tr = p.tr := ⟨rfl, rfl⟩
/-- Polls that are there stay there, tracks stay tracks. -/
structure PKeep (P P' : Nat → Pl) : Prop where
  st : ∀ k, (P k).st ≠ 0 → (P' k).st ≠ 0
  tr : ∀ k, k < 12 → (0 ≤ (P k).tr ∧ (P k).tr < 4) → 0 ≤ (P' k).tr ∧ (P' k).tr < 4
theorem PKeep.refl (P : Nat → Pl) : PKeep P P := ⟨fun _ h => h, fun _ _ h => h⟩
theorem PKeep.withT (P : Nat → Pl) (k : Nat) (t : Tl) : PKeep P (putP P k ((P k).withT t)) := by
  refine ⟨fun i h => ?_, fun i hi h => ?_⟩ <;> by_cases e : i = k
  · subst e; rw [putP_same]; exact h
  · rw [putP_other _ _ e]; exact h
  · subst e; rw [putP_same]; exact h
  · rw [putP_other _ _ e]; exact h
theorem PKeep.lend (was is : Wgt) (P : Nat → Pl) (l : List (Int × Bal)) : PKeep P (lendP was is P l) :=
  ⟨fun k h => by rw [(lendP_same was is l P k).1]; exact h, fun k _ h => by rw [(lendP_same was is l P k).2.1]; exact h⟩
theorem VInv.polls {S : Vs} (h : VInv S) {P' : Nat → Pl} (hk : PKeep S.P P') : VInv { S with P := P' } :=
  ⟨fun x hx => ⟨(h.v x hx).1, hk.st _ (h.v x hx).2.1, (h.v x hx).2.2⟩, h.d, h.g, h.q, fun k hk' => hk.tr k hk' (h.t k hk')⟩
theorem VInv.delV {S : Vs} (h : VInv S) (a r : Int) : VInv { S with V := cdel S.V a r } := ⟨fun x hx => h.v x (mem_cdel.1 hx).1, h.d, h.g, h.q, h.t⟩
theorem VInv.delD {S : Vs} (h : VInv S) (a r : Int) : VInv { S with D := cdel S.D a r } := ⟨h.v, fun x hx => h.d x (mem_cdel.1 hx).1, h.g, h.q, h.t⟩
theorem VInv.setQ {S : Vs} (h : VInv S) {Q : Cls Wgt} (hq : KeyBox Q) : VInv { S with Q := Q } := ⟨h.v, h.d, h.g, hq, h.t⟩
theorem KeyBox.join {Q : Cls Wgt} (h : KeyBox Q) {a b : Int} (ha : 0 ≤ a ∧ a < 10) (hb : 0 ≤ b ∧ b < 12) (u n now : Int) : KeyBox (joinQ Q a b u n now) := by
  unfold joinQ
  split
  · exact h
  · exact h.put ha hb _
theorem VInv.lend {S : Vs} (h : VInv S) {who t : Int} (hw : 0 ≤ who ∧ who < 10) (ht : 0 ≤ t ∧ t < 4) (dv dc : Int) : VInv (lendS S who t dv dc) := by
  have h1 : VInv { S with P := lendP ((cget S.G who t).getD ⟨0, 0⟩) (lendG S who t dv dc) S.P (ballots S who t) } := h.polls (PKeep.lend _ _ _ _)
  exact ⟨h1.v, h1.d, h.g.put hw (by omega) _, h1.q, h1.t⟩
theorem VInv.open {S : Vs} (h : VInv S) (r t : Int) : VInv (openS S r t) := by
  unfold openS
  split
  · rename_i e
    unfold openE at e
    split at e
    · omega
    rename_i q
    refine h.polls ⟨fun i hi => ?_, fun i hi hp => ?_⟩ <;> by_cases ei : i = r.toNat
    · subst ei; rw [putP_same]; show (1 : Int) ≠ 0; omega
    · rw [putP_other _ _ ei]; exact hi
    · subst ei; rw [putP_same]; show 0 ≤ t ∧ t < 4; omega
    · rw [putP_other _ _ ei]; exact hp
  · exact h
theorem VInv.close {S : Vs} (h : VInv S) (r st en : Int) : VInv (closeS S r st en) := by
  unfold closeS
  split
  · rename_i e
    unfold closeE at e
    split at e
    · omega
    split at e
    · omega
    split at e
    · omega
    rename_i q
    refine h.polls ⟨fun i hi => ?_, fun i hi hp => ?_⟩ <;> by_cases ei : i = r.toNat
    · subst ei; rw [putP_same]; show st ≠ 0; omega
    · rw [putP_other _ _ ei]; exact hi
    · subst ei; rw [putP_same]; exact hp
    · rw [putP_other _ _ ei]; exact hp
  · exact h
theorem voteE_ok {S : Vs} {A : Acc} {a r : Int} {x : Bal} (h : voteE S A a r x = 0) : isAcc a ∧ balOk x = true ∧ plHas S.P r ∧ (S.P r.toNat).st = 1 := by
  unfold voteE at h
  split at h
  · omega
  rename_i h1
  split at h
  · omega
  rename_i h2
  split at h
  · omega
  rename_i h3
  refine ⟨Classical.not_not.1 (fun q => h1 (.inl q)), ?_, Classical.not_not.1 h2, Classical.not_not.1 h3⟩
  cases e : balOk x with
  | true => rfl
  | false => exact (h1 (.inr e)).elim
theorem VInv.vote {S : Vs} (h : VInv S) (A : Acc) (a r : Int) (x : Bal) : VInv (voteS S A a r x) := by
  unfold voteS
  split
  · rename_i e
    obtain ⟨h1, h2, h3, h4⟩ := voteE_ok e
    have hp := h.polls (PKeep.withT S.P r.toNat (voteT S a r x))
    refine ⟨fun y hy => ?_, hp.d, hp.g, hp.q, hp.t⟩
    rcases mem_cput.1 hy with rfl | ⟨hy, -⟩
    · exact ⟨⟨h1, h3.1⟩, (PKeep.withT S.P r.toNat (voteT S a r x)).st _ h3.2, h2⟩
    · exact hp.v y hy
  · exact h
theorem VInv.unvote {S : Vs} (h : VInv S) (a r now : Int) : VInv (unvoteS S a r now) := by
  unfold unvoteS
  split
  · rename_i e
    have hd := h.delV a r
    unfold unvoteE at e
    split at e
    · omega
    rename_i hac
    split at e
    · omega
    rename_i hh
    have ht : 0 ≤ (S.P r.toNat).tr ∧ (S.P r.toNat).tr < 4 := h.t _ (by have := (Classical.not_not.1 (fun q => hh (.inl q)) : plHas S.P r).1; omega)
    split
    · exact hd.polls (PKeep.withT S.P r.toNat _)
    · split
      · exact hd.setQ (h.q.join (Classical.not_not.1 hac) (by omega) _ _ _)
      · exact hd
  · exact h
theorem delE_ok {S : Vs} {A : Acc} {a t who l n : Int} (h : delE S A a t who l n = 0) : isAcc a ∧ (0 ≤ t ∧ t < 4) ∧ isAcc who ∧ (0 ≤ l ∧ l ≤ 6) ∧ isBal n := by
  unfold delE at h
  split at h
  · omega
  rename_i q
  refine ⟨?_, ?_, ?_, ?_, ?_⟩
  · exact Classical.not_not.1 (fun p => q (.inl p))
  · exact Classical.not_not.1 (fun p => q (.inr (.inl p)))
  · exact Classical.not_not.1 (fun p => q (.inr (.inr (.inl p))))
  · exact Classical.not_not.1 (fun p => q (.inr (.inr (.inr (.inr (.inl p))))))
  · exact Classical.not_not.1 (fun p => q (.inr (.inr (.inr (.inr (.inr p))))))
theorem VInv.del {S : Vs} (h : VInv S) (A : Acc) (a t who l n : Int) : VInv (delS S A a t who l n) := by
  unfold delS
  split
  · rename_i e
    obtain ⟨h1, h2, h3, h4, h5⟩ := delE_ok e
    have h1' : 0 ≤ a ∧ a < 10 := h1
    have hd : VInv { S with D := cput S.D a t ⟨who, l, n⟩ } := ⟨h.v, fun x hx => by
      rcases mem_cput.1 hx with rfl | ⟨hx, -⟩
      · exact ⟨⟨h1, by show 0 ≤ t ∧ t < 12; omega⟩, h3, h4, h5⟩
      · exact h.d x hx, h.g, h.q, h.t⟩
    exact hd.lend h3 h2 _ _
  · exact h
theorem VInv.und {S : Vs} (h : VInv S) (hs : SrtC S.D) (a t now : Int) : VInv (undS S a t now) := by
  unfold undS
  split
  · rename_i e
    unfold undE at e
    split at e
    · omega
    rename_i q
    split at e
    · omega
    rename_i q2
    have h1 : 0 ≤ a ∧ a < 10 := Classical.not_not.1 (fun p => q (.inl p))
    have h2 : 0 ≤ t ∧ t < 4 := Classical.not_not.1 (fun p => q (.inr p))
    obtain ⟨d, hd⟩ := Option.isSome_iff_exists.1 (show (cget S.D a t).isSome = true by cases e2 : (cget S.D a t).isSome with | true => rfl | false => exact (q2 e2).elim)
    have hdd : undD S a t = d := by unfold undD; rw [hd]; rfl
    obtain ⟨-, k1, k2, k3⟩ := h.d _ (hs.get.1 hd)
    have hl := (h.delD a t).lend (who := (undD S a t).to) (t := t) (by rw [hdd]; exact k1) h2 (wrap64 (-(votesI (undD S a t).n (undD S a t).l))) (wrap64 (-(undD S a t).n))
    exact hl.setQ (h.q.join h1 (by omega) _ _ _)
  · exact h
theorem VInv.unl {S : Vs} (h : VInv S) (a t now : Int) : VInv (unlS S a t now) := by
  unfold unlS
  split
  · refine h.setQ ?_
    unfold unlQ
    split
    · exact h.q.del _ _
    · exact h.q
  · exact h
theorem KeyBox.lock {M : Cls Int} (h : KeyBox M) {a t : Int} (ht : 0 ≤ t ∧ t < 12) (n : Int) : KeyBox (lockM M a t n) := by
  unfold lockM
  split
  · exact h
  · rename_i q
    split
    · exact h.del _ _
    · exact h.put (Classical.not_not.1 q) ht _
theorem KeyBox.raise {M : Cls Int} (h : KeyBox M) {a t : Int} (ht : 0 ≤ t ∧ t < 12) (n : Int) : KeyBox (raiseM M a t n) := by
  unfold raiseM
  split
  · exact h
  · exact h.lock ht n
theorem KeyBox.voteM {M : Cls Int} (h : KeyBox M) {S : Vs} (hv : VInv S) (A : Acc) (a r : Int) (x : Bal) : KeyBox (voteM S A M a r x) := by
  unfold Go.Proofs.YtpkamfbjgdmmoaaGreat.voteM
  split
  · rename_i e
    obtain ⟨h1, h2, h3, h4⟩ := voteE_ok e
    have := hv.t r.toNat (by have := h3.1; omega)
    exact h.raise (by omega) _
  · exact h
theorem KeyBox.delM {M : Cls Int} (h : KeyBox M) (S : Vs) (A : Acc) (a t who l n : Int) : KeyBox (delM S A M a t who l n) := by
  unfold Go.Proofs.YtpkamfbjgdmmoaaGreat.delM
  split
  · rename_i e
    obtain ⟨h1, h2, -⟩ := delE_ok e
    exact h.raise (by omega) _
  · exact h
theorem KeyBox.unlM {M : Cls Int} (h : KeyBox M) (S : Vs) (a t now : Int) : KeyBox (unlM S M a t now) := by
  unfold Go.Proofs.YtpkamfbjgdmmoaaGreat.unlM
  split
  · rename_i e
    unfold unlE at e
    split at e
    · omega
    rename_i q
    exact h.lock (by have := (Classical.not_not.1 (fun p => q (.inr p)) : 0 ≤ t ∧ t < 4); omega) _
  · exact h
end Go.Proofs.YtpkamfbjgdmmoaaGreat
