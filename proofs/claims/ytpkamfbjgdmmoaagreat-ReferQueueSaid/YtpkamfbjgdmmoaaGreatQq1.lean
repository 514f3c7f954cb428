/-
  The law ReferQueue: what happens.
-/
import Derived.Test.YtpkamfbjgdmmoaaGreatCq1
import Derived.Test.YtpkamfbjgdmmoaaGreatKq1
import Derived.Test.YtpkamfbjgdmmoaaGreatIso
namespace Go.Proofs.YtpkamfbjgdmmoaaGreat
open Go.RowKit Go.Maps Go.Shelf
set_option linter.unusedVariables false
set_option linter.unusedSimpArgs false

def qT (m : Int) : List Trk := [trkM m]
/-- The balances behind k rounds. -/
def qA : Nat → Acc
  | 0 => A12
  | k + 1 => reserveA (reserveA (qA k) [] 1 10) [] 2 20
theorem qA_all : ∀ k : Nat, k ≤ 8 → sumTo (qA k) 10 = 10000 ∧ (k < 8 → spendE (qA k) [] 1 10 false = 0 ∧ spendE (reserveA (qA k) [] 1 10) [] 2 20 false = 0) ∧ ∀ j : Nat, j < 7 → 3 ≤ j → (qA k j).1 = 1000 := by decide +kernel
theorem lockedOf_no {M : Cls Int} (h : ∀ x ∈ M, 3 ≤ x.1.1) {a : Int} (ha : a < 3) : lockedOf M a = lockedOf [] a := by
  have : rowOf M a = [] := by
    cases hr : rowOf M a with
    | nil => rfl
    | cons x l =>
      have := mem_rowOf.1 (show x ∈ rowOf M a by rw [hr]; simp)
      have h3 := h _ this
      exact absurd h3 (by show ¬ (3 ≤ a); omega)
  unfold lockedOf
  rw [this]
  rfl
theorem spendE_no {A : Acc} {M : Cls Int} (h : ∀ x ∈ M, 3 ≤ x.1.1) {a : Int} (ha : a < 3) (n : Int) (b : Bool) : spendE A M a n b = spendE A [] a n b := by unfold spendE; rw [lockedOf_no h ha]
theorem reserveA_no {A : Acc} {M : Cls Int} (h : ∀ x ∈ M, 3 ≤ x.1.1) {a : Int} (ha : a < 3) (n : Int) : reserveA A M a n = reserveA A [] a n := by unfold reserveA; rw [spendE_no h ha]
/-- What holds behind k rounds. -/
structure QInv (k : Nat) (s : St12) : Prop where
  r : s.R = List.replicate k cx0
  a : s.A = qA k
  v : VInv s.S
  d : s.S.D = []
  g : s.S.G = []
  p : ∀ i : Nat, i < k → (s.S.P i).st = 1 ∧ (s.S.P i).tr = 0 ∧ (0 ≤ (s.S.P i).ay ∧ (s.S.P i).ay ≤ 31) ∧ (s.S.P i).na = 0 ∧ (0 ≤ (s.S.P i).su ∧ (s.S.P i).su ≤ 31)
  z : ∀ i : Nat, k ≤ i → s.S.P i = Pl.zero
  w : ∀ x ∈ s.S.V, x.1.2 < k
  sv : SrtC s.S.V
  m : SrtC s.M
  b : KeyBox s.M
  l : ∀ x ∈ s.M, 3 ≤ x.1.1
theorem QInv.zero : QInv 0 St12.zero := ⟨rfl, rfl, VInv.zero, rfl, rfl, fun i hi => by omega, fun i hi => rfl, fun x hx => (List.not_mem_nil hx).elim, List.Pairwise.nil, List.Pairwise.nil, fun x hx => (List.not_mem_nil hx).elim, fun x hx => (List.not_mem_nil hx).elim⟩
theorem newB_m {m : Int} (h1 : 1 ≤ m) (h4 : m ≤ 4) : newB (qT m) = true := by
  simp [newB, qT, trackB, trkM, withinB, isB, fallsB]
  omega
theorem rinB_q {m : Int} (hn : newB (qT m) = true) {R : List Rfm} (hl : R.length ≤ 12) (h : ∀ x ∈ R, x.tr = 0 ∧ x.who = 1 ∧ x.sb = 0 ∧ -1 ≤ x.si ∧ x.si ≤ 100) : rinB (qT m) R = true := by
  unfold rinB
  rw [hn]
  have hl1 : ((qT m).length : Int) = 1 := rfl
  simp only [Bool.and_eq_true, decide_eq_true_eq, List.all_eq_true, hl1, Bool.and_true, true_and, soonB]
  refine ⟨hl, fun x hx => ?_⟩
  obtain ⟨e1, e2, e3, e4, e5⟩ := h x hx
  rw [e1, e2, e3]
  omega
theorem cx0_all {k : Nat} : ∀ x ∈ List.replicate k cx0, x.tr = 0 ∧ x.who = 1 ∧ x.sb = 0 ∧ -1 ≤ x.si ∧ x.si ≤ 100 := fun x hx => by
  rw [(List.mem_replicate.1 hx).2]
  exact ⟨rfl, rfl, rfl, by decide, by decide⟩
section
variable {k : Nat} {s : St12} {m : Int}
theorem QInv.rin (h : QInv k s) (hk : k ≤ 8) (hn : newB (qT m) = true) : rinB (qT m) s.R = true := by
  rw [h.r]
  exact rinB_q hn (by simp; omega) cx0_all
/-- Submitted. -/
theorem QInv.sub (h : QInv k s) (hk : k < 8) (hn : newB (qT m) = true) : subE (qT m) s.R s.S s.A s.M 1 0 0 = 0 ∧ subN (qT m) s.R s.S s.A s.M 1 0 0 = k ∧ rinB (qT m) (s.sub (qT m) 1 0 hsh0 0 0).R = true ∧ s.sub (qT m) 1 0 hsh0 0 0 = ⟨List.replicate k cx0 ++ [newX 0 hsh0 0 0 1], { s.S with P := putP s.S.P k (newPl 0) }, reserveA (qA k) [] 1 10, s.M⟩ := by
  have hl : s.R.length = k := by rw [h.r]; simp
  have hsp := (qA_all k (by omega)).2.1 hk
  have hz := h.z k (Nat.le_refl _)
  have he : subE (qT m) s.R s.S s.A s.M 1 0 0 = 0 := by
    unfold subE
    rw [if_neg, if_neg (by omega), if_neg, spendE_no h.l (by omega), h.a]
    · exact hsp.1
    · rw [hl]
      rintro ⟨-, e⟩
      rw [Int.toNat_natCast, hz] at e
      exact e rfl
    · have hl1 : ((qT m).length : Int) = 1 := rfl
      rw [hl1]
      unfold isAcc
      omega
  have hop : openE s.S.P (k : Int) 0 = 0 := by
    unfold openE
    rw [if_neg (by omega), Int.toNat_natCast, hz]
    rfl
  have e4 : s.sub (qT m) 1 0 hsh0 0 0 = ⟨List.replicate k cx0 ++ [newX 0 hsh0 0 0 1], { s.S with P := putP s.S.P k (newPl 0) }, reserveA (qA k) [] 1 10, s.M⟩ := by
    unfold St12.sub subR subS subA openS
    rw [if_pos he, if_pos he, if_pos he, hl, if_pos hop, reserveA_no h.l (by omega), h.a, h.r, Int.toNat_natCast]
  refine ⟨he, by unfold subN; rw [if_pos he, hl], ?_, e4⟩
  rw [e4]
  refine rinB_q hn (by simp; omega) (fun x hx => ?_)
  rcases List.mem_append.1 hx with hx | hx
  · exact cx0_all x hx
  · rw [List.mem_singleton.1 hx]
    exact ⟨rfl, rfl, rfl, by decide, by decide⟩
/-- Submitted. -/
def qS1 (k : Nat) (s : St12) : St12 := ⟨List.replicate k cx0 ++ [newX 0 hsh0 0 0 1], { s.S with P := putP s.S.P k (newPl 0) }, reserveA (qA k) [] 1 10, s.M⟩
/-- Backed. -/
def qS2 (k : Nat) (s : St12) : St12 := ⟨List.replicate (k + 1) cx0, { s.S with P := putP s.S.P k (newPl 0) }, qA (k + 1), s.M⟩
theorem refAt_last (k : Nat) (x : Rfm) : refAt (List.replicate k cx0 ++ [x]) k = x := by
  unfold refAt
  rw [if_pos (by omega), Int.toNat_natCast, List.getElem?_append_right (by simp)]
  simp
theorem QInv.dep (h : QInv k s) (hk : k < 8) : depE (qT m) (qS1 k s).R (qS1 k s).A (qS1 k s).M 2 k = 0 ∧ (qS1 k s).dep (qT m) 2 k = qS2 k s := by
  have hsp := (qA_all k (by omega)).2.1 hk
  have hx : refAt (qS1 k s).R k = newX 0 hsh0 0 0 1 := refAt_last k _
  have ho : ongE (qS1 k s).R k = 0 := by
    unfold ongE
    rw [hx]
    have : refHas (qS1 k s).R k = true := by unfold refHas qS1; simp; omega
    rw [this]
    rfl
  have he : depE (qT m) (qS1 k s).R (qS1 k s).A (qS1 k s).M 2 k = 0 := by
    unfold depE
    rw [ho, if_neg (by simp), hx, if_neg (by simp [newX])]
    show spendE (reserveA (qA k) [] 1 10) s.M 2 20 false = 0
    rw [spendE_no h.l (by omega)]
    exact hsp.2
  refine ⟨he, ?_⟩
  unfold St12.dep depR depA
  rw [if_pos he, if_pos he, hx]
  have e1 : (qS1 k s).R.set (k : Int).toNat { newX 0 hsh0 0 0 1 with bk := 2 } = List.replicate (k + 1) cx0 := by
    rw [Int.toNat_natCast]
    show (List.replicate k cx0 ++ [newX 0 hsh0 0 0 1]).set k cx0 = _
    rw [List.set_append_right _ _ (by simp), List.replicate_succ']
    simp
  rw [e1]
  show St12.mk _ _ (reserveA (reserveA (qA k) [] 1 10) s.M 2 20) _ = _
  rw [reserveA_no h.l (by omega)]
  rfl
/-- Voted for. -/
def qBal (a : Int) : Bal := ⟨1, true, 1, a, 0, 0⟩
theorem lockM_l {M : Cls Int} (h : ∀ x ∈ M, 3 ≤ x.1.1) {a : Int} (ha : 3 ≤ a) (t n : Int) : ∀ x ∈ raiseM M a t n, 3 ≤ x.1.1 := by
  unfold raiseM
  split
  · exact h
  · unfold lockM
    split
    · exact h
    · split
      · exact fun x hx => h x (mem_cdel.1 hx).1
      · intro x hx
        rcases mem_cput.1 hx with rfl | ⟨hx, -⟩
        · exact ha
        · exact h x hx
theorem SrtC.raise {M : Cls Int} (h : SrtC M) (a t n : Int) : SrtC (raiseM M a t n) := by
  unfold raiseM
  split
  · exact h
  · unfold lockM
    split
    · exact h
    · split
      · exact h.del _ _
      · exact h.put _ _ _
theorem QInv.vote (h : QInv k s) (hk : k < 8) {a c : Int} (a0 : 0 ≤ a) (a1 : a ≤ 31) (c3 : 3 ≤ c) (c6 : c ≤ 6) : VInv (qS2 k s).S ∧ (qS2 k s).M.length < 10000 ∧ (voteE (qS2 k s).S (qS2 k s).A c k (qBal a) = 0 ∨ voteE (qS2 k s).S (qS2 k s).A c k (qBal a) = 3) ∧ QInv (k + 1) ((qS2 k s).vot c k (qBal a)) := by
  have hz := h.z k (Nat.le_refl _)
  have hop : openE s.S.P (k : Int) 0 = 0 := by
    unfold openE
    rw [if_neg (by omega), Int.toNat_natCast, hz]
    rfl
  have hv : VInv (qS2 k s).S := by
    have := h.v.open (k : Int) 0
    unfold openS at this
    rw [if_pos hop, Int.toNat_natCast] at this
    exact this
  have hm : (qS2 k s).M.length < 10000 := by
    have := h.b.len h.m
    show s.M.length < 10000
    omega
  have hP : (qS2 k s).S.P k = newPl 0 := putP_same _ _ _
  have hPt : (qS2 k s).S.P (k : Int).toNat = newPl 0 := by rw [Int.toNat_natCast]; exact hP
  have hp : plHas (qS2 k s).S.P k := ⟨by omega, by rw [hPt]; decide⟩
  have hc : capB (qBal a) = a := by unfold capB qBal; simp
  have hD : (qS2 k s).S.D = [] := h.d
  have hG : (qS2 k s).S.G = [] := h.g
  have hcA : ((qS2 k s).A c.toNat).1 = 1000 := (qA_all (k + 1) (by omega)).2.2 c.toNat (by omega) (by omega)
  have hcg : cget (qS2 k s).S.V c k = none := by
    cases hg : cget (qS2 k s).S.V c k with
    | none => rfl
    | some y =>
      have := h.w _ (h.sv.get.1 hg)
      exact absurd this (by show ¬ ((k : Int) < k); omega)
  have he : voteE (qS2 k s).S (qS2 k s).A c k (qBal a) = if (cget (qS2 k s).S.V c k).isSome = false ∧ 6 ≤ (ballots (qS2 k s).S c ((qS2 k s).S.P (k : Int).toNat).tr).length then 3 else 0 := by
    unfold voteE
    rw [if_neg (fun e => e.elim (fun e => e (by unfold isAcc; omega)) (fun e => by rw [show balOk (qBal a) = true from balOk_std a0 (by omega)] at e; cases e)), if_neg (fun e => e hp), if_neg (fun e => e (by rw [hPt]; rfl)), hD]
    rw [if_neg (by rw [hPt]; show ¬ (cget ([] : Cls Dlg) c 0).isSome = true; rw [show cget ([] : Cls Dlg) c 0 = none from rfl]; simp), if_neg (by rw [hc, hcA]; omega)]
  have fin : ∀ (S' : Vs) (M' : Cls Int), VInv S' → S'.D = [] → S'.G = [] → (∀ i, i ≠ k → S'.P i = s.S.P i) → ((S'.P k).st = 1 ∧ (S'.P k).tr = 0 ∧ (0 ≤ (S'.P k).ay ∧ (S'.P k).ay ≤ 31) ∧ (S'.P k).na = 0 ∧ (0 ≤ (S'.P k).su ∧ (S'.P k).su ≤ 31)) → (∀ x ∈ S'.V, x.1.2 < ((k + 1 : Nat) : Int)) → SrtC S'.V → SrtC M' → KeyBox M' → (∀ x ∈ M', 3 ≤ x.1.1) → QInv (k + 1) ⟨List.replicate (k + 1) cx0, S', qA (k + 1), M'⟩ := fun S' M' q1 q2 q3 q4 q5 q6 q7 q8 q9 q10 => ⟨rfl, rfl, q1, q2, q3, fun i hi => by
    by_cases e : i = k
    · rw [e]; exact q5
    · show (S'.P i).st = 1 ∧ _
      rw [q4 i e]
      exact h.p i (by omega), fun i hi => by
    show S'.P i = _
    rw [q4 i (by omega)]
    exact h.z i (by omega), q6, q7, q8, q9, q10⟩
  refine ⟨hv, hm, ?_, ?_⟩
  · rw [he]
    split
    · exact .inr rfl
    · exact .inl rfl
  · have hoth : ∀ i, i ≠ k → (qS2 k s).S.P i = s.S.P i := fun i hi => putP_other _ _ hi
    by_cases h0 : voteE (qS2 k s).S (qS2 k s).A c k (qBal a) = 0
    · have hT : voteT (qS2 k s).S c k (qBal a) = ⟨a, 0, a⟩ := by
        unfold voteT voteT0 gotS
        rw [hcg, hG]
        have hg : gainW (qBal a) ⟨0, 0⟩ = ⟨a, 0, a⟩ := by
          show (⟨wrap64 (a * 1 + 0), 0, wrap64 (a + 0)⟩ : Tl) = _
          rw [Int.mul_one, Int.add_zero, w64 (by omega) (by omega)]
        have hgz : (cget ([] : Cls Wgt) c ((qS2 k s).S.P (k : Int).toNat).tr).getD ⟨0, 0⟩ = ⟨0, 0⟩ := by simp [cget, rowOf]; rfl
        rw [hgz, hg, hPt]
        show (⟨wrap64 (0 + a), wrap64 (0 + 0), wrap64 (0 + a)⟩ : Tl) = _
        rw [Int.zero_add, Int.zero_add, w64 (by omega) (by omega), w64 (by omega) (by omega)]
      have hb := h.b.voteM hv (qS2 k s).A c k (qBal a)
      have hvi := hv.vote (qS2 k s).A c k (qBal a)
      unfold voteM at hb
      unfold voteS at hvi
      rw [if_pos h0] at hb hvi
      have hst : (qS2 k s).vot c k (qBal a) = ⟨List.replicate (k + 1) cx0, { (qS2 k s).S with P := putP (qS2 k s).S.P (k : Int).toNat (((qS2 k s).S.P (k : Int).toNat).withT (voteT (qS2 k s).S c k (qBal a))), V := cput (qS2 k s).S.V c k (qBal a) }, qA (k + 1), raiseM s.M c ((qS2 k s).S.P (k : Int).toNat).tr (capB (qBal a))⟩ := by
        unfold St12.vot voteS voteM
        rw [if_pos h0, if_pos h0]
        rfl
      rw [hst]
      refine fin _ _ hvi hD hG (fun i hi => ?_) ?_ (fun x hx => ?_) (h.sv.put _ _ _) (h.m.raise _ _ _) hb (lockM_l h.l c3 _ _)
      · show putP (qS2 k s).S.P (k : Int).toNat _ i = _
        rw [Int.toNat_natCast, putP_other _ _ hi]
        exact hoth i hi
      · have key : (putP (qS2 k s).S.P (k : Int).toNat (((qS2 k s).S.P (k : Int).toNat).withT (voteT (qS2 k s).S c k (qBal a)))) k = ⟨1, 0, a, 0, a, 0⟩ := by
          rw [hT, Int.toNat_natCast, putP_same, hP]; rfl
        exact (show ∀ p : Pl, p = ⟨1, 0, a, 0, a, 0⟩ → (p.st = 1 ∧ p.tr = 0 ∧ (0 ≤ p.ay ∧ p.ay ≤ 31) ∧ p.na = 0 ∧ (0 ≤ p.su ∧ p.su ≤ 31)) from fun p hp => by subst hp; exact ⟨rfl, rfl, ⟨a0, a1⟩, rfl, a0, a1⟩) _ key
      · rcases mem_cput.1 hx with rfl | ⟨hx, -⟩
        · show (k : Int) < _; omega
        · have := h.w x hx; omega
    · have hst : (qS2 k s).vot c k (qBal a) = ⟨List.replicate (k + 1) cx0, (qS2 k s).S, qA (k + 1), s.M⟩ := by
        unfold St12.vot voteS voteM
        rw [if_neg h0, if_neg h0]
        rfl
      rw [hst]
      refine fin _ _ hv hD hG hoth (by rw [hP]; decide) (fun x hx => by have := h.w x hx; omega) h.sv h.m h.b h.l
end
end Go.Proofs.YtpkamfbjgdmmoaaGreat
