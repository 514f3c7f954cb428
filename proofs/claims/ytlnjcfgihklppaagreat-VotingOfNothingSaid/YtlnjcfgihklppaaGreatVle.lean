/-
  VotingLends: what happens.
-/
import Derived.Test.YtlnjcfgihklppaaGreatPb
namespace Go.Proofs.YtlnjcfgihklppaaGreat
open Go.RowKit Go.Maps Go.Shelf
set_option linter.unusedVariables false
set_option linter.unusedSimpArgs false

section
variable {S : Vs} {A : Acc} {a r t who l n : Int} {x : Bal}
theorem voteE_5 (h1 : isAcc a) (h2 : balOk x = true) (h3 : plHas S.P r) (h4 : (S.P r.toNat).st = 1) (h5 : (cget S.D a (S.P r.toNat).tr).isSome = true) : voteE S A a r x = 5 := by
  unfold voteE
  rw [if_neg (by simp [h1, h2]), if_neg (by simpa using h3), if_neg (by simp [h4]), if_pos h5]
theorem delE_1 (h : who = a) : delE S A a t who l n = 1 := by
  unfold delE
  rw [if_pos (by simp [h])]
theorem delE_5 (h1 : isAcc a) (h2 : 0 ≤ t ∧ t < 4) (h3 : isAcc who) (h4 : who ≠ a) (h5 : 0 ≤ l ∧ l ≤ 6) (h6 : isBal n) (h7 : (cget S.D a t).isSome = true) : delE S A a t who l n = 5 := by
  unfold delE
  rw [if_neg (by simp only [h1, h2, h3, h4, h5, h6]; simp), if_pos h7]
theorem delE_9 (h1 : isAcc a) (h2 : 0 ≤ t ∧ t < 4) (h3 : isAcc who) (h4 : who ≠ a) (h5 : 0 ≤ l ∧ l ≤ 6) (h6 : isBal n) (h7 : cget S.D a t = none) (h8 : 0 < (ballots S a t).length) : delE S A a t who l n = 9 := by
  unfold delE
  rw [if_neg (by simp only [h1, h2, h3, h4, h5, h6]; simp), if_neg (by simp [h7]), if_pos h8]
end
def leA : Acc := accL [100, 100, 100, 100]
def leS1 (t : Int) : Vs := openS Vs.zero 0 t
def leS2 (t : Int) : Vs := openS (leS1 t) 1 ((t + 1) % 4)
def leX (n : Int) : Bal := ⟨1, true, 1, n, 0, 0⟩
def leS3 (who b t n : Int) : Vs := delS (leS2 t) leA who t b 3 n
def leS4 (who b t n : Int) : Vs := voteS (leS3 who b t n) leA who 1 (leX n)
def leS5 (who b t n : Int) : Vs := undS (leS4 who b t n) who t 5
def leS6 (who b t n : Int) : Vs := voteS (leS5 who b t n) leA who 0 (leX n)
def leOk (who b t n : Int) : Prop := delE (leS2 t) leA who t b 3 n = 0 ∧ voteE (leS3 who b t n) leA who 0 (leX n) = 5 ∧ voteE (leS3 who b t n) leA who 1 (leX n) = 0 ∧ delE (leS4 who b t n) leA who t b 3 n = 5 ∧ undE (leS4 who b t n) who t = 0 ∧ voteE (leS5 who b t n) leA who 0 (leX n) = 0 ∧ delE (leS6 who b t n) leA who t b 3 n = 9
theorem le_P {t u : Int} (h3 : 0 ≤ t ∧ t < 4) (hu : 0 ≤ u ∧ u < 4) : openS (openS Vs.zero 0 t) 1 u = ⟨putP (putP Vs.zero.P 0 (newPl t)) 1 (newPl u), [], [], [], []⟩ := by
  have e0 : openE Vs.zero.P 0 t = 0 := by
    unfold openE
    rw [if_neg (by simp; omega), if_neg (fun h => h rfl)]
  have s0 : openS Vs.zero 0 t = ⟨putP Vs.zero.P 0 (newPl t), [], [], [], []⟩ := by
    unfold openS
    rw [if_pos e0]
    rfl
  have e1 : openE (putP Vs.zero.P 0 (newPl t)) 1 u = 0 := by
    unfold openE
    rw [if_neg (by simp; omega), if_neg (fun h => h rfl)]
  rw [s0]
  unfold openS
  simp only
  rw [if_pos e1]
  rfl
theorem le_ok {who b t n : Int} (h1 : 0 ≤ who ∧ who ≤ 3) (h2 : 0 ≤ b ∧ b ≤ 3) (h3 : 0 ≤ t ∧ t < 4) (h4 : 0 ≤ n ∧ n ≤ 100) (h5 : b ≠ who) : leOk who b t n := by
  obtain ⟨u, hu⟩ : ∃ u, u = (t + 1) % 4 := ⟨_, rfl⟩
  have hu1 : 0 ≤ u ∧ u < 4 ∧ u ≠ t := by
    have e3 : t = 0 ∨ t = 1 ∨ t = 2 ∨ t = 3 := by omega
    subst hu
    rcases e3 with rfl | rfl | rfl | rfl <;> decide
  obtain ⟨P2, hP2⟩ : ∃ P2, P2 = putP (putP Vs.zero.P 0 (newPl t)) 1 (newPl u) := ⟨_, rfl⟩
  have s2 : leS2 t = ⟨P2, [], [], [], []⟩ := by
    unfold leS2 leS1
    rw [← hu, hP2]
    exact le_P h3 ⟨hu1.1, hu1.2.1⟩
  have p0 : (P2 0).st = 1 ∧ (P2 0).tr = t := by rw [hP2]; exact ⟨rfl, rfl⟩
  have p1 : (P2 1).st = 1 ∧ (P2 1).tr = u := by rw [hP2]; exact ⟨rfl, rfl⟩
  have hx : balOk (leX n) = true := balOk_std (by decide) (by omega)
  have hn : isBal n := by unfold isBal; omega
  have ha : isAcc who := by unfold isAcc; omega
  have hb : isAcc b := by unfold isAcc; omega
  have hA : (leA who.toNat).1 = 100 := by
    have e1 : who = 0 ∨ who = 1 ∨ who = 2 ∨ who = 3 := by omega
    rcases e1 with rfl | rfl | rfl | rfl <;> rfl
  have hc : capB (leX n) = n := by show n + 0 + 0 = n; omega
  have hh : ∀ P : Nat → Pl, (P 0).st = 1 → plHas P 0 := fun P h => ⟨⟨by decide, by decide⟩, by show (P 0).st ≠ 0; omega⟩
  have hh1 : ∀ P : Nat → Pl, (P 1).st = 1 → plHas P 1 := fun P h => ⟨⟨by decide, by decide⟩, by show (P 1).st ≠ 0; omega⟩
  have e1 : delE (leS2 t) leA who t b 3 n = 0 := by
    rw [s2]
    exact delE_0 ha h3 hb h5 (by decide) hn rfl rfl (by rw [hA]; omega)
  obtain ⟨g, hg⟩ : ∃ g, g = lendG ⟨P2, [], [((who, t), ⟨b, 3, n⟩)], [], []⟩ b t (votesI n 3) n := ⟨_, rfl⟩
  have s3 : leS3 who b t n = ⟨P2, [], [((who, t), ⟨b, 3, n⟩)], [((b, t), g)], []⟩ := by
    unfold leS3
    rw [delS_0 e1, s2]
    exact (lendS_none rfl hg.symm).trans rfl
  have gD : cget [((who, t), (⟨b, 3, n⟩ : Dlg))] who t = some ⟨b, 3, n⟩ := by simp [cget, rowOf, sget]
  have gU : cget [((who, t), (⟨b, 3, n⟩ : Dlg))] who u = none := by
    have : ¬ t = u := fun e => hu1.2.2 e.symm
    simp [cget, rowOf, sget, this]
  have e2 : voteE (leS3 who b t n) leA who 0 (leX n) = 5 := by
    rw [s3]
    refine voteE_5 ha hx (hh _ p0.1) p0.1 ?_
    show (cget _ who (P2 0).tr).isSome = true
    rw [p0.2, gD]
    rfl
  have e3 : voteE (leS3 who b t n) leA who 1 (leX n) = 0 := by
    rw [s3]
    refine voteE_0 ha hx (hh1 _ p1.1) p1.1 ?_ (by rw [hc, hA]; omega) (show 0 < 6 by decide)
    show cget _ who (P2 1).tr = none
    rw [p1.2, gU]
  obtain ⟨P4, hP4⟩ : ∃ P4, P4 = putP P2 1 ((P2 1).withT (voteT (leS3 who b t n) who 1 (leX n))) := ⟨_, rfl⟩
  have q0 : (P4 0).st = 1 ∧ (P4 0).tr = t := by rw [hP4]; exact p0
  have q1 : (P4 1).tr = u := by rw [hP4]; exact p1.2
  have s4 : leS4 who b t n = ⟨P4, [((who, 1), leX n)], [((who, t), ⟨b, 3, n⟩)], [((b, t), g)], []⟩ := by
    unfold leS4
    rw [voteS_0 e3, hP4, s3]
    rfl
  have e4 : delE (leS4 who b t n) leA who t b 3 n = 5 := by
    rw [s4]
    refine delE_5 ha h3 hb h5 (by decide) hn ?_
    simp only
    rw [gD]
    rfl
  have e5 : undE (leS4 who b t n) who t = 0 := by
    rw [s4]
    exact undE_0 ha h3 gD
  have cD : cdel [((who, t), (⟨b, 3, n⟩ : Dlg))] who t = [] := by simp [cdel]
  have rb : ballots ⟨P4, [((who, 1), leX n)], [], [((b, t), g)], []⟩ b t = [] := by
    have : ¬ who = b := fun e => h5 e.symm
    simp [ballots, tbal, rowOf, this]
  obtain ⟨G5, Q5, s5⟩ : ∃ G5 Q5, leS5 who b t n = ⟨P4, [((who, 1), leX n)], [], G5, Q5⟩ := by
    unfold leS5
    rw [undS_0 (S' := _) e5 (d := ⟨b, 3, n⟩) (by rw [s4]; exact gD) rfl]
    rw [s4]
    simp only
    rw [cD, lendS_none rb rfl]
    exact ⟨_, _, rfl⟩
  have rw0 : ballots ⟨P4, [((who, 1), leX n)], [], G5, Q5⟩ who t = [] := by
    have : ¬ u = t := hu1.2.2
    simp [ballots, tbal, rowOf, q1, this]
  have e6 : voteE (leS5 who b t n) leA who 0 (leX n) = 0 := by
    rw [s5]
    refine voteE_0 ha hx (hh _ q0.1) q0.1 rfl (by rw [hc, hA]; omega) ?_
    show (ballots _ who (P4 0).tr).length < 6
    rw [q0.2, rw0]
    decide
  refine ⟨e1, e2, e3, e4, e5, e6, ?_⟩
  have s6 : leS6 who b t n = ⟨putP P4 0 ((P4 0).withT (voteT (leS5 who b t n) who 0 (leX n))), cput [((who, 1), leX n)] who 0 (leX n), [], G5, Q5⟩ := by
    unfold leS6
    rw [voteS_0 e6, s5]
    rfl
  rw [s6]
  refine delE_9 ha h3 hb h5 (by decide) hn rfl ?_
  refine List.length_pos_of_mem (a := (0, leX n)) ?_
  unfold ballots tbal
  refine List.mem_filter.2 ⟨mem_rowOf.2 (mem_cput.2 (.inl rfl)), ?_⟩
  show (((P4 0).withT _).tr == t) = true
  have : ((P4 0).withT (voteT (leS5 who b t n) who 0 (leX n))).tr = t := q0.2
  rw [this]
  simp
theorem Pvb.bal {p g vb N : Nat} {S : Vs} {A : Acc} {M : Cls Int} {bs : List (Nat × List Value)} {w0 w : World} (h : Pvb p g vb N S A M bs w0 w) (t : Bal) : Pvb p g vb N S A M ((w.heap.size, balS.f t) :: bs) w0 (w.alloc (balS.obj t)) := h.new (atS balS w t) ((Below.refl _ w).alloc (Nat.le_refl _) _) (Nat.le_refl _) (by simp)
end Go.Proofs.YtlnjcfgihklppaaGreat
