/-
  VotingSplits: what happens.
-/
import Derived.Test.YtlnjcfgihklppaaGreatPb
namespace Go.Proofs.YtlnjcfgihklppaaGreat
open Go.RowKit Go.Maps Go.Shelf
set_option linter.unusedVariables false
set_option linter.unusedSimpArgs false

def spA : Acc := accL [0, 1000, 1000]
def spS1 : Vs := openS Vs.zero 0 0
def spX (a n s : Int) : Bal := ⟨3, false, 0, a, n, s⟩
def spY (a : Int) : Bal := ⟨1, true, 1, a, 0, 0⟩
def spS2 (a n s : Int) : Vs := voteS spS1 spA 1 0 (spX a n s)
def spS3 (a n s m l : Int) : Vs := delS (spS2 a n s) spA 2 0 1 l m
def spS4 (a n s m l : Int) : Vs := voteS (spS3 a n s m l) spA 1 0 (spY a)
theorem sp_ok {a n s m l : Int} (a0 : 0 ≤ a) (a1 : a ≤ 300) (n0 : 0 ≤ n) (n1 : n ≤ 300) (s0 : 0 ≤ s) (s1 : s ≤ 300) (m0 : 0 ≤ m) (m1 : m ≤ 1000) (l0 : 0 ≤ l) (l1 : l ≤ 6) :
    voteE spS1 spA 1 0 (spX a n s) = 0 ∧ delE (spS2 a n s) spA 2 0 1 l m = 0 ∧ voteE (spS3 a n s m l) spA 1 0 (spY a) = 0 ∧ tallyOf (spS3 a n s m l) 0 = ⟨a / 10, n / 10, a + s⟩ ∧ tallyOf (spS4 a n s m l) 0 = ⟨a + votesI m l, 0, a + m⟩ := by
  obtain ⟨v, hv⟩ : ∃ v, v = votesI m l := ⟨_, rfl⟩
  obtain ⟨v0, v1⟩ := votesI_bd m0 m1 l0 l1 (by omega)
  have e1 : voteE spS1 spA 1 0 (spX a n s) = 0 := voteE_0 (by decide) (balOk_abs a0 n0 s0 (by omega)) (by decide) (by decide) (by decide) (show a + n + s ≤ 1000 by omega) (by decide)
  have g1 : ∀ g, gainW (spX a n s) g = ⟨a / 10, n / 10, a + s⟩ := fun g => gain_other g (by decide)
  have t1 : voteT spS1 1 0 (spX a n s) = ⟨a / 10, n / 10, a + s⟩ := by
    rw [voteT_new rfl, g1]
    exact add_eq (Int.zero_add _).symm (Int.zero_add _).symm (Int.zero_add _).symm (by omega) (by omega) (by omega)
  have s2 : spS2 a n s = ⟨putP spS1.P 0 ((spS1.P 0).withT ⟨a / 10, n / 10, a + s⟩), [((1, 0), spX a n s)], [], [], []⟩ := by
    unfold spS2
    rw [voteS_0 e1, t1]
    rfl
  have e2 : delE (spS2 a n s) spA 2 0 1 l m = 0 := by
    rw [s2]
    exact delE_0 (by decide) (by decide) (by decide) (by decide) ⟨l0, l1⟩ (by unfold isBal; omega) rfl rfl m1
  have s3 : spS3 a n s m l = lendS { spS2 a n s with D := cput (spS2 a n s).D 2 0 ⟨1, l, m⟩ } 1 0 v m := by
    unfold spS3
    rw [delS_0 e2, ← hv]
  rw [s2] at s3
  have r1 : relend (spX a n s) ⟨0, 0⟩ ⟨0 + v, 0 + m⟩ ⟨a / 10, n / 10, a + s⟩ = ⟨a / 10, n / 10, a + s⟩ := by
    unfold relend
    rw [g1, sub_eq (x := 0) (y := 0) (z := 0) (by omega) (by omega) (by omega) (by omega) (by omega) (by omega) (by omega) (by omega) (by omega), g1]
    exact add_eq (Int.zero_add _).symm (Int.zero_add _).symm (Int.zero_add _).symm (by omega) (by omega) (by omega)
  have s4 := s3.trans (lendS_one (g := ⟨0, 0⟩) (g' := ⟨0 + v, 0 + m⟩) (r := 0) (y := spX a n s) (tt := ⟨a / 10, n / 10, a + s⟩) rfl rfl rfl (lendG_in (g := ⟨0, 0⟩) rfl (by simp only; omega) (by simp only; omega)) r1)
  have e3 : voteE (spS3 a n s m l) spA 1 0 (spY a) = 0 := by
    rw [s4]
    exact voteE_0 (by decide) (balOk_std (by decide) (by omega)) ⟨⟨by decide, by decide⟩, show (1 : Int) ≠ 0 by decide⟩ rfl rfl (show a + 0 + 0 ≤ 1000 by omega) (show 1 < 6 by decide)
  have g2 : gainW (spY a) ⟨0 + v, 0 + m⟩ = ⟨a * 1 + (0 + v), 0, a + (0 + m)⟩ := gain_aye (by show _ ≤ a * 1 + (0 + v) ∧ a * 1 + (0 + v) ≤ _; omega) (by omega)
  have t3 : voteT (spS3 a n s m l) 1 0 (spY a) = ⟨a + v, 0, a + m⟩ := by
    rw [s4, voteT_old (y := spX a n s) rfl, g1]
    show ((⟨a / 10, n / 10, a + s⟩ : Tl).sub _).add (gainW (spY a) ⟨0 + v, 0 + m⟩) = _
    rw [sub_eq (x := 0) (y := 0) (z := 0) (by omega) (by omega) (by omega) (by omega) (by omega) (by omega) (by omega) (by omega) (by omega), g2]
    exact add_eq (by omega) (by omega) (by omega) (by omega) (by omega) (by omega)
  refine ⟨e1, e2, e3, by rw [s4]; rfl, ?_⟩
  unfold spS4
  rw [voteS_0 e3, t3, s4, hv]
  rfl
end Go.Proofs.YtlnjcfgihklppaaGreat
