/-
  VotingChain: what happens.
-/
import Derived.Test.YtlnjcfgihklppaaGreatPb
namespace Go.Proofs.YtlnjcfgihklppaaGreat
open Go.RowKit Go.Maps Go.Shelf
set_option linter.unusedVariables false
set_option linter.unusedSimpArgs false

def chA : Acc := accL [0, 1000, 1000, 1000]
def chS1 : Vs := openS Vs.zero 0 0
def chX : Bal := ⟨1, true, 1, 100, 0, 0⟩
def chY (n : Int) : Bal := ⟨1, false, 1, n, 0, 0⟩
def chS2 : Vs := voteS chS1 chA 1 0 chX
def chS3 (n : Int) : Vs := delS chS2 chA 2 0 1 1 n
def chS4 (n m l : Int) : Vs := delS (chS3 n) chA 3 0 2 l m
def chS5 (n m l : Int) : Vs := undS (chS4 n m l) 2 0 0
def chS6 (n m l : Int) : Vs := voteS (chS5 n m l) chA 2 0 (chY n)
def chP (t : Tl) : Nat → Pl := putP chS1.P 0 ((chS1.P 0).withT t)
theorem ch_ok {n m l : Int} (n0 : 0 ≤ n) (n1 : n ≤ 1000) (m0 : 0 ≤ m) (m1 : m ≤ 1000) (l0 : 0 ≤ l) (l1 : l ≤ 6) :
    voteE chS1 chA 1 0 chX = 0 ∧ delE chS2 chA 2 0 1 1 n = 0 ∧ delE (chS3 n) chA 3 0 2 l m = 0 ∧ undE (chS4 n m l) 2 0 = 0 ∧ voteE (chS5 n m l) chA 2 0 (chY n) = 0 ∧ tallyOf (chS4 n m l) 0 = ⟨100 + n, 0, 100 + n⟩ ∧ tallyOf (chS6 n m l) 0 = ⟨100, n + votesI m l, 100⟩ := by
  obtain ⟨v, hv⟩ : ∃ v, v = votesI m l := ⟨_, rfl⟩
  obtain ⟨v0, v1⟩ := votesI_bd m0 m1 l0 l1 (by omega)
  have e1 : voteE chS1 chA 1 0 chX = 0 := by decide
  have s2 : chS2 = ⟨chP ⟨100, 0, 100⟩, [((1, 0), chX)], [], [], []⟩ := by
    unfold chS2
    rw [voteS_0 e1, show voteT chS1 1 0 chX = ⟨100, 0, 100⟩ from by decide +kernel]
    rfl
  have vn : votesI n 1 = n * 1 := rfl
  have e2 : delE chS2 chA 2 0 1 1 n = 0 := by
    rw [s2]
    exact delE_0 (by decide) (by decide) (by decide) (by decide) (by decide) (by unfold isBal; omega) rfl rfl n1
  have r1 : relend chX ⟨0, 0⟩ ⟨n, n⟩ ⟨100, 0, 100⟩ = ⟨100 + n, 0, 100 + n⟩ := by
    refine relend_std ?_
    rw [show gainW ⟨1, true, 1, 100, 0, 0⟩ ⟨0, 0⟩ = ⟨100, 0, 100⟩ from by decide +kernel, sub_eq (x := 0) (y := 0) (z := 0) (by omega) (by omega) (by omega) (by omega) (by omega) (by omega) (by omega) (by omega) (by omega), gain_aye (by show _ ≤ 100 * 1 + n ∧ 100 * 1 + n ≤ _; omega) (by omega)]
    exact add_eq (by show _ = 0 + (100 * 1 + n); omega) (by omega) (by omega) (by omega) (by omega) (by omega)
  have s3 : chS3 n = ⟨chP ⟨100 + n, 0, 100 + n⟩, [((1, 0), chX)], [((2, 0), ⟨1, 1, n⟩)], [((1, 0), ⟨n, n⟩)], []⟩ := by
    unfold chS3
    rw [delS_0 e2, s2, vn, Int.mul_one]
    have hg := lendG_in (S := ⟨chP ⟨100, 0, 100⟩, [((1, 0), chX)], [((2, 0), ⟨1, 1, n⟩)], [], []⟩) (who := 1) (t := 0) (dv := n) (dc := n) (g := ⟨0, 0⟩) rfl (by simp only; omega) (by simp only; omega)
    simp only [Int.zero_add] at hg
    refine (lendS_one (g := ⟨0, 0⟩) (g' := ⟨n, n⟩) (r := 0) (y := chX) (tt := ⟨100 + n, 0, 100 + n⟩) rfl rfl rfl hg r1).trans ?_
    simp only [chP, Int.toNat_zero, putP_two]
    rfl
  have e3 : delE (chS3 n) chA 3 0 2 l m = 0 := by
    rw [s3]
    exact delE_0 (by decide) (by decide) (by decide) (by decide) ⟨l0, l1⟩ (by unfold isBal; omega) rfl rfl m1
  have s4 : chS4 n m l = ⟨chP ⟨100 + n, 0, 100 + n⟩, [((1, 0), chX)], [((2, 0), ⟨1, 1, n⟩), ((3, 0), ⟨2, l, m⟩)], [((1, 0), ⟨n, n⟩), ((2, 0), ⟨v, m⟩)], []⟩ := by
    unfold chS4
    rw [delS_0 e3, s3, ← hv]
    have hg := lendG_in (S := ⟨chP ⟨100 + n, 0, 100 + n⟩, [((1, 0), chX)], [((2, 0), ⟨1, 1, n⟩), ((3, 0), ⟨2, l, m⟩)], [((1, 0), ⟨n, n⟩)], []⟩) (who := 2) (t := 0) (dv := v) (dc := m) (g := ⟨0, 0⟩) rfl (by simp only; omega) (by simp only; omega)
    simp only [Int.zero_add] at hg
    exact (lendS_none rfl hg).trans rfl
  have e4 : undE (chS4 n m l) 2 0 = 0 := by
    rw [s4]
    exact undE_0 (d := ⟨1, 1, n⟩) (by decide) (by decide) rfl
  have r2 : relend chX ⟨n, n⟩ ⟨0, 0⟩ ⟨100 + n, 0, 100 + n⟩ = ⟨100, 0, 100⟩ := by
    refine relend_std ?_
    rw [show gainW ⟨1, true, 1, 100, 0, 0⟩ ⟨0, 0⟩ = ⟨100, 0, 100⟩ from by decide +kernel, gain_aye (by show _ ≤ 100 * 1 + n ∧ 100 * 1 + n ≤ _; omega) (by omega), sub_eq (x := 0) (y := 0) (z := 0) (by show _ = _ - (100 * 1 + n); omega) (by omega) (by omega) (by show _ ≤ 100 * 1 + n ∧ 100 * 1 + n ≤ _; omega) (by omega) (by omega) (by omega) (by omega) (by omega)]
    exact add_eq (by omega) (by omega) (by omega) (by omega) (by omega) (by omega)
  obtain ⟨Q5, hQ5⟩ : ∃ Q5, Q5 = joinQ ([] : Cls Wgt) 2 0 (wrap64 (0 + periodI 1 8)) n 0 := ⟨_, rfl⟩
  have s5 : chS5 n m l = ⟨chP ⟨100, 0, 100⟩, [((1, 0), chX)], [((3, 0), ⟨2, l, m⟩)], [((1, 0), ⟨0, 0⟩), ((2, 0), ⟨v, m⟩)], Q5⟩ := by
    have hg := lendG_in (S := ⟨chP ⟨100 + n, 0, 100 + n⟩, [((1, 0), chX)], [((3, 0), ⟨2, l, m⟩)], [((1, 0), ⟨n, n⟩), ((2, 0), ⟨v, m⟩)], []⟩) (who := 1) (t := 0) (dv := -n) (dc := -n) (g := ⟨n, n⟩) rfl (by simp only; omega) (by simp only; omega)
    simp only [Int.add_right_neg] at hg
    have hl := lendS_one (g := ⟨n, n⟩) (g' := ⟨0, 0⟩) (r := 0) (y := chX) (tt := ⟨100, 0, 100⟩) rfl rfl rfl hg r2
    unfold chS5
    rw [undS_0 (d := ⟨1, 1, n⟩) e4 (by rw [s4]; rfl) rfl, s4]
    simp only
    rw [vn, Int.mul_one, w64_in (n := -n) (by omega) (by omega), ← hQ5]
    have hd : cdel [((2, 0), (⟨1, 1, n⟩ : Dlg)), ((3, 0), ⟨2, l, m⟩)] 2 0 = [((3, 0), ⟨2, l, m⟩)] := rfl
    rw [hd, hl]
    simp only [chP, Int.toNat_zero, putP_two]
    rfl
  have e5 : voteE (chS5 n m l) chA 2 0 (chY n) = 0 := by
    rw [s5]
    exact voteE_0 (by decide) (balOk_std (by decide) (by omega)) ⟨⟨by decide, by decide⟩, show (1 : Int) ≠ 0 by decide⟩ rfl rfl (show n + 0 + 0 ≤ 1000 by omega) (show 0 < 6 by decide)
  have t5 : voteT (chS5 n m l) 2 0 (chY n) = ⟨100, n + v, 100⟩ := by
    rw [s5, voteT_new rfl]
    show (⟨100, 0, 100⟩ : Tl).add (gainW ⟨1, false, 1, n, 0, 0⟩ ⟨v, m⟩) = _
    rw [gain_nay (by show _ ≤ n * 1 + v ∧ n * 1 + v ≤ _; omega)]
    exact add_eq (by omega) (by show _ = 0 + (n * 1 + v); omega) (by omega) (by omega) (by omega) (by omega)
  refine ⟨e1, e2, e3, e4, e5, by rw [s4]; rfl, ?_⟩
  unfold chS6
  rw [voteS_0 e5, t5, s5, hv]
  rfl
end Go.Proofs.YtlnjcfgihklppaaGreat
