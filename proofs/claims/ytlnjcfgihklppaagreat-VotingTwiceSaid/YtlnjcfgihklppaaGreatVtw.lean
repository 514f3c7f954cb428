/-
  VotingTwice: what happens.
-/
import Derived.Test.YtlnjcfgihklppaaGreatCsv
import Derived.Test.YtlnjcfgihklppaaGreatVba
namespace Go.Proofs.YtlnjcfgihklppaaGreat
open Go.RowKit Go.Maps Go.Shelf
set_option linter.unusedVariables false
set_option linter.unusedSimpArgs false

def twA : Acc := accL [0, 1048576, 1048576]
def twS1 : Vs := openS Vs.zero 0 0
def twS2 (m : Int) : Vs := delS twS1 twA 2 0 1 1 m
def twM2 (m : Int) : Cls Int := delM twS1 twA [] 2 0 1 1 m
def twS3 (m : Int) (x : Bal) : Vs := voteS (twS2 m) twA 1 0 x
def twM3 (m : Int) (x : Bal) : Cls Int := voteM (twS2 m) twA (twM2 m) 1 0 x
def twS4 (m : Int) (x y : Bal) : Vs := voteS (twS3 m x) twA 1 0 y
def twM4 (m : Int) (x y : Bal) : Cls Int := voteM (twS3 m x) twA (twM3 m x) 1 0 y
def twP (t : Tl) : Nat → Pl := putP twS1.P 0 ((twS1.P 0).withT t)
theorem tw_lock {m c d : Int} (m0 : 0 ≤ m ∧ m ≤ 1073741824) (c0 : 0 ≤ c ∧ c ≤ 1073741824) (d0 : 0 ≤ d ∧ d ≤ 1073741824) : lockedOf (raiseM (raiseM (raiseM [] 2 0 m) 1 0 c) 1 0 d) 1 = max c d := by
  have h1 : isAcc 1 := by decide
  have h2 : isAcc 2 := by decide
  have two : ∀ (M : Cls Int), (∀ x ∈ rowOf M 1, x.1 ≠ 0) → lockedOf (cdel M 1 0) 1 = 0 → (∀ v, rowOf (cput M 1 0 v) 1 = [(0, v)]) → (∀ u v, rowOf (cput (cput M 1 0 u) 1 0 v) 1 = [(0, v)]) → (∀ x ∈ rowOf (cdel M 1 0) 1, x.1 ≠ 0) → (∀ v, rowOf (cput (cdel M 1 0) 1 0 v) 1 = [(0, v)]) → lockedOf (cdel (cdel M 1 0) 1 0) 1 = 0 → lockedOf (raiseM (raiseM M 1 0 c) 1 0 d) 1 = max c d := fun M a1 a2 a3 a4 a5 a6 a7 => by
    have one : ∀ v : Int, 0 ≤ v → maxTo [((0 : Int), v)] = v := fun v hv => Int.max_eq_right hv
    by_cases hc : c = 0
    · subst hc
      rw [raise_new0 (t := 0) (M := M) h1 a1]
      by_cases hd : d = 0
      · subst hd
        rw [raise_new0 h1 a5, a7]; rfl
      · rw [raise_new h1 a5 (by omega)]
        unfold lockedOf
        rw [a6, one _ d0.1]
        omega
    · rw [raise_new (t := 0) (M := M) h1 a1 (by omega)]
      by_cases hd : d ≤ c
      · have : raiseM (cput M 1 0 c) 1 0 d = cput M 1 0 c := by
          unfold raiseM
          rw [if_pos ⟨(0, c), by rw [a3]; simp, rfl, hd⟩]
        rw [this]
        unfold lockedOf
        rw [a3, one _ c0.1]
        omega
      · have : raiseM (cput M 1 0 c) 1 0 d = cput (cput M 1 0 c) 1 0 d := by
          unfold raiseM lockM
          rw [if_neg (by rintro ⟨x, hx, -, he⟩; rw [a3] at hx; simp at hx; subst hx; simp at he; omega), if_neg (by simpa using h1), if_neg (by unfold isBal; omega)]
        rw [this]
        unfold lockedOf
        rw [a4, one _ d0.1]
        omega
  by_cases hm : m = 0
  · subst hm
    rw [raise_zero]
    exact two [] (by simp [rowOf]) rfl (fun v => rfl) (fun u v => rfl) (by simp [rowOf, cdel]) (fun v => rfl) rfl
  · rw [raise_nil h2 (by omega)]
    exact two [((2, 0), m)] (by simp [rowOf]) rfl (fun v => rfl) (fun u v => rfl) (by simp [rowOf, cdel]) (fun v => rfl) rfl
theorem tw_ok {x y : Bal} {m : Int} (hx : balOk x = true) (hy : balOk y = true) (cx : capB x ≤ 1048576) (cy : capB y ≤ 1048576) (m0 : 0 ≤ m) (m1 : m ≤ 1048576) :
    (delE twS1 twA 2 0 1 1 m = 0 ∧ voteE (twS2 m) twA 1 0 x = 0 ∧ voteE (twS3 m x) twA 1 0 y = 0 ∧ voteE (twS2 m) twA 1 0 y = 0) ∧ tallyOf (twS4 m x y) 0 = gainW y ⟨m, m⟩ ∧ tallyOf (twS3 m y) 0 = gainW y ⟨m, m⟩ ∧ ballots (twS4 m x y) 1 0 = [(0, y)] ∧ lockedOf (twM4 m x y) 1 = max (capB x) (capB y) := by
  have e1 : delE twS1 twA 2 0 1 1 m = 0 := delE_0 (by decide) (by decide) (by decide) (by decide) (by decide) (by unfold isBal; omega) rfl rfl m1
  have vm : votesI m 1 = m * 1 := rfl
  have s2 : twS2 m = ⟨twS1.P, [], [((2, 0), ⟨1, 1, m⟩)], [((1, 0), ⟨m, m⟩)], []⟩ := by
    unfold twS2
    rw [delS_0 e1, vm, Int.mul_one]
    have hg := lendG_in (S := ⟨twS1.P, [], [((2, 0), ⟨1, 1, m⟩)], [], []⟩) (who := 1) (t := 0) (dv := m) (dc := m) (g := ⟨0, 0⟩) rfl (by simp only; omega) (by simp only; omega)
    simp only [Int.zero_add] at hg
    exact (lendS_none rfl hg).trans rfl
  have st : ∀ z : Bal, balOk z = true → capB z ≤ 1048576 → voteE (twS2 m) twA 1 0 z = 0 ∧ twS3 m z = ⟨twP (gainW z ⟨m, m⟩), [((1, 0), z)], [((2, 0), ⟨1, 1, m⟩)], [((1, 0), ⟨m, m⟩)], []⟩ := fun z hz cz => by
    have e : voteE (twS2 m) twA 1 0 z = 0 := by
      rw [s2]
      exact voteE_0 (by decide) hz ⟨⟨by decide, by decide⟩, show (1 : Int) ≠ 0 by decide⟩ rfl rfl cz (show 0 < 6 by decide)
    refine ⟨e, ?_⟩
    have t : voteT (twS2 m) 1 0 z = gainW z ⟨m, m⟩ := by
      rw [s2, voteT_new rfl]
      exact Tl.zadd (gain_ok hz _)
    unfold twS3
    rw [voteS_0 e, t, s2]
    rfl
  obtain ⟨e2, s3⟩ := st x hx cx
  obtain ⟨e4, s3y⟩ := st y hy cy
  have e3 : voteE (twS3 m x) twA 1 0 y = 0 := by
    rw [s3]
    exact voteE_0 (by decide) hy ⟨⟨by decide, by decide⟩, show (1 : Int) ≠ 0 by decide⟩ rfl rfl cy (show 1 < 6 by decide)
  have t3 : voteT (twS3 m x) 1 0 y = gainW y ⟨m, m⟩ := by
    rw [s3, voteT_old (y := x) rfl]
    show ((gainW x ⟨m, m⟩).sub (gainW x ⟨m, m⟩)).add (gainW y ⟨m, m⟩) = _
    rw [Tl.self]
    exact Tl.zadd (gain_ok hy _)
  have s4 : twS4 m x y = ⟨twP (gainW y ⟨m, m⟩), [((1, 0), y)], [((2, 0), ⟨1, 1, m⟩)], [((1, 0), ⟨m, m⟩)], []⟩ := by
    unfold twS4
    rw [voteS_0 e3, t3, s3]
    simp only [twP, Int.toNat_zero, putP_two]
    rfl
  refine ⟨⟨e1, e2, e3, e4⟩, by rw [s4]; rfl, by rw [s3y]; rfl, by rw [s4]; rfl, ?_⟩
  unfold twM4 twM3 twM2
  rw [voteM_0 e3, voteM_0 e2, delM_0 e1, s3, s2]
  have cp : ∀ z : Bal, balOk z = true → 0 ≤ capB z := fun z hz => by
    obtain ⟨h1, h2, h3⟩ := balOk_bd hz
    show 0 ≤ z.a + z.n + z.s
    omega
  exact tw_lock (m := m) (by omega) ⟨cp x hx, by omega⟩ ⟨cp y hy, by omega⟩
end Go.Proofs.YtlnjcfgihklppaaGreat
