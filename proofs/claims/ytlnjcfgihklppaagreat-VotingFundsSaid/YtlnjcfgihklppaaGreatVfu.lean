/-
  VotingFunds: what happens.
-/
import Derived.Test.YtlnjcfgihklppaaGreatMgl
namespace Go.Proofs.YtlnjcfgihklppaaGreat
open Go.RowKit Go.Maps Go.Shelf
set_option linter.unusedVariables false
set_option linter.unusedSimpArgs false

def fuS1 : Vs := openS Vs.zero 0 0
def fuA (f : Int) : Acc := accL [0, f, f]
def fuX (n : Int) : Bal := ⟨1, true, 6, n, 0, 0⟩
theorem fu_no {f n : Int} (h0 : 0 ≤ f) (h1 : f < n) (h2 : n ≤ 2097152) : voteE fuS1 (fuA f) 1 0 (fuX n) = 6 ∧ delE fuS1 (fuA f) 2 0 1 6 n = 6 := by
  refine ⟨voteE_6 (by decide) (balOk_std (by decide) (by omega)) (by decide) (by decide) (by decide) ?_, delE_6 (by decide) (by decide) (by decide) (by decide) (by decide) (by unfold isBal; omega) (by decide) (by decide) ?_⟩
  · show f < n + 0 + 0
    omega
  · exact h1
def fuS2 (f n : Int) : Vs := voteS fuS1 (fuA f) 1 0 (fuX n)
def fuS3 (f n : Int) : Vs := delS (fuS2 f n) (fuA f) 2 0 1 6 n
def fuM2 (f n : Int) : Cls Int := voteM fuS1 (fuA f) [] 1 0 (fuX n)
def fuM3 (f n : Int) : Cls Int := delM (fuS2 f n) (fuA f) (fuM2 f n) 2 0 1 6 n
theorem fu_yes {f n : Int} (h0 : 0 ≤ n) (h1 : n ≤ f) (h2 : f ≤ 1048576) : voteE fuS1 (fuA f) 1 0 (fuX n) = 0 ∧ delE (fuS2 f n) (fuA f) 2 0 1 6 n = 0 ∧ tallyOf (fuS3 f n) 0 = ⟨12 * n, 0, 2 * n⟩ ∧ lockedOf (fuM3 f n) 1 = n ∧ lockedOf (fuM3 f n) 2 = n := by
  have e1 : voteE fuS1 (fuA f) 1 0 (fuX n) = 0 := voteE_0 (by decide) (balOk_std (by decide) (by omega)) (by decide) (by decide) (by decide) (show n + 0 + 0 ≤ f by omega) (by decide)
  have v6 : votesI n 6 = n * 6 := rfl
  have g1 : gainW (fuX n) ⟨0, 0⟩ = ⟨n * 6 + 0, 0, n + 0⟩ := gain_aye (by rw [v6]; omega) (by omega)
  have t1 : voteT fuS1 1 0 (fuX n) = ⟨0 + (n * 6 + 0), 0 + 0, 0 + (n + 0)⟩ := by
    rw [voteT_new rfl]
    show (⟨0, 0, 0⟩ : Tl).add (gainW (fuX n) ⟨0, 0⟩) = _
    rw [g1, add_in (by omega) (by omega) (by omega)]
  have s2 : fuS2 f n = ⟨putP fuS1.P 0 ((fuS1.P 0).withT ⟨0 + (n * 6 + 0), 0 + 0, 0 + (n + 0)⟩), [((1, 0), fuX n)], [], [], []⟩ := by
    unfold fuS2
    rw [voteS_0 e1, t1]
    rfl
  have e2 : delE (fuS2 f n) (fuA f) 2 0 1 6 n = 0 := by
    rw [s2]
    exact delE_0 (by decide) (by decide) (by decide) (by decide) (by decide) (by unfold isBal; omega) rfl rfl h1
  have s3 : fuS3 f n = lendS { fuS2 f n with D := cput (fuS2 f n).D 2 0 ⟨1, 6, n⟩ } 1 0 (n * 6) n := by
    unfold fuS3
    rw [delS_0 e2, v6]
  rw [s2] at s3
  have g2 : gainW (fuX n) ⟨0 + n * 6, 0 + n⟩ = ⟨n * 6 + (0 + n * 6), 0, n + (0 + n)⟩ := gain_aye (by rw [v6]; omega) (by omega)
  have r1 : relend (fuX n) ⟨0, 0⟩ ⟨0 + n * 6, 0 + n⟩ ⟨0 + (n * 6 + 0), 0 + 0, 0 + (n + 0)⟩ = ⟨12 * n, 0, 2 * n⟩ := by
    unfold relend
    rw [g1, sub_in (by omega) (by omega) (by omega) (by omega) (by omega) (by omega), g2, add_in (by omega) (by omega) (by omega)]
    simp only [Tl.mk.injEq]
    omega
  have s4 := s3.trans (lendS_one (g := ⟨0, 0⟩) (g' := ⟨0 + n * 6, 0 + n⟩) (r := 0) (y := fuX n) (tt := ⟨12 * n, 0, 2 * n⟩) rfl rfl rfl (lendG_in (g := ⟨0, 0⟩) rfl (by simp only; omega) (by simp only; omega)) r1)
  refine ⟨e1, e2, by rw [s4]; rfl, ?_⟩
  have m2 : fuM2 f n = raiseM [] 1 0 (n + 0 + 0) := by
    unfold fuM2
    rw [voteM_0 e1]
    rfl
  have m3 : fuM3 f n = raiseM (fuM2 f n) 2 0 n := by
    unfold fuM3
    rw [delM_0 e2]
  rw [m3, m2, Int.add_zero, Int.add_zero]
  by_cases hz : n = 0
  · subst hz
    exact ⟨rfl, rfl⟩
  · rw [raise_nil (by decide) (by omega)]
    have : raiseM [((1, 0), n)] 2 0 n = [((1, 0), n), ((2, 0), n)] := by
      unfold raiseM lockM
      rw [if_neg (by simp [rowOf]), if_neg (by decide), if_neg (by unfold isBal; omega)]
      rfl
    rw [this]
    exact ⟨Int.max_eq_right h0, Int.max_eq_right h0⟩
end Go.Proofs.YtlnjcfgihklppaaGreat
