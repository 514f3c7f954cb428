/-
  VotingTracks: what happens.
-/
import Derived.Test.YtlnjcfgihklppaaGreatPb
namespace Go.Proofs.YtlnjcfgihklppaaGreat
open Go.RowKit Go.Maps Go.Shelf
set_option linter.unusedVariables false
set_option linter.unusedSimpArgs false

def trA : Acc := accL [0, 1000, 1000]
def trO : Nat → Vs
  | 0 => Vs.zero
  | k + 1 => openS (trO k) k k
def trX (a : Int) : Bal := ⟨1, true, 1, a, 0, 0⟩
def trY (b : Int) : Bal := ⟨1, false, 2, b, 0, 0⟩
def trS2 (a : Int) : Vs := voteS (trO 3) trA 1 0 (trX a)
def trM2 (a : Int) : Cls Int := voteM (trO 3) trA [] 1 0 (trX a)
def trS3 (a b : Int) : Vs := voteS (trS2 a) trA 1 1 (trY b)
def trM3 (a b : Int) : Cls Int := voteM (trS2 a) trA (trM2 a) 1 1 (trY b)
def trS4 (a b c : Int) : Vs := delS (trS3 a b) trA 1 2 2 1 c
def trM4 (a b c : Int) : Cls Int := delM (trS3 a b) trA (trM3 a b) 1 2 2 1 c
def trS5 (a b c : Int) : Vs := unvoteS (trS4 a b c) 1 0 5
def trS6 (a b c : Int) : Vs := unlS (trS5 a b c) 1 0 5
def trM6 (a b c : Int) : Cls Int := unlM (trS5 a b c) (trM4 a b c) 1 0 5
def trR (a b c : Int) : Cls Int := raiseM (raiseM (raiseM [] 1 0 a) 1 1 b) 1 2 c
theorem trR_ok {a b c : Int} (a0 : 0 ≤ a) (a1 : a ≤ 1000) (b0 : 0 ≤ b) (b1 : b ≤ 1000) (c0 : 0 ≤ c) (c1 : c ≤ 1000) : lockedOf (trR a b c) 1 = max (max a b) c ∧ lockedOf (cdel (trR a b c) 1 0) 1 = max b c := by
  have ha1 : isAcc 1 := by decide
  unfold trR
  by_cases ha : a = 0 <;> by_cases hb : b = 0 <;> by_cases hc : c = 0
  · subst ha hb hc
    exact ⟨by decide, by decide⟩
  · subst ha hb
    rw [raise_zero, raise_new0 ha1 (by simp [rowOf]), raise_new ha1 (by simp [rowOf, cdel]) (by omega)]
    exact ⟨show max 0 c = max (max 0 0) c by omega, show max 0 c = max 0 c by omega⟩
  · subst ha hc
    rw [raise_zero, raise_nil ha1 (by omega), raise_new0 ha1 (by simp [rowOf])]
    exact ⟨show max 0 b = max (max 0 b) 0 by omega, show max 0 b = max b 0 by omega⟩
  · subst ha
    rw [raise_zero, raise_nil ha1 (by omega), raise_new ha1 (by simp [rowOf]) (by omega)]
    exact ⟨show max (max 0 b) c = max (max 0 b) c by omega, show max (max 0 b) c = max b c by omega⟩
  · subst hb hc
    rw [raise_nil ha1 (by omega), raise_new0 (M := [((1, 0), a)]) (t := 1) ha1 (by simp [rowOf]), show cdel [((1, 0), a)] 1 1 = [((1, 0), a)] from rfl, raise_new0 ha1 (by simp [rowOf])]
    exact ⟨show max 0 a = max (max a 0) 0 by omega, show (0 : Int) = max 0 0 by omega⟩
  · subst hb
    rw [raise_nil ha1 (by omega), raise_new0 (M := [((1, 0), a)]) (t := 1) ha1 (by simp [rowOf]), show cdel [((1, 0), a)] 1 1 = [((1, 0), a)] from rfl, raise_new ha1 (by simp [rowOf]) (by omega)]
    exact ⟨show max (max 0 a) c = max (max a 0) c by omega, show max 0 c = max 0 c by omega⟩
  · subst hc
    rw [raise_nil ha1 (by omega), raise_new (M := [((1, 0), a)]) (t := 1) ha1 (by simp [rowOf]) (by omega), show cput [((1, 0), a)] 1 1 b = [((1, 0), a), ((1, 1), b)] from rfl, raise_new0 ha1 (by simp [rowOf])]
    exact ⟨show max (max 0 a) b = max (max a b) 0 by omega, show max 0 b = max b 0 by omega⟩
  · rw [raise_nil ha1 (by omega), raise_new (M := [((1, 0), a)]) (t := 1) ha1 (by simp [rowOf]) (by omega), show cput [((1, 0), a)] 1 1 b = [((1, 0), a), ((1, 1), b)] from rfl, raise_new ha1 (by simp [rowOf]) (by omega)]
    exact ⟨show max (max (max 0 a) b) c = max (max a b) c by omega, show max (max 0 b) c = max b c by omega⟩
theorem tr_ok {a b c : Int} (a0 : 0 ≤ a) (a1 : a ≤ 1000) (b0 : 0 ≤ b) (b1 : b ≤ 1000) (c0 : 0 ≤ c) (c1 : c ≤ 1000) :
    (voteE (trO 3) trA 1 0 (trX a) = 0 ∧ voteE (trS2 a) trA 1 1 (trY b) = 0 ∧ delE (trS3 a b) trA 1 2 2 1 c = 0 ∧ unvoteE (trS4 a b c) 1 0 = 0) ∧ lockedOf (trM4 a b c) 1 = max (max a b) c ∧ lockedOf (trM6 a b c) 1 = max b c ∧ tallyOf (trS6 a b c) 0 = ⟨0, 0, 0⟩ ∧ tallyOf (trS6 a b c) 1 = ⟨0, 2 * b, 0⟩ ∧ tallyOf (trS6 a b c) 2 = ⟨0, 0, 0⟩ := by
  have e1 : voteE (trO 3) trA 1 0 (trX a) = 0 := voteE_0 (by decide) (balOk_std (by decide) (by omega)) (by decide) (by decide) (by decide) (show a + 0 + 0 ≤ 1000 by omega) (by decide)
  have g1 : gainW (trX a) ⟨0, 0⟩ = ⟨a, 0, a⟩ := by
    unfold trX
    rw [gain_aye (by show _ ≤ a * 1 + 0 ∧ a * 1 + 0 ≤ _; omega) (by omega)]
    rw [show votesI a 1 + 0 = a from show a * 1 + 0 = a by omega, Int.add_zero]
  have t1 : voteT (trO 3) 1 0 (trX a) = ⟨a, 0, a⟩ := by
    rw [voteT_new rfl]
    show (⟨0, 0, 0⟩ : Tl).add (gainW (trX a) ⟨0, 0⟩) = _
    rw [g1]
    exact add_eq (by omega) (by omega) (by omega) (by omega) (by omega) (by omega)
  have s2 : trS2 a = ⟨putP (trO 3).P 0 (((trO 3).P 0).withT ⟨a, 0, a⟩), [((1, 0), trX a)], [], [], []⟩ := by
    unfold trS2
    rw [voteS_0 e1, t1]
    rfl
  have e2 : voteE (trS2 a) trA 1 1 (trY b) = 0 := by
    rw [s2]
    exact voteE_0 (by decide) (balOk_std (by decide) (by omega)) ⟨⟨by decide, by decide⟩, show (1 : Int) ≠ 0 by decide⟩ rfl rfl (show b + 0 + 0 ≤ 1000 by omega) (show 0 < 6 by decide)
  have t2 : voteT (trS2 a) 1 1 (trY b) = ⟨0, 2 * b, 0⟩ := by
    rw [s2, voteT_new rfl]
    show (⟨0, 0, 0⟩ : Tl).add (gainW ⟨1, false, 2, b, 0, 0⟩ ⟨0, 0⟩) = _
    rw [gain_nay (by show _ ≤ b * 2 + 0 ∧ b * 2 + 0 ≤ _; omega)]
    exact add_eq (by omega) (by show _ = 0 + (b * 2 + 0); omega) (by omega) (by omega) (by omega) (by omega)
  have s3 : trS3 a b = ⟨putP (putP (trO 3).P 0 (((trO 3).P 0).withT ⟨a, 0, a⟩)) 1 (((trO 3).P 1).withT ⟨0, 2 * b, 0⟩), [((1, 0), trX a), ((1, 1), trY b)], [], [], []⟩ := by
    unfold trS3
    rw [voteS_0 e2, t2, s2]
    rfl
  have e3 : delE (trS3 a b) trA 1 2 2 1 c = 0 := by
    rw [s3]
    exact delE_0 (by decide) (by decide) (by decide) (by decide) (by decide) (by unfold isBal; omega) rfl rfl c1
  have hg := lendG_in (S := ⟨putP (putP (trO 3).P 0 (((trO 3).P 0).withT ⟨a, 0, a⟩)) 1 (((trO 3).P 1).withT ⟨0, 2 * b, 0⟩), [((1, 0), trX a), ((1, 1), trY b)], [((1, 2), ⟨2, 1, c⟩)], [], []⟩) (who := 2) (t := 2) (dv := c * 1) (dc := c) (g := ⟨0, 0⟩) rfl (by simp only; omega) (by simp only; omega)
  have s4 : trS4 a b c = ⟨putP (putP (trO 3).P 0 (((trO 3).P 0).withT ⟨a, 0, a⟩)) 1 (((trO 3).P 1).withT ⟨0, 2 * b, 0⟩), [((1, 0), trX a), ((1, 1), trY b)], [((1, 2), ⟨2, 1, c⟩)], [((2, 2), ⟨0 + c * 1, 0 + c⟩)], []⟩ := by
    unfold trS4
    rw [delS_0 e3, s3]
    exact (lendS_none rfl hg).trans rfl
  have e4 : unvoteE (trS4 a b c) 1 0 = 0 := by
    rw [s4]
    exact unvE_0 (x := trX a) (by decide) ⟨⟨by decide, by decide⟩, show (1 : Int) ≠ 0 by decide⟩ rfl
  have s5 : trS5 a b c = ⟨putP (putP (putP (trO 3).P 0 (((trO 3).P 0).withT ⟨a, 0, a⟩)) 1 (((trO 3).P 1).withT ⟨0, 2 * b, 0⟩)) 0 (((trO 3).P 0).withT ⟨0, 0, 0⟩), [((1, 1), trY b)], [((1, 2), ⟨2, 1, c⟩)], [((2, 2), ⟨0 + c * 1, 0 + c⟩)], []⟩ := by
    unfold trS5
    rw [unvS_on (x := trX a) e4 (by rw [s4]; rfl) (by rw [s4]; rfl), s4]
    have ht : (⟨a, 0, a⟩ : Tl).sub (gainW (trX a) ⟨0, 0⟩) = ⟨0, 0, 0⟩ := by
      rw [g1]
      exact sub_eq (by omega) (by omega) (by omega) (by omega) (by omega) (by omega) (by omega) (by omega) (by omega)
    rw [← ht]
    rfl
  have m4 : trM4 a b c = trR a b c := by
    unfold trM4 trM3 trM2
    rw [delM_0 e3, voteM_0 e2, voteM_0 e1]
    have x1 : capB (trX a) = a := show a + 0 + 0 = a by omega
    have x2 : capB (trY b) = b := show b + 0 + 0 = b by omega
    rw [x1, x2, s2]
    rfl
  have s6 : trS6 a b c = trS5 a b c := by
    unfold trS6 unlS
    rw [if_pos (by decide), s5]
    rfl
  have m6 : trM6 a b c = cdel (trR a b c) 1 0 := by
    unfold trM6 unlM
    rw [if_pos (by decide), m4]
    have : unlN (trS5 a b c) 1 0 5 = 0 := by rw [s5]; rfl
    rw [this]
    unfold lockM
    rw [if_neg (by decide), if_pos (.inl rfl)]
  obtain ⟨r1, r2⟩ := trR_ok a0 a1 b0 b1 c0 c1
  exact ⟨⟨e1, e2, e3, e4⟩, m4 ▸ r1, m6 ▸ r2, by rw [s6, s5]; rfl, by rw [s6, s5]; rfl, by rw [s6, s5]; rfl⟩
end Go.Proofs.YtlnjcfgihklppaaGreat
