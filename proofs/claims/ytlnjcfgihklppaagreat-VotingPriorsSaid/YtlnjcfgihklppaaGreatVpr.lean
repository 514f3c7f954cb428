/-
  VotingPriors: what happens.
-/
import Derived.Test.YtlnjcfgihklppaaGreatPb
namespace Go.Proofs.YtlnjcfgihklppaaGreat
open Go.RowKit Go.Maps Go.Shelf
set_option linter.unusedVariables false
set_option linter.unusedSimpArgs false

theorem period_bd {l : Int} (l0 : 0 ≤ l) (l1 : l ≤ 6) : 0 ≤ periodI l 8 ∧ periodI l 8 ≤ 256 := by
  have e : l = 0 ∨ l = 1 ∨ l = 2 ∨ l = 3 ∨ l = 4 ∨ l = 5 ∨ l = 6 := by omega
  rcases e with rfl | rfl | rfl | rfl | rfl | rfl | rfl <;> decide
def prA : Acc := accL [0, 1000]
def prS1 : Vs := openS Vs.zero 0 2
def prX (y : Bool) (l n : Int) : Bal := ⟨1, y, l, n, 0, 0⟩
def prU (l : Int) : Int := 10 + periodI l 8
def prSt (q : Bool) : Int := if q then 2 else 3
def prS2 (y : Bool) (l n : Int) : Vs := voteS prS1 prA 1 0 (prX y l n)
def prM2 (y : Bool) (l n : Int) : Cls Int := voteM prS1 prA [] 1 0 (prX y l n)
def prS3 (y q : Bool) (l n : Int) : Vs := closeS (prS2 y l n) 0 (prSt q) 10
def prS4 (y q : Bool) (l n now : Int) : Vs := unvoteS (prS3 y q l n) 1 0 now
def prS5 (y q : Bool) (l n now : Int) : Vs := unlS (prS4 y q l n now) 1 2 now
def prM5 (y q : Bool) (l n now : Int) : Cls Int := unlM (prS4 y q l n now) (prM2 y l n) 1 2 now
def prS6 (y q : Bool) (l n now : Int) : Vs := unlS (prS5 y q l n now) 1 2 (max (prU l) now)
def prM6 (y q : Bool) (l n now : Int) : Cls Int := unlM (prS5 y q l n now) (prM5 y q l n now) 1 2 (max (prU l) now)
def prQ (y q : Bool) (l n now : Int) : Cls Wgt := if (y == q) = true ∧ now < prU l then [((1, 2), ⟨prU l, n⟩)] else []
def prP (t : Tl) (st en : Int) : Nat → Pl := fun i => if i = 0 then ⟨st, 2, t.a, t.n, t.s, en⟩ else Pl.zero
theorem pr_ok {y q : Bool} {l n now : Int} (l0 : 0 ≤ l) (l1 : l ≤ 6) (n0 : 1 ≤ n) (n1 : n ≤ 1000) (w0 : 0 ≤ now) (w1 : now ≤ 600) :
    (voteE prS1 prA 1 0 (prX y l n) = 0 ∧ closeE (prS2 y l n).P 0 (prSt q) = 0 ∧ unvoteE (prS3 y q l n) 1 0 = 0) ∧ lockedOf (prM5 y q l n now) 1 = (if (y == q) = true ∧ now < prU l then n else 0) ∧ lockedOf (prM6 y q l n now) 1 = 0 ∧ transE prA (prM6 y q l n now) 1 0 1000 = 0 := by
  obtain ⟨p0, p1⟩ := period_bd l0 l1
  have hu : wrap64 (10 + periodI l 8) = prU l := w64_in (by omega) (by omega)
  have hu0 : 10 ≤ prU l := by unfold prU; omega
  have e1 : voteE prS1 prA 1 0 (prX y l n) = 0 := voteE_0 (by decide) (balOk_std ⟨l0, l1⟩ (by omega)) (by decide) (by decide) (by decide) (show n + 0 + 0 ≤ 1000 by omega) (by decide)
  obtain ⟨t, ht⟩ : ∃ t, t = voteT prS1 1 0 (prX y l n) := ⟨_, rfl⟩
  have s2 : prS2 y l n = ⟨prP t 1 0, [((1, 0), prX y l n)], [], [], []⟩ := by
    unfold prS2
    rw [voteS_0 e1, ← ht]
    simp only [Vs.mk.injEq, and_true]
    refine ⟨?_, rfl, rfl, rfl, rfl⟩
    funext i
    unfold prP putP
    by_cases hi : i = 0
    · subst hi; rfl
    · rw [if_neg (by simpa using hi), if_neg hi]
      show (openS Vs.zero 0 2).P i = _
      unfold openS
      rw [if_pos (by decide)]
      show putP _ 0 _ i = _
      rw [putP_other _ _ hi]; rfl
  have hst : prSt q = 2 ∨ prSt q = 3 := by unfold prSt; cases q <;> simp
  have e2 : closeE (prS2 y l n).P 0 (prSt q) = 0 := by
    rw [s2]
    unfold closeE
    rw [if_neg (Classical.not_not.2 ⟨⟨by decide, by decide⟩, show (1 : Int) ≠ 0 by decide⟩), if_neg (fun h => h rfl), if_neg (by omega)]
  have s3 : prS3 y q l n = ⟨prP t (prSt q) 10, [((1, 0), prX y l n)], [], [], []⟩ := by
    unfold prS3 closeS
    rw [if_pos e2, s2]
    simp only [Vs.mk.injEq, and_true]
    funext i
    unfold prP putP
    by_cases hi : i = 0
    · subst hi; rfl
    · rw [if_neg (by simpa using hi), if_neg hi]
      exact if_neg hi
  have e3 : unvoteE (prS3 y q l n) 1 0 = 0 := by
    rw [s3]
    exact unvE_0 (x := prX y l n) (by decide) ⟨⟨by decide, by decide⟩, show prSt q ≠ 0 by omega⟩ rfl
  have hw : wonB (prSt q) (prX y l n) = (y == q) := by cases y <;> cases q <;> rfl
  have s4 : prS4 y q l n now = ⟨prP t (prSt q) 10, [], [], [], prQ y q l n now⟩ := by
    unfold prS4 unvoteS
    rw [if_pos e3, s3]
    have c1 : ((prP t (prSt q) 10) (Int.toNat 0)).st = prSt q := rfl
    simp only [c1]
    rw [if_neg (by omega)]
    have c2 : (cget [((1, 0), prX y l n)] 1 0).getD balS.zero = prX y l n := rfl
    rw [c2, hw]
    unfold prQ
    by_cases hq : (y == q) = true
    · rw [if_pos hq]
      have c3 : ((prP t (prSt q) 10) (Int.toNat 0)).en = 10 := rfl
      have c4 : (prX y l n).l = l := rfl
      have c5 : (prX y l n).a = n := rfl
      have c6 : ((prP t (prSt q) 10) (Int.toNat 0)).tr = 2 := rfl
      simp only [c3, c4, c5, c6, hu]
      unfold joinQ
      by_cases hn : now < prU l
      · rw [if_neg (by omega), if_pos ⟨hq, hn⟩]
        have : (⟨max 0 (prU l), max 0 n⟩ : Wgt) = ⟨prU l, n⟩ := by rw [Int.max_eq_right (by omega), Int.max_eq_right (by omega)]
        rw [← this]
        rfl
      · rw [if_pos (by omega), if_neg (fun h => hn h.2)]
        rfl
    · rw [if_neg hq, if_neg (fun h => hq h.1)]
      rfl
  have m2 : prM2 y l n = [((1, 2), n)] := by
    unfold prM2
    rw [voteM_0 e1, show capB (prX y l n) = n from show n + 0 + 0 = n by omega]
    exact raise_nil (by decide) (by omega)
  have q4 : unlQ (prS4 y q l n now) 1 2 now = prQ y q l n now := by
    rw [s4]
    unfold unlQ prQ
    by_cases h : (y == q) = true ∧ now < prU l
    · simp only [if_pos h]
      rw [if_neg (by show ¬ prU l ≤ now; omega)]
    · simp only [if_neg h]
      rw [if_pos (by show (0 : Int) ≤ now; omega)]
      rfl
  have s5 : prS5 y q l n now = prS4 y q l n now := by
    unfold prS5 unlS
    rw [if_pos (by decide), q4, s4]
  have m5 : prM5 y q l n now = if (y == q) = true ∧ now < prU l then [((1, 2), n)] else [] := by
    unfold prM5 unlM
    rw [if_pos (by decide), m2]
    unfold unlN
    rw [q4, s4]
    unfold prQ
    by_cases h : (y == q) = true ∧ now < prU l
    · simp only [if_pos h]
      have : maxCap (ballots ⟨prP t (prSt q) 10, [], [], [], [((1, 2), ⟨prU l, n⟩)]⟩ 1 2) (max (undD ⟨prP t (prSt q) 10, [], [], [], [((1, 2), ⟨prU l, n⟩)]⟩ 1 2).n ((cget [((1, 2), (⟨prU l, n⟩ : Wgt))] 1 2).getD ⟨0, 0⟩).c) = n := show max 0 n = n from Int.max_eq_right (by omega)
      rw [this]
      unfold lockM
      rw [if_neg (by decide), if_neg (by unfold isBal; omega)]
      rfl
    · simp only [if_neg h]
      have : maxCap (ballots ⟨prP t (prSt q) 10, [], [], [], []⟩ 1 2) (max (undD ⟨prP t (prSt q) 10, [], [], [], []⟩ 1 2).n ((cget ([] : Cls Wgt) 1 2).getD ⟨0, 0⟩).c) = 0 := rfl
      rw [this]
      rfl
  have q5 : unlQ (prS5 y q l n now) 1 2 (max (prU l) now) = [] := by
    rw [s5, s4]
    unfold unlQ prQ
    by_cases h : (y == q) = true ∧ now < prU l
    · simp only [if_pos h]
      rw [if_pos (by show prU l ≤ max (prU l) now; omega)]
      rfl
    · simp only [if_neg h]
      rw [if_pos (by show (0 : Int) ≤ max (prU l) now; omega)]
      rfl
  have m6 : prM6 y q l n now = [] := by
    unfold prM6 unlM
    rw [if_pos (by decide), m5]
    unfold unlN
    rw [q5, s5, s4]
    have : maxCap (ballots ⟨prP t (prSt q) 10, [], [], [], prQ y q l n now⟩ 1 2) (max (undD ⟨prP t (prSt q) 10, [], [], [], prQ y q l n now⟩ 1 2).n ((cget ([] : Cls Wgt) 1 2).getD ⟨0, 0⟩).c) = 0 := rfl
    rw [this]
    split <;> rfl
  refine ⟨⟨e1, e2, e3⟩, ?_, by rw [m6]; rfl, by rw [m6]; decide⟩
  rw [m5]
  split
  · exact Int.max_eq_right (by omega)
  · rfl
end Go.Proofs.YtlnjcfgihklppaaGreat
