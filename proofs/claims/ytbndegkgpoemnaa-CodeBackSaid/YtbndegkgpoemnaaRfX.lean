/-
  What the reference asks of an extrinsic is what IsExt asks.
-/
import Derived.Test.YtbndegkgpoemnaaRfA
namespace Go.Proofs.Ytbndegkgpoemnaa
open Go.RowKit
set_option linter.unusedVariables false
set_option linter.unusedSimpArgs false

/-- What the reference asks of the rest of an extrinsic. -/
def restX (k : Int) (e : Ex) (cOk vOk : Bool) : Bool :=
  (namesB k 83 || decide (e.sum = List.replicate 32 0)) && ((namesB k 86 == (e.vote.kind != 0)) && ((if namesB k 86 = true then vOk else voteEq e.vote ⟨0, false, 0, 0, 0, 0⟩) &&
    (if namesB k 67 = true then cOk else (e.ck == 0 && (e.ct == 0 && (e.cn == 0 && decide (e.m = 0)))))))
/-- What the reference asks of an extrinsic. -/
def refX (k who to' n r tr lv : Int) (e : Ex) (cOk vOk : Bool) : Bool :=
  decide (1 ≤ k ∧ k ≤ 11) && (decide (0 ≤ who ∧ who ≤ 9) && ((numB k 84 to' 9 && (numB k 78 n (if k = 4 then 1000 else 1073741824) && (numB k 82 r 11 && (numB k 75 tr 3 && numB k 76 lv 6)))) && restX k e cOk vOk))
set_option maxHeartbeats 4000000 in
set_option maxRecDepth 100000 in
theorem refX_eq (k who to' n r tr lv : Int) (e : Ex) (cOk vOk : Bool) (hv : vOk = true → e.vote.kind ≠ 0) : refX k who to' n r tr lv e cOk vOk = isX k who to' n r tr lv e cOk vOk := by
  by_cases hk : 1 ≤ k ∧ k ≤ 11
  · obtain ⟨hd, h7, sm, h32, ⟨v1, v2, v3, v4, v5, v6⟩, ck, ct, cn, ca, cc, m⟩ := e
    have hk2 : k = 1 ∨ k = 2 ∨ k = 3 ∨ k = 4 ∨ k = 5 ∨ k = 6 ∨ k = 7 ∨ k = 8 ∨ k = 9 ∨ k = 10 ∨ k = 11 := by omega
    obtain ⟨Z, hZ⟩ : ∃ Z, Z = List.replicate 32 0 := ⟨_, rfl⟩
    unfold refX isX restX
    rcases hk2 with rfl | rfl | rfl | rfl | rfl | rfl | rfl | rfl | rfl | rfl | rfl
    all_goals
      simp only [numB, namesB, namesOf, fieldsOk, wiped, exWith, extEq, exZero, voteEq, ← hZ]
      rw [Bool.eq_iff_iff]
      simp at hv ⊢
    all_goals
      by_cases hs : sm = Z <;> cases v2 <;> cases vOk <;> cases cOk <;> simp [hs] at hv ⊢ <;> (first | omega | (constructor <;> intro h <;> omega))
  · unfold refX isX
    rw [decide_eq_false hk]
    simp
theorem voteB_kind {k : Int} {aye : Bool} {l a n s : Int} (h : voteB k aye l a n s = true) : k ≠ 0 := by
  rintro rfl
  simp [voteB, shapedB] at h
end Go.Proofs.Ytbndegkgpoemnaa
