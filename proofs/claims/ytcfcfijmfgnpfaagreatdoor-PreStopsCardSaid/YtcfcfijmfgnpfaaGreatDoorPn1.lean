/-
  Remarks noted one after another: what is there, what is left. Printed by mkl8.py.
-/
import Derived.Test.YtcfcfijmfgnpfaaGreatDoorRs7
namespace Go.Proofs.YtcfcfijmfgnpfaaGreatDoor
open Go.RowKit Go.Maps Go.Shelf
set_option linter.unusedVariables false
set_option linter.unusedSimpArgs false

def Af (f : Int) (h : Nat) : Acc := fun k => if k = 1 then (f - 5 * h, 5 * h) else (0, 0)
def Pf : Nat → Pm
  | 0 => []
  | h + 1 => dput (Pf h) (dgOf (rmk h)) (1, rmk h)
theorem Pf_srt : ∀ h, SrtD (Pf h)
  | 0 => SrtD.nil
  | h + 1 => (Pf_srt h).put _ _
theorem Pf_get {n : Nat} (hap : ApartR n) : ∀ {h : Nat}, h ≤ n → ∀ {j : Nat}, j < n → dget (Pf h) (dgOf (rmk j)) = if j < h then some (1, rmk j) else none
  | 0, _, j, _ => by rw [if_neg (Nat.not_lt_zero j)]; rfl
  | h + 1, hh, j, hj => by
    rw [Pf, (Pf_srt h).get_put, Pf_get hap (Nat.le_of_succ_le hh) hj]
    by_cases e : j = h
    · subst e; rw [if_pos rfl, if_pos (Nat.lt_succ_self _)]
    · have hne : dgOf (rmk j) ≠ dgOf (rmk h) := by
        rcases Nat.lt_or_gt_of_ne e with h1 | h1
        · exact fun q => hap h (by omega) j h1 q.symm
        · exact hap j hj h h1
      rw [if_neg hne]
      by_cases h2 : j < h
      · rw [if_pos h2, if_pos (by omega)]
      · rw [if_neg h2, if_neg (by omega)]
theorem Pf_len {n : Nat} (hap : ApartR n) : ∀ {h : Nat}, h ≤ n → (Pf h).length = h
  | 0, _ => rfl
  | h + 1, hh => by
    rw [Pf, (Pf_srt h).length_put, Pf_get hap (Nat.le_of_succ_le hh) (by omega), if_neg (Nat.lt_irrefl h), Pf_len hap (Nat.le_of_succ_le hh)]; rfl
theorem Af_0 (f : Int) : Af f 0 = accL [0, f] := by
  funext k
  unfold Af accL
  match k with
  | 0 => rfl
  | 1 => simp
  | k + 2 => simp
theorem Af_step {f : Int} {h : Nat} (hs : spendE (Af f h) [] 1 5 false = 0) : reserveA (Af f h) [] 1 5 = Af f (h + 1) := by
  unfold reserveA
  rw [if_pos hs]
  funext k
  by_cases e : k = 1
  · subst e; simp [upd, spendA, Af]; omega
  · simp [upd, spendA, Af, e]
theorem Af_spend (f : Int) (h : Nat) : spendE (Af f h) [] 1 5 false = if f - 5 * h < 5 then 6 else 0 := by
  have h1 : isAcc 1 := by decide
  have h2 : isBal 5 := by decide
  have e1 : (Af f h (1 : Int).toNat).1 = f - 5 * h := rfl
  have e2 : lockedOf [] 1 = 0 := by decide +kernel
  unfold spendE
  rw [if_neg (by simp [h1, h2]), e1, e2]
  by_cases c : f - 5 * h < 5
  · rw [if_pos c, if_pos c]
  · rw [if_neg c, if_neg c, if_neg (by omega)]
theorem okC_rmk {i : Nat} (hi : i < 13) : okC 3 (rmk i) = true := by
  have : ∀ i : Fin 13, okC 3 (rmk (i : Nat)) = true := by decide +kernel
  exact this ⟨i, hi⟩
/-- What one more remark is answered. -/
theorem noteE_f {n : Nat} (hn : n ≤ 12) (hap : ApartR n) (f : Int) {h i : Nat} (hi : i < n) (hh : h ≤ i) : noteE (Af f h) [] (Pf h) 1 (rmk i) = if 6 ≤ h then 3 else if f - 5 * h < 5 then 6 else 0 := by
  have g0 : dget (Pf h) (dgOf (rmk i)) = none := by rw [Pf_get hap (by omega) hi, if_neg (by omega)]
  unfold noteE
  rw [if_neg (by rw [okC_rmk (by omega)]; decide), g0, if_neg (by simp), Pf_len hap (by omega), Af_spend]
theorem noteE_f5 {n : Nat} (hn : n ≤ 12) (hap : ApartR n) (f : Int) {h : Nat} (hh : h < n) : noteE (Af f (h + 1)) [] (Pf (h + 1)) 1 (rmk h) = 5 := by
  have g0 : dget (Pf (h + 1)) (dgOf (rmk h)) = some (1, rmk h) := by rw [Pf_get hap (by omega) hh, if_pos (by omega)]
  unfold noteE
  rw [if_neg (by rw [okC_rmk (by omega)]; decide), g0, if_pos (by rfl)]
theorem newOk_f {f : Int} (h0 : 0 ≤ f) (h1 : f ≤ 100) : newOk [0, f] := by
  refine ⟨by simp, fun k hk => ?_, ?_⟩
  · match k, hk with
    | 0, _ => show isBal 0; decide
    | 1, _ => show isBal f; unfold isBal; omega
  · have : sumTo (accL [0, f]) 10 = f := by simp [sumTo, both, accL]
    rw [this]; omega
end Go.Proofs.YtcfcfijmfgnpfaaGreatDoor
