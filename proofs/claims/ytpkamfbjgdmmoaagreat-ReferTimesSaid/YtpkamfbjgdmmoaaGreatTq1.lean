/-
  The law ReferTimes: what happens.
-/
import Derived.Test.YtpkamfbjgdmmoaaGreatMgn
namespace Go.Proofs.YtpkamfbjgdmmoaaGreat
open Go.RowKit Go.Maps Go.Shelf
set_option linter.unusedVariables false
set_option linter.unusedSimpArgs false

/-- A service without events leaves the polls. -/
theorem serveP_quiet (ts : List Trk) (is now : Int) (R : List Rfm) (S : Vs) (pre : List (Int × Rfm)) (h : (serveP ts is now R S pre).2.2 = []) : (serveP ts is now R S pre).2.1 = S := by
  have key : ∀ (l : List (Int × Rfm)) (q : Sv3), q.2.2.length ≤ (l.foldl (serve1 ts is now) q).2.2.length ∧ ((l.foldl (serve1 ts is now) q).2.2.length = q.2.2.length → (l.foldl (serve1 ts is now) q).2.1 = q.2.1) := by
    intro l
    induction l with
    | nil => exact fun q => ⟨Nat.le_refl _, fun _ => rfl⟩
    | cons a l ih =>
      intro q
      rw [List.foldl_cons]
      obtain ⟨i1, i2⟩ := ih (serve1 ts is now q a)
      have step : q.2.2.length ≤ (serve1 ts is now q a).2.2.length ∧ ((serve1 ts is now q a).2.2.length = q.2.2.length → (serve1 ts is now q a).2.1 = q.2.1) := by
        unfold serve1
        split
        · split
          · exact ⟨Nat.le_refl _, fun _ => rfl⟩
          · exact ⟨by simp, fun e => by simp at e⟩
        · exact ⟨Nat.le_refl _, fun _ => rfl⟩
      exact ⟨by omega, fun e => (i2 (by omega)).trans (step.2 (by omega))⟩
  have := (key pre (R, S, [])).2
  exact this (by show (serveP ts is now R S pre).2.2.length = 0; rw [h]; rfl)
theorem srv_fix {ts : List Trk} {s : St12} {now : Int} (h1 : (s.srv ts now).R = s.R) (h2 : s.evs ts now = []) : s.srv ts now = s := by
  have h3 : (s.srv ts now).S = s.S := serveP_quiet _ _ _ _ _ _ h2
  cases s
  simp only [St12.srv] at h1 h3 ⊢
  rw [h1, h3]
def trkT : Trk := ⟨1, 20, 2, 100, 3, 1, 1, 500000000, 500000000, 1, 0, 1, 1000000000, 1000000000, 1, 0, 50, 2⟩
def tT : List Trk := [trkT]
def tq1 : St12 := (St12.zero.sub tT 1 0 hsh0 0 0).dep tT 1 0
def tq2 : St12 := tq1.srv tT 2
def tqA (k : Nat) : St12 := if k < 2 then tq1 else tq2
def tqS (l : Nat) : St12 := tq2.sub tT 2 0 hsh0 0 ((2 + l : Nat) : Int)
def tqB (l : Nat) (b : Bool) : St12 := if b then (tqS l).dep tT 2 1 else tqS l
def tqD (l : Nat) (b : Bool) : St12 := (tqB l b).srv tT ((32 + l : Nat) : Int)
/-- Behind j services of the second loop. -/
def tqC (l : Nat) (b : Bool) (j : Nat) : St12 := if j < 30 then tqB l b else tqD l b
theorem tq_pre : newB tT = true ∧ rinB tT St12.zero.R = true ∧ rinB tT (St12.zero.sub tT 1 0 hsh0 0 0).R = true ∧ srvB tT tq1 1 = true ∧ srvB tT tq1 2 = true ∧ (tq1.srv tT 1).R = tq1.R ∧ tq1.evs tT 1 = [] ∧ rinB tT tq2.R = true := by decide +kernel
theorem tq_one : ∀ k : Nat, k < 40 → srvB tT tq2 ((k + 3 : Nat) : Int) = true ∧ (tq2.srv tT ((k + 3 : Nat) : Int)).R = tq2.R ∧ tq2.evs tT ((k + 3 : Nat) : Int) = [] := by decide +kernel
def tqOk (l : Nat) (b : Bool) (j : Nat) : Bool :=
  srvB tT (tqC l b j) ((3 + l + j : Nat) : Int) && (if j = 29 then decide ((tqC l b j).evs tT ((3 + l + j : Nat) : Int) = [(1, 1, 4)]) else decide ((tqC l b j).evs tT ((3 + l + j : Nat) : Int) = []) && decide (((tqC l b j).srv tT ((3 + l + j : Nat) : Int)).R = (tqC l b j).R))
set_option maxRecDepth 100000 in
theorem tq_two : ∀ l : Nat, l ≤ 40 → ∀ b ∈ [true, false], (List.range (78 - l)).all (fun j => tqOk l b j) = true := by decide +kernel
theorem tq_end : ∀ l : Nat, l ≤ 40 → ∀ b ∈ [true, false], rinB tT (tqS l).R = true ∧ refHas (tqD l b).R 0 = true ∧ (refAt (tqD l b).R 0).st = 1 ∧ (refAt (tqD l b).R 0).si = 2 := by decide +kernel
/-- The first loop. -/
theorem tqA_step {k : Nat} (hk : k < 42) : srvB tT (tqA k) ((k + 1 : Nat) : Int) = true ∧ (tqA k).srv tT ((k + 1 : Nat) : Int) = tqA (k + 1) := by
  obtain ⟨-, -, -, h1, h2, h3, h4, -⟩ := tq_pre
  by_cases c0 : k = 0
  · subst c0
    exact ⟨h1, srv_fix h3 h4⟩
  · by_cases c1 : k = 1
    · subst c1
      exact ⟨h2, rfl⟩
    · obtain ⟨m, rfl⟩ : ∃ m, k = m + 2 := ⟨k - 2, by omega⟩
      obtain ⟨e1, e2, e3⟩ := tq_one m (by omega)
      have a1 : tqA (m + 2) = tq2 := by unfold tqA; rw [if_neg (by omega)]
      have a2 : tqA (m + 2 + 1) = tq2 := by unfold tqA; rw [if_neg (by omega)]
      rw [a1, a2]
      exact ⟨e1, srv_fix e2 e3⟩
/-- The second loop. -/
theorem tqC_step {l j : Nat} (b : Bool) (hl : l ≤ 40) (hj : j < 78 - l) : srvB tT (tqC l b j) ((3 + l + j : Nat) : Int) = true ∧ (tqC l b j).srv tT ((3 + l + j : Nat) : Int) = tqC l b (j + 1) ∧ (tqC l b j).evs tT ((3 + l + j : Nat) : Int) = if j = 29 then [(1, 1, 4)] else [] := by
  have h := List.all_eq_true.1 (tq_two l hl b (by cases b <;> simp)) j (List.mem_range.2 hj)
  unfold tqOk at h
  rw [Bool.and_eq_true] at h
  obtain ⟨h1, h2⟩ := h
  refine ⟨h1, ?_⟩
  by_cases c : j = 29
  · rw [if_pos c] at h2 ⊢
    refine ⟨?_, of_decide_eq_true h2⟩
    subst c
    have a1 : tqC l b 29 = tqB l b := by unfold tqC; rw [if_pos (by omega)]
    have a2 : tqC l b (29 + 1) = tqD l b := by unfold tqC; rw [if_neg (by omega)]
    rw [a1, a2]
    unfold tqD
    rw [show 3 + l + 29 = 32 + l by omega]
  · rw [if_neg c] at h2 ⊢
    rw [Bool.and_eq_true] at h2
    refine ⟨?_, of_decide_eq_true h2.1⟩
    rw [srv_fix (of_decide_eq_true h2.2) (of_decide_eq_true h2.1)]
    unfold tqC
    by_cases c2 : j < 30
    · rw [if_pos c2, if_pos (by omega)]
    · rw [if_neg c2, if_neg (by omega)]
end Go.Proofs.YtpkamfbjgdmmoaaGreat
