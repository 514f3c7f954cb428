/-
  AgendaCarries: the tasks as they come.
-/
import Derived.Test.YtbpgiahbnijidaaCar1
namespace Go.Proofs.Ytbpgiahbnijidaa
open Go.RowKit Go.Shelf
set_option linter.unusedVariables false
set_option linter.unusedSimpArgs false

def lateL (j : Nat) : List Tk := (List.range j).map fun i => mkT (i : Nat) 2
def carL (later i : Nat) : List Tk := ((List.range i).map fun a => mkT (10 + (a : Nat)) 1) ++ lateL later
theorem late_put : ∀ j, j < 6 → putL (lateL j) (mkT (j : Nat) 2) = lateL (j + 1) := by decide +kernel
theorem late_srt' : ∀ j, j < 7 → decide ((lateL j).Pairwise fun a b => cmpT a b < 0) = true := by decide +kernel
theorem car_put : ∀ later, later < 7 → ∀ i, i < 6 → putL (carL later i) (mkT (10 + (i : Nat)) 1) = carL later (i + 1) := by decide +kernel
theorem car_srt' : ∀ later, later < 7 → ∀ i, i < 7 → decide ((carL later i).Pairwise fun a b => cmpT a b < 0) = true := by decide +kernel
theorem lateL_len (j : Nat) : (lateL j).length = j := by simp [lateL]
theorem carL_len (later i : Nat) : (carL later i).length = i + later := by simp [carL, lateL]
def goK (n later most : Nat) : Nat → List Tk × List Int
  | 0 => (carL later n, [])
  | k + 1 => ((goK n later most k).1.drop (dueL (goK n later most k).1 ((k : Nat) + 1) (most : Nat)).length, (goK n later most k).2 ++ (dueL (goK n later most k).1 ((k : Nat) + 1) (most : Nat)).map (·.name))
theorem dueL_most : ∀ (ts : List Tk) (now most : Int), 0 ≤ most → ((dueL ts now most).length : Int) ≤ most
  | [], now, most, h => by simpa [dueL] using h
  | t :: ts, now, most, h => by
    unfold dueL
    split
    · rename_i hc
      have := dueL_most ts now (most - 1) (by omega)
      simp only [List.length_cons]; omega
    · simpa using h
theorem goK_len (n later most : Nat) : ∀ k, (goK n later most k).1.length + (goK n later most k).2.length = n + later
  | 0 => by simp [goK, carL_len]
  | k + 1 => by
    have h := goK_len n later most k
    have h2 := dueL_le (goK n later most k).1 ((k : Nat) + 1) (most : Nat)
    simp only [goK, List.length_drop, List.length_append, List.length_map]
    omega
def wantL (n later : Nat) : List Int := ((List.range n).map fun a => (10 : Int) + (a : Nat)) ++ (List.range later).map fun a => ((a : Nat) : Int)
/-- The same, in one way through. -/
def goA (most : Nat) : Nat → Nat → List Tk → List Int → List Int
  | 0, _, _, ns => ns
  | j + 1, k, ts, ns => goA most j (k + 1) (ts.drop (dueL ts ((k : Nat) + 1) (most : Nat)).length) (ns ++ (dueL ts ((k : Nat) + 1) (most : Nat)).map (·.name))
theorem goA_goK (n later most : Nat) : ∀ j k, goA most j k (goK n later most k).1 (goK n later most k).2 = (goK n later most (k + j)).2
  | 0, k => rfl
  | j + 1, k => by
    unfold goA
    have := goA_goK n later most j (k + 1)
    rw [show k + (j + 1) = k + 1 + j by omega, ← this]
    rfl
theorem goA_want : ∀ n, n < 7 → ∀ later, later < 7 → ∀ most, most < 7 → (1 ≤ most → goA most 14 0 (carL later n) [] = wantL n later) := by decide +kernel
theorem goK_want {n later most : Nat} (h1 : n < 7) (h2 : later < 7) (h3 : most < 7) (h4 : 1 ≤ most) : (goK n later most 14).2 = wantL n later := by
  have := goA_goK n later most 14 0
  rw [Nat.zero_add] at this
  rw [← this]
  exact goA_want n h1 later h2 most h3 h4
end Go.Proofs.Ytbpgiahbnijidaa
