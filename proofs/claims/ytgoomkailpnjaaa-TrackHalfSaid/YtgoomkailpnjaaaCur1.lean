/-
  Contracts of ratios and curves, the code's and the document's: the same plain arithmetic.
-/
import Derived.Test.YtgoomkailpnjaaaConv1
import Derived.Deep.QuietTactic
import Derived.BigQuiet
import Derived.Deep.RegionHeld3
namespace Go.Proofs.Ytgoomkailpnjaaa
open Go.RowKit
set_option linter.unusedVariables false

def ratioI (a b : Int) : Int := if b = 0 then 0 else min (a * 1000000000 / b) 1000000000

theorem div_le_self' {a b : Int} (ha : 0 ≤ a) (hb : 0 < b) : 0 ≤ a / b ∧ a / b ≤ a :=
  ⟨Int.ediv_nonneg ha (by omega), by
    have h1 := Int.mul_ediv_add_emod a b
    have h2 := Int.emod_nonneg a (show b ≠ 0 by omega)
    have h3 := Int.ediv_nonneg ha (show 0 ≤ b by omega)
    have h4 : 1 * (a / b) ≤ b * (a / b) := Int.mul_le_mul_of_nonneg_right (by omega) h3
    omega⟩

theorem per_Ratio (a b : Int) (w : World) (h0 : 0 ≤ a) (h1 : a ≤ 8589934592) (h2 : 0 ≤ b) (h3 : b ≤ 8589934592) :
    Calls Try.prog 51 #[.int .i64 a, .int .i64 b] w fun e w' => e = .returned (.int .i64 (ratioI a b)) ∧ w = w' := by
  by_cases hb : b = 0
  · subst hb
    go_enter Try.func51, Try.ntmps51
    go_wp2
    go_ret
    exact ⟨rfl, rfl⟩
  · have hb1 : 0 < b := by omega
    obtain ⟨d0, d1⟩ := div_le_self' (a := a * 1000000000) (b := b) (by omega) hb1
    have e : ratioI a b = min (a * 1000000000 / b) 1000000000 := if_neg hb
    have E := Lib.hid e; clear e
    go_enter Try.func51, Try.ntmps51
    go_wp2
    all_goals
      go_ret
      rw [E.out]
      exact ⟨ret_int (by omega), rfl⟩

theorem ref_Ratio (a b : Int) (w : World) (h0 : 0 ≤ a) (h1 : a ≤ 8589934592) (h2 : 0 ≤ b) (h3 : b ≤ 8589934592) :
    Calls Try.prog 52 #[.int .i64 a, .int .i64 b] w fun e w' => e = .returned (.int .i64 (ratioI a b)) ∧ w = w' := by
  by_cases hb : b = 0
  · subst hb
    go_enter Try.func52, Try.ntmps52
    go_wp2
    go_ret
    exact ⟨rfl, rfl⟩
  · have hb1 : 0 < b := by omega
    obtain ⟨d0, d1⟩ := div_le_self' (a := a * 1000000000) (b := b) (by omega) hb1
    have e : ratioI a b = min (a * 1000000000 / b) 1000000000 := if_neg hb
    have E := Lib.hid e; clear e
    go_enter Try.func52, Try.ntmps52
    go_wp2
    all_goals
      go_ret
      rw [E.out]
      exact ⟨ret_int (by omega), rfl⟩

def fallsB (a b c : Int) : Bool := withinB a 0 1000000000 && withinB b 0 a && withinB c 1 1000000000
def isB (k a b c d : Int) : Bool :=
  if k = 1 then fallsB a b c && (d == 0)
  else if k = 2 then fallsB a b c && withinB d 1 1000000000
  else if k = 3 then withinB a 0 1000000000 && withinB b 1 1000000000 && withinB c 0 1000000000 && (d == 0)
  else false

def heldI (n : Int) : Int := min (max n 0) 1000000000
abbrev curve (k a b c d : Int) : Value := .agg #[.int .i64 k, .int .i64 a, .int .i64 b, .int .i64 c, .int .i64 d]

theorem ref4_in (n l m : Int) (w : World) :
    Calls Try.prog 56 #[.int .i64 n, .int .i64 l, .int .i64 m] w fun e w' => e = .returned (.bool (withinB n l m)) ∧ w = w' := by
  by_cases h0 : l ≤ n
  · go_enter Try.func56, Try.ntmps56
    go_wp2
    go_ret
    exact ⟨ret_bool (by simp [withinB, h0]), rfl⟩
  · go_enter Try.func56, Try.ntmps56
    go_wp2
    go_ret
    exact ⟨ret_bool (by simp [withinB]; omega), rfl⟩

theorem per_within (n l : Int) (w : World) :
    Calls Try.prog 55 #[.int .i64 n, .int .i64 l] w fun e w' => e = .returned (.bool (withinB n l 1000000000)) ∧ w = w' := by
  go_enter Try.func55, Try.ntmps55
  go_wp2_with (go_at_call 46; refine (bound_Within _ _ _ _).mono ?_; rintro e w' ⟨rfl, rfl⟩)
  go_ret
  exact ⟨rfl, rfl⟩

theorem per_held (n : Int) (w : World) :
    Calls Try.prog 57 #[.int .i64 n] w fun e w' => e = .returned (.int .i64 (heldI n)) ∧ w = w' := by
  go_enter Try.func57, Try.ntmps57
  go_wp2
  all_goals
    go_ret
    exact ⟨ret_int (by unfold heldI; omega), rfl⟩

theorem per_falls (k a b c d : Int) (w : World) :
    Calls Try.prog 54 #[curve k a b c d] w fun e w' => e = .returned (.bool (fallsB a b c)) ∧ Below w.heap.size w w' := by
  go_enter Try.func54, Try.ntmps54
  go_wp2_with (first | (go_at_call 46; refine (bound_Within _ _ _ _).mono ?_; rintro e w' ⟨rfl, rfl⟩) | (go_at_call 55; refine (per_within _ _ _).mono ?_; rintro e w' ⟨rfl, rfl⟩))
  all_goals
    go_ret
    exact ⟨ret_bool (by simp [fallsB, *]), (Below.refl _ _).alloc (Nat.le_refl _) _⟩

theorem per_Is (k a b c d : Int) (w : World) :
    Calls Try.prog 48 #[curve k a b c d] w fun e w' => e = .returned (.bool (isB k a b c d)) ∧ Below w.heap.size w w' := by
  by_cases k1 : k = 1
  · subst k1
    go_enter Try.func48, Try.ntmps48
    go_wp2_with (go_at_call 54; refine (per_falls _ _ _ _ _ _).mono ?_; rintro e w' ⟨rfl, hb⟩; obtain ⟨hc, hf⟩ := bcell hb)
    all_goals
      go_ret
      exact ⟨ret_bool (by simp [isB, *]), below_box hb⟩
  · by_cases k2 : k = 2
    · subst k2
      go_enter Try.func48, Try.ntmps48
      go_wp2_with (first | (go_at_call 54; refine (per_falls _ _ _ _ _ _).mono ?_; rintro e w' ⟨rfl, hb⟩; obtain ⟨hc, hf⟩ := bcell hb) | (go_at_call 55; refine (per_within _ _ _).mono ?_; rintro e w' ⟨rfl, rfl⟩))
      all_goals
        go_ret
        exact ⟨ret_bool (by simp [isB, *]), below_box hb⟩
    · by_cases k3 : k = 3
      · subst k3
        go_enter Try.func48, Try.ntmps48
        go_wp2_with (go_at_call 55; refine (per_within _ _ _).mono ?_; rintro e w' ⟨rfl, rfl⟩)
        all_goals
          go_ret
          exact ⟨ret_bool (by simp [isB, *]), (Below.refl _ _).alloc (Nat.le_refl _) _⟩
      · go_enter Try.func48, Try.ntmps48
        go_wp2
        go_ret
        exact ⟨ret_bool (by simp [isB, *]), (Below.refl _ _).alloc (Nat.le_refl _) _⟩

theorem ref4_Is (k a b c d : Int) (w : World) :
    Calls Try.prog 50 #[curve k a b c d] w fun e w' => e = .returned (.bool (isB k a b c d)) ∧ Below w.heap.size w w' := by
  by_cases k1 : k = 1
  · subst k1
    go_enter Try.func50, Try.ntmps50
    go_wp2_with (go_at_call 56; refine (ref4_in _ _ _ _).mono ?_; rintro e w' ⟨rfl, rfl⟩)
    all_goals
      go_ret
      exact ⟨ret_bool (by simp [isB, fallsB, *]), (Below.refl _ _).alloc (Nat.le_refl _) _⟩
  · by_cases k2 : k = 2
    · subst k2
      go_enter Try.func50, Try.ntmps50
      go_wp2_with (go_at_call 56; refine (ref4_in _ _ _ _).mono ?_; rintro e w' ⟨rfl, rfl⟩)
      all_goals
        go_ret
        exact ⟨ret_bool (by simp [isB, fallsB, *]), (Below.refl _ _).alloc (Nat.le_refl _) _⟩
    · by_cases k3 : k = 3
      · subst k3
        go_enter Try.func50, Try.ntmps50
        go_wp2_with (go_at_call 56; refine (ref4_in _ _ _ _).mono ?_; rintro e w' ⟨rfl, rfl⟩)
        all_goals
          go_ret
          exact ⟨ret_bool (by simp [isB, *]), (Below.refl _ _).alloc (Nat.le_refl _) _⟩
      · go_enter Try.func50, Try.ntmps50
        go_wp2
        go_ret
        exact ⟨ret_bool (by simp [isB, *]), (Below.refl _ _).alloc (Nat.le_refl _) _⟩

/-- The threshold of a curve that may be. -/
def atI (k a b c d x : Int) : Int :=
  if k = 1 then (if heldI x ≥ c then b else a - (a - b) * heldI x / c)
  else if k = 2 then max (a - c * (heldI x / d)) b
  else heldI (a * 1000000000 / (heldI x + b) - c)

theorem held_bd (x : Int) : 0 ≤ heldI x ∧ heldI x ≤ 1000000000 := by unfold heldI; omega

theorem is1_out {a b c d : Int} (h : isB 1 a b c d = true) : (0 ≤ a ∧ a ≤ 1000000000) ∧ (0 ≤ b ∧ b ≤ a) ∧ (1 ≤ c ∧ c ≤ 1000000000) ∧ d = 0 := by
  simpa [isB, fallsB, withinB, and_assoc] using h
theorem is2_out {a b c d : Int} (h : isB 2 a b c d = true) : (0 ≤ a ∧ a ≤ 1000000000) ∧ (0 ≤ b ∧ b ≤ a) ∧ (1 ≤ c ∧ c ≤ 1000000000) ∧ (1 ≤ d ∧ d ≤ 1000000000) := by
  simpa [isB, fallsB, withinB, and_assoc] using h
theorem is3_out {a b c d : Int} (h : isB 3 a b c d = true) : (0 ≤ a ∧ a ≤ 1000000000) ∧ (1 ≤ b ∧ b ≤ 1000000000) ∧ (0 ≤ c ∧ c ≤ 1000000000) ∧ d = 0 := by
  simpa [isB, withinB, and_assoc] using h

theorem at1_end {a b c d x : Int} (h : c ≤ heldI x) : atI 1 a b c d x = b := by simp [atI, h]
theorem at1_mid {a b c d x : Int} (h : heldI x < c) : atI 1 a b c d x = a - (a - b) * heldI x / c := by simp [atI, Int.not_le.2 h]
theorem at2_eq {a b c d x : Int} : atI 2 a b c d x = max (a - c * (heldI x / d)) b := by simp [atI]
theorem at3_eq {a b c d x : Int} : atI 3 a b c d x = heldI (a * 1000000000 / (heldI x + b) - c) := by simp [atI]

theorem per_At1 (a b c d x : Int) (w : World) (h : isB 1 a b c d = true) :
    Calls Try.prog 53 #[curve 1 a b c d, .int .i64 x] w fun e w' => e = .returned (.int .i64 (atI 1 a b c d x)) ∧ Below w.heap.size w w' := by
  obtain ⟨⟨a0, a1⟩, ⟨b0, b1⟩, ⟨c0, c1⟩, -⟩ := is1_out h
  obtain ⟨y0, y1⟩ := held_bd x
  by_cases hx : c ≤ heldI x
  · go_enter Try.func53, Try.ntmps53
    go_wp2_with (first | (go_at_call 48; refine (per_Is _ _ _ _ _ _).mono ?_; rintro e w' ⟨rfl, hb⟩; obtain ⟨hc, hf⟩ := bcell hb) | (go_at_call 57; refine (per_held _ _).mono ?_; rintro e w' ⟨rfl, rfl⟩))
    go_ret
    exact ⟨ret_int (at1_end hx).symm, below_box hb⟩
  · obtain ⟨m0, m1⟩ := mul_bd (a := a - b) (b := heldI x) (by omega) (show a - b ≤ 1000000000 by omega) y0 y1 (by omega)
    obtain ⟨d0, d1⟩ := div_le_self' (a := (a - b) * heldI x) (b := c) m0 (by omega)
    go_enter Try.func53, Try.ntmps53
    go_wp2_with (first | (go_at_call 48; refine (per_Is _ _ _ _ _ _).mono ?_; rintro e w' ⟨rfl, hb⟩; obtain ⟨hc, hf⟩ := bcell hb) | (go_at_call 57; refine (per_held _ _).mono ?_; rintro e w' ⟨rfl, rfl⟩))
    go_quiet (fail)
    go_wp2
    go_ret
    exact ⟨ret_int (at1_mid hx).symm, below_box (below_dn hb _)⟩

theorem per_At2 (a b c d x : Int) (w : World) (h : isB 2 a b c d = true) :
    Calls Try.prog 53 #[curve 2 a b c d, .int .i64 x] w fun e w' => e = .returned (.int .i64 (atI 2 a b c d x)) ∧ Below w.heap.size w w' := by
  obtain ⟨⟨a0, a1⟩, ⟨b0, b1⟩, ⟨c0, c1⟩, d0, d1⟩ := is2_out h
  obtain ⟨y0, y1⟩ := held_bd x
  obtain ⟨q0, q1⟩ := div_le_self' (a := heldI x) (b := d) y0 (by omega)
  obtain ⟨m0, m1⟩ := mul_bd (a := c) (b := heldI x / d) (by omega) c1 q0 (Int.le_trans q1 y1) (by omega)
  go_enter Try.func53, Try.ntmps53
  go_wp2_with (first | (go_at_call 48; refine (per_Is _ _ _ _ _ _).mono ?_; rintro e w' ⟨rfl, hb⟩; obtain ⟨hc, hf⟩ := bcell hb) | (go_at_call 57; refine (per_held _ _).mono ?_; rintro e w' ⟨rfl, rfl⟩))
  go_quiet (fail)
  all_goals go_wp2
  all_goals
    go_ret
    exact ⟨ret_int (by rw [at2_eq]; omega), below_box (below_dn hb _)⟩

theorem per_At3 (a b c d x : Int) (w : World) (h : isB 3 a b c d = true) :
    Calls Try.prog 53 #[curve 3 a b c d, .int .i64 x] w fun e w' => e = .returned (.int .i64 (atI 3 a b c d x)) ∧ Below w.heap.size w w' := by
  obtain ⟨⟨a0, a1⟩, ⟨b0, b1⟩, ⟨c0, c1⟩, -⟩ := is3_out h
  obtain ⟨y0, y1⟩ := held_bd x
  obtain ⟨q0, q1⟩ := div_le_self' (a := a * 1000000000) (b := heldI x + b) (by omega) (by omega)
  go_enter Try.func53, Try.ntmps53
  go_wp2_with (first | (go_at_call 48; refine (per_Is _ _ _ _ _ _).mono ?_; rintro e w' ⟨rfl, hb⟩; obtain ⟨hc, hf⟩ := bcell hb) | (go_at_call 57; refine (per_held _ _).mono ?_; rintro e w' ⟨rfl, rfl⟩))
  go_quiet ((go_at_call 57; exact Calls.quiet_of_same ((per_held _ _).mono fun e w' h => ⟨h.1, h.2.symm⟩)))
  all_goals go_wp2
  all_goals
    go_ret
    exact ⟨ret_int at3_eq.symm, below_box (below_dn hb _)⟩

theorem per_At (k a b c d x : Int) (w : World) (h : isB k a b c d = true) :
    Calls Try.prog 53 #[curve k a b c d, .int .i64 x] w fun e w' => e = .returned (.int .i64 (atI k a b c d x)) ∧ Below w.heap.size w w' := by
  by_cases k1 : k = 1
  · subst k1; exact per_At1 a b c d x w h
  by_cases k2 : k = 2
  · subst k2; exact per_At2 a b c d x w h
  by_cases k3 : k = 3
  · subst k3; exact per_At3 a b c d x w h
  · simp [isB, k1, k2, k3] at h

end Go.Proofs.Ytgoomkailpnjaaa
