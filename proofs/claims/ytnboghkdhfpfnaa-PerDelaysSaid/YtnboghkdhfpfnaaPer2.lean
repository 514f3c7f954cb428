/-
  Contracts of curves: whether one may be, its threshold, the code's and the document's.
-/
import Derived.Test.YtnboghkdhfpfnaaPer1
import Derived.Below
import Derived.Deep.QuietTactic
import Derived.BigQuiet
namespace Go.Proofs.Ytnboghkdhfpfnaa
open Go.RowKit

def withinB (n l m : Int) : Bool := decide (l ≤ n) && decide (n ≤ m)
theorem withinB_out {n l m : Int} (h : withinB n l m = true) : l ≤ n ∧ n ≤ m := by simpa [withinB] using h
theorem withinB_in {n l m : Int} (h : l ≤ n) (k : n ≤ m) : withinB n l m = true := by simp [withinB, h, k]
def fallsB (a b c : Int) : Bool := withinB a 0 1000000000 && withinB b 0 a && withinB c 1 1000000000
def isB (k a b c d : Int) : Bool :=
  if k = 1 then fallsB a b c && (d == 0)
  else if k = 2 then fallsB a b c && withinB d 1 1000000000
  else if k = 3 then withinB a 0 1000000000 && withinB b 1 1000000000 && withinB c 0 1000000000 && (d == 0)
  else false

def heldI (n : Int) : Int := min (max n 0) 1000000000
abbrev curve (k a b c d : Int) : Value := .agg #[.int .i64 k, .int .i64 a, .int .i64 b, .int .i64 c, .int .i64 d]

theorem bound_Within (n l m : Int) (w : World) :
    Calls Try.prog 32 #[.int .i64 n, .int .i64 l, .int .i64 m] w fun e w' => e = .returned (.bool (withinB n l m)) ∧ w = w' := by
  by_cases h0 : l ≤ n
  · go_enter Try.func32, Try.ntmps32
    go_wp2
    go_ret
    exact ⟨ret_bool (by simp [withinB, h0]), rfl⟩
  · go_enter Try.func32, Try.ntmps32
    go_wp2
    go_ret
    exact ⟨ret_bool (by simp [withinB]; omega), rfl⟩

theorem ref_in (n l m : Int) (w : World) :
    Calls Try.prog 26 #[.int .i64 n, .int .i64 l, .int .i64 m] w fun e w' => e = .returned (.bool (withinB n l m)) ∧ w = w' := by
  by_cases h0 : l ≤ n
  · go_enter Try.func26, Try.ntmps26
    go_wp2
    go_ret
    exact ⟨ret_bool (by simp [withinB, h0]), rfl⟩
  · go_enter Try.func26, Try.ntmps26
    go_wp2
    go_ret
    exact ⟨ret_bool (by simp [withinB]; omega), rfl⟩

theorem per_within (n l : Int) (w : World) :
    Calls Try.prog 28 #[.int .i64 n, .int .i64 l] w fun e w' => e = .returned (.bool (withinB n l 1000000000)) ∧ w = w' := by
  go_enter Try.func28, Try.ntmps28
  go_wp2_with (go_at_call 32; refine (bound_Within _ _ _ _).mono ?_; rintro e w' ⟨rfl, rfl⟩)
  go_ret
  exact ⟨rfl, rfl⟩

theorem per_held (n : Int) (w : World) :
    Calls Try.prog 29 #[.int .i64 n] w fun e w' => e = .returned (.int .i64 (heldI n)) ∧ w = w' := by
  go_enter Try.func29, Try.ntmps29
  go_wp2
  all_goals
    go_ret
    exact ⟨ret_int (by unfold heldI; omega), rfl⟩

theorem per_falls (k a b c d : Int) (w : World) :
    Calls Try.prog 27 #[curve k a b c d] w fun e w' => e = .returned (.bool (fallsB a b c)) ∧ Below w.heap.size w w' := by
  go_enter Try.func27, Try.ntmps27
  go_wp2_with (first | (go_at_call 32; refine (bound_Within _ _ _ _).mono ?_; rintro e w' ⟨rfl, rfl⟩) | (go_at_call 28; refine (per_within _ _ _).mono ?_; rintro e w' ⟨rfl, rfl⟩))
  all_goals
    go_ret
    exact ⟨ret_bool (by simp [fallsB, *]), (Below.refl _ _).alloc (Nat.le_refl _) _⟩

theorem bcell {W w1 : World} (hb : Below W.heap.size W w1) : (∀ b o, b < W.heap.size → w1.cell? ⟨b, o, none⟩ = W.cell? ⟨b, o, none⟩) ∧ (∀ b o, b < W.heap.size → w1.frozen? ⟨b, o, none⟩ = W.frozen? ⟨b, o, none⟩) :=
  ⟨fun b o h => hb.cell (p := ⟨b, o, none⟩) h, fun b o h => hb.frozen (p := ⟨b, o, none⟩) h⟩

theorem below_box {w w1 : World} {o : Obj} (h : Below (w.alloc o).heap.size (w.alloc o) w1) : Below w.heap.size w w1 :=
  ((Below.refl _ _).alloc (Nat.le_refl _) o).trans (h.mono (by simp))

theorem per_Is (k a b c d : Int) (w : World) :
    Calls Try.prog 21 #[curve k a b c d] w fun e w' => e = .returned (.bool (isB k a b c d)) ∧ Below w.heap.size w w' := by
  by_cases k1 : k = 1
  · subst k1
    go_enter Try.func21, Try.ntmps21
    go_wp2_with (go_at_call 27; refine (per_falls _ _ _ _ _ _).mono ?_; rintro e w' ⟨rfl, hb⟩; obtain ⟨hc, hf⟩ := bcell hb)
    all_goals
      go_ret
      exact ⟨ret_bool (by simp [isB, *]), below_box hb⟩
  · by_cases k2 : k = 2
    · subst k2
      go_enter Try.func21, Try.ntmps21
      go_wp2_with (first | (go_at_call 27; refine (per_falls _ _ _ _ _ _).mono ?_; rintro e w' ⟨rfl, hb⟩; obtain ⟨hc, hf⟩ := bcell hb) | (go_at_call 28; refine (per_within _ _ _).mono ?_; rintro e w' ⟨rfl, rfl⟩))
      all_goals
        go_ret
        exact ⟨ret_bool (by simp [isB, *]), below_box hb⟩
    · by_cases k3 : k = 3
      · subst k3
        go_enter Try.func21, Try.ntmps21
        go_wp2_with (go_at_call 28; refine (per_within _ _ _).mono ?_; rintro e w' ⟨rfl, rfl⟩)
        all_goals
          go_ret
          exact ⟨ret_bool (by simp [isB, *]), (Below.refl _ _).alloc (Nat.le_refl _) _⟩
      · go_enter Try.func21, Try.ntmps21
        go_wp2
        go_ret
        exact ⟨ret_bool (by simp [isB, *]), (Below.refl _ _).alloc (Nat.le_refl _) _⟩

theorem ref_Is (k a b c d : Int) (w : World) :
    Calls Try.prog 20 #[curve k a b c d] w fun e w' => e = .returned (.bool (isB k a b c d)) ∧ Below w.heap.size w w' := by
  by_cases k1 : k = 1
  · subst k1
    go_enter Try.func20, Try.ntmps20
    go_wp2_with (go_at_call 26; refine (ref_in _ _ _ _).mono ?_; rintro e w' ⟨rfl, rfl⟩)
    all_goals
      go_ret
      exact ⟨ret_bool (by simp [isB, fallsB, *]), (Below.refl _ _).alloc (Nat.le_refl _) _⟩
  · by_cases k2 : k = 2
    · subst k2
      go_enter Try.func20, Try.ntmps20
      go_wp2_with (go_at_call 26; refine (ref_in _ _ _ _).mono ?_; rintro e w' ⟨rfl, rfl⟩)
      all_goals
        go_ret
        exact ⟨ret_bool (by simp [isB, fallsB, *]), (Below.refl _ _).alloc (Nat.le_refl _) _⟩
    · by_cases k3 : k = 3
      · subst k3
        go_enter Try.func20, Try.ntmps20
        go_wp2_with (go_at_call 26; refine (ref_in _ _ _ _).mono ?_; rintro e w' ⟨rfl, rfl⟩)
        all_goals
          go_ret
          exact ⟨ret_bool (by simp [isB, *]), (Below.refl _ _).alloc (Nat.le_refl _) _⟩
      · go_enter Try.func20, Try.ntmps20
        go_wp2
        go_ret
        exact ⟨ret_bool (by simp [isB, *]), (Below.refl _ _).alloc (Nat.le_refl _) _⟩

/-- The threshold of a curve that may be. -/
def atI (k a b c d x : Int) : Int :=
  if k = 1 then (if heldI x ≥ c then b else a - (a - b) * heldI x / c)
  else if k = 2 then max (a - c * (heldI x / d)) b
  else heldI (a * 1000000000 / (heldI x + b) - c)

theorem held_bd (x : Int) : 0 ≤ heldI x ∧ heldI x ≤ 1000000000 := by unfold heldI; omega

theorem mul_bd {a b : Int} {A B : Int} (h0 : 0 ≤ a) (h1 : a ≤ A) (h2 : 0 ≤ b) (h3 : b ≤ B) (hA : 0 ≤ A) : 0 ≤ a * b ∧ a * b ≤ A * B :=
  ⟨Int.mul_nonneg h0 h2, Int.mul_le_mul h1 h3 h2 hA⟩

theorem is1_out {a b c d : Int} (h : isB 1 a b c d = true) : (0 ≤ a ∧ a ≤ 1000000000) ∧ (0 ≤ b ∧ b ≤ a) ∧ (1 ≤ c ∧ c ≤ 1000000000) ∧ d = 0 := by
  simpa [isB, fallsB, withinB, and_assoc] using h
theorem is2_out {a b c d : Int} (h : isB 2 a b c d = true) : (0 ≤ a ∧ a ≤ 1000000000) ∧ (0 ≤ b ∧ b ≤ a) ∧ (1 ≤ c ∧ c ≤ 1000000000) ∧ (1 ≤ d ∧ d ≤ 1000000000) := by
  simpa [isB, fallsB, withinB, and_assoc] using h
theorem is3_out {a b c d : Int} (h : isB 3 a b c d = true) : (0 ≤ a ∧ a ≤ 1000000000) ∧ (1 ≤ b ∧ b ≤ 1000000000) ∧ (0 ≤ c ∧ c ≤ 1000000000) ∧ d = 0 := by
  simpa [isB, withinB, and_assoc] using h

theorem below_dn {B : Nat} {a w : World} (h : Below B a w) (n : Nat) : Below B a (w.drewN n) := h.trans ⟨rfl, rfl, rfl, Nat.le_refl _, fun _ _ => rfl⟩
theorem at1_end {a b c d x : Int} (h : c ≤ heldI x) : atI 1 a b c d x = b := by simp [atI, h]
theorem at1_mid {a b c d x : Int} (h : heldI x < c) : atI 1 a b c d x = a - (a - b) * heldI x / c := by simp [atI, Int.not_le.2 h]
theorem at2_eq {a b c d x : Int} : atI 2 a b c d x = max (a - c * (heldI x / d)) b := by simp [atI]
theorem at3_eq {a b c d x : Int} : atI 3 a b c d x = heldI (a * 1000000000 / (heldI x + b) - c) := by simp [atI]

theorem per_At1 (a b c d x : Int) (w : World) (h : isB 1 a b c d = true) :
    Calls Try.prog 22 #[curve 1 a b c d, .int .i64 x] w fun e w' => e = .returned (.int .i64 (atI 1 a b c d x)) ∧ Below w.heap.size w w' := by
  obtain ⟨⟨a0, a1⟩, ⟨b0, b1⟩, ⟨c0, c1⟩, -⟩ := is1_out h
  obtain ⟨y0, y1⟩ := held_bd x
  by_cases hx : c ≤ heldI x
  · go_enter Try.func22, Try.ntmps22
    go_wp2_with (first | (go_at_call 21; refine (per_Is _ _ _ _ _ _).mono ?_; rintro e w' ⟨rfl, hb⟩; obtain ⟨hc, hf⟩ := bcell hb) | (go_at_call 29; refine (per_held _ _).mono ?_; rintro e w' ⟨rfl, rfl⟩))
    go_ret
    exact ⟨ret_int (at1_end hx).symm, below_box hb⟩
  · obtain ⟨m0, m1⟩ := mul_bd (a := a - b) (b := heldI x) (by omega) (show a - b ≤ 1000000000 by omega) y0 y1 (by omega)
    obtain ⟨d0, d1⟩ := div_le_self' (a := (a - b) * heldI x) (b := c) m0 (by omega)
    go_enter Try.func22, Try.ntmps22
    go_wp2_with (first | (go_at_call 21; refine (per_Is _ _ _ _ _ _).mono ?_; rintro e w' ⟨rfl, hb⟩; obtain ⟨hc, hf⟩ := bcell hb) | (go_at_call 29; refine (per_held _ _).mono ?_; rintro e w' ⟨rfl, rfl⟩))
    go_quiet (fail)
    go_wp2
    go_ret
    exact ⟨ret_int (at1_mid hx).symm, below_box (below_dn hb _)⟩

theorem per_At2 (a b c d x : Int) (w : World) (h : isB 2 a b c d = true) :
    Calls Try.prog 22 #[curve 2 a b c d, .int .i64 x] w fun e w' => e = .returned (.int .i64 (atI 2 a b c d x)) ∧ Below w.heap.size w w' := by
  obtain ⟨⟨a0, a1⟩, ⟨b0, b1⟩, ⟨c0, c1⟩, d0, d1⟩ := is2_out h
  obtain ⟨y0, y1⟩ := held_bd x
  obtain ⟨q0, q1⟩ := div_le_self' (a := heldI x) (b := d) y0 (by omega)
  obtain ⟨m0, m1⟩ := mul_bd (a := c) (b := heldI x / d) (by omega) c1 q0 (Int.le_trans q1 y1) (by omega)
  go_enter Try.func22, Try.ntmps22
  go_wp2_with (first | (go_at_call 21; refine (per_Is _ _ _ _ _ _).mono ?_; rintro e w' ⟨rfl, hb⟩; obtain ⟨hc, hf⟩ := bcell hb) | (go_at_call 29; refine (per_held _ _).mono ?_; rintro e w' ⟨rfl, rfl⟩))
  go_quiet (fail)
  all_goals go_wp2
  all_goals
    go_ret
    exact ⟨ret_int (by rw [at2_eq]; omega), below_box (below_dn hb _)⟩

theorem per_At3 (a b c d x : Int) (w : World) (h : isB 3 a b c d = true) :
    Calls Try.prog 22 #[curve 3 a b c d, .int .i64 x] w fun e w' => e = .returned (.int .i64 (atI 3 a b c d x)) ∧ Below w.heap.size w w' := by
  obtain ⟨⟨a0, a1⟩, ⟨b0, b1⟩, ⟨c0, c1⟩, -⟩ := is3_out h
  obtain ⟨y0, y1⟩ := held_bd x
  obtain ⟨q0, q1⟩ := div_le_self' (a := a * 1000000000) (b := heldI x + b) (by omega) (by omega)
  go_enter Try.func22, Try.ntmps22
  go_wp2_with (first | (go_at_call 21; refine (per_Is _ _ _ _ _ _).mono ?_; rintro e w' ⟨rfl, hb⟩; obtain ⟨hc, hf⟩ := bcell hb) | (go_at_call 29; refine (per_held _ _).mono ?_; rintro e w' ⟨rfl, rfl⟩))
  go_quiet ((go_at_call 29; exact Calls.quiet_of_same ((per_held _ _).mono fun e w' h => ⟨h.1, h.2.symm⟩)))
  all_goals go_wp2
  all_goals
    go_ret
    exact ⟨ret_int at3_eq.symm, below_box (below_dn hb _)⟩

theorem per_At (k a b c d x : Int) (w : World) (h : isB k a b c d = true) :
    Calls Try.prog 22 #[curve k a b c d, .int .i64 x] w fun e w' => e = .returned (.int .i64 (atI k a b c d x)) ∧ Below w.heap.size w w' := by
  by_cases k1 : k = 1
  · subst k1; exact per_At1 a b c d x w h
  by_cases k2 : k = 2
  · subst k2; exact per_At2 a b c d x w h
  by_cases k3 : k = 3
  · subst k3; exact per_At3 a b c d x w h
  · simp [isB, k1, k2, k3] at h

end Go.Proofs.Ytnboghkdhfpfnaa
