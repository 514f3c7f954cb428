/-
  The threshold of a curve, the document's: the same plain arithmetic.
-/
import Derived.Test.YtnboghkdhfpfnaaPer2
namespace Go.Proofs.Ytnboghkdhfpfnaa
open Go.RowKit

theorem held_cases (x : Int) : (x < 0 ∧ heldI x = 0) ∨ (1000000000 < x ∧ heldI x = 1000000000) ∨ (0 ≤ x ∧ x ≤ 1000000000 ∧ heldI x = x) := by unfold heldI; omega

theorem ref_At1 (a b c d x : Int) (w : World) (h : isB 1 a b c d = true) :
    Calls Try.prog 23 #[curve 1 a b c d, .int .i64 x] w fun e w' => e = .returned (.int .i64 (atI 1 a b c d x)) ∧ Below w.heap.size w w' := by
  obtain ⟨⟨a0, a1⟩, ⟨b0, b1⟩, ⟨c0, c1⟩, -⟩ := is1_out h
  clear h
  rcases held_cases x with ⟨hx, e⟩ | ⟨hx, e⟩ | ⟨hx0, hx, e⟩
  · have E := Lib.hid e; clear e
    go_enter Try.func23, Try.ntmps23
    go_wp2
    go_quiet (fail)
    all_goals go_wp2
    all_goals
      go_ret
      exact ⟨ret_int (by rw [at1_mid (by rw [E.out]; omega), E.out]; simp), below_dn ((Below.refl _ _).alloc (Nat.le_refl _) _) _⟩
  · have E := Lib.hid e; clear e
    by_cases hc : c ≤ 1000000000
    · by_cases hd : c = 1000000000
      · subst hd
        go_enter Try.func23, Try.ntmps23
        go_wp2
        go_ret
        exact ⟨ret_int (by rw [at1_end (by rw [E.out]; omega)]), (Below.refl _ _).alloc (Nat.le_refl _) _⟩
      · go_enter Try.func23, Try.ntmps23
        go_wp2
        go_ret
        exact ⟨ret_int (by rw [at1_end (by rw [E.out]; omega)]), (Below.refl _ _).alloc (Nat.le_refl _) _⟩
    · omega
  · have E := Lib.hid e; clear e
    by_cases hc : c ≤ x
    · go_enter Try.func23, Try.ntmps23
      go_wp2
      all_goals
        go_ret
        exact ⟨ret_int (by rw [at1_end (by rw [E.out]; omega)]), (Below.refl _ _).alloc (Nat.le_refl _) _⟩
    · obtain ⟨m0, m1⟩ := mul_bd (a := a - b) (b := x) (by omega) (show a - b ≤ 1000000000 by omega) hx0 hx (by omega)
      obtain ⟨d0, d1⟩ := div_le_self' (a := (a - b) * x) (b := c) m0 (by omega)
      go_enter Try.func23, Try.ntmps23
      go_wp2
      all_goals go_quiet (fail)
      all_goals go_wp2
      all_goals
        go_ret
        exact ⟨ret_int (by rw [at1_mid (by rw [E.out]; omega), E.out]), below_dn ((Below.refl _ _).alloc (Nat.le_refl _) _) _⟩

theorem ref_At2 (a b c d x : Int) (w : World) (h : isB 2 a b c d = true) :
    Calls Try.prog 23 #[curve 2 a b c d, .int .i64 x] w fun e w' => e = .returned (.int .i64 (atI 2 a b c d x)) ∧ Below w.heap.size w w' := by
  obtain ⟨⟨a0, a1⟩, ⟨b0, b1⟩, ⟨c0, c1⟩, d0, d1⟩ := is2_out h
  clear h
  rcases held_cases x with ⟨hx, e⟩ | ⟨hx, e⟩ | ⟨hx0, hx, e⟩
  · have E := Lib.hid e; clear e
    go_enter Try.func23, Try.ntmps23
    go_wp2
    go_quiet (fail)
    all_goals go_wp2
    all_goals
      go_ret
      exact ⟨ret_int (by rw [at2_eq, E.out]; simp; omega), below_dn ((Below.refl _ _).alloc (Nat.le_refl _) _) _⟩
  · have E := Lib.hid e; clear e
    obtain ⟨q0, q1⟩ := div_le_self' (a := 1000000000) (b := d) (by omega) (by omega)
    obtain ⟨m0, m1⟩ := mul_bd (a := c) (b := 1000000000 / d) (by omega) c1 q0 q1 (by omega)
    go_enter Try.func23, Try.ntmps23
    go_wp2
    go_quiet (fail)
    all_goals go_wp2
    all_goals
      go_ret
      exact ⟨ret_int (by rw [at2_eq, E.out]; omega), below_dn ((Below.refl _ _).alloc (Nat.le_refl _) _) _⟩
  · have E := Lib.hid e; clear e
    obtain ⟨q0, q1⟩ := div_le_self' (a := x) (b := d) hx0 (by omega)
    obtain ⟨m0, m1⟩ := mul_bd (a := c) (b := x / d) (by omega) c1 q0 (Int.le_trans q1 hx) (by omega)
    go_enter Try.func23, Try.ntmps23
    go_wp2
    all_goals go_quiet (fail)
    all_goals go_wp2
    all_goals
      go_ret
      exact ⟨ret_int (by rw [at2_eq, E.out]; omega), below_dn ((Below.refl _ _).alloc (Nat.le_refl _) _) _⟩

theorem ref_At3 (a b c d x : Int) (w : World) (h : isB 3 a b c d = true) :
    Calls Try.prog 23 #[curve 3 a b c d, .int .i64 x] w fun e w' => e = .returned (.int .i64 (atI 3 a b c d x)) ∧ Below w.heap.size w w' := by
  obtain ⟨⟨a0, a1⟩, ⟨b0, b1⟩, ⟨c0, c1⟩, -⟩ := is3_out h
  clear h
  rcases held_cases x with ⟨hx, e⟩ | ⟨hx, e⟩ | ⟨hx0, hx, e⟩
  · have E := Lib.hid e; clear e
    obtain ⟨q0, q1⟩ := div_le_self' (a := a * 1000000000) (b := b) (by omega) (by omega)
    go_enter Try.func23, Try.ntmps23
    go_wp2
    go_quiet (fail)
    all_goals go_wp2
    all_goals
      go_ret
      exact ⟨ret_int (by rw [at3_eq, E.out, Int.zero_add]; unfold heldI; omega), below_dn ((Below.refl _ _).alloc (Nat.le_refl _) _) _⟩
  · have E := Lib.hid e; clear e
    obtain ⟨q0, q1⟩ := div_le_self' (a := a * 1000000000) (b := 1000000000 + b) (by omega) (by omega)
    go_enter Try.func23, Try.ntmps23
    go_wp2
    go_quiet (fail)
    all_goals go_wp2
    all_goals
      go_ret
      exact ⟨ret_int (by rw [at3_eq, E.out]; unfold heldI; omega), below_dn ((Below.refl _ _).alloc (Nat.le_refl _) _) _⟩
  · have E := Lib.hid e; clear e
    obtain ⟨q0, q1⟩ := div_le_self' (a := a * 1000000000) (b := x + b) (by omega) (by omega)
    go_enter Try.func23, Try.ntmps23
    go_wp2
    all_goals go_quiet (fail)
    all_goals go_wp2
    all_goals
      go_ret
      exact ⟨ret_int (by rw [at3_eq, E.out]; unfold heldI; omega), below_dn ((Below.refl _ _).alloc (Nat.le_refl _) _) _⟩

theorem ref_At (k a b c d x : Int) (w : World) (h : isB k a b c d = true) :
    Calls Try.prog 23 #[curve k a b c d, .int .i64 x] w fun e w' => e = .returned (.int .i64 (atI k a b c d x)) ∧ Below w.heap.size w w' := by
  by_cases k1 : k = 1
  · subst k1; exact ref_At1 a b c d x w h
  by_cases k2 : k = 2
  · subst k2; exact ref_At2 a b c d x w h
  by_cases k3 : k = 3
  · subst k3; exact ref_At3 a b c d x w h
  · simp [isB, k1, k2, k3] at h

end Go.Proofs.Ytnboghkdhfpfnaa
