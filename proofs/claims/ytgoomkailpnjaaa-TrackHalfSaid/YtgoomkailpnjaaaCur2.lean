/-
  The threshold of a curve, the document's: the same plain arithmetic.
-/
import Derived.Test.YtgoomkailpnjaaaCur1
namespace Go.Proofs.Ytgoomkailpnjaaa
open Go.RowKit

theorem held_cases (x : Int) : (x < 0 ∧ heldI x = 0) ∨ (1000000000 < x ∧ heldI x = 1000000000) ∨ (0 ≤ x ∧ x ≤ 1000000000 ∧ heldI x = x) := by unfold heldI; omega

theorem ref4_At1 (a b c d x : Int) (w : World) (h : isB 1 a b c d = true) :
    Calls Try.prog 42 #[curve 1 a b c d, .int .i64 x] w fun e w' => e = .returned (.int .i64 (atI 1 a b c d x)) ∧ Below w.heap.size w w' := by
  obtain ⟨⟨a0, a1⟩, ⟨b0, b1⟩, ⟨c0, c1⟩, -⟩ := is1_out h
  clear h
  rcases held_cases x with ⟨hx, e⟩ | ⟨hx, e⟩ | ⟨hx0, hx, e⟩
  · have E := Lib.hid e; clear e
    go_enter Try.func42, Try.ntmps42
    go_wp2
    go_quiet (fail)
    all_goals go_wp2
    all_goals
      go_ret
      exact ⟨ret_int (by rw [at1_mid (by rw [E.out]; omega), E.out]; simp), below_dn ((Below.refl _ _).alloc (Nat.le_refl _) _) _⟩
  · have E := Lib.hid e; clear e
    by_cases hc : c ≤ 1000000000
    · by_cases hd : c = 1000000000
      · subst hd
        go_enter Try.func42, Try.ntmps42
        go_wp2
        go_ret
        exact ⟨ret_int (by rw [at1_end (by rw [E.out]; omega)]), (Below.refl _ _).alloc (Nat.le_refl _) _⟩
      · go_enter Try.func42, Try.ntmps42
        go_wp2
        go_ret
        exact ⟨ret_int (by rw [at1_end (by rw [E.out]; omega)]), (Below.refl _ _).alloc (Nat.le_refl _) _⟩
    · omega
  · have E := Lib.hid e; clear e
    by_cases hc : c ≤ x
    · go_enter Try.func42, Try.ntmps42
      go_wp2
      all_goals
        go_ret
        exact ⟨ret_int (by rw [at1_end (by rw [E.out]; omega)]), (Below.refl _ _).alloc (Nat.le_refl _) _⟩
    · obtain ⟨m0, m1⟩ := mul_bd (a := a - b) (b := x) (by omega) (show a - b ≤ 1000000000 by omega) hx0 hx (by omega)
      obtain ⟨d0, d1⟩ := div_le_self' (a := (a - b) * x) (b := c) m0 (by omega)
      go_enter Try.func42, Try.ntmps42
      go_wp2
      all_goals go_quiet (fail)
      all_goals go_wp2
      all_goals
        go_ret
        exact ⟨ret_int (by rw [at1_mid (by rw [E.out]; omega), E.out]), below_dn ((Below.refl _ _).alloc (Nat.le_refl _) _) _⟩

theorem ref4_At2 (a b c d x : Int) (w : World) (h : isB 2 a b c d = true) :
    Calls Try.prog 42 #[curve 2 a b c d, .int .i64 x] w fun e w' => e = .returned (.int .i64 (atI 2 a b c d x)) ∧ Below w.heap.size w w' := by
  obtain ⟨⟨a0, a1⟩, ⟨b0, b1⟩, ⟨c0, c1⟩, d0, d1⟩ := is2_out h
  clear h
  rcases held_cases x with ⟨hx, e⟩ | ⟨hx, e⟩ | ⟨hx0, hx, e⟩
  · have E := Lib.hid e; clear e
    go_enter Try.func42, Try.ntmps42
    go_wp2
    go_quiet (fail)
    all_goals go_wp2
    all_goals
      go_ret
      exact ⟨ret_int (by rw [at2_eq, E.out]; simp; omega), below_dn ((Below.refl _ _).alloc (Nat.le_refl _) _) _⟩
  · have E := Lib.hid e; clear e
    obtain ⟨q0, q1⟩ := div_le_self' (a := 1000000000) (b := d) (by omega) (by omega)
    obtain ⟨m0, m1⟩ := mul_bd (a := c) (b := 1000000000 / d) (by omega) c1 q0 q1 (by omega)
    go_enter Try.func42, Try.ntmps42
    go_wp2
    go_quiet (fail)
    all_goals go_wp2
    all_goals
      go_ret
      exact ⟨ret_int (by rw [at2_eq, E.out]; omega), below_dn ((Below.refl _ _).alloc (Nat.le_refl _) _) _⟩
  · have E := Lib.hid e; clear e
    obtain ⟨q0, q1⟩ := div_le_self' (a := x) (b := d) hx0 (by omega)
    obtain ⟨m0, m1⟩ := mul_bd (a := c) (b := x / d) (by omega) c1 q0 (Int.le_trans q1 hx) (by omega)
    go_enter Try.func42, Try.ntmps42
    go_wp2
    all_goals go_quiet (fail)
    all_goals go_wp2
    all_goals
      go_ret
      exact ⟨ret_int (by rw [at2_eq, E.out]; omega), below_dn ((Below.refl _ _).alloc (Nat.le_refl _) _) _⟩

theorem ref4_At3 (a b c d x : Int) (w : World) (h : isB 3 a b c d = true) :
    Calls Try.prog 42 #[curve 3 a b c d, .int .i64 x] w fun e w' => e = .returned (.int .i64 (atI 3 a b c d x)) ∧ Below w.heap.size w w' := by
  obtain ⟨⟨a0, a1⟩, ⟨b0, b1⟩, ⟨c0, c1⟩, -⟩ := is3_out h
  clear h
  rcases held_cases x with ⟨hx, e⟩ | ⟨hx, e⟩ | ⟨hx0, hx, e⟩
  · have E := Lib.hid e; clear e
    obtain ⟨q0, q1⟩ := div_le_self' (a := a * 1000000000) (b := b) (by omega) (by omega)
    go_enter Try.func42, Try.ntmps42
    go_wp2
    go_quiet (fail)
    all_goals go_wp2
    all_goals
      go_ret
      exact ⟨ret_int (by rw [at3_eq, E.out, Int.zero_add]; unfold heldI; omega), below_dn ((Below.refl _ _).alloc (Nat.le_refl _) _) _⟩
  · have E := Lib.hid e; clear e
    obtain ⟨q0, q1⟩ := div_le_self' (a := a * 1000000000) (b := 1000000000 + b) (by omega) (by omega)
    go_enter Try.func42, Try.ntmps42
    go_wp2
    go_quiet (fail)
    all_goals go_wp2
    all_goals
      go_ret
      exact ⟨ret_int (by rw [at3_eq, E.out]; unfold heldI; omega), below_dn ((Below.refl _ _).alloc (Nat.le_refl _) _) _⟩
  · have E := Lib.hid e; clear e
    obtain ⟨q0, q1⟩ := div_le_self' (a := a * 1000000000) (b := x + b) (by omega) (by omega)
    go_enter Try.func42, Try.ntmps42
    go_wp2
    all_goals go_quiet (fail)
    all_goals go_wp2
    all_goals
      go_ret
      exact ⟨ret_int (by rw [at3_eq, E.out]; unfold heldI; omega), below_dn ((Below.refl _ _).alloc (Nat.le_refl _) _) _⟩

theorem ref4_At (k a b c d x : Int) (w : World) (h : isB k a b c d = true) :
    Calls Try.prog 42 #[curve k a b c d, .int .i64 x] w fun e w' => e = .returned (.int .i64 (atI k a b c d x)) ∧ Below w.heap.size w w' := by
  by_cases k1 : k = 1
  · subst k1; exact ref4_At1 a b c d x w h
  by_cases k2 : k = 2
  · subst k2; exact ref4_At2 a b c d x w h
  by_cases k3 : k = 3
  · subst k3; exact ref4_At3 a b c d x w h
  · simp [isB, k1, k2, k3] at h

theorem ratio_bd {a b : Int} (h0 : 0 ≤ a) (h2 : 0 ≤ b) : 0 ≤ ratioI a b ∧ ratioI a b ≤ 1000000000 := by
  unfold ratioI; split
  · omega
  · have := Int.ediv_nonneg (show 0 ≤ a * 1000000000 by omega) h2; omega
theorem ratio_iff {a b t : Int} (hb : 0 < b) (ht : t ≤ 1000000000) : t ≤ ratioI a b ↔ t * b ≤ a * 1000000000 := by
  unfold ratioI; rw [if_neg (by omega), ← Int.le_ediv_iff_mul_le hb]; omega
theorem ratio_self {n : Int} (h : 0 ≤ n) : ratioI n n = if 0 < n then 1000000000 else 0 := by
  unfold ratioI
  by_cases hn : n = 0
  · subst hn; simp
  · have : n * 1000000000 / n = 1000000000 := Int.mul_ediv_cancel_left _ hn
    rw [if_neg hn, if_pos (by omega), this]; omega

theorem held_mono {x y : Int} (h : x ≤ y) : heldI x ≤ heldI y := by unfold heldI; omega

theorem lin_bd {a b c h : Int} (hb : b ≤ a) (hc : 0 < c) (h0 : 0 ≤ h) (h1 : h ≤ c) : 0 ≤ (a - b) * h / c ∧ (a - b) * h / c ≤ a - b := by
  have m0 := Int.mul_nonneg (show 0 ≤ a - b by omega) h0
  have m1 := Int.mul_le_mul_of_nonneg_left h1 (show 0 ≤ a - b by omega)
  exact ⟨Int.ediv_nonneg m0 (by omega), Int.ediv_le_of_le_mul hc m1⟩

theorem div_anti {A y z : Int} (hA : 0 ≤ A) (hy : 0 < y) (h : y ≤ z) : A / z ≤ A / y := by
  apply Int.le_ediv_of_mul_le hy
  have h1 := Int.ediv_nonneg hA (show 0 ≤ z by omega)
  have h2 := Int.mul_le_mul_of_nonneg_left h h1
  have h3 := Int.ediv_mul_le A (show z ≠ 0 by omega)
  omega

theorem is_kind {k a b c d : Int} (h : isB k a b c d = true) : k = 1 ∨ k = 2 ∨ k = 3 := by
  by_cases k1 : k = 1
  · exact .inl k1
  by_cases k2 : k = 2
  · exact .inr (.inl k2)
  by_cases k3 : k = 3
  · exact .inr (.inr k3)
  · simp [isB, k1, k2, k3] at h

theorem at_bd {k a b c d : Int} (h : isB k a b c d = true) (x : Int) : 0 ≤ atI k a b c d x ∧ atI k a b c d x ≤ 1000000000 := by
  obtain ⟨y0, y1⟩ := held_bd x
  rcases is_kind h with rfl | rfl | rfl
  · obtain ⟨⟨a0, a1⟩, ⟨b0, b1⟩, ⟨c0, c1⟩, -⟩ := is1_out h
    by_cases hx : c ≤ heldI x
    · rw [at1_end hx]; omega
    · have := lin_bd (h := heldI x) b1 (show 0 < c by omega) y0 (by omega)
      rw [at1_mid (by omega)]; omega
  · obtain ⟨⟨a0, a1⟩, ⟨b0, b1⟩, ⟨c0, c1⟩, d0, d1⟩ := is2_out h
    have q0 := Int.ediv_nonneg y0 (show 0 ≤ d by omega)
    have m0 := Int.mul_nonneg (show 0 ≤ c by omega) q0
    rw [at2_eq]; omega
  · rw [at3_eq]; exact held_bd _

theorem at_falls {k a b c d : Int} (h : isB k a b c d = true) {x y : Int} (hxy : x ≤ y) : atI k a b c d y ≤ atI k a b c d x := by
  obtain ⟨x0, x1⟩ := held_bd x
  obtain ⟨y0, y1⟩ := held_bd y
  have hm := held_mono hxy
  rcases is_kind h with rfl | rfl | rfl
  · obtain ⟨⟨a0, a1⟩, ⟨b0, b1⟩, ⟨c0, c1⟩, -⟩ := is1_out h
    by_cases hx : c ≤ heldI x
    · rw [at1_end hx, at1_end (by omega)]; omega
    · have l1 := lin_bd (h := heldI x) b1 (show 0 < c by omega) x0 (by omega)
      rw [at1_mid (show heldI x < c by omega)]
      by_cases hy : c ≤ heldI y
      · rw [at1_end hy]; omega
      · rw [at1_mid (show heldI y < c by omega)]
        have := Int.ediv_le_ediv (show 0 < c by omega) (Int.mul_le_mul_of_nonneg_left hm (show 0 ≤ a - b by omega))
        omega
  · obtain ⟨⟨a0, a1⟩, ⟨b0, b1⟩, ⟨c0, c1⟩, d0, d1⟩ := is2_out h
    have q := Int.ediv_le_ediv (show 0 < d by omega) hm
    have m := Int.mul_le_mul_of_nonneg_left q (show 0 ≤ c by omega)
    rw [at2_eq, at2_eq]; omega
  · obtain ⟨⟨a0, a1⟩, ⟨b0, b1⟩, ⟨c0, c1⟩, -⟩ := is3_out h
    have q := div_anti (A := a * 1000000000) (by omega) (show 0 < heldI x + b by omega) (show heldI x + b ≤ heldI y + b by omega)
    rw [at3_eq, at3_eq]; exact held_mono (by omega)

/-- A curve lies in the first block behind w0's; what was there in w0 is as it was. -/
structure Boxed (w0 : World) (k a b' c d : Int) (w : World) : Prop where
  c0 : w.cell? ⟨w0.heap.size, 0, none⟩ = some (.int .i64 k)
  c1 : w.cell? ⟨w0.heap.size, 1, none⟩ = some (.int .i64 a)
  c2 : w.cell? ⟨w0.heap.size, 2, none⟩ = some (.int .i64 b')
  c3 : w.cell? ⟨w0.heap.size, 3, none⟩ = some (.int .i64 c)
  c4 : w.cell? ⟨w0.heap.size, 4, none⟩ = some (.int .i64 d)
  lt : w0.heap.size < w.heap.size
  old : Below w0.heap.size w0 w

theorem Boxed.all {w0 : World} {k a b' c d : Int} {w : World} (h : Boxed w0 k a b' c d w) : w.cell? ⟨w0.heap.size, 0, none⟩ = some (.int .i64 k) ∧ w.cell? ⟨w0.heap.size, 1, none⟩ = some (.int .i64 a) ∧ w.cell? ⟨w0.heap.size, 2, none⟩ = some (.int .i64 b') ∧ w.cell? ⟨w0.heap.size, 3, none⟩ = some (.int .i64 c) ∧ w.cell? ⟨w0.heap.size, 4, none⟩ = some (.int .i64 d) := ⟨h.c0, h.c1, h.c2, h.c3, h.c4⟩
theorem Boxed.below {w0 : World} {k a b' c d : Int} {w w' : World} (h : Boxed w0 k a b' c d w) (hb : Below w.heap.size w w') : Boxed w0 k a b' c d w' := by
  obtain ⟨hc, _⟩ := bcell hb
  exact ⟨(hc _ _ h.lt).trans h.c0, (hc _ _ h.lt).trans h.c1, (hc _ _ h.lt).trans h.c2, (hc _ _ h.lt).trans h.c3, (hc _ _ h.lt).trans h.c4, Nat.lt_of_lt_of_le h.lt hb.size, h.old.trans (hb.mono h.old.size)⟩
theorem Boxed.drew {w0 : World} {k a b' c d : Int} {w : World} (h : Boxed w0 k a b' c d w) : Boxed w0 k a b' c d w.drew := ⟨h.c0, h.c1, h.c2, h.c3, h.c4, h.lt, h.old.drew⟩
theorem Boxed.new {k a b' c d : Int} {w : World} {t : TypeId} : Boxed w k a b' c d (w.alloc (.cells #[.int .i64 k, .int .i64 a, .int .i64 b', .int .i64 c, .int .i64 d] t)) := by
  constructor
  case old => exact (Below.refl _ _).alloc (Nat.le_refl _) _
  all_goals simp

end Go.Proofs.Ytgoomkailpnjaaa
