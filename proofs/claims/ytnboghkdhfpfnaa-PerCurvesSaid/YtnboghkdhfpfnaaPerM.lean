/-
  Plain arithmetic of parts, ratios and curves: no Go in sight.
-/
import Derived.Test.YtnboghkdhfpfnaaPer2
namespace Go.Proofs.Ytnboghkdhfpfnaa

theorem part_down_bd {n p : Int} (h0 : 0 ≤ n) (h2 : 0 ≤ p) (h3 : p ≤ 1000000000) : 0 ≤ partI n p false ∧ partI n p false ≤ n := by
  have a := Int.mul_nonneg h0 h2
  have b := Int.mul_le_mul_of_nonneg_left h3 h0
  simp only [partI, Bool.false_eq_true, if_false]; omega
theorem part_up_bd {n p : Int} (h0 : 0 ≤ n) (h2 : 0 ≤ p) (h3 : p ≤ 1000000000) : 0 ≤ partI n p true ∧ partI n p true ≤ n ∧ partI n p false ≤ partI n p true ∧ partI n p true ≤ partI n p false + 1 := by
  have a := Int.mul_nonneg h0 h2
  have b := Int.mul_le_mul_of_nonneg_left h3 h0
  simp only [partI, Bool.false_eq_true, if_false, if_true]; omega
theorem part_sum {n p : Int} : partI n p false + partI n (1000000000 - p) true = n := by
  have a : n * (1000000000 - p) = n * 1000000000 - n * p := Int.mul_sub _ _ _
  simp only [partI, Bool.false_eq_true, if_false, if_true]
  rw [a]; omega
theorem part_all {n : Int} (u : Bool) : partI n 1000000000 u = n := by
  cases u <;> simp only [partI, Bool.false_eq_true, if_false, if_true] <;> omega
theorem part_none {n : Int} (u : Bool) : partI n 0 u = 0 := by
  cases u <;> simp only [partI, Bool.false_eq_true, if_false, if_true] <;> omega

theorem ratio_bd {a b : Int} (h0 : 0 ≤ a) (h2 : 0 ≤ b) : 0 ≤ ratioI a b ∧ ratioI a b ≤ 1000000000 := by
  unfold ratioI; split
  · omega
  · have := Int.ediv_nonneg (show 0 ≤ a * 1000000000 by omega) h2; omega
theorem ratio_iff {a b t : Int} (hb : 0 < b) (ht : t ≤ 1000000000) : t ≤ ratioI a b ↔ t * b ≤ a * 1000000000 := by
  unfold ratioI; rw [if_neg (by omega), ← Int.le_ediv_iff_mul_le hb]; omega
theorem ratio_self {n : Int} (h : 0 ≤ n) : ratioI n n = if 0 < n then 1000000000 else 0 := by
  unfold ratioI
  by_cases hn : n = 0
  · subst hn; simp
  · have : n * 1000000000 / n = 1000000000 := Int.mul_ediv_cancel_left _ hn
    rw [if_neg hn, if_pos (by omega), this]; omega

theorem held_mono {x y : Int} (h : x ≤ y) : heldI x ≤ heldI y := by unfold heldI; omega

theorem lin_bd {a b c h : Int} (hb : b ≤ a) (hc : 0 < c) (h0 : 0 ≤ h) (h1 : h ≤ c) : 0 ≤ (a - b) * h / c ∧ (a - b) * h / c ≤ a - b := by
  have m0 := Int.mul_nonneg (show 0 ≤ a - b by omega) h0
  have m1 := Int.mul_le_mul_of_nonneg_left h1 (show 0 ≤ a - b by omega)
  exact ⟨Int.ediv_nonneg m0 (by omega), Int.ediv_le_of_le_mul hc m1⟩

theorem div_anti {A y z : Int} (hA : 0 ≤ A) (hy : 0 < y) (h : y ≤ z) : A / z ≤ A / y := by
  apply Int.le_ediv_of_mul_le hy
  have h1 := Int.ediv_nonneg hA (show 0 ≤ z by omega)
  have h2 := Int.mul_le_mul_of_nonneg_left h h1
  have h3 := Int.ediv_mul_le A (show z ≠ 0 by omega)
  omega

theorem is_kind {k a b c d : Int} (h : isB k a b c d = true) : k = 1 ∨ k = 2 ∨ k = 3 := by
  by_cases k1 : k = 1
  · exact .inl k1
  by_cases k2 : k = 2
  · exact .inr (.inl k2)
  by_cases k3 : k = 3
  · exact .inr (.inr k3)
  · simp [isB, k1, k2, k3] at h

theorem at_bd {k a b c d : Int} (h : isB k a b c d = true) (x : Int) : 0 ≤ atI k a b c d x ∧ atI k a b c d x ≤ 1000000000 := by
  obtain ⟨y0, y1⟩ := held_bd x
  rcases is_kind h with rfl | rfl | rfl
  · obtain ⟨⟨a0, a1⟩, ⟨b0, b1⟩, ⟨c0, c1⟩, -⟩ := is1_out h
    by_cases hx : c ≤ heldI x
    · rw [at1_end hx]; omega
    · have := lin_bd (h := heldI x) b1 (show 0 < c by omega) y0 (by omega)
      rw [at1_mid (by omega)]; omega
  · obtain ⟨⟨a0, a1⟩, ⟨b0, b1⟩, ⟨c0, c1⟩, d0, d1⟩ := is2_out h
    have q0 := Int.ediv_nonneg y0 (show 0 ≤ d by omega)
    have m0 := Int.mul_nonneg (show 0 ≤ c by omega) q0
    rw [at2_eq]; omega
  · rw [at3_eq]; exact held_bd _

theorem at_falls {k a b c d : Int} (h : isB k a b c d = true) {x y : Int} (hxy : x ≤ y) : atI k a b c d y ≤ atI k a b c d x := by
  obtain ⟨x0, x1⟩ := held_bd x
  obtain ⟨y0, y1⟩ := held_bd y
  have hm := held_mono hxy
  rcases is_kind h with rfl | rfl | rfl
  · obtain ⟨⟨a0, a1⟩, ⟨b0, b1⟩, ⟨c0, c1⟩, -⟩ := is1_out h
    by_cases hx : c ≤ heldI x
    · rw [at1_end hx, at1_end (by omega)]; omega
    · have l1 := lin_bd (h := heldI x) b1 (show 0 < c by omega) x0 (by omega)
      rw [at1_mid (show heldI x < c by omega)]
      by_cases hy : c ≤ heldI y
      · rw [at1_end hy]; omega
      · rw [at1_mid (show heldI y < c by omega)]
        have := Int.ediv_le_ediv (show 0 < c by omega) (Int.mul_le_mul_of_nonneg_left hm (show 0 ≤ a - b by omega))
        omega
  · obtain ⟨⟨a0, a1⟩, ⟨b0, b1⟩, ⟨c0, c1⟩, d0, d1⟩ := is2_out h
    have q := Int.ediv_le_ediv (show 0 < d by omega) hm
    have m := Int.mul_le_mul_of_nonneg_left q (show 0 ≤ c by omega)
    rw [at2_eq, at2_eq]; omega
  · obtain ⟨⟨a0, a1⟩, ⟨b0, b1⟩, ⟨c0, c1⟩, -⟩ := is3_out h
    have q := div_anti (A := a * 1000000000) (by omega) (show 0 < heldI x + b by omega) (show heldI x + b ≤ heldI y + b by omega)
    rw [at3_eq, at3_eq]; exact held_mono (by omega)

end Go.Proofs.Ytnboghkdhfpfnaa
