/-
  What the insertion sort comes to: it is stable, and sorts.
-/
import Derived.Test.YtpkamfbjgdmmoaaGreatMp
namespace Go.Proofs.YtpkamfbjgdmmoaaGreat
open Go.RowKit Go.Maps Go.Shelf
set_option linter.unusedVariables false
set_option linter.unusedSimpArgs false

theorem swp_at (u : List Int) (y x : Int) (p : List Int) : swp (u ++ y :: x :: p) u.length = u ++ x :: y :: p := by
  unfold swp
  have e1 : (u ++ y :: x :: p).getD (u.length + 1) 0 = x := by
    rw [List.getD_eq_getElem?_getD, List.getElem?_append_right (by omega)]; simp
  have e0 : (u ++ y :: x :: p).getD u.length 0 = y := by
    rw [List.getD_eq_getElem?_getD, List.getElem?_append_right (by omega)]; simp
  rw [e0, e1, List.set_append_right _ _ (by omega), List.set_append_right _ _ (by omega)]
  simp
theorem getD_mid (u : List Int) (x : Int) (p : List Int) : (u ++ x :: p).getD u.length 0 = x := by
  rw [List.getD_eq_getElem?_getD, List.getElem?_append_right (by omega)]; simp
theorem getD_mid1 (u : List Int) (y x : Int) (p : List Int) : (u ++ y :: x :: p).getD (u.length + 1) 0 = x := by
  rw [List.getD_eq_getElem?_getD, List.getElem?_append_right (by omega)]; simp
/-- One goes down among those ahead of it. -/
theorem insIn_split (cf : Int → Int → Int) (x : Int) : ∀ (n : Nat) (pre post : List Int), pre.length = n → ∃ u v, pre = u ++ v ∧ insIn cf n (pre ++ x :: post) = u ++ x :: v ++ post ∧ (∀ y ∈ v, cf x y < 0) ∧ (u = [] ∨ ∃ u' y, u = u' ++ [y] ∧ ¬ cf x y < 0)
  | 0, pre, post, h => by
    obtain rfl := List.eq_nil_of_length_eq_zero h
    exact ⟨[], [], rfl, rfl, fun y hy => by simp at hy, .inl rfl⟩
  | n + 1, pre, post, h => by
    obtain ⟨q, y, rfl⟩ : ∃ q y, pre = q ++ [y] := by
      rcases List.eq_nil_or_concat pre with rfl | ⟨q, y, rfl⟩
      · simp at h
      · exact ⟨q, y, by simp⟩
    have hq : q.length = n := by simp at h; omega
    have e : q ++ [y] ++ x :: post = q ++ y :: x :: post := by simp
    rw [e, insIn, ← hq, getD_mid1, getD_mid]
    by_cases hc : cf x y < 0
    · rw [if_pos hc, swp_at]
      obtain ⟨u, v, h1, h2, h3, h4⟩ := insIn_split cf x n q (y :: post) hq
      rw [hq, h2]
      refine ⟨u, v ++ [y], by rw [h1]; simp, by simp, fun z hz => ?_, h4⟩
      rcases List.mem_append.1 hz with hz | hz
      · exact h3 z hz
      · rw [List.mem_singleton.1 hz]; exact hc
    · rw [if_neg hc]
      exact ⟨q ++ [y], [], by simp, by simp, fun z hz => by simp at hz, .inr ⟨q, y, rfl, hc⟩⟩
/-- Who comes first. -/
def ltA (t : Int → Int) (i j : Int) : Prop := t j < t i ∨ (t i = t j ∧ i < j)
theorem insOut_sort {t : Int → Int} {cf : Int → Int → Int} (hcf : ∀ x y, cf x y < 0 ↔ t y < t x) : ∀ (n : Nat) (pre post : List Int), post.length = n → pre.Pairwise (ltA t) → (∀ y ∈ pre, ∀ z ∈ post, y < z) → post.Pairwise (· < ·) → (insOut cf n pre.length (pre ++ post)).Pairwise (ltA t) ∧ (insOut cf n pre.length (pre ++ post)).Perm (pre ++ post)
  | 0, pre, post, h, hp, _, _ => by
    obtain rfl := List.eq_nil_of_length_eq_zero h
    rw [List.append_nil]
    exact ⟨hp, List.Perm.refl _⟩
  | n + 1, pre, post, h, hp, hpp, hq => by
    cases post with
    | nil => simp at h
    | cons x post =>
      have hq2 := List.pairwise_cons.1 hq
      obtain ⟨u, v, h1, h2, h3, h4⟩ := insIn_split cf x pre.length pre post rfl
      rw [insOut, h2]
      have hx : ∀ y ∈ pre, y < x := fun y hy => hpp y hy x (by simp)
      have hpw : (u ++ x :: v).Pairwise (ltA t) := by
        subst h1
        obtain ⟨hu, hv, huv⟩ := List.pairwise_append.1 hp
        have hux : ∀ y ∈ u, ltA t y x := by
          rcases h4 with rfl | ⟨u', y0, rfl, hc⟩
          · intro y hy; simp at hy
          · have h0 : t x ≤ t y0 := by
              have := (not_congr (hcf x y0)).1 hc
              omega
            intro y hy
            have hle : t y0 ≤ t y := by
              rcases List.mem_append.1 hy with hy | hy
              · have := (List.pairwise_append.1 hu).2.2 y hy y0 (by simp)
                rcases this with e | ⟨e, -⟩ <;> omega
              · rw [List.mem_singleton.1 hy]; omega
            have hlt := hx y (List.mem_append_left _ hy)
            unfold ltA
            by_cases e : t x < t y
            · exact .inl e
            · exact .inr ⟨by omega, hlt⟩
        refine List.pairwise_append.2 ⟨hu, List.pairwise_cons.2 ⟨fun y hy => .inl ((hcf x y).1 (h3 y hy)), hv⟩, fun y hy z hz => ?_⟩
        rcases List.mem_cons.1 hz with rfl | hz
        · exact hux y hy
        · exact huv y hy z hz
      have hlen : (u ++ x :: v).length = pre.length + 1 := by rw [h1]; simp; omega
      have ih := insOut_sort hcf n (u ++ x :: v) post (by simpa using h) hpw (fun y hy z hz => by
        rcases List.mem_append.1 hy with hy | hy
        · exact hpp y (by rw [h1]; exact List.mem_append_left _ hy) z (List.mem_cons_of_mem _ hz)
        · rcases List.mem_cons.1 hy with rfl | hy
          · exact hq2.1 z hz
          · exact hpp y (by rw [h1]; exact List.mem_append_right _ hy) z (List.mem_cons_of_mem _ hz)) hq2.2
      rw [hlen] at ih
      refine ⟨ih.1, ih.2.trans ?_⟩
      rw [h1]
      simp only [List.append_assoc, List.cons_append]
      exact List.Perm.append_left _ (List.perm_middle.symm)
theorem isort_sort {t : Int → Int} {cf : Int → Int → Int} (hcf : ∀ x y, cf x y < 0 ↔ t y < t x) {l : List Int} (h : l.Pairwise (· < ·)) : (isort cf l).Pairwise (ltA t) ∧ (isort cf l).Perm l := by
  unfold isort
  cases l with
  | nil => exact ⟨List.Pairwise.nil, List.Perm.refl _⟩
  | cons x l =>
    have h2 := List.pairwise_cons.1 h
    have := insOut_sort hcf l.length [x] l rfl (List.pairwise_singleton _ _) (fun y hy z hz => by rw [List.mem_singleton.1 hy]; exact h2.1 z hz) h2.2
    simpa using this
theorem cmpA_lt (S : Vs) (x y : Int) : cmpA S x y < 0 ↔ (tallyOf S y).a < (tallyOf S x).a := by
  unfold cmpA cmpI
  split
  · simp; assumption
  · split
    · simp; omega
    · simp; omega
end Go.Proofs.YtpkamfbjgdmmoaaGreat
