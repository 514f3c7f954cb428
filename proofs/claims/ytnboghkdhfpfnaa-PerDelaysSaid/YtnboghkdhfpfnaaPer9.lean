/-
  The delay of a curve: the code's search, the document's search: the least place at which the curve is as low.
-/
import Derived.Test.YtnboghkdhfpfnaaPer5
import Derived.LoopTactic
import Derived.IntWalk
namespace Go.Proofs.Ytnboghkdhfpfnaa
open Go.RowKit
set_option linter.unusedVariables false

/-- What a search knows: ahead of lo the curve is not as low, at hi it is (if hi is any place). -/
def Half (k a b c d y lo hi : Int) : Prop := (∀ x, 0 ≤ x → x < lo → y < atI k a b c d x) ∧ (hi < 1000000000 → atI k a b c d hi ≤ y)
def IsDelay (k a b c d y r : Int) : Prop := 0 ≤ r ∧ r ≤ 1000000000 ∧ Half k a b c d y r r

theorem delay_unique {k a b c d y r s : Int} (h : IsDelay k a b c d y r) (h' : IsDelay k a b c d y s) : r = s := by
  obtain ⟨r0, r1, h1, h2⟩ := h
  obtain ⟨s0, s1, h3, h4⟩ := h'
  rcases Int.lt_trichotomy r s with hl | hl | hl
  · have := h2 (by omega); have := h3 r r0 hl; omega
  · exact hl
  · have := h4 (by omega); have := h1 s s0 hl; omega

noncomputable def delayI (k a b c d y : Int) : Int := Classical.epsilon (IsDelay k a b c d y)
theorem delay_eq {k a b c d y r : Int} (h : IsDelay k a b c d y r) : r = delayI k a b c d y := delay_unique h (Classical.epsilon_spec ⟨r, h⟩)

theorem half_start {k a b c d y : Int} : Half k a b c d y 0 1000000000 := ⟨fun x h0 h1 => by omega, fun h => by omega⟩
theorem half_low {k a b c d y lo hi m : Int} (h : Half k a b c d y lo hi) (hm : atI k a b c d m ≤ y) : Half k a b c d y lo m := ⟨h.1, fun _ => hm⟩
theorem half_high {k a b c d y lo hi m : Int} (hi' : isB k a b c d = true) (h : Half k a b c d y lo hi) (hm : y < atI k a b c d m) : Half k a b c d y (m + 1) hi :=
  ⟨fun x h0 h1 => by have := at_falls hi' (show x ≤ m by omega); omega, h.2⟩

/-- A curve and a number lie in the first two blocks behind w0's. -/
structure Kept (w0 : World) (k a b c d y : Int) (w : World) : Prop where
  box : Boxed w0 k a b c d w
  cy : w.cell? ⟨w0.heap.size + 1, 0, none⟩ = some (.int .i64 y)
  lt : w0.heap.size + 1 < w.heap.size
theorem Kept.below {w0 : World} {k a b c d y : Int} {w w' : World} (h : Kept w0 k a b c d y w) (hb : Below w.heap.size w w') : Kept w0 k a b c d y w' :=
  ⟨h.box.below hb, ((bcell hb).1 _ _ h.lt).trans h.cy, Nat.lt_of_lt_of_le h.lt hb.size⟩
theorem Kept.drew {w0 : World} {k a b c d y : Int} {w : World} (h : Kept w0 k a b c d y w) : Kept w0 k a b c d y w.drew := ⟨h.box.drew, h.cy, h.lt⟩
theorem Kept.all {w0 : World} {k a b c d y : Int} {w : World} (h : Kept w0 k a b c d y w) : w.cell? ⟨w0.heap.size, 0, none⟩ = some (.int .i64 k) ∧ w.cell? ⟨w0.heap.size, 1, none⟩ = some (.int .i64 a) ∧ w.cell? ⟨w0.heap.size, 2, none⟩ = some (.int .i64 b) ∧ w.cell? ⟨w0.heap.size, 3, none⟩ = some (.int .i64 c) ∧ w.cell? ⟨w0.heap.size, 4, none⟩ = some (.int .i64 d) ∧ w.cell? ⟨w0.heap.size + 1, 0, none⟩ = some (.int .i64 y) :=
  ⟨h.box.c0, h.box.c1, h.box.c2, h.box.c3, h.box.c4, h.cy⟩

theorem delay_closure (w0 : World) (k a b c d y x : Int) (hi : isB k a b c d = true) (w : World) (K1 : Kept w0 k a b c d y w) :
    Calls Try.prog 31 #[.int .i64 x, .pointer (some ⟨w0.heap.size, 0, none⟩), .pointer (some ⟨w0.heap.size + 1, 0, none⟩)] w fun e w' => e = .returned (.bool (decide (atI k a b c d x ≤ y))) ∧ Below w.heap.size w w' := by
  go_enter Try.func31, Try.ntmps31
  go_wp2_with fail
  go_region_held3 (fun w' => w'.cell? ⟨w0.heap.size, 0, none⟩ = some (.int .i64 k) ∧ w'.cell? ⟨w0.heap.size, 1, none⟩ = some (.int .i64 a) ∧ w'.cell? ⟨w0.heap.size, 2, none⟩ = some (.int .i64 b) ∧ w'.cell? ⟨w0.heap.size, 3, none⟩ = some (.int .i64 c) ∧ w'.cell? ⟨w0.heap.size, 4, none⟩ = some (.int .i64 d) ∧ w'.cell? ⟨w0.heap.size + 1, 0, none⟩ = some (.int .i64 y)) (first | exact K1.all | exact (K1.drew.below hbn).all) (first | (go_at_call 22; refine (per_At _ _ _ _ _ _ _ hi).mono ?_; rintro e wn ⟨rfl, hbn⟩))
  all_goals go_wp2
  all_goals go_ret
  all_goals exact ⟨rfl, (Below.refl _ _).drew.trans hbn⟩

set_option maxHeartbeats 1000000 in
theorem sort_Search (w0 : World) (k a b c d y : Int) (hi : isB k a b c d = true) (w : World) (K1 : Kept w0 k a b c d y w) :
    Calls Try.prog 30 #[.int .i64 1000000000, .func (.func 31) #[] #[.pointer (some ⟨w0.heap.size, 0, none⟩), .pointer (some ⟨w0.heap.size + 1, 0, none⟩)]] w fun e w' => e = .returned (.int .i64 (delayI k a b c d y)) ∧ Kept w0 k a b c d y w' := by
  go_enter Try.func30, Try.ntmps30
  go_wp2
  go_loopw [5, 6] (fun i j wr => ∃ lo hi : Int, i = .int .i64 lo ∧ j = .int .i64 hi ∧ 0 ≤ lo ∧ lo ≤ hi ∧ hi ≤ 1000000000 ∧ Half k a b c d y lo hi ∧ Kept w0 k a b c d y wr) (fun i j _ => (intOf j - intOf i).toNat)
  case atStart => exact ⟨0, 1000000000, rfl, rfl, by omega, by omega, by omega, half_start, K1⟩
  case round =>
    obtain ⟨lo, hi', rfl, rfl, l0, l1, l2, hh, K⟩ := hrel
    by_cases hlt : lo < hi'
    · by_cases hm : atI k a b c d ((lo + hi') / 2) ≤ y
      · go_wp2_with (go_at_call 31; refine (delay_closure w0 k a b c d y _ hi _ K).mono ?_; rintro e w1 ⟨rfl, hb1⟩)
        exact ⟨⟨lo, (lo + hi') / 2, rfl, rfl, by omega, by omega, by omega, half_low hh hm, K.below hb1⟩, by simp [intOf]; omega⟩
      · have hm' : decide (atI k a b c d ((lo + hi') / 2) ≤ y) = false := by simp; omega
        go_wp2_with (go_at_call 31; refine (delay_closure w0 k a b c d y _ hi _ K).mono ?_; rintro e w1 ⟨rfl, hb1⟩)
        exact ⟨⟨(lo + hi') / 2 + 1, hi', rfl, rfl, by omega, by omega, by omega, half_high hi hh (by omega), K.below hb1⟩, by simp [intOf]; omega⟩
    · go_wp2
      go_ret
      obtain rfl : lo = hi' := by omega
      exact ⟨ret_int (delay_eq ⟨l0, l2, hh⟩), K⟩

theorem per_Delay (k a b c d y : Int) (w : World) (hi : isB k a b c d = true) :
    Calls Try.prog 24 #[curve k a b c d, .int .i64 y] w fun e w' => e = .returned (.int .i64 (delayI k a b c d y)) ∧ Below w.heap.size w w' := by
  have K1 : Kept w k a b c d y ((w.alloc (.cells #[.int .i64 k, .int .i64 a, .int .i64 b, .int .i64 c, .int .i64 d] 28)).alloc (.cells #[.int .i64 y] 3)) :=
    ⟨Boxed.new.below ((Below.refl _ _).alloc (Nat.le_refl _) _), by simp, by simp⟩
  go_enter Try.func24, Try.ntmps24
  go_wp2_with (go_at_call 30; refine (sort_Search w k a b c d y hi _ K1).mono ?_; rintro e w1 ⟨rfl, hb1⟩)
  go_ret
  exact ⟨rfl, hb1.box.old⟩

set_option maxHeartbeats 1000000 in
theorem ref_Delay (k a b c d y : Int) (w : World) (hi : isB k a b c d = true) :
    Calls Try.prog 25 #[curve k a b c d, .int .i64 y] w fun e w' => e = .returned (.int .i64 (delayI k a b c d y)) ∧ Below w.heap.size w w' := by
  go_enter Try.func25, Try.ntmps25
  go_wp2
  go_loopw [5, 6] (fun i j wr => ∃ lo hi : Int, i = .int .i64 lo ∧ j = .int .i64 hi ∧ 0 ≤ lo ∧ lo ≤ hi ∧ hi ≤ 1000000000 ∧ Half k a b c d y lo hi ∧ Boxed w k a b c d wr) (fun i j _ => (intOf j - intOf i).toNat)
  case atStart => exact ⟨0, 1000000000, rfl, rfl, by omega, by omega, by omega, half_start, Boxed.new⟩
  case round =>
    obtain ⟨lo, hi', rfl, rfl, l0, l1, l2, hh, K⟩ := hrel
    obtain ⟨c0, c1, c2, c3, c4⟩ := K.all
    by_cases hlt : lo < hi'
    · by_cases hm : atI k a b c d ((lo + hi') / 2) ≤ y
      · go_wp2_with (go_at_call 23; refine (ref_At _ _ _ _ _ _ _ hi).mono ?_; rintro e w1 ⟨rfl, hb1⟩)
        exact ⟨⟨lo, (lo + hi') / 2, rfl, rfl, by omega, by omega, by omega, half_low hh hm, K.below hb1⟩, by simp [intOf]; omega⟩
      · have hm' : decide (atI k a b c d ((lo + hi') / 2) ≤ y) = false := by simp; omega
        go_wp2_with (go_at_call 23; refine (ref_At _ _ _ _ _ _ _ hi).mono ?_; rintro e w1 ⟨rfl, hb1⟩)
        exact ⟨⟨(lo + hi') / 2 + 1, hi', rfl, rfl, by omega, by omega, by omega, half_high hi hh (by omega), K.below hb1⟩, by simp [intOf]; omega⟩
    · go_wp2
      go_ret
      obtain rfl : lo = hi' := by omega
      exact ⟨ret_int (delay_eq ⟨l0, l2, hh⟩), K.old⟩

end Go.Proofs.Ytnboghkdhfpfnaa
