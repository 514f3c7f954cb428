/-
  The laws on curves.
-/
import Derived.Test.YtnboghkdhfpfnaaPer4
import Derived.Deep.RegionHeld3
namespace Go.Proofs.Ytnboghkdhfpfnaa
open Go.RowKit

/-- A curve lies in the first block behind w0's; what was there in w0 is as it was. -/
structure Boxed (w0 : World) (k a b' c d : Int) (w : World) : Prop where
  c0 : w.cell? ⟨w0.heap.size, 0, none⟩ = some (.int .i64 k)
  c1 : w.cell? ⟨w0.heap.size, 1, none⟩ = some (.int .i64 a)
  c2 : w.cell? ⟨w0.heap.size, 2, none⟩ = some (.int .i64 b')
  c3 : w.cell? ⟨w0.heap.size, 3, none⟩ = some (.int .i64 c)
  c4 : w.cell? ⟨w0.heap.size, 4, none⟩ = some (.int .i64 d)
  lt : w0.heap.size < w.heap.size
  old : Below w0.heap.size w0 w

theorem Boxed.all {w0 : World} {k a b' c d : Int} {w : World} (h : Boxed w0 k a b' c d w) : w.cell? ⟨w0.heap.size, 0, none⟩ = some (.int .i64 k) ∧ w.cell? ⟨w0.heap.size, 1, none⟩ = some (.int .i64 a) ∧ w.cell? ⟨w0.heap.size, 2, none⟩ = some (.int .i64 b') ∧ w.cell? ⟨w0.heap.size, 3, none⟩ = some (.int .i64 c) ∧ w.cell? ⟨w0.heap.size, 4, none⟩ = some (.int .i64 d) := ⟨h.c0, h.c1, h.c2, h.c3, h.c4⟩
theorem Boxed.below {w0 : World} {k a b' c d : Int} {w w' : World} (h : Boxed w0 k a b' c d w) (hb : Below w.heap.size w w') : Boxed w0 k a b' c d w' := by
  obtain ⟨hc, _⟩ := bcell hb
  exact ⟨(hc _ _ h.lt).trans h.c0, (hc _ _ h.lt).trans h.c1, (hc _ _ h.lt).trans h.c2, (hc _ _ h.lt).trans h.c3, (hc _ _ h.lt).trans h.c4, Nat.lt_of_lt_of_le h.lt hb.size, h.old.trans (hb.mono h.old.size)⟩
theorem Boxed.drew {w0 : World} {k a b' c d : Int} {w : World} (h : Boxed w0 k a b' c d w) : Boxed w0 k a b' c d w.drew := ⟨h.c0, h.c1, h.c2, h.c3, h.c4, h.lt, h.old.drew⟩
theorem Boxed.new {k a b' c d : Int} {w : World} {t : TypeId} : Boxed w k a b' c d (w.alloc (.cells #[.int .i64 k, .int .i64 a, .int .i64 b', .int .i64 c, .int .i64 d] t)) := by
  constructor
  case old => exact (Below.refl _ _).alloc (Nat.le_refl _) _
  all_goals simp

theorem perFalls_yes (k a b c d x y : Int) (hi : isB k a b c d = true) (hne : x < y ∨ x = y ∨ y < x) (w : World) :
    Calls Try.prog 7 #[curve k a b c d, .int .i64 x, .int .i64 y] w fun e w' => e = .returned (.bool true) ∧ Below w.heap.size w w' := by
  obtain ⟨x0, x1⟩ := at_bd hi x
  obtain ⟨y0, y1⟩ := at_bd hi y
  rcases hne with hxy | rfl | hxy
  · have hf := at_falls hi (Int.le_of_lt hxy)
    go_enter Try.func7, Try.ntmps7
    go_wp2_with (go_at_call 20; refine (ref_Is _ _ _ _ _ _).mono ?_; rintro e w1 ⟨rfl, hb1⟩)
    have B1 := Boxed.new.below hb1
    go_region_held3 (fun w' => w'.cell? ⟨w.heap.size, 0, none⟩ = some (.int .i64 k) ∧ w'.cell? ⟨w.heap.size, 1, none⟩ = some (.int .i64 a) ∧ w'.cell? ⟨w.heap.size, 2, none⟩ = some (.int .i64 b) ∧ w'.cell? ⟨w.heap.size, 3, none⟩ = some (.int .i64 c) ∧ w'.cell? ⟨w.heap.size, 4, none⟩ = some (.int .i64 d)) (first | exact B1.all | exact B2.all | exact B3.all) (first | (go_at_call 22; refine (per_At _ _ _ _ _ _ _ hi).mono ?_; rintro e wn ⟨rfl, hbn⟩; first | (have B3 := B2.below hbn) | (have B2 := B1.drew.below hbn)))
    all_goals first | (exfalso; omega) | skip
    all_goals clear hb1 B1 B2
    all_goals go_wp2_with (go_at_call 19; refine (known_yes _).mono ?_; rintro e w2 ⟨rfl, hb2⟩)
    all_goals go_ret
    all_goals exact ⟨rfl, (B3.below hb2).old⟩
  · have hf := at_falls hi (Int.le_refl x)
    go_enter Try.func7, Try.ntmps7
    go_wp2_with (go_at_call 20; refine (ref_Is _ _ _ _ _ _).mono ?_; rintro e w1 ⟨rfl, hb1⟩)
    have B1 := Boxed.new.below hb1
    go_region_held3 (fun w' => w'.cell? ⟨w.heap.size, 0, none⟩ = some (.int .i64 k) ∧ w'.cell? ⟨w.heap.size, 1, none⟩ = some (.int .i64 a) ∧ w'.cell? ⟨w.heap.size, 2, none⟩ = some (.int .i64 b) ∧ w'.cell? ⟨w.heap.size, 3, none⟩ = some (.int .i64 c) ∧ w'.cell? ⟨w.heap.size, 4, none⟩ = some (.int .i64 d)) (first | exact B1.all | exact B2.all | exact B3.all) (first | (go_at_call 22; refine (per_At _ _ _ _ _ _ _ hi).mono ?_; rintro e wn ⟨rfl, hbn⟩; first | (have B3 := B2.below hbn) | (have B2 := B1.drew.below hbn)))
    all_goals clear hb1 B1 B2
    all_goals go_wp2_with (go_at_call 19; refine (known_yes _).mono ?_; rintro e w2 ⟨rfl, hb2⟩)
    all_goals go_ret
    all_goals exact ⟨rfl, (B3.below hb2).old⟩
  · have hf := at_falls hi (Int.le_of_lt hxy)
    go_enter Try.func7, Try.ntmps7
    go_wp2_with (go_at_call 20; refine (ref_Is _ _ _ _ _ _).mono ?_; rintro e w1 ⟨rfl, hb1⟩)
    have B1 := Boxed.new.below hb1
    go_region_held3 (fun w' => w'.cell? ⟨w.heap.size, 0, none⟩ = some (.int .i64 k) ∧ w'.cell? ⟨w.heap.size, 1, none⟩ = some (.int .i64 a) ∧ w'.cell? ⟨w.heap.size, 2, none⟩ = some (.int .i64 b) ∧ w'.cell? ⟨w.heap.size, 3, none⟩ = some (.int .i64 c) ∧ w'.cell? ⟨w.heap.size, 4, none⟩ = some (.int .i64 d)) (first | exact B1.all | exact B2.all | exact B3.all) (first | (go_at_call 22; refine (per_At _ _ _ _ _ _ _ hi).mono ?_; rintro e wn ⟨rfl, hbn⟩; first | (have B3 := B2.below hbn) | (have B2 := B1.drew.below hbn)))
    all_goals first | (exfalso; omega) | skip
    all_goals clear hb1 B1 B2
    all_goals go_wp2_with (go_at_call 19; refine (known_yes _).mono ?_; rintro e w2 ⟨rfl, hb2⟩)
    all_goals go_ret
    all_goals exact ⟨rfl, (B3.below hb2).old⟩

theorem perFalls_walk (k a b c d x y : Int) (_w0 : (Lit.int .i64 k).wf = true) (_w1 : (Lit.int .i64 a).wf = true) (_w2 : (Lit.int .i64 b).wf = true) (_w3 : (Lit.int .i64 c).wf = true) (_w4 : (Lit.int .i64 d).wf = true) (_w5 : (Lit.int .i64 x).wf = true) (_w6 : (Lit.int .i64 y).wf = true) (w : World) :
    Calls Try.prog 7 #[curve k a b c d, .int .i64 x, .int .i64 y] w fun e w' => e = .returned (.bool true) ∧ Below w.heap.size w w' := by
  by_cases hi : isB k a b c d = true
  · exact perFalls_yes k a b c d x y hi (by omega) w
  · have hi' : isB k a b c d = false := by simpa using hi
    clear hi
    go_enter Try.func7, Try.ntmps7
    go_wp2_with (go_at_call 20; refine (ref_Is _ _ _ _ _ _).mono ?_; rintro e w1 ⟨rfl, hb1⟩)
    go_ret
    exact ⟨rfl, below_box hb1⟩

end Go.Proofs.Ytnboghkdhfpfnaa
