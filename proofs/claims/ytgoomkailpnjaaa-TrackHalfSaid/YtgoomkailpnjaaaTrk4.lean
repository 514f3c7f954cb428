/-
  The laws on tracks: every share and every answer; behind the end; with no votes.
-/
import Derived.Test.YtgoomkailpnjaaaTrk3
namespace Go.Proofs.Ytgoomkailpnjaaa
open Go.RowKit
set_option linter.unusedVariables false

/-- A track and a tally lie in the first two blocks behind w0's. -/
structure PB (w0 : World) (t : Trk) (x y s : Int) (w : World) : Prop where
  box : RBox w0 w0.heap.size t.list w
  d0 : w.cell? ⟨w0.heap.size + 1, 0, none⟩ = some (.int .i64 x)
  d1 : w.cell? ⟨w0.heap.size + 1, 1, none⟩ = some (.int .i64 y)
  d2 : w.cell? ⟨w0.heap.size + 1, 2, none⟩ = some (.int .i64 s)
  lt : w0.heap.size + 1 < w.heap.size
theorem PB.below {w0 : World} {t : Trk} {x y s : Int} {w w' : World} (h : PB w0 t x y s w) (hb : Below w.heap.size w w') : PB w0 t x y s w' :=
  ⟨h.box.below hb, ((bcell hb).1 _ _ h.lt).trans h.d0, ((bcell hb).1 _ _ h.lt).trans h.d1, ((bcell hb).1 _ _ h.lt).trans h.d2, Nat.lt_of_lt_of_le h.lt hb.size⟩
theorem PB.drew {w0 : World} {t : Trk} {x y s : Int} {w : World} (h : PB w0 t x y s w) : PB w0 t x y s w.drew := ⟨h.box.drew, h.d0, h.d1, h.d2, h.lt⟩
theorem PB.all {w0 : World} {t : Trk} {x y s : Int} {w : World} (h : PB w0 t x y s w) : w.rangeAt w0.heap.size 0 t.list ∧ w.cell? ⟨w0.heap.size + 1, 0, none⟩ = some (.int .i64 x) ∧ w.cell? ⟨w0.heap.size + 1, 1, none⟩ = some (.int .i64 y) ∧ w.cell? ⟨w0.heap.size + 1, 2, none⟩ = some (.int .i64 s) := ⟨h.box.rng, h.d0, h.d1, h.d2⟩
theorem PB.new {t : Trk} {x y s : Int} {w : World} {T U : TypeId} : PB w t x y s ((w.alloc (.cells t.list.toArray T)).alloc (.cells #[.int .i64 x, .int .i64 y, .int .i64 s] U)) :=
  ⟨(RBox.new (Below.refl _ _)).below (below_new (Below.refl _ _) _), by simp, by simp, by simp, by simp⟩

theorem rng_dec {b : Nat} {t : Trk} {w : World} (h : w.rangeAt b 0 t.list) : w.cell? ⟨b, 3, none⟩ = some (.int .i64 t.dec) := h 3 _ rfl

attribute [local go_sem ↓] loadAt_track
attribute [local go_sem] load_track

def fits10B (x y s i : Int) : Bool := decide (0 ≤ x) && decide (0 ≤ y) && decide (x ≤ 8589934592) && decide (y ≤ 8589934592 - x) && decide (0 ≤ s) && decide (s ≤ 8589934592) && decide (0 ≤ i) && decide (i ≤ 8589934592)
theorem fits10B_out {x y s i : Int} (h : fits10B x y s i = true) : Fits10 x y s i := by
  simp only [fits10B, Bool.and_eq_true, decide_eq_true_eq] at h
  unfold Fits10; omega

set_option maxHeartbeats 1000000 in
theorem law_fits (x y s i : Int) (w : World) :
    Calls Try.prog 37 #[tally x y s, .int .i64 i] w fun e w' => e = .returned (.bool (fits10B x y s i)) ∧ Below w.heap.size w w' := by
  rcases (show x < 0 ∨ (0 ≤ x ∧ y < 0) ∨ (0 ≤ x ∧ 0 ≤ y ∧ 8589934592 < x) ∨ (0 ≤ x ∧ 0 ≤ y ∧ x ≤ 8589934592) by omega) with x0 | ⟨x0, y0⟩ | ⟨x0, y0, x1⟩ | ⟨x0, y0, x1⟩
  all_goals
    go_enter Try.func37, Try.ntmps37
    go_wp2
  all_goals
    go_ret
    exact ⟨ret_bool (by unfold fits10B; simp; omega), below_new (Below.refl _ _) _⟩

set_option maxHeartbeats 1000000 in
theorem trackTells_yes (t : Trk) (x y s i el : Int) (w : World) (hf : fits10B x y s i = true) (ht : trackB t = true) (e0 : 0 ≤ el) (e1 : el ≤ 1073741824) :
    Calls Try.prog 12 #[.agg t.list.toArray, tally x y s, .int .i64 i, .int .i64 el] w fun e w' => e = .returned (.bool true) ∧ Below w.heap.size w w' := by
  have h := fits10B_out hf
  have g1 : decide (el < 0) = false := by simp; omega
  have g2 : decide (1073741824 < el) = false := by simp; omega
  have LD : TrackAt w.heap.size t := ⟨trivial⟩
  go_enter Try.func12, Try.ntmps12
  go_wp2_with (first | (go_at_call 37; refine (law_fits _ _ _ _ _).mono ?_; rintro e w1 ⟨rfl, hb1⟩; have B := PB.new.below hb1; clear hb1; have z0 := B.d0; have z1 := B.d1; have z2 := B.d2) | (go_at_call 38; refine (track_Shares _ _ _ _ _ h).mono ?_; rintro e w2 ⟨rfl, hb2⟩; have B2 := B.below hb2; clear hb2 z0 z1 z2 B; have z0 := B2.d0; have z1 := B2.d1; have z2 := B2.d2) | (go_at_call 39; refine (ref10_Shares _ _ _ _ _ h).mono ?_; rintro e w3 ⟨rfl, hb3⟩; have B3 := B2.below hb3; clear hb3 z0 z1 z2 B2; have z3 := B3.box.rng) | (go_at_call 35; refine (ref10_Is' t _).mono ?_; rintro e w4 ⟨rfl, hb4⟩; have B4 := B3.below hb4; clear hb4 z3 B3) | fail)
  go_region_held3 (fun w' => w'.rangeAt w.heap.size 0 t.list ∧ w'.cell? ⟨w.heap.size + 1, 0, none⟩ = some (.int .i64 x) ∧ w'.cell? ⟨w.heap.size + 1, 1, none⟩ = some (.int .i64 y) ∧ w'.cell? ⟨w.heap.size + 1, 2, none⟩ = some (.int .i64 s)) (first | exact B4.drew.all | exact B4.all | exact B5.all | exact B6.all | exact B7.all | fail) (first | (go_at_call 40; refine (track_Passing' t _ _ _ _ _ _ h ht e0).mono ?_; rintro e wn ⟨rfl, hbn⟩; have B5 := B4.drew.below hbn) | (go_at_call 41; refine (ref10_Passing' t _ _ _ _ _ _ h ht e0).mono ?_; rintro e wn ⟨rfl, hbn⟩; have B6 := B5.below hbn) | (go_at_call 36; refine (known10 _).mono ?_; rintro e wn ⟨rfl, hbn⟩; have B7 := B6.below hbn) | fail)
  all_goals go_wp2
  all_goals go_ret
  all_goals exact ⟨rfl, B7.box.old⟩

set_option maxHeartbeats 1000000 in
theorem trackTells_one (t : Trk) (x y s i el : Int) (w : World) :
    Calls Try.prog 12 #[.agg t.list.toArray, tally x y s, .int .i64 i, .int .i64 el] w fun e w' => e = .returned (.bool true) ∧ Below w.heap.size w w' := by
  have LD : TrackAt w.heap.size t := ⟨trivial⟩
  by_cases hf : fits10B x y s i = true
  · have h := fits10B_out hf
    have hq : (trackB t = true ∧ 0 ≤ el ∧ el ≤ 1073741824) ∨ trackB t = false ∨ (trackB t = true ∧ decide (el < 0) = true) ∨ (trackB t = true ∧ decide (el < 0) = false ∧ decide (1073741824 < el) = true) := by
      cases trackB t <;> simp <;> omega
    rcases hq with ⟨ht, e0, e1⟩ | ht | ⟨ht, g1⟩ | ⟨ht, g1, g2⟩
    · exact trackTells_yes t x y s i el w hf ht e0 e1
    all_goals
      go_enter Try.func12, Try.ntmps12
      go_wp2_with (first | (go_at_call 37; refine (law_fits _ _ _ _ _).mono ?_; rintro e w1 ⟨rfl, hb1⟩; have B := PB.new.below hb1; clear hb1; have z0 := B.d0; have z1 := B.d1; have z2 := B.d2) | (go_at_call 38; refine (track_Shares _ _ _ _ _ h).mono ?_; rintro e w2 ⟨rfl, hb2⟩; have B2 := B.below hb2; clear hb2 z0 z1 z2 B; have z0 := B2.d0; have z1 := B2.d1; have z2 := B2.d2) | (go_at_call 39; refine (ref10_Shares _ _ _ _ _ h).mono ?_; rintro e w3 ⟨rfl, hb3⟩; have B3 := B2.below hb3; clear hb3 z0 z1 z2 B2; have z3 := B3.box.rng) | (go_at_call 35; refine (ref10_Is' t _).mono ?_; rintro e w4 ⟨rfl, hb4⟩; have B4 := B3.below hb4; clear hb4 z3 B3) | (go_at_call 36; refine (known10 _).mono ?_; rintro e wn ⟨rfl, hbn⟩; have B7 := B4.below hbn) | fail)
      go_ret
      exact ⟨rfl, B7.box.old⟩
  · have hf' : fits10B x y s i = false := by simpa using hf
    clear hf
    go_enter Try.func12, Try.ntmps12
    go_wp2_with (first | (go_at_call 37; refine (law_fits _ _ _ _ _).mono ?_; rintro e w1 ⟨rfl, hb1⟩; have B := PB.new.below hb1) | fail)
    go_ret
    exact ⟨rfl, B.box.old⟩

end Go.Proofs.Ytgoomkailpnjaaa
