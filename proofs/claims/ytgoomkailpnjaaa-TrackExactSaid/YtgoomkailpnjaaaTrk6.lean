/-
  The law on tracks by whole numbers.
-/
import Derived.Test.YtgoomkailpnjaaaTrk5
namespace Go.Proofs.Ytgoomkailpnjaaa
open Go.RowKit
set_option linter.unusedVariables false
attribute [local go_sem ↓] loadAt_track
attribute [local go_sem] load_track

theorem ratio_low {s i : Int} (s0 : 0 ≤ s) (i0 : 1 ≤ i) : (if s * 1000000000 / i < 1000000000 then s * 1000000000 / i else 1000000000) = ratioI s i := by
  unfold ratioI; rw [if_neg (show ¬ i = 0 by omega)]; omega

theorem pass_exact {t : Trk} {x y s i el : Int} (h0 : 0 < x + y) (ht : isB t.ak t.aa t.ab t.ac t.ad = true) :
    passB t x y s i el = (decide (atI t.ak t.aa t.ab t.ac t.ad (placeI t el) * (x + y) ≤ x * 1000000000) && decide (atI t.sk t.sa t.sb t.sc t.sd (placeI t el) ≤ ratioI s i)) := by
  unfold passB
  rw [decide_eq_decide.2 (ratio_iff (a := x) h0 (at_bd ht _).2)]

/-- A track's support and a tally, as the drawn region reads them. -/
theorem PB.exact2 {w0 : World} {t : Trk} {x y s : Int} {w : World} (h : PB w0 t x y s w) :
    w.cell? ⟨w0.heap.size, 11, none⟩ = some (.int .i64 t.sk) ∧ w.cell? ⟨w0.heap.size, 12, none⟩ = some (.int .i64 t.sa) ∧ w.cell? ⟨w0.heap.size, 13, none⟩ = some (.int .i64 t.sb) ∧ w.cell? ⟨w0.heap.size, 14, none⟩ = some (.int .i64 t.sc) ∧ w.cell? ⟨w0.heap.size, 15, none⟩ = some (.int .i64 t.sd) ∧
      w.cell? ⟨w0.heap.size + 1, 0, none⟩ = some (.int .i64 x) ∧ w.cell? ⟨w0.heap.size + 1, 1, none⟩ = some (.int .i64 y) ∧ w.cell? ⟨w0.heap.size + 1, 2, none⟩ = some (.int .i64 s) :=
  ⟨(rng_sup h.box.rng).1, (rng_sup h.box.rng).2.1, (rng_sup h.box.rng).2.2.1, (rng_sup h.box.rng).2.2.2.1, (rng_sup h.box.rng).2.2.2.2, h.d0, h.d1, h.d2⟩

/-- A track's approval and a tally, as the drawn region reads them. -/
theorem PB.exact {w0 : World} {t : Trk} {x y s : Int} {w : World} (h : PB w0 t x y s w) :
    w.cell? ⟨w0.heap.size, 6, none⟩ = some (.int .i64 t.ak) ∧ w.cell? ⟨w0.heap.size, 7, none⟩ = some (.int .i64 t.aa) ∧ w.cell? ⟨w0.heap.size, 8, none⟩ = some (.int .i64 t.ab) ∧ w.cell? ⟨w0.heap.size, 9, none⟩ = some (.int .i64 t.ac) ∧ w.cell? ⟨w0.heap.size, 10, none⟩ = some (.int .i64 t.ad) ∧
      w.cell? ⟨w0.heap.size + 1, 0, none⟩ = some (.int .i64 x) ∧ w.cell? ⟨w0.heap.size + 1, 1, none⟩ = some (.int .i64 y) ∧ w.cell? ⟨w0.heap.size + 1, 2, none⟩ = some (.int .i64 s) :=
  ⟨(rng_app h.box.rng).1, (rng_app h.box.rng).2.1, (rng_app h.box.rng).2.2.1, (rng_app h.box.rng).2.2.2.1, (rng_app h.box.rng).2.2.2.2, h.d0, h.d1, h.d2⟩

set_option maxHeartbeats 2000000 in
theorem trackExact_yes (t : Trk) (x y s i el : Int) (w : World) (hf : fits10B x y s i = true) (ht : trackB t = true) (i0 : 1 ≤ i) (h0 : 0 < x + y) (e0 : 0 ≤ el) (e1 : el ≤ 1073741824) :
    Calls Try.prog 14 #[.agg t.list.toArray, tally x y s, .int .i64 i, .int .i64 el] w fun e w' => e = .returned (.bool true) ∧ Below w.heap.size w w' := by
  have h := fits10B_out hf
  obtain ⟨x0, y0, xy, s0, s1, -, i1⟩ := fits10B_out hf
  obtain ⟨⟨d0, d1⟩, ia, is⟩ := trackB_out ht
  have g1 : (i == 0) = false := by simp; omega
  have g2 : (x + y == 0) = false := by simp; omega
  have g3 : decide (el < 0) = false := by simp; omega
  have g4 : decide (1073741824 < el) = false := by simp; omega
  have LD : TrackAt w.heap.size t := ⟨trivial⟩
  have PN := pass_exact (el := el) (s := s) (i := i) h0 ia
  obtain ⟨A0, A1⟩ := at_bd ia (placeI t el)
  obtain ⟨Z0, Z1⟩ := at_bd is (placeI t el)
  obtain ⟨m, hm⟩ : ∃ m, min el t.dec = m := ⟨_, rfl⟩
  have PE := (place_eq d0 e0 hm).1
  have m0 : 0 ≤ m := by omega
  have m1 : m ≤ t.dec := by omega
  have E : (if t.dec < el then t.dec else el) = m := by omega
  clear hm
  obtain ⟨q0, q1⟩ := div_le_self' (a := s * 1000000000) (b := i) (by omega) (by omega)
  have ER := ratio_low s0 i0
  obtain ⟨v0, v1⟩ := mul_bd A0 A1 (show 0 ≤ x + y by omega) xy (by omega)
  have W1 : IntKind.i64.wrap (x * 1000000000) = x * 1000000000 := IntWalk.i64_in _ (by omega)
  have W2 : IntKind.i64.wrap (x + y) = x + y := IntWalk.i64_in _ (by omega)
  have W3 : IntKind.i64.wrap (atI t.ak t.aa t.ab t.ac t.ad (placeI t el) * (x + y)) = atI t.ak t.aa t.ab t.ac t.ad (placeI t el) * (x + y) := IntWalk.i64_in _ (by omega)
  have W5 : IntKind.i64.wrap (s * 1000000000) = s * 1000000000 := IntWalk.i64_in _ (by omega)
  have Z2 : ¬ (i = 0) := by omega
  have T1 : (s * 1000000000).tdiv i = s * 1000000000 / i := Int.tdiv_eq_ediv_of_nonneg (by omega)
  have W6 : IntKind.i64.wrap (s * 1000000000 / i) = s * 1000000000 / i := IntWalk.i64_in _ (by omega)
  have R0 := (PB.new (t := t) (x := x) (y := y) (s := s) (w := w) (T := 47) (U := 33)).box.rng
  rcases (show decide (atI t.ak t.aa t.ab t.ac t.ad (placeI t el) * (x + y) ≤ x * 1000000000) = true ∧ decide (atI t.sk t.sa t.sb t.sc t.sd (placeI t el) ≤ ratioI s i) = true ∨ decide (atI t.ak t.aa t.ab t.ac t.ad (placeI t el) * (x + y) ≤ x * 1000000000) = true ∧ decide (atI t.sk t.sa t.sb t.sc t.sd (placeI t el) ≤ ratioI s i) = false ∨ decide (atI t.ak t.aa t.ab t.ac t.ad (placeI t el) * (x + y) ≤ x * 1000000000) = false by
    cases decide (atI t.ak t.aa t.ab t.ac t.ad (placeI t el) * (x + y) ≤ x * 1000000000) <;> cases decide (atI t.sk t.sa t.sb t.sc t.sd (placeI t el) ≤ ratioI s i) <;> simp) with ⟨qa, qb⟩ | ⟨qa, qb⟩ | qa
  all_goals
    go_enter Try.func14, Try.ntmps14
    go_wp2_with (first | (go_at_call 35; refine (ref10_Is' t _).mono ?_; rintro e w1 ⟨rfl, hb1⟩; have B := PB.new.below hb1; clear hb1; have z0 := B.d0; have z1 := B.d1; have z2 := B.d2) | (go_at_call 37; refine (law_fits _ _ _ _ _).mono ?_; rintro e w2 ⟨rfl, hb2⟩; have B2 := B.below hb2; clear hb2 z0 z1 z2 B; have z0 := B2.d0; have z1 := B2.d1; have z3 := rng_dec B2.box.rng) | fail)
    clear z0 z1 z3
    go_region_held3 (fun w' => w'.cell? ⟨w.heap.size, 6, none⟩ = some (.int .i64 t.ak) ∧ w'.cell? ⟨w.heap.size, 7, none⟩ = some (.int .i64 t.aa) ∧ w'.cell? ⟨w.heap.size, 8, none⟩ = some (.int .i64 t.ab) ∧ w'.cell? ⟨w.heap.size, 9, none⟩ = some (.int .i64 t.ac) ∧ w'.cell? ⟨w.heap.size, 10, none⟩ = some (.int .i64 t.ad) ∧ w'.cell? ⟨w.heap.size + 1, 0, none⟩ = some (.int .i64 x) ∧ w'.cell? ⟨w.heap.size + 1, 1, none⟩ = some (.int .i64 y) ∧ w'.cell? ⟨w.heap.size + 1, 2, none⟩ = some (.int .i64 s)) (first | exact B2.drew.exact | exact B2.exact | exact B3.exact | fail) (first | (go_at_call 42; refine (ref4_At _ _ _ _ _ _ _ ia).mono ?_; rintro e w3 ⟨rfl, hb3⟩; have B3 := B2.drew.below hb3) | fail)
    go_wp2_with fail
    go_region_held3 (fun w' => w'.cell? ⟨w.heap.size, 11, none⟩ = some (.int .i64 t.sk) ∧ w'.cell? ⟨w.heap.size, 12, none⟩ = some (.int .i64 t.sa) ∧ w'.cell? ⟨w.heap.size, 13, none⟩ = some (.int .i64 t.sb) ∧ w'.cell? ⟨w.heap.size, 14, none⟩ = some (.int .i64 t.sc) ∧ w'.cell? ⟨w.heap.size, 15, none⟩ = some (.int .i64 t.sd) ∧ w'.cell? ⟨w.heap.size + 1, 0, none⟩ = some (.int .i64 x) ∧ w'.cell? ⟨w.heap.size + 1, 1, none⟩ = some (.int .i64 y) ∧ w'.cell? ⟨w.heap.size + 1, 2, none⟩ = some (.int .i64 s)) (first | exact B3.drew.exact2 | exact B3.exact2 | exact B4.exact2 | fail) (first | (go_at_call 42; refine (ref4_At _ _ _ _ _ _ _ is).mono ?_; rintro e w4 ⟨rfl, hb4⟩; have B4 := B3.drew.below hb4) | fail)
    all_goals
      have z0 := B4.d0
      have z1 := B4.d1
      have z2 := B4.d2
      have z3 := B4.box.rng
      clear W1 W2 W3 W5 W6 T1 R0
      go_wp2_with (first | (go_at_call 40; refine (track_Passing' t _ _ _ _ _ _ h ht e0).mono ?_; rintro e w5 ⟨rfl, hb5⟩; have B5 := B4.below hb5; clear hb5 z0 z1 z2 z3) | (go_at_call 36; refine (known10 _).mono ?_; rintro e w6 ⟨rfl, hb6⟩; have B6 := B5.below hb6) | fail)
      go_ret
      exact ⟨rfl, B6.box.old⟩

set_option maxHeartbeats 1000000 in
theorem trackExact_one (t : Trk) (x y s i el : Int) (w : World) :
    Calls Try.prog 14 #[.agg t.list.toArray, tally x y s, .int .i64 i, .int .i64 el] w fun e w' => e = .returned (.bool true) ∧ Below w.heap.size w w' := by
  have LD : TrackAt w.heap.size t := ⟨trivial⟩
  by_cases hf : fits10B x y s i = true
  · obtain ⟨x0, y0, xy, s0, s1, i0, i1⟩ := fits10B_out hf
    have hq : (trackB t = true ∧ 1 ≤ i ∧ 0 < x + y ∧ 0 ≤ el ∧ el ≤ 1073741824) ∨ trackB t = false ∨ (trackB t = true ∧ (i == 0) = true) ∨ (trackB t = true ∧ (i == 0) = false ∧ (x + y == 0) = true) ∨ (trackB t = true ∧ (i == 0) = false ∧ (x + y == 0) = false ∧ decide (el < 0) = true) ∨ (trackB t = true ∧ (i == 0) = false ∧ (x + y == 0) = false ∧ decide (el < 0) = false ∧ decide (1073741824 < el) = true) := by
      cases trackB t <;> simp <;> omega
    rcases hq with ⟨ht, j0, j1, e0, e1⟩ | ht | ⟨ht, g1⟩ | ⟨ht, g1, g2⟩ | ⟨ht, g1, g2, g3⟩ | ⟨ht, g1, g2, g3, g4⟩
    · exact trackExact_yes t x y s i el w hf ht j0 j1 e0 e1
    all_goals
      have R0 := (PB.new (t := t) (x := x) (y := y) (s := s) (w := w) (T := 47) (U := 33)).box.rng
      go_enter Try.func14, Try.ntmps14
      go_wp2_with (first | (go_at_call 35; refine (ref10_Is' t _).mono ?_; rintro e w1 ⟨rfl, hb1⟩; have B := PB.new.below hb1; clear hb1; have z0 := B.d0; have z1 := B.d1; have z2 := B.d2) | (go_at_call 37; refine (law_fits _ _ _ _ _).mono ?_; rintro e w2 ⟨rfl, hb2⟩; have B2 := B.below hb2; clear hb2 z0 z1 z2; have z0 := B2.d0; have z1 := B2.d1; have z3 := rng_dec B2.box.rng) | fail)
      go_ret
      exact ⟨rfl, by first | exact B2.box.old | exact B.box.old⟩
  · have hf' : fits10B x y s i = false := by simpa using hf
    clear hf
    have R0 := (PB.new (t := t) (x := x) (y := y) (s := s) (w := w) (T := 47) (U := 33)).box.rng
    cases ht : trackB t
    all_goals
      go_enter Try.func14, Try.ntmps14
      go_wp2_with (first | (go_at_call 35; refine (ref10_Is' t _).mono ?_; rintro e w1 ⟨rfl, hb1⟩; have B := PB.new.below hb1; clear hb1; have z0 := B.d0; have z1 := B.d1; have z2 := B.d2) | (go_at_call 37; refine (law_fits _ _ _ _ _).mono ?_; rintro e w2 ⟨rfl, hb2⟩; have B2 := B.below hb2; clear hb2 z0 z1 z2) | fail)
      go_ret
      exact ⟨rfl, by first | exact B2.box.old | exact B.box.old⟩

end Go.Proofs.Ytgoomkailpnjaaa
