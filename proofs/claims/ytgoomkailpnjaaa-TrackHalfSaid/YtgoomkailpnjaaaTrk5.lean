/-
  The laws on tracks: behind the decision's end; with no votes; by whole numbers.
-/
import Derived.Test.YtgoomkailpnjaaaTrk4
namespace Go.Proofs.Ytgoomkailpnjaaa
open Go.RowKit
set_option linter.unusedVariables false
attribute [local go_sem ↓] loadAt_track
attribute [local go_sem] load_track

theorem place_still {t : Trk} {m : Int} (h : 0 ≤ m) : placeI t (t.dec + m) = placeI t t.dec := by
  unfold placeI
  rw [show min (t.dec + m) t.dec = min t.dec t.dec by omega]
theorem pass_still {t : Trk} {x y s i m : Int} (h : 0 ≤ m) : passB t x y s i (t.dec + m) = passB t x y s i t.dec := by
  unfold passB; rw [place_still h]

set_option maxHeartbeats 1000000 in
theorem trackStill_yes (t : Trk) (x y s i m : Int) (w : World) (hf : fits10B x y s i = true) (ht : trackB t = true) (m0 : 0 ≤ m) (m1 : m ≤ 536870912) :
    Calls Try.prog 16 #[.agg t.list.toArray, tally x y s, .int .i64 i, .int .i64 m] w fun e w' => e = .returned (.bool true) ∧ Below w.heap.size w w' := by
  have h := fits10B_out hf
  obtain ⟨⟨d0, d1⟩, -, -⟩ := trackB_out ht
  have d2 : 0 ≤ t.dec := by omega
  have d3 : 0 ≤ t.dec + m := by omega
  have g1 : decide (m < 0) = false := by simp; omega
  have g2 : decide (536870912 < m) = false := by simp; omega
  have LD : TrackAt w.heap.size t := ⟨trivial⟩
  have W1 : IntKind.i64.wrap (t.dec + m) = t.dec + m := IntWalk.i64_in _ (by omega)
  have PS := pass_still (t := t) (x := x) (y := y) (s := s) (i := i) m0
  have R0 := (PB.new (t := t) (x := x) (y := y) (s := s) (w := w) (T := 47) (U := 33)).box.rng
  go_enter Try.func16, Try.ntmps16
  go_wp2_with (first | (go_at_call 35; refine (ref10_Is' t _).mono ?_; rintro e w1 ⟨rfl, hb1⟩; have B := PB.new.below hb1; clear hb1; have z0 := B.d0; have z1 := B.d1; have z2 := B.d2) | (go_at_call 37; refine (law_fits _ _ _ _ _).mono ?_; rintro e w2 ⟨rfl, hb2⟩; have B2 := B.below hb2; clear hb2 z0 z1 z2 B) | fail)
  go_region_held3 (fun w' => w'.rangeAt w.heap.size 0 t.list ∧ w'.cell? ⟨w.heap.size, 3, none⟩ = some (.int .i64 t.dec) ∧ w'.cell? ⟨w.heap.size + 1, 0, none⟩ = some (.int .i64 x) ∧ w'.cell? ⟨w.heap.size + 1, 1, none⟩ = some (.int .i64 y) ∧ w'.cell? ⟨w.heap.size + 1, 2, none⟩ = some (.int .i64 s)) (first | exact ⟨B2.drew.box.rng, rng_dec B2.drew.box.rng, B2.drew.all.2⟩ | exact ⟨B2.box.rng, rng_dec B2.box.rng, B2.all.2⟩ | exact ⟨B3.box.rng, rng_dec B3.box.rng, B3.all.2⟩ | exact ⟨B4.box.rng, rng_dec B4.box.rng, B4.all.2⟩ | exact ⟨B5.box.rng, rng_dec B5.box.rng, B5.all.2⟩ | fail) (first | (go_at_call 40; refine (track_Passing' t _ _ _ _ _ _ h ht (by assumption)).mono ?_; rintro e wn ⟨rfl, hbn⟩; first | (have B4 := B3.below hbn) | (have B3 := B2.drew.below hbn)) | (go_at_call 36; refine (known10 _).mono ?_; rintro e wn ⟨rfl, hbn⟩; have B5 := B4.below hbn) | fail)
  all_goals go_wp2
  all_goals go_ret
  all_goals exact ⟨rfl, B5.box.old⟩

set_option maxHeartbeats 1000000 in
theorem trackStill_one (t : Trk) (x y s i m : Int) (w : World) :
    Calls Try.prog 16 #[.agg t.list.toArray, tally x y s, .int .i64 i, .int .i64 m] w fun e w' => e = .returned (.bool true) ∧ Below w.heap.size w w' := by
  have LD : TrackAt w.heap.size t := ⟨trivial⟩
  have hq : (trackB t = true ∧ fits10B x y s i = true ∧ 0 ≤ m ∧ m ≤ 536870912) ∨ trackB t = false ∨ (trackB t = true ∧ fits10B x y s i = false) ∨ (trackB t = true ∧ fits10B x y s i = true ∧ decide (m < 0) = true) ∨ (trackB t = true ∧ fits10B x y s i = true ∧ decide (m < 0) = false ∧ decide (536870912 < m) = true) := by
    cases trackB t <;> cases fits10B x y s i <;> simp <;> omega
  rcases hq with ⟨ht, hf, m0, m1⟩ | ht | ⟨ht, hf⟩ | ⟨ht, hf, g1⟩ | ⟨ht, hf, g1, g2⟩
  · exact trackStill_yes t x y s i m w hf ht m0 m1
  all_goals
    have R0 := (PB.new (t := t) (x := x) (y := y) (s := s) (w := w) (T := 47) (U := 33)).box.rng
    go_enter Try.func16, Try.ntmps16
    go_wp2_with (first | (go_at_call 35; refine (ref10_Is' t _).mono ?_; rintro e w1 ⟨rfl, hb1⟩; have B := PB.new.below hb1; clear hb1; have z0 := B.d0; have z1 := B.d1; have z2 := B.d2) | (go_at_call 37; refine (law_fits _ _ _ _ _).mono ?_; rintro e w2 ⟨rfl, hb2⟩; have B2 := B.below hb2; clear hb2 z0 z1 z2) | fail)
    go_ret
    exact ⟨rfl, by first | exact B2.box.old | exact B.box.old⟩

theorem place_eq {t : Trk} {el m : Int} (d0 : 1 ≤ t.dec) (e0 : 0 ≤ el) (hm : min el t.dec = m) : m * 1000000000 / t.dec = placeI t el ∧ 0 ≤ placeI t el ∧ placeI t el ≤ 1000000000 := by
  have h1 : m * 1000000000 / t.dec ≤ 1000000000 := Int.ediv_le_of_le_mul (by omega) (by omega)
  have h2 : 0 ≤ m * 1000000000 / t.dec := Int.ediv_nonneg (by omega) (by omega)
  have e : placeI t el = m * 1000000000 / t.dec := by unfold placeI ratioI; rw [hm, if_neg (by omega)]; omega
  rw [e]; omega

theorem pass_nobody {t : Trk} {i el : Int} (i0 : 0 ≤ i) (ha : isB t.ak t.aa t.ab t.ac t.ad = true) (hs : isB t.sk t.sa t.sb t.sc t.sd = true) :
    passB t 0 0 0 i el = ((atI t.ak t.aa t.ab t.ac t.ad (placeI t el) == 0) && (atI t.sk t.sa t.sb t.sc t.sd (placeI t el) == 0)) := by
  have h1 := at_bd ha (placeI t el)
  have h2 := at_bd hs (placeI t el)
  have r1 : ratioI 0 (0 + 0) = 0 := by decide
  have r2 : ratioI 0 i = 0 := by unfold ratioI; split <;> simp <;> omega
  unfold passB; rw [r1, r2]
  have e1 : decide (atI t.ak t.aa t.ab t.ac t.ad (placeI t el) ≤ 0) = (atI t.ak t.aa t.ab t.ac t.ad (placeI t el) == 0) := by rw [Bool.eq_iff_iff]; simp; omega
  have e2 : decide (atI t.sk t.sa t.sb t.sc t.sd (placeI t el) ≤ 0) = (atI t.sk t.sa t.sb t.sc t.sd (placeI t el) == 0) := by rw [Bool.eq_iff_iff]; simp; omega
  rw [e1, e2]

theorem rng_app {b : Nat} {t : Trk} {w : World} (h : w.rangeAt b 0 t.list) : w.cell? ⟨b, 6, none⟩ = some (.int .i64 t.ak) ∧ w.cell? ⟨b, 7, none⟩ = some (.int .i64 t.aa) ∧ w.cell? ⟨b, 8, none⟩ = some (.int .i64 t.ab) ∧ w.cell? ⟨b, 9, none⟩ = some (.int .i64 t.ac) ∧ w.cell? ⟨b, 10, none⟩ = some (.int .i64 t.ad) := ⟨h 6 _ rfl, h 7 _ rfl, h 8 _ rfl, h 9 _ rfl, h 10 _ rfl⟩
theorem rng_sup {b : Nat} {t : Trk} {w : World} (h : w.rangeAt b 0 t.list) : w.cell? ⟨b, 11, none⟩ = some (.int .i64 t.sk) ∧ w.cell? ⟨b, 12, none⟩ = some (.int .i64 t.sa) ∧ w.cell? ⟨b, 13, none⟩ = some (.int .i64 t.sb) ∧ w.cell? ⟨b, 14, none⟩ = some (.int .i64 t.sc) ∧ w.cell? ⟨b, 15, none⟩ = some (.int .i64 t.sd) := ⟨h 11 _ rfl, h 12 _ rfl, h 13 _ rfl, h 14 _ rfl, h 15 _ rfl⟩

set_option maxHeartbeats 1000000 in
theorem trackNobody_yes (t : Trk) (i el : Int) (w : World) (ht : trackB t = true) (i0 : 1 ≤ i) (i1 : i ≤ 8589934592) (e0 : 0 ≤ el) (e1 : el ≤ 1073741824) :
    Calls Try.prog 15 #[.agg t.list.toArray, .int .i64 i, .int .i64 el] w fun e w' => e = .returned (.bool true) ∧ Below w.heap.size w w' := by
  have h : Fits10 0 0 0 i := by unfold Fits10; omega
  obtain ⟨⟨d0, d1⟩, ia, is⟩ := trackB_out ht
  have g1 : decide (i < 1) = false := by simp; omega
  have g2 : decide (8589934592 < i) = false := by simp; omega
  have g3 : decide (el < 0) = false := by simp; omega
  have g4 : decide (1073741824 < el) = false := by simp; omega
  have LD : TrackAt w.heap.size t := ⟨trivial⟩
  have PN := pass_nobody (el := el) (show 0 ≤ i by omega) ia is
  obtain ⟨m, hm⟩ : ∃ m, min el t.dec = m := ⟨_, rfl⟩
  have PE := (place_eq d0 e0 hm).1
  have m0 : 0 ≤ m := by omega
  have m1 : m ≤ t.dec := by omega
  have E : (if t.dec < el then t.dec else el) = m := by omega
  clear hm
  have B0 : RBox w w.heap.size t.list (w.alloc (.cells t.list.toArray 47)) := RBox.new (Below.refl _ _)
  have R0 := B0.rng
  rcases (show (atI t.ak t.aa t.ab t.ac t.ad (placeI t el) == 0) = true ∧ (atI t.sk t.sa t.sb t.sc t.sd (placeI t el) == 0) = true ∨ (atI t.ak t.aa t.ab t.ac t.ad (placeI t el) == 0) = true ∧ (atI t.sk t.sa t.sb t.sc t.sd (placeI t el) == 0) = false ∨ (atI t.ak t.aa t.ab t.ac t.ad (placeI t el) == 0) = false by
    cases (atI t.ak t.aa t.ab t.ac t.ad (placeI t el) == 0) <;> cases (atI t.sk t.sa t.sb t.sc t.sd (placeI t el) == 0) <;> simp) with ⟨q1, q2⟩ | ⟨q1, q2⟩ | q1
  all_goals
    go_enter Try.func15, Try.ntmps15
    go_wp2_with (first | (go_at_call 35; refine (ref10_Is' t _).mono ?_; rintro e w1 ⟨rfl, hb1⟩; have B := B0.below hb1; clear hb1; have z0 := rng_dec B.rng; obtain ⟨a0, a1, a2, a3, a4⟩ := rng_app B.rng) | fail)
    refine (ref4_At _ _ _ _ _ _ _ ia).mono ?_
    rintro e w2 ⟨rfl, hb2⟩
    have B2 := B.below hb2
    clear hb2 z0 a0 a1 a2 a3 a4 B
    obtain ⟨s0, s1, s2, s3, s4⟩ := rng_sup B2.rng
    have R2 := B2.rng
    go_wp2_with (first | (go_at_call 42; refine (ref4_At _ _ _ _ _ _ _ is).mono ?_; rintro e w3 ⟨rfl, hb3⟩; have B3 := B2.below hb3; clear hb3 R2 s0 s1 s2 s3 s4; have R3 := B3.rng) | (go_at_call 40; refine (track_Passing' t _ _ _ _ _ _ h ht e0).mono ?_; rintro e wn ⟨rfl, hbn⟩; first | (have B4 := B3.below hbn) | (have B4 := B2.below hbn)) | (go_at_call 36; refine (known10 _).mono ?_; rintro e wn ⟨rfl, hbn⟩; have B5 := B4.below hbn) | fail)
    go_ret
    exact ⟨rfl, B5.old⟩

set_option maxHeartbeats 1000000 in
theorem trackNobody_one (t : Trk) (i el : Int) (w : World) :
    Calls Try.prog 15 #[.agg t.list.toArray, .int .i64 i, .int .i64 el] w fun e w' => e = .returned (.bool true) ∧ Below w.heap.size w w' := by
  have LD : TrackAt w.heap.size t := ⟨trivial⟩
  have B0 : RBox w w.heap.size t.list (w.alloc (.cells t.list.toArray 47)) := RBox.new (Below.refl _ _)
  have R0 := B0.rng
  have hq : (trackB t = true ∧ 1 ≤ i ∧ i ≤ 8589934592 ∧ 0 ≤ el ∧ el ≤ 1073741824) ∨ trackB t = false ∨ (trackB t = true ∧ decide (i < 1) = true) ∨ (trackB t = true ∧ decide (i < 1) = false ∧ decide (8589934592 < i) = true) ∨ (trackB t = true ∧ decide (i < 1) = false ∧ decide (8589934592 < i) = false ∧ decide (el < 0) = true) ∨ (trackB t = true ∧ decide (i < 1) = false ∧ decide (8589934592 < i) = false ∧ decide (el < 0) = false ∧ decide (1073741824 < el) = true) := by
    cases trackB t <;> simp <;> omega
  rcases hq with ⟨ht, i0, i1, e0, e1⟩ | ht | ⟨ht, g1⟩ | ⟨ht, g1, g2⟩ | ⟨ht, g1, g2, g3⟩ | ⟨ht, g1, g2, g3, g4⟩
  · exact trackNobody_yes t i el w ht i0 i1 e0 e1
  all_goals
    go_enter Try.func15, Try.ntmps15
    go_wp2_with (first | (go_at_call 35; refine (ref10_Is' t _).mono ?_; rintro e w1 ⟨rfl, hb1⟩; have B := B0.below hb1) | fail)
    go_ret
    exact ⟨rfl, B.old⟩

end Go.Proofs.Ytgoomkailpnjaaa
