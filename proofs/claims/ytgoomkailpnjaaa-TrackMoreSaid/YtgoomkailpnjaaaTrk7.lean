/-
  The laws on tracks: what passes passes later, with more behind it; with a threshold of one half.
-/
import Derived.Test.YtgoomkailpnjaaaTrk5
namespace Go.Proofs.Ytgoomkailpnjaaa
open Go.RowKit
set_option linter.unusedVariables false
attribute [local go_sem ↓] loadAt_track
attribute [local go_sem] load_track

theorem ratio_mono {x y x' y' : Int} (x0 : 0 ≤ x) (y0 : 0 ≤ y') (hx : x ≤ x') (hy : y' ≤ y) : ratioI x (x + y) ≤ ratioI x' (x' + y') := by
  by_cases h : x + y = 0
  · have := ratio_bd (a := x') (b := x' + y') (by omega) (by omega)
    unfold ratioI at *; rw [if_pos h]; omega
  · by_cases h' : x' + y' = 0
    · have e1 : x = 0 := by omega
      subst e1
      unfold ratioI; rw [if_neg h, if_pos h']; simp; omega
    · have hb := (ratio_bd (a := x) (b := x + y) x0 (by omega)).2
      rw [ratio_iff (by omega) hb]
      have h1 : ratioI x (x + y) * (x + y) ≤ x * 1000000000 := (ratio_iff (by omega) hb).1 (Int.le_refl _)
      have h0 := (ratio_bd (a := x) (b := x + y) x0 (by omega)).1
      generalize ratioI x (x + y) = q at *
      -- q (x' + y') (x + y) is at most x B (x' + y'), that at most x' B (x + y)
      have s1 : q * (x + y) * (x' + y') ≤ x * 1000000000 * (x' + y') := Int.mul_le_mul_of_nonneg_right h1 (by omega)
      have s2 : x * (x' + y') ≤ x' * (x + y) := by
        have a1 := Int.mul_le_mul_of_nonneg_left hy x0
        have a2 := Int.mul_le_mul_of_nonneg_right hx (show 0 ≤ y by omega)
        have e1 : x * (x' + y') = x * x' + x * y' := Int.mul_add _ _ _
        have e2 : x' * (x + y) = x * x' + x' * y := by rw [Int.mul_add, Int.mul_comm x' x]
        omega
      have s3 : x * 1000000000 * (x' + y') ≤ x' * 1000000000 * (x + y) := by
        have e1 : x * 1000000000 * (x' + y') = x * (x' + y') * 1000000000 := by rw [Int.mul_assoc, Int.mul_comm 1000000000, ← Int.mul_assoc]
        have e2 : x' * 1000000000 * (x + y) = x' * (x + y) * 1000000000 := by rw [Int.mul_assoc, Int.mul_comm 1000000000, ← Int.mul_assoc]
        rw [e1, e2]; omega
      have e3 : q * (x + y) * (x' + y') = q * (x' + y') * (x + y) := by rw [Int.mul_assoc, Int.mul_comm (x + y), ← Int.mul_assoc]
      rw [e3] at s1
      exact Int.le_of_mul_le_mul_right (Int.le_trans s1 s3) (by omega)

theorem ratio_mono1 {s s' i : Int} (s0 : 0 ≤ s) (h : s ≤ s') (i0 : 0 ≤ i) : ratioI s i ≤ ratioI s' i := by
  unfold ratioI
  split
  · omega
  · have := Int.ediv_le_ediv (show 0 < i by omega) (show s * 1000000000 ≤ s' * 1000000000 by omega)
    omega

theorem place_mono {t : Trk} {el el' : Int} (d0 : 1 ≤ t.dec) (e0 : 0 ≤ el) (h : el ≤ el') : placeI t el ≤ placeI t el' := by
  unfold placeI; exact ratio_mono1 (by omega) (by omega) (by omega)

theorem pass_mono {t : Trk} {x y s x' y' s' i el el' : Int} (ht : trackB t = true) (x0 : 0 ≤ x) (y0 : 0 ≤ y') (s0 : 0 ≤ s) (hx : x ≤ x') (hy : y' ≤ y) (hs : s ≤ s') (i0 : 0 ≤ i) (e0 : 0 ≤ el) (he : el ≤ el') (h : passB t x y s i el = true) : passB t x' y' s' i el' = true := by
  obtain ⟨⟨d0, d1⟩, ia, is⟩ := trackB_out ht
  have hp := place_mono d0 e0 he
  have f1 := at_falls ia hp
  have f2 := at_falls is hp
  have r1 := ratio_mono x0 y0 hx hy
  have r2 := ratio_mono1 s0 hs i0
  simp only [passB, Bool.and_eq_true, decide_eq_true_eq] at *
  omega

/-- A tally lies in block b. -/
structure TB (b : Nat) (x y s : Int) (w : World) : Prop where
  d0 : w.cell? ⟨b, 0, none⟩ = some (.int .i64 x)
  d1 : w.cell? ⟨b, 1, none⟩ = some (.int .i64 y)
  d2 : w.cell? ⟨b, 2, none⟩ = some (.int .i64 s)
  lt : b < w.heap.size
theorem TB.below {b : Nat} {x y s : Int} {w w' : World} (h : TB b x y s w) (hb : Below w.heap.size w w') : TB b x y s w' :=
  ⟨((bcell hb).1 _ _ h.lt).trans h.d0, ((bcell hb).1 _ _ h.lt).trans h.d1, ((bcell hb).1 _ _ h.lt).trans h.d2, Nat.lt_of_lt_of_le h.lt hb.size⟩
theorem TB.new {x y s : Int} {w : World} {T : TypeId} : TB w.heap.size x y s (w.alloc (.cells #[.int .i64 x, .int .i64 y, .int .i64 s] T)) := ⟨by simp, by simp, by simp, by simp⟩

/-- The bounds of the law's numbers, but for the track and the tallies. -/
def MoreOK (el la ay na su yn : Int) : Prop := 0 ≤ el ∧ el ≤ 1073741824 ∧ 0 ≤ la ∧ la ≤ 1048576 ∧ 0 ≤ ay ∧ ay ≤ 1048576 ∧ 0 ≤ na ∧ na ≤ yn ∧ 0 ≤ su ∧ su ≤ 1048576

set_option maxHeartbeats 2000000 in
theorem trackMore_yes (t : Trk) (x y s i el la ay na su : Int) (w : World) (ht : trackB t = true) (hm : MoreOK el la ay na su y) (hy1 : y ≤ 9223372036854775807) :
    Calls Try.prog 13 #[.agg t.list.toArray, tally x y s, .int .i64 i, .int .i64 el, .int .i64 la, .int .i64 ay, .int .i64 na, .int .i64 su] w fun e w' => e = .returned (.bool true) ∧ Below w.heap.size w w' := by
  obtain ⟨e0, e1, l0, l1, a0, a1, n0, n1, u0, u1⟩ := hm
  have g1 : decide (el < 0) = false := by simp; omega
  have g2 : decide (1073741824 < el) = false := by simp; omega
  have g3 : decide (la < 0) = false := by simp; omega
  have g4 : decide (1048576 < la) = false := by simp; omega
  have g5 : decide (ay < 0) = false := by simp; omega
  have g6 : decide (1048576 < ay) = false := by simp; omega
  have g7 : decide (na < 0) = false := by simp; omega
  have g8 : decide (y < na) = false := by simp; omega
  have g9 : decide (su < 0) = false := by simp; omega
  have ga : decide (1048576 < su) = false := by simp; omega
  have LD : TrackAt w.heap.size t := ⟨trivial⟩
  have R0 := (PB.new (t := t) (x := x) (y := y) (s := s) (w := w) (T := 47) (U := 33)).box.rng
  obtain ⟨mx, hmx⟩ : ∃ mx, max 0 x = mx := ⟨_, rfl⟩
  obtain ⟨nx, hnx⟩ : ∃ nx, min 8589934592 mx = nx := ⟨_, rfl⟩
  obtain ⟨ms, hms⟩ : ∃ ms, max 0 s = ms := ⟨_, rfl⟩
  obtain ⟨ns, hns⟩ : ∃ ns, min 8589934592 ms = ns := ⟨_, rfl⟩
  obtain ⟨el', hel⟩ : ∃ el', min 1073741824 (el + la) = el' := ⟨_, rfl⟩
  have nx0 : 0 ≤ nx := by omega
  have nx1 : nx ≤ 8589934592 := by omega
  have ns0 : 0 ≤ ns := by omega
  have ns1 : ns ≤ 8589934592 := by omega
  have el0 : 0 ≤ el' := by omega
  have el1 : el' ≤ 1073741824 := by omega
  have el2 : el ≤ el' := by omega
  have E1 : (if 0 < x then x else 0) = mx := by omega
  have E2 : (if mx < 8589934592 then mx else 8589934592) = nx := by omega
  have E3 : (if 0 < s then s else 0) = ms := by omega
  have E4 : (if ms < 8589934592 then ms else 8589934592) = ns := by omega
  have E5 : (if el + la < 1073741824 then el + la else 1073741824) = el' := by omega
  have PM : Hid (∀ (_ : fits10B x y s i = true), passB t x y s i el = true → passB t (nx + ay) (y - na) (ns + su) i el' = true) := by
    intro hf hp
    obtain ⟨x0, y0, xy, s0, s1, i0, i1⟩ := fits10B_out hf
    exact pass_mono ht x0 (by omega) s0 (by omega) (by omega) (by omega) i0 e0 el2 hp
  clear hmx hnx hms hns hel
  go_enter Try.func13, Try.ntmps13
  go_wp2_with (first | (go_at_call 35; refine (ref10_Is' t _).mono ?_; rintro e w1 ⟨rfl, hb1⟩; have B := PB.new.below hb1; clear hb1 R0; have z0 := B.d0; have z1 := B.d1; have z2 := B.d2; have L2 := B.lt; have L3 := Nat.ne_of_lt B.lt) | fail)
  have B1 := B.below (below_new (Below.refl _ _) (.cells #[.int .i64 (nx + ay), .int .i64 (y - na), .int .i64 (ns + su)] 33))
  have C1 : TB w1.heap.size (nx + ay) (y - na) (ns + su) (w1.alloc (.cells #[.int .i64 (nx + ay), .int .i64 (y - na), .int .i64 (ns + su)] 33)) := TB.new
  clear z0 z1 z2 L2 L3 B
  refine (law_fits _ _ _ _ _).mono ?_
  rintro e w2 ⟨rfl, hb2⟩
  have B2 := B1.below hb2
  have C2 := C1.below hb2
  clear hb2 B1 C1
  have z0 := C2.d0
  have z1 := C2.d1
  have z2 := C2.d2
  cases hf : fits10B x y s i
  · go_wp2_with fail
    go_ret
    exact ⟨rfl, B2.box.old⟩
  cases hf2 : fits10B (nx + ay) (y - na) (ns + su) i
  · go_wp2_with (first | (go_at_call 37; refine (law_fits _ _ _ _ _).mono ?_; rintro e w3 ⟨rfl, hb3⟩; have B3 := B2.below hb3) | fail)
    go_ret
    exact ⟨rfl, B3.box.old⟩
  have PM' := PM.out hf
  have h := fits10B_out hf
  have h2 := fits10B_out hf2
  go_wp2_with (first | (go_at_call 37; refine (law_fits _ _ _ _ _).mono ?_; rintro e w3 ⟨rfl, hb3⟩; have B3 := B2.below hb3; have C3 := C2.below hb3; clear hb3 B2 C2 z0 z1 z2; have z0 := B3.d0; have z1 := B3.d1; have z2 := B3.d2; have z3 := B3.box.rng) | fail)
  refine (track_Passing' t _ _ _ _ _ _ h ht e0).mono ?_
  rintro e w4 ⟨rfl, hb4⟩
  have B4 := B3.below hb4
  have C4 := C3.below hb4
  clear hb4 B3 C3 z0 z1 z2 z3
  have z0 := C4.d0
  have z1 := C4.d1
  have z2 := C4.d2
  have z3 := B4.box.rng
  cases hp : passB t x y s i el
  · clear PM'
    go_wp2_with (first | (go_at_call 36; refine (known10 _).mono ?_; rintro e w6 ⟨rfl, hb6⟩; have B6 := B4.below hb6) | fail)
    go_ret
    exact ⟨rfl, B6.box.old⟩
  · have hp2 := PM' hp
    clear PM'
    go_wp2_with (first | (go_at_call 40; refine (track_Passing' t _ _ _ _ _ _ h2 ht el0).mono ?_; rintro e w5 ⟨rfl, hb5⟩; have B5 := B4.below hb5) | (go_at_call 36; refine (known10 _).mono ?_; rintro e w6 ⟨rfl, hb6⟩; have B6 := B5.below hb6) | fail)
    go_ret
    exact ⟨rfl, B6.box.old⟩

end Go.Proofs.Ytgoomkailpnjaaa
