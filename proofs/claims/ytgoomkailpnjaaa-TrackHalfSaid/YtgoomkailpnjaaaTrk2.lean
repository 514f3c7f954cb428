/-
  Whether a track passes: the code's answer, the document's.
-/
import Derived.Test.YtgoomkailpnjaaaTrk1
namespace Go.Proofs.Ytgoomkailpnjaaa
open Go.RowKit
set_option linter.unusedVariables false

/-- A track and a tally lie in the first two blocks behind w0's. -/
structure PBox (w0 : World) (t : Trk) (x y s : Int) (w : World) : Prop where
  box : KBox w0 t w
  d0 : w.cell? ⟨w0.heap.size + 1, 0, none⟩ = some (.int .i64 x)
  d1 : w.cell? ⟨w0.heap.size + 1, 1, none⟩ = some (.int .i64 y)
  d2 : w.cell? ⟨w0.heap.size + 1, 2, none⟩ = some (.int .i64 s)
  lt : w0.heap.size + 1 < w.heap.size
theorem PBox.below {w0 : World} {t : Trk} {x y s : Int} {w w' : World} (h : PBox w0 t x y s w) (hb : Below w.heap.size w w') : PBox w0 t x y s w' :=
  ⟨h.box.below hb, ((bcell hb).1 _ _ h.lt).trans h.d0, ((bcell hb).1 _ _ h.lt).trans h.d1, ((bcell hb).1 _ _ h.lt).trans h.d2, Nat.lt_of_lt_of_le h.lt hb.size⟩
theorem PBox.new {t : Trk} {x y s : Int} {w : World} {T U : TypeId} : PBox w t x y s ((w.alloc (.cells t.cells T)).alloc (.cells #[.int .i64 x, .int .i64 y, .int .i64 s] U)) :=
  ⟨KBox.new.below (below_new (Below.refl _ _) _), by simp, by simp, by simp, by simp⟩

def placeI (t : Trk) (el : Int) : Int := ratioI (min el t.dec) t.dec
def passB (t : Trk) (x y s i el : Int) : Bool :=
  decide (atI t.ak t.aa t.ab t.ac t.ad (placeI t el) ≤ ratioI x (x + y)) && decide (atI t.sk t.sa t.sb t.sc t.sd (placeI t el) ≤ ratioI s i)

theorem trackB_out {t : Trk} (h : trackB t = true) : (1 ≤ t.dec ∧ t.dec ≤ 1000) ∧ isB t.ak t.aa t.ab t.ac t.ad = true ∧ isB t.sk t.sa t.sb t.sc t.sd = true := by
  simp only [trackB, Bool.and_eq_true] at h
  obtain ⟨⟨⟨⟨-, h1⟩, h2⟩, h3⟩, -⟩ := h
  exact ⟨withinB_out h1, h2, h3⟩

set_option maxHeartbeats 4000000 in
theorem track_Passing (t : Trk) (x y s i el : Int) (w : World) (h : Fits10 x y s i) (ht : trackB t = true) (e0 : 0 ≤ el) :
    Calls Try.prog 40 #[t.val, tally x y s, .int .i64 i, .int .i64 el] w fun e w' => e = .returned (.bool (passB t x y s i el)) ∧ Below w.heap.size w w' := by
  obtain ⟨⟨d0, d1⟩, ia, is⟩ := trackB_out ht
  have HP : Hid (passB t x y s i el = (decide (atI t.ak t.aa t.ab t.ac t.ad (placeI t el) ≤ ratioI x (x + y)) && decide (atI t.sk t.sa t.sb t.sc t.sd (placeI t el) ≤ ratioI s i))) := Lib.hid rfl
  have HM : Hid (ratioI (min el t.dec) t.dec = placeI t el) := Lib.hid rfl
  generalize hm : min el t.dec = m at HM
  have m0 : 0 ≤ m := by omega
  have m1 : m ≤ t.dec := by omega
  have E : (if t.dec < el then t.dec else el) = m := by omega
  clear hm
  have E2 := HM.out
  go_enter Try.func40, Try.ntmps40
  go_wp2_with (first | (go_at_call 51; refine (per_Ratio _ _ _ (by omega) (by omega) (by omega) (by omega)).mono ?_; rintro e w' ⟨rfl, rfl⟩) | (go_at_call 38; refine (track_Shares _ _ _ _ _ h).mono ?_; rintro e w1 ⟨rfl, hb1⟩; have B1 := PBox.new.below hb1; clear hb1; have x6 := B1.box.c6; have x7 := B1.box.c7; have x8 := B1.box.c8; have x9 := B1.box.c9; have x10 := B1.box.c10; have x11 := B1.box.c11; have x12 := B1.box.c12; have x13 := B1.box.c13; have x14 := B1.box.c14; have x15 := B1.box.c15) | fail)
  refine (per_At _ _ _ _ _ _ _ ia).mono ?_
  rintro e w2 ⟨rfl, hb2⟩
  have B2 := B1.below hb2
  clear hb2 x6 x7 x8 x9 x10 x11 x12 x13 x14 x15
  have x11 := B2.box.c11; have x12 := B2.box.c12; have x13 := B2.box.c13; have x14 := B2.box.c14; have x15 := B2.box.c15
  go_wp2_with (first | (go_at_call 53; refine (per_At _ _ _ _ _ _ _ is).mono ?_; rintro e w3 ⟨rfl, hb3⟩; have B3 := B2.below hb3) | fail)
  all_goals
    go_ret
    exact ⟨ret_bool (by rw [HP.out]; first | (simp [*]; done) | (simp; omega)), (by first | exact B3.box.old | exact B2.box.old)⟩

set_option maxHeartbeats 4000000 in
theorem ref10_Passing (t : Trk) (x y s i el : Int) (w : World) (h : Fits10 x y s i) (ht : trackB t = true) (e0 : 0 ≤ el) :
    Calls Try.prog 41 #[t.val, tally x y s, .int .i64 i, .int .i64 el] w fun e w' => e = .returned (.bool (passB t x y s i el)) ∧ Below w.heap.size w w' := by
  obtain ⟨⟨d0, d1⟩, ia, is⟩ := trackB_out ht
  have HP : Hid (passB t x y s i el = (decide (atI t.ak t.aa t.ab t.ac t.ad (placeI t el) ≤ ratioI x (x + y)) && decide (atI t.sk t.sa t.sb t.sc t.sd (placeI t el) ≤ ratioI s i))) := Lib.hid rfl
  have HM : Hid (ratioI (min el t.dec) t.dec = placeI t el) := Lib.hid rfl
  generalize hm : min el t.dec = m at HM
  have m0 : 0 ≤ m := by omega
  have m1 : m ≤ t.dec := by omega
  have E : (if t.dec < el then t.dec else el) = m := by omega
  clear hm
  have E2 := HM.out
  go_enter Try.func41, Try.ntmps41
  go_wp2_with (first | (go_at_call 52; refine (ref_Ratio _ _ _ (by omega) (by omega) (by omega) (by omega)).mono ?_; rintro e w' ⟨rfl, rfl⟩) | (go_at_call 39; refine (ref10_Shares _ _ _ _ _ h).mono ?_; rintro e w1 ⟨rfl, hb1⟩; have B1 := PBox.new.below hb1; clear hb1; have x6 := B1.box.c6; have x7 := B1.box.c7; have x8 := B1.box.c8; have x9 := B1.box.c9; have x10 := B1.box.c10; have x11 := B1.box.c11; have x12 := B1.box.c12; have x13 := B1.box.c13; have x14 := B1.box.c14; have x15 := B1.box.c15) | fail)
  refine (ref4_At _ _ _ _ _ _ _ ia).mono ?_
  rintro e w2 ⟨rfl, hb2⟩
  have B2 := B1.below hb2
  clear hb2 x6 x7 x8 x9 x10 x11 x12 x13 x14 x15
  have x11 := B2.box.c11; have x12 := B2.box.c12; have x13 := B2.box.c13; have x14 := B2.box.c14; have x15 := B2.box.c15
  go_wp2_with (first | (go_at_call 42; refine (ref4_At _ _ _ _ _ _ _ is).mono ?_; rintro e w3 ⟨rfl, hb3⟩; have B3 := B2.below hb3) | fail)
  all_goals
    go_ret
    exact ⟨ret_bool (by rw [HP.out]; first | (simp [*]; done) | (simp; omega)), (by first | exact B3.box.old | exact B2.box.old)⟩

end Go.Proofs.Ytgoomkailpnjaaa
