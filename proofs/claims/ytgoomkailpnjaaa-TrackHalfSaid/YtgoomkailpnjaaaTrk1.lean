/-
  Contracts of tracks: whether one may be, the shares of a tally, whether it passes; the code's and the document's.
-/
import Derived.Test.YtgoomkailpnjaaaCur2
import Derived.IntWalk
namespace Go.Proofs.Ytgoomkailpnjaaa
open Go.RowKit
set_option linter.unusedVariables false

/-- A track's numbers, in their order. -/
structure Trk where
  most : Int
  dep : Int
  prep : Int
  dec : Int
  conf : Int
  en : Int
  ak : Int
  aa : Int
  ab : Int
  ac : Int
  ad : Int
  sk : Int
  sa : Int
  sb : Int
  sc : Int
  sd : Int
  cap : Int
  rank : Int

abbrev Trk.cells (t : Trk) : Array Value := #[.int .i64 t.most, .int .i64 t.dep, .int .i64 t.prep, .int .i64 t.dec, .int .i64 t.conf, .int .i64 t.en, .int .i64 t.ak, .int .i64 t.aa, .int .i64 t.ab, .int .i64 t.ac, .int .i64 t.ad, .int .i64 t.sk, .int .i64 t.sa, .int .i64 t.sb, .int .i64 t.sc, .int .i64 t.sd, .int .i64 t.cap, .int .i64 t.rank]
abbrev Trk.val (t : Trk) : Value := .agg t.cells

def trackB (t : Trk) : Bool :=
  withinB t.most 1 12 && withinB t.dep 0 1073741824 && withinB t.cap 0 1073741824 && withinB t.prep 0 1000 && withinB t.conf 0 1000 && withinB t.en 0 1000 && withinB t.dec 1 1000 &&
    isB t.ak t.aa t.ab t.ac t.ad && isB t.sk t.sa t.sb t.sc t.sd && withinB t.rank 0 2

/-- A track lies in the first block behind w0's. -/
structure KBox (w0 : World) (t : Trk) (w : World) : Prop where
  c0 : w.cell? ⟨w0.heap.size, 0, none⟩ = some (.int .i64 t.most)
  c1 : w.cell? ⟨w0.heap.size, 1, none⟩ = some (.int .i64 t.dep)
  c2 : w.cell? ⟨w0.heap.size, 2, none⟩ = some (.int .i64 t.prep)
  c3 : w.cell? ⟨w0.heap.size, 3, none⟩ = some (.int .i64 t.dec)
  c4 : w.cell? ⟨w0.heap.size, 4, none⟩ = some (.int .i64 t.conf)
  c5 : w.cell? ⟨w0.heap.size, 5, none⟩ = some (.int .i64 t.en)
  c6 : w.cell? ⟨w0.heap.size, 6, none⟩ = some (.int .i64 t.ak)
  c7 : w.cell? ⟨w0.heap.size, 7, none⟩ = some (.int .i64 t.aa)
  c8 : w.cell? ⟨w0.heap.size, 8, none⟩ = some (.int .i64 t.ab)
  c9 : w.cell? ⟨w0.heap.size, 9, none⟩ = some (.int .i64 t.ac)
  c10 : w.cell? ⟨w0.heap.size, 10, none⟩ = some (.int .i64 t.ad)
  c11 : w.cell? ⟨w0.heap.size, 11, none⟩ = some (.int .i64 t.sk)
  c12 : w.cell? ⟨w0.heap.size, 12, none⟩ = some (.int .i64 t.sa)
  c13 : w.cell? ⟨w0.heap.size, 13, none⟩ = some (.int .i64 t.sb)
  c14 : w.cell? ⟨w0.heap.size, 14, none⟩ = some (.int .i64 t.sc)
  c15 : w.cell? ⟨w0.heap.size, 15, none⟩ = some (.int .i64 t.sd)
  c16 : w.cell? ⟨w0.heap.size, 16, none⟩ = some (.int .i64 t.cap)
  c17 : w.cell? ⟨w0.heap.size, 17, none⟩ = some (.int .i64 t.rank)
  lt : w0.heap.size < w.heap.size
  old : Below w0.heap.size w0 w
theorem KBox.below {w0 : World} {t : Trk} {w w' : World} (h : KBox w0 t w) (hb : Below w.heap.size w w') : KBox w0 t w' := by
  obtain ⟨hc, _⟩ := bcell hb
  exact ⟨(hc _ _ h.lt).trans h.c0, (hc _ _ h.lt).trans h.c1, (hc _ _ h.lt).trans h.c2, (hc _ _ h.lt).trans h.c3, (hc _ _ h.lt).trans h.c4, (hc _ _ h.lt).trans h.c5, (hc _ _ h.lt).trans h.c6, (hc _ _ h.lt).trans h.c7, (hc _ _ h.lt).trans h.c8, (hc _ _ h.lt).trans h.c9,
    (hc _ _ h.lt).trans h.c10, (hc _ _ h.lt).trans h.c11, (hc _ _ h.lt).trans h.c12, (hc _ _ h.lt).trans h.c13, (hc _ _ h.lt).trans h.c14, (hc _ _ h.lt).trans h.c15, (hc _ _ h.lt).trans h.c16, (hc _ _ h.lt).trans h.c17, Nat.lt_of_lt_of_le h.lt hb.size, h.old.trans (hb.mono h.old.size)⟩
theorem KBox.new {t : Trk} {w : World} {T : TypeId} : KBox w t (w.alloc (.cells t.cells T)) := by
  constructor
  case old => exact (Below.refl _ _).alloc (Nat.le_refl _) _
  all_goals simp

theorem track_blocks (n l : Int) (w : World) :
    Calls Try.prog 47 #[.int .i64 n, .int .i64 l] w fun e w' => e = .returned (.bool (withinB n l 1000)) ∧ w = w' := by
  go_enter Try.func47, Try.ntmps47
  go_wp2_with (go_at_call 46; refine (bound_Within _ _ _ _).mono ?_; rintro e w' ⟨rfl, rfl⟩)
  go_ret
  exact ⟨rfl, rfl⟩

theorem ref10_in (n l m : Int) (w : World) :
    Calls Try.prog 49 #[.int .i64 n, .int .i64 l, .int .i64 m] w fun e w' => e = .returned (.bool (withinB n l m)) ∧ w = w' := by
  by_cases h0 : l ≤ n
  · go_enter Try.func49, Try.ntmps49
    go_wp2
    go_ret
    exact ⟨ret_bool (by simp [withinB, h0]), rfl⟩
  · go_enter Try.func49, Try.ntmps49
    go_wp2
    go_ret
    exact ⟨ret_bool (by simp [withinB]; omega), rfl⟩

set_option maxHeartbeats 4000000 in
theorem track_Is (t : Trk) (w : World) :
    Calls Try.prog 34 #[t.val] w fun e w' => e = .returned (.bool (trackB t)) ∧ Below w.heap.size w w' := by
  go_enter Try.func34, Try.ntmps34
  go_wp2_with (first | (go_at_call 46; refine (bound_Within _ _ _ _).mono ?_; rintro e w' ⟨rfl, rfl⟩) | (go_at_call 45; refine (bound_Balance _ _).mono ?_; rintro e w' ⟨rfl, rfl⟩) | (go_at_call 47; refine (track_blocks _ _ _).mono ?_; rintro e w' ⟨rfl, rfl⟩) | (go_at_call 48; refine (per_Is _ _ _ _ _ _).mono ?_; rintro e w1 ⟨rfl, hb1⟩; first | (have B2 := B1.below hb1; clear hb1; have y17 := B2.c17) | (have B1 := (KBox.new (t := t)).below hb1; clear hb1; have x11 := B1.c11; have x12 := B1.c12; have x13 := B1.c13; have x14 := B1.c14; have x15 := B1.c15; have x16 := B1.c16; have x17 := B1.c17)) | fail)
  all_goals
    go_ret
    exact ⟨ret_bool (by simp [trackB, *]), (by first | exact B2.old | exact B1.old | exact below_new (Below.refl _ _) _)⟩

set_option maxHeartbeats 4000000 in
theorem ref10_Is (t : Trk) (w : World) :
    Calls Try.prog 35 #[t.val] w fun e w' => e = .returned (.bool (trackB t)) ∧ Below w.heap.size w w' := by
  go_enter Try.func35, Try.ntmps35
  go_wp2_with (first | (go_at_call 49; refine (ref10_in _ _ _ _).mono ?_; rintro e w' ⟨rfl, rfl⟩) | (go_at_call 50; refine (ref4_Is _ _ _ _ _ _).mono ?_; rintro e w1 ⟨rfl, hb1⟩; first | (have B2 := B1.below hb1; clear hb1; have y17 := B2.c17) | (have B1 := (KBox.new (t := t)).below hb1; clear hb1; have x11 := B1.c11; have x12 := B1.c12; have x13 := B1.c13; have x14 := B1.c14; have x15 := B1.c15; have x16 := B1.c16; have x17 := B1.c17)) | fail)
  all_goals
    go_ret
    exact ⟨ret_bool (by simp [trackB, *]), (by first | exact B2.old | exact B1.old | exact below_new (Below.refl _ _) _)⟩

/-- A tally that may be asked. -/
def Fits10 (x y s issued : Int) : Prop := 0 ≤ x ∧ 0 ≤ y ∧ x + y ≤ 8589934592 ∧ 0 ≤ s ∧ s ≤ 8589934592 ∧ 0 ≤ issued ∧ issued ≤ 8589934592

theorem track_Shares (x y s i : Int) (w : World) (h : Fits10 x y s i) :
    Calls Try.prog 38 #[tally x y s, .int .i64 i] w fun e w' => e = .returned (.tuple #[.int .i64 (ratioI x (x + y)), .int .i64 (ratioI s i)]) ∧ Below w.heap.size w w' := by
  obtain ⟨x0, y0, xy, s0, s1, i0, i1⟩ := h
  have W1 : IntKind.i64.wrap (x + y) = x + y := IntWalk.i64_in _ (by omega)
  go_enter Try.func38, Try.ntmps38
  go_wp2_with fail
  go_quiet ((go_at_call 51; exact Calls.quiet_of_same ((per_Ratio _ _ _ (by omega) (by omega) (by omega) (by omega)).mono fun e w' h => ⟨h.1, h.2.symm⟩)))
  go_wp2
  go_ret2
  exact ⟨rfl, below_dn (below_new (Below.refl _ _) _) _⟩

theorem ref10_Shares (x y s i : Int) (w : World) (h : Fits10 x y s i) :
    Calls Try.prog 39 #[tally x y s, .int .i64 i] w fun e w' => e = .returned (.tuple #[.int .i64 (ratioI x (x + y)), .int .i64 (ratioI s i)]) ∧ Below w.heap.size w w' := by
  obtain ⟨x0, y0, xy, s0, s1, i0, i1⟩ := h
  have W1 : IntKind.i64.wrap (x + y) = x + y := IntWalk.i64_in _ (by omega)
  go_enter Try.func39, Try.ntmps39
  go_wp2_with fail
  go_quiet ((go_at_call 52; exact Calls.quiet_of_same ((ref_Ratio _ _ _ (by omega) (by omega) (by omega) (by omega)).mono fun e w' h => ⟨h.1, h.2.symm⟩)))
  go_wp2
  go_ret2
  exact ⟨rfl, below_dn (below_new (Below.refl _ _) _) _⟩

end Go.Proofs.Ytgoomkailpnjaaa
