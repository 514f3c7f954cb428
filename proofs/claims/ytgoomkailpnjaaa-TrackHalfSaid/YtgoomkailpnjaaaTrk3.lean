/-
  The laws on tracks: whether one may be; every share and every answer.
-/
import Derived.Test.YtgoomkailpnjaaaTrk2
import Derived.Deep.MidRow
import Derived.Deep.WholeRow
namespace Go.Proofs.Ytgoomkailpnjaaa
open Go.RowKit
set_option linter.unusedVariables false

/-- A row of cells lies in block b; what was there in w0 is as it was. -/
structure RBox (w0 : World) (b : Nat) (l : List Value) (w : World) : Prop where
  rng : w.rangeAt b 0 l
  lt : b < w.heap.size
  old : Below w0.heap.size w0 w
theorem RBox.below {w0 : World} {b : Nat} {l : List Value} {w w' : World} (h : RBox w0 b l w) (hb : Below w.heap.size w w') : RBox w0 b l w' :=
  ⟨fun j v hv => ((bcell hb).1 _ _ h.lt).trans (h.rng j v hv), Nat.lt_of_lt_of_le h.lt hb.size, h.old.trans (hb.mono h.old.size)⟩
theorem RBox.drew {w0 : World} {b : Nat} {l : List Value} {w : World} (h : RBox w0 b l w) : RBox w0 b l w.drew := ⟨(World.rangeAt_drew _ _ _ _).2 h.rng, h.lt, h.old.drew⟩
theorem RBox.new {l : List Value} {w0 w : World} {T : TypeId} (h : Below w0.heap.size w0 w) : RBox w0 w.heap.size l (w.alloc (.cells l.toArray T)) := by
  refine ⟨fun j v hv => ?_, by simp, below_new h _⟩
  rw [cell_of_row _ _ _ _ _ _ (heap_alloc_last w (.cells l.toArray T))]
  have hv' : l[j]? = some v := hv
  simpa using hv

/-- A track's cells, as a list that nothing looks into. -/
def Trk.list (t : Trk) : List Value := t.cells.toList
theorem Trk.list_eq (t : Trk) : Value.agg t.list.toArray = t.val := rfl

theorem track_Is' (t : Trk) (w : World) : Calls Try.prog 34 #[.agg t.list.toArray] w fun e w' => e = .returned (.bool (trackB t)) ∧ Below w.heap.size w w' := track_Is t w
theorem ref10_Is' (t : Trk) (w : World) : Calls Try.prog 35 #[.agg t.list.toArray] w fun e w' => e = .returned (.bool (trackB t)) ∧ Below w.heap.size w w' := ref10_Is t w
theorem track_Passing' (t : Trk) (x y s i el : Int) (w : World) (h : Fits10 x y s i) (ht : trackB t = true) (e0 : 0 ≤ el) :
    Calls Try.prog 40 #[.agg t.list.toArray, tally x y s, .int .i64 i, .int .i64 el] w fun e w' => e = .returned (.bool (passB t x y s i el)) ∧ Below w.heap.size w w' := track_Passing t x y s i el w h ht e0
theorem ref10_Passing' (t : Trk) (x y s i el : Int) (w : World) (h : Fits10 x y s i) (ht : trackB t = true) (e0 : 0 ≤ el) :
    Calls Try.prog 41 #[.agg t.list.toArray, tally x y s, .int .i64 i, .int .i64 el] w fun e w' => e = .returned (.bool (passB t x y s i el)) ∧ Below w.heap.size w w' := ref10_Passing t x y s i el w h ht e0

/-- A name for 'the track t lies in block b', by which the walk finds t. -/
class TrackAt (b : Nat) (t : outParam Trk) : Prop where
  here : True

/-- A load of a track, under a name that the walk's rules don't open. -/
def loadTrack (v : Value) : Sem Value := Instr.loadAt 47 v
theorem loadAt_track (v : Value) : Instr.loadAt 47 v = loadTrack v := rfl
theorem load_track (b : Nat) {t : Trk} [TrackAt b t] (w : World) (h : w.rangeAt b 0 t.list) : (loadTrack (.pointer (some ⟨b, 0, none⟩))).run Try.prog w = .ok (.agg t.list.toArray) w :=
  run_loadAt_mid w b 0 47 t.list _ h Try.underlying47 rfl (by kernel_rfl)

attribute [local go_sem ↓] loadAt_track
attribute [local go_sem] load_track

theorem known10 (w : World) : Calls Try.prog 36 #[] w fun e w' => e = .returned (.bool true) ∧ Below w.heap.size w w' := by
  have e1 : ratioI 3 (3 + 1) = 750000000 := by decide
  have e2 : ratioI 1 2 = 500000000 := by decide
  go_enter Try.func36, Try.ntmps36
  go_wp2_with (first | (go_at_call 38; refine (track_Shares _ _ _ _ _ (by unfold Fits10; decide)).mono ?_; rintro e w1 ⟨rfl, hb1⟩) | fail)
  go_ret
  exact ⟨rfl, hb1⟩

set_option maxHeartbeats 1000000 in
theorem trackMay_one (t : Trk) (w : World) :
    Calls Try.prog 11 #[.agg t.list.toArray] w fun e w' => e = .returned (.bool true) ∧ Below w.heap.size w w' := by
  have B1 : RBox w w.heap.size t.list (w.alloc (.cells t.list.toArray 47)) := RBox.new (Below.refl _ _)
  go_enter Try.func11, Try.ntmps11
  go_wp2_with fail
  have LD : TrackAt w.heap.size t := ⟨trivial⟩
  go_region_held3 (fun w' => w'.rangeAt w.heap.size 0 t.list) (first | exact B1.drew.rng | exact B1.rng | exact B2.rng | exact B3.rng | exact B4.rng | fail) (first | (go_at_call 34; refine (track_Is' t _).mono ?_; rintro e wn ⟨rfl, hbn⟩; have B2 := B1.drew.below hbn) | (go_at_call 35; refine (ref10_Is' t _).mono ?_; rintro e wn ⟨rfl, hbn⟩; have B3 := B2.below hbn) | (go_at_call 36; refine (known10 _).mono ?_; rintro e wn ⟨rfl, hbn⟩; have B4 := B3.below hbn) | fail)
  all_goals go_wp2
  all_goals go_ret
  all_goals exact ⟨rfl, B4.old⟩

end Go.Proofs.Ytgoomkailpnjaaa
