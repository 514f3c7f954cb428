/-
  The law on tracks that pass later: where a number is out of its bounds.
-/
import Derived.Test.YtgoomkailpnjaaaTrk7
namespace Go.Proofs.Ytgoomkailpnjaaa
open Go.RowKit
set_option linter.unusedVariables false
attribute [local go_sem ↓] loadAt_track
attribute [local go_sem] load_track

set_option maxHeartbeats 1000000 in
theorem trackMore_0 (t : Trk) (x y s i el la ay na su : Int) (w : World) (ht : trackB t = false) :
    Calls Try.prog 13 #[.agg t.list.toArray, tally x y s, .int .i64 i, .int .i64 el, .int .i64 la, .int .i64 ay, .int .i64 na, .int .i64 su] w fun e w' => e = .returned (.bool true) ∧ Below w.heap.size w w' := by
  have LD : TrackAt w.heap.size t := ⟨trivial⟩
  have R0 := (PB.new (t := t) (x := x) (y := y) (s := s) (w := w) (T := 47) (U := 33)).box.rng
  go_enter Try.func13, Try.ntmps13
  go_wp2_with (first | (go_at_call 35; refine (ref10_Is' t _).mono ?_; rintro e w1 ⟨rfl, hb1⟩; have B := PB.new.below hb1; clear hb1 R0; have z0 := B.d0; have z1 := B.d1; have z2 := B.d2) | fail)
  go_ret
  exact ⟨rfl, B.box.old⟩

set_option maxHeartbeats 1000000 in
theorem trackMore_1 (t : Trk) (x y s i el la ay na su : Int) (w : World) (ht : trackB t = true) (g1 : decide (el < 0) = true) :
    Calls Try.prog 13 #[.agg t.list.toArray, tally x y s, .int .i64 i, .int .i64 el, .int .i64 la, .int .i64 ay, .int .i64 na, .int .i64 su] w fun e w' => e = .returned (.bool true) ∧ Below w.heap.size w w' := by
  have LD : TrackAt w.heap.size t := ⟨trivial⟩
  have R0 := (PB.new (t := t) (x := x) (y := y) (s := s) (w := w) (T := 47) (U := 33)).box.rng
  go_enter Try.func13, Try.ntmps13
  go_wp2_with (first | (go_at_call 35; refine (ref10_Is' t _).mono ?_; rintro e w1 ⟨rfl, hb1⟩; have B := PB.new.below hb1; clear hb1 R0; have z0 := B.d0; have z1 := B.d1; have z2 := B.d2) | fail)
  go_ret
  exact ⟨rfl, B.box.old⟩

set_option maxHeartbeats 1000000 in
theorem trackMore_2 (t : Trk) (x y s i el la ay na su : Int) (w : World) (ht : trackB t = true) (g1 : decide (el < 0) = false) (g2 : decide (1073741824 < el) = true) :
    Calls Try.prog 13 #[.agg t.list.toArray, tally x y s, .int .i64 i, .int .i64 el, .int .i64 la, .int .i64 ay, .int .i64 na, .int .i64 su] w fun e w' => e = .returned (.bool true) ∧ Below w.heap.size w w' := by
  have LD : TrackAt w.heap.size t := ⟨trivial⟩
  have R0 := (PB.new (t := t) (x := x) (y := y) (s := s) (w := w) (T := 47) (U := 33)).box.rng
  go_enter Try.func13, Try.ntmps13
  go_wp2_with (first | (go_at_call 35; refine (ref10_Is' t _).mono ?_; rintro e w1 ⟨rfl, hb1⟩; have B := PB.new.below hb1; clear hb1 R0; have z0 := B.d0; have z1 := B.d1; have z2 := B.d2) | fail)
  go_ret
  exact ⟨rfl, B.box.old⟩

set_option maxHeartbeats 1000000 in
theorem trackMore_3 (t : Trk) (x y s i el la ay na su : Int) (w : World) (ht : trackB t = true) (g1 : decide (el < 0) = false) (g2 : decide (1073741824 < el) = false) (g3 : decide (la < 0) = true) :
    Calls Try.prog 13 #[.agg t.list.toArray, tally x y s, .int .i64 i, .int .i64 el, .int .i64 la, .int .i64 ay, .int .i64 na, .int .i64 su] w fun e w' => e = .returned (.bool true) ∧ Below w.heap.size w w' := by
  have LD : TrackAt w.heap.size t := ⟨trivial⟩
  have R0 := (PB.new (t := t) (x := x) (y := y) (s := s) (w := w) (T := 47) (U := 33)).box.rng
  go_enter Try.func13, Try.ntmps13
  go_wp2_with (first | (go_at_call 35; refine (ref10_Is' t _).mono ?_; rintro e w1 ⟨rfl, hb1⟩; have B := PB.new.below hb1; clear hb1 R0; have z0 := B.d0; have z1 := B.d1; have z2 := B.d2) | fail)
  go_ret
  exact ⟨rfl, B.box.old⟩

set_option maxHeartbeats 1000000 in
theorem trackMore_4 (t : Trk) (x y s i el la ay na su : Int) (w : World) (ht : trackB t = true) (g1 : decide (el < 0) = false) (g2 : decide (1073741824 < el) = false) (g3 : decide (la < 0) = false) (g4 : decide (1048576 < la) = true) :
    Calls Try.prog 13 #[.agg t.list.toArray, tally x y s, .int .i64 i, .int .i64 el, .int .i64 la, .int .i64 ay, .int .i64 na, .int .i64 su] w fun e w' => e = .returned (.bool true) ∧ Below w.heap.size w w' := by
  have LD : TrackAt w.heap.size t := ⟨trivial⟩
  have R0 := (PB.new (t := t) (x := x) (y := y) (s := s) (w := w) (T := 47) (U := 33)).box.rng
  go_enter Try.func13, Try.ntmps13
  go_wp2_with (first | (go_at_call 35; refine (ref10_Is' t _).mono ?_; rintro e w1 ⟨rfl, hb1⟩; have B := PB.new.below hb1; clear hb1 R0; have z0 := B.d0; have z1 := B.d1; have z2 := B.d2) | fail)
  go_ret
  exact ⟨rfl, B.box.old⟩

set_option maxHeartbeats 1000000 in
theorem trackMore_5 (t : Trk) (x y s i el la ay na su : Int) (w : World) (ht : trackB t = true) (g1 : decide (el < 0) = false) (g2 : decide (1073741824 < el) = false) (g3 : decide (la < 0) = false) (g4 : decide (1048576 < la) = false) (g5 : decide (ay < 0) = true) :
    Calls Try.prog 13 #[.agg t.list.toArray, tally x y s, .int .i64 i, .int .i64 el, .int .i64 la, .int .i64 ay, .int .i64 na, .int .i64 su] w fun e w' => e = .returned (.bool true) ∧ Below w.heap.size w w' := by
  have LD : TrackAt w.heap.size t := ⟨trivial⟩
  have R0 := (PB.new (t := t) (x := x) (y := y) (s := s) (w := w) (T := 47) (U := 33)).box.rng
  go_enter Try.func13, Try.ntmps13
  go_wp2_with (first | (go_at_call 35; refine (ref10_Is' t _).mono ?_; rintro e w1 ⟨rfl, hb1⟩; have B := PB.new.below hb1; clear hb1 R0; have z0 := B.d0; have z1 := B.d1; have z2 := B.d2) | fail)
  go_ret
  exact ⟨rfl, B.box.old⟩

set_option maxHeartbeats 1000000 in
theorem trackMore_6 (t : Trk) (x y s i el la ay na su : Int) (w : World) (ht : trackB t = true) (g1 : decide (el < 0) = false) (g2 : decide (1073741824 < el) = false) (g3 : decide (la < 0) = false) (g4 : decide (1048576 < la) = false) (g5 : decide (ay < 0) = false) (g6 : decide (1048576 < ay) = true) :
    Calls Try.prog 13 #[.agg t.list.toArray, tally x y s, .int .i64 i, .int .i64 el, .int .i64 la, .int .i64 ay, .int .i64 na, .int .i64 su] w fun e w' => e = .returned (.bool true) ∧ Below w.heap.size w w' := by
  have LD : TrackAt w.heap.size t := ⟨trivial⟩
  have R0 := (PB.new (t := t) (x := x) (y := y) (s := s) (w := w) (T := 47) (U := 33)).box.rng
  go_enter Try.func13, Try.ntmps13
  go_wp2_with (first | (go_at_call 35; refine (ref10_Is' t _).mono ?_; rintro e w1 ⟨rfl, hb1⟩; have B := PB.new.below hb1; clear hb1 R0; have z0 := B.d0; have z1 := B.d1; have z2 := B.d2) | fail)
  go_ret
  exact ⟨rfl, B.box.old⟩

set_option maxHeartbeats 1000000 in
theorem trackMore_7 (t : Trk) (x y s i el la ay na su : Int) (w : World) (ht : trackB t = true) (g1 : decide (el < 0) = false) (g2 : decide (1073741824 < el) = false) (g3 : decide (la < 0) = false) (g4 : decide (1048576 < la) = false) (g5 : decide (ay < 0) = false) (g6 : decide (1048576 < ay) = false) (g7 : decide (na < 0) = true) :
    Calls Try.prog 13 #[.agg t.list.toArray, tally x y s, .int .i64 i, .int .i64 el, .int .i64 la, .int .i64 ay, .int .i64 na, .int .i64 su] w fun e w' => e = .returned (.bool true) ∧ Below w.heap.size w w' := by
  have LD : TrackAt w.heap.size t := ⟨trivial⟩
  have R0 := (PB.new (t := t) (x := x) (y := y) (s := s) (w := w) (T := 47) (U := 33)).box.rng
  go_enter Try.func13, Try.ntmps13
  go_wp2_with (first | (go_at_call 35; refine (ref10_Is' t _).mono ?_; rintro e w1 ⟨rfl, hb1⟩; have B := PB.new.below hb1; clear hb1 R0; have z0 := B.d0; have z1 := B.d1; have z2 := B.d2) | fail)
  go_ret
  exact ⟨rfl, B.box.old⟩

set_option maxHeartbeats 1000000 in
theorem trackMore_8 (t : Trk) (x y s i el la ay na su : Int) (w : World) (ht : trackB t = true) (g1 : decide (el < 0) = false) (g2 : decide (1073741824 < el) = false) (g3 : decide (la < 0) = false) (g4 : decide (1048576 < la) = false) (g5 : decide (ay < 0) = false) (g6 : decide (1048576 < ay) = false) (g7 : decide (na < 0) = false) (g8 : decide (y < na) = true) :
    Calls Try.prog 13 #[.agg t.list.toArray, tally x y s, .int .i64 i, .int .i64 el, .int .i64 la, .int .i64 ay, .int .i64 na, .int .i64 su] w fun e w' => e = .returned (.bool true) ∧ Below w.heap.size w w' := by
  have LD : TrackAt w.heap.size t := ⟨trivial⟩
  have R0 := (PB.new (t := t) (x := x) (y := y) (s := s) (w := w) (T := 47) (U := 33)).box.rng
  go_enter Try.func13, Try.ntmps13
  go_wp2_with (first | (go_at_call 35; refine (ref10_Is' t _).mono ?_; rintro e w1 ⟨rfl, hb1⟩; have B := PB.new.below hb1; clear hb1 R0; have z0 := B.d0; have z1 := B.d1; have z2 := B.d2) | fail)
  go_ret
  exact ⟨rfl, B.box.old⟩

set_option maxHeartbeats 1000000 in
theorem trackMore_9 (t : Trk) (x y s i el la ay na su : Int) (w : World) (ht : trackB t = true) (g1 : decide (el < 0) = false) (g2 : decide (1073741824 < el) = false) (g3 : decide (la < 0) = false) (g4 : decide (1048576 < la) = false) (g5 : decide (ay < 0) = false) (g6 : decide (1048576 < ay) = false) (g7 : decide (na < 0) = false) (g8 : decide (y < na) = false) (g9 : decide (su < 0) = true) :
    Calls Try.prog 13 #[.agg t.list.toArray, tally x y s, .int .i64 i, .int .i64 el, .int .i64 la, .int .i64 ay, .int .i64 na, .int .i64 su] w fun e w' => e = .returned (.bool true) ∧ Below w.heap.size w w' := by
  have LD : TrackAt w.heap.size t := ⟨trivial⟩
  have R0 := (PB.new (t := t) (x := x) (y := y) (s := s) (w := w) (T := 47) (U := 33)).box.rng
  go_enter Try.func13, Try.ntmps13
  go_wp2_with (first | (go_at_call 35; refine (ref10_Is' t _).mono ?_; rintro e w1 ⟨rfl, hb1⟩; have B := PB.new.below hb1; clear hb1 R0; have z0 := B.d0; have z1 := B.d1; have z2 := B.d2) | fail)
  go_ret
  exact ⟨rfl, B.box.old⟩

set_option maxHeartbeats 1000000 in
theorem trackMore_10 (t : Trk) (x y s i el la ay na su : Int) (w : World) (ht : trackB t = true) (g1 : decide (el < 0) = false) (g2 : decide (1073741824 < el) = false) (g3 : decide (la < 0) = false) (g4 : decide (1048576 < la) = false) (g5 : decide (ay < 0) = false) (g6 : decide (1048576 < ay) = false) (g7 : decide (na < 0) = false) (g8 : decide (y < na) = false) (g9 : decide (su < 0) = false) (ga : decide (1048576 < su) = true) :
    Calls Try.prog 13 #[.agg t.list.toArray, tally x y s, .int .i64 i, .int .i64 el, .int .i64 la, .int .i64 ay, .int .i64 na, .int .i64 su] w fun e w' => e = .returned (.bool true) ∧ Below w.heap.size w w' := by
  have LD : TrackAt w.heap.size t := ⟨trivial⟩
  have R0 := (PB.new (t := t) (x := x) (y := y) (s := s) (w := w) (T := 47) (U := 33)).box.rng
  go_enter Try.func13, Try.ntmps13
  go_wp2_with (first | (go_at_call 35; refine (ref10_Is' t _).mono ?_; rintro e w1 ⟨rfl, hb1⟩; have B := PB.new.below hb1; clear hb1 R0; have z0 := B.d0; have z1 := B.d1; have z2 := B.d2) | fail)
  go_ret
  exact ⟨rfl, B.box.old⟩

theorem trackMore_one (t : Trk) (x y s i el la ay na su : Int) (w : World) (hy1 : y ≤ 9223372036854775807) :
    Calls Try.prog 13 #[.agg t.list.toArray, tally x y s, .int .i64 i, .int .i64 el, .int .i64 la, .int .i64 ay, .int .i64 na, .int .i64 su] w fun e w' => e = .returned (.bool true) ∧ Below w.heap.size w w' := by
  cases ht : trackB t
  · exact trackMore_0 t x y s i el la ay na su w ht
  cases g1 : decide (el < 0)
  case true => exact trackMore_1 t x y s i el la ay na su w ht  g1
  cases g2 : decide (1073741824 < el)
  case true => exact trackMore_2 t x y s i el la ay na su w ht g1 g2
  cases g3 : decide (la < 0)
  case true => exact trackMore_3 t x y s i el la ay na su w ht g1 g2 g3
  cases g4 : decide (1048576 < la)
  case true => exact trackMore_4 t x y s i el la ay na su w ht g1 g2 g3 g4
  cases g5 : decide (ay < 0)
  case true => exact trackMore_5 t x y s i el la ay na su w ht g1 g2 g3 g4 g5
  cases g6 : decide (1048576 < ay)
  case true => exact trackMore_6 t x y s i el la ay na su w ht g1 g2 g3 g4 g5 g6
  cases g7 : decide (na < 0)
  case true => exact trackMore_7 t x y s i el la ay na su w ht g1 g2 g3 g4 g5 g6 g7
  cases g8 : decide (y < na)
  case true => exact trackMore_8 t x y s i el la ay na su w ht g1 g2 g3 g4 g5 g6 g7 g8
  cases g9 : decide (su < 0)
  case true => exact trackMore_9 t x y s i el la ay na su w ht g1 g2 g3 g4 g5 g6 g7 g8 g9
  cases ga : decide (1048576 < su)
  case true => exact trackMore_10 t x y s i el la ay na su w ht g1 g2 g3 g4 g5 g6 g7 g8 g9 ga
  simp only [decide_eq_false_iff_not, Int.not_lt] at g1 g2 g3 g4 g5 g6 g7 g8 g9 ga
  exact trackMore_yes t x y s i el la ay na su w ht (by unfold MoreOK; omega) hy1

end Go.Proofs.Ytgoomkailpnjaaa
