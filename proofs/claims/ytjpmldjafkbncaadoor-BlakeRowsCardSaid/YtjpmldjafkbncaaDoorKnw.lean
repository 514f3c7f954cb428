/-
  Three letters, digested: known.
-/
import Derived.Test.YtjpmldjafkbncaaDoorHx3
import Derived.Test.YtjpmldjafkbncaaDoorBlkG
import Derived.Lib.SlBytesConst
namespace Go.Proofs.YtjpmldjafkbncaaDoor
open Go.RowKit
set_option linter.unusedVariables false
set_option linter.unusedSimpArgs false

/-- One row in a slice of its own. -/
theorem rdBB_one {w : World} {v : Value} {l : List Nat} {b : Nat} (hc : w.cell? ⟨b, 0, none⟩ = some v) (hr : RdB w v l) : RdBB w (.slice (some ⟨b, 0, none⟩) 1 1) [l] := by
  refine .inr ⟨⟨b, 0, none⟩, 1, rfl, by simp, fun i hi => ?_⟩
  have : i = 0 := by simpa using hi
  subst this
  exact ⟨v, hc, hr⟩
theorem sumLt (i : Nat) : gt [189, 221, 129, 60, 99, 66, 57, 114, 49, 113, 239, 63, 238, 152, 87, 155, 148, 150, 78, 59, 177, 203, 62, 66, 114, 98, 200, 192, 104, 213, 35, 25] i < 256 := by
  by_cases h : i < 32
  · have : ∀ i, i < 32 → gt [189, 221, 129, 60, 99, 66, 57, 114, 49, 113, 239, 63, 238, 152, 87, 155, 148, 150, 78, 59, 177, 203, 62, 66, 114, 98, 200, 192, 104, 213, 35, 25] i < 256 := by decide
    exact this i h
  · rw [gt_ge (by simp; omega)]; decide
set_option maxHeartbeats 8000000 in
set_option maxRecDepth 100000 in
theorem law_known (w : World) (hG : Glob w) :
    Calls Tryd.prog 13 #[] w fun e w' => e = .returned (.bool true) ∧ Below w.heap.size w w' := by
  have HG := Lib.hid hG
  clear hG
  go_enter Tryd.func13, Tryd.ntmps13
  have CV := fun (w : World) (C : Array Value) (n c : Nat) => Lib.run_convert_bytes_const (P := Tryd.prog) w 22 5 C n c Tryd.underlying22 Tryd.underlying5
  obtain ⟨wz, hwz⟩ : ∃ wz, wz = (w.alloc (.cells #[.int .u8 97, .int .u8 98, .int .u8 99] 5 (3, 4))).alloc (.cells #[.slice (some ⟨w.heap.size, 0, none⟩) 3 3] 22) := ⟨_, rfl⟩
  have hzB : Below w.heap.size w wz := by rw [hwz]; exact ((Below.refl _ _).alloc (Nat.le_refl _) _).alloc (by simp) _
  have hsz : wz.heap.size = w.heap.size + 2 := by rw [hwz]; simp
  have hz0 : wz.heap[w.heap.size]? = some (.cells #[.int .u8 97, .int .u8 98, .int .u8 99] 5 (3, 4)) := by rw [hwz]; exact (Below.heap_alloc _ _ _ (by simp)).trans (heap_alloc_new w _)
  have hz1 : wz.heap[w.heap.size + 1]? = some (.cells #[.slice (some ⟨w.heap.size, 0, none⟩) 3 3] 22 (0, 0)) := by
    have := heap_alloc_new (w.alloc (.cells #[.int .u8 97, .int .u8 98, .int .u8 99] 5 (3, 4))) (.cells #[.slice (some ⟨w.heap.size, 0, none⟩) 3 3] 22)
    rw [hwz]
    simpa using this
  have hr : RdB wz (.slice (some ⟨w.heap.size, 0, none⟩) 3 3) [97, 98, 99] := .inr ⟨_, 3, rfl, by simp, fun i hi => by
    rw [add_at]
    match i, hi with
    | 0, _ => simp [World.cell?, hz0]
    | 1, _ => simp [World.cell?, hz0]
    | 2, _ => simp [World.cell?, hz0]⟩
  have hR : RdBB wz (.slice (some ⟨w.heap.size + 1, 0, none⟩) 1 1) [[97, 98, 99]] := rdBB_one (by simp [World.cell?, hz1]) hr
  have HC := Lib.hid (blake_Sum _ [[97, 98, 99]] wz (HG.out.below hzB HG.out.lt) hR (by simp) (by simp) (by simp))
  have e1 : ([[97, 98, 99]] : List (List Nat)).flatten = [97, 98, 99] := rfl
  rw [e1, known_abc] at HC
  have HZ := Lib.hid hzB
  have hle : w.heap.size ≤ wz.heap.size := by omega
  have HWZ := Lib.hid hwz
  have RE : ∀ w, (binOp .eql 9 (Str (hexL [189, 221, 129, 60, 99, 66, 57, 114, 49, 113, 239, 63, 238, 152, 87, 155, 148, 150, 78, 59, 177, 203, 62, 66, 114, 98, 200, 192, 104, 213, 35, 25])) (.string { data := #[98, 100, 100, 100, 56, 49, 51, 99, 54, 51, 52, 50, 51, 57, 55, 50, 51, 49, 55, 49, 101, 102, 51, 102, 101, 101, 57, 56, 53, 55, 57, 98, 57, 52, 57, 54, 52, 101, 51, 98, 98, 49, 99, 98, 51, 101, 52, 50, 55, 50, 54, 50, 99, 56, 99, 48, 54, 56, 100, 53, 50, 51, 49, 57] })).run Tryd.prog w = .ok (.bool true) w := fun w => by
    have : (.string { data := #[98, 100, 100, 100, 56, 49, 51, 99, 54, 51, 52, 50, 51, 57, 55, 50, 51, 49, 55, 49, 101, 102, 51, 102, 101, 101, 57, 56, 53, 55, 57, 98, 57, 52, 57, 54, 52, 101, 51, 98, 98, 49, 99, 98, 51, 101, 52, 50, 55, 50, 54, 50, 99, 56, 99, 48, 54, 56, 100, 53, 50, 51, 49, 57] } : Value) = Str (hexL [189, 221, 129, 60, 99, 66, 57, 114, 49, 113, 239, 63, 238, 152, 87, 155, 148, 150, 78, 59, 177, 203, 62, 66, 114, 98, 200, 192, 104, 213, 35, 25]) := by
      unfold Str
      exact congrArg (fun x => Value.string (ByteArray.mk x)) (by decide +kernel)
    rw [this]
    exact run_eql_Str w _
  have RG := run_guard_Str
  clear hzB hsz hz0 hz1 hr hR e1 hwz
  go_wp2_with (first | (go_at_call 11; rw [← HWZ.out]; refine HC.out.mono ?_; rintro e w1 ⟨rfl, hb1⟩; have HB1 := Lib.hid (HZ.out.trans (hb1.mono hle)); clear hb1) | (go_at_call 14; refine (blake_Hex [189, 221, 129, 60, 99, 66, 57, 114, 49, 113, 239, 63, 238, 152, 87, 155, 148, 150, 78, 59, 177, 203, 62, 66, 114, 98, 200, 192, 104, 213, 35, 25] rfl sumLt _).mono ?_; rintro e w2 ⟨rfl, hb2⟩; have HB2 := Lib.hid (HB1.out.trans (hb2.mono HB1.out.size)); clear hb2) | fail)
  trace_state
  exact bodyPost_ret (v := .bool true) (by simp [results, Tryd.results13, go_sem]) rfl ⟨rfl, HB2.out⟩
end Go.Proofs.YtjpmldjafkbncaaDoor
