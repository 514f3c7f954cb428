/-
  AgendaOfNothing, walked.
-/
import Derived.Test.YtbpgiahbnijidaaNil3
import Derived.Test.YtbpgiahbnijidaaAk3
namespace Go.Proofs.Ytbpgiahbnijidaa
open Go.RowKit Go.Shelf
set_option linter.unusedVariables false
set_option linter.unusedSimpArgs false

set_option maxHeartbeats 4000000 in
set_option maxRecDepth 100000 in
theorem agendaOfNothing_one (T : Tk) (n : Int) (w : World) :
    Calls Try.prog 9 #[.agg (tc T).toArray, .int .i64 n] w fun e w' => e = .returned (.bool true) ∧ Below w.heap.size w w' := by
  obtain ⟨bx, hbx⟩ : ∃ bx, bx = w.heap.size := ⟨_, rfl⟩
  obtain ⟨wb, hwb⟩ : ∃ wb, wb = w.alloc (.cells (tc T).toArray 32) := ⟨_, rfl⟩
  have hb1 : Below w.heap.size w wb := by rw [hwb]; exact (Below.refl _ _).alloc (Nat.le_refl _) _
  have ht1 : wb.heap[bx]? = some (.cells (tc T).toArray 32 (0, 0)) := by rw [hwb, hbx]; exact heap_alloc_new w _
  have hlt : bx < wb.heap.size := by rw [hwb, hbx]; simp
  have HB1 := Lib.hid hb1
  have HT1 := Lib.hid ht1
  have HLT := Lib.hid hlt
  have HH := Lib.hid (Below.refl wb.heap.size wb)
  clear hb1 ht1 hlt
  go_enter Try.func9, Try.ntmps9
  go_upto_region 1 with fail
  rw [← hwb, ← hbx]
  clear hwb hbx
  go_wp2_with (first
    | (go_at_call 19; with_reducible refine (lawAll_nil _).mono ?_; rintro e w2 ⟨rfl, hs⟩; replace HH := Lib.hid (HH.out.trans (hs.mono HH.out.size)); clear hs; have HT2 := Lib.hid (rangeAt_box ((HH.out.block bx HLT.out).trans HT1.out)))
    | (refine wpl_loadT (t := T) _ rfl rfl rfl HT2.out ?_)
    | (go_at_call 12; with_reducible refine (Put_nil T _).mono ?_; rintro e w3 ⟨rfl, hs⟩; replace HH := Lib.hid (HH.out.trans (hs.mono HH.out.size)); clear hs)
    | (go_at_call 14; with_reducible refine (Cancel_nil _ _).mono ?_; rintro e w4 ⟨rfl, hs⟩; replace HH := Lib.hid (HH.out.trans (hs.mono HH.out.size)); clear hs)
    | (go_at_call 17; with_reducible refine (Due_nil _ _ _).mono ?_; rintro e w5 ⟨rfl, hs⟩; replace HH := Lib.hid (HH.out.trans (hs.mono HH.out.size)); clear hs)
    | (go_at_call 20; with_reducible refine (Len_nil _).mono ?_; rintro e w6 ⟨rfl, rfl⟩)
    | (go_at_call 21; with_reducible refine (law_known _).mono ?_; rintro e w7 ⟨rfl, hs⟩; replace HH := Lib.hid (HH.out.trans (hs.mono HH.out.size)); clear hs)
    | fail)
  exact bodyPost_ret (v := .bool true) (by simp [results, Try.results9, go_sem]) rfl ⟨rfl, HB1.out.trans (HH.out.mono HB1.out.size)⟩
end Go.Proofs.Ytbpgiahbnijidaa
