/-
  The fields of calls, extrinsics and votes, as ways to pointers.
-/
import Derived.Test.YtbndegkgpoemnaaVal2
import Derived.StillTailTactics
import Derived.Deep.DeepCutAuto
namespace Go.Proofs.Ytbndegkgpoemnaa
open Go.RowKit
set_option linter.unusedVariables false
set_option linter.unusedSimpArgs false

theorem slices_Values (ao : Option Addr) (m c : Nat) (w : World) : Calls Try.prog 59 #[.slice ao m c] w fun e w' => e = .returned (.func (.func 76) #[] #[.pointer (some ⟨w.heap.size, 0, none⟩)]) ∧ w' = w.alloc (.cells #[.slice ao m c] 89) := by
  go_enter Try.func59, Try.ntmps59
  go_wp2
  exact bodyPost_ret (v := .func (.func 76) #[] #[.pointer (some ⟨w.heap.size, 0, none⟩)]) (by simp [results, Try.results59, go_sem]) rfl ⟨rfl, rfl⟩
theorem two_box (w : World) (c : Array Value) (t t2 : TypeId) (v : Value) : ((w.alloc (.cells c t)).alloc (.cells #[v] t2)).drew.cell? ⟨w.heap.size + 1, 0, none⟩ = some v := by
  have h := World.alloc_heap_new (w.alloc (.cells c t)) (.cells #[v] t2)
  rw [World.size_alloc] at h
  show ((w.alloc (.cells c t)).alloc (.cells #[v] t2)).cell? ⟨w.heap.size + 1, 0, none⟩ = some v
  rw [World.cell?, h]; rfl
theorem two_row (w : World) (t t2 : TypeId) (v : Value) (vs : List Value) : RowV ((w.alloc (.cells vs.toArray t)).alloc (.cells #[v] t2)).drew w.heap.size vs := fun i u hi => by
  have h := World.alloc_heap_new w (.cells vs.toArray t)
  have h2 : ((w.alloc (.cells vs.toArray t)).alloc (.cells #[v] t2)).heap[w.heap.size]? = some (.cells vs.toArray t (0, 0)) := (Below.heap_alloc _ _ _ (by simp)).trans h
  show ((w.alloc (.cells vs.toArray t)).alloc (.cells #[v] t2)).cell? ⟨w.heap.size, i, none⟩ = some u
  rw [World.cell?, h2]; simpa using hi

set_option maxHeartbeats 4000000 in
set_option maxRecDepth 100000 in
theorem code_callFields (pb po : Nat) (w : World) : Calls Try.prog 60 #[.pointer (some ⟨pb, po, none⟩)] w fun e w' => ∃ bx b, e = .returned (.func (.func 76) #[] #[.pointer (some ⟨bx, 0, none⟩)]) ∧ Below w.heap.size w w' ∧ w'.cell? ⟨bx, 0, none⟩ = some (.slice (some ⟨b, 0, none⟩) 3 3) ∧ RowV w' b [.pointer (some ⟨pb, po, none⟩), .pointer (some ⟨pb, po + 1, none⟩), .pointer (some ⟨pb, po + 2, none⟩)] ∧ bx < w'.heap.size ∧ b < w'.heap.size := by
  go_enter Try.func60, Try.ntmps60
  go_upto_region 1 with fail
  go_still_tail 9, (by kernel_rfl)
  change wpList _ _ _ _ _ w.drew
  go_wp2_with (first
    | (go_at_call 59; refine (slices_Values _ _ _ _).mono ?_; rintro e w1 ⟨rfl, rfl⟩)
    | fail)
  refine bodyPost_ret (v := .func (.func 76) #[] #[.pointer (some ⟨w.heap.size + 1, 0, none⟩)]) (by simp [results, Try.results60, go_sem]) rfl ⟨w.heap.size + 1, w.heap.size, rfl, ?_, ?_, ?_, by simp, by simp; omega⟩
  · exact (((Below.refl _ w).alloc (Nat.le_refl _) _).alloc (by simp) _).drew
  · exact two_box w _ _ _ _
  · exact two_row w _ _ _ _

set_option maxHeartbeats 4000000 in
set_option maxRecDepth 100000 in
theorem code_headFields (pb po : Nat) (w : World) : Calls Try.prog 29 #[.pointer (some ⟨pb, po, none⟩)] w fun e w' => ∃ bx b, e = .returned (.func (.func 76) #[] #[.pointer (some ⟨bx, 0, none⟩)]) ∧ Below w.heap.size w w' ∧ w'.cell? ⟨bx, 0, none⟩ = some (.slice (some ⟨b, 0, none⟩) 7 7) ∧ RowV w' b [.pointer (some ⟨pb, po, none⟩), .pointer (some ⟨pb, po + 1, none⟩), .pointer (some ⟨pb, po + 2, none⟩), .pointer (some ⟨pb, po + 3, none⟩), .pointer (some ⟨pb, po + 4, none⟩), .pointer (some ⟨pb, po + 5, none⟩), .pointer (some ⟨pb, po + 6, none⟩)] ∧ bx < w'.heap.size ∧ b < w'.heap.size := by
  go_enter Try.func29, Try.ntmps29
  go_upto_region 1 with fail
  go_still_tail 21, (by kernel_rfl)
  change wpList _ _ _ _ _ w.drew
  go_wp2_with (first
    | (go_at_call 59; refine (slices_Values _ _ _ _).mono ?_; rintro e w1 ⟨rfl, rfl⟩)
    | fail)
  refine bodyPost_ret (v := .func (.func 76) #[] #[.pointer (some ⟨w.heap.size + 1, 0, none⟩)]) (by simp [results, Try.results29, go_sem]) rfl ⟨w.heap.size + 1, w.heap.size, rfl, ?_, ?_, ?_, by simp, by simp; omega⟩
  · exact (((Below.refl _ w).alloc (Nat.le_refl _) _).alloc (by simp) _).drew
  · exact two_box w _ _ _ _
  · exact two_row w _ _ _ _

set_option maxHeartbeats 4000000 in
set_option maxRecDepth 100000 in
theorem code_voteFields (pb po : Nat) (w : World) : Calls Try.prog 30 #[.pointer (some ⟨pb, po, none⟩)] w fun e w' => ∃ bx b, e = .returned (.func (.func 76) #[] #[.pointer (some ⟨bx, 0, none⟩)]) ∧ Below w.heap.size w w' ∧ w'.cell? ⟨bx, 0, none⟩ = some (.slice (some ⟨b, 0, none⟩) 5 5) ∧ RowV w' b [.pointer (some ⟨pb, po, none⟩), .pointer (some ⟨pb, po + 3, none⟩), .pointer (some ⟨pb, po + 4, none⟩), .pointer (some ⟨pb, po + 5, none⟩), .pointer (some ⟨pb, po + 2, none⟩)] ∧ bx < w'.heap.size ∧ b < w'.heap.size := by
  go_enter Try.func30, Try.ntmps30
  go_upto_region 1 with fail
  go_still_tail 15, (by kernel_rfl)
  change wpList _ _ _ _ _ w.drew
  go_wp2_with (first
    | (go_at_call 59; refine (slices_Values _ _ _ _).mono ?_; rintro e w1 ⟨rfl, rfl⟩)
    | fail)
  refine bodyPost_ret (v := .func (.func 76) #[] #[.pointer (some ⟨w.heap.size + 1, 0, none⟩)]) (by simp [results, Try.results30, go_sem]) rfl ⟨w.heap.size + 1, w.heap.size, rfl, ?_, ?_, ?_, by simp, by simp; omega⟩
  · exact (((Below.refl _ w).alloc (Nat.le_refl _) _).alloc (by simp) _).drew
  · exact two_box w _ _ _ _
  · exact two_row w _ _ _ _

end Go.Proofs.Ytbndegkgpoemnaa
