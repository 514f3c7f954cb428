/-
  IsCall of a call that is no batch.
-/
import Derived.Test.YtbndegkgpoemnaaCod9
namespace Go.Proofs.Ytbndegkgpoemnaa
open Go.RowKit
set_option linter.unusedVariables false
set_option linter.unusedSimpArgs false

theorem run_loadC0 {w : World} {b : Nat} {k t n : Int} {ao : Option Addr} {kids cap : Nat} (h : w.heap[b]? = some (.cells #[.int .i64 k, .int .i64 t, .int .i64 n, .slice ao kids cap] 28 (0, 0))) : (loadC (.pointer (some ⟨b, 0, none⟩))).run Try.prog w = .ok (.agg #[.int .i64 k, .int .i64 t, .int .i64 n, .slice ao kids cap]) w :=
  run_loadAt_mid w b 0 28 [.int .i64 k, .int .i64 t, .int .i64 n, .slice ao kids cap] _ (rangeAt_sub (A := []) (C := []) (L := [.int .i64 k, .int .i64 t, .int .i64 n, .slice ao kids cap]) h (by simp) rfl) Try.underlying28 rfl (by kernel_rfl)
attribute [local go_sem ↓] load_c
set_option maxHeartbeats 4000000 in
set_option maxRecDepth 100000 in
theorem code_IsCall0 (k t n : Int) (ao : Option Addr) (kids cap : Nat) (w : World) (h5 : k ≠ 5) :
    Calls Try.prog 24 #[.agg #[.int .i64 k, .int .i64 t, .int .i64 n, .slice ao kids cap]] w fun e w' => e = .returned (.bool (decide (leafOk k t n kids))) ∧ Below w.heap.size w w' := by
  go_enter Try.func24, Try.ntmps24
  have h1 := World.alloc_heap_new w (.cells #[.int .i64 k, .int .i64 t, .int .i64 n, .slice ao kids cap] 28)
  obtain ⟨W, hW⟩ : ∃ W, W = w.alloc (.cells #[.int .i64 k, .int .i64 t, .int .i64 n, .slice ao kids cap] 28) := ⟨_, rfl⟩
  have hB : Below w.heap.size w W := by rw [hW]; exact (Below.refl _ w).alloc (Nat.le_refl _) _
  rw [← hW] at h1
  go_upto_region 1 with fail
  rw [← hW]
  have LC := run_loadC0 h1
  have HB := Lib.hid hB
  clear h1 hW hB
  go_wp2_with (first | (go_at_call 54; refine (code_isCall0 k t n 3 ao kids cap _ h5).mono ?_; rintro e w1 ⟨rfl, hb⟩; have HB1 := Lib.hid hb; clear hb) | fail)
  exact bodyPost_ret (v := .bool (decide (leafOk k t n kids))) (by simp [results, Try.results24, go_sem]) rfl ⟨rfl, HB.out.trans (HB1.out.mono HB.out.size)⟩
end Go.Proofs.Ytbndegkgpoemnaa
