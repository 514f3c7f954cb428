/-
  The reference's agenda: which of two tasks stands ahead.
-/
import Derived.Test.YtbpgiahbnijidaaOrd2
namespace Go.Proofs.Ytbpgiahbnijidaa
open Go.RowKit Go.Shelf
set_option linter.unusedVariables false
set_option linter.unusedSimpArgs false

theorem cmpT_lt_due {a b : Tk} (h : a.due ≠ b.due) : decide (cmpT a b < 0) = decide (a.due < b.due) := by
  by_cases e : a.due < b.due
  · rw [decide_eq_true e, decide_eq_true (cmpT_lt.2 (by omega))]
  · rw [decide_eq_false e, decide_eq_false (fun h2 => by rw [cmpT_lt] at h2; omega)]
theorem cmpT_lt_prio {a b : Tk} (h : a.due = b.due) (h2 : a.prio ≠ b.prio) : decide (cmpT a b < 0) = decide (a.prio < b.prio) := by
  by_cases e : a.prio < b.prio
  · rw [decide_eq_true e, decide_eq_true (cmpT_lt.2 (by omega))]
  · rw [decide_eq_false e, decide_eq_false (fun h2 => by rw [cmpT_lt] at h2; omega)]
theorem cmpT_lt_name {a b : Tk} (h : a.due = b.due) (h2 : a.prio = b.prio) : decide (cmpT a b < 0) = decide (a.name < b.name) := by
  by_cases e : a.name < b.name
  · rw [decide_eq_true e, decide_eq_true (cmpT_lt.2 (by omega))]
  · rw [decide_eq_false e, decide_eq_false (fun h2 => by rw [cmpT_lt] at h2; omega)]
set_option maxHeartbeats 4000000 in
set_option maxRecDepth 100000 in
theorem ref_ahead (a b : Tk) (w : World) : Calls Try.prog 27 #[.agg (tc a).toArray, .agg (tc b).toArray] w fun e w' => e = .returned (.bool (decide (cmpT a b < 0))) ∧ Below w.heap.size w w' := by
  obtain ⟨W, hW⟩ : ∃ W, W = (w.alloc (.cells (tc a).toArray 32)).alloc (.cells (tc b).toArray 32) := ⟨_, rfl⟩
  have hB : Below w.heap.size w W := by rw [hW]; exact ((Below.refl _ w).alloc (Nat.le_refl _) _).alloc (by simp) _
  have h1 := World.alloc_heap_new w (.cells (tc a).toArray 32)
  have h2 := World.alloc_heap_new (w.alloc (.cells (tc a).toArray 32)) (.cells (tc b).toArray 32)
  rw [World.size_alloc] at h2
  have g1 : W.heap[w.heap.size]? = some (.cells (tc a).toArray 32 (0, 0)) := by rw [hW]; exact (Below.heap_alloc _ _ _ (by simp)).trans h1
  have g2 : W.heap[w.heap.size + 1]? = some (.cells (tc b).toArray 32 (0, 0)) := by rw [hW]; exact h2
  obtain ⟨ab, hab⟩ : ∃ ab, ab = w.heap.size := ⟨_, rfl⟩
  obtain ⟨bb, hbb⟩ : ∃ bb, bb = ab + 1 := ⟨_, rfl⟩
  rw [← hab] at g1 g2
  rw [← hbb] at g2
  have a0 : W.cell? ⟨ab, 0, none⟩ = some (.int .i64 a.name) := by rw [World.cell?, g1]; rfl
  have a1 : W.cell? ⟨ab, 1, none⟩ = some (.int .i64 a.due) := by rw [World.cell?, g1]; rfl
  have a2 : W.cell? ⟨ab, 2, none⟩ = some (.int .i64 a.prio) := by rw [World.cell?, g1]; rfl
  have b0 : W.cell? ⟨bb, 0, none⟩ = some (.int .i64 b.name) := by rw [World.cell?, g2]; rfl
  have b1 : W.cell? ⟨bb, 1, none⟩ = some (.int .i64 b.due) := by rw [World.cell?, g2]; rfl
  have b2 : W.cell? ⟨bb, 2, none⟩ = some (.int .i64 b.prio) := by rw [World.cell?, g2]; rfl
  have HB := Lib.hid hB
  clear h1 h2 g1 g2 hB
  go_enter Try.func27, Try.ntmps27
  go_upto_region 1 with fail
  rw [← hW, ← hab, ← hbb]
  clear hW hab hbb
  by_cases c1 : a.due = b.due
  · by_cases c2 : a.prio = b.prio
    · have E := Lib.hid (cmpT_lt_name c1 c2)
      have k1 : (a.due == b.due) = true := by simp [c1]
      have k2 : (a.prio == b.prio) = true := by simp [c2]
      clear c1 c2
      go_wp2
      exact bodyPost_ret (v := .bool (decide (a.name < b.name))) (by simp [results, Try.results27, go_sem]) rfl ⟨by rw [E.out], HB.out⟩
    · have E := Lib.hid (cmpT_lt_prio c1 c2)
      have k1 : (a.due == b.due) = true := by simp [c1]
      have k2 : (a.prio == b.prio) = false := by simp [c2]
      clear c1
      go_wp2
      exact bodyPost_ret (v := .bool (decide (a.prio < b.prio))) (by simp [results, Try.results27, go_sem]) rfl ⟨by rw [E.out], HB.out⟩
  · have E := Lib.hid (cmpT_lt_due c1)
    have k1 : (a.due == b.due) = false := by simp [c1]
    go_wp2
    exact bodyPost_ret (v := .bool (decide (a.due < b.due))) (by simp [results, Try.results27, go_sem]) rfl ⟨by rw [E.out], HB.out⟩
end Go.Proofs.Ytbpgiahbnijidaa
