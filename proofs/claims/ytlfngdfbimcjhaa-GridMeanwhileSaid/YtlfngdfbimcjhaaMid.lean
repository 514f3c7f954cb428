/-
  Two rows of numbers that are appended to side by side, each in a box.
-/
import Derived.Test.YtlfngdfbimcjhaaOwnN
import Derived.Test.YtlfngdfbimcjhaaIter
import Derived.Test.YtlfngdfbimcjhaaGrL
namespace Go.Proofs.Ytlfngdfbimcjhaa
open Go.RowKit
set_option linter.unusedVariables false
set_option linter.unusedSimpArgs false

/-- Two rows; u0 and v0 stand in the boxes; W is the world at the beginning. -/
structure Mid (W : World) (N0 kb vb : Nat) (u0 v0 u v : Value) (xs ys : List Int) (w : World) : Prop where
  bu : Boxed w kb 40 u0
  bv : Boxed w vb 40 v0
  ou : OwnN N0 u xs w
  ov : OwnN N0 v ys w
  dis : ∀ k, u.ownBlock = some k → v.ownBlock ≠ some k
  fu : ∀ k, u.ownBlock = some k → u0.ownBlock = some k ∨ W.heap.size ≤ k
  fv : ∀ k, v.ownBlock = some k → v0.ownBlock = some k ∨ W.heap.size ≤ k
  only : Only (fun _ => False) (fun k => u0.ownBlock = some k ∨ v0.ownBlock = some k) W w
section
variable {W : World} {N0 kb vb : Nat} {u0 v0 u v : Value} {xs ys : List Int} {w : World}
theorem Mid.start (hu : Boxed W kb 40 u) (hv : Boxed W vb 40 v) (ou : OwnN N0 u xs W) (ov : OwnN N0 v ys W) (hd : ∀ k, u.ownBlock = some k → v.ownBlock ≠ some k) : Mid W N0 kb vb u v u v xs ys W :=
  ⟨hu, hv, ou, ov, hd, fun k h => .inl h, fun k h => .inl h, Only.refl _ _ _⟩
theorem Mid.keep {w' : World} (h : Mid W N0 kb vb u0 v0 u v xs ys w) (hg : Below w.heap.size w w') : Mid W N0 kb vb u0 v0 u v xs ys w' :=
  ⟨(hg.block kb h.bu.lt).trans h.bu, (hg.block vb h.bv.lt).trans h.bv, h.ou.of (Nat.le_refl _) (fun k hk => hg.block k (h.ou.block hk).2), h.ov.of (Nat.le_refl _) (fun k hk => hg.block k (h.ov.block hk).2), h.dis, h.fu, h.fv, h.only.trans (Only.of_later (Ψ := fun _ => False) (Φ := fun _ => False) hg) (fun _ h => h.elim)⟩
theorem Mid.appU {ub : Nat} {x : Int} (h : Mid W N0 kb vb u0 v0 u v xs ys w) (hk : kb < N0) (hvb : vb < N0) (hN : N0 ≤ W.heap.size) (hc : w.cell? ⟨ub, 0, none⟩ = some (.int .i64 x)) (hl : xs.length ≤ 100000) :
    ∃ u' w', (appI #[u, .slice (some ⟨ub, 0, none⟩) 1 1]).run Try.prog w = .ok u' w' ∧ Mid W N0 kb vb u0 v0 u' v (xs ++ [x]) ys w' ∧ ∀ k, k < w.heap.size → u.ownBlock ≠ some k → w'.heap[k]? = w.heap[k]? := by
  have hWs := h.only.grow.size
  obtain ⟨u', w', hr, ho, hg, hat⟩ := run_appI h.ou hc hl (by omega)
  have hgs := hg.size
  have hkeep : ∀ k, k < w.heap.size → u.ownBlock ≠ some k → w'.heap[k]? = w.heap[k]? := fun k hk hne => hg.block k hk (fun e => hne e.symm)
  have hlow : ∀ k, k < N0 → u.ownBlock ≠ some k := fun k hk e => by have := (h.ou.block e).1; omega
  refine ⟨u', w', hr, ⟨(hkeep kb h.bu.lt (hlow kb hk)).trans h.bu, (hkeep vb h.bv.lt (hlow vb hvb)).trans h.bv, ho, h.ov.of (Nat.le_refl _) (fun k hk => hkeep k (h.ov.block hk).2 (fun e => h.dis k e hk)), fun k hk e => ?_, fun k hk => ?_, h.fv, ⟨h.only.grow.trans ⟨hg.os, hg.tape, hg.output, hg.size⟩, fun k hk h1 h2 => ?_⟩⟩, hkeep⟩
  · rcases hat with e' | e'
    · rw [e'] at hk; exact h.dis k hk e
    · rw [hk] at e'; injection e' with e'
      have := (h.ov.block e).2; omega
  · rcases hat with e' | e'
    · rw [e'] at hk; exact h.fu k hk
    · rw [hk] at e'; injection e' with e'
      exact .inr (by omega)
  · rw [hkeep k (by omega) (fun e => (h.fu k e).elim (fun h => h2 (.inl h)) (fun h => by omega))]
    exact h.only.block k hk h1 h2
theorem Mid.flip (h : Mid W N0 kb vb u0 v0 u v xs ys w) : Mid W N0 vb kb v0 u0 v u ys xs w :=
  ⟨h.bv, h.bu, h.ov, h.ou, fun k h1 h2 => h.dis k h2 h1, h.fv, h.fu, ⟨h.only.grow, fun k hk h1 h2 => h.only.block k hk h1 (fun h => h2 h.symm)⟩⟩
/-- Stored. -/
theorem Mid.done (h : Mid W N0 kb vb u0 v0 u v xs ys w) (hk : kb < N0) (hvb : vb < N0) (hne : kb ≠ vb) (hN : N0 ≤ W.heap.size) {w' : World} (hw' : w' = (w.setCell ⟨kb, 0, none⟩ u).setCell ⟨vb, 0, none⟩ v) :
    Boxed w' kb 40 u ∧ Boxed w' vb 40 v ∧ OwnN N0 u xs w' ∧ OwnN N0 v ys w' ∧ (∀ k, u.ownBlock = some k → v.ownBlock ≠ some k) ∧ (∀ k, u.ownBlock = some k → u0.ownBlock = some k ∨ W.heap.size ≤ k) ∧ (∀ k, v.ownBlock = some k → v0.ownBlock = some k ∨ W.heap.size ≤ k) ∧ Only (fun k => k = kb ∨ k = vb) (fun k => u0.ownBlock = some k ∨ v0.ownBlock = some k) W w' := by
  have hb : ∀ k, k ≠ kb → k ≠ vb → w'.heap[k]? = w.heap[k]? := fun k h1 h2 => by rw [hw', Below.heap_setCell _ _ _ k h2, Below.heap_setCell _ _ _ k h1]
  have hb1 : Boxed w' kb 40 u := by rw [hw']; exact (Below.heap_setCell _ _ _ kb hne).trans (h.bu.set _)
  have hb2 : Boxed w' vb 40 v := by
    rw [hw']
    have : Boxed (w.setCell ⟨kb, 0, none⟩ u) vb 40 v0 := (Below.heap_setCell _ _ _ vb (Ne.symm hne)).trans h.bv
    exact this.set _
  refine ⟨hb1, hb2, h.ou.of (Nat.le_refl _) (fun k hk => ?_), h.ov.of (Nat.le_refl _) (fun k hk => ?_), h.dis, h.fu, h.fv, ⟨h.only.grow.trans (by rw [hw']; exact ⟨rfl, rfl, rfl, by simp [World.setCell]⟩), fun k hk h1 h2 => ?_⟩⟩
  · have := (h.ou.block hk).1; exact hb k (by omega) (by omega)
  · have := (h.ov.block hk).1; exact hb k (by omega) (by omega)
  · rw [hb k (fun e => h1 (.inl e)) (fun e => h1 (.inr e))]
    exact h.only.block k hk (fun h => h) h2
end
end Go.Proofs.Ytlfngdfbimcjhaa
