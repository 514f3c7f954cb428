/-
  A table that the call owns; the law's known.
-/
import Derived.Test.YtfgkaookgfghoaaGreatGrW
namespace Go.Proofs.YtfgkaookgfghoaaGreat
open Go.RowKit Go.Maps Go.Shelf
set_option linter.unusedVariables false
set_option linter.unusedSimpArgs false

/-- A table of the call's own. -/
def GrOwn {β : Type} (c : Cod β) (T : TypeId) (N g : Nat) (M : Cls β) (w : World) : Prop := ∃ F, GrAt c T g M F w ∧ ∀ k, F k → N ≤ k
section
variable {β : Type} {c : Cod β} {T : TypeId} {N g : Nat} {M M' : Cls β} {w w' : World} {F : FP}
theorem GrOwn.to (h : GrTo c T g M' F w w') (hF : ∀ k, F k → N ≤ k) (hN : N ≤ w.heap.size) : GrOwn c T N g M' w' ∧ Below N w w' := by
  obtain ⟨F', h1, h2, h3⟩ := h
  exact ⟨⟨F', h1, fun k hk => (h2 k hk).elim (hF k) (fun h => by omega)⟩, h3.below hN hF (fun k h => h.elim)⟩
theorem GrOwn.below (h : GrOwn c T N g M w) (hb : Below w.heap.size w w') : GrOwn c T N g M w' := by
  obtain ⟨F, h1, h2⟩ := h
  exact ⟨F, h1.keep (Grow.of_below hb) (fun k hk => hb.block k (h1.2.2.1 k hk)), h2⟩
theorem GrOwn.srt (h : GrOwn c T N g M w) : SrtC M := by obtain ⟨F, h1, _⟩ := h; exact h1.1
theorem Below.of_all {N : Nat} {w w' : World} (h : Below w.heap.size w w') (hN : N ≤ w.heap.size) : Below N w w' := h.mono hN
end
theorem grid_New_own_I (w : World) : Calls Tryz.prog 24 #[] w fun e w' => ∃ g, e = .returned (.pointer (some ⟨g, 0, none⟩)) ∧ GrOwn codI 146 w.heap.size g [] w' ∧ Below w.heap.size w w' := by
  refine (grid_New_I w).mono ?_
  rintro e w' ⟨rfl, rfl⟩
  exact ⟨_, rfl, ⟨_, GrAt.new_I w, fun k hk => by omega⟩, (Below.refl _ w).alloc (Nat.le_refl _) _⟩
theorem OwnN.two {B : Nat} {v : Value} {x y : Int} {w : World} (h : OwnN B v [x, y] w) : ∃ b cap, v = .slice (some ⟨b, 0, none⟩) 2 cap ∧ w.cell? ⟨b, 0, none⟩ = some (.int .i64 x) ∧ w.cell? ⟨b, 1, none⟩ = some (.int .i64 y) := by
  obtain ⟨b, cap, rfl, h0, _, _⟩ := h.at (k := 0) (by simp)
  obtain ⟨b', cap', e, h1, _, _⟩ := h.at (k := 1) (by simp)
  injection e with e1 e2 e3
  injection e1 with e1
  injection e1 with e1
  subst e1
  exact ⟨b, cap, rfl, h0, h1⟩
def M3 : Cls Int := cput (cput (cput [] 5 1 7) 2 1 8) 2 3 9
theorem M3_col : colOf M3 1 = [(2, 8), (5, 7)] := by decide +kernel
theorem M3_len : M3.length = 3 := by decide +kernel
end Go.Proofs.YtfgkaookgfghoaaGreat
