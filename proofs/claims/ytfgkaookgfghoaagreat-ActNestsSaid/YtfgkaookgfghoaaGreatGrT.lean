/-
  A table of two numbers: Set and Del.
-/
import Derived.Test.YtfgkaookgfghoaaGreatGrG
namespace Go.Proofs.YtfgkaookgfghoaaGreat
open Go.RowKit Go.Maps
set_option linter.unusedVariables false
set_option linter.unusedSimpArgs false

/-- What a change of a table leaves. -/
def GrTo {β : Type} (c : Cod β) (T : TypeId) (g : Nat) (M : Cls β) (F : FP) (w w' : World) : Prop :=
  ∃ F', GrAt c T g M F' w' ∧ (∀ k, F' k → F k ∨ w.heap.size ≤ k) ∧ Only F (fun _ => False) w w'
theorem cells3 {w : World} {g : Nat} {T : TypeId} {u0 u1 u2 : Value} (h : w.heap[g]? = some (.cells #[u0, u1, u2] T (0, 0))) :
    w.cell? ⟨g, 0, none⟩ = some u0 ∧ w.cell? ⟨g, 1, none⟩ = some u1 ∧ w.cell? ⟨g, 2, none⟩ = some u2 ∧ w.frozen? ⟨g, 0, none⟩ = false ∧ w.frozen? ⟨g, 1, none⟩ = false ∧ w.frozen? ⟨g, 2, none⟩ = false := by
  refine ⟨by rw [World.cell?, h]; rfl, by rw [World.cell?, h]; rfl, by rw [World.cell?, h]; rfl, ?_, ?_, ?_⟩ <;> simp [World.frozen?, h]
theorem set3 {w : World} {g : Nat} {T : TypeId} {u0 u1 u2 u : Value} (h : w.heap[g]? = some (.cells #[u0, u1, u2] T (0, 0))) :
    (w.setCell ⟨g, 0, none⟩ u).heap[g]? = some (.cells #[u, u1, u2] T (0, 0)) ∧ (w.setCell ⟨g, 1, none⟩ u).heap[g]? = some (.cells #[u0, u, u2] T (0, 0)) ∧ (w.setCell ⟨g, 2, none⟩ u).heap[g]? = some (.cells #[u0, u1, u] T (0, 0)) := by
  have hlt : g < w.heap.size := (Array.getElem?_eq_some_iff.1 h).1
  have hg := (Array.getElem?_eq_some_iff.1 h).2
  refine ⟨?_, ?_, ?_⟩ <;> simp [World.setCell, Array.getElem?_modify, h]
theorem only_set {w : World} {g o : Nat} {u : Value} {Ψ : FP} (h : Ψ g) : Only Ψ (fun _ => False) w (w.setCell ⟨g, o, none⟩ u) :=
  ⟨⟨rfl, rfl, rfl, by simp [World.setCell]⟩, fun k hk h1 _ => Below.heap_setCell _ _ _ k (fun e => h1 (by subst e; exact h))⟩
theorem map_ne {w : World} {g k : Nat} {T : TypeId} {cs : Array Value} {es : Array MapEntry} {cl : Nat} (h : w.heap[g]? = some (.cells cs T (0, 0))) (hk : w.heap[k]? = some (.map es cl)) : k ≠ g := by
  rintro rfl
  rw [h] at hk; cases hk
theorem set_block {w : World} {g o k : Nat} {u : Value} (h : k ≠ g) : (w.setCell ⟨g, o, none⟩ u).heap[k]? = w.heap[k]? := Below.heap_setCell _ _ _ k h
section
variable {β : Type} {c : Cod β} {B C : Nat} {rm cm : List (Int × Option Nat)} {M : Cls β} {w w' : World}
theorem MapsAt.block (h : MapsAt c B C rm cm M w) (hb : ∀ k, oblk B rm k ∨ oblk C cm k → w'.heap[k]? = w.heap[k]?) : MapsAt c B C rm cm M w' :=
  ⟨h.row.block (fun k hk => hb k (.inl hk)), h.col.block (fun k hk => hb k (.inr hk)), h.off⟩
theorem MapsAt.notg {g : Nat} {T : TypeId} {cs : Array Value} (h : MapsAt c B C rm cm M w) (hg : w.heap[g]? = some (.cells cs T (0, 0))) {k : Nat} (hk : oblk B rm k ∨ oblk C cm k) : k ≠ g := by
  rcases hk with hk | hk
  · obtain ⟨es, cl, he⟩ := h.row.isMap hk
    exact map_ne hg he
  · obtain ⟨es, cl, he⟩ := h.col.isMap hk
    exact map_ne hg he
theorem MapsAt.set {g o : Nat} {T : TypeId} {cs : Array Value} {u : Value} (h : MapsAt c B C rm cm M w) (hg : w.heap[g]? = some (.cells cs T (0, 0))) : MapsAt c B C rm cm M (w.setCell ⟨g, o, none⟩ u) :=
  h.block (fun k hk => set_block (h.notg hg hk))
/-- Both sides are changed, the columns first. -/
theorem maps_to {g : Nat} {T : TypeId} {F : FP} {M' : Cls β} {w0 w1 w2 w3 : World} {n : Int} (h0 : Only F (fun _ => False) w0 w1)
    (hg : w1.heap[g]? = some (.cells #[.map (some B), .map (some C), .int .i64 n] T (0, 0))) (hM : MapsAt c B C rm cm M w1) (hs : SrtC M') (hn : n = M'.length) (hF : F g) (hFl : ∀ k, F k → k < w0.heap.size) (hF1 : ∀ k, oblk B rm k → F k ∨ w0.heap.size ≤ k) (hF2 : ∀ k, oblk C cm k → F k ∨ w0.heap.size ≤ k)
    (hc : OutTo codU C cm (colU M') w1 w2) (hr : ∀ h2 : OutAt c B rm (rowOf M) w2, OutTo c B rm (rowOf M') w2 w3) : GrTo c T g M' F w0 w3 := by
  obtain ⟨cm', c1, c2, c3⟩ := hc
  have hrow2 : OutAt c B rm (rowOf M) w2 := hM.row.block (fun k hk => c2.block k (hM.row.lt hk) (hM.off k hk) (fun h => h))
  obtain ⟨rm', r1, r2, r3⟩ := hr hrow2
  have hglt : g < w1.heap.size := (Array.getElem?_eq_some_iff.1 hg).1
  have hcol3 : OutAt codU C cm' (colU M') w3 := c1.block (fun k hk => r2.block k (c1.lt hk) (fun hk' => by
    rcases c3 k hk with h | h
    · exact hM.off k hk' h
    · have := hM.row.lt hk'; omega) (fun h => h))
  have hg3 : w3.heap[g]? = some (.cells #[.map (some B), .map (some C), .int .i64 n] T (0, 0)) := by
    rw [r2.block g (Nat.lt_of_lt_of_le hglt c2.grow.size) (fun hk => hM.notg hg (.inl hk) rfl) (fun h => h), c2.block g hglt (fun hk => hM.notg hg (.inr hk) rfl) (fun h => h)]
    exact hg
  have hsz1 := h0.grow.size
  have hsz2 := c2.grow.size
  have hsz3 := r2.grow.size
  have hlt : ∀ k, k < w0.heap.size → ¬ F k → ¬ oblk B rm k ∧ ¬ oblk C cm k := fun k hk hnF =>
    ⟨fun h => (hF1 k h).elim hnF (fun h => by omega), fun h => (hF2 k h).elim hnF (fun h => by omega)⟩
  refine ⟨fun k => F k ∨ (w0.heap.size ≤ k ∧ k < w3.heap.size), ⟨hs, .inl hF, fun k hk => ?_, .inr ⟨B, C, rm', cm', by rw [hg3, hn], ⟨r1, hcol3, fun k hk hk' => ?_⟩, fun k hk => ?_, fun k hk => ?_⟩⟩, fun k hk => hk.imp id (fun h => h.1), ?_⟩
  · rcases hk with h | h
    · have := hFl k h; omega
    · exact h.2
  · have e1 := r3 k hk
    have e2 := c3 k hk'
    have l2 := c1.lt hk'
    rcases e1 with e1 | e1
    · have := hM.row.lt e1
      rcases e2 with e2 | e2
      · exact hM.off k e1 e2
      · omega
    · omega
  · have hl := r1.lt hk
    rcases r3 k hk with h | h
    · exact (hF1 k h).imp id (fun h => ⟨h, hl⟩)
    · exact .inr ⟨by omega, hl⟩
  · have hl := hcol3.lt hk
    rcases c3 k hk with h | h
    · exact (hF2 k h).imp id (fun h => ⟨h, hl⟩)
    · exact .inr ⟨by omega, hl⟩
  · refine ⟨(h0.grow.trans c2.grow).trans r2.grow, fun k hk h1 _ => ?_⟩
    obtain ⟨n1, n2⟩ := hlt k hk h1
    rw [r2.block k (by omega) n1 (fun h => h), c2.block k (by omega) n2 (fun h => h)]
    exact h0.block k hk h1 (fun h => h)
/-- One side is changed, the rows. -/
theorem row_to {g : Nat} {T : TypeId} {F : FP} {M' : Cls β} {w0 w1 w3 : World} {n : Int} (h0 : Only F (fun _ => False) w0 w1)
    (hg : w1.heap[g]? = some (.cells #[.map (some B), .map (some C), .int .i64 n] T (0, 0))) (hM : MapsAt c B C rm cm M w1) (hs : SrtC M') (hn : n = M'.length) (hF : F g) (hFl : ∀ k, F k → k < w0.heap.size) (hF1 : ∀ k, oblk B rm k → F k ∨ w0.heap.size ≤ k) (hF2 : ∀ k, oblk C cm k → F k ∨ w0.heap.size ≤ k)
    (hc : colU M' = colU M) (hr : OutTo c B rm (rowOf M') w1 w3) : GrTo c T g M' F w0 w3 :=
  maps_to h0 hg hM hs hn hF hFl hF1 hF2 ⟨cm, by rw [hc]; exact hM.col, Only.refl _ _ _, fun k hk => .inl hk⟩ (fun _ => hr)
end

end Go.Proofs.YtfgkaookgfghoaaGreat
