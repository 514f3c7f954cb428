/-
  The bytes of a call with nothing in it.
-/
import Derived.Test.YtbndegkgpoemnaaCodA
import Derived.Deep.RegionWith
namespace Go.Proofs.Ytbndegkgpoemnaa
open Go.RowKit
set_option linter.unusedVariables false
set_option linter.unusedSimpArgs false

theorem OwnN.readsI {B : Nat} {v : Value} {l : List Int} {w : World} (h : OwnN B v l w) : RdI w v l := by
  have h' := h
  obtain ⟨h1, h2⟩ := h
  rcases h2 with ⟨rfl, h0⟩ | ⟨g, cap, cur, rfl, hg, hh, hc, hr⟩
  · exact .inl ⟨rfl, List.length_eq_zero_iff.1 h0⟩
  · refine .inr ⟨⟨g, 0, none⟩, cap, rfl, hc, fun i hi => ?_⟩
    exact World.ownsRow.cells h' rfl i _ (by simp [Is, hi])
theorem pointsC {w : World} {b : Nat} {k t n : Int} {v : Value} (h : w.heap[b]? = some (.cells #[.int .i64 k, .int .i64 t, .int .i64 n, v] 28 (0, 0))) :
    Points w.heap.size w.heap.size [.pointer (some ⟨b, 0, none⟩), .pointer (some ⟨b, 0 + 1, none⟩), .pointer (some ⟨b, 0 + 2, none⟩)] [k, t, n] w := by
  have hb : b < w.heap.size := (Array.getElem?_eq_some_iff.1 h).1
  refine ⟨rfl, fun i v hi => ?_⟩
  match i, hi with
  | 0, hi => simp at hi; subst hi; exact ⟨b, 0, rfl, hb, by omega, by rw [World.cell?, h]; rfl⟩
  | 1, hi => simp at hi; subst hi; exact ⟨b, 1, rfl, hb, by omega, by rw [World.cell?, h]; rfl⟩
  | 2, hi => simp at hi; subst hi; exact ⟨b, 2, rfl, hb, by omega, by rw [World.cell?, h]; rfl⟩
  | i + 3, hi => simp at hi
theorem box_cell (W : World) : (W.alloc (.cells #[.int .i64 0] 3)).cell? ⟨W.heap.size, 0, none⟩ = some (.int .i64 0) := by
  rw [World.cell?, World.alloc_heap_new]; rfl
theorem OwnB.ofC {S S' : Nat} {v : Value} {l : List Value} {w w' : World} (h : OwnB S v l w) (hS : S' ≤ S) (hk : ∀ k, v.ownBlock = some k → w'.heap[k]? = w.heap[k]?) : OwnB S' v l w' := by
  refine ⟨h.1, ?_⟩
  rcases h.2 with h | ⟨g, cap, cur, h1, h2, h3, h4⟩
  · exact .inl h
  · exact .inr ⟨g, cap, cur, h1, Nat.le_trans hS h2, (hk g (by rw [h1]; rfl)).trans h3, h4⟩
theorem lt_alloc {w : World} {o : Obj} {x : Nat} (h : x < w.heap.size) : x < (w.alloc o).heap.size := by simp; omega
theorem rowV_alloc {w : World} {o : Obj} {b : Nat} {vs : List Value} (h : RowV w b vs) (hb : b < w.heap.size) : RowV (w.alloc o) b vs := fun i v hi => (World.cell?_of_block (a := ⟨b, i, none⟩) (Below.heap_alloc _ _ _ hb)).trans (h i v hi)
theorem numbers_at {x1 y1 cb : Nat} {k t n : Int} {v : Value} {w : World} (hx : w.cell? ⟨x1, 0, none⟩ = some (.slice (some ⟨y1, 0, none⟩) 3 3)) (l1 : x1 < w.heap.size) (l2 : y1 < w.heap.size) (hr : RowV w y1 [.pointer (some ⟨cb, 0, none⟩), .pointer (some ⟨cb, 0 + 1, none⟩), .pointer (some ⟨cb, 0 + 2, none⟩)]) (hc : w.heap[cb]? = some (.cells #[.int .i64 k, .int .i64 t, .int .i64 n, v] 28 (0, 0))) :
    Calls Try.prog 28 #[.func (.func 76) #[] #[.pointer (some ⟨x1, 0, none⟩)]] w fun e w' => ∃ v', e = .returned v' ∧ OwnN w.heap.size v' [k, t, n] w' ∧ Below w.heap.size w w' :=
  code_numbers x1 y1 3 [.pointer (some ⟨cb, 0, none⟩), .pointer (some ⟨cb, 0 + 1, none⟩), .pointer (some ⟨cb, 0 + 2, none⟩)] [k, t, n] w hx l1 l2 hr (by simp) (pointsC hc)
theorem numbers_alloc {x1 y1 cb : Nat} {k t n : Int} {v : Value} {w : World} {o : Obj} (hx : w.cell? ⟨x1, 0, none⟩ = some (.slice (some ⟨y1, 0, none⟩) 3 3)) (l1 : x1 < w.heap.size) (l2 : y1 < w.heap.size) (hr : RowV w y1 [.pointer (some ⟨cb, 0, none⟩), .pointer (some ⟨cb, 0 + 1, none⟩), .pointer (some ⟨cb, 0 + 2, none⟩)]) (hc : w.heap[cb]? = some (.cells #[.int .i64 k, .int .i64 t, .int .i64 n, v] 28 (0, 0))) :
    Calls Try.prog 28 #[.func (.func 76) #[] #[.pointer (some ⟨x1, 0, none⟩)]] (w.alloc o) fun e w' => ∃ v', e = .returned v' ∧ OwnN (w.alloc o).heap.size v' [k, t, n] w' ∧ Below (w.alloc o).heap.size (w.alloc o) w' :=
  numbers_at ((World.cell?_of_block (a := ⟨x1, 0, none⟩) (Below.heap_alloc _ _ _ l1)).trans hx) (lt_alloc l1) (lt_alloc l2) (rowV_alloc hr l2) ((Below.heap_alloc _ _ _ (Array.getElem?_eq_some_iff.1 hc).1).trans hc)
theorem app_old {N ub : Nat} {v2 : Value} {l : List Int} {a w2 : World} {A : Nat} (ho : OwnN N v2 l w2) (hc : w2.cell? ⟨ub, 0, none⟩ = some (.int .i64 0)) (hl : l.length ≤ 1000) (hN : N ≤ w2.heap.size) (hb : Below A a w2) (hA : A ≤ N) :
    ∃ v5 w5, (appI #[v2, .slice (some ⟨ub, 0, none⟩) 1 1]).run Try.prog w2 = .ok v5 w5 ∧ OwnN N v5 (l ++ [0]) w5 ∧ Below A a w5 := by
  obtain ⟨v5, w5, h1, h2, h3, -⟩ := run_appI ho hc hl hN
  exact ⟨v5, w5, h1, h2, hb.grown h3 (by omega) (fun k hk => Nat.le_trans hA (ho.block hk).1)⟩
theorem app_new {N : Nat} {v2 : Value} {l : List Int} {a w2 : World} {A : Nat} (ho : OwnN N v2 l w2) (hl : l.length ≤ 1000) (hN : N ≤ w2.heap.size) (hb : Below A a w2) (hA : A ≤ N) :
    ∃ v5 w5, (appI #[v2, .slice (some ⟨w2.heap.size, 0, none⟩) 1 1]).run Try.prog (w2.alloc (.cells #[.int .i64 0] 3)) = .ok v5 w5 ∧ OwnN N v5 (l ++ [0]) w5 ∧ Below A a w5 :=
  app_old (ho.of (Nat.le_refl _) (fun k hk => Below.heap_alloc _ _ _ (ho.block hk).2)) (box_cell w2) hl (by simp; omega) (hb.alloc (by omega) _) hA
end Go.Proofs.Ytbndegkgpoemnaa
