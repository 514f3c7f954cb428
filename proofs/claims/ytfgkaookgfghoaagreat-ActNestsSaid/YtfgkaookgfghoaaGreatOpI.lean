/-
  A slice of integers that comes in, read as a list. Over any program.
-/
import Derived.Test.YtfgkaookgfghoaaGreatLaw
import Derived.Test.YtfgkaookgfghoaaGreatFlat
import Derived.Below
import Derived.Deep.Matrix
namespace Go.Proofs.YtfgkaookgfghoaaGreat
open Go.ChangeShapes Go.WideShapes Go.ChangeAt Go.RowKit Go.Deep
set_option linter.unusedVariables false

/-- A slice of integers reads as these. -/
def RdI (w : World) (v : Value) (l : List Int) : Prop :=
  (v = .slice none 0 0 ∧ l = []) ∨ ∃ a cap, v = .slice (some a) l.length cap ∧ l.length ≤ cap ∧ ∀ i, i < l.length → w.cell? (a.add i) = some (.int .i64 (l.getD i 0))
theorem cell_blockI {w : World} {a : Addr} {v : Value} (h : w.cell? a = some v) : a.block < w.heap.size := by
  by_cases hh : a.block < w.heap.size
  · exact hh
  · simp [World.cell?, Array.getElem?_eq_none (Nat.le_of_not_lt hh)] at h
theorem RdI.below {w w' : World} {v : Value} {l : List Int} (h : RdI w v l) (hb : Below w.heap.size w w') : RdI w' v l := by
  rcases h with h | ⟨a, cap, hv, hc, hcell⟩
  · exact .inl h
  · refine .inr ⟨a, cap, hv, hc, fun i hi => ?_⟩
    have hl := cell_blockI (hcell i hi)
    rw [hb.cell hl]; exact hcell i hi
theorem RdI.lenOf {w : World} {v : Value} {l : List Int} (h : RdI w v l) : ∃ ao cap, v = .slice ao l.length cap := by
  rcases h with ⟨rfl, rfl⟩ | ⟨a, cap, rfl, -⟩
  · exact ⟨_, _, rfl⟩
  · exact ⟨_, _, rfl⟩
theorem RdI.at {w : World} {ao : Option Addr} {n cap : Nat} {l : List Int} (h : RdI w (.slice ao n cap) l) {i : Nat} (hi : i < l.length) : ∃ a, ao = some a ∧ w.cell? (a.add i) = some (.int .i64 (l.getD i 0)) := by
  rcases h with ⟨hv, rfl⟩ | ⟨a, cap', hv, hc, hcell⟩
  · simp at hi
  · injection hv with h1 h2 h3
    exact ⟨a, h1, hcell i hi⟩

section
variable {H : Type} {enc : TypeId × Value → H} {P : Program} {w : World} {base : Nat} {held : Bool}
theorem open_RdI0 {t e : TypeId} {k : IntKind} {v : Value} {d : DataW H} {p : List MemPlace} (ht : P.underlying t = some (.slice e)) (he : P.underlying e = some (.int k)) (hc : P.cellsOf e = 1)
    (h : ∃ fuel, DataW.trod enc P w base (fun _ => true) held fuel t [v] = some (d, p)) : (v = .slice none 0 0) ∨
      ∃ (a : Addr) (len cap : Nat) (zs : List Int), v = .slice (some a) len cap ∧ len ≤ cap ∧ cap ≤ maxLen ∧ zs.length = cap ∧ (∀ i, i < cap → w.cell? (a.add i) = some (.int k (zs.getD i 0))) ∧ (∀ n ∈ zs, (Lit.int k n).wf = true) := by
  obtain ⟨fuel, hf⟩ := h
  rcases open_ints ht he hc hf with ⟨hcs, -⟩ | ⟨a, len, cap, zs, hcs, hb, hl, hm, hz, -, hcell, hwz⟩
  · exact .inl (by simpa using hcs)
  · simp only [if_true] at hz
    exact .inr ⟨a, len, cap, zs, by simpa using hcs, hl, hm, hz, fun i hi => hcell i (by omega), hwz⟩
theorem cells_sliceI {v : Value} {r : Reach} {b0 : Nat} {t e : TypeId} (ht : P.underlying t = some (.slice e)) (hv : Value.okWide P w r b0 t v) : v.cells.toList = [v] := by
  unfold Value.okWide at hv
  rw [ht] at hv
  simp only [Cell.okWide, Cell.ok, ht] at hv
  cases v <;> simp [Value.cells] at hv ⊢
theorem open_RdI {t e : TypeId} {v : Value} {d : DataW H} {p : List MemPlace} {r : Reach} {b0 : Nat} (ht : P.underlying t = some (.slice e)) (he : P.underlying e = some (.int .i64)) (hc : P.cellsOf e = 1)
    (hv : Value.okWide P w r b0 t v) (h : DataW.Trod enc P w base (fun _ => true) held t v d p) : ∃ l : List Int, RdI w v l ∧ (∀ n ∈ l, (Lit.int .i64 n).wf = true) ∧ l.length ≤ maxLen := by
  obtain ⟨fuel, hf⟩ := h
  rw [cells_sliceI ht hv] at hf
  rcases open_RdI0 ht he hc ⟨fuel, hf⟩ with rfl | ⟨a, len, cap, zs, rfl, hl, hm, hz, hcell, hw⟩
  · exact ⟨[], .inl ⟨rfl, rfl⟩, by simp, by simp⟩
  · have hlen : (zs.take len).length = len := by simp; omega
    refine ⟨zs.take len, .inr ⟨a, cap, by rw [hlen], by rw [hlen]; exact hl, fun i hi => ?_⟩, fun n hn => hw n (List.mem_of_mem_take hn), by rw [hlen]; omega⟩
    rw [hlen] at hi
    rw [hcell i (by omega)]
    have hiz : i < zs.length := by omega
    simp [hiz, hi]
end
end Go.Proofs.YtfgkaookgfghoaaGreat
