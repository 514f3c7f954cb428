/-
  A slice of structs of a flat type: element by element, its cells are so many integers and bools. Over any program.
-/
import Derived.Test.YteioacpfphigjaaGreatDoorMgj
import Derived.Deep.Slices
namespace Go.Proofs.YteioacpfphigjaaGreatDoor
open Go.ChangeShapes Go.WideShapes Go.ChangeAt Go.RowKit Go.Deep
set_option linter.unusedVariables false

section
variable {H : Type} {enc : TypeId × Value → H} {P : Program} {w : World} {base : Nat} {held : Bool}

theorem cells_slice' {v : Value} {r : Reach} {b0 : Nat} {t e : TypeId} (ht : P.underlying t = some (.slice e)) (hv : Value.okWide P w r b0 t v) : v.cells.toList = [v] := by
  unfold Value.okWide at hv
  rw [ht] at hv
  simp only [Cell.okWide, Cell.ok, ht] at hv
  cases v <;> simp [Value.cells] at hv ⊢

theorem open_flats {t e : TypeId} {ls : List Leaf} {v : Value} {d : DataW H} {p : List MemPlace} {r : Reach} {b0 : Nat} (n : Nat) (ht : P.underlying t = some (.slice e)) (hl : leaves P n e = some ls) (hc : P.cellsOf e = ls.length)
    (hv : Value.okWide P w r b0 t v) (h : DataW.Trod enc P w base (fun _ => true) held t v d p) :
    v = .slice none 0 0 ∨ ∃ (a : Addr) (len cap : Nat) (C : Nat → List Value), v = .slice (some a) len cap ∧ len ≤ cap ∧ cap ≤ maxLen ∧ ∀ i, i < cap → Fits ls (C i) ∧ ∀ j, j < ls.length → w.cell? (a.add (i * ls.length + j)) = (C i)[j]? := by
  obtain ⟨fuel, hf⟩ := h
  rw [cells_slice' ht hv] at hf
  rcases open_slice ht hf with ⟨h0, -⟩ | ⟨a, len, cap, m, k, D, Pl, hcs, hb, hle, hm, hmm, -, hx⟩
  · exact .inl (by simpa using h0)
  · simp only [if_true] at hmm
    subst hmm
    right
    rw [hc] at hx
    obtain ⟨C, hC⟩ := choose_lt (α := List Value) (p := fun i cs => Fits ls cs ∧ ∀ j, j < ls.length → w.cell? (a.add (i * ls.length + j)) = cs[j]?) (fun i hi => by
      obtain ⟨cs', h1, h2⟩ := hx i hi
      obtain ⟨_, hlen, hcell⟩ := World.cells?_some h1
      refine ⟨cs', flat_fits n e ls hl k _ _ h2, fun j hj => ?_⟩
      have := hcell j (by omega)
      rwa [add_add] at this)
    exact ⟨a, len, m, C, by simpa using hcs, hle, hm, hC⟩
end
end Go.Proofs.YteioacpfphigjaaGreatDoor
