/-
  A slice of tallies that comes in.
-/
import Derived.Test.YtgoomkailpnjaaaFlats
import Derived.Test.YtgoomkailpnjaaaTal4
namespace Go.Proofs.Ytgoomkailpnjaaa
open Go.ChangeShapes Go.WideShapes Go.ChangeAt Go.RowKit Go.Deep
set_option linter.unusedVariables false

section
variable {H : Type} {enc : TypeId × Value → H} {P : Program} {w : World} {base : Nat} {held : Bool}

theorem fits_tal {cs : List Value} (h : Fits [some .i64, some .i64, some .i64] cs) : ∃ x : Tal, cs = [.int .i64 x.a, .int .i64 x.n, .int .i64 x.s] := by
  obtain ⟨a, c1, rfl, -, f1⟩ := fits_int h
  obtain ⟨b, c2, rfl, -, f2⟩ := fits_int f1
  obtain ⟨c, c3, rfl, -, f3⟩ := fits_int f2
  obtain rfl := fits_nil f3
  exact ⟨⟨a, b, c⟩, rfl⟩

theorem open_RdT {t e : TypeId} {v : Value} {d : DataW H} {p : List MemPlace} {r : Reach} {b0 : Nat} (n : Nat) (ht : P.underlying t = some (.slice e)) (hl : leaves P n e = some [some .i64, some .i64, some .i64]) (hc : P.cellsOf e = 3)
    (hv : Value.okWide P w r b0 t v) (h : DataW.Trod enc P w base (fun _ => true) held t v d p) : ∃ l : List Tal, RdT w v l ∧ l.length ≤ maxLen := by
  rcases open_flats n ht hl hc hv h with rfl | ⟨a, len, cap, C, rfl, hle, hm, hC⟩
  · exact ⟨[], .inl ⟨rfl, rfl⟩, by simp⟩
  · obtain ⟨T, hT⟩ := choose_lt (α := Tal) (p := fun i x => C i = [.int .i64 x.a, .int .i64 x.n, .int .i64 x.s]) (fun i hi => fits_tal (hC i hi).1)
    have hlen : ((List.range len).map T).length = len := by simp
    refine ⟨(List.range len).map T, .inr ⟨a, cap, by rw [hlen], by rw [hlen]; exact hle, fun i hi => ?_⟩, by rw [hlen]; omega⟩
    rw [hlen] at hi
    obtain ⟨hf, hcell⟩ := hC i (by omega)
    have h0 := hcell 0 (by simp)
    have h1 := hcell 1 (by simp)
    have h2 := hcell 2 (by simp)
    rw [hT i (by omega)] at h0 h1 h2
    have g0 := (hC 0 (by omega)).2 0 (by simp)
    rw [hT 0 (by omega)] at g0
    have hsp := World.cell?_spot g0
    obtain ⟨blk, off, spot⟩ := a
    have hspot : spot = none := by simpa [Addr.add] using hsp
    subst hspot
    have hb := World.block_lt_of_cell? w _ h0
    have e : ((List.range len).map T)[i]'(by rw [hlen]; exact hi) = T i := by simp
    simp only [Addr.add_lit, List.length_cons, List.length_nil, Nat.reduceAdd, Nat.add_zero] at h0 h1 h2 hb
    rw [e]
    exact ⟨blk, off, rfl, hb, by simpa using h0, by simpa [Nat.add_assoc] using h1, by simpa [Nat.add_assoc] using h2⟩
end
end Go.Proofs.Ytgoomkailpnjaaa
