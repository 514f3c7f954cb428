/-
  The law's acts, opened.
-/
import Derived.Test.YtjmaeiphjjjdoaaChecked
import Derived.Test.YtjmaeiphjjjdoaaFlats
import Derived.Test.YtjmaeiphjjjdoaaRowTy
namespace Go.Proofs.Ytjmaeiphjjjdoaa
open Go.ChangeShapes Go.WideShapes Go.ChangeAt Go.RowKit Go.Deep Go.Maps
set_option linter.unusedVariables false
set_option linter.unusedSimpArgs false
set_option linter.constructorNameAsVariable false

/-- Structs that are only read, one by one. -/
def RdS {P : Program} {α : Type} (r : RowTy P α) (w : World) (v : Value) (xs : List α) : Prop :=
  ∃ ao cap, v = .slice ao xs.length cap ∧ ∀ i (hi : i < xs.length), ∃ b off, ao = some ⟨b, off, none⟩ ∧ w.rangeAt b (off + i * r.k) (r.f xs[i]) ∧ b < w.heap.size
theorem RdS.below {P : Program} {α : Type} {r : RowTy P α} {w w' : World} {v : Value} {xs : List α} {N : Nat} (h : RdS r w v xs) (hb : Below w.heap.size w w') : RdS r w' v xs := by
  obtain ⟨ao, cap, e, h2⟩ := h
  refine ⟨ao, cap, e, fun i hi => ?_⟩
  obtain ⟨b, off, e1, e2, e3⟩ := h2 i hi
  exact ⟨b, off, e1, rangeAt_block e2 (hb.block b e3), Nat.lt_of_lt_of_le e3 hb.size⟩

abbrev A4 := Int × Int × Int × Int
def ac (x : A4) : List Value := [.int .i64 x.1, .int .i64 x.2.1, .int .i64 x.2.2.1, .int .i64 x.2.2.2]
theorem actInfo : (Try.prog.info? 33).map (fun i => (i.zero, i.size, i.bytes)) = some (some (.agg #[.int .i64 0, .int .i64 0, .int .i64 0, .int .i64 0]), 4, 32) := by kernel_rfl
def actR : RowTy Try.prog A4 where
  T := 33
  S := 23
  k := 4
  f := ac
  len := fun _ => rfl
  one := fun x u hu => by
    simp only [ac, List.mem_cons, List.not_mem_nil, or_false] at hu
    rcases hu with rfl | rfl | rfl | rfl <;> rfl
  pos := by decide
  small := by decide
  slice := Try.underlying23
  info := by
    obtain ⟨i0, hi, hz⟩ := Option.map_eq_some_iff.1 actInfo
    simp only [Prod.mk.injEq] at hz
    obtain ⟨h1, h2, h3⟩ := hz
    exact ⟨i0, _, _, hi, h1, h2, rfl, h3, by decide⟩
  row := ⟨_, Try.underlying33, rfl⟩
def ActWf (x : A4) : Prop := (Lit.int .i64 x.1).wf = true ∧ (Lit.int .i64 x.2.1).wf = true ∧ (Lit.int .i64 x.2.2.1).wf = true ∧ (Lit.int .i64 x.2.2.2).wf = true
theorem fits_act {cs : List Value} (h : Fits [some .i64, some .i64, some .i64, some .i64] cs) : ∃ x : A4, cs = ac x ∧ ActWf x := by
  obtain ⟨a, c1, rfl, w1, f1⟩ := fits_int h
  obtain ⟨b, c2, rfl, w2, f2⟩ := fits_int f1
  obtain ⟨c, c3, rfl, w3, f3⟩ := fits_int f2
  obtain ⟨d, c4, rfl, w4, f4⟩ := fits_int f3
  obtain rfl := fits_nil f4
  exact ⟨(a, b, c, d), rfl, w1, w2, w3, w4⟩
section
variable {H : Type} {enc : TypeId × Value → H} {P : Program} {w : World} {base : Nat} {held : Bool}
theorem open_actsG (R : RowTy P A4) (hRk : R.k = 4) (hRf : R.f = ac) {t e : TypeId} {v : Value} {d : DataW H} {p : List MemPlace} {r : Reach} {b0 : Nat} (n : Nat) (ht : P.underlying t = some (.slice e)) (hl : leaves P n e = some [some .i64, some .i64, some .i64, some .i64]) (hc : P.cellsOf e = 4)
    (hv : Value.okWide P w r b0 t v) (h : DataW.Trod enc P w base (fun _ => true) held t v d p) : ∃ l : List A4, RdS R w v l ∧ (l.length ≤ maxLen ∧ ∀ x ∈ l, ActWf x) := by
  rcases open_flats n ht hl hc hv h with rfl | ⟨a, len, cap, C, rfl, hle, hm, hC⟩
  · exact ⟨[], ⟨none, 0, rfl, fun i hi => absurd hi (Nat.not_lt_zero i)⟩, Nat.zero_le _, fun x hx => absurd hx (List.not_mem_nil)⟩
  · obtain ⟨T, hT⟩ := choose_lt (α := A4) (p := fun i x => C i = ac x ∧ ActWf x) (fun i hi => fits_act (hC i hi).1)
    have hlen : ((List.range len).map T).length = len := by simp
    refine ⟨(List.range len).map T, ⟨some a, cap, by rw [hlen], fun i hi => ?_⟩, by rw [hlen]; omega, fun x hx => ?_⟩
    · rw [hlen] at hi
      obtain ⟨hf, hcell⟩ := hC i (by omega)
      have hT' := (hT i (by omega)).1
      have hbl : ∀ j, j < 4 → w.cell? (a.add (i * 4 + j)) = (ac (T i))[j]? := fun j hj => by
        have := hcell j (by simpa using hj)
        rw [hT'] at this
        simpa using this
      have h0 : w.cell? (a.add (i * 4)) = some (.int .i64 (T i).1) := by have := hbl 0 (by omega); simpa [ac] using this
      have g0 := (hC 0 (by omega)).2 0 (by simp)
      rw [(hT 0 (by omega)).1] at g0
      have hsp := World.cell?_spot g0
      obtain ⟨blk, off, spot⟩ := a
      have hspot : spot = none := by simpa [Addr.add] using hsp
      subst hspot
      have hb := World.block_lt_of_cell? w _ h0
      have e : ((List.range len).map T)[i]'(by rw [hlen]; exact hi) = T i := by simp
      refine ⟨blk, off, rfl, fun j u hj => ?_, by simpa [Addr.add_mid] using hb⟩
      rw [e, hRf] at hj
      have hj4 : j < 4 := by
        have := (List.getElem?_eq_some_iff.1 hj).1
        simpa [ac] using this
      have := hbl j hj4
      rw [Addr.add_mid, ← Nat.add_assoc] at this
      rw [hRk, this]
      exact hj
    · obtain ⟨i, hi, rfl⟩ := List.mem_map.1 hx
      exact (hT i (by have := List.mem_range.1 hi; omega)).2
end
theorem open_acts {H : Type} {enc : TypeId × Value → H} {w : World} {base : Nat} {held : Bool} {v : Value} {d : DataW H} {p : List MemPlace} {r : Reach} {b0 : Nat} (n : Nat) (ht : Try.prog.underlying 23 = some (.slice 33)) (hl : leaves Try.prog n 33 = some [some .i64, some .i64, some .i64, some .i64]) (hc : Try.prog.cellsOf 33 = 4)
    (hv : Value.okWide Try.prog w r b0 23 v) (h : DataW.Trod enc Try.prog w base (fun _ => true) held 23 v d p) : ∃ l : List A4, RdS actR w v l ∧ (l.length ≤ maxLen ∧ ∀ x ∈ l, ActWf x) :=
  by
  have q := open_actsG (H := H) (enc := enc) (w := w) (base := base) (held := held) (v := v) (d := d) (p := p) (r := r) (b0 := b0) (t := 23) (e := 33) actR rfl rfl n ht hl hc
  revert hv h
  with_reducible exact q

end Go.Proofs.Ytjmaeiphjjjdoaa
