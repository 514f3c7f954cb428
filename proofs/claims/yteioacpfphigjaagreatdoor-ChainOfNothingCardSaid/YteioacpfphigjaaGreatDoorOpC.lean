/-
  A call that comes in, read as a tree.
-/
import Derived.Test.YteioacpfphigjaaGreatDoorTre
import Derived.Test.YteioacpfphigjaaGreatDoorFlats
import Derived.Test.YteioacpfphigjaaGreatDoorMgj
import Derived.ChangeArms
namespace Go.Proofs.YteioacpfphigjaaGreatDoor
open Go.ChangeShapes Go.WideShapes Go.ChangeAt Go.RowKit Go.Deep
set_option linter.unusedVariables false
set_option linter.unusedSimpArgs false
set_option linter.constructorNameAsVariable false

mutual
/-- No row of calls is longer than may be. -/
def LenC : Cl → Prop
  | .mk _ _ _ l => l.length ≤ maxLen ∧ LensC l
def LensC : List Cl → Prop
  | [] => True
  | c :: l => LenC c ∧ LensC l
end
theorem lensC_iff : ∀ l : List Cl, LensC l ↔ ∀ c ∈ l, LenC c
  | [] => by simp [LensC]
  | c :: l => by rw [LensC, lensC_iff l]; simp
theorem lenC_iff (c : Cl) : LenC c ↔ c.kids.length ≤ maxLen ∧ ∀ x ∈ c.kids, LenC x := by cases c; rw [LenC, lensC_iff]; rfl
instance : Inhabited Cl := ⟨.mk 0 0 0 []⟩
theorem RdC.mono {w : World} : ∀ {d d' : Nat} {v : Value} {c : Cl}, d ≤ d' → RdC w d v c → RdC w d' v c
  | 0, _, _, _, _, h => h.elim
  | d + 1, 0, _, _, hd, _ => absurd hd (by omega)
  | d + 1, d' + 1, v, c, hd, ⟨ao, cap, e, h⟩ => ⟨ao, cap, e, fun i hi => by
    obtain ⟨b, off, vs, e1, e2, e3, e4⟩ := h i hi
    exact ⟨b, off, vs, e1, e2, e3, RdC.mono (by omega) e4⟩⟩
theorem RdCs.mono {w : World} {d d' : Nat} {ao : Option Addr} {l : List Cl} (hd : d ≤ d') (h : RdCs w d ao l) : RdCs w d' ao l := fun i hi => by
  obtain ⟨b, off, vs, e1, e2, e3, e4⟩ := h i hi
  exact ⟨b, off, vs, e1, e2, e3, RdC.mono hd e4⟩
theorem list4 {α : Type} {l : List α} (h : l.length = 4) : ∃ a b c d, l = [a, b, c, d] := by
  match l, h with
  | [a, b, c, d], _ => exact ⟨a, b, c, d, rfl⟩
theorem callFields : ∃ fs, Tryz.prog.underlying 28 = some (.struct fs) ∧ fs.size = 4 ∧ (∃ f, fs[0]? = some f ∧ f.type = 3 ∧ f.offset = 0) ∧ (∃ f, fs[1]? = some f ∧ f.type = 3 ∧ f.offset = 1) ∧ (∃ f, fs[2]? = some f ∧ f.type = 3 ∧ f.offset = 2) ∧ (∃ f, fs[3]? = some f ∧ f.type = 26 ∧ f.offset = 3) :=
  ⟨_, Tryz.underlying28, rfl, ⟨_, rfl, rfl, rfl⟩, ⟨_, rfl, rfl, rfl⟩, ⟨_, rfl, rfl, rfl⟩, ⟨_, rfl, rfl, rfl⟩⟩
theorem cellsOf_int : Tryz.prog.cellsOf 3 = 1 := by kernel_rfl
theorem cellsOf_call : Tryz.prog.cellsOf 28 = 4 := by kernel_rfl
theorem cellsOf_calls : Tryz.prog.cellsOf 26 = 1 := by kernel_rfl
section
variable {H : Type} {enc : TypeId × Value → H} {w : World} {base : Nat} {held : Bool}
theorem trod_field {fuel : Nat} {t : TypeId} {cs : List Value} {xs : List (DataW H × List MemPlace)} {i : Nat} (h : DataW.trod enc Tryz.prog w base (fun _ => true) held fuel t cs = xs[i]?) (hi : i < xs.length) : ∃ x, DataW.trod enc Tryz.prog w base (fun _ => true) held fuel t cs = some x := ⟨xs[i], by rw [h, List.getElem?_eq_getElem hi]⟩
theorem open_callsF {fuel : Nat} {v : Value} {x : DataW H × List MemPlace} (h : DataW.trod enc Tryz.prog w base (fun _ => true) held fuel 26 [v] = some x)
    (ih : ∀ n, n < fuel → ∀ (cs : List Value) x, DataW.trod enc Tryz.prog w base (fun _ => true) held n 28 cs = some x → ∃ c, RdC w n (.agg cs.toArray) c ∧ LenC c) :
    ∃ (l : List Cl) (ao : Option Addr) (cap d : Nat), v = .slice ao l.length cap ∧ d < fuel ∧ RdCs w d ao l ∧ (l.length ≤ maxLen ∧ ∀ c ∈ l, LenC c) := by
  rcases DataW.trod_slice Tryz.underlying26 h with ⟨h0, -⟩ | ⟨a, len, cap, elems, rest, n, rfl, hcs, -, -, hle, hm, hlen, hel, -, -⟩
  · injection h0 with h0 _
    refine ⟨[], none, 0, 0, h0, ?_, fun i hi => absurd hi (Nat.not_lt_zero i), Nat.zero_le _, fun c hc => absurd hc List.not_mem_nil⟩
    cases fuel with
    | zero => simp [DataW.trod] at h
    | succ n => omega
  · injection hcs with hv _
    have key : ∀ i, i < len → ∃ (vs : List Value) (c : Cl), w.cells? base (a.add (i * 4)) 4 = some vs ∧ RdC w n (.agg vs.toArray) c ∧ LenC c := fun i hi => by
      have h1 := hel i hi
      rw [cellsOf_call, List.getElem?_eq_getElem (by omega)] at h1
      obtain ⟨vs, h2, h3⟩ := Option.bind_eq_some_iff.1 h1
      obtain ⟨c, h4, h5⟩ := ih n (by omega) vs _ h3
      exact ⟨vs, c, h2, h4, h5⟩
    obtain ⟨T, hT⟩ := choose_lt (α := List Value × Cl) (p := fun i x => w.cells? base (a.add (i * 4)) 4 = some x.1 ∧ RdC w n (.agg x.1.toArray) x.2 ∧ LenC x.2) (fun i hi => by obtain ⟨vs, c, h⟩ := key i hi; exact ⟨(vs, c), h⟩)
    have hl : ((List.range len).map fun i => (T i).2).length = len := by simp
    refine ⟨(List.range len).map fun i => (T i).2, some a, cap, n, by rw [hl]; exact hv, by omega, fun i hi => ?_, by rw [hl]; omega, fun c hc => ?_⟩
    · rw [hl] at hi
      obtain ⟨h1, h2, h3⟩ := hT i hi
      obtain ⟨-, hl4, hcell⟩ := World.cells?_some h1
      obtain ⟨h0, -, -⟩ := hT 0 (by omega)
      obtain ⟨-, hl0, hcell0⟩ := World.cells?_some h0
      have g0 : w.cell? ((a.add (0 * 4)).add 0) = some ((T 0).1[0]'(by omega)) := by rw [hcell0 0 (by omega), List.getElem?_eq_getElem (by omega)]
      have hsp := World.cell?_spot g0
      obtain ⟨blk, off, spot⟩ := a
      have hspot : spot = none := by simpa [Addr.add] using hsp
      subst hspot
      have hlt := World.block_lt_of_cell? w _ g0
      rw [Addr.add_mid, Addr.add_mid] at hlt
      have e : ((List.range len).map fun i => (T i).2)[i]'(by rw [hl]; exact hi) = (T i).2 := by simp
      refine ⟨blk, off, (T i).1, rfl, hlt, fun j u hj => ?_, by rw [e]; exact h2⟩
      have hj4 : j < 4 := by have := (List.getElem?_eq_some_iff.1 hj).1; omega
      have := hcell j hj4
      rw [Addr.add_mid, Addr.add_mid] at this
      rw [this]; exact hj
    · obtain ⟨i, hi, rfl⟩ := List.mem_map.1 hc
      exact (hT i (List.mem_range.1 hi)).2.2
theorem open_callF : ∀ (fuel : Nat) (cs : List Value) (x : DataW H × List MemPlace), DataW.trod enc Tryz.prog w base (fun _ => true) held fuel 28 cs = some x → ∃ c, RdC w fuel (.agg cs.toArray) c ∧ LenC c := by
  intro fuel
  induction fuel using Nat.strongRecOn with
  | _ fuel ih =>
    intro cs x h
    obtain ⟨fs, hu, hfs, ⟨f0, g0, t0, o0⟩, ⟨f1, g1, t1, o1⟩, ⟨f2, g2, t2, o2⟩, ⟨f3, g3, t3, o3⟩⟩ := callFields
    obtain ⟨xs, n, rfl, -, hlen, hxl, hf⟩ := DataW.trod_struct hu h
    rw [cellsOf_call] at hlen
    obtain ⟨v0, v1, v2, v3, rfl⟩ := list4 hlen
    have a0 := hf 0 f0 g0
    have a1 := hf 1 f1 g1
    have a2 := hf 2 f2 g2
    have a3 := hf 3 f3 g3
    rw [t0, o0, cellsOf_int] at a0
    rw [t1, o1, cellsOf_int] at a1
    rw [t2, o2, cellsOf_int] at a2
    rw [t3, o3, cellsOf_calls] at a3
    obtain ⟨y0, b0⟩ := trod_field a0 (by omega)
    obtain ⟨y1, b1⟩ := trod_field a1 (by omega)
    obtain ⟨y2, b2⟩ := trod_field a2 (by omega)
    obtain ⟨y3, b3⟩ := trod_field a3 (by omega)
    obtain ⟨k, e0, -, -⟩ := DataW.trod_int Tryz.underlying3 b0
    obtain ⟨t, e1, -, -⟩ := DataW.trod_int Tryz.underlying3 b1
    obtain ⟨m, e2, -, -⟩ := DataW.trod_int Tryz.underlying3 b2
    obtain ⟨l, ao, cap, d, e3, hd, hr, hl1, hl2⟩ := open_callsF (v := v3) b3 (fun j hj => ih j (by omega))
    have e0' : v0 = .int .i64 k := by simpa using e0
    have e1' : v1 = .int .i64 t := by simpa using e1
    have e2' : v2 = .int .i64 m := by simpa using e2
    subst e0' e1' e2' e3
    exact ⟨.mk k t m l, ⟨ao, cap, rfl, RdCs.mono (by omega) hr⟩, (lenC_iff _).2 ⟨hl1, hl2⟩⟩
end
section
variable {H : Type} {enc : TypeId × Value → H} {P : Program} {w : World} {base : Nat} {held : Bool}
theorem trod_slice1 {t e : TypeId} {v : Value} {d : DataW H} {p : List MemPlace} {r : Reach} {b0 : Nat} (ht : P.underlying t = some (.slice e)) (hv : Value.okWide P w r b0 t v) (h : DataW.Trod enc P w base (fun _ => true) held t v d p) :
    ∃ fuel, DataW.trod enc P w base (fun _ => true) held fuel t [v] = some (d, p) := by
  obtain ⟨fuel, hf⟩ := h
  rw [cells_slice' ht hv] at hf
  exact ⟨fuel, hf⟩
theorem trod_struct1 {t : TypeId} {fs : Array Field} {v : Value} {d : DataW H} {p : List MemPlace} {r : Reach} {b0 : Nat} (ht : P.underlying t = some (.struct fs)) (hv : Value.okWide P w r b0 t v) (h : DataW.Trod enc P w base (fun _ => true) held t v d p) :
    ∃ (fuel : Nat) (cs : List Value), v = .agg cs.toArray ∧ DataW.trod enc P w base (fun _ => true) held fuel t cs = some (d, p) := by
  obtain ⟨cs, rfl, _⟩ := okWide_struct ht hv
  obtain ⟨fuel, hf⟩ := h
  exact ⟨fuel, cs.toList, rfl, by simpa [Value.cells] using hf⟩
end
theorem open_calls {H : Type} {enc : TypeId × Value → H} {w : World} {base : Nat} {held : Bool} {v : Value} {d : DataW H} {p : List MemPlace} {r : Reach} {b0 : Nat} (ht : Tryz.prog.underlying 26 = some (.slice 28)) (hv : Value.okWide Tryz.prog w r b0 26 v) (h : DataW.Trod enc Tryz.prog w base (fun _ => true) held 26 v d p) :
    ∃ (l : List Cl) (ao : Option Addr) (cap d : Nat), v = .slice ao l.length cap ∧ RdCs w d ao l ∧ (l.length ≤ maxLen ∧ ∀ c ∈ l, LenC c) := by
  have q := trod_slice1 (H := H) (enc := enc) (w := w) (base := base) (held := held) (v := v) (d := d) (p := p) (r := r) (b0 := b0) (t := 26) ht
  have q2 : ∃ fuel, DataW.trod enc Tryz.prog w base (fun _ => true) held fuel 26 [v] = some (d, p) := by
    revert hv h
    with_reducible exact q
  clear q hv h
  obtain ⟨fuel, hf⟩ := q2
  obtain ⟨l, ao, cap, d, e, -, h1, h2⟩ := open_callsF hf (fun n _ cs x hx => open_callF n cs x hx)
  exact ⟨l, ao, cap, d, e, h1, h2⟩
theorem open_call {H : Type} {enc : TypeId × Value → H} {w : World} {base : Nat} {held : Bool} {fs : Array Field} {v : Value} {d : DataW H} {p : List MemPlace} {r : Reach} {b0 : Nat} (ht : Tryz.prog.underlying 28 = some (.struct fs)) (hv : Value.okWide Tryz.prog w r b0 28 v) (h : DataW.Trod enc Tryz.prog w base (fun _ => true) held 28 v d p) :
    ∃ (c : Cl) (d : Nat), RdC w d v c ∧ LenC c := by
  have q := trod_struct1 (H := H) (enc := enc) (w := w) (base := base) (held := held) (v := v) (d := d) (p := p) (r := r) (b0 := b0) (t := 28) ht
  have q2 : ∃ (fuel : Nat) (cs : List Value), v = .agg cs.toArray ∧ DataW.trod enc Tryz.prog w base (fun _ => true) held fuel 28 cs = some (d, p) := by
    revert hv h
    with_reducible exact q
  clear q hv h
  obtain ⟨fuel, cs, rfl, hf⟩ := q2
  obtain ⟨c, h1, h2⟩ := open_callF fuel _ _ hf
  exact ⟨c, fuel, h1, h2⟩
end Go.Proofs.YteioacpfphigjaaGreatDoor
