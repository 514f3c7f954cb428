/-
  Joined texts.
-/
import Derived.ChangeArms
import Derived.Deep.Slices
import Derived.Test.YtoohcckhdhfpnaaChecked
import Derived.StillTailTactics
import Derived.BigRegion
import Derived.RegionTactic
import Derived.Test.YtoohcckhdhfpnaaMgd

section
namespace Go.Proofs.Ytoohcckhdhfpnaa
open Go.ChangeShapes Go.WideShapes Go.ChangeAt Go.RowKit

section
variable {H : Type} {enc : TypeId × Value → H} {P : Program} {w : World} {base : Nat} {spare : Nat → Bool} {held : Bool}

/-- A cell's kind: an integer's, or none: a bool. -/
abbrev Leaf := Option IntKind

def leafFits : Leaf → Value → Prop
  | some k, v => ∃ n, v = .int k n ∧ (Lit.int k n).wf = true
  | .none, v => ∃ b, v = .bool b

def Fits : List Leaf → List Value → Prop
  | [], [] => True
  | l :: ls, v :: vs => leafFits l v ∧ Fits ls vs
  | _, _ => False

theorem fits_append : ∀ {a b : List Leaf} {x y : List Value}, Fits a x → Fits b y → Fits (a ++ b) (x ++ y)
  | [], _, [], _, _, h => h
  | _ :: _, _, _ :: _, _, h, k => ⟨h.1, fits_append h.2 k⟩
  | [], _, _ :: _, _, h, _ => h.elim
  | _ :: _, _, [], _, h, _ => h.elim

theorem fits_length : ∀ {a : List Leaf} {x : List Value}, Fits a x → x.length = a.length
  | [], [], _ => rfl
  | _ :: _, _ :: _, h => by simp [fits_length h.2]
  | [], _ :: _, h => h.elim
  | _ :: _, [], h => h.elim

theorem fits_int {k : IntKind} {ls : List Leaf} {cs : List Value} (h : Fits (some k :: ls) cs) : ∃ n vs, cs = .int k n :: vs ∧ (Lit.int k n).wf = true ∧ Fits ls vs := by
  match cs, h with
  | v :: vs, h => obtain ⟨⟨n, rfl, hn⟩, hr⟩ := h; exact ⟨n, vs, rfl, hn, hr⟩
theorem fits_bool {ls : List Leaf} {cs : List Value} (h : Fits (.none :: ls) cs) : ∃ b vs, cs = .bool b :: vs ∧ Fits ls vs := by
  match cs, h with
  | v :: vs, h => obtain ⟨⟨b, rfl⟩, hr⟩ := h; exact ⟨b, vs, rfl, hr⟩
theorem fits_nil {cs : List Value} (h : Fits [] cs) : cs = [] := by
  match cs, h with
  | [], _ => rfl

/-- The fields' leaves, where each field begins where the one before it ends. -/
def fieldLeaves (P : Program) (of : TypeId → Option (List Leaf)) : Nat → List Field → Option (List Leaf)
  | _, [] => some []
  | off, f :: fs => match of f.type, fieldLeaves P of (off + P.cellsOf f.type) fs with
    | some a, some b => if f.offset = off ∧ a.length = P.cellsOf f.type then some (a ++ b) else .none
    | _, _ => .none

def repeatLeaves (a : List Leaf) : Nat → List Leaf
  | 0 => []
  | n + 1 => a ++ repeatLeaves a n

/-- A flat type's leaves. -/
def leaves (P : Program) : Nat → TypeId → Option (List Leaf)
  | 0, _ => .none
  | n + 1, t => match P.underlying t with
    | some .bool => some [.none]
    | some (.int k) => some [some k]
    | some (.struct fs) => match fieldLeaves P (leaves P n) 0 fs.toList with
      | some ls => if ls.length = P.cellsOf t then some ls else .none
      | .none => .none
    | some (.array m e) => match leaves P n e with
      | some a => if a.length = P.cellsOf e ∧ m * P.cellsOf e = P.cellsOf t then some (repeatLeaves a m) else .none
      | .none => .none
    | _ => .none

theorem fields_fit {of : TypeId → Option (List Leaf)} {cs : List Value} : ∀ (fs : List Field) (off : Nat) (ls : List Leaf), fieldLeaves P of off fs = some ls →
    (∀ f ∈ fs, ∀ a, of f.type = some a → Fits a ((cs.drop f.offset).take (P.cellsOf f.type))) → ∃ pre rest, cs.drop off = pre ++ rest ∧ Fits ls pre
  | [], off, ls, h, _ => by
    simp only [fieldLeaves, Option.some.injEq] at h; subst h
    exact ⟨[], _, rfl, trivial⟩
  | f :: fs, off, ls, h, hf => by
    simp only [fieldLeaves] at h
    split at h
    · rename_i a b ha hb
      split at h
      · rename_i hc
        simp only [Option.some.injEq] at h; subst h
        have k := hf f (List.mem_cons_self ..) a ha
        obtain ⟨pre, rest, hd, hfit⟩ := fields_fit fs _ b hb (fun g hg => hf g (List.mem_cons_of_mem _ hg))
        rw [hc.1] at k
        refine ⟨(cs.drop off).take (P.cellsOf f.type) ++ pre, rest, ?_, fits_append k hfit⟩
        rw [List.append_assoc, ← hd, ← List.drop_drop, List.take_append_drop]
      · cases h
    · cases h

theorem repeat_length (a : List Leaf) : ∀ n, (repeatLeaves a n).length = n * a.length
  | 0 => by simp [repeatLeaves]
  | n + 1 => by rw [repeatLeaves, List.length_append, repeat_length a n, Nat.succ_mul]; omega

theorem repeat_fit {a : List Leaf} {c : Nat} : ∀ (m : Nat) (cs : List Value), (∀ i, i < m → Fits a ((cs.drop (i * c)).take c)) → ∃ pre rest, cs = pre ++ rest ∧ Fits (repeatLeaves a m) pre
  | 0, cs, _ => ⟨[], cs, rfl, trivial⟩
  | m + 1, cs, h => by
    have h0 := h 0 (by omega)
    simp only [Nat.zero_mul, List.drop_zero] at h0
    obtain ⟨pre, rest, hd, hf⟩ := repeat_fit (a := a) (c := c) m (cs.drop c) (fun i hi => by
      have := h (i + 1) (by omega)
      rw [Nat.succ_mul] at this
      rwa [List.drop_drop, Nat.add_comm c])
    exact ⟨cs.take c ++ pre, rest, by rw [List.append_assoc, ← hd, List.take_append_drop], fits_append h0 hf⟩

theorem flat_fits : ∀ (n : Nat) (t : TypeId) (ls : List Leaf), leaves P n t = some ls → ∀ (fuel : Nat) (cs : List Value) (x : DataW H × List MemPlace), DataW.trod enc P w base spare held fuel t cs = some x → Fits ls cs
  | 0, t, ls, h, _, _, _, _ => by simp [leaves] at h
  | n + 1, t, ls, h, fuel, cs, x, hx => by
    simp only [leaves] at h
    split at h
    · rename_i hu
      simp only [Option.some.injEq] at h; subst h
      cases fuel with
      | zero => simp [DataW.trod] at hx
      | succ m =>
        unfold DataW.trod at hx; rw [hu] at hx
        split at hx <;> simp_all [Fits, leafFits]
    · rename_i k hu
      simp only [Option.some.injEq] at h; subst h
      cases fuel with
      | zero => simp [DataW.trod] at hx
      | succ m =>
        unfold DataW.trod at hx; rw [hu] at hx
        split at hx <;> simp_all [Fits, leafFits]
    · rename_i fs hu
      split at h
      · rename_i l hl
        split at h
        · rename_i hc
          simp only [Option.some.injEq] at h; subst h
          obtain ⟨xs, m, rfl, hxx, hlen, hxl, hf⟩ := DataW.trod_struct hu hx
          obtain ⟨pre, rest, hd, hfit⟩ := fields_fit (P := P) (cs := cs) fs.toList 0 _ hl (fun f hmem a ha => by
            obtain ⟨i, hi, hie⟩ := List.getElem_of_mem hmem
            have hi' : i < xs.length := by rw [hxl]; simpa using hi
            have e1 : fs[i]? = some f := by rw [← Array.getElem?_toList, List.getElem?_eq_getElem hi, hie]
            have e2 := hf i f e1
            rw [List.getElem?_eq_getElem hi'] at e2
            exact flat_fits n f.type a ha m _ _ e2)
          have e := fits_length hfit
          rw [List.drop_zero] at hd
          have : rest = [] := by
            have h1 := congrArg List.length hd
            rw [List.length_append] at h1
            have : rest.length = 0 := by omega
            simpa using this
          subst this
          rw [hd, List.append_nil]; exact hfit
        · cases h
      · cases h
    · rename_i m e hu
      split at h
      · rename_i a ha
        split at h
        · rename_i hc
          simp only [Option.some.injEq] at h; subst h
          obtain ⟨xs, k, rfl, _, hlen, hxl, hf⟩ := DataW.trod_array hu hx
          obtain ⟨pre, rest, hd, hfit⟩ := repeat_fit (a := a) (c := P.cellsOf e) m cs (fun i hi => by
            have hi' : i < xs.length := by omega
            have e2 := hf i hi
            rw [List.getElem?_eq_getElem hi'] at e2
            exact flat_fits n e a ha k _ _ e2)
          have e3 := fits_length hfit
          rw [repeat_length] at e3
          have : rest = [] := by
            have h1 := congrArg List.length hd
            rw [List.length_append, e3, hc.1, hc.2] at h1
            have : rest.length = 0 := by omega
            simpa using this
          subst this
          rw [hd, List.append_nil]; exact hfit
        · cases h
      · cases h
    · cases h

/-- A struct by value comes as its cells, each within its kind. -/
theorem open_flat {r : Reach} {b0 : Nat} {t : TypeId} {fs : Array Field} {ls : List Leaf} {v : Value} {d : DataW H} {p : List MemPlace} (n : Nat) (hs : P.underlying t = some (.struct fs)) (hl : leaves P n t = some ls)
    (hv : Value.okWide P w r b0 t v) (h : DataW.Trod enc P w base spare held t v d p) : ∃ cs : List Value, v = .agg cs.toArray ∧ Fits ls cs := by
  obtain ⟨cs, rfl, _⟩ := okWide_struct hs hv
  obtain ⟨fuel, hf⟩ := h
  exact ⟨cs.toList, rfl, flat_fits n t ls hl fuel _ _ (by simpa [Value.cells] using hf)⟩

end
end Go.Proofs.Ytoohcckhdhfpnaa
end

section
namespace Go.Proofs.Ytoohcckhdhfpnaa
open Go.ChangeShapes Go.WideShapes Go.ChangeAt Go.RowKit Go.Deep
set_option linter.unusedVariables false

section
variable {H : Type} {enc : TypeId × Value → H} {P : Program} {w : World} {base : Nat} {held : Bool}

theorem cells_slice' {v : Value} {r : Reach} {b0 : Nat} {t e : TypeId} (ht : P.underlying t = some (.slice e)) (hv : Value.okWide P w r b0 t v) : v.cells.toList = [v] := by
  unfold Value.okWide at hv
  rw [ht] at hv
  simp only [Cell.okWide, Cell.ok, ht] at hv
  cases v <;> simp [Value.cells] at hv ⊢

theorem open_flats {t e : TypeId} {ls : List Leaf} {v : Value} {d : DataW H} {p : List MemPlace} {r : Reach} {b0 : Nat} (n : Nat) (ht : P.underlying t = some (.slice e)) (hl : leaves P n e = some ls) (hc : P.cellsOf e = ls.length)
    (hv : Value.okWide P w r b0 t v) (h : DataW.Trod enc P w base (fun _ => true) held t v d p) :
    v = .slice none 0 0 ∨ ∃ (a : Addr) (len cap : Nat) (C : Nat → List Value), v = .slice (some a) len cap ∧ len ≤ cap ∧ cap ≤ maxLen ∧ ∀ i, i < cap → Fits ls (C i) ∧ ∀ j, j < ls.length → w.cell? (a.add (i * ls.length + j)) = (C i)[j]? := by
  obtain ⟨fuel, hf⟩ := h
  rw [cells_slice' ht hv] at hf
  rcases open_slice ht hf with ⟨h0, -⟩ | ⟨a, len, cap, m, k, D, Pl, hcs, hb, hle, hm, hmm, -, hx⟩
  · exact .inl (by simpa using h0)
  · simp only [if_true] at hmm
    subst hmm
    right
    rw [hc] at hx
    obtain ⟨C, hC⟩ := choose_lt (α := List Value) (p := fun i cs => Fits ls cs ∧ ∀ j, j < ls.length → w.cell? (a.add (i * ls.length + j)) = cs[j]?) (fun i hi => by
      obtain ⟨cs', h1, h2⟩ := hx i hi
      obtain ⟨_, hlen, hcell⟩ := World.cells?_some h1
      refine ⟨cs', flat_fits n e ls hl k _ _ h2, fun j hj => ?_⟩
      have := hcell j (by omega)
      rwa [add_add] at this)
    exact ⟨a, len, m, C, by simpa using hcs, hle, hm, hC⟩
end
end Go.Proofs.Ytoohcckhdhfpnaa
end

section
namespace Go.Proofs.Ytoohcckhdhfpnaa
open Go.ChangeShapes Go.WideShapes Go.ChangeAt Go.RowKit Go.Deep Go.Maps
set_option linter.unusedVariables false
set_option linter.unusedSimpArgs false
set_option linter.constructorNameAsVariable false

/-- Structs that are only read, one by one. -/
def RdS {P : Program} {α : Type} (r : RowTy P α) (w : World) (v : Value) (xs : List α) : Prop :=
  ∃ ao cap, v = .slice ao xs.length cap ∧ ∀ i (hi : i < xs.length), ∃ b off, ao = some ⟨b, off, none⟩ ∧ w.rangeAt b (off + i * r.k) (r.f xs[i]) ∧ b < w.heap.size
theorem RdS.below {P : Program} {α : Type} {r : RowTy P α} {w w' : World} {v : Value} {xs : List α} {N : Nat} (h : RdS r w v xs) (hb : Below w.heap.size w w') : RdS r w' v xs := by
  obtain ⟨ao, cap, e, h2⟩ := h
  refine ⟨ao, cap, e, fun i hi => ?_⟩
  obtain ⟨b, off, e1, e2, e3⟩ := h2 i hi
  exact ⟨b, off, e1, rangeAt_block e2 (hb.block b e3), Nat.lt_of_lt_of_le e3 hb.size⟩

abbrev A4 := Int × Int × Int × Int
def ac (x : A4) : List Value := [.int .i64 x.1, .int .i64 x.2.1, .int .i64 x.2.2.1, .int .i64 x.2.2.2]
theorem actInfo : (Try.prog.info? 33).map (fun i => (i.zero, i.size, i.bytes)) = some (some (.agg #[.int .i64 0, .int .i64 0, .int .i64 0, .int .i64 0]), 4, 32) := by kernel_rfl
def actR : RowTy Try.prog A4 where
  T := 33
  S := 23
  k := 4
  f := ac
  len := fun _ => rfl
  one := fun x u hu => by
    simp only [ac, List.mem_cons, List.not_mem_nil, or_false] at hu
    rcases hu with rfl | rfl | rfl | rfl <;> rfl
  pos := by decide
  small := by decide
  slice := Try.underlying23
  info := by
    obtain ⟨i0, hi, hz⟩ := Option.map_eq_some_iff.1 actInfo
    simp only [Prod.mk.injEq] at hz
    obtain ⟨h1, h2, h3⟩ := hz
    exact ⟨i0, _, _, hi, h1, h2, rfl, h3, by decide⟩
  row := ⟨_, Try.underlying33, rfl⟩
def ActWf (x : A4) : Prop := (Lit.int .i64 x.1).wf = true ∧ (Lit.int .i64 x.2.1).wf = true ∧ (Lit.int .i64 x.2.2.1).wf = true ∧ (Lit.int .i64 x.2.2.2).wf = true
theorem fits_act {cs : List Value} (h : Fits [some .i64, some .i64, some .i64, some .i64] cs) : ∃ x : A4, cs = ac x ∧ ActWf x := by
  obtain ⟨a, c1, rfl, w1, f1⟩ := fits_int h
  obtain ⟨b, c2, rfl, w2, f2⟩ := fits_int f1
  obtain ⟨c, c3, rfl, w3, f3⟩ := fits_int f2
  obtain ⟨d, c4, rfl, w4, f4⟩ := fits_int f3
  obtain rfl := fits_nil f4
  exact ⟨(a, b, c, d), rfl, w1, w2, w3, w4⟩
section
variable {H : Type} {enc : TypeId × Value → H} {P : Program} {w : World} {base : Nat} {held : Bool}
theorem open_actsG (R : RowTy P A4) (hRk : R.k = 4) (hRf : R.f = ac) {t e : TypeId} {v : Value} {d : DataW H} {p : List MemPlace} {r : Reach} {b0 : Nat} (n : Nat) (ht : P.underlying t = some (.slice e)) (hl : leaves P n e = some [some .i64, some .i64, some .i64, some .i64]) (hc : P.cellsOf e = 4)
    (hv : Value.okWide P w r b0 t v) (h : DataW.Trod enc P w base (fun _ => true) held t v d p) : ∃ l : List A4, RdS R w v l ∧ (l.length ≤ maxLen ∧ ∀ x ∈ l, ActWf x) := by
  rcases open_flats n ht hl hc hv h with rfl | ⟨a, len, cap, C, rfl, hle, hm, hC⟩
  · exact ⟨[], ⟨none, 0, rfl, fun i hi => absurd hi (Nat.not_lt_zero i)⟩, Nat.zero_le _, fun x hx => absurd hx (List.not_mem_nil)⟩
  · obtain ⟨T, hT⟩ := choose_lt (α := A4) (p := fun i x => C i = ac x ∧ ActWf x) (fun i hi => fits_act (hC i hi).1)
    have hlen : ((List.range len).map T).length = len := by simp
    refine ⟨(List.range len).map T, ⟨some a, cap, by rw [hlen], fun i hi => ?_⟩, by rw [hlen]; omega, fun x hx => ?_⟩
    · rw [hlen] at hi
      obtain ⟨hf, hcell⟩ := hC i (by omega)
      have hT' := (hT i (by omega)).1
      have hbl : ∀ j, j < 4 → w.cell? (a.add (i * 4 + j)) = (ac (T i))[j]? := fun j hj => by
        have := hcell j (by simpa using hj)
        rw [hT'] at this
        simpa using this
      have h0 : w.cell? (a.add (i * 4)) = some (.int .i64 (T i).1) := by have := hbl 0 (by omega); simpa [ac] using this
      have g0 := (hC 0 (by omega)).2 0 (by simp)
      rw [(hT 0 (by omega)).1] at g0
      have hsp := World.cell?_spot g0
      obtain ⟨blk, off, spot⟩ := a
      have hspot : spot = none := by simpa [Addr.add] using hsp
      subst hspot
      have hb := World.block_lt_of_cell? w _ h0
      have e : ((List.range len).map T)[i]'(by rw [hlen]; exact hi) = T i := by simp
      refine ⟨blk, off, rfl, fun j u hj => ?_, by simpa [Addr.add_mid] using hb⟩
      rw [e, hRf] at hj
      have hj4 : j < 4 := by
        have := (List.getElem?_eq_some_iff.1 hj).1
        simpa [ac] using this
      have := hbl j hj4
      rw [Addr.add_mid, ← Nat.add_assoc] at this
      rw [hRk, this]
      exact hj
    · obtain ⟨i, hi, rfl⟩ := List.mem_map.1 hx
      exact (hT i (by have := List.mem_range.1 hi; omega)).2
end
theorem open_acts {H : Type} {enc : TypeId × Value → H} {w : World} {base : Nat} {held : Bool} {v : Value} {d : DataW H} {p : List MemPlace} {r : Reach} {b0 : Nat} (n : Nat) (ht : Try.prog.underlying 23 = some (.slice 33)) (hl : leaves Try.prog n 33 = some [some .i64, some .i64, some .i64, some .i64]) (hc : Try.prog.cellsOf 33 = 4)
    (hv : Value.okWide Try.prog w r b0 23 v) (h : DataW.Trod enc Try.prog w base (fun _ => true) held 23 v d p) : ∃ l : List A4, RdS actR w v l ∧ (l.length ≤ maxLen ∧ ∀ x ∈ l, ActWf x) :=
  by
  have q := open_actsG (H := H) (enc := enc) (w := w) (base := base) (held := held) (v := v) (d := d) (p := p) (r := r) (b0 := b0) (t := 23) (e := 33) actR rfl rfl n ht hl hc
  revert hv h
  with_reducible exact q

end Go.Proofs.Ytoohcckhdhfpnaa
end

section
namespace Go.Proofs.Ytoohcckhdhfpnaa
open Go.RowKit Go.Maps
set_option linter.unusedVariables false
set_option linter.unusedSimpArgs false

theorem free_bd {A : Acc} (hok : AccOk A) {k : Nat} (hk : k < 10) : (0 ≤ (A k).1 ∧ (A k).1 ≤ 1073741824) ∧ (0 ≤ (A k).2 ∧ (A k).2 ≤ 1073741824) := by
  have h1 := hok.all
  have h2 := sumTo_mono (A := A) (fun k => by unfold both; have := hok.free k; have := hok.held k; omega) (show k + 1 ≤ 10 by omega)
  have h3 := sumTo_mono (A := A) (fun k => by unfold both; have := hok.free k; have := hok.held k; omega) (show 0 ≤ k by omega)
  have h4 : sumTo A (k + 1) = sumTo A k + both A k := rfl
  have h5 : sumTo A 0 = 0 := rfl
  have h6 := hok.held k
  have h7 := hok.free k
  unfold both at h4
  omega
section
variable {y ab : Nat} {F : FP} {A : Acc} {M : Cls Int} {w : World}
theorem RlTo.then_below {w1 w' : World} {A' : Acc} (h : RlTo y ab F A' M w w1) (hb : Below w1.heap.size w1 w') : RlTo y ab F A' M w w' := by
  obtain ⟨F', k1, k2, k3⟩ := h
  have hs := k3.grow.size
  exact ⟨F', k1.below hb, k2, k3.grow.trans (Grow.of_below hb), fun k hk q1 q2 => (hb.block k (by omega)).trans (k3.block k hk q1 q2)⟩
theorem RlTo.setO {A0 A1 A2 : Acc} {M0 : Cls Int} {w' : World} (h : RlAt y ab F A0 M0 w) (ht : RlTo y ab F A1 M w w') {j : Nat} {u : Value} (h2 : RlAt y ab F A2 M (w'.setCell ⟨ab, j, none⟩ u)) : RlTo y ab F A2 M w (w'.setCell ⟨ab, j, none⟩ u) := by
  obtain ⟨F', k1, k2, k3⟩ := ht
  have hF : F ab := by
    obtain ⟨vs, C, -, -, -, -, -, q, -⟩ := h
    exact q
  refine ⟨F, h2, fun k hk => .inl hk, ⟨k3.grow.os, k3.grow.tape, k3.grow.output, by have := k3.grow.size; simpa [World.setCell] using this⟩, fun k hk q1 q2 => ?_⟩
  rw [Below.heap_setCell _ _ _ k (by show k ≠ ab; exact fun e => q1 (e ▸ hF))]
  exact k3.block k hk q1 q2
/-- One balance changed. -/
structure Hop (y ab : Nat) (F : FP) (A : Acc) (M : Cls Int) (w W : World) : Prop where
  rl : RlAt y ab F A M W
  rt : RlTo y ab F A M w W
theorem Hop.start (h : RlAt y ab F A M w) {W : World} (hb : Below w.heap.size w W) : Hop y ab F A M w W := ⟨h.below hb, RlTo.of_below h hb⟩
theorem Hop.below {W W' : World} (hp : Hop y ab F A M w W) (hb : Below W.heap.size W W') : Hop y ab F A M w W' := ⟨hp.rl.below hb, hp.rt.then_below hb⟩
theorem Hop.free {A0 : Acc} {M0 : Cls Int} {W : World} (h : RlAt y ab F A0 M0 w) (hp : Hop y ab F A M w W) {k : Nat} (hk : k < 10) (x : Int) : Hop y ab F (upd A k (x, (A k).2)) M w (W.setCell ⟨ab, k * 3, none⟩ (.int .i64 x)) := ⟨hp.rl.free hk x, RlTo.setO h hp.rt (hp.rl.free hk x)⟩
theorem Hop.held {A0 : Acc} {M0 : Cls Int} {W : World} (h : RlAt y ab F A0 M0 w) (hp : Hop y ab F A M w W) {k : Nat} (hk : k < 10) (x : Int) : Hop y ab F (upd A k ((A k).1, x)) M w (W.setCell ⟨ab, k * 3 + 1, none⟩ (.int .i64 x)) := ⟨hp.rl.held hk x, RlTo.setO h hp.rt (hp.rl.held hk x)⟩
theorem Hop.cells {W : World} (hp : Hop y ab F A M w W) {k : Nat} (hk : k < 10) : W.cell? ⟨y, 0, none⟩ = some (.slice (some ⟨ab, 0, none⟩) 10 10) ∧ W.cell? ⟨ab, k * 3, none⟩ = some (.int .i64 (A k).1) ∧ W.cell? ⟨ab, k * 3 + 1, none⟩ = some (.int .i64 (A k).2) ∧ W.frozen? ⟨ab, k * 3, none⟩ = false ∧ W.frozen? ⟨ab, k * 3 + 1, none⟩ = false := by
  obtain ⟨v, c, c0, c1, -, -, fz⟩ := hp.rl.cells hk
  exact ⟨c, c0, c1, fz _, fz _⟩
set_option maxRecDepth 100000 in
set_option maxHeartbeats 4000000 in
theorem ref6_Burn (h : RlAt y ab F A M w) (hok : AccOk A) (a n : Int) (hlen : (rowOf M a).length ≤ 1000000) : Calls Try.prog 26 #[.pointer (some ⟨y, 0, none⟩), .int .i64 a, .int .i64 n] w fun e w' => e = .returned (.int .i64 (spendE A M a n false)) ∧ Hop y ab F (spent A M a n false) M w w' := by
  have hm := ref6_may h hok a n hlen
  by_cases he : spendE A M a n false = 0
  · obtain ⟨ha, hb, hn⟩ := spendE_ok he
    obtain ⟨k, rfl⟩ : ∃ k : Nat, a = k := ⟨a.toNat, by have := ha.1; omega⟩
    have hk : k < 10 := by have := ha.2; omega
    have hk' : (k : Int) < 10 := ha.2
    rw [Int.toNat_natCast] at hn
    obtain ⟨⟨f0, f1⟩, f2, f3⟩ := free_bd hok hk
    obtain ⟨fr, hfr⟩ : ∃ fr, fr = (A k).1 := ⟨_, rfl⟩
    obtain ⟨hl, hhl⟩ : ∃ hl, hl = (A k).2 := ⟨_, rfl⟩
    rw [← hfr] at hn f0 f1
    rw [← hhl] at f2 f3
    have W1 : IntKind.i64.wrap (fr - n) = fr - n := IntWalk.i64_in _ (by have := hb.1; omega)
    have W2 : IntKind.i64.wrap (hl + n) = hl + n := IntWalk.i64_in _ (by have := hb.1; have := hb.2; omega)
    have hS : spent A M (k : Int) n false = upd A k (fr - n, (A k).2) := by unfold spent spendA; rw [if_pos he, Int.toNat_natCast, ← hfr]
    have HK := Lib.hid hk
    have HS := Lib.hid hS
    have HC := Lib.hid (fun (W : World) (hW : Below w.heap.size w W) => show (W.cell? ⟨y, 0, none⟩ = some (.slice (some ⟨ab, 0, none⟩) 10 10) ∧ W.cell? ⟨ab, k * 3, none⟩ = some (.int .i64 fr) ∧ W.cell? ⟨ab, k * 3 + 1, none⟩ = some (.int .i64 hl) ∧ W.frozen? ⟨ab, k * 3, none⟩ = false ∧ W.frozen? ⟨ab, k * 3 + 1, none⟩ = false) ∧ Hop y ab F A M w W from by
      have hp := Hop.start h hW
      have := hp.cells hk
      rw [← hfr, ← hhl] at this
      exact ⟨this, hp⟩)
    have HH := Lib.hid h
    have HHL := Lib.hid (And.intro hfr hhl)
    rw [he]
    rw [he] at hm
    have HM0 := Lib.hid hm
    clear hm h hok hlen he ha hb hn hfr hhl f0 f1 f2 f3 hS
    go_enter Try.func26, Try.ntmps26
    go_upto_region 3 with (first
      | (go_at_call 39; refine HM0.out.mono ?_; rintro e w1 ⟨rfl, hb⟩; have HB := Lib.hid hb; clear hb)
      | fail)
    obtain ⟨⟨c, c0, c1, z0, z1⟩, hp⟩ := HC.out w1.drew HB.out.drew
    have HP := Lib.hid hp
    clear hp
    go_still_tail 15, (by kernel_rfl)
    change wpList _ _ _ _ _ w1.drew
    go_wp2_with fail
    exact bodyPost_ret (v := .int .i64 0) (by simp [results, Try.results26, go_sem]) rfl ⟨rfl, by rw [HS.out]; exact HP.out.free HH.out HK.out (fr - n)⟩
  · have hS : spent A M a n false = A := if_neg he
    rw [hS]
    obtain ⟨q, hq⟩ : ∃ q, q = spendE A M a n false := ⟨_, rfl⟩
    rw [← hq] at he hm ⊢
    have HM0 := Lib.hid hm
    have HF := Lib.hid (fun (W : World) (hW : Below w.heap.size w W) => show Hop y ab F A M w W from Hop.start h hW)
    have g : (q == 0) = false := by simpa using he
    have g2 : (q != 0) = true := by simpa using he
    clear hm h hok hlen hS hq
    go_enter Try.func26, Try.ntmps26
    go_wp2_with (first
      | (go_at_call 39; refine HM0.out.mono ?_; rintro e w1 ⟨rfl, hb⟩; have HB := Lib.hid hb; clear hb)
      | fail)
    exact bodyPost_ret (v := .int .i64 q) (by simp [results, Try.results26, go_sem]) rfl ⟨rfl, HF.out _ HB.out⟩
def takenA (A : Acc) (a n : Int) : Acc := if isAcc a ∧ 0 ≤ n then takeA A a.toNat (heldM A a n) else A
theorem give_zero (A : Acc) (k : Nat) : giveA A k 0 = A := by funext i; by_cases e : i = k <;> simp [giveA, upd, e]
theorem take_zero (A : Acc) (k : Nat) : takeA A k 0 = A := by funext i; by_cases e : i = k <;> simp [takeA, upd, e]
theorem heldM_neg {A : Acc} {a n : Int} (hok : AccOk A) (h : ¬ (isAcc a ∧ 0 ≤ n)) : heldM A a n = 0 := by
  unfold heldM
  by_cases ha : isAcc a
  · rw [if_pos ha]
    have := hok.held a.toNat
    have hn : n < 0 := Int.not_le.1 (fun e => h ⟨ha, e⟩)
    omega
  · rw [if_neg ha]
theorem unheld_eq {A : Acc} (hok : AccOk A) (a n b : Int) : unheld A a n b = giveA (takenA A a n) b.toNat (heldM A a n) := by
  unfold unheld takenA
  by_cases h : isAcc a ∧ 0 ≤ n
  · rw [if_pos h.1, if_pos h]
  · rw [if_neg h, heldM_neg hok h, show giveA A b.toNat 0 = A from give_zero _ _]
    split
    · rw [take_zero, show giveA A b.toNat 0 = A from give_zero _ _]
    · rfl
set_option maxRecDepth 100000 in
set_option maxHeartbeats 4000000 in
theorem ref6_take (h : RlAt y ab F A M w) (hok : AccOk A) (a n : Int) : Calls Try.prog 41 #[.pointer (some ⟨y, 0, none⟩), .int .i64 a, .int .i64 n] w fun e w' => e = .returned (.int .i64 (heldM A a n)) ∧ Hop y ab F (takenA A a n) M w w' := by
  by_cases hc : isAcc a ∧ 0 ≤ n
  · obtain ⟨ha, hn⟩ := hc
    obtain ⟨k, rfl⟩ : ∃ k : Nat, a = k := ⟨a.toNat, by have := ha.1; omega⟩
    have hk : k < 10 := by have := ha.2; omega
    have hk' : (k : Int) < 10 := ha.2
    have hI := ref6_Is (k : Int) w
    rw [decide_eq_true (show 0 ≤ (k : Int) ∧ (k : Int) < 10 from ha)] at hI
    have HI := Lib.hid hI
    obtain ⟨-, f2, f3⟩ := free_bd hok hk
    obtain ⟨hl, hhl⟩ : ∃ hl, hl = (A k).2 := ⟨_, rfl⟩
    rw [← hhl] at f2 f3
    obtain ⟨m, hm⟩ : ∃ m, m = heldM A k n := ⟨_, rfl⟩
    have hm2 : m = min n hl := by rw [hm]; unfold heldM; rw [if_pos ha, Int.toNat_natCast, ← hhl]; omega
    have M1 : min n hl = m := hm2.symm
    have M2 : (if hl < n then hl else n) = m := by rw [hm2]; split <;> omega
    have W1 : IntKind.i64.wrap (hl - m) = hl - m := IntWalk.i64_in _ (by omega)
    have hS : takenA A k n = upd A k ((A k).1, hl - m) := by unfold takenA takeA; rw [if_pos ⟨ha, hn⟩, Int.toNat_natCast, ← hm, hhl]
    rw [← hm, hS]
    obtain ⟨c, c0, c1, z0, z1⟩ := (Hop.start h (Below.refl _ w)).cells hk
    rw [← hhl] at c1
    have g : ¬ n < 0 := by omega
    have HF := Lib.hid ((Hop.start h (Below.refl _ w).drew).held h hk (hl - m))
    have D := Lib.hid (show (w.drew.cell? ⟨y, 0, none⟩ = some (.slice (some ⟨ab, 0, none⟩) 10 10) ∧ w.drew.cell? ⟨ab, k * 3 + 1, none⟩ = some (.int .i64 hl) ∧ w.drew.frozen? ⟨ab, k * 3 + 1, none⟩ = false) from ⟨c, c1, z1⟩)
    clear hI h hok ha hn hhl f2 f3 hm hm2 hS c0 z0
    go_enter Try.func41, Try.ntmps41
    go_upto_region 4 with (first
      | (go_at_call 38; refine HI.out.mono ?_; rintro e w' ⟨rfl, hw⟩; rw [hw]; clear hw w')
      | fail)
    obtain ⟨d, d1, zz⟩ := D.out
    go_still_tail 15, (by kernel_rfl)
    change wpList _ _ _ _ _ w.drew
    go_wp2_with fail
    exact bodyPost_ret (v := .int .i64 m) (by simp [results, Try.results41, go_sem]) rfl ⟨rfl, HF.out⟩
  · have hS : takenA A a n = A := if_neg hc
    rw [heldM_neg hok hc, hS]
    have HF := Lib.hid (Hop.start h (Below.refl _ w))
    by_cases ha : isAcc a
    · have hI := ref6_Is a w
      rw [decide_eq_true (show 0 ≤ a ∧ a < 10 from ha)] at hI
      have HI := Lib.hid hI
      have g : n < 0 := Int.not_le.1 (fun e => hc ⟨ha, e⟩)
      clear hI h hok hS hc ha
      go_enter Try.func41, Try.ntmps41
      go_wp2_with (first
        | (go_at_call 38; refine HI.out.mono ?_; rintro e w' ⟨rfl, hw⟩; rw [hw]; clear hw w')
        | fail)
      exact bodyPost_ret (v := .int .i64 0) (by simp [results, Try.results41, go_sem]) rfl ⟨rfl, HF.out⟩
    · have hI := ref6_Is a w
      rw [decide_eq_false (show ¬ (0 ≤ a ∧ a < 10) from ha)] at hI
      have HI := Lib.hid hI
      clear hI h hok hS hc ha
      go_enter Try.func41, Try.ntmps41
      go_wp2_with (first
        | (go_at_call 38; refine HI.out.mono ?_; rintro e w' ⟨rfl, hw⟩; rw [hw]; clear hw w')
        | fail)
      exact bodyPost_ret (v := .int .i64 0) (by simp [results, Try.results41, go_sem]) rfl ⟨rfl, HF.out⟩
theorem takenA_1 (A : Acc) (a n : Int) (k : Nat) : (takenA A a n k).1 = (A k).1 := by
  unfold takenA
  split
  · unfold takeA upd
    by_cases e : k = a.toNat <;> simp [e]
  · rfl
theorem heldM_bd {A : Acc} (hok : AccOk A) (a n : Int) : 0 ≤ heldM A a n ∧ heldM A a n ≤ 1073741824 := by
  unfold heldM
  split
  · rename_i ha
    have := (free_bd hok (show a.toNat < 10 by have := ha.1; have := ha.2; omega)).2
    omega
  · omega
set_option maxRecDepth 100000 in
set_option maxHeartbeats 4000000 in
theorem ref6_Release (h : RlAt y ab F A M w) (hok : AccOk A) (a n : Int) : Calls Try.prog 18 #[.pointer (some ⟨y, 0, none⟩), .int .i64 a, .int .i64 n] w fun e w' => e = .returned (.int .i64 (heldM A a n)) ∧ Hop y ab F (unheld A a n a) M w w' := by
  have ht := ref6_take h hok a n
  have hbd := heldM_bd hok a n
  rw [unheld_eq hok]
  obtain ⟨m, hm⟩ : ∃ m, m = heldM A a n := ⟨_, rfl⟩
  obtain ⟨T, hT⟩ : ∃ T, T = takenA A a n := ⟨_, rfl⟩
  rw [← hm, ← hT] at ht ⊢
  rw [← hm] at hbd
  have HT := Lib.hid ht
  have HH := Lib.hid h
  by_cases hp : m > 0
  · have hac : isAcc a := by
      by_cases c : isAcc a
      · exact c
      · unfold heldM at hm; rw [if_neg c] at hm; omega
    obtain ⟨k, rfl⟩ : ∃ k : Nat, a = k := ⟨a.toNat, by have := hac.1; omega⟩
    have hk : k < 10 := by have := hac.2; omega
    have hk' : (k : Int) < 10 := hac.2
    obtain ⟨⟨f0, f1⟩, -⟩ := free_bd hok hk
    have h1 := takenA_1 A k n k
    rw [← hT] at h1
    obtain ⟨fr, hfr⟩ : ∃ fr, fr = (A k).1 := ⟨_, rfl⟩
    rw [← hfr] at h1 f0 f1
    have W1 : IntKind.i64.wrap (fr + m) = fr + m := IntWalk.i64_in _ (by omega)
    have HK := Lib.hid hk
    have HS := Lib.hid (show giveA T (k : Int).toNat m = upd T k (fr + m, (T k).2) by rw [Int.toNat_natCast]; unfold giveA; rw [h1])
    have H1 := Lib.hid h1
    clear ht h hok hbd hm hT hac h1 hfr f0 f1
    go_enter Try.func18, Try.ntmps18
    go_upto_region 3 with (first
      | (go_at_call 41; refine HT.out.mono ?_; rintro e w1 ⟨rfl, hp⟩; have HP := Lib.hid hp; clear hp)
      | fail)
    have hp1 := HP.out.below (Below.refl _ w1).drew
    obtain ⟨c, c0, c1, z0, z1⟩ := hp1.cells HK.out
    rw [H1.out] at c0
    have HF := Lib.hid (hp1.free HH.out HK.out (fr + m))
    clear hp1 c1 z1
    go_still_tail 15, (by kernel_rfl)
    change wpList _ _ _ _ _ w1.drew
    go_wp2_with fail
    exact bodyPost_ret (v := .int .i64 m) (by simp [results, Try.results18, go_sem]) rfl ⟨rfl, by rw [HS.out]; exact HF.out⟩
  · have HS := Lib.hid (show giveA T a.toNat m = T by rw [show m = 0 by omega]; exact give_zero _ _)
    clear ht h hok hbd hm hT
    go_enter Try.func18, Try.ntmps18
    go_wp2_with (first
      | (go_at_call 41; refine HT.out.mono ?_; rintro e w1 ⟨rfl, hp⟩; have HP := Lib.hid hp; clear hp)
      | fail)
    exact bodyPost_ret (v := .int .i64 m) (by simp [results, Try.results18, go_sem]) rfl ⟨rfl, by rw [HS.out]; exact HP.out⟩
set_option maxRecDepth 100000 in
set_option maxHeartbeats 4000000 in
theorem ref6_Slash (h : RlAt y ab F A M w) (hok : AccOk A) (a n : Int) : Calls Try.prog 20 #[.pointer (some ⟨y, 0, none⟩), .int .i64 a, .int .i64 n] w fun e w' => e = .returned (.int .i64 (heldM A a n)) ∧ Hop y ab F (unheld A a n 0) M w w' := by
  have ht := ref6_take h hok a n
  have hbd := heldM_bd hok a n
  rw [unheld_eq hok]
  obtain ⟨m, hm⟩ : ∃ m, m = heldM A a n := ⟨_, rfl⟩
  obtain ⟨T, hT⟩ : ∃ T, T = takenA A a n := ⟨_, rfl⟩
  rw [← hm, ← hT] at ht ⊢
  rw [← hm] at hbd
  have HT := Lib.hid ht
  have HH := Lib.hid h
  obtain ⟨⟨f0, f1⟩, -⟩ := free_bd hok (show 0 < 10 by omega)
  have h1 := takenA_1 A a n 0
  rw [← hT] at h1
  obtain ⟨fr, hfr⟩ : ∃ fr, fr = (A 0).1 := ⟨_, rfl⟩
  rw [← hfr] at h1 f0 f1
  have W1 : IntKind.i64.wrap (fr + m) = fr + m := IntWalk.i64_in _ (by omega)
  have HS := Lib.hid (show giveA T (0 : Int).toNat m = upd T 0 (fr + m, (T 0).2) by show giveA T 0 m = _; unfold giveA; rw [h1])
  have H1 := Lib.hid h1
  clear ht h hok hbd hm hT h1 hfr f0 f1
  go_enter Try.func20, Try.ntmps20
  go_upto_region 2 with (first
    | (go_at_call 41; refine HT.out.mono ?_; rintro e w1 ⟨rfl, hp⟩; have HP := Lib.hid hp; clear hp)
    | fail)
  have hp1 := HP.out.below (Below.refl _ w1).drew
  obtain ⟨c, c0, c1, z0, z1⟩ := hp1.cells (show 0 < 10 by omega)
  rw [H1.out] at c0
  have HF := Lib.hid (hp1.free HH.out (show 0 < 10 by omega) (fr + m))
  replace c0 : w1.drew.cell? ⟨ab, 0, none⟩ = some (.int .i64 fr) := c0
  replace z0 : w1.drew.frozen? ⟨ab, 0, none⟩ = false := z0
  clear hp1 c1 z1
  go_still_tail 13, (by kernel_rfl)
  change wpList _ _ _ _ _ w1.drew
  go_wp2_with fail
  exact bodyPost_ret (v := .int .i64 m) (by simp [results, Try.results20, go_sem]) rfl ⟨rfl, by rw [HS.out]; exact HF.out⟩
set_option maxRecDepth 100000 in
set_option maxHeartbeats 4000000 in
theorem ref6_Mint (h : RlAt y ab F A M w) (hok : AccOk A) (a n : Int) : Calls Try.prog 24 #[.pointer (some ⟨y, 0, none⟩), .int .i64 a, .int .i64 n] w fun e w' => e = .returned (.int .i64 (mintE A a n)) ∧ Hop y ab F (mintA A a n) M w w' := by
  by_cases ha : isAcc a
  · obtain ⟨k, rfl⟩ : ∃ k : Nat, a = k := ⟨a.toNat, by have := ha.1; omega⟩
    have hk : k < 10 := by have := ha.2; omega
    have hk' : (k : Int) < 10 := ha.2
    have hI := ref6_Is (k : Int) w
    rw [decide_eq_true (show 0 ≤ (k : Int) ∧ (k : Int) < 10 from ha)] at hI
    have HI := Lib.hid hI
    by_cases hb : isBal n
    · have g1 : ¬ n < 0 := by have := hb.1; omega
      have g2 : ¬ n > 1073741824 := by have := hb.2; omega
      have hs := ref6_Issued h hok
      have s1 := hok.all
      have s0 : 0 ≤ sumTo A 10 := by
        have h3 := sumTo_mono (A := A) (fun k => by unfold both; have := hok.free k; have := hok.held k; omega) (show 0 ≤ 10 by omega)
        have h5 : sumTo A 0 = 0 := rfl
        omega
      have he : mintE A k n = if 1073741824 < sumTo A 10 + n then 10 else 0 := by unfold mintE; rw [if_neg (fun e => e.elim (fun e => e ha) (fun e => e hb))]
      obtain ⟨su, hsu⟩ : ∃ su, su = sumTo A 10 := ⟨_, rfl⟩
      rw [← hsu] at hs s0 s1 he
      have HSU := Lib.hid hs
      have W0 : IntKind.i64.wrap (1073741824 - su) = 1073741824 - su := IntWalk.i64_in _ (by omega)
      by_cases q : n > 1073741824 - su
      · have he1 : mintE A k n = 10 := by rw [he, if_pos (by omega)]
        have hS : mintA A k n = A := by unfold mintA; rw [he1]; rfl
        rw [he1, hS]
        have HH := Lib.hid h
        clear hI h hok ha hb hs s0 s1 he hsu he1 hS
        go_enter Try.func24, Try.ntmps24
        go_wp2_with (first
          | (go_at_call 38; refine HI.out.mono ?_; rintro e w' ⟨rfl, hw⟩; rw [hw]; clear hw w')
          | (go_at_call 33; refine HSU.out.mono ?_; rintro e w1 ⟨rfl, hb⟩; have HB := Lib.hid hb; clear hb)
          | fail)
        exact bodyPost_ret (v := .int .i64 10) (by simp [results, Try.results24, go_sem]) rfl ⟨rfl, Hop.start HH.out HB.out⟩
      · have he1 : mintE A k n = 0 := by rw [he, if_neg (by omega)]
        obtain ⟨⟨f0, f1⟩, -⟩ := free_bd hok hk
        obtain ⟨fr, hfr⟩ : ∃ fr, fr = (A k).1 := ⟨_, rfl⟩
        have hS : mintA A k n = upd A k (fr + n, (A k).2) := by unfold mintA giveA; rw [if_pos he1, Int.toNat_natCast, hfr]
        rw [he1, hS]
        rw [← hfr] at f0 f1
        have W1 : IntKind.i64.wrap (fr + n) = fr + n := IntWalk.i64_in _ (by have := hb.1; have := hb.2; omega)
        have HH := Lib.hid h
        have HK := Lib.hid hk
        have HFR := Lib.hid hfr
        clear hI h hok ha hb hs s0 s1 he hsu he1 hS hfr f0 f1
        go_enter Try.func24, Try.ntmps24
        go_upto_region 5 with (first
          | (go_at_call 38; refine HI.out.mono ?_; rintro e w' ⟨rfl, hw⟩; rw [hw]; clear hw w')
          | (go_at_call 33; refine HSU.out.mono ?_; rintro e w1 ⟨rfl, hb⟩; have HB := Lib.hid hb; clear hb)
          | fail)
        have hp1 := Hop.start HH.out HB.out.drew
        obtain ⟨c, c0, c1, z0, z1⟩ := hp1.cells HK.out
        rw [← HFR.out] at c0
        have HF := Lib.hid (hp1.free HH.out HK.out (fr + n))
        clear hp1 c1 z1
        go_still_tail 15, (by kernel_rfl)
        change wpList _ _ _ _ _ w1.drew
        go_wp2_with fail
        exact bodyPost_ret (v := .int .i64 0) (by simp [results, Try.results24, go_sem]) rfl ⟨rfl, HF.out⟩
    · have he1 : mintE A k n = 1 := if_pos (.inr hb)
      have hS : mintA A k n = A := by unfold mintA; rw [he1]; rfl
      rw [he1, hS]
      have HH := Lib.hid (Hop.start h (Below.refl _ w))
      have hn : n < 0 ∨ (¬ n < 0 ∧ n > 1073741824) := by unfold isBal at hb; omega
      clear hI h hok ha hb he1 hS
      rcases hn with q | ⟨q0, q⟩
      all_goals
        go_enter Try.func24, Try.ntmps24
        go_wp2_with (first
          | (go_at_call 38; refine HI.out.mono ?_; rintro e w' ⟨rfl, hw⟩; rw [hw]; clear hw w')
          | fail)
        exact bodyPost_ret (v := .int .i64 1) (by simp [results, Try.results24, go_sem]) rfl ⟨rfl, HH.out⟩
  · have hI := ref6_Is a w
    rw [decide_eq_false (show ¬ (0 ≤ a ∧ a < 10) from ha)] at hI
    have HI := Lib.hid hI
    have he1 : mintE A a n = 1 := if_pos (.inl ha)
    have hS : mintA A a n = A := by unfold mintA; rw [he1]; rfl
    rw [he1, hS]
    have HH := Lib.hid (Hop.start h (Below.refl _ w))
    clear hI h hok ha he1 hS
    go_enter Try.func24, Try.ntmps24
    go_wp2_with (first
      | (go_at_call 38; refine HI.out.mono ?_; rintro e w' ⟨rfl, hw⟩; rw [hw]; clear hw w')
      | fail)
    exact bodyPost_ret (v := .int .i64 1) (by simp [results, Try.results24, go_sem]) rfl ⟨rfl, HH.out⟩
end
end Go.Proofs.Ytoohcckhdhfpnaa
end

section
namespace Go.Proofs.Ytoohcckhdhfpnaa
open Go.RowKit Go.Maps
set_option linter.unusedVariables false
set_option linter.unusedSimpArgs false

theorem spendE_back (A : Acc) (M : Cls Int) (a n : Int) : spendE A M a n true = if spendE A M a n false = 7 then 0 else spendE A M a n false := by
  unfold spendE
  by_cases h1 : ¬ isAcc a ∨ ¬ isBal n
  · rw [if_pos h1, if_pos h1]; rfl
  · rw [if_neg h1, if_neg h1]
    by_cases h2 : (A a.toNat).1 < n
    · rw [if_pos h2, if_pos h2]; rfl
    · rw [if_neg h2, if_neg h2, if_neg (by simp)]
      split <;> rfl
section
variable {y ab : Nat} {F : FP} {A : Acc} {M : Cls Int} {w : World}
set_option maxRecDepth 100000 in
set_option maxHeartbeats 4000000 in
theorem ref6_Transfer (h : RlAt y ab F A M w) (hok : AccOk A) (a b n : Int) (hlen : (rowOf M a).length ≤ 1000000) : Calls Try.prog 14 #[.pointer (some ⟨y, 0, none⟩), .int .i64 a, .int .i64 b, .int .i64 n] w fun e w' => e = .returned (.int .i64 (transE A M a b n)) ∧ Hop y ab F (transA A M a b n) M w w' := by
  by_cases hb : isAcc b
  · have hI := ref6_Is b w
    rw [decide_eq_true (show 0 ≤ b ∧ b < 10 from hb)] at hI
    have HI := Lib.hid hI
    have hm := ref6_may h hok a n hlen
    have hT : transE A M a b n = spendE A M a n (decide (a = b)) := by unfold transE; rw [if_pos hb]
    obtain ⟨q, hq⟩ : ∃ q, q = spendE A M a n false := ⟨_, rfl⟩
    rw [← hq] at hm
    have HM0 := Lib.hid hm
    have HH := Lib.hid h
    have hcase : (transE A M a b n = 0 ∧ (q = 0 ∨ (a = b ∧ q = 7))) ∨ (transE A M a b n = q ∧ q ≠ 0 ∧ ¬ (a = b ∧ q = 7)) := by
      rw [hT]
      by_cases e : a = b
      · rw [decide_eq_true e, spendE_back, ← hq]
        by_cases q7 : q = 7
        · rw [if_pos q7]; exact .inl ⟨rfl, .inr ⟨e, q7⟩⟩
        · rw [if_neg q7]
          by_cases q0 : q = 0
          · exact .inl ⟨q0, .inl q0⟩
          · exact .inr ⟨rfl, q0, fun x => q7 x.2⟩
      · rw [decide_eq_false e, ← hq]
        by_cases q0 : q = 0
        · exact .inl ⟨q0, .inl q0⟩
        · exact .inr ⟨rfl, q0, fun x => e x.1⟩
    rcases hcase with ⟨h0, hc⟩ | ⟨h0, q0, hc⟩
    · have he := h0
      rw [hT] at he
      obtain ⟨ha, hbn, hn⟩ := spendE_ok he
      obtain ⟨k, rfl⟩ : ∃ k : Nat, a = k := ⟨a.toNat, by have := ha.1; omega⟩
      obtain ⟨j, rfl⟩ : ∃ j : Nat, b = j := ⟨b.toNat, by have := hb.1; omega⟩
      have hk : k < 10 := by have := ha.2; omega
      have hj : j < 10 := by have := hb.2; omega
      have hk' : (k : Int) < 10 := ha.2
      have hj' : (j : Int) < 10 := hb.2
      rw [Int.toNat_natCast] at hn
      obtain ⟨⟨f0, f1⟩, -⟩ := free_bd hok hk
      obtain ⟨⟨e0, e1⟩, -⟩ := free_bd hok hj
      obtain ⟨fr, hfr⟩ : ∃ fr, fr = (A k).1 := ⟨_, rfl⟩
      obtain ⟨tv, htv⟩ : ∃ tv, tv = (upd A k (fr - n, (A k).2) j).1 := ⟨_, rfl⟩
      rw [← hfr] at hn f0 f1
      have htb : 0 ≤ tv ∧ tv ≤ 1073741824 := by
        rw [htv]
        unfold upd
        have := hbn.1
        split
        · show 0 ≤ fr - n ∧ fr - n ≤ 1073741824
          omega
        · omega
      have W1 : IntKind.i64.wrap (fr - n) = fr - n := IntWalk.i64_in _ (by have := hbn.1; omega)
      have W2 : IntKind.i64.wrap (tv + n) = tv + n := IntWalk.i64_in _ (by have := hbn.1; have := hbn.2; omega)
      have hS : transA A M k j n = upd (upd A k (fr - n, (A k).2)) j (tv + n, (upd A k (fr - n, (A k).2) j).2) := by
        unfold transA giveA spendA
        rw [if_pos h0, Int.toNat_natCast, Int.toNat_natCast, ← hfr, ← htv]
      have HK := Lib.hid hk
      have HJ := Lib.hid hj
      have HFR := Lib.hid hfr
      have HTO := Lib.hid (And.intro htv hS)
      rw [h0]
      clear hI hm hT hq h hok hlen he ha hbn hn hfr htv htb f0 f1 e0 e1 hS hk hj h0 hb
      by_cases e : (k : Int) = j
      · have g1 : ((k : Int) == (j : Int)) = true := by simp [e]
        rcases hc with rfl | ⟨-, rfl⟩
        all_goals
          clear e
          go_enter Try.func14, Try.ntmps14
          go_upto_region 8 with (first
            | (go_at_call 38; refine HI.out.mono ?_; rintro e w' ⟨rfl, hw⟩; rw [hw]; clear hw w')
            | (go_at_call 39; refine HM0.out.mono ?_; rintro e w1 ⟨rfl, hb⟩; have HB := Lib.hid hb; clear hb)
            | fail)
          have hp1 := Hop.start HH.out HB.out
          obtain ⟨c, c0, c1, z0, z1⟩ := (hp1.below (Below.refl _ w1).drew).cells HK.out
          rw [← HFR.out] at c0
          have hp2 := (hp1.free HH.out HK.out (fr - n)).below (Below.refl _ _).drew
          obtain ⟨X, hX⟩ : ∃ X, X = (w1.setCell ⟨ab, k * 3, none⟩ (.int .i64 (fr - n))).drew := ⟨_, rfl⟩
          rw [← hX] at hp2
          have HXX := Lib.hid hX
          have HP2 := Lib.hid hp2
          clear hp1 hp2 c1 z1 hX
          go_still_tail 15, (by kernel_rfl)
          change wpList _ _ _ _ _ w1.drew
          go_upto_region 9 with fail
          rw [← HXX.out]
          have hp3 := HP2.out.below (Below.refl _ X).drew
          obtain ⟨c, c0, c1, z0, z1⟩ := hp3.cells HJ.out
          rw [← HTO.out.1] at c0
          have HF := Lib.hid (hp3.free HH.out HJ.out (tv + n))
          clear hp3 c1 z1
          go_still_tail 15, (by kernel_rfl)
          change wpList _ _ _ _ _ X.drew
          go_wp2_with fail
          exact bodyPost_ret (v := .int .i64 0) (by simp [results, Try.results14, go_sem]) rfl ⟨rfl, by rw [HTO.out.2]; exact HF.out⟩
      · have g1 : ((k : Int) == (j : Int)) = false := by simpa using e
        obtain rfl : q = 0 := hc.elim id (fun x => absurd x.1 e)
        clear hc e
        go_enter Try.func14, Try.ntmps14
        go_upto_region 8 with (first
          | (go_at_call 38; refine HI.out.mono ?_; rintro e w' ⟨rfl, hw⟩; rw [hw]; clear hw w')
          | (go_at_call 39; refine HM0.out.mono ?_; rintro e w1 ⟨rfl, hb⟩; have HB := Lib.hid hb; clear hb)
          | fail)
        have hp1 := Hop.start HH.out HB.out
        obtain ⟨c, c0, c1, z0, z1⟩ := (hp1.below (Below.refl _ w1).drew).cells HK.out
        rw [← HFR.out] at c0
        have hp2 := (hp1.free HH.out HK.out (fr - n)).below (Below.refl _ _).drew
        obtain ⟨X, hX⟩ : ∃ X, X = (w1.setCell ⟨ab, k * 3, none⟩ (.int .i64 (fr - n))).drew := ⟨_, rfl⟩
        rw [← hX] at hp2
        have HXX := Lib.hid hX
        have HP2 := Lib.hid hp2
        clear hp1 hp2 c1 z1 hX
        go_still_tail 15, (by kernel_rfl)
        change wpList _ _ _ _ _ w1.drew
        go_upto_region 9 with fail
        rw [← HXX.out]
        have hp3 := HP2.out.below (Below.refl _ X).drew
        obtain ⟨c, c0, c1, z0, z1⟩ := hp3.cells HJ.out
        rw [← HTO.out.1] at c0
        have HF := Lib.hid (hp3.free HH.out HJ.out (tv + n))
        clear hp3 c1 z1
        go_still_tail 15, (by kernel_rfl)
        change wpList _ _ _ _ _ X.drew
        go_wp2_with fail
        exact bodyPost_ret (v := .int .i64 0) (by simp [results, Try.results14, go_sem]) rfl ⟨rfl, by rw [HTO.out.2]; exact HF.out⟩
    · have hS : transA A M a b n = A := by unfold transA; rw [h0, if_neg q0]
      rw [h0, hS]
      have g2 : (q != 0) = true := by simpa using q0
      clear hI hm hT hq h hok hlen hS h0 hb
      by_cases e : a = b
      · have g1 : (a == b) = true := by simp [e]
        have g3 : (q == 7) = false := by simp; exact fun x => hc ⟨e, x⟩
        clear hc e q0
        go_enter Try.func14, Try.ntmps14
        go_wp2_with (first
          | (go_at_call 38; refine HI.out.mono ?_; rintro e w' ⟨rfl, hw⟩; rw [hw]; clear hw w')
          | (go_at_call 39; refine HM0.out.mono ?_; rintro e w1 ⟨rfl, hb⟩; have HB := Lib.hid hb; clear hb)
          | fail)
        exact bodyPost_ret (v := .int .i64 q) (by simp [results, Try.results14, go_sem]) rfl ⟨rfl, Hop.start HH.out HB.out⟩
      · have g1 : (a == b) = false := by simpa using e
        clear hc e q0
        go_enter Try.func14, Try.ntmps14
        go_wp2_with (first
          | (go_at_call 38; refine HI.out.mono ?_; rintro e w' ⟨rfl, hw⟩; rw [hw]; clear hw w')
          | (go_at_call 39; refine HM0.out.mono ?_; rintro e w1 ⟨rfl, hb⟩; have HB := Lib.hid hb; clear hb)
          | fail)
        exact bodyPost_ret (v := .int .i64 q) (by simp [results, Try.results14, go_sem]) rfl ⟨rfl, Hop.start HH.out HB.out⟩
  · have hI := ref6_Is b w
    rw [decide_eq_false (show ¬ (0 ≤ b ∧ b < 10) from hb)] at hI
    have HI := Lib.hid hI
    have hT : transE A M a b n = 1 := if_neg hb
    have hS : transA A M a b n = A := by unfold transA; rw [hT]; rfl
    rw [hT, hS]
    have HH := Lib.hid (Hop.start h (Below.refl _ w))
    clear hI h hok hb hT hS hlen
    go_enter Try.func14, Try.ntmps14
    go_wp2_with (first
      | (go_at_call 38; refine HI.out.mono ?_; rintro e w' ⟨rfl, hw⟩; rw [hw]; clear hw w')
      | fail)
    exact bodyPost_ret (v := .int .i64 1) (by simp [results, Try.results14, go_sem]) rfl ⟨rfl, HH.out⟩
end
end Go.Proofs.Ytoohcckhdhfpnaa
end

section
namespace Go.Proofs.Ytoohcckhdhfpnaa
open Go.RowKit Go.Maps
set_option linter.unusedVariables false
set_option linter.unusedSimpArgs false

section
variable {y ab : Nat} {F : FP} {A : Acc} {M : Cls Int} {w : World}
set_option maxRecDepth 100000 in
set_option maxHeartbeats 4000000 in
theorem ref6_Reserve (h : RlAt y ab F A M w) (hok : AccOk A) (a n : Int) (hlen : (rowOf M a).length ≤ 1000000) : Calls Try.prog 16 #[.pointer (some ⟨y, 0, none⟩), .int .i64 a, .int .i64 n] w fun e w' => e = .returned (.int .i64 (spendE A M a n false)) ∧ Hop y ab F (reserveA A M a n) M w w' := by
  have hm := ref6_may h hok a n hlen
  by_cases he : spendE A M a n false = 0
  · obtain ⟨ha, hb, hn⟩ := spendE_ok he
    obtain ⟨k, rfl⟩ : ∃ k : Nat, a = k := ⟨a.toNat, by have := ha.1; omega⟩
    have hk : k < 10 := by have := ha.2; omega
    have hk' : (k : Int) < 10 := ha.2
    rw [Int.toNat_natCast] at hn
    obtain ⟨⟨f0, f1⟩, f2, f3⟩ := free_bd hok hk
    obtain ⟨fr, hfr⟩ : ∃ fr, fr = (A k).1 := ⟨_, rfl⟩
    obtain ⟨hl, hhl⟩ : ∃ hl, hl = (A k).2 := ⟨_, rfl⟩
    rw [← hfr] at hn f0 f1
    rw [← hhl] at f2 f3
    have W1 : IntKind.i64.wrap (fr - n) = fr - n := IntWalk.i64_in _ (by have := hb.1; omega)
    have W2 : IntKind.i64.wrap (hl + n) = hl + n := IntWalk.i64_in _ (by have := hb.1; have := hb.2; omega)
    have hS : reserveA A M (k : Int) n = upd (upd A k (fr - n, (A k).2)) k ((upd A k (fr - n, (A k).2) k).1, hl + n) := by unfold reserveA spendA; rw [if_pos he, Int.toNat_natCast]; funext i; by_cases e : i = k <;> simp [upd, e, hfr, hhl]
    have HK := Lib.hid hk
    have HS := Lib.hid hS
    have HC := Lib.hid (fun (W : World) (hW : Below w.heap.size w W) => show (W.cell? ⟨y, 0, none⟩ = some (.slice (some ⟨ab, 0, none⟩) 10 10) ∧ W.cell? ⟨ab, k * 3, none⟩ = some (.int .i64 fr) ∧ W.cell? ⟨ab, k * 3 + 1, none⟩ = some (.int .i64 hl) ∧ W.frozen? ⟨ab, k * 3, none⟩ = false ∧ W.frozen? ⟨ab, k * 3 + 1, none⟩ = false) ∧ Hop y ab F A M w W from by
      have hp := Hop.start h hW
      have := hp.cells hk
      rw [← hfr, ← hhl] at this
      exact ⟨this, hp⟩)
    have HH := Lib.hid h
    have HHL := Lib.hid (And.intro hfr hhl)
    rw [he]
    rw [he] at hm
    have HM0 := Lib.hid hm
    clear hm h hok hlen he ha hb hn hfr hhl f0 f1 f2 f3 hS
    go_enter Try.func16, Try.ntmps16
    go_upto_region 4 with (first
      | (go_at_call 39; refine HM0.out.mono ?_; rintro e w1 ⟨rfl, hb⟩; have HB := Lib.hid hb; clear hb)
      | fail)
    obtain ⟨⟨c, c0, c1, z0, z1⟩, hp⟩ := HC.out w1.drew HB.out.drew
    have HP := Lib.hid hp
    clear hp
    have hp2 := Hop.held HH.out (Hop.free HH.out HP.out HK.out (fr - n)) HK.out (hl + n)
    have HP2 := Lib.hid hp2
    have hq := Hop.free HH.out (Hop.start HH.out HB.out) HK.out (fr - n)
    obtain ⟨d, d0, d1, y0, y1⟩ := hq.cells HK.out
    have d1' : (w1.setCell ⟨ab, k * 3, none⟩ (.int .i64 (fr - n))).cell? ⟨ab, k * 3 + 1, none⟩ = some (.int .i64 hl) := by
      rw [d1, HHL.out.2]; simp [upd]
    clear hp2 hq d0 d1
    go_region
    go_wp2_with fail
    exact bodyPost_ret (v := .int .i64 0) (by simp [results, Try.results16, go_sem]) rfl ⟨rfl, by rw [HS.out]; exact HP2.out⟩
  · have hS : reserveA A M a n = A := if_neg he
    rw [hS]
    obtain ⟨q, hq⟩ : ∃ q, q = spendE A M a n false := ⟨_, rfl⟩
    rw [← hq] at he hm ⊢
    have HM0 := Lib.hid hm
    have HF := Lib.hid (fun (W : World) (hW : Below w.heap.size w W) => show Hop y ab F A M w W from Hop.start h hW)
    have g : (q == 0) = false := by simpa using he
    have g2 : (q != 0) = true := by simpa using he
    clear hm h hok hlen hS hq
    go_enter Try.func16, Try.ntmps16
    go_wp2_with (first
      | (go_at_call 39; refine HM0.out.mono ?_; rintro e w1 ⟨rfl, hb⟩; have HB := Lib.hid hb; clear hb)
      | fail)
    exact bodyPost_ret (v := .int .i64 q) (by simp [results, Try.results16, go_sem]) rfl ⟨rfl, HF.out _ HB.out⟩
end
end Go.Proofs.Ytoohcckhdhfpnaa
end

section
namespace Go.Proofs.Ytoohcckhdhfpnaa
open Go.RowKit Go.Maps
set_option linter.unusedVariables false
set_option linter.unusedSimpArgs false

def lkStep (i n : Int) (s : List (Int × Int) × Bool) (o : Int × Int) : List (Int × Int) × Bool :=
  if o.1 = i then (if s.2 = false ∧ i ≤ o.1 then (s.1 ++ [(i, n)], true) else s)
  else if s.2 = false ∧ i ≤ o.1 then (s.1 ++ [(i, n)] ++ [o], true) else (s.1 ++ [o], s.2)
def lkAll (i n : Int) (l0 : Bool) (xs : List (Int × Int)) : List (Int × Int) × Bool := xs.foldl (lkStep i n) ([], l0)
theorem lkAll_snoc (i n : Int) (l0 : Bool) (xs : List (Int × Int)) (o : Int × Int) : lkAll i n l0 (xs ++ [o]) = lkStep i n (lkAll i n l0 xs) o := by simp [lkAll]
def lkEnd (i n : Int) (s : List (Int × Int) × Bool) : List (Int × Int) := if s.2 = false then s.1 ++ [(i, n)] else s.1
theorem snocK {l : List (Int × Int)} {o : Int × Int} (h : SrtK l) (hm : ∀ x ∈ l, x.1 < o.1) : SrtK (l ++ [o]) := List.pairwise_append.2 ⟨h, List.pairwise_singleton _ _, fun x hx y hy => by rw [List.mem_singleton.1 hy]; exact hm x hx⟩
theorem snocInd {α : Type} {P : List α → Prop} (h0 : P []) (h1 : ∀ xs x, P xs → P (xs ++ [x])) : ∀ xs, P xs := by
  have key : ∀ n, ∀ xs : List α, xs.length = n → P xs := by
    intro n
    induction n with
    | zero => intro xs h; rw [List.eq_nil_of_length_eq_zero h]; exact h0
    | succ n ih =>
      intro xs h
      rcases List.eq_nil_or_concat xs with rfl | ⟨q, y, rfl⟩
      · simp at h
      · have hq : q.length = n := by simp at h; omega
        have := h1 q y (ih q hq)
        simpa using this
  exact fun xs => key _ xs rfl
theorem lk_true (i n : Int) : ∀ (xs : List (Int × Int)), lkAll i n true xs = (sdel xs i, true) := by
  refine snocInd rfl (fun xs o ih => ?_)
  · rw [lkAll_snoc, ih]
    unfold lkStep sdel
    rw [List.filter_append]
    by_cases e : o.1 = i <;> simp [e]
/-- What holds behind some of them. -/
structure LkI (i n : Int) (pre : List (Int × Int)) (s : List (Int × Int) × Bool) : Prop where
  srt : SrtK s.1
  no : s.2 = false → s.1 = pre ∧ ∀ x ∈ pre, x.1 < i
  yes : s.2 = true → (∃ o ∈ pre, i ≤ o.1) ∧ ∀ x, x ∈ s.1 ↔ x = (i, n) ∨ (x ∈ pre ∧ x.1 ≠ i)
theorem lk_false (i n : Int) : ∀ (xs : List (Int × Int)), SrtK xs → LkI i n xs (lkAll i n false xs) := by
  refine snocInd (fun _ => ⟨List.Pairwise.nil, fun _ => ⟨rfl, fun x hx => by simp at hx⟩, (fun h => by cases h)⟩) (fun xs o ih => ?_)
  · intro hs
    obtain ⟨h1, -, h2⟩ := List.pairwise_append.1 hs
    have h2 : ∀ x ∈ xs, x.1 < o.1 := fun x hx => h2 x hx o (by simp)
    rw [lkAll_snoc]
    obtain ⟨st, hst⟩ : ∃ st, st = lkAll i n false xs := ⟨_, rfl⟩
    rw [← hst] at ih ⊢
    obtain ⟨q1, q2, q3⟩ := ih h1
    clear hst ih
    obtain ⟨acc, laid⟩ := st
    replace q1 : SrtK acc := q1
    replace q2 : laid = false → acc = xs ∧ ∀ x ∈ xs, x.1 < i := q2
    replace q3 : laid = true → (∃ o ∈ xs, i ≤ o.1) ∧ ∀ x, x ∈ acc ↔ x = (i, n) ∨ (x ∈ xs ∧ x.1 ≠ i) := q3
    unfold lkStep
    cases laid with
    | false =>
      obtain ⟨rfl, hlt⟩ := q2 rfl
      by_cases e : o.1 = i
      · rw [if_pos e, if_pos ⟨rfl, by omega⟩]
        refine ⟨snocK q1 hlt, (fun h => by cases h), fun _ => ⟨⟨o, by simp, by omega⟩, fun x => ?_⟩⟩
        simp only [List.mem_append, List.mem_singleton]
        constructor
        · rintro (h | h)
          · exact .inr ⟨.inl h, by have := hlt x h; omega⟩
          · exact .inl h
        · rintro (h | ⟨h | h, h3⟩)
          · exact .inr h
          · exact .inl h
          · rw [h] at h3; exact absurd e h3
      · rw [if_neg e]
        by_cases hi : i ≤ o.1
        · rw [if_pos ⟨rfl, hi⟩]
          refine ⟨snocK (snocK q1 hlt) (fun x hx => ?_), (fun h => by cases h), fun _ => ⟨⟨o, by simp, hi⟩, fun x => ?_⟩⟩
          · rcases List.mem_append.1 hx with hx | hx
            · exact h2 x hx
            · rw [List.mem_singleton.1 hx]; show i < o.1; omega
          · simp only [List.mem_append, List.mem_singleton]
            constructor
            · rintro ((h | h) | h)
              · exact .inr ⟨.inl h, by have := hlt x h; omega⟩
              · exact .inl h
              · exact .inr ⟨.inr h, by rw [h]; exact e⟩
            · rintro (h | ⟨h | h, h3⟩)
              · exact .inl (.inr h)
              · exact .inl (.inl h)
              · exact .inr h
        · rw [if_neg (fun h => hi h.2)]
          refine ⟨snocK q1 h2, fun _ => ⟨rfl, fun x hx => ?_⟩, (fun h => by cases h)⟩
          rcases List.mem_append.1 hx with hx | hx
          · exact hlt x hx
          · rw [List.mem_singleton.1 hx]; omega
    | true =>
      obtain ⟨⟨p, hp, hip⟩, hm⟩ := q3 rfl
      have hpo := h2 p hp
      rw [if_neg (show ¬ o.1 = i by omega), if_neg (fun h => by cases h.1)]
      refine ⟨snocK q1 (fun x hx => ?_), (fun h => by cases h), fun _ => ⟨⟨p, List.mem_append_left _ hp, hip⟩, fun x => ?_⟩⟩
      · rcases (hm x).1 hx with rfl | ⟨h, -⟩
        · show i < o.1; omega
        · exact h2 x h
      · simp only [List.mem_append, List.mem_singleton, hm]
        constructor
        · rintro ((h | ⟨h, h3⟩) | h)
          · exact .inl h
          · exact .inr ⟨.inl h, h3⟩
          · exact .inr ⟨.inr h, by rw [h]; omega⟩
        · rintro (h | ⟨h | h, h3⟩)
          · exact .inl (.inl h)
          · exact .inl (.inr ⟨h, h3⟩)
          · exact .inr h
theorem mem_sputL {xs : List (Int × Int)} {i n : Int} {x : Int × Int} : x ∈ sput xs i n ↔ x = (i, n) ∨ (x ∈ xs ∧ x.1 ≠ i) := by
  unfold sput sdel
  rw [mem_ins]
  simp
theorem lk_put {i n : Int} {xs : List (Int × Int)} (hs : SrtK xs) (hp : SrtK (sput xs i n)) : lkEnd i n (lkAll i n false xs) = sput xs i n := by
  obtain ⟨h1, h2, h3⟩ := lk_false i n xs hs
  unfold lkEnd
  split
  · rename_i e
    obtain ⟨e1, e2⟩ := h2 e
    rw [e1]
    refine SrtK.ext (snocK hs e2) hp (fun x => ?_)
    rw [mem_sputL, List.mem_append, List.mem_singleton]
    constructor
    · rintro (h | h)
      · exact .inr ⟨h, by have := e2 x h; omega⟩
      · exact .inl h
    · rintro (h | ⟨h, -⟩)
      · exact .inr h
      · exact .inl h
  · rename_i e
    have e : (lkAll i n false xs).2 = true := by simpa using e
    refine SrtK.ext h1 hp (fun x => ?_)
    rw [mem_sputL]
    exact (h3 e).2 x
/-- The row that Lock leaves. -/
theorem lk_row {M : Cls Int} (hs : SrtC M) {a : Int} (ha : isAcc a) (i n : Int) : lkEnd i n (lkAll i n (decide (n = 0 ∨ ¬ isBal n)) (rowOf M a)) = rowOf (lockM M a i n) a := by
  unfold lockM
  rw [if_neg (fun e => e ha)]
  by_cases h : n = 0 ∨ ¬ isBal n
  · rw [decide_eq_true h, if_pos h, lk_true, hs.row_del, if_pos rfl]
    rfl
  · rw [decide_eq_false h, if_neg h]
    rw [hs.row_put, if_pos rfl]
    exact lk_put (hs.row a) ((hs.row a).put i n)
end Go.Proofs.Ytoohcckhdhfpnaa
end

section
namespace Go.Proofs.Ytoohcckhdhfpnaa
open Go.RowKit Go.Maps
set_option linter.unusedVariables false
set_option linter.unusedSimpArgs false

/-- A row of locks of one's own, and a lock in a box. -/
structure LkB (w : World) (bo : Nat) (x : Int × Int) (v : Value) (acc : List (Int × Int)) (W : World) : Prop where
  own : OwnR lockP w.heap.size v acc W
  old : Below w.heap.size w W
  box : W.heap[bo]? = some (.cells #[.int .i64 x.1, .int .i64 x.2] 44 (0, 0))
  nbo : v.ownBlock ≠ some bo
  lo : w.heap.size ≤ bo
def upd' (vs : Nat → Value) (k : Nat) (v : Value) : Nat → Value := fun i => if i = k then v else vs i
theorem cell_ltR {w : World} {b o : Nat} {v : Value} (h : w.cell? ⟨b, o, none⟩ = some v) : b < w.heap.size := by
  cases Nat.lt_or_ge b w.heap.size with
  | inl h' => exact h'
  | inr h' => rw [World.cell?, Array.getElem?_eq_none h'] at h; cases h
section
variable {w W w4 : World} {bo : Nat} {x y : Int × Int} {v v' : Value} {acc : List (Int × Int)}
theorem LkB.lt (h : LkB w bo x v acc W) : bo < W.heap.size := (Array.getElem?_eq_some_iff.1 h.box).1
theorem LkB.range (h : LkB w bo x v acc W) : W.rangeAt bo 0 (lockP.f x) := rangeAt_whole (T := 44) h.box
theorem LkB.cells (h : LkB w bo x v acc W) : W.cell? ⟨bo, 0, none⟩ = some (.int .i64 x.1) ∧ W.cell? ⟨bo, 1, none⟩ = some (.int .i64 x.2) := ⟨by rw [World.cell?, h.box]; rfl, by rw [World.cell?, h.box]; rfl⟩
theorem LkB.lit (h : LkB w bo x v acc W) (y : Int × Int) : OwnR lockP w.heap.size v acc (W.alloc (.cells (lockP.f y).toArray 44)) := h.own.of (Nat.le_refl _) (fun k hk => Below.heap_alloc _ _ _ (h.own.block hk).2)
theorem LkB.app (h : LkB w bo x v acc W) (hO : OwnR lockP w.heap.size v' (acc ++ [y]) w4) (hg : (W.alloc (.cells (lockP.f y).toArray 44)).grownBy w4 v.ownBlock) (hat : v'.ownBlock = v.ownBlock ∨ v'.ownBlock = some (W.alloc (.cells (lockP.f y).toArray 44)).heap.size) : LkB w bo x v' (acc ++ [y]) w4 := by
  have hl := h.lt
  refine ⟨hO, Below.grown (h.old.alloc h.old.size _) hg (by have := h.old.size; rw [World.size_alloc]; omega) (fun j hj => (h.own.block hj).1), ?_, ?_, h.lo⟩
  · rw [hg.block bo (by rw [World.size_alloc]; omega) (fun e => h.nbo e.symm), Below.heap_alloc _ _ _ hl]
    exact h.box
  · rcases hat with e | e
    · rw [e]; exact h.nbo
    · rw [e]; intro q; injection q with q; rw [World.size_alloc] at q; omega
end
theorem lkAll_len (i n : Int) (l0 : Bool) (xs : List (Int × Int)) : (lkAll i n l0 xs).1.length ≤ 2 * xs.length := by
  refine snocInd (P := fun xs => (lkAll i n l0 xs).1.length ≤ 2 * xs.length) (by simp [lkAll]) (fun xs o ih => ?_) xs
  rw [lkAll_snoc]
  unfold lkStep
  split <;> split <;> simp <;> omega
section
variable {y ab : Nat} {F : FP} {A : Acc} {M : Cls Int} {w : World}
theorem lock_row (hs : SrtC M) {a b : Int} (i n : Int) (h : b ≠ a) : rowOf (lockM M a i n) b = rowOf M b := by
  unfold lockM
  split
  · rfl
  · split
    · rw [hs.row_del, if_neg h]
    · rw [hs.row_put, if_neg h]
theorem lock_srt (hs : SrtC M) (a i n : Int) : SrtC (lockM M a i n) := by
  unfold lockM
  split
  · exact hs
  · split
    · exact hs.del _ _
    · exact hs.put _ _ _
theorem lock_keys (hs : ∀ x ∈ M, isAcc x.1.1) {a : Int} (ha : isAcc a) (i n : Int) : ∀ x ∈ lockM M a i n, isAcc x.1.1 := by
  unfold lockM
  split
  · exact hs
  · split
    · exact fun x hx => hs x (mem_cdel.1 hx).1
    · intro x hx
      rcases mem_cput.1 hx with rfl | ⟨hx, -⟩
      · exact ha
      · exact hs x hx
/-- A row of locks laid. -/
theorem RlAt.lay (h : RlAt y ab F A M w) {k : Nat} (hk : k < 10) {i n : Int} {v : Value} {W : World} (hb : Below w.heap.size w W) (hO : OwnR lockP w.heap.size v (rowOf (lockM M k i n) k) W) : RlTo y ab F A (lockM M k i n) w (W.setCell ⟨ab, k * 3 + 2, none⟩ v) := by
  obtain ⟨vs, C, h1, h2, h3, h4, h5, h6, h7, h8, h9, h10⟩ := h
  have hyl := h8 y h5
  have hal := h8 ab h6
  have hs := hb.size
  have ho : ∀ q, q ≠ ab → (W.setCell ⟨ab, k * 3 + 2, none⟩ v).heap[q]? = W.heap[q]? := fun q hq => Below.heap_setCell _ _ _ q hq
  have hz : (W.setCell ⟨ab, k * 3 + 2, none⟩ v).heap.size = W.heap.size := by simp [World.setCell]
  have hvb : ∀ b, v.ownBlock = some b → w.heap.size ≤ b ∧ b < W.heap.size := fun b e => hO.block e
  refine ⟨fun q => F q ∨ v.ownBlock = some q, ⟨upd' vs k v, C.setIfInBounds (k * 3 + 2) v, ?_, ?_, ?_, fun j hj => ?_, .inl h5, .inl h6, h7, fun q hq => ?_, lock_keys h9 (by unfold isAcc; omega) i n, lock_srt h10 _ i n⟩, fun q hq => hq.imp id (fun e => (hvb q e).1), ⟨hb.os, hb.tape, hb.output, by omega⟩, fun q hq q1 q2 => ?_⟩
  · rw [ho y h7, hb.block y hyl]; exact h1
  · simp [World.setCell, Array.getElem?_modify, hb.block ab hal, h2]
  · obtain ⟨c1, c2⟩ := h3
    refine ⟨by simpa using c1, fun j hj => ?_⟩
    obtain ⟨d0, d1, d2⟩ := c2 j hj
    by_cases e : j = k
    · subst e
      rw [Array.getElem?_setIfInBounds_ne (by omega), Array.getElem?_setIfInBounds_ne (by omega), Array.getElem?_setIfInBounds_self_of_lt (by omega)]
      exact ⟨d0, d1, by simp [upd']⟩
    · rw [Array.getElem?_setIfInBounds_ne (by omega), Array.getElem?_setIfInBounds_ne (by omega), Array.getElem?_setIfInBounds_ne (by omega)]
      exact ⟨d0, d1, by simp [upd', e, d2]⟩
  · by_cases e : j = k
    · subst e
      simp only [upd', if_pos]
      exact ⟨hO.reads.keep (by omega) (fun b hb2 => ho b (by have := hvb b hb2; omega)), fun b hb2 => ⟨.inr hb2, by have := hvb b hb2; omega, by have := hvb b hb2; omega⟩⟩
    · simp only [upd', if_neg e]
      obtain ⟨r1, r2⟩ := h4 j hj
      rw [lock_row h10 i n (show (j : Int) ≠ k by omega)]
      exact ⟨r1.keep (by omega) (fun b hb2 => by rw [ho b (r2 b hb2).2.2]; exact hb.block b (h8 b (r2 b hb2).1)), fun b hb2 => ⟨.inl (r2 b hb2).1, (r2 b hb2).2⟩⟩
  · rcases hq with hq | hq
    · have := h8 q hq; omega
    · have := hvb q hq; omega
  · rw [ho q (fun e => q1 (e ▸ h6))]
    exact hb.block q hq
set_option maxRecDepth 100000 in
set_option maxHeartbeats 4000000 in
theorem ref6_Lock (h : RlAt y ab F A M w) {a : Int} (i n : Int) (hlen : (rowOf M a).length ≤ 100000) : Calls Try.prog 22 #[.pointer (some ⟨y, 0, none⟩), .int .i64 a, .int .i64 i, .int .i64 n] w fun e w' => e = .returned (.tuple #[]) ∧ RlTo y ab F A (lockM M a i n) w w' := by
  by_cases ha : isAcc a
  · obtain ⟨k, rfl⟩ : ∃ k : Nat, a = k := ⟨a.toNat, by have := ha.1; omega⟩
    have hk : k < 10 := by have := ha.2; omega
    have hk' : (k : Int) < 10 := ha.2
    have hI := ref6_Is (k : Int) w
    rw [decide_eq_true (show 0 ≤ (k : Int) ∧ (k : Int) < 10 from ha)] at hI
    have HI := Lib.hid hI
    obtain ⟨l0, hl0⟩ : ∃ l0, l0 = decide (n = 0 ∨ ¬ isBal n) := ⟨_, rfl⟩
    have hrow := lk_row h.srt ha i n
    rw [← hl0] at hrow
    obtain ⟨v, c, c0, c1, c2, hrd, fz⟩ := h.cells hk
    obtain ⟨ao, cap, rfl⟩ := hrd.lenOf
    obtain ⟨xs, hxs⟩ : ∃ xs, xs = rowOf M k := ⟨_, rfl⟩
    rw [← hxs] at hrd hlen c2 hrow
    obtain ⟨L, hL⟩ : ∃ L, L = xs.length := ⟨_, rfl⟩
    rw [← hL] at hlen c2 hrd
    have HRD := Lib.hid (And.intro hrd hL)
    have HROW := Lib.hid hrow
    have HH := Lib.hid (And.intro h (And.intro hk ha))
    have hlaid : (n ≤ 0 ∧ l0 = true) ∨ (¬ n ≤ 0 ∧ n > 1073741824 ∧ l0 = true) ∨ (¬ n ≤ 0 ∧ ¬ n > 1073741824 ∧ l0 = false) := by
      unfold isBal at hl0
      by_cases q1 : n ≤ 0
      · exact .inl ⟨q1, by rw [hl0]; exact decide_eq_true (by omega)⟩
      · by_cases q2 : n > 1073741824
        · exact .inr (.inl ⟨q1, q2, by rw [hl0]; exact decide_eq_true (by omega)⟩)
        · exact .inr (.inr ⟨q1, q2, by rw [hl0]; exact decide_eq_false (by omega)⟩)
    have HLD := Lib.hid hlaid
    clear hI h ha hl0 hrow hrd hxs hL hlaid c0 c1
    go_enter Try.func22, Try.ntmps22
    go_upto_region 2 with (first
      | (go_at_call 38; refine HI.out.mono ?_; rintro e w' ⟨rfl, hw⟩; rw [hw]; clear hw w')
      | fail)
    go_cut [9] (fun v wx => v = .bool l0 ∧ wx = w)
    case first =>
      rcases HLD.out with ⟨q1, q⟩ | ⟨q1, q2, q⟩ | ⟨q1, q2, q⟩
      all_goals
        have HQ := Lib.hid q
        clear q
        go_wp2_with fail
        go_meet
        exact ⟨by first | (rw [HQ.out]; done) | (rw [HQ.out]; simp <;> omega), rfl⟩
    case rest =>
      obtain ⟨rfl, hwx⟩ := hcut
      rw [hwx]
      clear hwx
      go_wp2_with fail
      go_loopw [8, 9, 10] (fun x ld ix wr => ∃ j : Nat, j ≤ L ∧ ix = .int .i64 j ∧ ld = .bool (lkAll i n l0 (xs.take j)).2 ∧ OwnR lockP w.heap.size x (lkAll i n l0 (xs.take j)).1 wr ∧ Below w.heap.size w wr) (fun _ _ ix _ => L - (intOf ix).toNat)
      case atStart => exact ⟨0, by omega, rfl, rfl, OwnR.nil _ _, Below.refl _ _⟩
      case round =>
        obtain ⟨j, hj, rfl, rfl, how, hb⟩ := hrel
        by_cases hlt : j < L
        · have g1 : (j : Int) < L := by omega
          obtain ⟨b, off, rfl, hr, hbk⟩ := HRD.out.1.at (show j < xs.length by rw [← HRD.out.2]; exact hlt)
          obtain ⟨x, hx⟩ : ∃ x, x = xs[j]'(by rw [← HRD.out.2]; exact hlt) := ⟨_, rfl⟩
          rw [← hx] at hr
          have hst : lkAll i n l0 (xs.take (j + 1)) = lkStep i n (lkAll i n l0 (xs.take j)) x := by
            rw [← lkAll_snoc, hx]
            congr 1
            exact (take_snoc (by rw [← HRD.out.2]; exact hlt)).symm
          have hln := lkAll_len i n l0 (xs.take j)
          rw [List.length_take] at hln
          have hyl : y < w.heap.size := cell_ltR c
          have hal : ab < w.heap.size := cell_ltR c2
          have d : wr.cell? ⟨y, 0, none⟩ = some (.slice (some ⟨ab, 0, none⟩) 10 10) := (World.cell?_of_block (a := ⟨y, 0, none⟩) (hb.block y hyl)).trans c
          have d2 : wr.cell? ⟨ab, k * 3 + 2, none⟩ = some (.slice (some ⟨b, off, none⟩) L cap) := (World.cell?_of_block (a := ⟨ab, k * 3 + 2, none⟩) (hb.block ab hal)).trans c2
          have HRR := Lib.hid (rangeAt_block hr (hb.block b hbk))
          obtain ⟨⟨acc, ld⟩, hacc⟩ : ∃ st, st = lkAll i n l0 (xs.take j) := ⟨_, rfl⟩
          rw [← hacc] at hst how hln ⊢
          obtain ⟨oi, on⟩ := x
          obtain ⟨xo, xc, hxo⟩ := (show OwnR lockP w.heap.size _ acc wr from how).lenOf
          subst hxo
          replace how : OwnR lockP w.heap.size (.slice xo acc.length xc) acc wr := how
          replace hln : acc.length ≤ 2 * min j xs.length := hln
          have HLEN := Lib.hid (show acc.length ≤ 500000 by omega)
          obtain ⟨bo, hbo⟩ : ∃ bo, bo = wr.heap.size := ⟨_, rfl⟩
          obtain ⟨W1, hW1⟩ : ∃ W1, W1 = wr.alloc (.cells #[.int .i64 oi, .int .i64 on] 44) := ⟨_, rfl⟩
          have hL1 : LkB w bo (oi, on) (.slice xo acc.length xc) acc W1 := by
            have hs := hb.size
            refine ⟨how.of (Nat.le_refl _) (fun q hq => ?_), ?_, ?_, fun e => ?_, by omega⟩
            · rw [hW1]; exact Below.heap_alloc _ _ _ (how.block hq).2
            · rw [hW1]; exact hb.alloc hb.size _
            · rw [hW1, hbo]; exact World.alloc_heap_new _ _
            · have := (how.block e).2; omega
          have HL1 := Lib.hid hL1
          have HST := Lib.hid hst
          have WK : IntKind.i64.wrap ((j : Int) + 1) = ((j + 1 : Nat) : Int) := by rw [IntWalk.i64_in _ (by omega)]; omega
          have HJ := Lib.hid hlt
          clear hst hln hacc how hr hx hyl hal hb hL1
          go_upto_region 7 with (first
            | (refine wpl_loadR (r := lockP) (t := (oi, on)) (b := b) (k := off + j * 2) _ rfl rfl rfl HRR.out ?_; dsimp only [lockP, lkL])
            | fail)
          rw [← hW1, ← hbo]
          clear hW1 hbo
          obtain ⟨e0, e1⟩ := HL1.out.cells
          replace e0 : W1.cell? ⟨bo, 0, none⟩ = some (.int .i64 oi) := e0
          by_cases q : oi = i
          · have f2 : (oi != i) = false := by simp [q]
            have f3 : oi ≥ i := by omega
            cases ld with
            | false =>
              have HSS := Lib.hid (show lkStep i n (acc, false) (oi, on) = (acc ++ [(i, n)], true) by unfold lkStep; rw [if_pos q, if_pos ⟨rfl, f3⟩])
              clear q
              go_wp2_with (first
                | (at_builtin; refine wpl_appR (r := lockP) (B := w.heap.size) (ub := W1.heap.size) (xs := acc) (y := (i, n)) rfl rfl rfl rfl (HL1.out.lit (i, n)) (rangeAt_whole (T := 44) (World.alloc_heap_new _ _)) (by have := HLEN.out; omega) (by have h1 := HL1.out.old.size; rw [World.size_alloc]; omega) ?_; intro v4 w4 hO hg hat hne; have HL4 := Lib.hid (LkB.app HL1.out hO hg hat); have e4 := HL4.out.cells.1; clear hO hg hat hne)
                | fail)
              go_roundw
              case rel =>
                have e := HST.out.trans HSS.out
                exact ⟨j + 1, by have := HJ.out; omega, by first | rfl | exact congrArg _ WK | go_num, by rw [e], by rw [e]; exact HL4.out.own, HL4.out.old⟩
              case measure => have := HJ.out; simp [intOf]; omega
            | true =>
              have HSS := Lib.hid (show lkStep i n (acc, true) (oi, on) = (acc, true) by unfold lkStep; rw [if_pos q, if_neg (fun x => by cases x.1)])
              clear q
              go_wp2_with fail
              go_roundw
              case rel =>
                have e := HST.out.trans HSS.out
                exact ⟨j + 1, by have := HJ.out; omega, by first | rfl | exact congrArg _ WK | go_num, by rw [e], by rw [e]; exact HL1.out.own, HL1.out.old⟩
              case measure => have := HJ.out; simp [intOf]; omega
          · have f2 : (oi != i) = true := by simpa using q
            cases ld with
            | false =>
              by_cases q2 : i ≤ oi
              · have f3 : oi ≥ i := q2
                have HSS := Lib.hid (show lkStep i n (acc, false) (oi, on) = (acc ++ [(i, n)] ++ [(oi, on)], true) by unfold lkStep; rw [if_neg q, if_pos ⟨rfl, q2⟩])
                clear q q2
                go_wp2_with (first
                  | (at_builtin; refine wpl_appR (r := lockP) (B := w.heap.size) (ub := W1.heap.size) (xs := acc) (y := (i, n)) rfl rfl rfl rfl (HL1.out.lit (i, n)) (rangeAt_whole (T := 44) (World.alloc_heap_new _ _)) (by have := HLEN.out; omega) (by have h1 := HL1.out.old.size; rw [World.size_alloc]; omega) ?_; intro v4 w4 hO hg hat hne; have HL4 := Lib.hid (LkB.app HL1.out hO hg hat); have e4 := HL4.out.cells.1; clear hO hg hat hne)
                  | (refine wpl_loadR (r := lockP) (t := (oi, on)) (b := bo) (k := 0) _ rfl rfl rfl HL4.out.range ?_; dsimp only [lockP, lkL])
                  | (at_builtin; refine wpl_appR (r := lockP) (B := w.heap.size) (ub := w4.heap.size) (xs := (acc ++ [(i, n)])) (y := (oi, on)) rfl rfl rfl rfl (HL4.out.lit (oi, on)) (rangeAt_whole (T := 44) (World.alloc_heap_new _ _)) (by have := HLEN.out; rw [List.length_append, List.length_singleton]; omega) (by have h1 := HL4.out.old.size; rw [World.size_alloc]; omega) ?_; intro v5 w5 hO hg hat hne; have HL5 := Lib.hid (LkB.app HL4.out hO hg hat); have e5 := HL5.out.cells.1; clear hO hg hat hne)
                  | fail)
                go_roundw
                case rel =>
                  have e := HST.out.trans HSS.out
                  exact ⟨j + 1, by have := HJ.out; omega, by first | rfl | exact congrArg _ WK | go_num, by rw [e], by rw [e]; exact HL5.out.own, HL5.out.old⟩
                case measure => have := HJ.out; simp [intOf]; omega
              · have f3 : ¬ oi ≥ i := q2
                have HSS := Lib.hid (show lkStep i n (acc, false) (oi, on) = (acc ++ [(oi, on)], false) by unfold lkStep; rw [if_neg q, if_neg (fun x => q2 x.2)])
                clear q q2
                go_wp2_with (first
                  | (refine wpl_loadR (r := lockP) (t := (oi, on)) (b := bo) (k := 0) _ rfl rfl rfl HL1.out.range ?_; dsimp only [lockP, lkL])
                  | (at_builtin; refine wpl_appR (r := lockP) (B := w.heap.size) (ub := W1.heap.size) (xs := acc) (y := (oi, on)) rfl rfl rfl rfl (HL1.out.lit (oi, on)) (rangeAt_whole (T := 44) (World.alloc_heap_new _ _)) (by have := HLEN.out; omega) (by have h1 := HL1.out.old.size; rw [World.size_alloc]; omega) ?_; intro v4 w4 hO hg hat hne; have HL4 := Lib.hid (LkB.app HL1.out hO hg hat); have e4 := HL4.out.cells.1; clear hO hg hat hne)
                  | fail)
                go_roundw
                case rel =>
                  have e := HST.out.trans HSS.out
                  exact ⟨j + 1, by have := HJ.out; omega, by first | rfl | exact congrArg _ WK | go_num, by rw [e], by rw [e]; exact HL4.out.own, HL4.out.old⟩
                case measure => have := HJ.out; simp [intOf]; omega
            | true =>
              have HSS := Lib.hid (show lkStep i n (acc, true) (oi, on) = (acc ++ [(oi, on)], true) by unfold lkStep; rw [if_neg q, if_neg (fun x => by cases x.1)])
              clear q
              go_wp2_with (first
                | (refine wpl_loadR (r := lockP) (t := (oi, on)) (b := bo) (k := 0) _ rfl rfl rfl HL1.out.range ?_; dsimp only [lockP, lkL])
                | (at_builtin; refine wpl_appR (r := lockP) (B := w.heap.size) (ub := W1.heap.size) (xs := acc) (y := (oi, on)) rfl rfl rfl rfl (HL1.out.lit (oi, on)) (rangeAt_whole (T := 44) (World.alloc_heap_new _ _)) (by have := HLEN.out; omega) (by have h1 := HL1.out.old.size; rw [World.size_alloc]; omega) ?_; intro v4 w4 hO hg hat hne; have HL4 := Lib.hid (LkB.app HL1.out hO hg hat); have e4 := HL4.out.cells.1; clear hO hg hat hne)
                | fail)
              go_roundw
              case rel =>
                have e := HST.out.trans HSS.out
                exact ⟨j + 1, by have := HJ.out; omega, by first | rfl | exact congrArg _ WK | go_num, by rw [e], by rw [e]; exact HL4.out.own, HL4.out.old⟩
              case measure => have := HJ.out; simp [intOf]; omega
        · obtain rfl : j = L := by omega
          have g1 : ¬ (j : Int) < j := by omega
          have hyl : y < w.heap.size := cell_ltR c
          have hal : ab < w.heap.size := cell_ltR c2
          have htk : xs.take j = xs := by rw [HRD.out.2, List.take_length]
          rw [htk] at how
          rw [htk]
          have hln := lkAll_len i n l0 xs
          have hrow := HROW.out
          obtain ⟨⟨acc, ld⟩, hacc⟩ : ∃ st, st = lkAll i n l0 xs := ⟨_, rfl⟩
          rw [← hacc] at hrow how hln ⊢
          obtain ⟨xo, xc, hxo⟩ := (show OwnR lockP w.heap.size _ acc wr from how).lenOf
          subst hxo
          replace how : OwnR lockP w.heap.size (.slice xo acc.length xc) acc wr := how
          replace hln : acc.length ≤ 2 * xs.length := hln
          have HLEN := Lib.hid (show acc.length ≤ 500000 by have := HRD.out.2; omega)
          have d : wr.cell? ⟨y, 0, none⟩ = some (.slice (some ⟨ab, 0, none⟩) 10 10) := (World.cell?_of_block (a := ⟨y, 0, none⟩) (hb.block y hyl)).trans c
          have d2 : wr.cell? ⟨ab, k * 3 + 2, none⟩ = some (.slice ao j cap) := (World.cell?_of_block (a := ⟨ab, k * 3 + 2, none⟩) (hb.block ab hal)).trans c2
          have HFZ := Lib.hid (fun (W : World) (hW : Below w.heap.size w W) => show W.cell? ⟨y, 0, none⟩ = some (.slice (some ⟨ab, 0, none⟩) 10 10) ∧ W.cell? ⟨ab, k * 3 + 2, none⟩ = some (.slice ao j cap) ∧ W.frozen? ⟨ab, k * 3 + 2, none⟩ = false from ⟨(World.cell?_of_block (a := ⟨y, 0, none⟩) (hW.block y hyl)).trans c, (World.cell?_of_block (a := ⟨ab, k * 3 + 2, none⟩) (hW.block ab hal)).trans c2, by have := fz (k * 3 + 2); rw [World.frozen?, hW.block ab hal]; rwa [World.frozen?] at this⟩)
          have HOW := Lib.hid how
          have HBB := Lib.hid hb
          cases ld with
          | true =>
            have HR := Lib.hid (show acc = rowOf (lockM M k i n) k from hrow)
            have f1 := (HFZ.out wr hb).2.2
            clear hacc how hrow hln htk hb hyl hal
            go_wp2_with fail
            refine bodyPost_end (v := .tuple #[]) (by simp [results, Try.results22, go_sem]) rfl ⟨rfl, HH.out.1.lay HH.out.2.1 HBB.out (by rw [← HR.out]; exact HOW.out)⟩
          | false =>
            have HR := Lib.hid (show acc ++ [(i, n)] = rowOf (lockM M k i n) k from hrow)
            clear hacc how hrow hln htk hb hyl hal
            go_upto_region 14 with (first
              | (at_builtin; refine wpl_appR (r := lockP) (B := w.heap.size) (ub := wr.heap.size) (xs := acc) (y := (i, n)) rfl rfl rfl rfl (HOW.out.of (Nat.le_refl _) (fun q hq => Below.heap_alloc _ _ _ (HOW.out.block hq).2)) (rangeAt_whole (T := 44) (World.alloc_heap_new _ _)) (by have := HLEN.out; omega) (by have h1 := HBB.out.size; rw [World.size_alloc]; omega) ?_; intro v4 w4 hO hg hat hne; obtain ⟨ao4, cp4, hv4⟩ := hO.lenOf; subst hv4; have HO4 := Lib.hid hO; have HB4 := Lib.hid (show Below w.heap.size w w4 from Below.grown (HBB.out.alloc HBB.out.size _) hg (by have := HBB.out.size; rw [World.size_alloc]; omega) (fun q hq => (HOW.out.block hq).1)); clear hO hg hat hne)
              | fail)
            obtain ⟨x1, x2, x3⟩ := HFZ.out w4 HB4.out
            go_wp2_with fail
            refine bodyPost_end (v := .tuple #[]) (by simp [results, Try.results22, go_sem]) rfl ⟨rfl, HH.out.1.lay HH.out.2.1 HB4.out (by rw [← HR.out]; have h := HO4.out; rw [List.length_append, List.length_singleton] at h; exact h)⟩
  · have hI := ref6_Is a w
    rw [decide_eq_false (show ¬ (0 ≤ a ∧ a < 10) from ha)] at hI
    have HI := Lib.hid hI
    have hS : lockM M a i n = M := if_pos ha
    rw [hS]
    have HF := Lib.hid (RlTo.refl h)
    clear hI h ha hS
    go_enter Try.func22, Try.ntmps22
    go_wp2_with (first
      | (go_at_call 38; refine HI.out.mono ?_; rintro e w' ⟨rfl, hw⟩; rw [hw]; clear hw w')
      | fail)
    exact bodyPost_ret (v := .tuple #[]) (by simp [results, Try.results22, go_sem]) rfl ⟨rfl, HF.out⟩
end
end Go.Proofs.Ytoohcckhdhfpnaa
end

section
namespace Go.Proofs.Ytoohcckhdhfpnaa
open Go.RowKit Go.Maps Go.Shelf
set_option linter.unusedVariables false
set_option linter.unusedSimpArgs false
set_option linter.constructorNameAsVariable false

section
variable {g N y ab : Nat} {Z : FP} {A A2 : Acc} {M M2 : Cls Int} {w w' : World}
/-- Both, and an act in a box. -/
def TwA (g N y ab : Nat) (Z : FP) (nb : Nat) (x : A4) (A : Acc) (M : Cls Int) (A2 : Acc) (M2 : Cls Int) (w W : World) : Prop := Two g N y ab (fun k => Z k ∨ k = nb) A M A2 M2 W ∧ Kept Z w W ∧ W.heap[nb]? = some (.cells #[.int .i64 x.1, .int .i64 x.2.1, .int .i64 x.2.2.1, .int .i64 x.2.2.2] 33 (0, 0))
theorem TwA.start (h : Two g N y ab Z A M A2 M2 w) (x : A4) : TwA g N y ab Z w.heap.size x A M A2 M2 w (w.alloc (.cells #[.int .i64 x.1, .int .i64 x.2.1, .int .i64 x.2.2.1, .int .i64 x.2.2.2] 33)) := ⟨h.more _, Kept.of_below ((Below.refl _ w).alloc (Nat.le_refl _) _) (fun k hk => h.lt hk), World.alloc_heap_new _ _⟩
section
variable {nb : Nat} {x : A4} {W W' : World}
theorem TwA.below (h : TwA g N y ab Z nb x A M A2 M2 w W) (hb : Below W.heap.size W W') : TwA g N y ab Z nb x A M A2 M2 w W' := ⟨h.1.below hb, h.2.1.trans (Kept.of_below hb (fun k hk => h.1.lt (.inl hk))), (hb.block nb (h.1.lt (.inr rfl))).trans h.2.2⟩
theorem TwA.drew (h : TwA g N y ab Z nb x A M A2 M2 w W) : TwA g N y ab Z nb x A M A2 M2 w W.drew := h.below (Below.refl _ W).drew
theorem TwA.cells (h : TwA g N y ab Z nb x A M A2 M2 w W) : W.cell? ⟨nb, 0, none⟩ = some (.int .i64 x.1) ∧ W.cell? ⟨nb, 1, none⟩ = some (.int .i64 x.2.1) ∧ W.cell? ⟨nb, 2, none⟩ = some (.int .i64 x.2.2.1) ∧ W.cell? ⟨nb, 3, none⟩ = some (.int .i64 x.2.2.2) :=
  ⟨by rw [World.cell?, h.2.2]; rfl, by rw [World.cell?, h.2.2]; rfl, by rw [World.cell?, h.2.2]; rfl, by rw [World.cell?, h.2.2]; rfl⟩
theorem TwA.ld (h : TwA g N y ab Z nb x A M A2 M2 w W) : ∃ FL, LdX g N A M FL W ∧ ∀ A' M' w', LdTo g N A' M' FL W w' → TwA g N y ab Z nb x A' M' A2 M2 w w' := by
  obtain ⟨FL, h1, h2⟩ := h.1.ld
  exact ⟨FL, h1, fun A' M' w' ht => ⟨(h2 A' M' w' ht).1, h.2.1.trans ((h2 A' M' w' ht).2.weak (fun k hk => .inl hk)), ((h2 A' M' w' ht).2.2 nb (.inr rfl)).trans h.2.2⟩⟩
theorem TwA.rl (h : TwA g N y ab Z nb x A M A2 M2 w W) : ∃ F, RlAt y ab F A2 M2 W ∧ ∀ A' M' w', RlTo y ab F A' M' W w' → TwA g N y ab Z nb x A M A' M' w w' := by
  obtain ⟨F, h1, h2⟩ := h.1.rl
  exact ⟨F, h1, fun A' M' w' ht => ⟨(h2 A' M' w' ht).1, h.2.1.trans ((h2 A' M' w' ht).2.weak (fun k hk => .inl hk)), ((h2 A' M' w' ht).2.2 nb (.inr rfl)).trans h.2.2⟩⟩
end
theorem rows_le {n : Nat} (h : M.length ≤ n) (a : Int) : (rowOf M a).length ≤ n := Nat.le_trans (row_length M a) h
set_option maxRecDepth 100000 in
set_option maxHeartbeats 4000000 in
theorem law_act_Transfer (xa xb xn : Int) (wa : (Lit.int .i64 xa).wf = true) (h0 : Two g N y ab Z A M A M w) : Calls Try.prog 6 #[.pointer (some ⟨g, 0, none⟩), .pointer (some ⟨y, 0, none⟩), .agg #[.int .i64 1, .int .i64 xa, .int .i64 xb, .int .i64 xn]] w fun e w' => e = .returned (.bool true) ∧ Two g N y ab Z (transA A M xa xb xn) M (transA A M xa xb xn) M w' ∧ Kept Z w w' := by
  obtain ⟨nb, hnb⟩ : ∃ nb, nb = w.heap.size := ⟨_, rfl⟩
  have s0 := TwA.start h0 (1, xa, xb, xn)
  rw [← hnb] at s0
  obtain ⟨E, hE⟩ : ∃ E, E = transE A M xa xb xn := ⟨_, rfl⟩
  have c1 : ∀ W, TwA g N y ab Z nb (1, xa, xb, xn) A M A M w W → Calls Try.prog 13 #[.pointer (some ⟨g, 0, none⟩), .int .i64 xa, .int .i64 xb, .int .i64 xn] W fun e w' => e = .returned (.int .i64 E) ∧ TwA g N y ab Z nb (1, xa, xb, xn) (transA A M xa xb xn) M A M w w' := fun W h => by
    obtain ⟨FL, hx, ht⟩ := h.ld
    rw [hE]
    refine (ledger_TransferX hx wa xb xn).mono ?_
    rintro e w' ⟨he, hw⟩
    exact ⟨he, ht _ _ _ hw⟩
  have c2 : ∀ W, TwA g N y ab Z nb (1, xa, xb, xn) (transA A M xa xb xn) M A M w W → Calls Try.prog 14 #[.pointer (some ⟨y, 0, none⟩), .int .i64 xa, .int .i64 xb, .int .i64 xn] W fun e w' => e = .returned (.int .i64 E) ∧ TwA g N y ab Z nb (1, xa, xb, xn) (transA A M xa xb xn) M (transA A M xa xb xn) M w w' := fun W h2 => by
    obtain ⟨F, hx, ht⟩ := h2.rl
    have h : Two g N y ab Z A M A M w := h0
    rw [hE]
    refine (ref6_Transfer hx h.srt.2.1 xa xb xn (rows_le (Nat.le_trans h.srt.2.2 (by decide)) xa)).mono ?_
    rintro e w' ⟨he, hw⟩
    exact ⟨he, ht _ _ _ hw.rt⟩
  have C1 := Lib.hid c1
  have C2 := Lib.hid c2
  have S0 := Lib.hid s0
  clear c1 c2 hE h0 s0
  obtain ⟨q0, q1, q2, q3⟩ := S0.out.cells
  dsimp only at q0
  clear q1 q2 q3
  obtain ⟨W, hW⟩ : ∃ W, W = w.alloc (.cells #[.int .i64 1, .int .i64 xa, .int .i64 xb, .int .i64 xn] 33) := ⟨_, rfl⟩
  dsimp only at S0
  rw [← hW] at q0 S0
  have HNB := Lib.hid hnb
  have HW := Lib.hid hW
  clear hnb hW
  go_enter Try.func6, Try.ntmps6
  go_upto_region 1 with fail
  rw [← HW.out, ← HNB.out]
  go_upto_region 3 with fail
  have mixed : Try.prog.follows .mixedOrders = true := by kernel_rfl
  first
    | go_region_held3 (fun w' => w'.cell? ⟨nb, 1, none⟩ = some (.int .i64 xa) ∧ w'.cell? ⟨nb, 2, none⟩ = some (.int .i64 xb) ∧ w'.cell? ⟨nb, 3, none⟩ = some (.int .i64 xn)) (first | exact ⟨(TwA.cells S0.out).2.1, (TwA.cells S0.out).2.2.1, (TwA.cells S0.out).2.2.2⟩ | exact ⟨(TwA.cells S1.out).2.1, (TwA.cells S1.out).2.2.1, (TwA.cells S1.out).2.2.2⟩ | exact ⟨(TwA.cells S2.out).2.1, (TwA.cells S2.out).2.2.1, (TwA.cells S2.out).2.2.2⟩) (first
      | (go_at_call 13; refine (C1.out _ S0.out.drew).mono ?_; rintro e w1 ⟨rfl, hs⟩; have S1 := Lib.hid hs; clear hs)
      | (go_at_call 14; refine (C2.out _ S1.out).mono ?_; rintro e w2 ⟨rfl, hs⟩; have S2 := Lib.hid hs; clear hs)
      | fail)
    | fail
  go_wp2_with fail
  exact bodyPost_ret (v := .bool true) (by simp [results, Try.results6, go_sem]) rfl ⟨rfl, S2.out.1.weak (fun k hk => .inl hk), S2.out.2.1⟩
set_option maxRecDepth 100000 in
set_option maxHeartbeats 4000000 in
theorem law_act_Reserve (xa xb xn : Int) (wa : (Lit.int .i64 xa).wf = true) (h0 : Two g N y ab Z A M A M w) : Calls Try.prog 6 #[.pointer (some ⟨g, 0, none⟩), .pointer (some ⟨y, 0, none⟩), .agg #[.int .i64 2, .int .i64 xa, .int .i64 xb, .int .i64 xn]] w fun e w' => e = .returned (.bool true) ∧ Two g N y ab Z (reserveA A M xa xn) M (reserveA A M xa xn) M w' ∧ Kept Z w w' := by
  obtain ⟨nb, hnb⟩ : ∃ nb, nb = w.heap.size := ⟨_, rfl⟩
  have s0 := TwA.start h0 (2, xa, xb, xn)
  rw [← hnb] at s0
  obtain ⟨E, hE⟩ : ∃ E, E = spendE A M xa xn false := ⟨_, rfl⟩
  have c1 : ∀ W, TwA g N y ab Z nb (2, xa, xb, xn) A M A M w W → Calls Try.prog 15 #[.pointer (some ⟨g, 0, none⟩), .int .i64 xa, .int .i64 xn] W fun e w' => e = .returned (.int .i64 E) ∧ TwA g N y ab Z nb (2, xa, xb, xn) (reserveA A M xa xn) M A M w w' := fun W h => by
    obtain ⟨FL, hx, ht⟩ := h.ld
    rw [hE]
    refine (ledger_ReserveX hx wa xn).mono ?_
    rintro e w' ⟨he, hw⟩
    exact ⟨he, ht _ _ _ hw⟩
  have c2 : ∀ W, TwA g N y ab Z nb (2, xa, xb, xn) (reserveA A M xa xn) M A M w W → Calls Try.prog 16 #[.pointer (some ⟨y, 0, none⟩), .int .i64 xa, .int .i64 xn] W fun e w' => e = .returned (.int .i64 E) ∧ TwA g N y ab Z nb (2, xa, xb, xn) (reserveA A M xa xn) M (reserveA A M xa xn) M w w' := fun W h2 => by
    obtain ⟨F, hx, ht⟩ := h2.rl
    have h : Two g N y ab Z A M A M w := h0
    rw [hE]
    refine (ref6_Reserve hx h.srt.2.1 xa xn (rows_le (Nat.le_trans h.srt.2.2 (by decide)) xa)).mono ?_
    rintro e w' ⟨he, hw⟩
    exact ⟨he, ht _ _ _ hw.rt⟩
  have C1 := Lib.hid c1
  have C2 := Lib.hid c2
  have S0 := Lib.hid s0
  clear c1 c2 hE h0 s0
  obtain ⟨q0, q1, q2, q3⟩ := S0.out.cells
  dsimp only at q0
  clear q1 q2 q3
  obtain ⟨W, hW⟩ : ∃ W, W = w.alloc (.cells #[.int .i64 2, .int .i64 xa, .int .i64 xb, .int .i64 xn] 33) := ⟨_, rfl⟩
  dsimp only at S0
  rw [← hW] at q0 S0
  have HNB := Lib.hid hnb
  have HW := Lib.hid hW
  clear hnb hW
  go_enter Try.func6, Try.ntmps6
  go_upto_region 1 with fail
  rw [← HW.out, ← HNB.out]
  go_upto_region 5 with fail
  have mixed : Try.prog.follows .mixedOrders = true := by kernel_rfl
  first
    | go_region_held3 (fun w' => w'.cell? ⟨nb, 1, none⟩ = some (.int .i64 xa) ∧ w'.cell? ⟨nb, 3, none⟩ = some (.int .i64 xn)) (first | exact ⟨(TwA.cells S0.out).2.1, (TwA.cells S0.out).2.2.2⟩ | exact ⟨(TwA.cells S1.out).2.1, (TwA.cells S1.out).2.2.2⟩ | exact ⟨(TwA.cells S2.out).2.1, (TwA.cells S2.out).2.2.2⟩) (first
      | (go_at_call 15; refine (C1.out _ S0.out.drew).mono ?_; rintro e w1 ⟨rfl, hs⟩; have S1 := Lib.hid hs; clear hs)
      | (go_at_call 16; refine (C2.out _ S1.out).mono ?_; rintro e w2 ⟨rfl, hs⟩; have S2 := Lib.hid hs; clear hs)
      | fail)
    | fail
  go_wp2_with fail
  exact bodyPost_ret (v := .bool true) (by simp [results, Try.results6, go_sem]) rfl ⟨rfl, S2.out.1.weak (fun k hk => .inl hk), S2.out.2.1⟩
set_option maxRecDepth 100000 in
set_option maxHeartbeats 4000000 in
theorem law_act_Release (xa xb xn : Int) (wa : (Lit.int .i64 xa).wf = true) (h0 : Two g N y ab Z A M A M w) : Calls Try.prog 6 #[.pointer (some ⟨g, 0, none⟩), .pointer (some ⟨y, 0, none⟩), .agg #[.int .i64 3, .int .i64 xa, .int .i64 xb, .int .i64 xn]] w fun e w' => e = .returned (.bool true) ∧ Two g N y ab Z (unheld A xa xn xa) M (unheld A xa xn xa) M w' ∧ Kept Z w w' := by
  obtain ⟨nb, hnb⟩ : ∃ nb, nb = w.heap.size := ⟨_, rfl⟩
  have s0 := TwA.start h0 (3, xa, xb, xn)
  rw [← hnb] at s0
  obtain ⟨E, hE⟩ : ∃ E, E = heldM A xa xn := ⟨_, rfl⟩
  have c1 : ∀ W, TwA g N y ab Z nb (3, xa, xb, xn) A M A M w W → Calls Try.prog 17 #[.pointer (some ⟨g, 0, none⟩), .int .i64 xa, .int .i64 xn] W fun e w' => e = .returned (.int .i64 E) ∧ TwA g N y ab Z nb (3, xa, xb, xn) (unheld A xa xn xa) M A M w w' := fun W h => by
    obtain ⟨FL, hx, ht⟩ := h.ld
    rw [hE]
    refine (ledger_ReleaseX hx xa xn).mono ?_
    rintro e w' ⟨he, hw⟩
    exact ⟨he, ht _ _ _ hw⟩
  have c2 : ∀ W, TwA g N y ab Z nb (3, xa, xb, xn) (unheld A xa xn xa) M A M w W → Calls Try.prog 18 #[.pointer (some ⟨y, 0, none⟩), .int .i64 xa, .int .i64 xn] W fun e w' => e = .returned (.int .i64 E) ∧ TwA g N y ab Z nb (3, xa, xb, xn) (unheld A xa xn xa) M (unheld A xa xn xa) M w w' := fun W h2 => by
    obtain ⟨F, hx, ht⟩ := h2.rl
    have h : Two g N y ab Z A M A M w := h0
    rw [hE]
    refine (ref6_Release hx h.srt.2.1 xa xn).mono ?_
    rintro e w' ⟨he, hw⟩
    exact ⟨he, ht _ _ _ hw.rt⟩
  have C1 := Lib.hid c1
  have C2 := Lib.hid c2
  have S0 := Lib.hid s0
  clear c1 c2 hE h0 s0
  obtain ⟨q0, q1, q2, q3⟩ := S0.out.cells
  dsimp only at q0
  clear q1 q2 q3
  obtain ⟨W, hW⟩ : ∃ W, W = w.alloc (.cells #[.int .i64 3, .int .i64 xa, .int .i64 xb, .int .i64 xn] 33) := ⟨_, rfl⟩
  dsimp only at S0
  rw [← hW] at q0 S0
  have HNB := Lib.hid hnb
  have HW := Lib.hid hW
  clear hnb hW
  go_enter Try.func6, Try.ntmps6
  go_upto_region 1 with fail
  rw [← HW.out, ← HNB.out]
  go_upto_region 7 with fail
  have mixed : Try.prog.follows .mixedOrders = true := by kernel_rfl
  first
    | go_region_held3 (fun w' => w'.cell? ⟨nb, 1, none⟩ = some (.int .i64 xa) ∧ w'.cell? ⟨nb, 3, none⟩ = some (.int .i64 xn)) (first | exact ⟨(TwA.cells S0.out).2.1, (TwA.cells S0.out).2.2.2⟩ | exact ⟨(TwA.cells S1.out).2.1, (TwA.cells S1.out).2.2.2⟩ | exact ⟨(TwA.cells S2.out).2.1, (TwA.cells S2.out).2.2.2⟩) (first
      | (go_at_call 17; refine (C1.out _ S0.out.drew).mono ?_; rintro e w1 ⟨rfl, hs⟩; have S1 := Lib.hid hs; clear hs)
      | (go_at_call 18; refine (C2.out _ S1.out).mono ?_; rintro e w2 ⟨rfl, hs⟩; have S2 := Lib.hid hs; clear hs)
      | fail)
    | fail
  go_wp2_with fail
  exact bodyPost_ret (v := .bool true) (by simp [results, Try.results6, go_sem]) rfl ⟨rfl, S2.out.1.weak (fun k hk => .inl hk), S2.out.2.1⟩
set_option maxRecDepth 100000 in
set_option maxHeartbeats 4000000 in
theorem law_act_Slash (xa xb xn : Int) (wa : (Lit.int .i64 xa).wf = true) (h0 : Two g N y ab Z A M A M w) : Calls Try.prog 6 #[.pointer (some ⟨g, 0, none⟩), .pointer (some ⟨y, 0, none⟩), .agg #[.int .i64 4, .int .i64 xa, .int .i64 xb, .int .i64 xn]] w fun e w' => e = .returned (.bool true) ∧ Two g N y ab Z (unheld A xa xn 0) M (unheld A xa xn 0) M w' ∧ Kept Z w w' := by
  obtain ⟨nb, hnb⟩ : ∃ nb, nb = w.heap.size := ⟨_, rfl⟩
  have s0 := TwA.start h0 (4, xa, xb, xn)
  rw [← hnb] at s0
  obtain ⟨E, hE⟩ : ∃ E, E = heldM A xa xn := ⟨_, rfl⟩
  have c1 : ∀ W, TwA g N y ab Z nb (4, xa, xb, xn) A M A M w W → Calls Try.prog 19 #[.pointer (some ⟨g, 0, none⟩), .int .i64 xa, .int .i64 xn] W fun e w' => e = .returned (.int .i64 E) ∧ TwA g N y ab Z nb (4, xa, xb, xn) (unheld A xa xn 0) M A M w w' := fun W h => by
    obtain ⟨FL, hx, ht⟩ := h.ld
    rw [hE]
    refine (ledger_SlashX hx xa xn).mono ?_
    rintro e w' ⟨he, hw⟩
    exact ⟨he, ht _ _ _ hw⟩
  have c2 : ∀ W, TwA g N y ab Z nb (4, xa, xb, xn) (unheld A xa xn 0) M A M w W → Calls Try.prog 20 #[.pointer (some ⟨y, 0, none⟩), .int .i64 xa, .int .i64 xn] W fun e w' => e = .returned (.int .i64 E) ∧ TwA g N y ab Z nb (4, xa, xb, xn) (unheld A xa xn 0) M (unheld A xa xn 0) M w w' := fun W h2 => by
    obtain ⟨F, hx, ht⟩ := h2.rl
    have h : Two g N y ab Z A M A M w := h0
    rw [hE]
    refine (ref6_Slash hx h.srt.2.1 xa xn).mono ?_
    rintro e w' ⟨he, hw⟩
    exact ⟨he, ht _ _ _ hw.rt⟩
  have C1 := Lib.hid c1
  have C2 := Lib.hid c2
  have S0 := Lib.hid s0
  clear c1 c2 hE h0 s0
  obtain ⟨q0, q1, q2, q3⟩ := S0.out.cells
  dsimp only at q0
  clear q1 q2 q3
  obtain ⟨W, hW⟩ : ∃ W, W = w.alloc (.cells #[.int .i64 4, .int .i64 xa, .int .i64 xb, .int .i64 xn] 33) := ⟨_, rfl⟩
  dsimp only at S0
  rw [← hW] at q0 S0
  have HNB := Lib.hid hnb
  have HW := Lib.hid hW
  clear hnb hW
  go_enter Try.func6, Try.ntmps6
  go_upto_region 1 with fail
  rw [← HW.out, ← HNB.out]
  go_upto_region 9 with fail
  have mixed : Try.prog.follows .mixedOrders = true := by kernel_rfl
  first
    | go_region_held3 (fun w' => w'.cell? ⟨nb, 1, none⟩ = some (.int .i64 xa) ∧ w'.cell? ⟨nb, 3, none⟩ = some (.int .i64 xn)) (first | exact ⟨(TwA.cells S0.out).2.1, (TwA.cells S0.out).2.2.2⟩ | exact ⟨(TwA.cells S1.out).2.1, (TwA.cells S1.out).2.2.2⟩ | exact ⟨(TwA.cells S2.out).2.1, (TwA.cells S2.out).2.2.2⟩) (first
      | (go_at_call 19; refine (C1.out _ S0.out.drew).mono ?_; rintro e w1 ⟨rfl, hs⟩; have S1 := Lib.hid hs; clear hs)
      | (go_at_call 20; refine (C2.out _ S1.out).mono ?_; rintro e w2 ⟨rfl, hs⟩; have S2 := Lib.hid hs; clear hs)
      | fail)
    | fail
  go_wp2_with fail
  exact bodyPost_ret (v := .bool true) (by simp [results, Try.results6, go_sem]) rfl ⟨rfl, S2.out.1.weak (fun k hk => .inl hk), S2.out.2.1⟩
set_option maxRecDepth 100000 in
set_option maxHeartbeats 4000000 in
theorem law_act_Mint (xa xb xn : Int) (wa : (Lit.int .i64 xa).wf = true) (h0 : Two g N y ab Z A M A M w) : Calls Try.prog 6 #[.pointer (some ⟨g, 0, none⟩), .pointer (some ⟨y, 0, none⟩), .agg #[.int .i64 6, .int .i64 xa, .int .i64 xb, .int .i64 xn]] w fun e w' => e = .returned (.bool true) ∧ Two g N y ab Z (mintA A xa xn) M (mintA A xa xn) M w' ∧ Kept Z w w' := by
  obtain ⟨nb, hnb⟩ : ∃ nb, nb = w.heap.size := ⟨_, rfl⟩
  have s0 := TwA.start h0 (6, xa, xb, xn)
  rw [← hnb] at s0
  obtain ⟨E, hE⟩ : ∃ E, E = mintE A xa xn := ⟨_, rfl⟩
  have c1 : ∀ W, TwA g N y ab Z nb (6, xa, xb, xn) A M A M w W → Calls Try.prog 23 #[.pointer (some ⟨g, 0, none⟩), .int .i64 xa, .int .i64 xn] W fun e w' => e = .returned (.int .i64 E) ∧ TwA g N y ab Z nb (6, xa, xb, xn) (mintA A xa xn) M A M w w' := fun W h => by
    obtain ⟨FL, hx, ht⟩ := h.ld
    rw [hE]
    refine (ledger_MintX hx xa xn).mono ?_
    rintro e w' ⟨he, hw⟩
    exact ⟨he, ht _ _ _ hw⟩
  have c2 : ∀ W, TwA g N y ab Z nb (6, xa, xb, xn) (mintA A xa xn) M A M w W → Calls Try.prog 24 #[.pointer (some ⟨y, 0, none⟩), .int .i64 xa, .int .i64 xn] W fun e w' => e = .returned (.int .i64 E) ∧ TwA g N y ab Z nb (6, xa, xb, xn) (mintA A xa xn) M (mintA A xa xn) M w w' := fun W h2 => by
    obtain ⟨F, hx, ht⟩ := h2.rl
    have h : Two g N y ab Z A M A M w := h0
    rw [hE]
    refine (ref6_Mint hx h.srt.2.1 xa xn).mono ?_
    rintro e w' ⟨he, hw⟩
    exact ⟨he, ht _ _ _ hw.rt⟩
  have C1 := Lib.hid c1
  have C2 := Lib.hid c2
  have S0 := Lib.hid s0
  clear c1 c2 hE h0 s0
  obtain ⟨q0, q1, q2, q3⟩ := S0.out.cells
  dsimp only at q0
  clear q1 q2 q3
  obtain ⟨W, hW⟩ : ∃ W, W = w.alloc (.cells #[.int .i64 6, .int .i64 xa, .int .i64 xb, .int .i64 xn] 33) := ⟨_, rfl⟩
  dsimp only at S0
  rw [← hW] at q0 S0
  have HNB := Lib.hid hnb
  have HW := Lib.hid hW
  clear hnb hW
  go_enter Try.func6, Try.ntmps6
  go_upto_region 1 with fail
  rw [← HW.out, ← HNB.out]
  go_upto_region 15 with fail
  have mixed : Try.prog.follows .mixedOrders = true := by kernel_rfl
  first
    | go_region_held3 (fun w' => w'.cell? ⟨nb, 1, none⟩ = some (.int .i64 xa) ∧ w'.cell? ⟨nb, 3, none⟩ = some (.int .i64 xn)) (first | exact ⟨(TwA.cells S0.out).2.1, (TwA.cells S0.out).2.2.2⟩ | exact ⟨(TwA.cells S1.out).2.1, (TwA.cells S1.out).2.2.2⟩ | exact ⟨(TwA.cells S2.out).2.1, (TwA.cells S2.out).2.2.2⟩) (first
      | (go_at_call 23; refine (C1.out _ S0.out.drew).mono ?_; rintro e w1 ⟨rfl, hs⟩; have S1 := Lib.hid hs; clear hs)
      | (go_at_call 24; refine (C2.out _ S1.out).mono ?_; rintro e w2 ⟨rfl, hs⟩; have S2 := Lib.hid hs; clear hs)
      | fail)
    | fail
  go_wp2_with fail
  exact bodyPost_ret (v := .bool true) (by simp [results, Try.results6, go_sem]) rfl ⟨rfl, S2.out.1.weak (fun k hk => .inl hk), S2.out.2.1⟩
set_option maxRecDepth 100000 in
set_option maxHeartbeats 4000000 in
theorem law_act_Burn (kd xa xb xn : Int) (n1 : kd ≠ 1) (n2 : kd ≠ 2) (n3 : kd ≠ 3) (n4 : kd ≠ 4) (n5 : kd ≠ 5) (n6 : kd ≠ 6) (wa : (Lit.int .i64 xa).wf = true) (h0 : Two g N y ab Z A M A M w) : Calls Try.prog 6 #[.pointer (some ⟨g, 0, none⟩), .pointer (some ⟨y, 0, none⟩), .agg #[.int .i64 kd, .int .i64 xa, .int .i64 xb, .int .i64 xn]] w fun e w' => e = .returned (.bool true) ∧ Two g N y ab Z (spent A M xa xn false) M (spent A M xa xn false) M w' ∧ Kept Z w w' := by
  obtain ⟨nb, hnb⟩ : ∃ nb, nb = w.heap.size := ⟨_, rfl⟩
  have s0 := TwA.start h0 (kd, xa, xb, xn)
  rw [← hnb] at s0
  obtain ⟨E, hE⟩ : ∃ E, E = spendE A M xa xn false := ⟨_, rfl⟩
  have c1 : ∀ W, TwA g N y ab Z nb (kd, xa, xb, xn) A M A M w W → Calls Try.prog 25 #[.pointer (some ⟨g, 0, none⟩), .int .i64 xa, .int .i64 xn] W fun e w' => e = .returned (.int .i64 E) ∧ TwA g N y ab Z nb (kd, xa, xb, xn) (spent A M xa xn false) M A M w w' := fun W h => by
    obtain ⟨FL, hx, ht⟩ := h.ld
    rw [hE]
    refine (ledger_BurnX hx wa xn).mono ?_
    rintro e w' ⟨he, hw⟩
    exact ⟨he, ht _ _ _ hw⟩
  have c2 : ∀ W, TwA g N y ab Z nb (kd, xa, xb, xn) (spent A M xa xn false) M A M w W → Calls Try.prog 26 #[.pointer (some ⟨y, 0, none⟩), .int .i64 xa, .int .i64 xn] W fun e w' => e = .returned (.int .i64 E) ∧ TwA g N y ab Z nb (kd, xa, xb, xn) (spent A M xa xn false) M (spent A M xa xn false) M w w' := fun W h2 => by
    obtain ⟨F, hx, ht⟩ := h2.rl
    have h : Two g N y ab Z A M A M w := h0
    rw [hE]
    refine (ref6_Burn hx h.srt.2.1 xa xn (rows_le (Nat.le_trans h.srt.2.2 (by decide)) xa)).mono ?_
    rintro e w' ⟨he, hw⟩
    exact ⟨he, ht _ _ _ hw.rt⟩
  have C1 := Lib.hid c1
  have C2 := Lib.hid c2
  have S0 := Lib.hid s0
  clear c1 c2 hE h0 s0
  have e1 : (kd == 1) = false := by simp [n1]
  have e2 : (kd == 2) = false := by simp [n2]
  have e3 : (kd == 3) = false := by simp [n3]
  have e4 : (kd == 4) = false := by simp [n4]
  have e5 : (kd == 5) = false := by simp [n5]
  have e6 : (kd == 6) = false := by simp [n6]
  clear n1 n2 n3 n4 n5 n6
  obtain ⟨q0, q1, q2, q3⟩ := S0.out.cells
  dsimp only at q0
  clear q1 q2 q3
  obtain ⟨W, hW⟩ : ∃ W, W = w.alloc (.cells #[.int .i64 kd, .int .i64 xa, .int .i64 xb, .int .i64 xn] 33) := ⟨_, rfl⟩
  dsimp only at S0
  rw [← hW] at q0 S0
  have HNB := Lib.hid hnb
  have HW := Lib.hid hW
  clear hnb hW
  go_enter Try.func6, Try.ntmps6
  go_upto_region 1 with fail
  rw [← HW.out, ← HNB.out]
  go_upto_region 16 with fail
  have mixed : Try.prog.follows .mixedOrders = true := by kernel_rfl
  first
    | go_region_held3 (fun w' => w'.cell? ⟨nb, 1, none⟩ = some (.int .i64 xa) ∧ w'.cell? ⟨nb, 3, none⟩ = some (.int .i64 xn)) (first | exact ⟨(TwA.cells S0.out).2.1, (TwA.cells S0.out).2.2.2⟩ | exact ⟨(TwA.cells S1.out).2.1, (TwA.cells S1.out).2.2.2⟩ | exact ⟨(TwA.cells S2.out).2.1, (TwA.cells S2.out).2.2.2⟩) (first
      | (go_at_call 25; refine (C1.out _ S0.out.drew).mono ?_; rintro e w1 ⟨rfl, hs⟩; have S1 := Lib.hid hs; clear hs)
      | (go_at_call 26; refine (C2.out _ S1.out).mono ?_; rintro e w2 ⟨rfl, hs⟩; have S2 := Lib.hid hs; clear hs)
      | fail)
    | fail
  go_wp2_with fail
  exact bodyPost_ret (v := .bool true) (by simp [results, Try.results6, go_sem]) rfl ⟨rfl, S2.out.1.weak (fun k hk => .inl hk), S2.out.2.1⟩
end
end Go.Proofs.Ytoohcckhdhfpnaa
end

section
namespace Go.Proofs.Ytoohcckhdhfpnaa
open Go.RowKit Go.Maps Go.Shelf
set_option linter.unusedVariables false
set_option linter.unusedSimpArgs false
set_option linter.constructorNameAsVariable false

section
variable {g N y ab : Nat} {Z : FP} {A A2 : Acc} {M M2 : Cls Int} {FL : FP} {w w' : World}
theorem ledger_Lock_no {a : Int} (h : ¬ isAcc a) (g : Nat) (i n : Int) (w : World) : Calls Try.prog 21 #[.pointer (some ⟨g, 0, none⟩), .int .i64 a, .int .i64 i, .int .i64 n] w fun e w' => e = .returned (.tuple #[]) ∧ w' = w := by
  have HH := Lib.hid h
  clear h
  go_enter Try.func21, Try.ntmps21
  go_wp2_with (first
    | (go_at_call 36; refine (ledger_account_no HH.out _).mono ?_; rintro e w' ⟨rfl, hw⟩; rw [hw]; clear hw w')
    | fail)
  exact bodyPost_end (results_none rfl _ _ _) rfl ⟨rfl, rfl⟩
theorem ledger_LockA (h : LdX g N A M FL w) (hlen : M.length < 10000) {a i : Int} (ha : (Lit.int .i64 a).wf = true) (hi : (Lit.int .i64 i).wf = true) (n : Int) : Calls Try.prog 21 #[.pointer (some ⟨g, 0, none⟩), .int .i64 a, .int .i64 i, .int .i64 n] w fun e w' => e = .returned (.tuple #[]) ∧ LdTo g N A (lockM M a i n) FL w w' := by
  by_cases hac : isAcc a
  · exact ledger_LockX h hlen hac ha hi n
  · have e : lockM M a i n = M := by unfold lockM; rw [if_pos hac]
    rw [e]
    refine (ledger_Lock_no hac g i n w).mono ?_
    rintro e w' ⟨rfl, rfl⟩
    exact ⟨rfl, LdTo.of_below h (Below.refl _ _)⟩
set_option maxRecDepth 100000 in
set_option maxHeartbeats 4000000 in
theorem law_act_Lock (xa xb xn : Int) (wa : (Lit.int .i64 xa).wf = true) (wb : (Lit.int .i64 xb).wf = true) (hlen : M.length < 10000) (h0 : Two g N y ab Z A M A M w) : Calls Try.prog 6 #[.pointer (some ⟨g, 0, none⟩), .pointer (some ⟨y, 0, none⟩), .agg #[.int .i64 5, .int .i64 xa, .int .i64 xb, .int .i64 xn]] w fun e w' => e = .returned (.bool true) ∧ Two g N y ab Z A (lockM M xa xb xn) A (lockM M xa xb xn) w' ∧ Kept Z w w' := by
  obtain ⟨nb, hnb⟩ : ∃ nb, nb = w.heap.size := ⟨_, rfl⟩
  have s0 := TwA.start h0 (5, xa, xb, xn)
  rw [← hnb] at s0
  have c1 : ∀ W, TwA g N y ab Z nb (5, xa, xb, xn) A M A M w W → Calls Try.prog 21 #[.pointer (some ⟨g, 0, none⟩), .int .i64 xa, .int .i64 xb, .int .i64 xn] W fun e w' => e = .returned (.tuple #[]) ∧ TwA g N y ab Z nb (5, xa, xb, xn) A (lockM M xa xb xn) A M w w' := fun W h => by
    obtain ⟨FL, hx, ht⟩ := h.ld
    refine (ledger_LockA hx hlen wa wb xn).mono ?_
    rintro e w' ⟨he, hw⟩
    exact ⟨he, ht _ _ _ hw⟩
  have c2 : ∀ W, TwA g N y ab Z nb (5, xa, xb, xn) A (lockM M xa xb xn) A M w W → Calls Try.prog 22 #[.pointer (some ⟨y, 0, none⟩), .int .i64 xa, .int .i64 xb, .int .i64 xn] W fun e w' => e = .returned (.tuple #[]) ∧ TwA g N y ab Z nb (5, xa, xb, xn) A (lockM M xa xb xn) A (lockM M xa xb xn) w w' := fun W h2 => by
    obtain ⟨F, hx, ht⟩ := h2.rl
    refine (ref6_Lock hx xb xn (rows_le (by omega) xa)).mono ?_
    rintro e w' ⟨he, hw⟩
    exact ⟨he, ht _ _ _ hw⟩
  have C1 := Lib.hid c1
  have C2 := Lib.hid c2
  have S0 := Lib.hid s0
  clear c1 c2 h0 s0
  obtain ⟨q0, q1, q2, q3⟩ := S0.out.cells
  dsimp only at q0 q1 q2 q3
  obtain ⟨W, hW⟩ : ∃ W, W = w.alloc (.cells #[.int .i64 5, .int .i64 xa, .int .i64 xb, .int .i64 xn] 33) := ⟨_, rfl⟩
  dsimp only at S0
  rw [← hW] at q0 q1 q2 q3 S0
  have HNB := Lib.hid hnb
  have HW := Lib.hid hW
  clear hnb hW
  go_enter Try.func6, Try.ntmps6
  go_upto_region 1 with fail
  rw [← HW.out, ← HNB.out]
  go_wp2_with (first
    | (go_at_call 21; refine (C1.out _ S0.out).mono ?_; rintro e w1 ⟨rfl, hs⟩; have S1 := Lib.hid hs; obtain ⟨r0, r1, r2, r3⟩ := hs.cells; dsimp only at r0 r1 r2 r3; clear hs r0)
    | (go_at_call 22; refine (C2.out _ S1.out).mono ?_; rintro e w2 ⟨rfl, hs⟩; have S2 := Lib.hid hs; clear hs)
    | fail)
  exact bodyPost_ret (v := .bool true) (by simp [results, Try.results6, go_sem]) rfl ⟨rfl, S2.out.1.weak (fun k hk => .inl hk), S2.out.2.1⟩
theorem law_act (x : A4) (hx : ActWf x) (hlen : M.length < 10000) (h0 : Two g N y ab Z A M A M w) : Calls Try.prog 6 #[.pointer (some ⟨g, 0, none⟩), .pointer (some ⟨y, 0, none⟩), .agg #[.int .i64 x.1, .int .i64 x.2.1, .int .i64 x.2.2.1, .int .i64 x.2.2.2]] w fun e w' => e = .returned (.bool true) ∧ ∃ A' M', Two g N y ab Z A' M' A' M' w' ∧ Kept Z w w' ∧ M'.length ≤ M.length + 1 := by
  obtain ⟨kd, xa, xb, xn⟩ := x
  obtain ⟨-, wa, wb, wn⟩ := hx
  dsimp only at wa wb wn ⊢
  by_cases n1 : kd = 1
  · subst n1; exact (law_act_Transfer xa xb xn wa h0).mono fun e w' ⟨h1, h2, h3⟩ => ⟨h1, _, _, h2, h3, Nat.le_succ _⟩
  by_cases n2 : kd = 2
  · subst n2; exact (law_act_Reserve xa xb xn wa h0).mono fun e w' ⟨h1, h2, h3⟩ => ⟨h1, _, _, h2, h3, Nat.le_succ _⟩
  by_cases n3 : kd = 3
  · subst n3; exact (law_act_Release xa xb xn wa h0).mono fun e w' ⟨h1, h2, h3⟩ => ⟨h1, _, _, h2, h3, Nat.le_succ _⟩
  by_cases n4 : kd = 4
  · subst n4; exact (law_act_Slash xa xb xn wa h0).mono fun e w' ⟨h1, h2, h3⟩ => ⟨h1, _, _, h2, h3, Nat.le_succ _⟩
  by_cases n5 : kd = 5
  · subst n5; exact (law_act_Lock xa xb xn wa wb hlen h0).mono fun e w' ⟨h1, h2, h3⟩ => ⟨h1, _, _, h2, h3, lockM_len h0.srt.1 _ _ _⟩
  by_cases n6 : kd = 6
  · subst n6; exact (law_act_Mint xa xb xn wa h0).mono fun e w' ⟨h1, h2, h3⟩ => ⟨h1, _, _, h2, h3, Nat.le_succ _⟩
  exact (law_act_Burn kd xa xb xn n1 n2 n3 n4 n5 n6 wa h0).mono fun e w' ⟨h1, h2, h3⟩ => ⟨h1, _, _, h2, h3, Nat.le_succ _⟩
end
end Go.Proofs.Ytoohcckhdhfpnaa
end
