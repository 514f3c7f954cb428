/-
  The law's acts, opened; two tables side by side.
-/
import Derived.Test.YtlfngdfbimcjhaaCls
import Derived.Test.YtlfngdfbimcjhaaFlats
namespace Go.Proofs.Ytlfngdfbimcjhaa
open Go.ChangeShapes Go.WideShapes Go.ChangeAt Go.RowKit Go.Deep Go.Maps
set_option linter.unusedVariables false
set_option linter.unusedSimpArgs false
set_option linter.constructorNameAsVariable false

/-- Structs that are only read, one by one. -/
def RdS {P : Program} {α : Type} (r : RowTy P α) (w : World) (v : Value) (xs : List α) : Prop :=
  ∃ ao cap, v = .slice ao xs.length cap ∧ ∀ i (hi : i < xs.length), ∃ b off, ao = some ⟨b, off, none⟩ ∧ w.rangeAt b (off + i * r.k) (r.f xs[i]) ∧ b < w.heap.size
theorem RdS.below {P : Program} {α : Type} {r : RowTy P α} {w w' : World} {v : Value} {xs : List α} {N : Nat} (h : RdS r w v xs) (hb : Below w.heap.size w w') : RdS r w' v xs := by
  obtain ⟨ao, cap, e, h2⟩ := h
  refine ⟨ao, cap, e, fun i hi => ?_⟩
  obtain ⟨b, off, e1, e2, e3⟩ := h2 i hi
  exact ⟨b, off, e1, rangeAt_block e2 (hb.block b e3), Nat.lt_of_lt_of_le e3 hb.size⟩

abbrev A4 := Int × Int × Int × Int
def ac (x : A4) : List Value := [.int .i64 x.1, .int .i64 x.2.1, .int .i64 x.2.2.1, .int .i64 x.2.2.2]
theorem actInfo : (Try.prog.info? 31).map (fun i => (i.zero, i.size, i.bytes)) = some (some (.agg #[.int .i64 0, .int .i64 0, .int .i64 0, .int .i64 0]), 4, 32) := by kernel_rfl
def actR : RowTy Try.prog A4 where
  T := 31
  S := 22
  k := 4
  f := ac
  len := fun _ => rfl
  one := fun x u hu => by
    simp only [ac, List.mem_cons, List.not_mem_nil, or_false] at hu
    rcases hu with rfl | rfl | rfl | rfl <;> rfl
  pos := by decide
  small := by decide
  slice := Try.underlying22
  info := by
    obtain ⟨i0, hi, hz⟩ := Option.map_eq_some_iff.1 actInfo
    simp only [Prod.mk.injEq] at hz
    obtain ⟨h1, h2, h3⟩ := hz
    exact ⟨i0, _, _, hi, h1, h2, rfl, h3, by decide⟩
  row := ⟨_, Try.underlying31, rfl⟩
def ActWf (x : A4) : Prop := (Lit.int .i64 x.1).wf = true ∧ (Lit.int .i64 x.2.1).wf = true ∧ (Lit.int .i64 x.2.2.1).wf = true ∧ (Lit.int .i64 x.2.2.2).wf = true
theorem fits_act {cs : List Value} (h : Fits [some .i64, some .i64, some .i64, some .i64] cs) : ∃ x : A4, cs = ac x ∧ ActWf x := by
  obtain ⟨a, c1, rfl, w1, f1⟩ := fits_int h
  obtain ⟨b, c2, rfl, w2, f2⟩ := fits_int f1
  obtain ⟨c, c3, rfl, w3, f3⟩ := fits_int f2
  obtain ⟨d, c4, rfl, w4, f4⟩ := fits_int f3
  obtain rfl := fits_nil f4
  exact ⟨(a, b, c, d), rfl, w1, w2, w3, w4⟩
section
variable {H : Type} {enc : TypeId × Value → H} {P : Program} {w : World} {base : Nat} {held : Bool}
theorem open_actsG (R : RowTy P A4) (hRk : R.k = 4) (hRf : R.f = ac) {t e : TypeId} {v : Value} {d : DataW H} {p : List MemPlace} {r : Reach} {b0 : Nat} (n : Nat) (ht : P.underlying t = some (.slice e)) (hl : leaves P n e = some [some .i64, some .i64, some .i64, some .i64]) (hc : P.cellsOf e = 4)
    (hv : Value.okWide P w r b0 t v) (h : DataW.Trod enc P w base (fun _ => true) held t v d p) : ∃ l : List A4, RdS R w v l ∧ (l.length ≤ maxLen ∧ ∀ x ∈ l, ActWf x) := by
  rcases open_flats n ht hl hc hv h with rfl | ⟨a, len, cap, C, rfl, hle, hm, hC⟩
  · exact ⟨[], ⟨none, 0, rfl, fun i hi => absurd hi (Nat.not_lt_zero i)⟩, Nat.zero_le _, fun x hx => absurd hx (List.not_mem_nil)⟩
  · obtain ⟨T, hT⟩ := choose_lt (α := A4) (p := fun i x => C i = ac x ∧ ActWf x) (fun i hi => fits_act (hC i hi).1)
    have hlen : ((List.range len).map T).length = len := by simp
    refine ⟨(List.range len).map T, ⟨some a, cap, by rw [hlen], fun i hi => ?_⟩, by rw [hlen]; omega, fun x hx => ?_⟩
    · rw [hlen] at hi
      obtain ⟨hf, hcell⟩ := hC i (by omega)
      have hT' := (hT i (by omega)).1
      have hbl : ∀ j, j < 4 → w.cell? (a.add (i * 4 + j)) = (ac (T i))[j]? := fun j hj => by
        have := hcell j (by simpa using hj)
        rw [hT'] at this
        simpa using this
      have h0 : w.cell? (a.add (i * 4)) = some (.int .i64 (T i).1) := by have := hbl 0 (by omega); simpa [ac] using this
      have g0 := (hC 0 (by omega)).2 0 (by simp)
      rw [(hT 0 (by omega)).1] at g0
      have hsp := World.cell?_spot g0
      obtain ⟨blk, off, spot⟩ := a
      have hspot : spot = none := by simpa [Addr.add] using hsp
      subst hspot
      have hb := World.block_lt_of_cell? w _ h0
      have e : ((List.range len).map T)[i]'(by rw [hlen]; exact hi) = T i := by simp
      refine ⟨blk, off, rfl, fun j u hj => ?_, by simpa [Addr.add_mid] using hb⟩
      rw [e, hRf] at hj
      have hj4 : j < 4 := by
        have := (List.getElem?_eq_some_iff.1 hj).1
        simpa [ac] using this
      have := hbl j hj4
      rw [Addr.add_mid, ← Nat.add_assoc] at this
      rw [hRk, this]
      exact hj
    · obtain ⟨i, hi, rfl⟩ := List.mem_map.1 hx
      exact (hT i (by have := List.mem_range.1 hi; omega)).2
end
theorem open_acts {H : Type} {enc : TypeId × Value → H} {w : World} {base : Nat} {held : Bool} {v : Value} {d : DataW H} {p : List MemPlace} {r : Reach} {b0 : Nat} (n : Nat) (ht : Try.prog.underlying 22 = some (.slice 31)) (hl : leaves Try.prog n 31 = some [some .i64, some .i64, some .i64, some .i64]) (hc : Try.prog.cellsOf 31 = 4)
    (hv : Value.okWide Try.prog w r b0 22 v) (h : DataW.Trod enc Try.prog w base (fun _ => true) held 22 v d p) : ∃ l : List A4, RdS actR w v l ∧ (l.length ≤ maxLen ∧ ∀ x ∈ l, ActWf x) :=
  by
  have q := open_actsG (H := H) (enc := enc) (w := w) (base := base) (held := held) (v := v) (d := d) (p := p) (r := r) (b0 := b0) (t := 22) (e := 31) actR rfl rfl n ht hl hc
  revert hv h
  with_reducible exact q

/-- Two tables of the call's own, apart, and away from Z. -/
def Gr2 (N : Nat) (Z : Nat → Prop) (g h : Nat) (M M' : Cls Int) (w : World) : Prop :=
  ∃ F F', GrAt codI 67 g M F w ∧ GrAt codI 67 h M' F' w ∧ (∀ k, F k → N ≤ k ∧ ¬ Z k) ∧ (∀ k, F' k → N ≤ k ∧ ¬ Z k) ∧ ∀ k, F k → ¬ F' k
section
variable {N g h : Nat} {Z : Nat → Prop} {M M' M1 : Cls Int} {w w' : World}
theorem Gr2.flip (hh : Gr2 N Z g h M M' w) : Gr2 N Z h g M' M w := by
  obtain ⟨F, F', h1, h2, h3, h4, h5⟩ := hh
  exact ⟨F', F, h2, h1, h4, h3, fun k hk hk' => h5 k hk' hk⟩
theorem Gr2.below (hh : Gr2 N Z g h M M' w) (hb : Below w.heap.size w w') : Gr2 N Z g h M M' w' := by
  obtain ⟨F, F', h1, h2, h3, h4, h5⟩ := hh
  exact ⟨F, F', h1.keep (Grow.of_below hb) (fun k hk => hb.block k (h1.2.2.1 k hk)), h2.keep (Grow.of_below hb) (fun k hk => hb.block k (h2.2.2.1 k hk)), h3, h4, h5⟩
theorem Gr2.see (hh : Gr2 N Z g h M M' w) : Gr2 N (fun k => k = w.heap.size) g h M M' w := by
  obtain ⟨F, F', h1, h2, h3, h4, h5⟩ := hh
  exact ⟨F, F', h1, h2, fun k hk => ⟨(h3 k hk).1, fun e => by have := h1.2.2.1 k hk; omega⟩, fun k hk => ⟨(h4 k hk).1, fun e => by have := h2.2.2.1 k hk; omega⟩, h5⟩
theorem Gr2.forget (hh : Gr2 N Z g h M M' w) : Gr2 N (fun _ => False) g h M M' w := by
  obtain ⟨F, F', h1, h2, h3, h4, h5⟩ := hh
  exact ⟨F, F', h1, h2, fun k hk => ⟨(h3 k hk).1, fun e => e⟩, fun k hk => ⟨(h4 k hk).1, fun e => e⟩, h5⟩
theorem Gr2.one (hh : Gr2 N Z g h M M' w) : GrOwn codI 67 N g M w := by
  obtain ⟨F, F', h1, h2, h3, h4, h5⟩ := hh
  exact ⟨F, h1, fun k hk => (h3 k hk).1⟩
theorem Gr2.mk2 (h1 : GrOwn codI 67 N g M w) {N' : Nat} (h2 : GrOwn codI 67 N' h M' w') (hb : Below w.heap.size w w') (hN : N ≤ w.heap.size) (hN' : w.heap.size ≤ N') : Gr2 N (fun _ => False) g h M M' w' := by
  obtain ⟨F, a1, a2⟩ := h1
  obtain ⟨F', b1, b2⟩ := h2
  refine ⟨F, F', a1.keep (Grow.of_below hb) (fun k hk => hb.block k (a1.2.2.1 k hk)), b1, fun k hk => ⟨a2 k hk, fun e => e⟩, fun k hk => ⟨by have := b2 k hk; omega, fun e => e⟩, fun k hk hk' => ?_⟩
  have := a1.2.2.1 k hk
  have := b2 k hk'
  omega
theorem grid_Set_2 (hh : Gr2 N Z g h M M' w) (hN : N ≤ w.heap.size) (hZ : ∀ k, Z k → k < w.heap.size) (hlen : M.length ≤ 1000000) {a b v : Int} (ha : (Lit.int .i64 a).wf = true) (hb : (Lit.int .i64 b).wf = true) :
    Calls Try.prog 22 #[.pointer (some ⟨g, 0, none⟩), .int .i64 a, .int .i64 b, .int .i64 v] w fun e w' => e = .returned (.tuple #[]) ∧ Gr2 N Z g h (cput M a b v) M' w' ∧ Below N w w' ∧ (w.heap.size ≤ w'.heap.size ∧ ∀ k, Z k → w'.heap[k]? = w.heap[k]?) := by
  obtain ⟨F, F', h1, h2, h3, h4, h5⟩ := hh
  refine (grid_Set_I h1 hlen ha hb v).mono ?_
  rintro e w' ⟨rfl, F1, c1, c2, c3⟩
  refine ⟨rfl, ⟨F1, F', c1, h2.keep c3.grow (fun k hk => c3.block k (h2.2.2.1 k hk) (fun hf => h5 k hf hk) (fun h => h)), fun k hk => (c2 k hk).elim (h3 k) (fun h => ⟨by omega, fun hz => by have := hZ k hz; omega⟩), h4, fun k hk hk' => ?_⟩, c3.below hN (fun k hk => (h3 k hk).1) (fun k h => h.elim), c3.grow.size, fun k hz => c3.block k (hZ k hz) (fun hf => (h3 k hf).2 hz) (fun h => h)⟩
  have := h2.2.2.1 k hk'
  exact (c2 k hk).elim (fun h => h5 k h hk') (fun h => by omega)
theorem grid_Del_2 (hh : Gr2 N Z g h M M' w) (hN : N ≤ w.heap.size) (hZ : ∀ k, Z k → k < w.heap.size) (hlen : M.length ≤ 1000000) {a b : Int} (ha : (Lit.int .i64 a).wf = true) (hb : (Lit.int .i64 b).wf = true) :
    Calls Try.prog 27 #[.pointer (some ⟨g, 0, none⟩), .int .i64 a, .int .i64 b] w fun e w' => e = .returned (.bool (cget M a b).isSome) ∧ Gr2 N Z g h (cdel M a b) M' w' ∧ Below N w w' ∧ (w.heap.size ≤ w'.heap.size ∧ ∀ k, Z k → w'.heap[k]? = w.heap[k]?) := by
  obtain ⟨F, F', h1, h2, h3, h4, h5⟩ := hh
  refine (grid_Del_I h1 hlen ha hb).mono ?_
  rintro e w' ⟨rfl, F1, c1, c2, c3⟩
  refine ⟨rfl, ⟨F1, F', c1, h2.keep c3.grow (fun k hk => c3.block k (h2.2.2.1 k hk) (fun hf => h5 k hf hk) (fun h => h)), fun k hk => (c2 k hk).elim (h3 k) (fun h => ⟨by omega, fun hz => by have := hZ k hz; omega⟩), h4, fun k hk hk' => ?_⟩, c3.below hN (fun k hk => (h3 k hk).1) (fun k h => h.elim), c3.grow.size, fun k hz => c3.block k (hZ k hz) (fun hf => (h3 k hf).2 hz) (fun h => h)⟩
  have := h2.2.2.1 k hk'
  exact (c2 k hk).elim (fun h => h5 k h hk') (fun h => by omega)
end

theorem cells4 {w : World} {b : Nat} {T : TypeId} {C : Array Value} (h : w.heap[b]? = some (.cells C T (0, 0))) (i : Nat) : w.cell? ⟨b, i, none⟩ = C[i]? := by rw [World.cell?, h]; simp
/-- Two tables, and an act in a box of its own. -/
structure Sw2 (w : World) (g h nb : Nat) (T : TypeId) (C : Array Value) (M M' : Cls Int) (W : World) : Prop where
  gr : Gr2 w.heap.size (fun k => k = nb) g h M M' W
  old : Below w.heap.size w W
  lt : nb < W.heap.size
  at_ : W.heap[nb]? = some (.cells C T (0, 0))
section
variable {w W wr : World} {g h nb : Nat} {T : TypeId} {C : Array Value} {M M' : Cls Int}
theorem Sw2.start {Z : Nat → Prop} (hg : Gr2 w.heap.size Z g h M M' wr) (ho : Below w.heap.size w wr) (hn : nb = wr.heap.size) (hW : W = wr.alloc (.cells C T)) : Sw2 w g h nb T C M M' W := by
  have hB : Below wr.heap.size wr W := by rw [hW]; exact (Below.refl _ wr).alloc (Nat.le_refl _) _
  rw [hn]
  exact ⟨hg.see.below hB, ho.trans (hB.mono ho.size), by rw [hW, World.size_alloc]; omega, by rw [hW]; exact World.alloc_heap_new _ _⟩
theorem Sw2.drew (hh : Sw2 w g h nb T C M M' W) : Sw2 w g h nb T C M M' W.drew := by
  have hB : Below W.heap.size W W.drew := (Below.refl _ W).drew
  exact ⟨hh.gr.below hB, hh.old.trans (hB.mono hh.old.size), Nat.lt_of_lt_of_le hh.lt hB.size, (hB.block nb hh.lt).trans hh.at_⟩
theorem Sw2.flip (hh : Sw2 w g h nb T C M M' W) : Sw2 w h g nb T C M' M W := ⟨hh.gr.flip, hh.old, hh.lt, hh.at_⟩
theorem Sw2.set (hh : Sw2 w g h nb T C M M' W) (hlen : M.length ≤ 1000000) {a b v : Int} (ha : (Lit.int .i64 a).wf = true) (hb : (Lit.int .i64 b).wf = true) :
    Calls Try.prog 22 #[.pointer (some ⟨g, 0, none⟩), .int .i64 a, .int .i64 b, .int .i64 v] W fun e w' => e = .returned (.tuple #[]) ∧ Sw2 w g h nb T C (cput M a b v) M' w' := by
  refine (grid_Set_2 hh.gr hh.old.size (fun k e => by have := hh.lt; omega) hlen ha hb).mono ?_
  rintro e w' ⟨rfl, h1, h2, h3, h4⟩
  exact ⟨rfl, h1, hh.old.trans h2, Nat.lt_of_lt_of_le hh.lt h3, (h4 nb rfl).trans hh.at_⟩
theorem Sw2.del (hh : Sw2 w g h nb T C M M' W) (hlen : M.length ≤ 1000000) {a b : Int} (ha : (Lit.int .i64 a).wf = true) (hb : (Lit.int .i64 b).wf = true) {d : Bool} (hd : d = (cget M a b).isSome) :
    Calls Try.prog 27 #[.pointer (some ⟨g, 0, none⟩), .int .i64 a, .int .i64 b] W fun e w' => e = .returned (.bool d) ∧ Sw2 w g h nb T C (cdel M a b) M' w' := by
  refine (grid_Del_2 hh.gr hh.old.size (fun k e => by have := hh.lt; omega) hlen ha hb).mono ?_
  rintro e w' ⟨rfl, h1, h2, h3, h4⟩
  exact ⟨by rw [hd], h1, hh.old.trans h2, Nat.lt_of_lt_of_le hh.lt h3, (h4 nb rfl).trans hh.at_⟩
end

/-- One act. -/
def stepM (M : Cls Int) (x : A4) : Cls Int := if x.1 = 2 then cdel M x.2.1 x.2.2.1 else cput M x.2.1 x.2.2.1 x.2.2.2
def stepT (M : Cls Int) (x : A4) : Cls Int := if x.1 = 2 then cdel M x.2.2.1 x.2.1 else cput M x.2.2.1 x.2.1 x.2.2.2
/-- One table is the other one's mirror. -/
def Mir (M M' : Cls Int) : Prop := ∀ a b v, ((a, b), v) ∈ M ↔ ((b, a), v) ∈ M'
theorem Mir.step {M M' : Cls Int} (h : Mir M M') (x : A4) : Mir (stepM M x) (stepT M' x) := by
  intro a b v
  unfold stepM stepT
  split
  · rw [mem_cdel, mem_cdel, h a b v]
    simp only [ne_eq, Prod.mk.injEq]
    exact and_congr_right fun _ => not_congr ⟨fun h => ⟨h.2, h.1⟩, fun h => ⟨h.2, h.1⟩⟩
  · rw [mem_cput, mem_cput, h a b v]
    simp only [ne_eq, Prod.mk.injEq]
    constructor
    · rintro (⟨⟨e1, e2⟩, e3⟩ | ⟨h1, h2⟩)
      · exact .inl ⟨⟨e2, e1⟩, e3⟩
      · exact .inr ⟨h1, fun h => h2 ⟨h.2, h.1⟩⟩
    · rintro (⟨⟨e1, e2⟩, e3⟩ | ⟨h1, h2⟩)
      · exact .inl ⟨⟨e2, e1⟩, e3⟩
      · exact .inr ⟨h1, fun h => h2 ⟨h.2, h.1⟩⟩
theorem Mir.get {M M' : Cls Int} (h : Mir M M') (hs : SrtC M) (hs' : SrtC M') (a b : Int) : cget M a b = cget M' b a := by
  cases e : cget M a b with
  | some v => exact (hs'.get.2 ((h a b v).1 (hs.get.1 e))).symm
  | none =>
    cases e' : cget M' b a with
    | none => rfl
    | some v => rw [hs.get.2 ((h a b v).2 (hs'.get.1 e'))] at e; cases e
theorem Mir.row {M M' : Cls Int} (h : Mir M M') (hs : SrtC M) (hs' : SrtC M') (a : Int) : rowOf M a = colOf M' a :=
  (hs.row a).ext (hs'.col a) (fun x => by rw [mem_rowOf, mem_colOf]; exact h a x.1 x.2)
theorem SrtC.nodup {M : Cls Int} (h : SrtC M) : M.Nodup := by
  unfold SrtC at h
  refine List.Pairwise.imp (R := fun x y : (Int × Int) × Int => lexlt x.1 y.1) ?_ h
  intro x y hxy e
  exact lexlt_ir _ (by rw [e] at hxy; exact hxy)
theorem Mir.length {M M' : Cls Int} (h : Mir M M') (hs : SrtC M) (hs' : SrtC M') : M.length = M'.length := by
  have hp : (M.map (fun x => ((x.1.2, x.1.1), x.2))).Perm M' := by
    refine (List.perm_ext_iff_of_nodup ?_ hs'.nodup).2 ?_
    · refine List.pairwise_map.2 (hs.nodup.imp (fun {x y} hxy e => hxy ?_))
      obtain ⟨⟨a, b⟩, v⟩ := x
      obtain ⟨⟨c, d⟩, u⟩ := y
      simp only [Prod.mk.injEq] at e ⊢
      exact ⟨⟨e.1.2, e.1.1⟩, e.2⟩
    · rintro ⟨⟨b, a⟩, v⟩
      rw [List.mem_map]
      constructor
      · rintro ⟨⟨⟨a', b'⟩, v'⟩, hm, e⟩
        simp only [Prod.mk.injEq] at e
        obtain ⟨⟨rfl, rfl⟩, rfl⟩ := e
        exact (h _ _ _).1 hm
      · intro hm
        exact ⟨((a, b), v), (h a b v).2 hm, rfl⟩
  simpa using hp.length_eq
theorem stepM_srt {M : Cls Int} (h : SrtC M) (x : A4) : SrtC (stepM M x) := by
  unfold stepM; split
  · exact h.del _ _
  · exact h.put _ _ _
theorem stepT_srt {M : Cls Int} (h : SrtC M) (x : A4) : SrtC (stepT M x) := by
  unfold stepT; split
  · exact h.del _ _
  · exact h.put _ _ _
theorem stepM_len {M : Cls Int} (h : SrtC M) (x : A4) : (stepM M x).length ≤ M.length + 1 := by
  unfold stepM; split
  · have := h.length_del x.2.1 x.2.2.1; omega
  · rw [h.length_put]; split <;> omega
end Go.Proofs.Ytlfngdfbimcjhaa
