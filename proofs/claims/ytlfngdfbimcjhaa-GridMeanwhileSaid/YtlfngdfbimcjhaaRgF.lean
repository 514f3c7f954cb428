/-
  The table and the reference, with the blocks that are theirs; the law's act over them; what GridMeanwhile's range holds.
-/
import Derived.Test.YtlfngdfbimcjhaaGrPl
import Derived.Test.YtlfngdfbimcjhaaStopK
import Derived.Test.YtlfngdfbimcjhaaCel
namespace Go.Proofs.Ytlfngdfbimcjhaa
open Go.RowKit Go.Maps Go.Shelf
set_option linter.unusedVariables false
set_option linter.unusedSimpArgs false
set_option linter.constructorNameAsVariable false

/-- R: the blocks of both. -/
def GrR (N : Nat) (R : FP) (g yb : Nat) (M : Cls Int) (W : World) : Prop :=
  ∃ F v, GrAt codI 67 g M F W ∧ RefG yb v M W ∧ (∀ k, R k ↔ F k ∨ k = yb ∨ v.ownBlock = some k) ∧ ¬ F yb ∧ (∀ k, v.ownBlock = some k → ¬ F k) ∧ ∀ k, R k → N ≤ k
section
variable {N g yb : Nat} {R : FP} {Z : Nat → Prop} {M : Cls Int} {w w' : World}
theorem GrR.lt (h : GrR N R g yb M w) {k : Nat} (hk : R k) : k < w.heap.size := by
  obtain ⟨F, v, h1, h2, h3, _⟩ := h
  rcases (h3 k).1 hk with h | rfl | h
  · exact h1.2.2.1 k h
  · exact h2.at_.lt
  · exact (h2.own.block h).2
theorem GrR.lo (h : GrR N R g yb M w) {k : Nat} (hk : R k) : N ≤ k := by
  obtain ⟨F, v, h1, h2, h3, h4, h5, h6⟩ := h
  exact h6 k hk
theorem GrR.srt (h : GrR N R g yb M w) : SrtC M := by obtain ⟨F, v, h1, _⟩ := h; exact h1.1
theorem GrR.keep (h : GrR N R g yb M w) (hg : Grow w w') (hk : ∀ k, R k → w'.heap[k]? = w.heap[k]?) : GrR N R g yb M w' := by
  obtain ⟨F, v, h1, h2, h3, h4⟩ := h
  exact ⟨F, v, h1.keep hg (fun k h => hk k ((h3 k).2 (.inl h))), h2.keep (hk yb ((h3 yb).2 (.inr (.inl rfl)))) (fun k h => hk k ((h3 k).2 (.inr (.inr h)))), h3, h4⟩
theorem GrX.toR (h : GrX N Z g yb M M w) : ∃ R, GrR N R g yb M w ∧ ∀ k, R k → ¬ Z k := by
  obtain ⟨F, v, h1, h2, h3, ⟨h4, h5, h6⟩, h7⟩ := h
  refine ⟨fun k => F k ∨ k = yb ∨ v.ownBlock = some k, ⟨F, v, h1, h2, fun k => Iff.rfl, h6, fun k hk => (h7 k hk).2.2, ?_⟩, ?_⟩
  · rintro k (h | rfl | h)
    · exact (h3 k h).1
    · exact h4
    · exact (h7 k h).1
  · rintro k (h | rfl | h)
    · exact (h3 k h).2
    · exact h5
    · exact (h7 k h).2.1
theorem GrR.toX (h : GrR N R g yb M w) : GrX N (fun k => k < w.heap.size ∧ ¬ R k) g yb M M w := by
  obtain ⟨F, v, h1, h2, h3, h4, h5, h6⟩ := h
  exact ⟨F, v, h1, h2, fun k hk => ⟨h6 k ((h3 k).2 (.inl hk)), fun e => e.2 ((h3 k).2 (.inl hk))⟩, ⟨h6 yb ((h3 yb).2 (.inr (.inl rfl))), fun e => e.2 ((h3 yb).2 (.inr (.inl rfl))), h4⟩, fun k hk => ⟨h6 k ((h3 k).2 (.inr (.inr hk))), fun e => e.2 ((h3 k).2 (.inr (.inr hk))), h5 k hk⟩⟩
/-- What an act leaves. -/
def ActTo (N : Nat) (R : FP) (g yb : Nat) (M' : Cls Int) (w w' : World) : Prop :=
  ∃ R', GrR N R' g yb M' w' ∧ (∀ k, R' k → R k ∨ w.heap.size ≤ k) ∧ Grow w w' ∧ ∀ k, k < w.heap.size → ¬ R k → w'.heap[k]? = w.heap[k]?
theorem law_actR (hh : GrR N R g yb M w) (hN : N ≤ w.heap.size) (hlen : M.length ≤ 300000) (x : A4) (hx : ActWf x) :
    Calls Try.prog 11 #[.pointer (some ⟨g, 0, none⟩), .pointer (some ⟨yb, 0, none⟩), .agg (ac x).toArray] w fun e w' => e = .returned (.bool true) ∧ ActTo N R g yb (stepA M x) w w' := by
  refine (law_act hh.toX hN (fun k h => h.1) hlen x hx).mono ?_
  rintro e w' ⟨rfl, h1, h2, h3, h4⟩
  obtain ⟨R', r1, r2⟩ := h1.toR
  refine ⟨rfl, R', r1, fun k hk => ?_, ⟨h2.os, h2.tape, h2.output, h3⟩, fun k hk hr => h4 k ⟨hk, hr⟩⟩
  by_cases hs : k < w.heap.size
  · by_cases hr : R k
    · exact .inl hr
    · exact absurd ⟨hs, hr⟩ (r2 k hk)
  · exact .inr (by omega)
end
/-- The boxes and the row that stay. -/
structure MwS (w : World) (mb wb gb xb pb : Nat) (mv : Value) (wy : Int) (g yb : Nat) (pv : Value) (pc : Cls Int) (W : World) : Prop where
  old : Below w.heap.size w W
  bm : Boxed W mb 22 mv
  bw : Boxed W wb 3 (.int .i64 wy)
  bg : Boxed W gb 23 (.pointer (some ⟨g, 0, none⟩))
  bx : Boxed W xb 25 (.pointer (some ⟨yb, 0, none⟩))
  bp : Boxed W pb 26 pv
  own : OwnR cellR 0 pv pc W
/-- Its blocks above w's. -/
def MwB (mb wb gb xb pb : Nat) (pv : Value) (k : Nat) : Prop := k = mb ∨ k = wb ∨ k = gb ∨ k = xb ∨ k = pb ∨ pv.ownBlock = some k
theorem MwS.keep {w : World} {mb wb gb xb pb : Nat} {mv : Value} {wy : Int} {g yb : Nat} {pv : Value} {pc : Cls Int} {W W' : World} (h : MwS w mb wb gb xb pb mv wy g yb pv pc W) (hg : Grow W W') (h0 : ∀ k, k < w.heap.size → W'.heap[k]? = W.heap[k]?) (hk : ∀ k, MwB mb wb gb xb pb pv k → W'.heap[k]? = W.heap[k]?) : MwS w mb wb gb xb pb mv wy g yb pv pc W' :=
  ⟨⟨hg.os.trans h.old.os, hg.tape.trans h.old.tape, hg.output.trans h.old.output, Nat.le_trans h.old.size hg.size, fun k hk => (h0 k hk).trans (h.old.block k hk)⟩, (hk mb (.inl rfl)).trans h.bm, (hk wb (.inr (.inl rfl))).trans h.bw, (hk gb (.inr (.inr (.inl rfl)))).trans h.bg, (hk xb (.inr (.inr (.inr (.inl rfl))))).trans h.bx, (hk pb (.inr (.inr (.inr (.inr (.inl rfl)))))).trans h.bp,
    h.own.of (Nat.le_refl _) (fun k e => hk k (.inr (.inr (.inr (.inr (.inr e))))))⟩
/-- What the range holds, k rounds told. -/
structure MwI (w : World) (N Bt mb wb gb xb pb nb : Nat) (mv : Value) (wy : Int) (g yb : Nat) (pv : Value) (pc : Cls Int) (j : Nat) (M : Cls Int) (R Φ : FP) (W : World) : Prop where
  st : MwS w mb wb gb xb pb mv wy g yb pv pc W
  bn : Boxed W nb 3 (.int .i64 (j : Nat))
  gr : GrR N R g yb M W
  len : M.length ≤ 100 + j
  iff : ∀ k, Φ k ↔ R k ∧ Bt ≤ k
  away : ∀ k, R k → ¬ MwB mb wb gb xb pb pv k ∧ k ≠ nb
  sz : Bt ≤ W.heap.size
section
variable {w : World} {N Bt mb wb gb xb pb nb : Nat} {mv : Value} {wy : Int} {g yb : Nat} {pv : Value} {pc : Cls Int} {j : Nat} {M : Cls Int} {R Φ : FP} {W W' : World}
theorem MwI.keep (h : MwI w N Bt mb wb gb xb pb nb mv wy g yb pv pc j M R Φ W) (hB : ∀ k, MwB mb wb gb xb pb pv k → k < Bt) (hnb : nb < Bt) (hw : w.heap.size ≤ Bt) (hg : Grow W W') (hk : ∀ k, (k < Bt ∨ Φ k) → W'.heap[k]? = W.heap[k]?) : MwI w N Bt mb wb gb xb pb nb mv wy g yb pv pc j M R Φ W' :=
  ⟨h.st.keep hg (fun k hk' => hk k (.inl (by omega))) (fun k hk' => hk k (.inl (hB k hk'))), (hk nb (.inl hnb)).trans h.bn, h.gr.keep hg (fun k hr => hk k (if hb : k < Bt then .inl hb else .inr ((h.iff k).2 ⟨hr, by omega⟩))), h.len, h.iff, h.away, Nat.le_trans h.sz hg.size⟩
theorem ActTo.same (h : GrR N R g yb M W) (hb : Below W.heap.size W W') : ActTo N R g yb M W W' :=
  ⟨R, h.keep (Grow.of_below hb) (fun k hk => hb.block k (h.lt hk)), fun k hk => .inl hk, Grow.of_below hb, fun k hk _ => hb.block k hk⟩
theorem ActTo.then (h : ActTo N R g yb M W W') {W'' : World} (hb : Below W'.heap.size W' W'') : ActTo N R g yb M W W'' := by
  obtain ⟨R', h1, h2, h3, h4⟩ := h
  exact ⟨R', h1.keep (Grow.of_below hb) (fun k hk => hb.block k (h1.lt hk)), h2, h3.trans (Grow.of_below hb), fun k hk hr => (hb.block k (by have := h3.size; omega)).trans (h4 k hk hr)⟩
theorem ActTo.undrew (h : ActTo N R g yb M W.drew W') : ActTo N R g yb M W W' := by
  obtain ⟨R', h1, h2, h3, h4⟩ := h
  exact ⟨R', h1, h2, ⟨h3.os, h3.tape, h3.output, h3.size⟩, h4⟩
/-- What the range may write below its beginning. -/
def MwP (N Bt mb wb gb xb pb : Nat) (pv : Value) (k : Nat) : Prop := k < Bt ∧ N ≤ k ∧ ¬ MwB mb wb gb xb pb pv k
/-- Behind an act, before the count. -/
theorem MwI.boxes {M' : Cls Int} (h : MwI w N Bt mb wb gb xb pb nb mv wy g yb pv pc j M R Φ W) (hB : ∀ k, MwB mb wb gb xb pb pv k → k < Bt) (hnb : nb < Bt) (hw : w.heap.size ≤ N) (ha : ActTo N R g yb M' W W') :
    MwS w mb wb gb xb pb mv wy g yb pv pc W' ∧ Boxed W' nb 3 (.int .i64 (j : Nat)) := by
  obtain ⟨R', h1, h2, h3, h4⟩ := ha
  have hsz := h.sz
  have hbs := h.st.old.size
  refine ⟨h.st.keep h3 (fun k hk => h4 k (by omega) (fun e => by have := h.gr.lo e; omega)) (fun k hk => h4 k (by have := hB k hk; omega) (fun e => (h.away k e).1 hk)), (h4 nb (by omega) (fun e => (h.away nb e).2 rfl)).trans h.bn⟩
/-- Behind an act, and the count. -/
theorem MwI.next {M' : Cls Int} (h : MwI w N Bt mb wb gb xb pb nb mv wy g yb pv pc j M R Φ W) (hB : ∀ k, MwB mb wb gb xb pb pv k → k < Bt ∧ k ≠ nb) (hnb : nb < Bt) (hN : N ≤ nb) (hw : w.heap.size ≤ N) (hl : M'.length ≤ 100 + (j + 1)) (ha : ActTo N R g yb M' W W') (j1 : Nat) (hj1 : j1 = j + 1) :
    ∃ Φ', (∀ k, Φ' k → Φ k ∨ W.heap.size ≤ k) ∧ Only (MwP N Bt mb wb gb xb pb pv) Φ W (W'.setCell ⟨nb, 0, none⟩ (.int .i64 (j1 : Nat))) ∧ ∃ R', MwI w N Bt mb wb gb xb pb nb mv wy g yb pv pc j1 M' R' Φ' (W'.setCell ⟨nb, 0, none⟩ (.int .i64 (j1 : Nat))) := by
  subst hj1
  obtain ⟨b1, b2⟩ := h.boxes (fun k hk => (hB k hk).1) hnb hw ha
  obtain ⟨R', h1, h2, h3, h4⟩ := ha
  have hsz := h.sz
  have hs3 := h3.size
  have hset : ∀ k, k ≠ nb → (W'.setCell ⟨nb, 0, none⟩ (.int .i64 ((j + 1 : Nat) : Int))).heap[k]? = W'.heap[k]? := fun k hk => Below.heap_setCell _ _ _ k hk
  have hgs : Grow W' (W'.setCell ⟨nb, 0, none⟩ (.int .i64 ((j + 1 : Nat) : Int))) := ⟨rfl, rfl, rfl, by simp [World.setCell]⟩
  have haw : ∀ k, R' k → ¬ MwB mb wb gb xb pb pv k ∧ k ≠ nb := fun k hk => (h2 k hk).elim (h.away k) (fun e => ⟨fun hb => by have := (hB k hb).1; omega, by omega⟩)
  have hPn : MwP N Bt mb wb gb xb pb pv nb := ⟨hnb, hN, fun e => (hB nb e).2 rfl⟩
  refine ⟨fun k => R' k ∧ Bt ≤ k, fun k hk => (h2 k hk.1).imp (fun e => (h.iff k).2 ⟨e, hk.2⟩) id, ⟨h3.trans hgs, fun k hk hP hΦ => ?_⟩, R',
    ⟨b1.keep hgs (fun k hk => hset k (by omega)) (fun k hk => hset k (hB k hk).2), b2.set _, h1.keep hgs (fun k hk => hset k (haw k hk).2), hl, fun k => Iff.rfl, haw, by have := hgs.size; omega⟩⟩
  have hne : k ≠ nb := fun e => hP (by rw [e]; exact hPn)
  rw [hset k hne]
  refine h4 k hk (fun hr => ?_)
  by_cases hb : k < Bt
  · exact hP ⟨hb, h.gr.lo hr, (h.away k hr).1⟩
  · exact hΦ ((h.iff k).2 ⟨hr, by omega⟩)
end
/-- The range's invariant. -/
def MwJ (w : World) (N Bt mb wb gb xb pb nb : Nat) (mv : Value) (wy : Int) (g yb : Nat) (pv : Value) (pc : Cls Int) (pre : List (Int × Int)) (Φ : FP) (W : World) : Prop := ∃ M R, MwI w N Bt mb wb gb xb pb nb mv wy g yb pv pc pre.length M R Φ W
theorem MwJ.stab {w : World} {N Bt mb wb gb xb pb nb : Nat} {mv : Value} {wy : Int} {g yb : Nat} {pv : Value} {pc : Cls Int} (hB : ∀ k, MwB mb wb gb xb pb pv k → k < Bt ∧ k ≠ nb) (hnb : nb < Bt) (hw : w.heap.size ≤ N) (hN : N ≤ Bt) : Stab Bt (MwJ w N Bt mb wb gb xb pb nb mv wy g yb pv pc) := by
  rintro pre Φ W ⟨M, R, h⟩
  exact ⟨fun k hk => ⟨((h.iff k).1 hk).2, h.gr.lt ((h.iff k).1 hk).1⟩, h.sz, fun W' hg hk => ⟨M, R, h.keep (fun k hk => (hB k hk).1) hnb (by omega) hg hk⟩⟩
/-- One told. -/
theorem pairs_at {pc : Cls Int} {f : (Int × Int) × Int → Int × Int} {pre : List (Int × Int)} {x : Int × Int} (h : (pre ++ [x]) <+: pc.map f) : ∃ hk : pre.length < pc.length, x = f (pc[pre.length]'hk) := by
  have hl := h.length_le
  rw [List.length_append, List.length_singleton, List.length_map] at hl
  refine ⟨by omega, ?_⟩
  obtain ⟨t, ht⟩ := h
  have e : (pc.map f)[pre.length]? = some x := by
    rw [← ht, List.append_assoc, List.getElem?_append_right (Nat.le_refl _), Nat.sub_self]
    rfl
  rw [List.getElem?_map, List.getElem?_eq_getElem (by omega)] at e
  exact (Option.some.inj e).symm
end Go.Proofs.Ytlfngdfbimcjhaa
