/-
  The laws' all, over an agenda.
-/
import Derived.Test.YtbpgiahbnijidaaMw1
import Derived.Test.YtbpgiahbnijidaaIterA
namespace Go.Proofs.Ytbpgiahbnijidaa
open Go.RowKit Go.Shelf
attribute [local go_sem] Oper.semAt_some
set_option linter.unusedVariables false
set_option linter.unusedSimpArgs false

theorem run_seq_nil2 (f : Fn) (lb : Array Value) (w : World) : (binOp .eql 52 (.func f #[] lb) .nilFunc).run Try.prog w = .ok (.bool false) w := by rfl
structure AllC (N0 rb qb ob : Nat) (pre : List Tk) (Φ : FP) (W : World) (v : Value) : Prop where
  b0 : Boxed W rb 26 (.slice none 0 0)
  b1 : Boxed W qb 4 (.bool false)
  b2 : Boxed W ob 26 v
  own : OwnT N0 v pre W
  iff : ∀ k, Φ k ↔ v.ownBlock = some k
  sz : N0 ≤ W.heap.size
def AllJ (N0 rb qb ob : Nat) (pre : List Tk) (Φ : FP) (W : World) : Prop := ∃ v, AllC N0 rb qb ob pre Φ W v
theorem AllC.keep {N0 rb qb ob : Nat} {pre : List Tk} {Φ : FP} {W W' : World} {v : Value} (h : AllC N0 rb qb ob pre Φ W v) (h1 : rb < N0) (h2 : qb < N0) (h3 : ob < N0) (hs : W.heap.size ≤ W'.heap.size) (hk : ∀ k, k < N0 ∨ Φ k → W'.heap[k]? = W.heap[k]?) : AllC N0 rb qb ob pre Φ W' v :=
  ⟨(hk rb (.inl h1)).trans h.b0, (hk qb (.inl h2)).trans h.b1, (hk ob (.inl h3)).trans h.b2, h.own.of (Nat.le_refl _) (fun k e => hk k (.inr ((h.iff k).2 e))), h.iff, Nat.le_trans h.sz hs⟩
theorem AllJ.stab {N0 rb qb ob : Nat} (h1 : rb < N0) (h2 : qb < N0) (h3 : ob < N0) : Stab N0 (AllJ N0 rb qb ob) := by
  rintro pre Φ W ⟨v, h⟩
  exact ⟨fun k hk => h.own.block ((h.iff k).1 hk), h.sz, fun W' hg hk => ⟨v, h.keep h1 h2 h3 hg.size hk⟩⟩
set_option maxHeartbeats 4000000 in
set_option maxRecDepth 100000 in
theorem lawAll (B g : Nat) (v : Value) (ts : List Tk) (w : World) (hA : AgA B g v ts w) (hl : ts.length ≤ 12) :
    Calls Try.prog 19 #[.pointer (some ⟨g, 0, none⟩)] w fun e w' => ∃ v', e = .returned (.tuple #[v', .bool true]) ∧ OwnT w.heap.size v' ts w' ∧ Below w.heap.size w w' := by
  refine (callsIn_wide (n := 2)).1 ?_
  have RN := run_seq_nil2
  have HA := Lib.hid hA
  have HL := Lib.hid hl
  clear hA hl
  refine callsIn_of_wp_marks Try.func19 rfl trivial ?_ rfl
  simp only [Try.ntmps19, List.size_toArray, List.length_cons, List.length_nil, Nat.reduceAdd, Nat.reduceSub, Array.replicate_succ, Array.replicate_zero, List.push_toArray, List.append_toArray, List.nil_append, List.cons_append]
  gi_wp2_with (first | (gi_at_call 22; refine (callsIn_wide.2 (agenda_All _ ⟨_, rfl⟩ _)).mono ?_; rintro e w1 ⟨rfl, hw1⟩) | (refine ⟨trivial, ?_⟩; gi_at_call 22; refine (callsIn_wide.2 (agenda_All _ ⟨_, rfl⟩ _)).mono ?_; rintro e w1 ⟨rfl, hw1⟩) | fail)
  rw [← hw1]
  obtain ⟨w2, hw2⟩ : ∃ w2, w2 = w1.alloc (.cells #[.slice none 0 0] 26) := ⟨_, rfl⟩
  rw [← hw2]
  obtain ⟨rb, hrb⟩ : ∃ rb, rb = w.heap.size := ⟨_, rfl⟩
  obtain ⟨qb, hqb⟩ : ∃ qb, qb = rb + 1 := ⟨_, rfl⟩
  obtain ⟨ab, hab⟩ : ∃ ab, ab = qb + 1 := ⟨_, rfl⟩
  obtain ⟨ob, hob⟩ : ∃ ob, ob = ab + 1 := ⟨_, rfl⟩
  have hB : Below w.heap.size w w2 := by rw [hw2, hw1]; exact ((((Below.refl _ w).alloc (Nat.le_refl _) _).alloc (by simp) _).alloc (by simp; omega) _).alloc (by simp; omega) _
  have hsz : w2.heap.size = rb + 4 := by rw [hw2, hw1, hrb]; simp
  have x0 : Boxed w2 rb 26 (.slice none 0 0) := by rw [hw2, hw1, hrb]; exact (((Boxed.new w _ _).alloc _).alloc _).alloc _
  have x1 : Boxed w2 qb 4 (.bool false) := by
    have := Boxed.new (w.alloc (.cells #[.slice none 0 0] 26)) 4 (.bool false)
    rw [World.size_alloc] at this
    rw [hw2, hw1, hqb, hrb]; exact (this.alloc _).alloc _
  have x3 : Boxed w2 ab 23 (.pointer (some ⟨g, 0, none⟩)) := by
    have := Boxed.new ((w.alloc (.cells #[.slice none 0 0] 26)).alloc (.cells #[.bool false] 4)) 23 (.pointer (some ⟨g, 0, none⟩))
    rw [World.size_alloc, World.size_alloc] at this
    rw [hw2, hw1, hab, hqb, hrb]; exact this.alloc _
  have x2 : Boxed w2 ob 26 (.slice none 0 0) := by
    have := Boxed.new (((w.alloc (.cells #[.slice none 0 0] 26)).alloc (.cells #[.bool false] 4)).alloc (.cells #[.pointer (some ⟨g, 0, none⟩)] 23)) 26 (.slice none 0 0)
    rw [World.size_alloc, World.size_alloc, World.size_alloc] at this
    rw [hw2, hw1, hob, hab, hqb, hrb]; exact this
  rw [← hrb, ← hqb, ← hab, ← hob]
  have hA1 := HA.out.later hB
  have hit := all_iter 0 ab g v ts w2 x3.cell hA1.at_ hA1.own.reads (by have := HL.out; omega) (fun k => k < w2.heap.size) (by omega) hA1.lt (fun a n0 c e hne => by
    have hk : v.ownBlock = some a.block := by rw [e]; rfl
    exact (hA1.own.block hk).2)
  have HB1 := Lib.hid hB
  have HRB := Lib.hid hrb
  have l0 : rb < qb := by omega
  have l1 : qb < ab := by omega
  have l2 : ab < ob := by omega
  have l3 : ob < w2.heap.size := by omega
  have l4 : w.heap.size ≤ rb := by omega
  clear x3 hw1 hw2 hqb hab hob hsz hB hrb hA1
  refine range_outerA (n := 0) (gf := 29) (lb := #[.pointer (some ⟨ab, 0, none⟩)]) rfl enters_all hit (Grow.refl _) (fun k hk => ⟨hk, rfl⟩) (fun _ => rfl)
    (fun k => k = ob) (by rintro k rfl; omega) (AllJ w2.heap.size rb qb ob) (fun _ _ _ _ => False) (AllJ.stab (by omega) (by omega) (by omega)) (fun c _ _ _ h => h.elim)
    ⟨_, x0, x1, x2, OwnT.nil _ _, fun k => ⟨fun h => h.elim, fun h => by cases h⟩, Nat.le_refl _⟩
    (fun x N => { tmps := #[.pointer (some ⟨g, 0, none⟩), undef, .pointer (some ⟨rb, 0, none⟩), .pointer (some ⟨qb, 0, none⟩), .func (.func 29) #[] #[.pointer (some ⟨ab, 0, none⟩)], .pointer (some ⟨ob, 0, none⟩), .pointer (some ⟨N, 0, none⟩), .pointer (some ⟨g, 0, none⟩), .func (.func 29) #[] #[.pointer (some ⟨ab, 0, none⟩)], .func (.func 29) #[] #[.pointer (some ⟨ab, 0, none⟩)], .bool false, .func (.func 29) #[] #[.pointer (some ⟨ab, 0, none⟩)], .agg (tc x).toArray, undef, undef, undef, undef, undef, undef, undef, undef], defers := [] })
    (fun x N W => W.heap[N]? = some (.cells (tc x).toArray 32 (0, 0))) (fun x N W W' h e => e.trans h) ?assign ?body ?done ?stop
  case assign =>
    intro l x W K hK
    refine frame_eq (b := { tmps := #[.pointer (some ⟨g, 0, none⟩), undef, .pointer (some ⟨rb, 0, none⟩), .pointer (some ⟨qb, 0, none⟩), .func (.func 29) #[] #[.pointer (some ⟨ab, 0, none⟩)], .pointer (some ⟨ob, 0, none⟩), undef, .pointer (some ⟨g, 0, none⟩), .func (.func 29) #[] #[.pointer (some ⟨ab, 0, none⟩)], .func (.func 29) #[] #[.pointer (some ⟨ab, 0, none⟩)], .bool false, .func (.func 29) #[] #[.pointer (some ⟨ab, 0, none⟩)], .agg (tc x).toArray, undef, undef, undef, undef, undef, undef, undef, undef], defers := [] }) (by simp) ?_
    gi_wp2_with (first
        | (refine wplIn_allocT rfl rfl ?_; intro C hC)
        | (refine wplIn_storeT (t := x) (C := C) _ _ rfl rfl rfl rfl (heap_alloc_new W _) hC ?_)
        | fail)
    refine hK _ ?_ (by simp) (setRow_heap _ _ _ _ _ _ (heap_alloc_new W _))
    exact ((Below.refl _ W).alloc (Nat.le_refl _) _).trans ⟨rfl, rfl, rfl, by simp, fun k hk => setRow_other _ _ k _ (by omega)⟩
  case body =>
    rintro l pre x Φ N W hpx ⟨v1, hI⟩ hl hΦ - hlN hNW hAt
    have hpl : pre.length + 1 ≤ 12 := by have h1 := hpx.length_le; have h2 := HL.out; simp at h1; omega
    obtain ⟨ao1, cap1, rfl⟩ := hI.own.reads.lenOf
    have c0 := hI.b2.cell
    have f0 := hI.b2.frozen
    obtain ⟨m, hm⟩ : ∃ m, m = pre.length := ⟨_, rfl⟩
    obtain ⟨m1, hm1⟩ : ∃ m1, m1 = pre.length + 1 := ⟨_, rfl⟩
    have hm12 : (m1 : Int) ≤ 12 := by omega
    rw [← hm] at hI c0
    have HM1 := Lib.hid hm1
    have HM := Lib.hid hm
    have HI := Lib.hid hI
    have HAT := Lib.hid hAt
    have HPH := Lib.hid hΦ
    clear hI hAt hpx hΦ
    have hdl : ob < W.heap.size := by have := HI.out.sz; omega
    have hown : OwnT w2.heap.size (.slice ao1 m cap1) pre (W.alloc (.cells (tc x).toArray 32)) := HI.out.own.of (Nat.le_refl _) (fun k hk => Below.heap_alloc _ _ _ (HI.out.own.block hk).2)
    have HOW := Lib.hid hown
    have hpl' : pre.length ≤ 900 := by omega
    have HPL := Lib.hid hpl'
    clear hown hm hm1 hpl hpl'
    gi_wp2_with (first
      | (refine wplIn_loadT (t := x) _ rfl rfl rfl (rangeAt_box HAT.out) ?_)
      | (refine wplIn_buildT (t := x) rfl rfl rfl ?_)
      | (gi_at_builtin; refine wplIn_appT_at (B := w2.heap.size) (ub := W.heap.size) (v := .slice ao1 m cap1) (xs := pre) (t := x) rfl rfl rfl rfl HOW.out (heap_alloc_new W _) HPL.out (by have := HI.out.sz; simp; omega) ?_; intro v' w3 hO hg3 hat3; have hbx : Boxed w3 ob 26 (.slice ao1 m cap1) := (hg3.block ob (by simp; omega) (fun e => by have := (HI.out.own.block e.symm).1; omega)).trans ((Below.heap_alloc _ _ _ hdl).trans HI.out.b2); obtain ⟨ao2, cap2, hv2⟩ := hO.reads.lenOf; rw [show (pre ++ [x]).length = m1 from by rw [HM1.out]; simp] at hv2; subst hv2; have cB := hbx.cell; have fB := hbx.frozen; have cB2 := (hbx.set (.slice ao2 m1 cap2)).cell; have HO := Lib.hid hO; have HG3 := Lib.hid hg3; have HAT3 := Lib.hid hat3; have HBX := Lib.hid hbx; clear hO hg3 hat3 hbx)
      | fail)
    obtain ⟨W4, hW4⟩ : ∃ W4, W4 = w3.setCell ⟨ob, 0, none⟩ (.slice ao2 m1 cap2) := ⟨_, rfl⟩
    rw [← hW4]
    have hg3 := HG3.out
    have hs3 : W.heap.size + 1 ≤ w3.heap.size := by have := hg3.size; simpa using this
    have hkeep : ∀ k, k ≠ ob → W4.heap[k]? = w3.heap[k]? := fun k h => by rw [hW4]; exact heap_setCell_other _ _ _ _ h
    have hs4 : W4.heap.size = w3.heap.size := by rw [hW4]; simp [World.setCell]
    have hOb : ∀ k, (Value.slice ao2 m1 cap2).ownBlock = some k → w2.heap.size ≤ k ∧ k < w3.heap.size := fun k hk => HO.out.block hk
    have hold : ∀ k, k < W.heap.size → k ≠ ob → ¬ Φ k → W4.heap[k]? = W.heap[k]? := fun k hk h1 h2 => by
      rw [hkeep k h1, hg3.block k (by simp; omega) (fun e => h2 ((HI.out.iff k).2 e.symm))]
      exact Below.heap_alloc _ _ _ hk
    have hnΦ : ∀ k, k < w2.heap.size → ¬ Φ k := fun k hk h => by have := HPH.out k h; omega
    refine ⟨fun k => (Value.slice ao2 m1 cap2).ownBlock = some k, fun k hk => ?_, ⟨⟨?_, ?_, ?_, by omega⟩, fun k hk h1 h2 => hold k hk h1 h2⟩, .slice ao2 m1 cap2, ?_⟩
    · rcases HAT3.out with h | h
      · exact .inl ((HI.out.iff k).2 (by rw [← h]; exact hk))
      · rw [hk] at h
        injection h with h
        exact .inr (by rw [h]; simp)
    · rw [hW4]; exact hg3.os
    · rw [hW4]; exact hg3.tape
    · rw [hW4]; exact hg3.output
    · have hsz := HI.out.sz
      exact ⟨(hold rb (by omega) (by omega) (hnΦ rb (by omega))).trans HI.out.b0, (hold qb (by omega) (by omega) (hnΦ qb (by omega))).trans HI.out.b1, by rw [hW4]; exact HBX.out.set _, HO.out.of (Nat.le_refl _) (fun k hk => hkeep k (by have := (hOb k hk).1; omega)), fun k => Iff.rfl, by omega⟩
  case done =>
    rintro D Φ W3 ⟨v3, b0, b1, b2, hO, hif, hz⟩ hon hD hnD hK
    have HOO := Lib.hid hO
    have HIF := Lib.hid hif
    obtain ⟨ao3, cap3, hv3⟩ := hO.reads.lenOf
    obtain ⟨n3, hn3⟩ : ∃ n3, n3 = ts.length := ⟨_, rfl⟩
    rw [← hn3] at hv3
    subst hv3
    have hnDD := Lib.hid hnD
    have c0 := b2.cell
    have cR := b0.cell
    have cQ := b1.cell
    have hqr : qb ≠ rb := by omega
    have hrq : rb ≠ qb := by omega
    have f0 := b0.frozen
    have f1 := b1.frozen
    have HB0 := Lib.hid b0
    have HB2 := Lib.hid b1
    have HON := Lib.hid hon
    have HKK := Lib.hid hK
    clear b0 b1 b2 hon hK hO hif hn3 hnD
    gi_wp2
    obtain ⟨W5, hW5⟩ : ∃ W5, W5 = (W3.setCell ⟨rb, 0, none⟩ (.slice ao3 n3 cap3)).setCell ⟨qb, 0, none⟩ (.bool true) := ⟨_, rfl⟩
    rw [← hW5]
    have hsame : ∀ k, k ≠ rb → k ≠ qb → W5.heap[k]? = W3.heap[k]? := fun k h1 h2 => by rw [hW5]; exact (Below.heap_setCell _ _ _ k h2).trans (Below.heap_setCell _ _ _ k h1)
    have y0 : Boxed W5 rb 26 (.slice ao3 n3 cap3) := by rw [hW5]; exact (HB0.out.set _).other hrq _
    have y1 : Boxed W5 qb 4 (.bool true) := by rw [hW5]; exact (HB2.out.other hqr _).set _
    have hgw : Grow W3 W5 := by rw [hW5]; exact ⟨rfl, rfl, rfl, by simp [World.setCell]⟩
    have hK5 : W5.heap[D]? = some (.deferred (some [])) := (hsame D (by omega) (by omega)).trans HKK.out
    have z0 : Boxed (W5.putObj D (.deferred none)) rb 26 (.slice ao3 n3 cap3) := (put_other (by omega)).trans y0
    have z1 : Boxed (W5.putObj D (.deferred none)) qb 4 (.bool true) := (put_other (by omega)).trans y1
    have e0 := z0.cell
    have e1 := z1.cell
    refine ⟨by simp, .inl ⟨_, _, rfl, run_takeDeferred hK5, ?_⟩⟩
    have hsame2 : ∀ k, k ≠ rb → k ≠ qb → k ≠ D → (W5.putObj D (.deferred none)).heap[k]? = W3.heap[k]? := fun k h1 h2 h3 => (put_other h3).trans (hsame k h1 h2)
    refine ⟨.tuple #[.slice ao3 n3 cap3, .bool true], by simp [results, Try.results19, go_sem, e0, e1], _, rfl, HOO.out.of (by have := HB1.out.size; omega) (fun k hk => hsame2 k ?_ ?_ ?_), ?_⟩
    · have := (HOO.out.block hk).1; omega
    · have := (HOO.out.block hk).1; omega
    · intro e; subst e; exact hnDD.out ((HIF.out k).2 hk)
    have hg : Grow W3 (W5.putObj D (.deferred none)) := hgw.trans (put_grow _ _ _)
    have hO2 := HON.out
    have hw2 := HB1.out
    have hsw := HRB.out
    refine ⟨hg.os.trans (hO2.grow.os.trans hw2.os), hg.tape.trans (hO2.grow.tape.trans hw2.tape), hg.output.trans (hO2.grow.output.trans hw2.output), by have := hg.size; have := hO2.grow.size; have := hw2.size; omega, fun k hk => ?_⟩
    rw [put_other (by omega), hsame k (by omega) (by omega), hO2.block k (by have := hw2.size; omega) (by omega) (fun h => h)]
    exact hw2.block k hk
  case stop =>
    rintro D Φ c pre W3 hpre h
    exact h.elim
end Go.Proofs.Ytbpgiahbnijidaa
