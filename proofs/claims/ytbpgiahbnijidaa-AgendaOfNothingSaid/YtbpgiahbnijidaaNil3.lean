/-
  The laws' all, over a nil agenda.
-/
import Derived.Test.YtbpgiahbnijidaaNil2
namespace Go.Proofs.Ytbpgiahbnijidaa
open Go.RowKit Go.Shelf
attribute [local go_sem] Oper.semAt_some
set_option linter.unusedVariables false
set_option linter.unusedSimpArgs false

theorem run_seq_nil (f : Fn) (lb : Array Value) (w : World) : (binOp .eql 52 (.func f #[] lb) .nilFunc).run Try.prog w = .ok (.bool false) w := by rfl
def AllI (N0 rb qb ob : Nat) (pre : List Tk) (Φ : FP) (W : World) : Prop := (∀ k, ¬ Φ k) ∧ Boxed W rb 26 (.slice none 0 0) ∧ Boxed W qb 4 (.bool false) ∧ Boxed W ob 26 (.slice none 0 0) ∧ N0 ≤ W.heap.size
theorem AllI.stab {N0 rb qb ob : Nat} (h1 : rb < N0) (h2 : qb < N0) (h3 : ob < N0) : Stab N0 (AllI N0 rb qb ob) := by
  rintro pre Φ W ⟨a, b, c, d, f⟩
  exact ⟨fun k hk => absurd hk (a k), f, fun W' hg hk => ⟨a, (hk rb (.inl h1)).trans b, (hk qb (.inl h2)).trans c, (hk ob (.inl h3)).trans d, Nat.le_trans f hg.size⟩⟩
set_option maxHeartbeats 4000000 in
set_option maxRecDepth 100000 in
theorem lawAll_nil (w : World) :
    Calls Try.prog 19 #[.pointer none] w fun e w' => e = .returned (.tuple #[.slice none 0 0, .bool true]) ∧ Below w.heap.size w w' := by
  refine (callsIn_wide (n := 2)).1 ?_
  have RN := run_seq_nil
  refine callsIn_of_wp_marks Try.func19 rfl trivial ?_ rfl
  simp only [Try.ntmps19, List.size_toArray, List.length_cons, List.length_nil, Nat.reduceAdd, Nat.reduceSub, Array.replicate_succ, Array.replicate_zero, List.push_toArray, List.append_toArray, List.nil_append, List.cons_append]
  gi_wp2_with (first | (gi_at_call 22; refine (callsIn_wide.2 (agenda_All _ ⟨_, rfl⟩ _)).mono ?_; rintro e w1 ⟨rfl, hw1⟩) | (refine ⟨trivial, ?_⟩; gi_at_call 22; refine (callsIn_wide.2 (agenda_All _ ⟨_, rfl⟩ _)).mono ?_; rintro e w1 ⟨rfl, hw1⟩) | fail)
  rw [← hw1]
  obtain ⟨w2, hw2⟩ : ∃ w2, w2 = w1.alloc (.cells #[.slice none 0 0] 26) := ⟨_, rfl⟩
  rw [← hw2]
  obtain ⟨rb, hrb⟩ : ∃ rb, rb = w.heap.size := ⟨_, rfl⟩
  obtain ⟨qb, hqb⟩ : ∃ qb, qb = rb + 1 := ⟨_, rfl⟩
  obtain ⟨ab, hab⟩ : ∃ ab, ab = qb + 1 := ⟨_, rfl⟩
  obtain ⟨ob, hob⟩ : ∃ ob, ob = ab + 1 := ⟨_, rfl⟩
  have hB : Below w.heap.size w w2 := by rw [hw2, hw1]; exact ((((Below.refl _ w).alloc (Nat.le_refl _) _).alloc (by simp) _).alloc (by simp; omega) _).alloc (by simp; omega) _
  have hsz : w2.heap.size = rb + 4 := by rw [hw2, hw1, hrb]; simp
  have x0 : Boxed w2 rb 26 (.slice none 0 0) := by rw [hw2, hw1, hrb]; exact (((Boxed.new w _ _).alloc _).alloc _).alloc _
  have x1 : Boxed w2 qb 4 (.bool false) := by
    have := Boxed.new (w.alloc (.cells #[.slice none 0 0] 26)) 4 (.bool false)
    rw [World.size_alloc] at this
    rw [hw2, hw1, hqb, hrb]; exact (this.alloc _).alloc _
  have x3 : Boxed w2 ab 23 (.pointer none) := by
    have := Boxed.new ((w.alloc (.cells #[.slice none 0 0] 26)).alloc (.cells #[.bool false] 4)) 23 (.pointer none)
    rw [World.size_alloc, World.size_alloc] at this
    rw [hw2, hw1, hab, hqb, hrb]; exact this.alloc _
  have x2 : Boxed w2 ob 26 (.slice none 0 0) := by
    have := Boxed.new (((w.alloc (.cells #[.slice none 0 0] 26)).alloc (.cells #[.bool false] 4)).alloc (.cells #[.pointer none] 23)) 26 (.slice none 0 0)
    rw [World.size_alloc, World.size_alloc, World.size_alloc] at this
    rw [hw2, hw1, hob, hab, hqb, hrb]; exact this
  rw [← hrb, ← hqb, ← hab, ← hob]
  have hit := all_nil 0 ab w2 x3.cell (fun k => k < w2.heap.size) (by omega)
  have HB1 := Lib.hid hB
  have HRB := Lib.hid hrb
  have l0 : rb < qb := by omega
  have l1 : qb < ab := by omega
  have l2 : ab < ob := by omega
  have l3 : ob < w2.heap.size := by omega
  clear x3 hw1 hw2 hqb hab hob hsz hB hrb
  refine range_outerA (n := 0) (gf := 29) (lb := #[.pointer (some ⟨ab, 0, none⟩)]) rfl enters_all hit (Grow.refl _) (fun k hk => ⟨hk, rfl⟩) (fun _ => rfl)
    (fun k => False) (fun k h => h.elim) (AllI w2.heap.size rb qb ob) (fun _ _ _ _ => False) (AllI.stab (by omega) (by omega) (by omega)) (fun c _ _ _ h => h.elim)
    ⟨fun _ h => h, x0, x1, x2, Nat.le_refl _⟩
    (fun x N => { tmps := #[.pointer none, undef, .pointer (some ⟨rb, 0, none⟩), .pointer (some ⟨qb, 0, none⟩), .func (.func 29) #[] #[.pointer (some ⟨ab, 0, none⟩)], .pointer (some ⟨ob, 0, none⟩), .pointer (some ⟨N, 0, none⟩), .pointer none, .func (.func 29) #[] #[.pointer (some ⟨ab, 0, none⟩)], .func (.func 29) #[] #[.pointer (some ⟨ab, 0, none⟩)], .bool false, .func (.func 29) #[] #[.pointer (some ⟨ab, 0, none⟩)], .agg (tc x).toArray, undef, undef, undef, undef, undef, undef, undef, undef], defers := [] })
    (fun x N W => W.heap[N]? = some (.cells (tc x).toArray 32 (0, 0))) (fun x N W W' h e => e.trans h) ?assign ?body ?done ?stop
  case assign =>
    intro l x W K hK
    refine frame_eq (b := { tmps := #[.pointer none, undef, .pointer (some ⟨rb, 0, none⟩), .pointer (some ⟨qb, 0, none⟩), .func (.func 29) #[] #[.pointer (some ⟨ab, 0, none⟩)], .pointer (some ⟨ob, 0, none⟩), undef, .pointer none, .func (.func 29) #[] #[.pointer (some ⟨ab, 0, none⟩)], .func (.func 29) #[] #[.pointer (some ⟨ab, 0, none⟩)], .bool false, .func (.func 29) #[] #[.pointer (some ⟨ab, 0, none⟩)], .agg (tc x).toArray, undef, undef, undef, undef, undef, undef, undef, undef], defers := [] }) (by simp) ?_
    gi_wp2_with (first
        | (refine wplIn_allocT rfl rfl ?_; intro C hC)
        | (refine wplIn_storeT (t := x) (C := C) _ _ rfl rfl rfl rfl (heap_alloc_new W _) hC ?_)
        | fail)
    refine hK _ ?_ (by simp) (setRow_heap _ _ _ _ _ _ (heap_alloc_new W _))
    exact ((Below.refl _ W).alloc (Nat.le_refl _) _).trans ⟨rfl, rfl, rfl, by simp, fun k hk => setRow_other _ _ k _ (by omega)⟩
  case body =>
    rintro l pre x Φ N W hpx
    have h1 := hpx.length_le
    simp at h1
  case done =>
    rintro D Φ W3 ⟨hΦ, b0, b1, b2, hz⟩ hon hD hnD hK
    have c0 := b2.cell
    have cR := b0.cell
    have cQ := b1.cell
    have hqr : qb ≠ rb := by omega
    have hrq : rb ≠ qb := by omega
    have f0 := b0.frozen
    have f1 := b1.frozen
    have HB0 := Lib.hid b0
    have HB2 := Lib.hid b1
    have HON := Lib.hid hon
    have HKK := Lib.hid hK
    clear b0 b1 b2 hon hK hΦ
    gi_wp2
    obtain ⟨W5, hW5⟩ : ∃ W5, W5 = (W3.setCell ⟨rb, 0, none⟩ (.slice none 0 0)).setCell ⟨qb, 0, none⟩ (.bool true) := ⟨_, rfl⟩
    rw [← hW5]
    have hsame : ∀ k, k ≠ rb → k ≠ qb → W5.heap[k]? = W3.heap[k]? := fun k h1 h2 => by rw [hW5]; exact (Below.heap_setCell _ _ _ k h2).trans (Below.heap_setCell _ _ _ k h1)
    have y0 : Boxed W5 rb 26 (.slice none 0 0) := by rw [hW5]; exact (HB0.out.set _).other hrq _
    have y1 : Boxed W5 qb 4 (.bool true) := by rw [hW5]; exact (HB2.out.other hqr _).set _
    have hgw : Grow W3 W5 := by rw [hW5]; exact ⟨rfl, rfl, rfl, by simp [World.setCell]⟩
    have hK5 : W5.heap[D]? = some (.deferred (some [])) := (hsame D (by omega) (by omega)).trans HKK.out
    have z0 : Boxed (W5.putObj D (.deferred none)) rb 26 (.slice none 0 0) := (put_other (by omega)).trans y0
    have z1 : Boxed (W5.putObj D (.deferred none)) qb 4 (.bool true) := (put_other (by omega)).trans y1
    have e0 := z0.cell
    have e1 := z1.cell
    refine ⟨by simp, .inl ⟨_, _, rfl, run_takeDeferred hK5, ?_⟩⟩
    refine ⟨.tuple #[.slice none 0 0, .bool true], by simp [results, Try.results19, go_sem, e0, e1], rfl, ?_⟩
    have hg : Grow W3 (W5.putObj D (.deferred none)) := hgw.trans (put_grow _ _ _)
    have hO2 := HON.out
    have hw2 := HB1.out
    have hsw := HRB.out
    refine ⟨hg.os.trans (hO2.grow.os.trans hw2.os), hg.tape.trans (hO2.grow.tape.trans hw2.tape), hg.output.trans (hO2.grow.output.trans hw2.output), by have := hg.size; have := hO2.grow.size; have := hw2.size; omega, fun k hk => ?_⟩
    rw [put_other (by omega), hsame k (by omega) (by omega), hO2.block k (by omega) (fun h => h) (fun h => h)]
    exact hw2.block k hk
  case stop =>
    rintro D Φ c pre W3 hpre h
    exact h.elim
end Go.Proofs.Ytbpgiahbnijidaa
