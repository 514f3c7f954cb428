/-
  What the law's nums collects.
-/
import Derived.Test.YtioleibcekobeaaNum3
import Derived.Maps.OwnIn
namespace Go.Proofs.Ytioleibcekobeaa
open Go.RowKit Go.Shelf
attribute [local go_sem] Oper.semAt_some
set_option linter.unusedVariables false

theorem info3 : (Try.prog.info? 3).map (fun i => (i.zero, i.size, i.bytes)) = some (some (.int .i64 0), 1, 8) := by kernel_rfl

/-- Integers as cells. -/
def Is (l : List Nat) : List Value := l.map fun (n : Nat) => .int .i64 (n : Int)

/-- A slice of integers that is owned from B on. -/
def OwnN (B : Nat) (v : Value) (l : List Nat) (w : World) : Prop := w.ownsRow B 3 1 v l.length (Is l)

theorem enters_placed : ∀ args w, (callFunc 42 args).run Try.prog w = .ok (.enter 42 args) w := enters_of Try.func42 (by kernel_rfl) rfl

theorem run_seq2_nil (f : Fn) (lb : Array Value) (w : World) : (binOp .eql 52 (.func f #[] lb) .nilFunc).run Try.prog w = .ok (.bool false) w := by rfl
attribute [local go_sem] run_seq2_nil

/-- What the loop has collected. -/
def CollI (S b : Nat) (pre : List (Nat × Nat)) (Φ : FP) (W : World) : Prop :=
  ∃ v, Boxed W b 22 v ∧ OwnN S v (pre.map Prod.fst) W ∧ (∀ k, Φ k ↔ v.ownBlock = some k) ∧ S ≤ W.heap.size

theorem CollI.stab {S b : Nat} (hb : b < S) : Stab S (CollI S b) := by
  rintro pre Φ W ⟨v, hx, ho, hi, hs⟩
  refine ⟨fun k hk => World.ownsRow.lt ho k ((hi k).1 hk), hs, fun W' hg hk => ⟨v, (hk b (.inl hb)).trans hx, ?_, hi, Nat.le_trans hs hg.size⟩⟩
  refine ⟨ho.1, ?_⟩
  rcases ho.2 with h | ⟨g, cap, cur, h1, h2, h3, h4⟩
  · exact .inl h
  · exact .inr ⟨g, cap, cur, h1, h2, (hk g (.inr ((hi g).2 (by rw [h1]; rfl)))).trans h3, h4⟩

theorem zip_at {xs : List Nat} {pre : List (Nat × Nat)} {x : Nat × Nat} (h : (pre ++ [x]) <+: xs.zipIdx) : x.2 = pre.length ∧ pre.length < xs.length := by
  obtain ⟨t, h⟩ := h
  have hl := congrArg List.length h
  simp at hl
  have hx : xs.zipIdx[pre.length]? = some x := by rw [← h]; simp
  rw [List.getElem?_zipIdx] at hx
  have hlt : pre.length < xs.length := by omega
  rw [List.getElem?_eq_getElem hlt] at hx
  simp at hx
  rw [← hx]
  exact ⟨by simp, hlt⟩
theorem OwnN.lenOf {S : Nat} {v : Value} {l : List Nat} {w : World} (h : OwnN S v l w) : ∃ ao cap, v = .slice ao l.length cap := by
  rcases h.2 with ⟨rfl, h0⟩ | ⟨g, cap, cur, rfl, -⟩
  · exact ⟨none, 0, by rw [h0]⟩
  · exact ⟨_, cap, rfl⟩
theorem OwnN.of {S S' : Nat} {v : Value} {l : List Nat} {w w' : World} (h : OwnN S v l w) (hS : S' ≤ S) (hk : ∀ k, v.ownBlock = some k → w'.heap[k]? = w.heap[k]?) : OwnN S' v l w' := by
  refine ⟨h.1, ?_⟩
  rcases h.2 with h | ⟨g, cap, cur, h1, h2, h3, h4⟩
  · exact .inl h
  · exact .inr ⟨g, cap, cur, h1, Nat.le_trans hS h2, (hk g (by rw [h1]; rfl)).trans h3, h4⟩

theorem own_snoc {S : Nat} {v' : Value} {pre : List (Nat × Nat)} {q i : Nat} {w : World} (h : w.ownsRow S 3 1 v' ((pre.map Prod.fst).length + 1) (Is (pre.map Prod.fst) ++ [.int .i64 (q : Nat)])) : OwnN S v' ((pre ++ [(q, i)]).map Prod.fst) w := by
  unfold OwnN
  have e : Is ((pre ++ [(q, i)]).map Prod.fst) = Is (pre.map Prod.fst) ++ [.int .i64 (q : Nat)] := by simp [Is]
  have e2 : ((pre ++ [(q, i)]).map Prod.fst).length = (pre.map Prod.fst).length + 1 := by simp
  rw [e, e2]; exact h

/-- What comes back: all numbers, in new memory. -/
def NumsGot (l : List Nat) (w : World) (e : Ending) (w' : World) : Prop :=
  ∃ v, e = .returned (.tuple #[v, .bool true]) ∧ OwnN w.heap.size v (numsOf l) w' ∧ Below w.heap.size w w'

set_option maxHeartbeats 4000000 in
theorem law_nums (v : Value) (l : List Nat) (w : World) (h : RdB w v l) (hb : ∀ b ∈ l, b < 256) (hl : l.length ≤ 10000) :
    Calls Try.prog 23 #[v] w (NumsGot l w) := by
  refine (callsIn_wide (n := 3)).1 ?_
  have HR := Lib.hid h
  have HB := Lib.hid hb
  have HL := Lib.hid hl
  obtain ⟨ao, cap, rfl⟩ := h.lenOf
  clear h hb hl
  refine callsIn_of_wp_marks Try.func23 rfl trivial ?_ rfl
  simp only [Try.ntmps23, List.size_toArray, List.length_cons, List.length_nil, Nat.reduceAdd, Nat.reduceSub, Array.replicate_succ, Array.replicate_zero, List.push_toArray, List.append_toArray, List.nil_append, List.cons_append]
  gi_wp2_with (first | (gi_at_call 26; refine (callsIn_wide.2 (compact_Nums _ l _ (HR.out.below (((Below.refl _ w).alloc (Nat.le_refl _) _).alloc (by simp) _)) HB.out (by have := HL.out; omega))).mono ?_; rintro e w1 ⟨c, rfl, hb1, hit⟩; have HB1 := Lib.hid hb1; have HIT := Lib.hid hit; clear hb1 hit) | (refine ⟨trivial, ?_⟩; gi_at_call 26; refine (callsIn_wide.2 (compact_Nums _ l _ (HR.out.below (((Below.refl _ w).alloc (Nat.le_refl _) _).alloc (by simp) _)) HB.out (by have := HL.out; omega))).mono ?_; rintro e w1 ⟨c, rfl, hb1, hit⟩; have HB1 := Lib.hid hb1; have HIT := Lib.hid hit; clear hb1 hit) | fail)
  obtain ⟨W2, hW2⟩ : ∃ W2, W2 = w1.alloc (.cells #[.slice none 0 0] 22) := ⟨_, rfl⟩
  rw [← hW2]
  have hz0 : ((w.alloc (.cells #[.slice none 0 0] 22)).alloc (.cells #[.bool false] 4)).heap.size = w.heap.size + 2 := by simp
  have hb1 := HB1.out
  have hit := HIT.out 0
  rw [hz0] at hb1 hit
  have hs1 : w.heap.size + 2 ≤ w1.heap.size := by have := hb1.size; rw [hz0] at this; exact this
  have hz2 : W2.heap.size = w1.heap.size + 1 := by rw [hW2]; simp
  have hB2 : Below w1.heap.size w1 W2 := by rw [hW2]; exact (Below.refl _ w1).alloc (Nat.le_refl _) _
  have hbo : Boxed W2 w1.heap.size 22 (.slice none 0 0) := by rw [hW2]; exact Boxed.new w1 _ _
  have hBw : Below w.heap.size w W2 := by
    refine (((Below.refl _ w).alloc (Nat.le_refl _) _).alloc (by simp) _).trans ((hb1.mono (by omega)).trans (hB2.mono (by omega)))
  have hr2 : Boxed W2 w.heap.size 22 (.slice none 0 0) := (hB2.block _ (by omega)).trans ((hb1.block _ (by omega)).trans ((Boxed.new w _ _).alloc _))
  have hr3 : Boxed W2 (w.heap.size + 1) 4 (.bool false) := by
    have := Boxed.new (w.alloc (.cells #[.slice none 0 0] 22)) 4 (.bool false)
    rw [World.size_alloc] at this
    exact (hB2.block _ (by omega)).trans ((hb1.block _ (by omega)).trans this)
  have HW := Lib.hid hBw
  have HR2 := Lib.hid hr2
  have HR3 := Lib.hid hr3
  clear hb1 hW2 hBw hr2 hr3
  refine range_outer (n := 1) (gf := 42) (lb := #[.pointer (some ⟨c, 0, none⟩)]) rfl enters_placed hit (Grow.of_below hB2) (fun k hk => ⟨hk.2, hB2.block k hk.2⟩) (fun _ => rfl)
    (fun k => k = w1.heap.size) (by rintro k rfl; exact ⟨by omega, fun h => by omega⟩) (CollI W2.heap.size w1.heap.size) (fun _ _ _ _ => False) (CollI.stab (by omega)) (fun _ _ _ _ h => h.elim)
    ⟨_, hbo, ⟨rfl, .inl ⟨rfl, rfl⟩⟩, fun k => ⟨fun h => h.elim, fun h => by cases h⟩, Nat.le_refl _⟩ (fun x => { tmps := #[.slice ao l.length cap, undef, .pointer (some ⟨w.heap.size, 0, none⟩), .pointer (some ⟨w.heap.size + 1, 0, none⟩), .func (.func 42) #[] #[.pointer (some ⟨c, 0, none⟩)], .pointer (some ⟨w1.heap.size, 0, none⟩), .int .i64 (x.2 : Nat), .int .i64 (x.1 : Nat), .slice ao l.length cap, .func (.func 42) #[] #[.pointer (some ⟨c, 0, none⟩)], .func (.func 42) #[] #[.pointer (some ⟨c, 0, none⟩)], .bool false, .func (.func 42) #[] #[.pointer (some ⟨c, 0, none⟩)], .int .i64 (x.2 : Nat), .int .i64 (x.1 : Nat), undef, undef, undef, undef, undef, undef, undef, undef, undef, undef, undef, undef, undef], defers := [] }) ?assign ?body ?done ?stop
  case assign =>
    intro l x W K hK
    gi_wp2
    exact hK
  case body =>
    rintro lp pre ⟨q, i⟩ Φ W hpx ⟨v, hbx, ho, hi, hsz⟩ hl hΦl -
    obtain ⟨hxi, hxl⟩ := zip_at hpx
    simp only at hxi
    subst hxi
    have hlen : pre.length ≤ 10000 := by have := numsOf_le l; have := HL.out; omega
    have d1 : decide ((10000 : Int) < (pre.length : Int)) = false := by simp; omega
    obtain ⟨ao5, cap5, hv⟩ := ho.lenOf
    rw [List.length_map] at hv
    subst hv
    have hc5 := hbx.cell
    have HBX := Lib.hid hbx
    have HO := Lib.hid ho
    have HI := Lib.hid hi
    obtain ⟨i0, hi0, hz0', hz1', hz2'⟩ := info_parts info3
    clear hbx ho hi hpx
    gi_wp2_with (first | (gi_at_builtin; refine wpListIn_append_own_at _ rfl _ _ 22 rfl W2.heap.size 3 i0 (.int .i64 0) 1 8 Try.underlying22 hi0 hz0' hz1' hz2' rfl (by decide) (.slice ao5 pre.length cap5) _ _ rfl (World.ownsRow.alloc HO.out _) ⟨W.heap.size, 0, none⟩ 1 1 [.int .i64 (q : Nat)] rfl rfl (cell_one_new _ _ _) (by simp [Value.oneCell']) (by unfold maxLen; simp; omega) (by simp; omega) (by simp; omega) ?_; intro v' w3 hown' hg3 hnil3 hat3; simp only [World.size_alloc] at hat3; have hO' : OwnN W2.heap.size v' ((pre ++ [(q, pre.length)]).map Prod.fst) w3 := own_snoc hown'; obtain ⟨ao6, cap6, hv6⟩ := hO'.lenOf; rw [show ((pre ++ [(q, pre.length)]).map Prod.fst).length = pre.length + 1 by simp] at hv6; subst hv6; have hB3 := (HBX.out.alloc (.cells #[.int .i64 (q : Nat)] 3)).kept hg3 (HBX.out.not_row (by decide) HO.out); have hc6 := hB3.cell; have hf6 := hB3.frozen; have HO6 := Lib.hid hO'; have HB6 := Lib.hid hB3; have HG6 := Lib.hid hg3; have HA6 := Lib.hid hat3; clear hown' hnil3 hO' hB3 hg3 hat3) | fail)
    obtain ⟨W4, hW4⟩ : ∃ W4, W4 = w3.setCell ⟨w1.heap.size, 0, none⟩ (.slice ao6 (pre.length + 1) cap6) := ⟨_, rfl⟩
    rw [← hW4]
    have hg3 := HG6.out
    have hgs : w3.grownBy W4 (some w1.heap.size) := by rw [hW4]; exact grownBy_setCell' _ _ _
    have hne : some w1.heap.size ≠ (Value.slice ao6 (pre.length + 1) cap6).ownBlock := HB6.out.not_row (by decide) HO6.out
    have hsz3 : W.heap.size + 1 ≤ w3.heap.size := by have := hg3.size; simpa using this
    refine ⟨fun k => (Value.slice ao6 (pre.length + 1) cap6).ownBlock = some k, fun k hk => ?_, ⟨⟨?_, ?_, ?_, ?_⟩, fun k hk h1 h2 => ?_⟩, _, by rw [hW4]; exact HB6.out.set _, OwnN.of HO6.out (Nat.le_refl _) (fun k hk => hgs.block k (World.ownsRow.lt HO6.out k hk).2 (fun e => hne (by rw [← e]; exact hk.symm))), fun k => Iff.rfl, by have := hgs.size; omega⟩
    · rw [hk] at HA6
      rcases HA6.out with h | h
      · exact .inl ((HI.out k).2 h.symm)
      · injection h with h; exact .inr (by omega)
    · rw [hgs.os, hg3.os]; rfl
    · rw [hgs.tape, hg3.tape]; rfl
    · rw [hgs.output, hg3.output]; rfl
    · have := hgs.size; omega
    · rw [hgs.block k (by omega) (fun e => h1 (by injection e)), hg3.block k (by simp; omega) (fun e => h2 ((HI.out k).2 e.symm))]
      exact Below.heap_alloc _ _ _ hk
  case done =>
    rintro D Φ W3 ⟨v, hbx, ho, hi, hsz⟩ hon hD hnD hK
    obtain ⟨ao5, cap5, hv⟩ := ho.lenOf
    have hmap : (numsOf l).zipIdx.map Prod.fst = numsOf l := by simp
    rw [hmap] at hv ho
    subst hv
    have hr2 : Boxed W3 w.heap.size 22 (.slice none 0 0) := (hon.block _ (by omega) (fun h => by omega) (fun h => h)).trans HR2.out
    have hr3 : Boxed W3 (w.heap.size + 1) 4 (.bool false) := (hon.block _ (by omega) (fun h => by omega) (fun h => h)).trans HR3.out
    have hc5 := hbx.cell
    have hc2 := hr2.cell
    have hf2 := hr2.frozen
    have hc3 := (hr3.other (show w.heap.size + 1 ≠ w.heap.size by omega) (.slice ao5 (numsOf l).length cap5)).cell
    have hf3 := (hr3.other (show w.heap.size + 1 ≠ w.heap.size by omega) (.slice ao5 (numsOf l).length cap5)).frozen
    have HBX := Lib.hid hbx
    have HO := Lib.hid ho
    have HI := Lib.hid hi
    have HON := Lib.hid hon
    have HRR2 := Lib.hid hr2
    have HRR3 := Lib.hid hr3
    clear hbx ho hi hon hr2 hr3
    gi_wp2
    obtain ⟨W5, hW5⟩ : ∃ W5, W5 = (W3.setCell ⟨w.heap.size, 0, none⟩ (.slice ao5 (numsOf l).length cap5)).setCell ⟨w.heap.size + 1, 0, none⟩ (.bool true) := ⟨_, rfl⟩
    rw [← hW5]
    have hsame : ∀ k, k ≠ w.heap.size → k ≠ w.heap.size + 1 → W5.heap[k]? = W3.heap[k]? := fun k h1 h2 => by rw [hW5]; exact (Below.heap_setCell _ _ _ k h2).trans (Below.heap_setCell _ _ _ k h1)
    have hx2 : Boxed W5 w.heap.size 22 (.slice ao5 (numsOf l).length cap5) := by rw [hW5]; exact (HRR2.out.set _).other (by omega) _
    have hx3 : Boxed W5 (w.heap.size + 1) 4 (.bool true) := by rw [hW5]; exact (HRR3.out.other (by omega) _).set _
    have hgw : Grow W3 W5 := by rw [hW5]; exact ⟨rfl, rfl, rfl, by simp [World.setCell]⟩
    have hK5 : W5.heap[D]? = some (.deferred (some [])) := (hsame D (by omega) (by omega)).trans hK
    have hk2 : Boxed (W5.putObj D (.deferred none)) w.heap.size 22 (.slice ao5 (numsOf l).length cap5) := (put_other (by omega)).trans hx2
    have hk3 : Boxed (W5.putObj D (.deferred none)) (w.heap.size + 1) 4 (.bool true) := (put_other (by omega)).trans hx3
    have hcc2 := hk2.cell
    have hcc3 := hk3.cell
    refine ⟨by simp, .inl ⟨_, _, rfl, run_takeDeferred hK5, ?_⟩⟩
    refine ⟨.tuple #[.slice ao5 (numsOf l).length cap5, .bool true], by simp [results, Try.results23, go_sem, hcc2, hcc3], _, rfl, ?_, ?_⟩
    · refine OwnN.of HO.out (by omega) (fun k hk => ?_)
      have hbk := World.ownsRow.lt HO.out k hk
      exact (put_other (fun e => hnD (by rw [← e]; exact (HI.out k).2 hk))).trans (hsame k (by omega) (by omega))
    · have hg : Grow W3 (W5.putObj D (.deferred none)) := hgw.trans (put_grow _ _ _)
      have hO2 := HON.out
      have hw2 := HW.out
      refine ⟨hg.os.trans (hO2.grow.os.trans hw2.os), hg.tape.trans (hO2.grow.tape.trans hw2.tape), hg.output.trans (hO2.grow.output.trans hw2.output), by have := hg.size; have := hO2.grow.size; omega, fun k hk => ?_⟩
      rw [put_other (by omega), hsame k (by omega) (by omega), hO2.block k (by omega) (fun h => by omega) (fun h => h)]
      exact hw2.block k hk
  case stop => rintro D Φ c pre W3 hpre h; exact h.elim
end Go.Proofs.Ytioleibcekobeaa
