/-
  What the law's rows collects.
-/
import Derived.Test.YtioleibcekobeaaRow3
namespace Go.Proofs.Ytioleibcekobeaa
open Go.RowKit Go.Shelf
attribute [local go_sem] Oper.semAt_some
set_option linter.unusedVariables false

theorem info24 : (Try.prog.info? 24).map (fun i => (i.zero, i.size, i.bytes)) = some (some (.slice none 0 0), 1, 24) := by kernel_rfl

/-- A slice of slices that is owned from B on. -/
def OwnV (B : Nat) (v : Value) (us : List Value) (w : World) : Prop := w.ownsRow B 24 1 v us.length us

theorem enters_placedR : ∀ args w, (callFunc 44 args).run Try.prog w = .ok (.enter 44 args) w := enters_of Try.func44 (by kernel_rfl) rfl
theorem run_seq2R_nil (f : Fn) (lb : Array Value) (w : World) : (binOp .eql 55 (.func f #[] lb) .nilFunc).run Try.prog w = .ok (.bool false) w := by rfl
attribute [local go_sem] run_seq2R_nil

/-- Each of these slices owns its row, in blocks of Φ. -/
def RowsAt (us : List Value) (xs : List (List Nat)) (Φ : FP) (W : World) : Prop :=
  us.length = xs.length ∧ ∀ (i : Nat) (x : List Nat), xs[i]? = some x → ∃ ao cap, us[i]? = some (Value.slice ao x.length cap) ∧ OwnB 0 (.slice ao x.length cap) (Bs x) W ∧ ∀ k, (Value.slice ao x.length cap).ownBlock = some k → Φ k

theorem RowsAt.nil (Φ : FP) (W : World) : RowsAt [] [] Φ W := ⟨rfl, fun i x h => by simp at h⟩
theorem RowsAt.of {us : List Value} {xs : List (List Nat)} {Φ Φ' : FP} {W W' : World} (h : RowsAt us xs Φ W) (hΦ : ∀ k, Φ k → Φ' k) (hk : ∀ u l k, OwnB 0 u (Bs l) W → u.ownBlock = some k → Φ k → W'.heap[k]? = W.heap[k]?) : RowsAt us xs Φ' W' :=
  ⟨h.1, fun i x hi => by
    obtain ⟨ao, cap, h1, h2, h3⟩ := h.2 i x hi
    exact ⟨ao, cap, h1, h2.of (Nat.le_refl _) (fun k hk' => hk _ _ k h2 hk' (h3 k hk')), fun k hk' => hΦ k (h3 k hk')⟩⟩
theorem RowsAt.snoc {us : List Value} {xs : List (List Nat)} {Φ : FP} {W : World} (h : RowsAt us xs Φ W) {ao : Option Addr} {cap : Nat} {q : List Nat} (ho : OwnB 0 (.slice ao q.length cap) (Bs q) W) (hk : ∀ k, (Value.slice ao q.length cap).ownBlock = some k → Φ k) : RowsAt (us ++ [.slice ao q.length cap]) (xs ++ [q]) Φ W := by
  refine ⟨by simp [h.1], fun i x hi => ?_⟩
  by_cases hlt : i < xs.length
  · rw [List.getElem?_append_left hlt] at hi
    obtain ⟨ao', cap', h1, h2⟩ := h.2 i x hi
    exact ⟨ao', cap', by rw [List.getElem?_append_left (by rw [h.1]; exact hlt)]; exact h1, h2⟩
  · rw [List.getElem?_append_right (by omega)] at hi
    have hie : i = xs.length := by
      have := (List.getElem?_eq_some_iff.1 hi).1
      simp at this; omega
    subst hie
    simp at hi
    subst hi
    exact ⟨ao, cap, by rw [List.getElem?_append_right (by rw [h.1]; exact Nat.le_refl _)]; simp [h.1], ho, hk⟩
/-- A row's block is no row of slices. -/
theorem own_ne {S k : Nat} {u v : Value} {l us : List Value} {W : World} (h : OwnB 0 u l W) (hk : u.ownBlock = some k) (hv : OwnV S v us W) : v.ownBlock ≠ some k := by
  intro e
  rcases h.2 with ⟨rfl, _⟩ | ⟨g, cap, cur, rfl, _, hg, _⟩
  · cases hk
  · cases hk
    rcases hv.2 with ⟨rfl, _⟩ | ⟨g', cap', cur', rfl, _, hg', _⟩
    · cases e
    · cases e
      have := hg.symm.trans hg'
      simp at this

/-- What the loop has collected. -/
def CollRI (S b : Nat) (pre : List (List Nat × Nat)) (Φ : FP) (W : World) : Prop :=
  ∃ v us, Boxed W b 23 v ∧ OwnV S v us W ∧ RowsAt us (pre.map Prod.fst) Φ W ∧ (∀ k, v.ownBlock = some k → Φ k) ∧ (∀ k, Φ k → S ≤ k ∧ k < W.heap.size) ∧ S ≤ W.heap.size

theorem OwnV.of {S S' : Nat} {v : Value} {us : List Value} {w w' : World} (h : OwnV S v us w) (hS : S' ≤ S) (hk : ∀ k, v.ownBlock = some k → w'.heap[k]? = w.heap[k]?) : OwnV S' v us w' := by
  refine ⟨h.1, ?_⟩
  rcases h.2 with h | ⟨g, cap, cur, h1, h2, h3, h4⟩
  · exact .inl h
  · exact .inr ⟨g, cap, cur, h1, Nat.le_trans hS h2, (hk g (by rw [h1]; rfl)).trans h3, h4⟩
theorem OwnV.lenOf {S : Nat} {v : Value} {us : List Value} {w : World} (h : OwnV S v us w) : ∃ ao cap, v = .slice ao us.length cap := by
  rcases h.2 with ⟨rfl, h0⟩ | ⟨g, cap, cur, rfl, -⟩
  · exact ⟨none, 0, by rw [h0]⟩
  · exact ⟨_, cap, rfl⟩

theorem CollRI.stab {S b : Nat} (hb : b < S) : Stab S (CollRI S b) := by
  rintro pre Φ W ⟨v, us, hx, ho, hr, hv, hi, hs⟩
  exact ⟨hi, hs, fun W' hg hk => ⟨v, us, (hk b (.inl hb)).trans hx, ho.of (Nat.le_refl _) (fun k h => hk k (.inr (hv k h))), hr.of (fun _ h => h) (fun u l k _ _ h => hk k (.inr h)), hv, fun k h => ⟨(hi k h).1, Nat.lt_of_lt_of_le (hi k h).2 hg.size⟩, Nat.le_trans hs hg.size⟩⟩

theorem zip_atR {xs : List (List Nat)} {pre : List (List Nat × Nat)} {x : List Nat × Nat} (h : (pre ++ [x]) <+: xs.zipIdx) : x.2 = pre.length ∧ pre.length < xs.length := by
  obtain ⟨t, h⟩ := h
  have hl := congrArg List.length h
  simp at hl
  have hx : xs.zipIdx[pre.length]? = some x := by rw [← h]; simp
  rw [List.getElem?_zipIdx] at hx
  have hlt : pre.length < xs.length := by omega
  rw [List.getElem?_eq_getElem hlt] at hx
  simp at hx
  rw [← hx]
  exact ⟨by simp, hlt⟩

theorem rows_read {S : Nat} {v : Value} {us : List Value} {xs : List (List Nat)} {Φ : FP} {W : World} (ho : OwnV S v us W) (hr : RowsAt us xs Φ W) : RdBB W v xs := by
  have ho' := ho
  rcases ho.2 with ⟨rfl, h0⟩ | ⟨g, cap, cur, rfl, hg, hh, hc, -⟩
  · exact .inl ⟨rfl, List.length_eq_zero_iff.1 (by rw [← hr.1]; exact h0)⟩
  · refine .inr ⟨⟨g, 0, none⟩, cap, by rw [hr.1], by rw [← hr.1]; exact hc, fun i hi => ?_⟩
    obtain ⟨ao, c, h1, h2, -⟩ := hr.2 i xs[i] (by simp [hi])
    refine ⟨_, World.ownsRow.cells ho' rfl i _ h1, ?_⟩
    have e : xs.getD i [] = xs[i] := by simp [hi]
    rw [e]; exact h2.reads

/-- What comes back: all rows, in new memory. -/
def RowsGot (l : List Nat) (w : World) (e : Ending) (w' : World) : Prop :=
  ∃ v, e = .returned (.tuple #[v, .bool true]) ∧ RdBB w' v (rowsOf l) ∧ Below w.heap.size w w'

set_option maxHeartbeats 4000000 in
theorem law_rows (v : Value) (l : List Nat) (w : World) (h : RdB w v l) (hb : ∀ b ∈ l, b < 256) (hl : l.length < 1000000000) (hkl : (rowsOf l).length ≤ 10000) :
    Calls Try.prog 25 #[v] w (RowsGot l w) := by
  refine (callsIn_wide (n := 3)).1 ?_
  have HR := Lib.hid h
  have HB := Lib.hid hb
  have HL := Lib.hid hl
  have HK := Lib.hid hkl
  obtain ⟨ao, cap, rfl⟩ := h.lenOf
  clear h hb hl hkl
  refine callsIn_of_wp_marks Try.func25 rfl trivial ?_ rfl
  simp only [Try.ntmps25, List.size_toArray, List.length_cons, List.length_nil, Nat.reduceAdd, Nat.reduceSub, Array.replicate_succ, Array.replicate_zero, List.push_toArray, List.append_toArray, List.nil_append, List.cons_append]
  gi_wp2_with (first | (gi_at_call 27; refine (callsIn_wide.2 (compact_Rows _ l _ (HR.out.below (((Below.refl _ w).alloc (Nat.le_refl _) _).alloc (by simp) _)) HB.out (by have := HL.out; omega))).mono ?_; rintro e w1 ⟨c, rfl, hb1, hit⟩; have HB1 := Lib.hid hb1; have HIT := Lib.hid hit; clear hb1 hit) | (refine ⟨trivial, ?_⟩; gi_at_call 27; refine (callsIn_wide.2 (compact_Rows _ l _ (HR.out.below (((Below.refl _ w).alloc (Nat.le_refl _) _).alloc (by simp) _)) HB.out (by have := HL.out; omega))).mono ?_; rintro e w1 ⟨c, rfl, hb1, hit⟩; have HB1 := Lib.hid hb1; have HIT := Lib.hid hit; clear hb1 hit) | fail)
  obtain ⟨W2, hW2⟩ : ∃ W2, W2 = w1.alloc (.cells #[.slice none 0 0] 23) := ⟨_, rfl⟩
  rw [← hW2]
  have hz0 : ((w.alloc (.cells #[.slice none 0 0] 23)).alloc (.cells #[.bool false] 4)).heap.size = w.heap.size + 2 := by simp
  have hb1 := HB1.out
  have hit := HIT.out 0
  rw [hz0] at hb1 hit
  have hs1 : w.heap.size + 2 ≤ w1.heap.size := by have := hb1.size; rw [hz0] at this; exact this
  have hz2 : W2.heap.size = w1.heap.size + 1 := by rw [hW2]; simp
  have hB2 : Below w1.heap.size w1 W2 := by rw [hW2]; exact (Below.refl _ w1).alloc (Nat.le_refl _) _
  have hbo : Boxed W2 w1.heap.size 23 (.slice none 0 0) := by rw [hW2]; exact Boxed.new w1 _ _
  have hBw : Below w.heap.size w W2 := by
    refine (((Below.refl _ w).alloc (Nat.le_refl _) _).alloc (by simp) _).trans ((hb1.mono (by omega)).trans (hB2.mono (by omega)))
  have hr2 : Boxed W2 w.heap.size 23 (.slice none 0 0) := (hB2.block _ (by omega)).trans ((hb1.block _ (by omega)).trans ((Boxed.new w _ _).alloc _))
  have hr3 : Boxed W2 (w.heap.size + 1) 4 (.bool false) := by
    have := Boxed.new (w.alloc (.cells #[.slice none 0 0] 23)) 4 (.bool false)
    rw [World.size_alloc] at this
    exact (hB2.block _ (by omega)).trans ((hb1.block _ (by omega)).trans this)
  have HW := Lib.hid hBw
  have HR2 := Lib.hid hr2
  have HR3 := Lib.hid hr3
  clear hb1 hW2 hBw hr2 hr3
  refine range_outerR (n := 1) (gf := 44) (lb := #[.pointer (some ⟨c, 0, none⟩)]) rfl enters_placedR RowsHand.stab hit (Grow.of_below hB2) (fun k hk => ⟨hk.2, hB2.block k hk.2⟩) (by rintro x vs β W ⟨ao, cap, rfl, -⟩; rfl)
    (fun k => k = w1.heap.size) (by rintro k rfl; exact ⟨by omega, fun h => by omega⟩) (CollRI W2.heap.size w1.heap.size) (fun _ _ _ _ => False) (CollRI.stab (by omega)) (fun _ _ _ _ h => h.elim)
    ⟨_, [], hbo, ⟨rfl, .inl ⟨rfl, rfl⟩⟩, RowsAt.nil _ _, (fun k h => by cases h), (fun k h => h.elim), Nat.le_refl _⟩ (fun vs => { tmps := #[.slice ao l.length cap, undef, .pointer (some ⟨w.heap.size, 0, none⟩), .pointer (some ⟨w.heap.size + 1, 0, none⟩), .func (.func 44) #[] #[.pointer (some ⟨c, 0, none⟩)], .pointer (some ⟨w1.heap.size, 0, none⟩), vs.getD 0 undef, vs.getD 1 undef, .slice ao l.length cap, .func (.func 44) #[] #[.pointer (some ⟨c, 0, none⟩)], .func (.func 44) #[] #[.pointer (some ⟨c, 0, none⟩)], .bool false, .func (.func 44) #[] #[.pointer (some ⟨c, 0, none⟩)], vs.getD 0 undef, vs.getD 1 undef, undef, undef, undef, undef, undef, undef, undef, undef, undef, undef, undef, undef, undef], defers := [] }) ?assign ?body ?done ?stop
  case assign =>
    rintro l x vs β W0 W K ⟨ao, cap, rfl, -⟩ hK
    gi_wp2
    exact hK
  case body =>
    rintro lp pre ⟨q, i⟩ vs β Φ W hpx ⟨v, us, hbx, ho, hrs, hvΦ, hi, hsz⟩ ⟨aor, capr, rfl, hor, hib⟩ hβ hl hΦl -
    obtain ⟨hxi, hxl⟩ := zip_atR hpx
    simp only at hxi
    subst hxi
    have hlen : pre.length ≤ 10000 := by have := HK.out; omega
    have d1 : decide ((10000 : Int) < (pre.length : Int)) = false := by simp; omega
    have hul : us.length = pre.length := by rw [hrs.1]; simp
    obtain ⟨ao5, cap5, hv⟩ := ho.lenOf
    rw [hul] at hv
    subst hv
    have hc5 := hbx.cell
    simp only at hor hib
    have HBX := Lib.hid hbx
    have HO := Lib.hid ho
    have HI := Lib.hid hi
    have HRS := Lib.hid hrs
    have HVP := Lib.hid hvΦ
    have HOR := Lib.hid hor
    have HIB := Lib.hid hib
    have HBE := Lib.hid hβ
    have HOL : Hid (W.ownsRow W2.heap.size 24 1 (.slice ao5 pre.length cap5) pre.length us) := Lib.hid (by have := ho; unfold OwnV at this; rwa [hul] at this)
    have HUL := Lib.hid hul
    obtain ⟨i0, hi0, hz0', hz1', hz2'⟩ := info_parts info24
    clear hbx ho hi hpx hrs hvΦ hor hib hβ hul
    gi_wp2_with (first | (gi_at_builtin; refine wpListIn_append_own_at _ rfl _ _ 23 rfl W2.heap.size 24 i0 (.slice none 0 0) 1 24 Try.underlying23 hi0 hz0' hz1' hz2' rfl (by decide) (.slice ao5 pre.length cap5) _ _ rfl (World.ownsRow.alloc HOL.out _) ⟨W.heap.size, 0, none⟩ 1 1 [.slice aor q.length capr] rfl rfl (cell_one_new _ _ _) (by simp [Value.oneCell']) (by unfold maxLen; omega) (by omega) (by simp; omega) ?_; intro v' w3 hown' hg3 hnil3 hat3; simp only [World.size_alloc] at hat3; have hO' : OwnV W2.heap.size v' (us ++ [.slice aor q.length capr]) w3 := (by unfold OwnV; rw [List.length_append, HUL.out]; exact hown'); obtain ⟨ao6, cap6, hv6⟩ := hO'.lenOf; rw [List.length_append, HUL.out, List.length_singleton] at hv6; subst hv6; have hB3 := (HBX.out.alloc (.cells #[.slice aor q.length capr] 24)).kept hg3 (HBX.out.not_row (by decide) HO.out); have hc6 := hB3.cell; have hf6 := hB3.frozen; have HO6 := Lib.hid hO'; have HB6 := Lib.hid hB3; have HG6 := Lib.hid hg3; have HA6 := Lib.hid hat3; clear hown' hnil3 hO' hB3 hg3 hat3) | fail)
    obtain ⟨W4, hW4⟩ : ∃ W4, W4 = w3.setCell ⟨w1.heap.size, 0, none⟩ (.slice ao6 (pre.length + 1) cap6) := ⟨_, rfl⟩
    rw [← hW4]
    have hg3 := HG6.out
    have hgs : w3.grownBy W4 (some w1.heap.size) := by rw [hW4]; exact grownBy_setCell' _ _ _
    have hne : some w1.heap.size ≠ (Value.slice ao6 (pre.length + 1) cap6).ownBlock := HB6.out.not_row (by decide) HO6.out
    have hsz3 : W.heap.size + 1 ≤ w3.heap.size := by have := hg3.size; simpa using this
    have same : ∀ k, k < W.heap.size → k ≠ w1.heap.size → (Value.slice ao5 pre.length cap5).ownBlock ≠ some k → W4.heap[k]? = W.heap[k]? := fun k hk h1 h2 => by
      rw [hgs.block k (by omega) (fun e => h1 (by injection e)), hg3.block k (by simp; omega) (fun e => h2 e.symm)]
      exact Below.heap_alloc _ _ _ hk
    have hrow : ∀ u l k, OwnB 0 u (Bs l) W → u.ownBlock = some k → W2.heap.size ≤ k → W4.heap[k]? = W.heap[k]? := fun u l k hu hk hS => same k (World.ownsRow.lt hu k hk).2 (by omega) (own_ne hu hk HO.out)
    have hbS : ∀ k, β k → W2.heap.size ≤ k := fun k hk => by have := (HBE.out k hk).1; omega
    have hmapR : (pre ++ [(q, pre.length)]).map Prod.fst = pre.map Prod.fst ++ [q] := by simp
    refine ⟨fun k => (Φ k ∨ β k) ∨ (Value.slice ao6 (pre.length + 1) cap6).ownBlock = some k, fun k hk => ?_, ⟨⟨?_, ?_, ?_, ?_⟩, fun k hk h1 h2 => ?_⟩, _, us ++ [.slice aor q.length capr], by rw [hW4]; exact HB6.out.set _, OwnV.of HO6.out (Nat.le_refl _) (fun k hk => hgs.block k (World.ownsRow.lt HO6.out k hk).2 (fun e => hne (by rw [← e]; exact hk.symm))), ?_, fun k hk => .inr hk, fun k hk => ?_, by have := hgs.size; omega⟩
    · rcases hk with hk | hk
      · exact .inl hk
      rw [hk] at HA6
      rcases HA6.out with h | h
      · exact .inl (.inl (HVP.out k h.symm))
      · injection h with h; exact .inr (by omega)
    · rw [hgs.os, hg3.os]; rfl
    · rw [hgs.tape, hg3.tape]; rfl
    · rw [hgs.output, hg3.output]; rfl
    · have := hgs.size; omega
    · exact same k hk h1 (fun e => h2 (.inl (HVP.out k e)))
    · rw [hmapR]
      refine (HRS.out.of (fun k h => .inl (.inl h)) (fun u l k hu hk h => hrow u l k hu hk (HI.out k h).1)).snoc (HOR.out.of (Nat.le_refl _) (fun k hk => hrow _ q k HOR.out hk (hbS k ((HIB.out k).2 hk)))) (fun k hk => .inl (.inr ((HIB.out k).2 hk)))
    · rcases hk with (hk | hk) | hk
      · have := HI.out k hk; have := hgs.size; omega
      · have := hbS k hk; have := (World.ownsRow.lt HOR.out k ((HIB.out k).1 hk)).2; have := hgs.size; omega
      · have := World.ownsRow.lt HO6.out k hk; have := hgs.size; omega
  case done =>
    rintro D Φ W3 ⟨v, us, hbx, ho, hrs, hvΦ, hi, hsz⟩ hon hD hnD hK
    obtain ⟨ao5, cap5, hv⟩ := ho.lenOf
    have hmap : (rowsOf l).zipIdx.map Prod.fst = rowsOf l := by simp
    rw [hmap] at hrs
    have hul : us.length = (rowsOf l).length := hrs.1
    rw [hul] at hv
    have HRS := Lib.hid hrs
    have HVP := Lib.hid hvΦ
    clear hrs hvΦ
    subst hv
    have hr2 : Boxed W3 w.heap.size 23 (.slice none 0 0) := (hon.block _ (by omega) (fun h => by omega) (fun h => h)).trans HR2.out
    have hr3 : Boxed W3 (w.heap.size + 1) 4 (.bool false) := (hon.block _ (by omega) (fun h => by omega) (fun h => h)).trans HR3.out
    have hc5 := hbx.cell
    have hc2 := hr2.cell
    have hf2 := hr2.frozen
    have hc3 := (hr3.other (show w.heap.size + 1 ≠ w.heap.size by omega) (.slice ao5 (rowsOf l).length cap5)).cell
    have hf3 := (hr3.other (show w.heap.size + 1 ≠ w.heap.size by omega) (.slice ao5 (rowsOf l).length cap5)).frozen
    have HBX := Lib.hid hbx
    have HO := Lib.hid ho
    have HI := Lib.hid hi
    have HON := Lib.hid hon
    have HRR2 := Lib.hid hr2
    have HRR3 := Lib.hid hr3
    clear hbx ho hi hon hr2 hr3
    gi_wp2
    obtain ⟨W5, hW5⟩ : ∃ W5, W5 = (W3.setCell ⟨w.heap.size, 0, none⟩ (.slice ao5 (rowsOf l).length cap5)).setCell ⟨w.heap.size + 1, 0, none⟩ (.bool true) := ⟨_, rfl⟩
    rw [← hW5]
    have hsame : ∀ k, k ≠ w.heap.size → k ≠ w.heap.size + 1 → W5.heap[k]? = W3.heap[k]? := fun k h1 h2 => by rw [hW5]; exact (Below.heap_setCell _ _ _ k h2).trans (Below.heap_setCell _ _ _ k h1)
    have hx2 : Boxed W5 w.heap.size 23 (.slice ao5 (rowsOf l).length cap5) := by rw [hW5]; exact (HRR2.out.set _).other (by omega) _
    have hx3 : Boxed W5 (w.heap.size + 1) 4 (.bool true) := by rw [hW5]; exact (HRR3.out.other (by omega) _).set _
    have hgw : Grow W3 W5 := by rw [hW5]; exact ⟨rfl, rfl, rfl, by simp [World.setCell]⟩
    have hK5 : W5.heap[D]? = some (.deferred (some [])) := (hsame D (by omega) (by omega)).trans hK
    have hk2 : Boxed (W5.putObj D (.deferred none)) w.heap.size 23 (.slice ao5 (rowsOf l).length cap5) := (put_other (by omega)).trans hx2
    have hk3 : Boxed (W5.putObj D (.deferred none)) (w.heap.size + 1) 4 (.bool true) := (put_other (by omega)).trans hx3
    have hcc2 := hk2.cell
    have hcc3 := hk3.cell
    refine ⟨by simp, .inl ⟨_, _, rfl, run_takeDeferred hK5, ?_⟩⟩
    refine ⟨.tuple #[.slice ao5 (rowsOf l).length cap5, .bool true], by simp [results, Try.results25, go_sem, hcc2, hcc3], _, rfl, ?_, ?_⟩
    · have keep : ∀ k, Φ k → (W5.putObj D (.deferred none)).heap[k]? = W3.heap[k]? := fun k hk => by
        have hbk := HI.out k hk
        exact (put_other (fun e => hnD (by rw [← e]; exact hk))).trans (hsame k (by omega) (by omega))
      exact rows_read (HO.out.of (Nat.le_refl _) (fun k hk => keep k (HVP.out k hk))) (HRS.out.of (fun _ h => h) (fun u l k _ _ h => keep k h))
    · have hg : Grow W3 (W5.putObj D (.deferred none)) := hgw.trans (put_grow _ _ _)
      have hO2 := HON.out
      have hw2 := HW.out
      refine ⟨hg.os.trans (hO2.grow.os.trans hw2.os), hg.tape.trans (hO2.grow.tape.trans hw2.tape), hg.output.trans (hO2.grow.output.trans hw2.output), by have := hg.size; have := hO2.grow.size; omega, fun k hk => ?_⟩
      rw [put_other (by omega), hsame k (by omega) (by omega), hO2.block k (by omega) (fun h => by omega) (fun h => h)]
      exact hw2.block k hk
  case stop => rintro D Φ c pre W3 hpre h; exact h.elim
end Go.Proofs.Ytioleibcekobeaa
