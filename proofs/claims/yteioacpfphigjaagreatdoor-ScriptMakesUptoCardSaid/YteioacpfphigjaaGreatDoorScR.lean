/-
  What the script's law collects: copies of all rows.
-/
import Derived.Test.YteioacpfphigjaaGreatDoorMgj
namespace Go.Proofs.YteioacpfphigjaaGreatDoor
open Go.RowKit Go.Maps Go.Shelf
set_option linter.unusedVariables false
set_option linter.unusedSimpArgs false

def appB1 (args : Array Value) : Sem Value := Builtin.append_ #[50, 50] 50 args
theorem appB1_hide (args : Array Value) : Builtin.append_ #[50, 50] 50 args = appB1 args := rfl
def appB2 (args : Array Value) : Sem Value := Builtin.append_ #[51, 51] 51 args
theorem appB2_hide (args : Array Value) : Builtin.append_ #[51, 51] 51 args = appB2 args := rfl
theorem run_none5 (w : World) : (Instr.buildSlice 50 0 #[]).run Tryz.prog w = .ok (.slice (some ⟨w.heap.size, 0, none⟩) 0 0) (w.alloc (.cells #[] 5)) := by
  obtain ⟨i0, hi, hz0, hz1, hz2⟩ := info_parts info5
  simp [Instr.buildSlice, run_underlying (show Tryz.prog.underlying 50 = some (.slice 5) from Tryz.underlying50), sizeOf, typeInfo, hi, newRow, Instr.fill, hz0, hz1]
  have e : ∀ f : Nat → Value, Array.map f (Array.range 0) = #[] := fun f => Array.eq_empty_of_size_eq_zero (by simp)
  rw [e]
theorem rowsF_each : ∀ (k : Nat) (l : List Nat), ∀ q ∈ rowsF k l, q.length ≤ l.length
  | 0, l => by simp [rowsF]
  | k + 1, l => by
    simp only [rowsF]
    cases h : cutL l with
    | none => simp
    | some x =>
      obtain ⟨n, s⟩ := x
      have h2 := rowsF_each k (l.drop s)
      rw [List.length_drop] at h2
      intro q hq
      rcases List.mem_cons.1 hq with rfl | hq
      · unfold cutL at h
        split at h
        · cases h
        · split at h
          · cases h
          · injection h with h
            injection h with h3 h4
            rw [← h3]; simp; omega
      · exact Nat.le_trans (h2 q hq) (by omega)
/-- A row's copy, behind a row of nothing. -/
theorem copy_row {q : List Nat} {aor : Option Addr} {capr : Nat} {W : World} (h : OwnB 0 (.slice aor q.length capr) (BsM q) W) (hq : q.length ≤ 1000000000) {b : Nat} (hb : W.heap[b]? = some (.cells #[] 5 (0, 0))) :
    ∃ ao' cap' wA, (appB1 #[.slice (some ⟨b, 0, none⟩) 0 0, .slice aor q.length capr]).run Tryz.prog W = .ok (.slice ao' q.length cap') wA ∧ OwnB b (.slice ao' q.length cap') (BsM q) wA ∧ W.grownBy wA (some b) ∧ ((Value.slice ao' q.length cap').ownBlock = some b ∨ (Value.slice ao' q.length cap').ownBlock = some W.heap.size) := by
  have hbl : b < W.heap.size := (Array.getElem?_eq_some_iff.1 hb).1
  have hown : W.ownsRow b 5 1 (.slice (some ⟨b, 0, none⟩) 0 0) 0 [] := ⟨rfl, .inr ⟨b, 0, #[], rfl, Nat.le_refl _, hb, Nat.le_refl _, by unfold maxLen; omega, rfl, rfl⟩⟩
  obtain ⟨i0, hi, hz0, hz1, hz2⟩ := info_parts info5
  have hlb : (BsM q).length = q.length := by simp [BsM]
  rcases h.2 with ⟨e, h0⟩ | ⟨g, cap, cur, e, -, hg, hc, hm, hsz, htk⟩
  · simp only [Value.slice.injEq] at e
    obtain ⟨rfl, h1, rfl⟩ := e
    have hq0 : q = [] := List.length_eq_zero_iff.1 h1
    subst hq0
    exact ⟨_, _, W, run_append_owned_none (P := Tryz.prog) (w := W) b 50 50 5 i0 1 Tryz.underlying50 hi _ _ _ hown, hown, ⟨rfl, rfl, rfl, Nat.le_refl _, fun _ _ _ => rfl⟩, .inl rfl⟩
  · simp only [Value.slice.injEq] at e
    obtain ⟨rfl, h1, rfl⟩ := e
    obtain ⟨v', w', e1, e2, e3, -, e5⟩ := run_append_own_at (P := Tryz.prog) (w := W) b 50 50 5 i0 (.int .u8 0) 1 1 Tryz.underlying50 hi hz0 hz1 hz2 rfl (by decide) _ _ _ hown ⟨g, 0, none⟩ q.length capr (BsM q) (by rw [hlb]; omega) (fun j u hj => World.ownsRow.cells h rfl j u hj) (Bs_one q) (by unfold maxLen; omega) (by omega) (Nat.le_of_lt hbl)
    rw [Nat.zero_add, List.nil_append] at e2
    have ho : OwnB b v' (BsM q) w' := by unfold OwnB; rw [hlb]; exact e2
    obtain ⟨ao', cap', rfl⟩ : ∃ ao' cap', v' = .slice ao' q.length cap' := by
      rcases e2.2 with ⟨rfl, h0⟩ | ⟨g, cap, cur, rfl, -⟩
      · exact ⟨none, 0, by rw [h0]⟩
      · exact ⟨_, cap, rfl⟩
    exact ⟨ao', cap', w', e1, ho, e3, e5⟩
/-- A round: a copy is put behind what is collected. -/
theorem coll_round {S b : Nat} (hb : b < S) {pre : List (List Nat × Nat)} {Φ β : FP} {W : World} {q : List Nat} {aor : Option Addr} {capr : Nat} (h : CollRI S b pre Φ W) (hrow : OwnB 0 (.slice aor q.length capr) (BsM q) W) (hq : q.length ≤ 1000000000) (hlen : pre.length ≤ 10000) (i : Nat) :
    ∃ ao5 cap5 ao' cap' wA ao2 cap2 wB,
      W.drew.cell? ⟨b, 0, none⟩ = some (.slice ao5 pre.length cap5) ∧ (W.drew.alloc (.cells #[] 5)).cell? ⟨b, 0, none⟩ = some (.slice ao5 pre.length cap5) ∧
      (appB1 #[.slice (some ⟨W.heap.size, 0, none⟩) 0 0, .slice aor q.length capr]).run Tryz.prog (W.drew.alloc (.cells #[] 5)) = .ok (.slice ao' q.length cap') wA ∧
      wA.cell? ⟨b, 0, none⟩ = some (.slice ao5 pre.length cap5) ∧ (wA.alloc (.cells #[.slice ao' q.length cap'] 50)).cell? ⟨b, 0, none⟩ = some (.slice ao5 pre.length cap5) ∧
      (appB2 #[.slice ao5 pre.length cap5, .slice (some ⟨wA.heap.size, 0, none⟩) 1 1]).run Tryz.prog (wA.alloc (.cells #[.slice ao' q.length cap'] 50)) = .ok (.slice ao2 (pre.length + 1) cap2) wB ∧
      wB.cell? ⟨b, 0, none⟩ = some (.slice ao5 pre.length cap5) ∧ wB.frozen? ⟨b, 0, none⟩ = false ∧
      Leaves (fun k => k = b) (fun k => Φ k ∨ β k) W (fun Φ' W' => CollRI S b (pre ++ [(q, i)]) Φ' W') (wB.setCell ⟨b, 0, none⟩ (.slice ao2 (pre.length + 1) cap2)) := by
  obtain ⟨v, us, hbx, ho, hrs, hvΦ, hi, hsz⟩ := h
  have hul : us.length = pre.length := by rw [hrs.1]; simp
  obtain ⟨ao5, cap5, hv⟩ := ho.lenOf
  rw [hul] at hv
  have hvb : ∀ k, v.ownBlock = some k → S ≤ k ∧ k < W.heap.size := fun k e => hi k (hvΦ k e)
  obtain ⟨W1, hW1⟩ : ∃ W1, W1 = W.drew.alloc (.cells #[] 5) := ⟨_, rfl⟩
  have hs1 : W1.heap.size = W.heap.size + 1 := by rw [hW1]; exact World.size_alloc _ _
  have k1 : ∀ k, k < W.heap.size → W1.heap[k]? = W.heap[k]? := fun k hk => by rw [hW1]; exact Below.heap_alloc W.drew _ _ hk
  have hn1 : W1.heap[W.heap.size]? = some (.cells #[] 5 (0, 0)) := by rw [hW1]; exact World.alloc_heap_new W.drew _
  have hrow1 : OwnB 0 (.slice aor q.length capr) (BsM q) W1 := hrow.of (Nat.le_refl _) (fun k hk => k1 k (World.ownsRow.lt hrow k hk).2)
  obtain ⟨ao', cap', wA, hrun1, hA, hgA, hatA⟩ := copy_row hrow1 hq hn1
  have hsA : W.heap.size + 1 ≤ wA.heap.size := by have := hgA.size; omega
  have kA : ∀ k, k < W.heap.size → wA.heap[k]? = W.heap[k]? := fun k hk => by
    rw [hgA.block k (by omega) (fun e => by injection e with e; omega)]; exact k1 k hk
  obtain ⟨W2, hW2⟩ : ∃ W2, W2 = wA.alloc (.cells #[.slice ao' q.length cap'] 50) := ⟨_, rfl⟩
  have hs2 : W2.heap.size = wA.heap.size + 1 := by rw [hW2]; exact World.size_alloc _ _
  have k2 : ∀ k, k < wA.heap.size → W2.heap[k]? = wA.heap[k]? := fun k hk => by rw [hW2]; exact Below.heap_alloc _ _ _ hk
  have ho2 : OwnV S v us W2 := ho.of (Nat.le_refl _) (fun k hk => (k2 k (by have := (hvb k hk).2; omega)).trans (kA k (hvb k hk).2))
  obtain ⟨i0, hi0, hz0, hz1, hz2⟩ := info_parts info24
  obtain ⟨v2, wB, hrun2, ow2, hgB, -, hat2⟩ := run_append_own_at (P := Tryz.prog) (w := W2) S 51 51 50 i0 (.slice none 0 0) 1 24 Tryz.underlying51 hi0 hz0 hz1 hz2 rfl (by decide) v us.length us ho2 ⟨wA.heap.size, 0, none⟩ 1 1 [.slice ao' q.length cap'] rfl
    (fun j u hj => by rw [hW2]; exact cell_one_new _ _ _ j u hj) (by simp [Value.oneCell']) (by unfold maxLen; omega) (by omega) (by omega)
  have hoB : OwnV S v2 (us ++ [.slice ao' q.length cap']) wB := by unfold OwnV; rw [List.length_append]; exact ow2
  obtain ⟨ao2, cap2, hv2⟩ := hoB.lenOf
  rw [List.length_append, hul, List.length_singleton] at hv2
  have hsB : wA.heap.size + 1 ≤ wB.heap.size := by have := hgB.size; omega
  have kB : ∀ k, k < wA.heap.size → v.ownBlock ≠ some k → wB.heap[k]? = wA.heap[k]? := fun k hk hne => by
    rw [hgB.block k (by omega) (fun e => hne e.symm)]; exact k2 k hk
  have hvn : v.ownBlock ≠ some b := fun e => by have := (hvb b e).1; omega
  have hbl : b < W.heap.size := hbx.lt
  have xB : Boxed wB b 51 v := (kB b (by omega) hvn).trans ((kA b hbl).trans hbx)
  have hcA : ∀ k, (Value.slice ao' q.length cap').ownBlock = some k → W.heap.size ≤ k ∧ k < wA.heap.size := fun k hk => World.ownsRow.lt hA k hk
  have h2B : ∀ k, v2.ownBlock = some k → S ≤ k ∧ k < wB.heap.size := fun k hk => World.ownsRow.lt hoB k hk
  subst hv
  subst hv2
  refine ⟨ao5, cap5, ao', cap', wA, ao2, cap2, wB, hbx.cell, ?_, ?_, ?_, ?_, ?_, xB.cell, xB.frozen, ?_⟩
  · rw [← hW1]; exact Boxed.cell (t := 51) ((k1 b hbl).trans hbx)
  · rw [← hW1]; exact hrun1
  · exact Boxed.cell (t := 51) ((kA b hbl).trans hbx)
  · rw [← hW2]; exact Boxed.cell (t := 51) ((k2 b (by omega)).trans ((kA b hbl).trans hbx))
  · rw [← hW2]; exact hrun2
  obtain ⟨W4, hW4⟩ : ∃ W4, W4 = wB.setCell ⟨b, 0, none⟩ (.slice ao2 (pre.length + 1) cap2) := ⟨_, rfl⟩
  rw [← hW4]
  have k4 : ∀ k, k ≠ b → W4.heap[k]? = wB.heap[k]? := fun k hk => by rw [hW4]; exact Below.heap_setCell _ _ _ k hk
  have hs4 : W4.heap.size = wB.heap.size := by rw [hW4]; simp [World.setCell]
  have same : ∀ k, k < W.heap.size → k ≠ b → (Value.slice ao5 pre.length cap5).ownBlock ≠ some k → W4.heap[k]? = W.heap[k]? := fun k hk h1 h2 => (k4 k h1).trans ((kB k (by omega) h2).trans (kA k hk))
  refine ⟨fun k => Φ k ∨ (Value.slice ao' q.length cap').ownBlock = some k ∨ (Value.slice ao2 (pre.length + 1) cap2).ownBlock = some k, fun k hk => ?_, ⟨⟨?_, ?_, ?_, by omega⟩, fun k hk h1 h2 => same k hk h1 (fun e => h2 (.inl (hvΦ k e)))⟩, _, us ++ [.slice ao' q.length cap'], by rw [hW4]; exact xB.set _, hoB.of (Nat.le_refl _) (fun k hk => k4 k (by have := (h2B k hk).1; omega)), ?_, fun k hk => .inr (.inr hk), fun k hk => ?_, by omega⟩
  · rcases hk with hk | hk | hk
    · exact .inl (.inl hk)
    · exact .inr (hcA k hk).1
    · rw [hk] at hat2
      rcases hat2 with h | h
      · exact .inl (.inl (hvΦ k h.symm))
      · injection h with h; exact .inr (by omega)
  · rw [hW4]; exact hgB.os.trans ((by rw [hW2]; exact hgA.os.trans (by rw [hW1]; rfl)))
  · rw [hW4]; exact hgB.tape.trans ((by rw [hW2]; exact hgA.tape.trans (by rw [hW1]; rfl)))
  · rw [hW4]; exact hgB.output.trans ((by rw [hW2]; exact hgA.output.trans (by rw [hW1]; rfl)))
  · have hmapR : (pre ++ [(q, i)]).map Prod.fst = pre.map Prod.fst ++ [q] := by simp
    rw [hmapR]
    refine (hrs.of (fun k h => .inl h) (fun u l k hu hk h => same k (hi k h).2 (by have := (hi k h).1; omega) (own_ne hu hk ho))).snoc (hA.of (Nat.zero_le _) (fun k hk => (k4 k (by have := (hcA k hk).1; omega)).trans (kB k (hcA k hk).2 (fun e => by have := (hvb k e).2; have := (hcA k hk).1; omega)))) (fun k hk => .inr (.inl hk))
  · rcases hk with hk | hk | hk
    · have := hi k hk; omega
    · have := hcA k hk; omega
    · have := h2B k hk; omega
/-- All orders of a region that ends a round meet. -/
theorem regionF_meetB {F : Fence} {n : Nat} {P : Program} {c : Code} {Q : Exit → Act → World → Prop} {a : Act} {w : World} {R : Act → World → Prop} (h : c.wpIn F n P (Exit.then R (fun _ _ _ => False)) a w) (hK : ∀ a w, R a w → Q .normal a w) : c.wpIn F n P Q a w :=
  wpIn_mono h (fun e a w hq => by cases e <;> first | exact hK _ _ hq | exact hq.elim)
set_option maxHeartbeats 4000000 in
set_option maxRecDepth 100000 in
attribute [local go_sem] Oper.semAt_some run_seq2R_nil run_none5 in
attribute [local go_sem ↓] appB1_hide appB2_hide in
theorem law15_rows (v : Value) (l : List Nat) (w : World) (h : RdB w v l) (hb : ∀ b ∈ l, b < 256) (hl : l.length ≤ 10000) :
    Calls Tryz.prog 18 #[v] w (RowsGot l w) := by
  refine (callsIn_wide (n := 3)).1 ?_
  have HR := Lib.hid h
  have HB := Lib.hid hb
  have HL := Lib.hid hl
  have HK := Lib.hid (Nat.le_trans (rowsOf_le l) hl)
  obtain ⟨ao, cap, rfl⟩ := h.lenOf
  clear h hb hl
  refine callsIn_of_wp_marks Tryz.func18 rfl trivial ?_ rfl
  simp only [Tryz.ntmps18, List.size_toArray, List.length_cons, List.length_nil, Nat.reduceAdd, Nat.reduceSub, Array.replicate_succ, Array.replicate_zero, List.push_toArray, List.append_toArray, List.nil_append, List.cons_append]
  gi_wp2_with (first | (gi_at_call 22; refine (callsIn_wide.2 (script_Rows _ l _ (HR.out.below (((Below.refl _ w).alloc (Nat.le_refl _) _).alloc (by simp) _)) HB.out (by have := HL.out; omega))).mono ?_; rintro e w1 ⟨c, rfl, hb1, hit⟩; have HB1 := Lib.hid hb1; have HIT := Lib.hid hit; clear hb1 hit) | (refine ⟨trivial, ?_⟩; gi_at_call 22; refine (callsIn_wide.2 (script_Rows _ l _ (HR.out.below (((Below.refl _ w).alloc (Nat.le_refl _) _).alloc (by simp) _)) HB.out (by have := HL.out; omega))).mono ?_; rintro e w1 ⟨c, rfl, hb1, hit⟩; have HB1 := Lib.hid hb1; have HIT := Lib.hid hit; clear hb1 hit) | fail)
  obtain ⟨W2, hW2⟩ : ∃ W2, W2 = w1.alloc (.cells #[.slice none 0 0] 51) := ⟨_, rfl⟩
  rw [← hW2]
  have hz0 : ((w.alloc (.cells #[.slice none 0 0] 51)).alloc (.cells #[.bool false] 4)).heap.size = w.heap.size + 2 := by simp
  have hb1 := HB1.out
  have hit := HIT.out 0
  rw [hz0] at hb1 hit
  have hs1 : w.heap.size + 2 ≤ w1.heap.size := by have := hb1.size; rw [hz0] at this; exact this
  have hz2 : W2.heap.size = w1.heap.size + 1 := by rw [hW2]; simp
  have hB2 : Below w1.heap.size w1 W2 := by rw [hW2]; exact (Below.refl _ w1).alloc (Nat.le_refl _) _
  have hbo : Boxed W2 w1.heap.size 51 (.slice none 0 0) := by rw [hW2]; exact Boxed.new w1 _ _
  have hBw : Below w.heap.size w W2 := by
    refine (((Below.refl _ w).alloc (Nat.le_refl _) _).alloc (by simp) _).trans ((hb1.mono (by omega)).trans (hB2.mono (by omega)))
  have hr2 : Boxed W2 w.heap.size 51 (.slice none 0 0) := (hB2.block _ (by omega)).trans ((hb1.block _ (by omega)).trans ((Boxed.new w _ _).alloc _))
  have hr3 : Boxed W2 (w.heap.size + 1) 4 (.bool false) := by
    have := Boxed.new (w.alloc (.cells #[.slice none 0 0] 51)) 4 (.bool false)
    rw [World.size_alloc] at this
    exact (hB2.block _ (by omega)).trans ((hb1.block _ (by omega)).trans this)
  have HW := Lib.hid hBw
  have HR2 := Lib.hid hr2
  have HR3 := Lib.hid hr3
  clear hb1 hW2 hBw hr2 hr3
  refine range_outerR (n := 1) (gf := 187) (lb := #[.pointer (some ⟨c, 0, none⟩)]) rfl enters_placedR RowsHand.stab hit (Grow.of_below hB2) (fun k hk => ⟨hk.2, hB2.block k hk.2⟩) (by rintro x vs β W ⟨ao, cap, rfl, -⟩; rfl)
    (fun k => k = w1.heap.size) (by rintro k rfl; exact ⟨by omega, fun h => by omega⟩) (CollRI W2.heap.size w1.heap.size) (fun _ _ _ _ => False) (CollRI.stab (by omega)) (fun _ _ _ _ h => h.elim)
    ⟨_, [], hbo, ⟨rfl, .inl ⟨rfl, rfl⟩⟩, RowsAt.nil _ _, (fun k h => by cases h), (fun k h => h.elim), Nat.le_refl _⟩ (fun vs => { tmps := #[.slice ao l.length cap, undef, .pointer (some ⟨w.heap.size, 0, none⟩), .pointer (some ⟨w.heap.size + 1, 0, none⟩), .func (.func 187) #[] #[.pointer (some ⟨c, 0, none⟩)], .pointer (some ⟨w1.heap.size, 0, none⟩), vs.getD 0 undef, vs.getD 1 undef, .slice ao l.length cap, .func (.func 187) #[] #[.pointer (some ⟨c, 0, none⟩)], .func (.func 187) #[] #[.pointer (some ⟨c, 0, none⟩)], .bool false, .func (.func 187) #[] #[.pointer (some ⟨c, 0, none⟩)], vs.getD 0 undef, vs.getD 1 undef, undef, undef, undef, undef, undef, undef, undef, undef, undef, undef, undef, undef, undef, undef, undef], defers := [] }) ?assign ?body ?done ?stop
  case assign =>
    rintro l x vs β W0 W K ⟨ao, cap, rfl, -⟩ hK
    gi_wp2
    exact hK
  case body =>
    rintro lp pre ⟨q, i⟩ vs β Φ W hpx hI ⟨aor, capr, rfl, hor, hib⟩ hβ hl hΦl -
    obtain ⟨hxi, hxl⟩ := zip_atR hpx
    simp only at hxi
    subst hxi
    have hqm : q ∈ rowsOf l := by
      obtain ⟨t, ht⟩ := hpx
      have : (q, pre.length) ∈ (rowsOf l).zipIdx := by rw [← ht]; simp
      have h2 := List.mem_map_of_mem (f := Prod.fst) this
      simpa using h2
    have hql : q.length ≤ 1000000000 := by have := rowsF_each _ l q hqm; have := HL.out; omega
    have hlen : pre.length ≤ 10000 := by have := HK.out; omega
    have d1 : decide ((10000 : Int) < (pre.length : Int)) = false := by simp; omega
    obtain ⟨ao5, cap5, ao', cap', wA, ao2, cap2, wB, c5, c5', hrun1, c5A, c5A', hrun2, c5B, f5, hlv⟩ := coll_round (β := β) (show w1.heap.size < W2.heap.size by omega) hI hor hql hlen pre.length
    have c5w : W.cell? ⟨w1.heap.size, 0, none⟩ = some (.slice ao5 pre.length cap5) := c5
    have hrun1' : (appB1 #[.slice (some ⟨W.heap.size, 0, none⟩) 0 0, .slice aor q.length capr]).run Tryz.prog (W.alloc (.cells #[] 5)).drew = .ok (.slice ao' q.length cap') wA := hrun1
    have c5d : (W.alloc (.cells #[] 5)).drew.cell? ⟨w1.heap.size, 0, none⟩ = some (.slice ao5 pre.length cap5) := c5'
    have c5e : (W.alloc (.cells #[] 5)).cell? ⟨w1.heap.size, 0, none⟩ = some (.slice ao5 pre.length cap5) := c5'
    clear hrun1
    have HLV := Lib.hid hlv
    clear hpx hI hor hib hβ hΦl hlv hqm
    have mixed : Tryz.prog.follows .mixedOrders = true := by kernel_rfl
    gi_wp2_with fail
    refine regionF_meetB (R := fun a wx => ∃ u1 u2 : Nat, a = { tmps := #[.slice ao l.length cap, undef, .pointer (some ⟨w.heap.size, 0, none⟩), .pointer (some ⟨w.heap.size + 1, 0, none⟩), .func (.func 187) #[] #[.pointer (some ⟨c, 0, none⟩)], .pointer (some ⟨w1.heap.size, 0, none⟩), .int .i64 pre.length, .slice aor q.length capr, .slice ao l.length cap, .func (.func 187) #[] #[.pointer (some ⟨c, 0, none⟩)], .func (.func 187) #[] #[.pointer (some ⟨c, 0, none⟩)], .bool false, .func (.func 187) #[] #[.pointer (some ⟨c, 0, none⟩)], .int .i64 pre.length, .slice aor q.length capr, .int .i64 pre.length, .slice ao5 pre.length cap5, .int .i64 pre.length, .bool false, .bool false, .int .i64 pre.length, .bool false, .bool false, .slice ao5 pre.length cap5, .slice (some ⟨u1, 0, none⟩) 0 0, .slice aor q.length capr, .slice ao' q.length cap', .slice (some ⟨u2, 0, none⟩) 1 1, .slice ao2 (pre.length + 1) cap2, undef], defers := [] } ∧ wx = wB.setCell ⟨w1.heap.size, 0, none⟩ (.slice ao2 (pre.length + 1) cap2)) ?hr1 ?hr2
    case hr1 =>
      gi_region_with_o fail
      all_goals exact ⟨_, _, rfl, rfl⟩
    case hr2 =>
      rintro _ wx ⟨u1, u2, rfl, rfl⟩
      gi_wp2_with fail
      exact HLV.out
  case done =>
    rintro D Φ W3 ⟨v, us, hbx, ho, hrs, hvΦ, hi, hsz⟩ hon hD hnD hK
    obtain ⟨ao5, cap5, hv⟩ := ho.lenOf
    have hmap : (rowsOf l).zipIdx.map Prod.fst = rowsOf l := by simp
    rw [hmap] at hrs
    have hul : us.length = (rowsOf l).length := hrs.1
    rw [hul] at hv
    have HRS := Lib.hid hrs
    have HVP := Lib.hid hvΦ
    clear hrs hvΦ
    subst hv
    have hr2 : Boxed W3 w.heap.size 51 (.slice none 0 0) := (hon.block _ (by omega) (fun h => by omega) (fun h => h)).trans HR2.out
    have hr3 : Boxed W3 (w.heap.size + 1) 4 (.bool false) := (hon.block _ (by omega) (fun h => by omega) (fun h => h)).trans HR3.out
    have hc5 := hbx.cell
    have hc2 := hr2.cell
    have hf2 := hr2.frozen
    have hc3 := (hr3.other (show w.heap.size + 1 ≠ w.heap.size by omega) (.slice ao5 (rowsOf l).length cap5)).cell
    have hf3 := (hr3.other (show w.heap.size + 1 ≠ w.heap.size by omega) (.slice ao5 (rowsOf l).length cap5)).frozen
    have HBX := Lib.hid hbx
    have HO := Lib.hid ho
    have HI := Lib.hid hi
    have HON := Lib.hid hon
    have HRR2 := Lib.hid hr2
    have HRR3 := Lib.hid hr3
    clear hbx ho hi hon hr2 hr3
    gi_wp2
    obtain ⟨W5, hW5⟩ : ∃ W5, W5 = (W3.setCell ⟨w.heap.size, 0, none⟩ (.slice ao5 (rowsOf l).length cap5)).setCell ⟨w.heap.size + 1, 0, none⟩ (.bool true) := ⟨_, rfl⟩
    rw [← hW5]
    have hsame : ∀ k, k ≠ w.heap.size → k ≠ w.heap.size + 1 → W5.heap[k]? = W3.heap[k]? := fun k h1 h2 => by rw [hW5]; exact (Below.heap_setCell _ _ _ k h2).trans (Below.heap_setCell _ _ _ k h1)
    have hx2 : Boxed W5 w.heap.size 51 (.slice ao5 (rowsOf l).length cap5) := by rw [hW5]; exact (HRR2.out.set _).other (by omega) _
    have hx3 : Boxed W5 (w.heap.size + 1) 4 (.bool true) := by rw [hW5]; exact (HRR3.out.other (by omega) _).set _
    have hgw : Grow W3 W5 := by rw [hW5]; exact ⟨rfl, rfl, rfl, by simp [World.setCell]⟩
    have hK5 : W5.heap[D]? = some (.deferred (some [])) := (hsame D (by omega) (by omega)).trans hK
    have hk2 : Boxed (W5.putObj D (.deferred none)) w.heap.size 51 (.slice ao5 (rowsOf l).length cap5) := (put_other (by omega)).trans hx2
    have hk3 : Boxed (W5.putObj D (.deferred none)) (w.heap.size + 1) 4 (.bool true) := (put_other (by omega)).trans hx3
    have hcc2 := hk2.cell
    have hcc3 := hk3.cell
    refine ⟨by simp, .inl ⟨_, _, rfl, run_takeDeferred hK5, ?_⟩⟩
    refine ⟨.tuple #[.slice ao5 (rowsOf l).length cap5, .bool true], by simp [results, Tryz.results18, go_sem, hcc2, hcc3], _, rfl, ?_, ?_⟩
    · have keep : ∀ k, Φ k → (W5.putObj D (.deferred none)).heap[k]? = W3.heap[k]? := fun k hk => by
        have hbk := HI.out k hk
        exact (put_other (fun e => hnD (by rw [← e]; exact hk))).trans (hsame k (by omega) (by omega))
      exact rows_read (HO.out.of (Nat.le_refl _) (fun k hk => keep k (HVP.out k hk))) (HRS.out.of (fun _ h => h) (fun u l k _ _ h => keep k h))
    · have hg : Grow W3 (W5.putObj D (.deferred none)) := hgw.trans (put_grow _ _ _)
      have hO2 := HON.out
      have hw2 := HW.out
      refine ⟨hg.os.trans (hO2.grow.os.trans hw2.os), hg.tape.trans (hO2.grow.tape.trans hw2.tape), hg.output.trans (hO2.grow.output.trans hw2.output), by have := hg.size; have := hO2.grow.size; omega, fun k hk => ?_⟩
      rw [put_other (by omega), hsame k (by omega) (by omega), hO2.block k (by omega) (fun h => by omega) (fun h => h)]
      exact hw2.block k hk
  case stop => rintro D Φ c pre W3 hpre h; exact h.elim
end Go.Proofs.YteioacpfphigjaaGreatDoor
