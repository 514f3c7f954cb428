/-
  agenda's Put.
-/
import Derived.Test.YtbpgiahbnijidaaTsk8
import Derived.Deep.DeepCutAuto
import Derived.Great.BuildSlice
namespace Go.Proofs.Ytbpgiahbnijidaa
open Go.RowKit Go.Shelf
set_option linter.unusedVariables false
set_option linter.unusedSimpArgs false

def RTup (ts : List Tk) (t : Tk) (v : Value) : Prop := ∃ (i : Nat) (b : Bool), v = .tuple #[.int .i64 (i : Nat), .bool b] ∧ Found ts t i
def RIdx (ts : List Tk) (t : Tk) (v : Value) : Prop := ∃ i : Nat, v = .int .i64 (i : Nat) ∧ Found ts t i
def RBool (v : Value) : Prop := ∃ b : Bool, v = .bool b
theorem rtup_mk {ts : List Tk} {t : Tk} {i : Nat} (b : Bool) (h : Found ts t i) : RTup ts t (.tuple #[.int .i64 (i : Nat), .bool b]) := ⟨i, b, rfl, h⟩
theorem ridx_mk {ts : List Tk} {t : Tk} {i : Nat} (h : Found ts t i) : RIdx ts t (.int .i64 (i : Nat)) := ⟨i, rfl, h⟩
theorem rbool_mk (b : Bool) : RBool (.bool b) := ⟨b, rfl⟩
def loadTask (v : Value) : Sem Value := Instr.loadAt 32 v
theorem loadAt_task (v : Value) : Instr.loadAt 32 v = loadTask v := rfl
theorem fold_set : ∀ (l : List Value) (k : Nat) (C : Array Value), k + l.length ≤ C.size → (l.zipIdx k).foldl (fun cs (x : Value × Nat) => cs.setIfInBounds (0 + x.2) x.1) C = (C.toList.take k ++ l ++ C.toList.drop (k + l.length)).toArray
  | [], k, C, _ => by simp
  | u :: l, k, C, h => by
    simp only [List.zipIdx_cons, List.foldl_cons, Nat.zero_add]
    have h' : k + 1 + l.length ≤ C.size := by simp at h; omega
    have ih := fold_set l (k + 1) (C.setIfInBounds k u) (by simp; omega)
    simp only [Nat.zero_add] at ih
    rw [ih]
    apply congrArg List.toArray
    rw [Array.toList_setIfInBounds, List.length_cons]
    exact list_seg_step C.toList k u l (by simpa using h)
def buildTask (parts : Array (Nat × Value)) : Sem Value := Instr.buildSlice 26 1 parts
theorem buildSlice_task (parts : Array (Nat × Value)) : Instr.buildSlice 26 1 parts = buildTask parts := rfl
theorem run_buildTask (t : Tk) (w : World) : (buildTask #[(0, .agg (tc t).toArray)]).run Try.prog w = .ok (.slice (some ⟨w.heap.size, 0, none⟩) 1 1) (w.alloc (.cells (tc t).toArray 32)) := by
  obtain ⟨z, hz, hzs, hz1⟩ := zeroT
  obtain ⟨i0, hi, hz0⟩ := Option.bind_eq_some_iff.1 hz
  have hsz : i0.size = 36 := by
    have := sizeT
    rw [hi] at this
    simpa using this
  refine run_buildSlice w _ 32 1 _ _ i0 z Try.underlying26 hi hz0 (by rw [hsz]; decide) (by rw [hsz]; decide) ?_
  have hc : (Value.agg (tc t).toArray).cells = (tc t).toArray := rfl
  have h36 : (tc t).toArray.size = 36 := by simp [tc_len]
  simp only [Instr.fill, hc, hsz]
  rw [if_neg (by simp [tc_len, hsz])]
  have hf := fold_set (tc t) 0 ((Array.range (1 * 36)).map (z.cells[· % z.cells.size]!)) (by simp [tc_len])
  have e2 : (tc t).toArray.zipIdx.foldl (fun (cs : Array Value) (x : Value × Nat) => cs.setIfInBounds (0 + x.2) x.1) ((Array.range (1 * 36)).map (z.cells[· % z.cells.size]!)) = (tc t).toArray := by
    rw [← Array.foldl_toList]
    simp only [Array.toList_zipIdx]
    rw [hf]
    simp [tc_len]
  simpa [Instr.fill] using e2
attribute [local go_sem ↓] loadAt_task buildSlice_task
theorem run_loadTask {w : World} {b : Nat} {t : Tk} (h : w.rangeAt b 0 (tc t)) : (loadTask (.pointer (some ⟨b, 0, none⟩))).run Try.prog w = .ok (.agg (tc t).toArray) w :=
  run_loadAt_mid w b 0 32 (tc t) _ h Try.underlying32 rfl (by rw [tc_len]; exact sizeT)

/-- In order. -/
def Srt (ts : List Tk) : Prop := ts.Pairwise fun a b => cmpT a b < 0
def aheadB (t : Tk) (u : Tk) : Bool := decide (cmpT u t < 0)
/-- Put where it belongs. -/
def insP (ts : List Tk) (t : Tk) : List Tk := ts.takeWhile (aheadB t) ++ t :: ts.dropWhile (aheadB t)
theorem cmpI_lt {a b : Int} : cmpI a b < 0 ↔ a < b := by unfold cmpI; split <;> (try split) <;> omega
theorem cmpI_zero {a b : Int} : cmpI a b = 0 ↔ a = b := by unfold cmpI; split <;> (try split) <;> omega
theorem cmpT_lt {a b : Tk} : cmpT a b < 0 ↔ a.due < b.due ∨ (a.due = b.due ∧ (a.prio < b.prio ∨ (a.prio = b.prio ∧ a.name < b.name))) := by
  have h1 := @cmpI_lt a.due b.due
  have h2 := @cmpI_lt a.prio b.prio
  have h3 := @cmpI_lt a.name b.name
  have e1 := @cmpI_zero a.due b.due
  have e2 := @cmpI_zero a.prio b.prio
  unfold cmpT
  by_cases c1 : cmpI a.due b.due = 0
  · rw [if_neg (by simpa using c1)]
    by_cases c2 : cmpI a.prio b.prio = 0
    · rw [if_neg (by simpa using c2)]; have := e1.1 c1; have := e2.1 c2; omega
    · rw [if_pos c2]; have := e1.1 c1; have : ¬ a.prio = b.prio := fun h => c2 (e2.2 h); omega
  · rw [if_pos c1]; have : ¬ a.due = b.due := fun h => c1 (e1.2 h); omega
theorem cmpT_trans {a b c : Tk} (h1 : cmpT a b < 0) (h2 : cmpT b c < 0) : cmpT a c < 0 := by
  rw [cmpT_lt] at *; omega
theorem Srt.at {ts : List Tk} (h : Srt ts) {i j : Nat} (hij : i < j) (hj : j < ts.length) : cmpT (ts[i]'(by omega)) ts[j] < 0 :=
  List.pairwise_iff_getElem.1 h i j (by omega) hj hij
theorem found_insP {ts : List Tk} {t : Tk} {i : Nat} (hs : Srt ts) (h : Found ts t i) : insAt ts i t = insP ts t := by
  obtain ⟨h1, h2, h3⟩ := h
  have e1 : ts.takeWhile (aheadB t) = ts.take i ∧ ts.dropWhile (aheadB t) = ts.drop i := by
    have hall : ∀ u ∈ ts.take i, aheadB t u = true := by
      intro u hu
      obtain ⟨k, hk, rfl⟩ := List.mem_iff_getElem.1 hu
      rw [List.length_take] at hk
      simp only [List.getElem_take, aheadB, decide_eq_true_eq]
      have hl := h2 ⟨by omega, h1⟩
      by_cases e : k = i - 1
      · subst e; exact hl
      · exact cmpT_trans (hs.at (i := k) (j := i - 1) (by omega) (by omega)) hl
    have hts : ts = ts.take i ++ ts.drop i := (List.take_append_drop i ts).symm
    have hdr : ∀ u r, ts.drop i = u :: r → aheadB t u = false := by
      intro u r e
      have hi : i < ts.length := by
        by_cases hi : i < ts.length
        · exact hi
        · rw [List.drop_of_length_le (by omega)] at e; cases e
      rw [List.drop_eq_getElem_cons hi] at e
      injection e with e1 _
      subst e1
      have := h3 hi
      simp only [aheadB, decide_eq_false_iff_not]
      omega
    obtain ⟨A, hA⟩ : ∃ A, A = ts.take i := ⟨_, rfl⟩
    obtain ⟨D, hD⟩ : ∃ D, D = ts.drop i := ⟨_, rfl⟩
    rw [← hA] at hall hts ⊢
    rw [← hD] at hts hdr ⊢
    subst hts
    refine ⟨?_, ?_⟩
    · rw [List.takeWhile_append_of_pos hall]
      cases D with
      | nil => simp
      | cons u r => rw [List.takeWhile_cons_of_neg (by rw [hdr u r rfl]; simp)]; simp
    · rw [List.dropWhile_append_of_pos hall]
      cases D with
      | nil => simp
      | cons u r => rw [List.dropWhile_cons_of_neg (by rw [hdr u r rfl]; simp)]
  unfold insAt insP
  rw [e1.1, e1.2]
def BadT (t : Tk) : Prop := t.name < 0 ∨ t.due < 0 ∨ t.prio < 0
instance (t : Tk) : Decidable (BadT t) := by unfold BadT; infer_instance
def putE (ts : List Tk) (t : Tk) : Int := if BadT t then 1 else if 0 ≤ idxN ts t.name then 5 else if 12 ≤ ts.length then 3 else 0
def putL (ts : List Tk) (t : Tk) : List Tk := if putE ts t = 0 then insP ts t else ts
/-- What a call on an agenda leaves: its own blocks may have been written. -/
def Left2 (B g : Nat) (v : Value) (ts : List Tk) (w : World) (w' : World) : Prop := ∃ v', AgA B g v' ts w' ∧ Only (fun k => k = g ∨ v.ownBlock = some k) (fun _ => False) w w' ∧ Fresh w v v'
theorem AgA.later {B g : Nat} {v : Value} {ts : List Tk} {w w' : World} (h : AgA B g v ts w) (hb : Below w.heap.size w w') : AgA B g v ts w' := by
  have hg : g < w.heap.size := by
    by_cases hh : g < w.heap.size
    · exact hh
    · have := h.at_; rw [Array.getElem?_eq_none (by omega)] at this; cases this
  exact ⟨(hb.block g hg).trans h.at_, h.own.of (Nat.le_refl _) (fun k hk => hb.block k (h.own.block hk).2), h.ne, h.lo⟩
theorem Left2.same {B g : Nat} {v : Value} {ts : List Tk} {w w' : World} (h : AgA B g v ts w) (hb : Below w.heap.size w w') : Left2 B g v ts w w' :=
  ⟨v, h.later hb, Only.of_later hb, Fresh.same rfl⟩

theorem AgA.lt {B g : Nat} {v : Value} {ts : List Tk} {w : World} (h : AgA B g v ts w) : g < w.heap.size := by
  by_cases hh : g < w.heap.size
  · exact hh
  · have := h.at_; rw [Array.getElem?_eq_none (by omega)] at this; cases this
/-- The row that came back is laid into the agenda. -/
theorem left2_store {B g : Nat} {v : Value} {ts ts' : List Tk} {w wa wn : World} {ao : Option Addr} {m cap : Nat} (hA : AgA B g v ts w) (hb : Below w.heap.size w wa) (hg : wa.grownBy wn v.ownBlock) (hO : OwnT B (.slice ao m cap) ts' wn)
    (hA9 : wn.heap[g]? = some (.cells #[v] 57 (0, 0))) (hfr : Fresh wa v (.slice ao m cap)) : Left2 B g v ts' w (wn.setCell ⟨g, 0, none⟩ (.slice ao m cap)) := by
  have hgl := hA.lt
  have hne : (Value.slice ao m cap).ownBlock ≠ some g := by
    intro e
    rcases hO.2 with ⟨h, -⟩ | ⟨k, c, cur, h, -, h2, -⟩
    · rw [h] at e; cases e
    · rw [h] at e
      have e' : k = g := by simpa [Value.ownBlock] using e
      rw [e', hA9] at h2
      simp only [Option.some.injEq, Obj.cells.injEq] at h2
      exact absurd h2.2.1 (by decide)
  refine ⟨.slice ao m cap, ⟨?_, hO.of (Nat.le_refl _) (fun k hk => heap_setCell_other _ _ _ _ (fun e => hne (by rw [hk, e]))), hne, hA.lo⟩, ⟨⟨?_, ?_, ?_, ?_⟩, fun k hk h1 _ => ?_⟩, fun k hk => (hfr k hk).imp id (fun h => Nat.le_trans hb.size h)⟩
  · rw [heap_setCell_same _ _ _ _ _ _ hA9]; rfl
  · exact hg.os.trans hb.os
  · exact hg.tape.trans hb.tape
  · exact hg.output.trans hb.output
  · have := hg.size; have := hb.size; simp [World.setCell]; omega
  · rw [heap_setCell_other _ _ _ _ (fun e => h1 (.inl e)), hg.block k (Nat.lt_of_lt_of_le hk hb.size) (fun e => h1 (.inr e.symm))]
    exact hb.block k hk

set_option maxHeartbeats 8000000 in
set_option maxRecDepth 100000 in
theorem agenda_Put (B g : Nat) (v : Value) (ts : List Tk) (t : Tk) (w : World) (hA : AgA B g v ts w) (hS : Srt ts) (hl : ts.length ≤ 12) (hB : B ≤ w.heap.size) :
    Calls Try.prog 12 #[.pointer (some ⟨g, 0, none⟩), .agg (tc t).toArray] w fun e w' => e = .returned (.int .i64 (putE ts t)) ∧ Left2 B g v (putL ts t) w w' := by
  obtain ⟨ao, cap, rfl⟩ := hA.own.reads.lenOf
  obtain ⟨n, hn⟩ : ∃ n, n = ts.length := ⟨_, rfl⟩
  obtain ⟨bt, hbt⟩ : ∃ bt, bt = w.heap.size := ⟨_, rfl⟩
  obtain ⟨wz, hwz⟩ : ∃ wz, wz = w.alloc (.cells (tc t).toArray 32) := ⟨_, rfl⟩
  have hb1 : Below w.heap.size w wz := by rw [hwz]; exact (Below.refl _ _).alloc (Nat.le_refl _) _
  have ht1 : wz.heap[bt]? = some (.cells (tc t).toArray 32 (0, 0)) := by rw [hwz, hbt]; exact heap_alloc_new w _
  have hAz := hA.later hb1
  have cN : wz.cell? ⟨bt, 0, none⟩ = some (.int .i64 t.name) := by rw [World.cell?, ht1]; rfl
  have cD : wz.cell? ⟨bt, 1, none⟩ = some (.int .i64 t.due) := by rw [World.cell?, ht1]; rfl
  have cP : wz.cell? ⟨bt, 2, none⟩ = some (.int .i64 t.prio) := by rw [World.cell?, ht1]; rfl
  have hzs : bt < wz.heap.size := by rw [hwz, hbt]; simp
  have HAZ := Lib.hid hAz
  have HA := Lib.hid hA
  have HB1 := Lib.hid hb1
  have HT1 := Lib.hid ht1
  have HSS := Lib.hid hS
  have HL := Lib.hid hl
  have HBB := Lib.hid hB
  have HN := Lib.hid hn
  have HBT := Lib.hid hbt
  rw [← hn] at HAZ HA ⊢
  have hn12 : (n : Int) ≤ 12 := by omega
  have bad : BadT t → putE ts t = 1 ∧ putL ts t = ts := fun h => by
    have e : putE ts t = 1 := by unfold putE; rw [if_pos h]
    exact ⟨e, by unfold putL; rw [e]; rfl⟩
  have HBAD := Lib.hid bad
  clear hA hAz hb1 ht1 hS hl hB hn bad
  go_enter Try.func12, Try.ntmps12
  go_upto_region 1 with fail
  rw [← hwz, ← hbt]
  clear hwz hbt
  by_cases c0 : t.name < 0
  · have E := Lib.hid (HBAD.out (.inl c0))
    go_wp2
    refine bodyPost_ret (v := .int .i64 1) (by simp [results, Try.results12, go_sem]) rfl ⟨by rw [E.out.1], by rw [E.out.2]; exact Left2.same HA.out HB1.out⟩
  by_cases c1 : t.due < 0
  · have E := Lib.hid (HBAD.out (.inr (.inl c1)))
    go_wp2
    refine bodyPost_ret (v := .int .i64 1) (by simp [results, Try.results12, go_sem]) rfl ⟨by rw [E.out.1], by rw [E.out.2]; exact Left2.same HA.out HB1.out⟩
  by_cases c2 : t.prio < 0
  · have E := Lib.hid (HBAD.out (.inr (.inr c2)))
    go_wp2
    refine bodyPost_ret (v := .int .i64 1) (by simp [results, Try.results12, go_sem]) rfl ⟨by rw [E.out.1], by rw [E.out.2]; exact Left2.same HA.out HB1.out⟩
  have hgood : ¬ BadT t := by unfold BadT; omega
  obtain ⟨ix, hix⟩ : ∃ ix, ix = idxN ts t.name := ⟨_, rfl⟩
  have HIX := Lib.hid hix
  have HGD := Lib.hid hgood
  clear hix hgood
  by_cases c3 : 0 ≤ ix
  · have e : putE ts t = 5 := by unfold putE; rw [if_neg HGD.out, ← HIX.out, if_pos (show 0 ≤ ix by omega)]
    have e2 : putL ts t = ts := by unfold putL; rw [e]; rfl
    have E := Lib.hid e
    have E2 := Lib.hid e2
    clear e e2
    go_wp2_with (first | (go_at_call 23; refine (agenda_find g _ ts t.name _ HAZ.out.at_ HAZ.out.own.reads (by have := HL.out; omega)).mono ?_; rw [← HIX.out]; rintro e w2 ⟨rfl, hb2⟩; have HB2 := Lib.hid hb2; clear hb2) | fail)
    refine bodyPost_ret (v := .int .i64 5) (by simp [results, Try.results12, go_sem]) rfl ⟨by rw [E.out], by rw [E2.out]; exact Left2.same HA.out (HB1.out.trans (HB2.out.mono HB1.out.size))⟩
  · have hAc : ∀ w2, Below wz.heap.size wz w2 → w2.cell? ⟨g, 0, none⟩ = some (.slice ao n cap) := fun w2 hb => by rw [World.cell?, (HAZ.out.later hb).at_]; rfl
    have HAC := Lib.hid hAc
    clear hAc
    go_upto_region 5 with (first | (go_at_call 23; refine (agenda_find g _ ts t.name _ HAZ.out.at_ HAZ.out.own.reads (by have := HL.out; omega)).mono ?_; rw [← HIX.out]; rintro e w2 ⟨rfl, hb2⟩; have hc2 := HAC.out w2 hb2; have HB2 := Lib.hid hb2; clear hb2) | fail)
    by_cases c4 : (12 : Int) ≤ n
    · have e : putE ts t = 3 := by unfold putE; rw [if_neg HGD.out, ← HIX.out, if_neg (show ¬ 0 ≤ ix by omega), if_pos (by have := HN.out; omega)]
      have e2 : putL ts t = ts := by unfold putL; rw [e]; rfl
      have E := Lib.hid e
      have E2 := Lib.hid e2
      clear e e2
      go_wp2
      refine bodyPost_ret (v := .int .i64 3) (by simp [results, Try.results12, go_sem]) rfl ⟨by rw [E.out], by rw [E2.out]; exact Left2.same HA.out (HB1.out.trans (HB2.out.mono HB1.out.size))⟩
    · have e : putE ts t = 0 := by unfold putE; rw [if_neg HGD.out, ← HIX.out, if_neg (show ¬ 0 ≤ ix by omega), if_neg (by have := HN.out; omega)]
      have e2 : putL ts t = insP ts t := by unfold putL; rw [if_pos e]
      have E := Lib.hid e
      have E2 := Lib.hid e2
      clear e e2
      go_upto_region 7 with fail
      have AC : ∀ w', Later w2.drew w' → w'.cell? ⟨g, 0, none⟩ = some (.slice ao n cap) := fun w' hL => HAC.out w' (HB2.out.trans ((Below.refl _ w2).drew.trans (hL.mono (Nat.le_refl _)) |>.mono HB2.out.size))
      refine wp_region_plan_lit (L := Later) 58 [.pure, .pure, .pure, .pure, .pin (.agg (tc t).toArray), .any (fun _ v => RTup ts t v), .any (fun _ v => RTup ts t v), .any (fun _ v => RIdx ts t v), .any (fun _ v => RBool v), .any (fun _ v => RIdx ts t v), .any (fun _ v => RBool v)] (by kernel_rfl) (by kernel_rfl) rfl (fun w => Below.refl _ w) Later.tr ⟨fun w w' v hL hR => hR, fun w w' v hL hR => hR, fun w w' v hL hR => hR, fun w w' v hL hR => hR, fun w w' v hL hR => hR, fun w w' v hL hR => hR, trivial⟩ ?_
      iterate 4
        first
        | (refine wm_skip (by rfl) (fun K hK => ?_))
        | (refine wm_move (by rfl) (.inl rfl) (fun K hK => ?_))
        | (refine wm_move (by rfl) (.inr rfl) (fun K hK => ?_))
        | (refine wm_run (by rfl) (fun K hK => ?_)
           apply Exists.intro
           apply And.intro
           · intro w hL
             simp [go_sem, (AC w hL)]
             rfl)
        simp only [Act.put, Act.eval, List.setIfInBounds_toArray, List.set_cons_succ, List.set_cons_zero]
        refine hK _ ?_
        clear hK K
      refine wm_pin (fun K hK => ⟨fun w' hL hk => ?_, ?_⟩)
      · have hbw : Below wz.heap.size wz w' := HB2.out.trans ((Below.refl _ w2).drew.trans (hL.mono (Nat.le_refl _)) |>.mono HB2.out.size)
        have hA' := HAZ.out.later hbw
        have hT' := rangeAt_box ((hbw.block bt hzs).trans HT1.out)
        go_wp2_with (first | (refine wpl_loadT _ rfl rfl rfl hT' ?_) | fail)
        exact qr_pin rfl rfl rfl (Below.refl _ _)
      simp only [Act.put, Act.eval, List.setIfInBounds_toArray, List.set_cons_succ, List.set_cons_zero]
      refine hK _ ?_
      clear hK K
      refine wm_any (fun K hK => ⟨fun w' hL hk => ?_, fun v44 => ?_⟩)
      · have hbw : Below wz.heap.size wz w' := HB2.out.trans ((Below.refl _ w2).drew.trans (hL.mono (Nat.le_refl _)) |>.mono HB2.out.size)
        have hA' := HAZ.out.later hbw
        have hT' := rangeAt_box ((hbw.block bt hzs).trans HT1.out)
        go_wp2_with (first | (go_at_call 24; refine (search_ts _ ts t _ hA'.own.reads (by have := HL.out; omega)).mono ?_; rintro e wn ⟨i, b, rfl, hF, hbn⟩) | fail)
        exact qr_any rfl rfl rfl hbn (rtup_mk b hF)
      simp only [Act.put, Act.eval, List.setIfInBounds_toArray, List.set_cons_succ, List.set_cons_zero]
      refine hK _ ?_
      clear hK K
      refine wm_any (fun K hK => ⟨fun w' hL hk => ?_, fun v38 => ?_⟩)
      · obtain ⟨i, b, e, hF⟩ : RTup ts t v44 := hk.get 44 5 (by kernel_rfl) rfl
        subst e
        go_wp2_with (fail)
        exact qr_any rfl rfl rfl (Below.refl _ _) (rtup_mk b hF)
      simp only [Act.put, Act.eval, List.setIfInBounds_toArray, List.set_cons_succ, List.set_cons_zero]
      refine hK _ ?_
      clear hK K
      refine wm_any (fun K hK => ⟨fun w' hL hk => ?_, fun v45 => ?_⟩)
      · obtain ⟨i, b, e, hF⟩ : RTup ts t v38 := hk.get 38 6 (by kernel_rfl) rfl
        subst e
        go_wp2_with (fail)
        exact qr_any rfl rfl rfl (Below.refl _ _) (ridx_mk hF)
      simp only [Act.put, Act.eval, List.setIfInBounds_toArray, List.set_cons_succ, List.set_cons_zero]
      refine hK _ ?_
      clear hK K
      refine wm_any (fun K hK => ⟨fun w' hL hk => ?_, fun v46 => ?_⟩)
      · obtain ⟨i, b, e, hF⟩ : RTup ts t v38 := hk.get 38 6 (by kernel_rfl) rfl
        subst e
        go_wp2_with (fail)
        exact qr_any rfl rfl rfl (Below.refl _ _) (rbool_mk b)
      simp only [Act.put, Act.eval, List.setIfInBounds_toArray, List.set_cons_succ, List.set_cons_zero]
      refine hK _ ?_
      clear hK K
      refine wm_any (fun K hK => ⟨fun w' hL hk => ?_, fun v5 => ?_⟩)
      · obtain ⟨i, e, hF⟩ : RIdx ts t v45 := hk.get 45 7 (by kernel_rfl) rfl
        subst e
        go_wp2_with (fail)
        exact qr_any rfl rfl rfl (Below.refl _ _) (ridx_mk hF)
      simp only [Act.put, Act.eval, List.setIfInBounds_toArray, List.set_cons_succ, List.set_cons_zero]
      refine hK _ ?_
      clear hK K
      refine wm_any (fun K hK => ⟨fun w' hL hk => ?_, fun v6 => ?_⟩)
      · obtain ⟨b, e⟩ : RBool v46 := hk.get 46 8 (by kernel_rfl) rfl
        subst e
        go_wp2_with (fail)
        exact qr_any rfl rfl rfl (Below.refl _ _) (rbool_mk b)
      simp only [Act.put, Act.eval, List.setIfInBounds_toArray, List.set_cons_succ, List.set_cons_zero]
      refine hK _ ?_
      clear hK K
      refine wm_end (fun w' hL hk => ?_)
      obtain ⟨i, e5, hF⟩ : RIdx ts t v5 := hk.get 9 5 (by kernel_rfl) rfl
      subst e5
      clear hk
      have hbw : Below wz.heap.size wz w' := HB2.out.trans ((Below.refl _ w2).drew.trans (hL.mono (Nat.le_refl _)) |>.mono HB2.out.size)
      have hA' := HAZ.out.later hbw
      have hT' := rangeAt_box ((hbw.block bt hzs).trans HT1.out)
      have HF := Lib.hid hF
      have hins := found_insP HSS.out hF
      have HI := Lib.hid hins
      have HA2 := Lib.hid hA'
      have HT2 := Lib.hid hT'
      have HBW := Lib.hid hbw
      clear hF hins hA' hT' hbw AC hc2
      go_upto_region 8 with fail
      have hld : (loadTask (.pointer (some ⟨bt, 0, none⟩))).run Try.prog w'.drew = .ok (.agg (tc t).toArray) w'.drew := run_loadTask HT2.out
      have hbs := run_buildTask t
      have hcg : w'.cell? ⟨g, 0, none⟩ = some (.slice ao n cap) := by rw [World.cell?, HA2.out.at_]; rfl
      have hgl : g < w'.heap.size := by
        by_cases hh : g < w'.heap.size
        · exact hh
        · have := HA2.out.at_; rw [Array.getElem?_eq_none (by omega)] at this; cases this
      have hA8 := HA2.out.later (show Below w'.heap.size w' (w'.drew.alloc (.cells (tc t).toArray 32)) from (Below.refl _ w').drew.alloc (Nat.le_refl _) _)
      have hu8 : (w'.drew.alloc (.cells (tc t).toArray 32)).heap[w'.heap.size]? = some (.cells (tc t).toArray 32 (0, 0)) := heap_alloc_new w'.drew _
      have hne8 : (Value.slice ao n cap).ownBlock ≠ some w'.heap.size := fun e => by have := (HA2.out.own.block e).2; omega
      have hil : i ≤ ts.length := HF.out.1
      have HA8 := Lib.hid hA8
      have HU8 := Lib.hid hu8
      have HNE := Lib.hid hne8
      have HIL := Lib.hid hil
      obtain ⟨m, hm⟩ : ∃ m, m = (insAt ts i t).length := ⟨_, rfl⟩
      have HM := Lib.hid hm
      have hbsz : B ≤ w'.heap.size := by have h1 := HBB.out; have h2 := HB1.out.size; have h3 := HBW.out.size; omega
      have HBZ := Lib.hid hbsz
      clear hA8 hu8 hne8 hil hm hbsz
      go_region_with (first | (go_at_call 26; refine (insert_one B _ ts t i w'.heap.size _ HA8.out.own HU8.out HNE.out HIL.out (by have := HL.out; omega) (by have := HBZ.out; simp; omega)).mono ?_; rintro e wn ⟨v', rfl, hO, hg8, -, hfr⟩; have HFR := Lib.hid hfr; clear hfr; have hA9 : wn.heap[g]? = some (.cells #[.slice ao n cap] 57 (0, 0)) := (hg8.block g (by simp; omega) (fun e => HA8.out.ne e.symm)).trans HA8.out.at_; obtain ⟨ao', cap', hv'⟩ := hO.reads.lenOf; rw [← HM.out] at hv'; subst hv'; have hc9 : wn.cell? ⟨g, 0, none⟩ = some (.slice ao n cap) := (by rw [World.cell?, hA9]; rfl); have hf9 : wn.frozen? ⟨g, 0, none⟩ = false := (by simp [World.frozen?, hA9]); have HO9 := Lib.hid hO; have HG9 := Lib.hid hg8; have HA9 := Lib.hid hA9; clear hO hg8 hA9) | fail)
      all_goals
        go_wp2
        refine bodyPost_ret (v := .int .i64 0) (by simp [results, Try.results12, go_sem]) rfl ⟨by rw [E.out], ?_⟩
        rw [E2.out, ← HI.out]
        have hbz : Below w.heap.size w w' := HB1.out.trans (HBW.out.mono HB1.out.size)
        exact left2_store HA.out (hbz.trans (Below.mono (show Below w'.heap.size w' (w'.drew.alloc (.cells (tc t).toArray 32)) from (Below.refl _ w').drew.alloc (Nat.le_refl _) _) hbz.size)) HG9.out HO9.out HA9.out HFR.out
end Go.Proofs.Ytbpgiahbnijidaa
