/-
  Joined texts.
-/
import Derived.Test.YtbpemdihoabbcaaGreatUA
import Derived.Test.YtbpemdihoabbcaaGreatMhl
import Derived.BigRegion
import Derived.RegionTactic
import Derived.Test.YtbpemdihoabbcaaGreatUB
import Derived.StillTailTactics
import Derived.ChangeKeysEq
import Derived.Laws.StructEq
import Derived.Test.YtbpemdihoabbcaaGreatChecked
namespace Go.Proofs.YtbpemdihoabbcaaGreat
set_option linter.unusedVariables false
set_option linter.unusedSimpArgs false
set_option maxRecDepth 100000
set_option maxHeartbeats 8000000
section
open Go.RowKit Go.Maps
section
variable {vy pb rb : Nat} {P P' : Nat → Pl} {R R' : Nat → Rc} {F : FP} {w w' W : World}
theorem ryS_Tally {S : Vs} (h : RyAt vy pb rb S.P R F w) (r : Int) : Calls Tryz.prog 43 #[.pointer (some ⟨vy, 0, none⟩), .int .i64 r] w fun e w' => e = .returned (.agg (tlyS.f (tallyOf S r)).toArray) ∧ Below w.heap.size w w' := by
 obtain ⟨W0, hW0⟩ : ∃ W0, W0 = w.alloc (tlyS.obj tlyS.zero) := ⟨_, rfl⟩
 obtain ⟨ob, hob⟩ : ∃ ob, ob = w.heap.size := ⟨_, rfl⟩
 have hB0 : Below w.heap.size w W0 := by rw [hW0]; exact (Below.refl _ w).alloc (Nat.le_refl _) _
 have h0 : RyAt vy pb rb S.P R F W0 := Mem.below (m := ryM vy pb rb S.P R) h hB0
 have hz : W0.heap[ob]? = some (tlyS.obj tlyS.zero) := by rw [hW0, hob]; exact World.alloc_heap_new w _
 have hend : ∀ t, (W0.setRow ob (tlyS.f t).toArray).rangeAt ob 0 (tlyS.f t) ∧ Below w.heap.size w (W0.setRow ob (tlyS.f t).toArray) := fun t => by
  refine ⟨rangeAt_whole (T := tlyS.T) (setRow_heap _ _ _ _ _ _ hz), hB0.os, hB0.tape, hB0.output, by simpa using hB0.size, fun k hk => (setRow_other _ _ _ _ (by rw [hob]; omega)).trans (hB0.block k hk)⟩
 have hhas := ry_Has h0 r
 have HE := Lib.hid hend
 have HZ := Lib.hid hz
 have HW0 := Lib.hid (And.intro hW0 hob)
 unfold tallyOf
 by_cases hp : plHas S.P r
 · rw [if_pos hp]
   rw [decide_eq_true hp] at hhas
   obtain ⟨k, rfl⟩ := Int.eq_ofNat_of_zero_le hp.1.1
   have hk : k < 12 := by have := hp.1.2; omega
   have hk' : (k : Int) < 12 := by omega
   have htl := h0.tally hk
   obtain ⟨c0, -⟩ := h0.top
   rw [Int.toNat_natCast]
   obtain ⟨t, ht⟩ : ∃ t, t = (S.P k).t := ⟨_, rfl⟩
   rw [← ht] at htl ⊢
   have HT := Lib.hid htl
   have HHAS := Lib.hid hhas
   clear h hW0 hob hB0 h0 hz hend hp htl hhas ht
   go_enter Tryz.func43, Tryz.ntmps43
   go_upto_region 1 with (first
    | (refine wpl_allocS (s := tlyS) rfl rfl rfl ?_)
    | fail)
   rw [← HW0.out.1, ← HW0.out.2]
   go_wp2_with (first
    | (go_at_call 11; refine HHAS.out.mono ?_; rintro e w1 ⟨rfl, hw⟩; rw [hw]; clear hw w1)
    | (refine wpl_loadS (s := tlyS) (t := t) (b := pb) (k := k * 7 + 4) _ rfl rfl rfl rfl HT.out ?_)
    | (refine wpl_storeS (s := tlyS) (t := t) (b := ob) _ _ rfl rfl rfl rfl rfl HZ.out (zeroS tlyS) ?_)
    | fail)
   exact bodyPost_ret (v := tlyS.v t) (results_S1 (s := tlyS) Tryz.results43 rfl (HE.out t).1) rfl ⟨rfl, (HE.out t).2⟩
 · rw [if_neg hp]
   rw [decide_eq_false hp] at hhas
   have HHAS := Lib.hid hhas
   clear h hW0 hob hB0 h0 hz hend hp hhas
   go_enter Tryz.func43, Tryz.ntmps43
   go_upto_region 1 with (first
    | (refine wpl_allocS (s := tlyS) rfl rfl rfl ?_)
    | fail)
   rw [← HW0.out.1, ← HW0.out.2]
   go_wp2_with (first
    | (go_at_call 11; refine HHAS.out.mono ?_; rintro e w1 ⟨rfl, hw⟩; rw [hw]; clear hw w1)
    | (refine wpl_storeS (s := tlyS) (t := tlyS.zero) (b := ob) _ _ rfl rfl rfl rfl rfl HZ.out (zeroS tlyS) ?_)
    | fail)
   exact bodyPost_ret (v := tlyS.v tlyS.zero) (results_S1 (s := tlyS) Tryz.results43 rfl (HE.out tlyS.zero).1) rfl ⟨rfl, (HE.out tlyS.zero).2⟩
end
end
section
open Go.RowKit Go.Maps
theorem run_makeZy {P : Program} (t e : TypeId) (n s by_ : Nat) (z : Value) (ht : P.underlying t = some (.slice e)) (hi : (P.info? e).map (fun i => (i.zero, i.size, i.bytes)) = some (some z, s, by_)) (hb : by_ * n ≤ 1000000) (hn : n ≤ 1000000) (w : World) :
 (Instr.makeSlice t (.int .i64 (n : Int)) (.int .i64 (n : Int))).run P w = .ok (.slice (some ⟨w.heap.size, 0, none⟩) n n) (w.alloc (.cells (madeCells z.cells (n * s)) e)) := by
 obtain ⟨i, hi0, hi1⟩ := Option.map_eq_some_iff.1 hi
 simp only [Prod.mk.injEq] at hi1
 obtain ⟨hz1, hs, hbb0⟩ := hi1
 have hbb : (i.bytes : Int) * (n : Int) ≤ 281474976710656 := by
  rw [hbb0]
  have : ((by_ * n : Nat) : Int) ≤ 281474976710656 := by omega
  rwa [Int.natCast_mul] at this
 have := run_make (P := P) w t e i z ht hi0 hz1 .i64 .i64 n n (by omega) (by omega) hbb (by omega)
 rw [← hs]
 simpa using this
theorem Tab.made {f : List Value} {n m : Nat} (hm : f.length = m) : Tab n m (fun _ => f) (madeCells f.toArray (n * m)) := by
 refine ⟨size_madeCells _ _, fun k hk => hm, fun k hk j u hj => ?_⟩
 have hjm : j < m := by rw [← hm]; exact (List.getElem?_eq_some_iff.1 hj).1
 have hlt : k * m + j < n * m := by
  have := Nat.mul_le_mul_right m (show k + 1 ≤ n from hk)
  rw [Nat.succ_mul] at this
  omega
 have hmod : (k * m + j) % m = j := by rw [Nat.mul_comm, Nat.mul_add_mod]; exact Nat.mod_eq_of_lt hjm
 obtain ⟨h1, h2⟩ := List.getElem?_eq_some_iff.1 hj
 simp only [madeCells, Array.getElem?_map, Array.getElem?_range, hlt, if_true, Option.map_some, List.size_toArray, hm, hmod]
 rw [getElem!_pos _ _ (by simpa using h1)]
 simp [h2]
def F3 (vy pb rb : Nat) : FP := fun k => k = vy ∨ k = pb ∨ k = rb
theorem rcOf_zero (k : Nat) : rcOf Vs.zero k = ⟨[], false, 0, 0, 0, ⟨0, 0⟩, 0, 0⟩ := rfl
theorem ryNew {W : World} {vy pb rb : Nat} (h1 : W.heap[vy]? = some (.cells #[.slice (some ⟨pb, 0, none⟩) 12 12, .slice (some ⟨rb, 0, none⟩) 40 40] 47 (0, 0))) (h2 : W.heap[pb]? = some (.cells (madeCells (poL Pl.zero).toArray (12 * 7)) 43 (0, 0))) (h3 : W.heap[rb]? = some (.cells (madeCells (rcL (.slice none 0 0) ⟨[], false, 0, 0, 0, ⟨0, 0⟩, 0, 0⟩).toArray (40 * 9)) 148 (0, 0))) (hn : vy ≠ pb ∧ vy ≠ rb ∧ pb ≠ rb) : RyAt vy pb rb Vs.zero.P (rcOf Vs.zero) (F3 vy pb rb) W := by
 refine ⟨fun _ => .slice none 0 0, _, _, h1, h2, h3, Tab.made rfl, (Tab.made rfl).congr (fun k hk => by rw [rcOf_zero]), fun k hk => ⟨.inl ⟨rfl, by rw [rcOf_zero]⟩, fun b hb => by cases hb⟩, .inl rfl, .inr (.inl rfl), .inr (.inr rfl), hn.1, hn.2.1, hn.2.2, fun k hk => ?_⟩
 rcases hk with rfl | rfl | rfl
 · exact (Array.getElem?_eq_some_iff.1 h1).1
 · exact (Array.getElem?_eq_some_iff.1 h2).1
 · exact (Array.getElem?_eq_some_iff.1 h3).1
theorem alloc3 (w : World) (a b c : Obj) : (((w.alloc a).alloc b).alloc c).drew.heap[w.heap.size]? = some a ∧ (((w.alloc a).alloc b).alloc c).drew.heap[w.heap.size + 1]? = some b ∧ (((w.alloc a).alloc b).alloc c).drew.heap[w.heap.size + 1 + 1]? = some c := by
 have s1 : (w.alloc a).heap.size = w.heap.size + 1 := World.size_alloc _ _
 have s2 : ((w.alloc a).alloc b).heap.size = w.heap.size + 1 + 1 := by rw [World.size_alloc, s1]
 have a1 := World.alloc_heap_new w a
 have a2 := World.alloc_heap_new (w.alloc a) b
 have a3 := World.alloc_heap_new ((w.alloc a).alloc b) c
 rw [s1] at a2
 rw [s2] at a3
 refine ⟨?_, ?_, a3⟩
 · exact (Below.heap_alloc _ _ _ (by omega)).trans ((Below.heap_alloc _ _ _ (by omega)).trans a1)
 · exact (Below.heap_alloc _ _ _ (by omega)).trans a2
theorem below3 (w : World) (a b c : Obj) : Below w.heap.size w (((w.alloc a).alloc b).alloc c).drew :=
 ((((Below.refl _ w).alloc (Nat.le_refl _) a).alloc (by rw [World.size_alloc]; omega) b).alloc (by rw [World.size_alloc, World.size_alloc]; omega) c).drew
theorem ref11_NewY (w : World) : Calls Tryz.prog 30 #[] w fun e w' => ∃ vy pb rb, e = .returned (.pointer (some ⟨vy, 0, none⟩)) ∧ RyAt vy pb rb Vs.zero.P (rcOf Vs.zero) (F3 vy pb rb) w' ∧ (∀ k, F3 vy pb rb k → w.heap.size ≤ k) ∧ Below w.heap.size w w' := by
 obtain ⟨C1, hC1⟩ : ∃ C, C = madeCells (poL Pl.zero).toArray (12 * 7) := ⟨_, rfl⟩
 obtain ⟨C2, hC2⟩ : ∃ C, C = madeCells (rcL (.slice none 0 0) ⟨[], false, 0, 0, 0, ⟨0, 0⟩, 0, 0⟩).toArray (40 * 9) := ⟨_, rfl⟩
 have h1 := run_makeZy (P := Tryz.prog) 44 43 12 7 56 (.agg (poL Pl.zero).toArray) Tryz.underlying44 (by kernel_rfl) (by decide) (by decide)
 have h2 := run_makeZy (P := Tryz.prog) 45 148 40 9 88 (.agg (rcL (.slice none 0 0) ⟨[], false, 0, 0, 0, ⟨0, 0⟩, 0, 0⟩).toArray) Tryz.underlying45 (by kernel_rfl) (by decide) (by decide)
 have h1' : ∀ w : World, (Instr.makeSlice 44 (.int .i64 12) (.int .i64 12)).run Tryz.prog w = .ok (.slice (some ⟨w.heap.size, 0, none⟩) 12 12) (w.alloc (.cells C1 43)) := fun w => by rw [hC1]; exact h1 w
 have h2' : ∀ w : World, (Instr.makeSlice 45 (.int .i64 40) (.int .i64 40)).run Tryz.prog w = .ok (.slice (some ⟨w.heap.size, 0, none⟩) 40 40) (w.alloc (.cells C2 148)) := fun w => by rw [hC2]; exact h2 w
 have hfin : ∀ W : World, W.heap.size = w.heap.size → (∀ k, k < w.heap.size → W.heap[k]? = w.heap[k]?) → Below w.heap.size w W → True := fun _ _ _ _ => trivial
 have HC := Lib.hid (And.intro hC1 hC2)
 clear h1 h2 hC1 hC2 hfin
 go_enter Tryz.func30, Tryz.ntmps30
 go_upto_region 1 with fail
 go_region
 all_goals go_wp2_with fail
 all_goals go_ret
 · obtain ⟨a1, a2, a3⟩ := alloc3 w (.cells C1 43) (.cells C2 148) (.cells #[.slice (some ⟨w.heap.size, 0, none⟩) 12 12, .slice (some ⟨w.heap.size + 1, 0, none⟩) 40 40] 47)
   refine ⟨w.heap.size + 1 + 1, w.heap.size, w.heap.size + 1, rfl, ?_, ?_, below3 _ _ _ _⟩
   · obtain ⟨q1, q2⟩ := HC.out
     rw [q1, q2] at a1 a2 a3 ⊢
     exact ryNew a3 a1 a2 (by omega)
   · rintro k (rfl | rfl | rfl) <;> omega
 · obtain ⟨a1, a2, a3⟩ := alloc3 w (.cells C2 148) (.cells C1 43) (.cells #[.slice (some ⟨w.heap.size + 1, 0, none⟩) 12 12, .slice (some ⟨w.heap.size, 0, none⟩) 40 40] 47)
   refine ⟨w.heap.size + 1 + 1, w.heap.size + 1, w.heap.size, rfl, ?_, ?_, below3 _ _ _ _⟩
   · obtain ⟨q1, q2⟩ := HC.out
     rw [q1, q2] at a1 a2 a3 ⊢
     exact ryNew a3 a2 a1 (by omega)
   · rintro k (rfl | rfl | rfl) <;> omega
end
section
open Go.RowKit Go.Maps
theorem results_row {P : Program} {fn : Func} {p : Tmp} {T : TypeId} (hf : fn.results = #[.cell p T]) {tmps : Array Value} {b : Nat} {cs : List Value} {d : TypeDesc} {w : World} (hp : tmps.getD p undef = .pointer (some ⟨b, 0, none⟩)) (hr : w.rangeAt b 0 cs) (hu : P.underlying T = some d) (hd : d.isRow = true) (hi : (P.info? T).map (·.size) = some cs.length) :
 (results fn tmps).run P w = .ok (.agg cs.toArray) w := by
 have hp' : tmps[p]?.getD undef = .pointer (some ⟨b, 0, none⟩) := by simpa using hp
 unfold results
 rw [hf]
 simp [Array.mapM_eq_mapM_toList, hp', asAddr, Sem.run_bind, run_loadVar_mid w b 0 T cs d hr hu hd hi, Result.andThen]
def loadRcd (a : Value) : Sem Value := Instr.loadAt 148 a
theorem loadRcd_hide (a : Value) : Instr.loadAt 148 a = loadRcd a := rfl
def storeRcd (a v : Value) : Sem Unit := Instr.storeAt 148 a v
theorem storeRcd_hide (a v : Value) : Instr.storeAt 148 a v = storeRcd a v := rfl
def rc0 : Rc := ⟨[], false, 0, 0, 0, ⟨0, 0⟩, 0, 0⟩
section
variable {vy pb rb : Nat} {P P' : Nat → Pl} {R R' : Nat → Rc} {F : FP} {w w' W : World}
theorem run_loadRcd {b o : Nat} {v : Value} {r : Rc} (h : w.rangeAt b o (rcL v r)) : (loadRcd (.pointer (some ⟨b, o, none⟩))).run Tryz.prog w = .ok (.agg (rcL v r).toArray) w :=
 run_loadAt_mid w b o 148 (rcL v r) _ h Tryz.underlying148 (by kernel_rfl) (by kernel_rfl)
theorem run_storeRcd {b o : Nat} {v : Value} (hv : v.oneCell' = true) {r : Rc} (h : w.there b o 9) : (storeRcd (.pointer (some ⟨b, o, none⟩)) (.agg (rcL v r).toArray)).run Tryz.prog w = .ok () (w.setCells b o (rcL v r)) :=
 run_storeAt_mid w b o 148 (rcL v r).toArray h (by kernel_rfl) (by simp only [rcL, List.all_toArray, List.all_cons, List.all_nil, hv]; rfl)
theorem RyAt.rcd (h : RyAt vy pb rb P R F w) {k : Nat} (hk : k < 40) : ∃ v, RdR castR w v (R k).c ∧ (∀ b, v.ownBlock = some b → F b) ∧ w.rangeAt rb (k * 9) (rcL v (R k)) := by
 obtain ⟨vs, Cp, Cr, h1, h2, h3, h4, h5, h6, -⟩ := h
 exact ⟨vs k, (h6 k hk).1, fun b hb => ((h6 k hk).2 b hb).1, fun j u hj => by rw [World.cell?, h3]; exact h5.2.2 k hk j u hj⟩
def RcV (e : Ending) (r : Rc) (F : FP) (w : World) : Prop := ∃ v, e = .returned (.agg (rcL v r).toArray) ∧ RdR castR w v r.c ∧ ∀ b, v.ownBlock = some b → F b
attribute [local go_sem ↓] loadRcd_hide storeRcd_hide in
theorem ry_Of (h : RyAt vy pb rb P R F w) (a t : Int) : Calls Tryz.prog 101 #[.pointer (some ⟨vy, 0, none⟩), .int .i64 a, .int .i64 t] w fun e w' => RcV e (if isAcc a ∧ (0 ≤ t ∧ t < 4) then R (kOf a t) else rc0) F w' ∧ Below w.heap.size w w' := by
 obtain ⟨Z, hZ⟩ : ∃ Z, Z = (rcL (.slice none 0 0) rc0).toArray := ⟨_, rfl⟩
 obtain ⟨W0, hW0⟩ : ∃ W0, W0 = w.alloc (.cells Z 148) := ⟨_, rfl⟩
 obtain ⟨ob, hob⟩ : ∃ ob, ob = w.heap.size := ⟨_, rfl⟩
 have hB0 : Below w.heap.size w W0 := by rw [hW0]; exact (Below.refl _ w).alloc (Nat.le_refl _) _
 have h0 : RyAt vy pb rb P R F W0 := Mem.below (m := ryM vy pb rb P R) h hB0
 have hz : W0.heap[ob]? = some (.cells Z 148 (0, 0)) := by rw [hW0, hob]; exact World.alloc_heap_new w _
 have hZs : Z.size = 9 := by rw [hZ]; rfl
 have hth : W0.there ob 0 9 := fun i hi => by
  refine ⟨?_, ?_⟩
  · rw [World.cell?, hz]
    simp [hZs, hi]
  · rw [World.frozen?, hz]; simp
 have hend : ∀ (v : Value) (r : Rc), (W0.setCells ob 0 (rcL v r)).rangeAt ob 0 (rcL v r) ∧ Below w.heap.size w (W0.setCells ob 0 (rcL v r)) := fun v r => by
  have g := setCells_grow (w := W0) (b := ob) (o := 0) (vs := rcL v r)
  exact ⟨World.rangeAt_setCells_same W0 ob 0 (rcL v r) hth, g.os.trans hB0.os, g.tape.trans hB0.tape, g.output.trans hB0.output, by rw [setCells_size]; exact hB0.size, fun k hk => (setCells_off (by rw [hob]; omega) _ _ _).trans (hB0.block k hk)⟩
 have HE := Lib.hid hend
 have HW0 := Lib.hid (And.intro hW0 (And.intro hob hZ))
 have HIS := Lib.hid (fun W => ref6_Is a W)
 have HTR := Lib.hid (fun W => ry_track t W)
 have st0 := run_storeRcd (v := .slice none 0 0) rfl (r := rc0) hth
 by_cases hin : isAcc a ∧ (0 ≤ t ∧ t < 4)
 · rw [if_pos hin]
   have hk := kOf_lt hin.1 hin.2
   have hat := ry_rec h0 hin.1 hin.2
   obtain ⟨k, hkk⟩ : ∃ k, k = kOf a t := ⟨_, rfl⟩
   rw [← hkk] at hk hat ⊢
   obtain ⟨v, hrd, hown, hra⟩ := h0.rcd hk
   obtain ⟨ao, cap, rfl⟩ := hrd.lenOf
   obtain ⟨r, hr⟩ : ∃ r, r = R k := ⟨_, rfl⟩
   rw [← hr] at hrd hra hown ⊢
   obtain ⟨n, hn⟩ : ∃ n, n = r.c.length := ⟨_, rfl⟩
   rw [← hn] at hrd hra hown
   have ld := run_loadRcd hra
   have st := run_storeRcd (v := .slice ao n cap) rfl (r := r) hth
   have HAT := Lib.hid hat
   have hdec : decide (0 ≤ a ∧ a < 10) = true := decide_eq_true hin.1
   have hdec2 : decide (0 ≤ t ∧ t < 4) = true := decide_eq_true hin.2
   have HD := Lib.hid (And.intro hdec hdec2)
   have hres : RcV (.returned (.agg (rcL (.slice ao n cap) r).toArray)) r F (W0.setCells ob 0 (rcL (.slice ao n cap) r)) := by
    refine ⟨_, rfl, hrd.keep (by rw [setCells_size]; exact Nat.le_refl _) (fun b hb => setCells_off (fun e => ?_) _ _ _), hown⟩
    have := (ryM vy pb rb P R).lt (show (ryM vy pb rb P R).is F w from h) (hown b hb)
    rw [e, hob] at this
    omega
   obtain ⟨W1, hW1⟩ : ∃ W1, W1 = W0.setCells ob 0 (rcL (.slice ao n cap) r) := ⟨_, rfl⟩
   obtain ⟨U, hU⟩ : ∃ U, U = rcL (.slice ao n cap) r := ⟨_, rfl⟩
   have hrr := (hend (.slice ao n cap) r).1
   have hbb := (hend (.slice ao n cap) r).2
   have hlU : U.length = 9 := by rw [hU]; rfl
   rw [← hU] at ld st hres hrr hbb hW1
   rw [← hW1] at st hres hrr hbb
   have HR := Lib.hid (And.intro hres (And.intro hrr (And.intro hbb hlU)))
   clear h hkk hB0 h0 hz hZs hth hend st0 hin hk hat hrd hown hra hr hn hdec hdec2 hres hrr hbb hW1 hU hlU hW0 hob hZ HE
   go_enter Tryz.func101, Tryz.ntmps101
   go_upto_region 1 with fail
   have hz9 : (.cells #[.slice none 0 0, .bool false, .int .i64 0, .int .i64 0, .int .i64 0, .int .i64 0, .int .i64 0, .int .i64 0, .int .i64 0] 148 : Obj) = .cells Z 148 := by rw [HW0.out.2.2]; rfl
   rw [hz9, ← HW0.out.1, ← HW0.out.2.1]
   clear hz9
   go_wp2_with (first
    | (go_at_call 88; refine (HIS.out _).mono ?_; rw [HD.out.1]; rintro e w' ⟨rfl, hw⟩; rw [hw]; clear hw w')
    | (go_at_call 86; refine (HTR.out _).mono ?_; rw [HD.out.2]; rintro e w' ⟨rfl, hw⟩; rw [hw]; clear hw w')
    | (go_at_call 90; refine HAT.out.mono ?_; rintro e w' ⟨rfl, hw⟩; rw [hw]; clear hw w')
    | fail)
   exact bodyPost_ret (v := .agg U.toArray) (results_row Tryz.results101 rfl HR.out.2.1 Tryz.underlying148 (by kernel_rfl) (by rw [HR.out.2.2.2]; kernel_rfl)) rfl ⟨HR.out.1, HR.out.2.2.1⟩
 · rw [if_neg hin]
   have hdec : decide (0 ≤ a ∧ a < 10) = false ∨ (decide (0 ≤ a ∧ a < 10) = true ∧ decide (0 ≤ t ∧ t < 4) = false) := by
    by_cases q : 0 ≤ a ∧ a < 10
    · exact .inr ⟨decide_eq_true q, decide_eq_false (fun z => hin ⟨q, z⟩)⟩
    · exact .inl (decide_eq_false q)
   have hres : RcV (.returned (.agg (rcL (.slice none 0 0) rc0).toArray)) rc0 F (W0.setCells ob 0 (rcL (.slice none 0 0) rc0)) := ⟨_, rfl, .inl ⟨rfl, rfl⟩, fun b hb => by cases hb⟩
   obtain ⟨W1, hW1⟩ : ∃ W1, W1 = W0.setCells ob 0 (rcL (.slice none 0 0) rc0) := ⟨_, rfl⟩
   obtain ⟨U, hU⟩ : ∃ U, U = rcL (.slice none 0 0) rc0 := ⟨_, rfl⟩
   have hrr := (hend (.slice none 0 0) rc0).1
   have hbb := (hend (.slice none 0 0) rc0).2
   have hlU : U.length = 9 := by rw [hU]; rfl
   rw [← hU] at st0 hres hrr hbb hW1
   rw [← hW1] at st0 hres hrr hbb
   have HR := Lib.hid (And.intro hres (And.intro hrr (And.intro hbb hlU)))
   have HU := Lib.hid hU
   clear h hB0 h0 hz hZs hth hend hin hres hrr hbb hW1 hU hlU hW0 hob hZ HE
   rcases hdec with hd | ⟨hd, hd2⟩
   · have HD := Lib.hid hd
     clear hd
     go_enter Tryz.func101, Tryz.ntmps101
     go_upto_region 1 with fail
     have hz9 : (.cells #[.slice none 0 0, .bool false, .int .i64 0, .int .i64 0, .int .i64 0, .int .i64 0, .int .i64 0, .int .i64 0, .int .i64 0] 148 : Obj) = .cells Z 148 := by rw [HW0.out.2.2]; rfl
     rw [hz9, ← HW0.out.1, ← HW0.out.2.1]
     clear hz9
     rw [HU.out] at st0
     unfold rcL rc0 at st0
     go_wp2_with (first
      | (go_at_call 88; refine (HIS.out _).mono ?_; rw [HD.out]; rintro e w' ⟨rfl, hw⟩; rw [hw]; clear hw w')
      | fail)
     exact bodyPost_ret (v := .agg U.toArray) (results_row Tryz.results101 rfl HR.out.2.1 Tryz.underlying148 (by kernel_rfl) (by rw [HR.out.2.2.2]; kernel_rfl)) rfl ⟨HR.out.1, HR.out.2.2.1⟩
   · have HD := Lib.hid (And.intro hd hd2)
     clear hd hd2
     go_enter Tryz.func101, Tryz.ntmps101
     go_upto_region 1 with fail
     have hz9 : (.cells #[.slice none 0 0, .bool false, .int .i64 0, .int .i64 0, .int .i64 0, .int .i64 0, .int .i64 0, .int .i64 0, .int .i64 0] 148 : Obj) = .cells Z 148 := by rw [HW0.out.2.2]; rfl
     rw [hz9, ← HW0.out.1, ← HW0.out.2.1]
     clear hz9
     rw [HU.out] at st0
     unfold rcL rc0 at st0
     go_wp2_with (first
      | (go_at_call 88; refine (HIS.out _).mono ?_; rw [HD.out.1]; rintro e w' ⟨rfl, hw⟩; rw [hw]; clear hw w')
      | (go_at_call 86; refine (HTR.out _).mono ?_; rw [HD.out.2]; rintro e w' ⟨rfl, hw⟩; rw [hw]; clear hw w')
      | fail)
     exact bodyPost_ret (v := .agg U.toArray) (results_row Tryz.results101 rfl HR.out.2.1 Tryz.underlying148 (by kernel_rfl) (by rw [HR.out.2.2.2]; kernel_rfl)) rfl ⟨HR.out.1, HR.out.2.2.1⟩
end
end
section
open Go.RowKit Go.Maps
section
variable {vy pb rb : Nat} {S S' : Vs} {F : FP} {w w' W : World}
theorem tbal_fresh {P : Nat → Pl} {k : Nat} {p : Pl} (t : Int) {l : List (Int × Bal)} (h : ∀ x ∈ l, x.1.toNat ≠ k) : tbal (putP P k p) t l = tbal P t l := by
 unfold tbal
 exact List.filter_congr (fun x hx => by rw [putP_other _ _ (h x hx)])
theorem rec_open (hi : VInv S) {k : Nat} (h0 : (S.P k).st = 0) (p : Pl) : ∀ j, j < 40 → rcOf S j = rcOf { S with P := putP S.P k p } j :=
 rec_same (fun a' t' _ _ => Rc.eq (tbal_fresh t' (fun x hx e => (hi.row a' x hx).2.1 (by rw [e]; exact h0))) rfl rfl rfl rfl rfl rfl rfl)
theorem ryS_Open (h : RyAt vy pb rb S.P (rcOf S) F w) (hi : VInv S) (r t : Int) : Calls Tryz.prog 31 #[.pointer (some ⟨vy, 0, none⟩), .int .i64 r, .int .i64 t] w fun e w' => e = .returned (.int .i64 (openE S.P r t)) ∧ (ryS vy pb rb (openS S r t)).to F w w' := by
 refine (ry_Open h r t).mono fun e w' ⟨he, hw⟩ => ⟨he, ?_⟩
 unfold openP at hw
 unfold openS
 by_cases e0 : openE S.P r t = 0
 · rw [if_pos e0] at hw ⊢
   have hst : (S.P r.toNat).st = 0 := by
    unfold openE at e0
    split at e0
    · cases e0
    · split at e0
      · cases e0
      · rename_i q; exact Classical.not_not.1 q
   exact ry_congr hw (fun _ _ => rfl) (rec_open hi hst _)
 · rw [if_neg e0] at hw ⊢
   exact hw
theorem ryS_Close (h : RyAt vy pb rb S.P (rcOf S) F w) (r st en : Int) : Calls Tryz.prog 32 #[.pointer (some ⟨vy, 0, none⟩), .int .i64 r, .int .i64 st, .int .i64 en] w fun e w' => e = .returned (.int .i64 (closeE S.P r st)) ∧ (ryS vy pb rb (closeS S r st en)).to F w w' := by
 refine (ry_Close h r st en).mono fun e w' ⟨he, hw⟩ => ⟨he, ?_⟩
 unfold closeP at hw
 unfold closeS
 by_cases e0 : closeE S.P r st = 0
 · rw [if_pos e0] at hw ⊢
   exact ry_congr hw (fun _ _ => rfl) (rec_polls S (fun i => putP_tr (k := r.toNat) (p := ⟨st, (S.P r.toNat).tr, (S.P r.toNat).ay, (S.P r.toNat).na, (S.P r.toNat).su, en⟩) rfl i))
 · rw [if_neg e0] at hw ⊢
   exact hw
end
end
section
open Go.RowKit Go.Maps
theorem Mem.l_at {m n : Mem} {A B F : FP} {w : World} (h1 : m.is A w) (h2 : n.is B w) (h3 : ∀ k, A k → ¬ B k) (h4 : ∀ k, F k ↔ A k ∨ B k) (m' : Mem) (w' : World) (ht : m'.to A w w') : (m'.star n).to F w w' := by
 obtain ⟨A', k1, k2, k3⟩ := ht
 refine ⟨fun k => A' k ∨ B k, ⟨A', B, k1, n.keep h2 k3.grow (fun k q => k3.block k (n.lt h2 q) (fun p => h3 k p q) (fun p => p)), fun k q p => ?_, fun k => Iff.rfl⟩, fun k q => ?_, k3.grow, fun j hj p1 p2 => k3.block j hj (fun p => p1 ((h4 j).2 (.inl p))) p2⟩
 · rcases k2 k q with e | e
   · exact h3 k e p
   · have := n.lt h2 p; omega
 · rcases q with q | q
   · exact (k2 k q).imp (fun e => (h4 k).2 (.inl e)) id
   · exact .inl ((h4 k).2 (.inr q))
theorem Mem.r_at {m n : Mem} {A B F : FP} {w : World} (h1 : m.is A w) (h2 : n.is B w) (h3 : ∀ k, A k → ¬ B k) (h4 : ∀ k, F k ↔ A k ∨ B k) (n' : Mem) (w' : World) (ht : n'.to B w w') : (m.star n').to F w w' :=
 Mem.to_comm (Mem.l_at h2 h1 (fun k p q => h3 k q p) (fun k => (h4 k).trans Or.comm) n' w' ht)
def lvM (g vb N : Nat) (A : Acc) (M : Cls Int) (S : Vs) : Mem where
 is F w := LvAt g vb N S A M F w
 keep := fun h hg hk => h.keep hg hk
 lt := fun h hk => h.lt hk
structure Bp where
 p : Nat
 g : Nat
 vb : Nat
 N : Nat
 x : Nat
 ab : Nat
 y : Nat
 pb : Nat
 rb : Nat
def Bp.obj (d : Bp) (now : Int) : Obj := .cells #[.pointer (some ⟨d.g, 0, none⟩), .pointer (some ⟨d.vb, 0, none⟩), .pointer (some ⟨d.x, 0, none⟩), .pointer (some ⟨d.y, 0, none⟩), .int .i64 now] 38
structure Sx where
 A : Acc
 M : Cls Int
 S : Vs
def bwM (d : Bp) (now : Int) (s r : Sx) : Mem := (Mem.one d.p (d.obj now)).star ((lvM d.g d.vb d.N s.A s.M s.S).star (rrM d.x d.ab d.y d.pb d.rb r.A r.M r.S))
structure Sx.Ok (s : Sx) : Prop where
 inv : VInv s.S
 key : KeyBox s.M
section
variable {d : Bp} {now : Int} {s r s' r' : Sx} {F : FP} {w w' W : World}
theorem bw_cells (h : (bwM d now s r).is F w) : w.cell? ⟨d.p, 0, none⟩ = some (.pointer (some ⟨d.g, 0, none⟩)) ∧ w.cell? ⟨d.p, 1, none⟩ = some (.pointer (some ⟨d.vb, 0, none⟩)) ∧ w.cell? ⟨d.p, 2, none⟩ = some (.pointer (some ⟨d.x, 0, none⟩)) ∧ w.cell? ⟨d.p, 3, none⟩ = some (.pointer (some ⟨d.y, 0, none⟩)) ∧ w.cell? ⟨d.p, 4, none⟩ = some (.int .i64 now) := by
 obtain ⟨A, B, ⟨h1, h2⟩, -⟩ := h
 exact ⟨by rw [World.cell?, h2]; rfl, by rw [World.cell?, h2]; rfl, by rw [World.cell?, h2]; rfl, by rw [World.cell?, h2]; rfl, by rw [World.cell?, h2]; rfl⟩
theorem bw_pv (h : (bwM d now s r).is F w) (hs : s.Ok) (hN : d.N ≤ d.p) : ∃ Zn, PvAt d.p d.g d.vb d.N s.S s.A s.M now Zn w ∧ ∀ s' w', PvTo d.p d.g d.vb d.N s'.S s'.A s'.M now Zn w w' → (bwM d now s' r).to F w w' := by
 obtain ⟨A, B, ⟨a1, a2⟩, hb, c1, c2⟩ := h
 have hb0 := hb
 obtain ⟨Zn, C, l, q, z1, z2⟩ := hb
 refine ⟨Zn, ⟨l, hs.inv, hs.key, ⟨_, _, a2⟩, fun hz => c1 d.p ((a1 d.p).2 rfl) ((z2 d.p).2 (.inl hz)), hN⟩, fun s' w' ht => ?_⟩
 obtain ⟨Z', p1, p2, p3⟩ := ht
 exact Mem.r_at (m := Mem.one d.p (d.obj now)) ⟨a1, a2⟩ hb0 c1 c2 _ _ (Mem.l_at (m := lvM d.g d.vb d.N s.A s.M s.S) l q z1 z2 (lvM d.g d.vb d.N s'.A s'.M s'.S) w' ⟨Z', p1.lv, p2, p3⟩)
theorem bw_rr (h : (bwM d now s r).is F w) : ∃ B, (rrM d.x d.ab d.y d.pb d.rb r.A r.M r.S).is B w ∧ ∀ r' w', (rrM d.x d.ab d.y d.pb d.rb r'.A r'.M r'.S).to B w w' → (bwM d now s r').to F w w' := by
 obtain ⟨B, k1, k2, k3⟩ := Mem.r h
 obtain ⟨C, l1, l2, l3⟩ := Mem.r k1
 exact ⟨C, l1, fun r' w' ht => k3 _ _ (l3 _ _ ht)⟩
theorem bw_below (h : (bwM d now s r).is F w) (hb : Below w.heap.size w w') : (bwM d now s r).is F w' := Mem.below h hb
theorem bw_now (h : (bwM d now s r).is F w) (n : Int) : (bwM d n s r).to F w (w.setCell ⟨d.p, 4, none⟩ (.int .i64 n)) := by
 obtain ⟨A, B, ⟨a1, a2⟩, hb, c1, c2⟩ := h
 refine Mem.l_at (m := Mem.one d.p (d.obj now)) ⟨a1, a2⟩ hb c1 c2 _ _ ⟨A, ⟨a1, ?_⟩, fun k hk => .inl hk, ⟨⟨rfl, rfl, rfl, by simp [World.setCell]⟩, fun k hk h1 _ => Below.heap_setCell _ _ _ k (fun e => h1 ((a1 k).2 e))⟩⟩
 have := block_set (w := w) (b := d.p) (i := 4) (.int .i64 n) a2
 exact this
end
end
section
open Go.RowKit Go.Maps
section
variable {d : Bp} {now : Int} {s r s' r' : Sx} {F : FP} {w w' W W' : World} {nb : Nat} {o : Obj}
theorem Mem.to_boxed {m : Mem} {o : Obj} (h : (m.star (Mem.one w.heap.size o)).to (fun k => F k ∨ k = w.heap.size) (w.alloc o) W) : m.to F w W := by
 obtain ⟨G, ⟨A, B, h1, h2, h3, h4⟩, g2, g3⟩ := h
 have hs : (w.alloc o).heap.size = w.heap.size + 1 := World.size_alloc _ _
 refine ⟨A, h1, fun k hk => ?_, ⟨⟨g3.grow.os, g3.grow.tape, g3.grow.output, by have := g3.grow.size; omega⟩, fun k hk h5 h6 => ?_⟩⟩
 · rcases g2 k ((h4 k).2 (.inl hk)) with (e | e) | e
   · exact .inl e
   · exact .inr (by omega)
   · exact .inr (by omega)
 · exact (g3.block k (by omega) (fun q => q.elim h5 (fun e => by omega)) h6).trans (Below.heap_alloc _ _ _ hk)
def BwA (d : Bp) (now : Int) (s r : Sx) (nb : Nat) (o : Obj) (F : FP) (w W : World) : Prop := ((bwM d now s r).star (Mem.one nb o)).to (fun k => F k ∨ k = nb) w W
theorem BwA.start (h : (bwM d now s r).is F w) (o : Obj) : BwA d now s r w.heap.size o F (w.alloc o) (w.alloc o) := by
 have hb : Below w.heap.size w (w.alloc o) := (Below.refl _ w).alloc (Nat.le_refl _) _
 exact ⟨_, Mem.join_new h hb (Mem.one_new w o) (fun k hk => by rw [hk]; exact Nat.le_refl _), fun k hk => .inl hk, Only.of_later (Below.refl _ _)⟩
theorem BwA.below (h : BwA d now s r nb o F w W) (hb : Below W.heap.size W W') : BwA d now s r nb o F w W' := Mem.to_then_below h hb
theorem BwA.drew (h : BwA d now s r nb o F w W) : BwA d now s r nb o F w W.drew := h.below (Below.refl _ W).drew
theorem BwA.pv (h : BwA d now s r nb o F w W) (hs : s.Ok) (hN : d.N ≤ d.p) : ∃ Zn, PvAt d.p d.g d.vb d.N s.S s.A s.M now Zn W ∧ ∀ s' w', PvTo d.p d.g d.vb d.N s'.S s'.A s'.M now Zn W w' → BwA d now s' r nb o F w w' := by
 obtain ⟨F1, h1, -, lift⟩ := Mem.next h
 obtain ⟨A, h2, -, l2⟩ := Mem.l h1
 obtain ⟨Zn, h3, l3⟩ := bw_pv h2 hs hN
 exact ⟨Zn, h3, fun s' w' ht => lift _ _ (l2 _ _ (l3 s' w' ht))⟩
theorem BwA.rr (h : BwA d now s r nb o F w W) : ∃ B, (rrM d.x d.ab d.y d.pb d.rb r.A r.M r.S).is B W ∧ ∀ r' w', (rrM d.x d.ab d.y d.pb d.rb r'.A r'.M r'.S).to B W w' → BwA d now s r' nb o F w w' := by
 obtain ⟨F1, h1, -, lift⟩ := Mem.next h
 obtain ⟨A, h2, -, l2⟩ := Mem.l h1
 obtain ⟨B, h3, l3⟩ := bw_rr h2
 exact ⟨B, h3, fun r' w' ht => lift _ _ (l2 _ _ (l3 r' w' ht))⟩
theorem BwA.ry (h : BwA d now s r nb o F w W) : ∃ B, RyAt d.y d.pb d.rb r.S.P (rcOf r.S) B W ∧ ∀ S' w', (ryS d.y d.pb d.rb S').to B W w' → BwA d now s ⟨r.A, r.M, S'⟩ nb o F w w' := by
 obtain ⟨B, h1, l1⟩ := h.rr
 obtain ⟨C, h2, -, l2⟩ := rr_y h1
 exact ⟨C, h2, fun S' w' ht => l1 ⟨r.A, r.M, S'⟩ w' (l2 S' w' ht)⟩
theorem BwA.rl (h : BwA d now s r nb o F w W) : ∃ B, RlAt d.x d.ab B r.A r.M W ∧ ∀ A' M' w', (rlM d.x d.ab A' M').to B W w' → BwA d now s ⟨A', M', r.S⟩ nb o F w w' := by
 obtain ⟨B, h1, l1⟩ := h.rr
 obtain ⟨C, h2, -, l2⟩ := rr_l h1
 exact ⟨C, h2, fun A' M' w' ht => l1 ⟨A', M', r.S⟩ w' (l2 A' M' w' ht)⟩
theorem BwA.tick (h : BwA d now s r nb o F w W) (n : Int) : BwA d n s r nb o F w (W.setCell ⟨d.p, 4, none⟩ (.int .i64 n)) := by
 obtain ⟨F1, h1, -, lift⟩ := Mem.next h
 obtain ⟨A, h2, -, l2⟩ := Mem.l h1
 exact lift _ _ (l2 _ _ (bw_now h2 n))
theorem BwA.box (h : BwA d now s r nb o F w W) : W.heap[nb]? = some o := by
 obtain ⟨F1, h1, -, -⟩ := Mem.next h
 obtain ⟨A, h2, -, -⟩ := Mem.r h1
 exact h2.2
theorem BwA.cells (h : BwA d now s r nb o F w W) : W.cell? ⟨d.p, 0, none⟩ = some (.pointer (some ⟨d.g, 0, none⟩)) ∧ W.cell? ⟨d.p, 1, none⟩ = some (.pointer (some ⟨d.vb, 0, none⟩)) ∧ W.cell? ⟨d.p, 2, none⟩ = some (.pointer (some ⟨d.x, 0, none⟩)) ∧ W.cell? ⟨d.p, 3, none⟩ = some (.pointer (some ⟨d.y, 0, none⟩)) ∧ W.cell? ⟨d.p, 4, none⟩ = some (.int .i64 now) := by
 obtain ⟨F1, h1, -, -⟩ := Mem.next h
 obtain ⟨A, h2, -, -⟩ := Mem.l h1
 exact bw_cells h2
theorem bw_facts (h : (bwM d now s r).is F w) (hs : s.Ok) (hN : d.N ≤ d.p) : SrtS s.S ∧ s.M.length ≤ 10000 := by
 obtain ⟨Zn, h1, -⟩ := bw_pv h hs hN
 exact ⟨h1.srtD, Nat.le_of_lt h1.lenM⟩
end
end
section
open Go.RowKit Go.Maps Go.Shelf
section
variable {d : Bp} {now : Int} {s r : Sx} {F : FP} {w w' W : World} {nb : Nat} {o : Obj}
theorem BwA.frozen (h : BwA d now s r nb o F w W) (i : Nat) : W.frozen? ⟨d.p, i, none⟩ = false := by
 obtain ⟨F1, h1, -, -⟩ := Mem.next h
 obtain ⟨A, h2, -, -⟩ := Mem.l h1
 obtain ⟨A, B, ⟨-, h3⟩, -⟩ := h2
 rw [World.frozen?, h3]
 simp [Bp.obj]
theorem law11_act_Tick (a r t st who lv n : Int) (x : Bal) (h0 : (bwM d now s s).is F w) : Calls Tryz.prog 8 #[.pointer (some ⟨d.p, 0, none⟩), .agg #[.int .i64 8, .int .i64 a, .int .i64 r, .int .i64 t, .int .i64 st, .int .i64 who, .int .i64 lv, .int .i64 n, .int .i64 x.k, .bool x.aye, .int .i64 x.l, .int .i64 x.a, .int .i64 x.n, .int .i64 x.s]] w fun e w' => e = .returned (.bool true) ∧ ∃ now', (bwM d now' s s).to F w w' := by
 obtain ⟨nb, hnb⟩ : ∃ nb, nb = w.heap.size := ⟨_, rfl⟩
 have s0 := BwA.start h0 (.cells #[.int .i64 8, .int .i64 a, .int .i64 r, .int .i64 t, .int .i64 st, .int .i64 who, .int .i64 lv, .int .i64 n, .int .i64 x.k, .bool x.aye, .int .i64 x.l, .int .i64 x.a, .int .i64 x.n, .int .i64 x.s] 30)
 obtain ⟨w0, hw0⟩ : ∃ w0, w0 = w.alloc (.cells #[.int .i64 8, .int .i64 a, .int .i64 r, .int .i64 t, .int .i64 st, .int .i64 who, .int .i64 lv, .int .i64 n, .int .i64 x.k, .bool x.aye, .int .i64 x.l, .int .i64 x.a, .int .i64 x.n, .int .i64 x.s] 30) := ⟨_, rfl⟩
 obtain ⟨OB, hOB⟩ : ∃ OB : Obj, OB = .cells #[.int .i64 8, .int .i64 a, .int .i64 r, .int .i64 t, .int .i64 st, .int .i64 who, .int .i64 lv, .int .i64 n, .int .i64 x.k, .bool x.aye, .int .i64 x.l, .int .i64 x.a, .int .i64 x.n, .int .i64 x.s] 30 := ⟨_, rfl⟩
 have hfin : ∀ W now', BwA d now' s s nb OB F w0 W → (bwM d now' s s).to F w W := fun W now' h => by
  rw [hw0, ← hOB, hnb] at h
  exact Mem.to_boxed h
 rw [← hw0, ← hOB, ← hnb] at s0
 have q0 : w0.cell? ⟨nb, 0, none⟩ = some (.int .i64 8) := by rw [World.cell?, BwA.box s0, hOB]; rfl
 have q7 : w0.cell? ⟨nb, 7, none⟩ = some (.int .i64 n) := by rw [World.cell?, BwA.box s0, hOB]; rfl
 have q7d : w0.drew.cell? ⟨nb, 7, none⟩ = some (.int .i64 n) := q7
 have q4 := s0.cells.2.2.2.2
 have q4d := s0.drew.cells.2.2.2.2
 have qf := s0.frozen 4
 have qfd := s0.drew.frozen 4
 have HF := Lib.hid hfin
 have S0d := Lib.hid (fun n => (s0.tick n).drew)
 have HNB := Lib.hid hnb
 have HW := Lib.hid hw0
 clear h0 s0 hnb hw0 hOB hfin
 go_enter Tryz.func8, Tryz.ntmps8
 go_upto_region 1 with fail
 rw [← HW.out, ← HNB.out]
 go_upto_region 17 with fail
 go_still_tail 12, (by kernel_rfl)
 change wpList _ _ _ _ _ w0.drew
 go_wp2_with fail
 exact bodyPost_ret (v := .bool true) (by simp [results, Tryz.results8, go_sem]) rfl ⟨rfl, _, HF.out _ _ (S0d.out _)⟩
end
end
section
open Go.RowKit Go.Maps
theorem eqW_same (x : Wgt) (w : World) : (binOp .eql 82 (.agg (wgtS.f x).toArray) (.agg (wgtS.f x).toArray)).run Tryz.prog w = .ok (.bool true) w := by
 have hI : Tryz.prog.plainKey 3 = true := by kernel_rfl
 have q0 := run_part_plain (P := Tryz.prog) w (e := 3) hI (xs := (wgtS.f x).toArray) (off := 0) (v := .int .i64 x.v) rfl
 have q1 := run_part_plain (P := Tryz.prog) w (e := 3) hI (xs := (wgtS.f x).toArray) (off := 1) (v := .int .i64 x.c) rfl
 have eI := fun x y => run_equalIn_int (P := Tryz.prog) w 9998 3 .i64 .i64 x y Tryz.underlying3
 have hf : Tryz.prog.underlying 82 = some (.struct (Tryz.prog.fieldsOf 82)) := by kernel_rfl
 rw [run_eql_struct, show (10000 : Nat) = 9999 + 1 from rfl, run_equalIn_struct w 9999 82 _ _ hf (by kernel_rfl)]
 simp [Program.fieldsOf, Tryz.underlying82, Op.eqFields, q0, q1, eI, Result.andThen]
theorem neT_same (x : Tl) (w : World) : (binOp .neq 41 (.agg (tlyS.f x).toArray) (.agg (tlyS.f x).toArray)).run Tryz.prog w = .ok (.bool false) w := by
 have hI : Tryz.prog.plainKey 3 = true := by kernel_rfl
 have q0 := run_part_plain (P := Tryz.prog) w (e := 3) hI (xs := (tlyS.f x).toArray) (off := 0) (v := .int .i64 x.a) rfl
 have q1 := run_part_plain (P := Tryz.prog) w (e := 3) hI (xs := (tlyS.f x).toArray) (off := 1) (v := .int .i64 x.n) rfl
 have q2 := run_part_plain (P := Tryz.prog) w (e := 3) hI (xs := (tlyS.f x).toArray) (off := 2) (v := .int .i64 x.s) rfl
 have eI := fun x y => run_equalIn_int (P := Tryz.prog) w 9998 3 .i64 .i64 x y Tryz.underlying3
 have hf : Tryz.prog.underlying 41 = some (.struct (Tryz.prog.fieldsOf 41)) := by kernel_rfl
 rw [run_neq_struct, show (10000 : Nat) = 9999 + 1 from rfl, run_equalIn_struct w 9999 41 _ _ hf (by kernel_rfl)]
 simp [Program.fieldsOf, Tryz.underlying41, Op.eqFields, q0, q1, q2, eI, Result.andThen]
theorem eqV_same (x : Bal) (d : Nat) (w : World) : (Op.equalIn (d + 2) 28 (.agg (balS.f x).toArray) (.agg (balS.f x).toArray)).run Tryz.prog w = .ok true w := by
 have hI : Tryz.prog.plainKey 3 = true := by kernel_rfl
 have hB : Tryz.prog.plainKey 4 = true := by kernel_rfl
 have q0 := run_part_plain (P := Tryz.prog) w (e := 3) hI (xs := (balS.f x).toArray) (off := 0) (v := .int .i64 x.k) rfl
 have q1 := run_part_plain (P := Tryz.prog) w (e := 4) hB (xs := (balS.f x).toArray) (off := 1) (v := .bool x.aye) rfl
 have q2 := run_part_plain (P := Tryz.prog) w (e := 3) hI (xs := (balS.f x).toArray) (off := 2) (v := .int .i64 x.l) rfl
 have q3 := run_part_plain (P := Tryz.prog) w (e := 3) hI (xs := (balS.f x).toArray) (off := 3) (v := .int .i64 x.a) rfl
 have q4 := run_part_plain (P := Tryz.prog) w (e := 3) hI (xs := (balS.f x).toArray) (off := 4) (v := .int .i64 x.n) rfl
 have q5 := run_part_plain (P := Tryz.prog) w (e := 3) hI (xs := (balS.f x).toArray) (off := 5) (v := .int .i64 x.s) rfl
 have eI := fun x y => run_equalIn_int (P := Tryz.prog) w d 3 .i64 .i64 x y Tryz.underlying3
 have eB := fun x y => run_equalIn_bool' (P := Tryz.prog) w d 4 x y Tryz.underlying4
 have hf : Tryz.prog.underlying 28 = some (.struct (Tryz.prog.fieldsOf 28)) := by kernel_rfl
 rw [show d + 2 = (d + 1) + 1 from rfl, run_equalIn_struct w (d + 1) 28 _ _ hf (by kernel_rfl)]
 simp [Program.fieldsOf, Tryz.underlying28, Op.eqFields, q0, q1, q2, q3, q4, q5, eI, eB, Result.andThen]
theorem partV (x : Int × Bal) (w : World) : (part 28 (castR.f x).toArray 1).run Tryz.prog w = .ok (.agg (balS.f x.2).toArray) w := by
 simp [part, isAgg, run_underlying Tryz.underlying28]
 rfl
theorem neC_same (x : Int × Bal) (w : World) : (binOp .neq 56 (.agg (castR.f x).toArray) (.agg (castR.f x).toArray)).run Tryz.prog w = .ok (.bool false) w := by
 have hI : Tryz.prog.plainKey 3 = true := by kernel_rfl
 have q0 := run_part_plain (P := Tryz.prog) w (e := 3) hI (xs := (castR.f x).toArray) (off := 0) (v := .int .i64 x.1) rfl
 have q1 := partV x w
 have eI := fun x y => run_equalIn_int (P := Tryz.prog) w 9998 3 .i64 .i64 x y Tryz.underlying3
 have eV := eqV_same x.2 9997 w
 have hf : Tryz.prog.underlying 56 = some (.struct (Tryz.prog.fieldsOf 56)) := by kernel_rfl
 rw [run_neq_struct, show (10000 : Nat) = 9999 + 1 from rfl, run_equalIn_struct w 9999 56 _ _ hf (by kernel_rfl)]
 simp [Program.fieldsOf, Tryz.underlying56, Op.eqFields, q0, q1, eI, eV, Result.andThen]
end
section
open Go.RowKit Go.Maps Go.Shelf
theorem VoX.casts {vb N : Nat} {S : Vs} {F : FP} {w : World} (h : VoX vb N S F w) (hi : VInv S) {a : Int} (ha : (Lit.int .i64 a).wf = true) (t : Int) (hl : (ballots S a t).length ≤ 100) :
 Calls Tryz.prog 14 #[.pointer (some ⟨vb, 0, none⟩), .int .i64 a, .int .i64 t] w fun e w' => ∃ v, e = .returned (.tuple #[v, .bool true]) ∧ OwnR castR w.heap.size v (ballots S a t) w' ∧ Below w.heap.size w w' := by
 refine law11_casts _ a t (ballots S a t) w (fun w' hb => ?_) hl
 have h' := h.below hb
 refine (h'.Votes (by have := (hi.lens h').1; omega) ha (fun x hx => (hi.row a x hx).1) t).mono ?_
 rintro e w2 ⟨bx, v, rfl, hbx, ho, hle, hb2⟩
 have hit := now1_iter_V 0 bx v (ballots S a t) w2 hbx ho.reads (by omega) (fun k => k < w2.heap.size) hbx.lt (fun k hk => (ho.block hk).2)
 exact ⟨_, _, rfl, enters_now_V, hit, hb2⟩
section
variable {d : Bp} {now : Int} {s r : Sx} {F : FP} {w w' W : World}
theorem bq_vo (h : (bwM d now s r).is F w) : ∃ Fv, VoX d.vb d.N s.S Fv w := by
 obtain ⟨B, k1, -, -⟩ := Mem.r h
 obtain ⟨Zn, l1, -, -⟩ := Mem.l k1
 obtain ⟨Fv, hx, -⟩ := LvAt.vo l1
 exact ⟨Fv, hx⟩
theorem bq_ld (h : (bwM d now s r).is F w) : ∃ Fl, LdX d.g d.N s.A s.M Fl w := by
 obtain ⟨B, k1, -, -⟩ := Mem.r h
 obtain ⟨Zn, l1, -, -⟩ := Mem.l k1
 obtain ⟨Fv, hx, -⟩ := LvAt.ld l1
 exact ⟨Fv, hx⟩
theorem bq_ry (h : (bwM d now s r).is F w) : ∃ B, RyAt d.y d.pb d.rb r.S.P (rcOf r.S) B w ∧ ∀ k, B k → F k := by
 obtain ⟨B, k1, k2, -⟩ := Mem.r h
 obtain ⟨C, l1, l2, -⟩ := Mem.r k1
 obtain ⟨D, m1, m2, -⟩ := rr_y l1
 exact ⟨D, m1, fun k hk => k2 k (l2 k (m2 k hk))⟩
theorem bq_rl (h : (bwM d now s r).is F w) : ∃ B, RlAt d.x d.ab B r.A r.M w := by
 obtain ⟨B, k1, k2, -⟩ := Mem.r h
 obtain ⟨C, l1, l2, -⟩ := Mem.r k1
 obtain ⟨D, m1, m2, -⟩ := rr_l l1
 exact ⟨D, m1⟩
theorem bq_casts (h : (bwM d now s r).is F w) (hi : VInv s.S) {a : Int} (ha : (Lit.int .i64 a).wf = true) (t : Int) (hl : (ballots s.S a t).length ≤ 100) :
 Calls Tryz.prog 14 #[.pointer (some ⟨d.vb, 0, none⟩), .int .i64 a, .int .i64 t] w fun e w' => ∃ v, e = .returned (.tuple #[v, .bool true]) ∧ OwnR castR w.heap.size v (ballots s.S a t) w' ∧ Below w.heap.size w w' := by
 obtain ⟨Fv, hx⟩ := bq_vo h
 exact hx.casts hi ha t hl
theorem bq_lends (h : (bwM d now s r).is F w) {a t : Int} (ha : (Lit.int .i64 a).wf = true) (ht : (Lit.int .i64 t).wf = true) : Calls Tryz.prog 16 #[.pointer (some ⟨d.vb, 0, none⟩), .int .i64 a, .int .i64 t] w fun e w' => e = .returned (.tuple #[.int .i64 (undD s.S a t).to, .int .i64 (undD s.S a t).l, .int .i64 (undD s.S a t).n, .bool (cget s.S.D a t).isSome]) ∧ Below w.heap.size w w' := by
 obtain ⟨Fv, hx⟩ := bq_vo h
 exact hx.delegating ha ht
theorem bq_prior (h : (bwM d now s r).is F w) {a t : Int} (ha : (Lit.int .i64 a).wf = true) (ht : (Lit.int .i64 t).wf = true) : Calls Tryz.prog 17 #[.pointer (some ⟨d.vb, 0, none⟩), .int .i64 a, .int .i64 t] w fun e w' => e = .returned (.tuple #[.int .i64 ((cget s.S.Q a t).getD ⟨0, 0⟩).v, .int .i64 ((cget s.S.Q a t).getD ⟨0, 0⟩).c]) ∧ Below w.heap.size w w' := by
 obtain ⟨Fv, hx⟩ := bq_vo h
 exact hx.prior ha ht
theorem bq_got (h : (bwM d now s r).is F w) {a t : Int} (ha : (Lit.int .i64 a).wf = true) (ht : (Lit.int .i64 t).wf = true) : Calls Tryz.prog 62 #[.pointer (some ⟨d.vb, 0, none⟩), .int .i64 a, .int .i64 t] w fun e w' => e = .returned (.agg #[.int .i64 (gotS s.S a t).v, .int .i64 (gotS s.S a t).c]) ∧ Below w.heap.size w w' := by
 obtain ⟨Fv, hx⟩ := bq_vo h
 exact hx.got ha ht
theorem bq_tally (h : (bwM d now s r).is F w) (hs : s.Ok) (hN : d.N ≤ d.p) (k : Int) : Calls Tryz.prog 13 #[.pointer (some ⟨d.vb, 0, none⟩), .int .i64 k] w fun e w' => e = .returned (.agg (tlyS.f (tallyOf s.S k)).toArray) ∧ Below w.heap.size w w' := by
 obtain ⟨Zn, hx, -⟩ := bw_pv h hs hN
 exact hx.vTally k
theorem bq_rtally (h : (bwM d now s r).is F w) (k : Int) : Calls Tryz.prog 43 #[.pointer (some ⟨d.y, 0, none⟩), .int .i64 k] w fun e w' => e = .returned (.agg (tlyS.f (tallyOf r.S k)).toArray) ∧ Below w.heap.size w w' := by
 obtain ⟨B, hx, -⟩ := bq_ry h
 exact ryS_Tally hx k
theorem bq_free (h : (bwM d now s r).is F w) (a : Int) : Calls Tryz.prog 19 #[.pointer (some ⟨d.g, 0, none⟩), .int .i64 a] w fun e w' => e = .returned (.int .i64 (accOf s.A a).1) ∧ w' = w := by
 obtain ⟨B, hx⟩ := bq_ld h
 exact ledger_FreeX hx a
theorem bq_locked (h : (bwM d now s r).is F w) {a : Int} (ha : (Lit.int .i64 a).wf = true) : Calls Tryz.prog 18 #[.pointer (some ⟨d.g, 0, none⟩), .int .i64 a] w fun e w' => e = .returned (.int .i64 (lockedOf s.M a)) ∧ Below w.heap.size w w' := by
 obtain ⟨B, hx⟩ := bq_ld h
 exact ledger_LockedX hx ha
theorem bq_rfree (h : (bwM d now s r).is F w) (a : Int) : Calls Tryz.prog 40 #[.pointer (some ⟨d.x, 0, none⟩), .int .i64 a] w fun e w' => e = .returned (.int .i64 (accOf r.A a).1) ∧ w' = w := by
 obtain ⟨B, hx⟩ := bq_rl h
 exact ref6_Free hx a
theorem bq_rlocked (h : (bwM d now s r).is F w) (hM : r.M.length ≤ 10000) (a : Int) : Calls Tryz.prog 41 #[.pointer (some ⟨d.x, 0, none⟩), .int .i64 a] w fun e w' => e = .returned (.int .i64 (lockedOf r.M a)) ∧ w' = w := by
 obtain ⟨B, hx⟩ := bq_rl h
 exact ref6_Locked hx a (Nat.le_trans (row_length _ a) (by omega))
theorem row_none {β : Type} {M : Cls β} (h : KeyBox M) {a : Int} (ha : ¬ isAcc a) : rowOf M a = [] :=
 List.eq_nil_iff_forall_not_mem.2 (fun x hx => ha (h _ (mem_rowOf.1 hx)).1)
theorem cget_none {β : Type} {M : Cls β} (h : KeyBox M) {a t : Int} (ha : ¬ isAcc a) : cget M a t = none := by
 unfold cget
 rw [row_none h ha]
 rfl
theorem rc_none {S : Vs} (hi : VInv S) {a : Int} (t : Int) (ha : ¬ isAcc a) : rcAt S a t = rc0 := by
 have h1 : ballots S a t = [] := by unfold ballots; rw [row_none hi.boxV ha]; rfl
 have h2 : cget S.D a t = none := cget_none hi.boxD ha
 have h3 : cget S.G a t = none := cget_none hi.g ha
 have h4 : cget S.Q a t = none := cget_none hi.q ha
 unfold rcAt gotS undD
 rw [h1, h2, h3, h4]
 rfl
theorem bq_of (h : (bwM d now s r).is F w) (hi : VInv r.S) (a : Int) {t : Int} (ht : 0 ≤ t ∧ t < 4) : Calls Tryz.prog 101 #[.pointer (some ⟨d.y, 0, none⟩), .int .i64 a, .int .i64 t] w fun e w' => RcV e (rcAt r.S a t) F w' ∧ Below w.heap.size w w' := by
 obtain ⟨B, hx, hB⟩ := bq_ry h
 refine (ry_Of hx a t).mono fun e w' ⟨⟨v, h1, h2, h3⟩, hb⟩ => ⟨?_, hb⟩
 by_cases ha : isAcc a
 · rw [if_pos ⟨ha, ht⟩, rcOf_at r.S ha ht] at h1 h2
   exact ⟨v, h1, h2, fun b hb => hB b (h3 b hb)⟩
 · rw [if_neg (fun q => ha q.1)] at h1 h2
   rw [rc_none hi t ha]
   exact ⟨v, h1, h2, fun b hb => hB b (h3 b hb)⟩
end
end
section
open Go.ChangeShapes Go.WideShapes Go.ChangeAt Go.RowKit Go.Deep Go.Maps
set_option linter.constructorNameAsVariable false
def RdS {P : Program} {α : Type} (r : RowTy P α) (w : World) (v : Value) (xs : List α) : Prop :=
 ∃ ao cap, v = .slice ao xs.length cap ∧ ∀ i (hi : i < xs.length), ∃ b off, ao = some ⟨b, off, none⟩ ∧ w.rangeAt b (off + i * r.k) (r.f xs[i]) ∧ b < w.heap.size
structure Ac where
 k : Int
 a : Int
 r : Int
 t : Int
 st : Int
 who : Int
 lv : Int
 n : Int
 x : Bal
instance : Inhabited Ac := ⟨⟨0, 0, 0, 0, 0, 0, 0, 0, ⟨0, false, 0, 0, 0, 0⟩⟩⟩
def acF (z : Ac) : List Value := [.int .i64 z.k, .int .i64 z.a, .int .i64 z.r, .int .i64 z.t, .int .i64 z.st, .int .i64 z.who, .int .i64 z.lv, .int .i64 z.n, .int .i64 z.x.k, .bool z.x.aye, .int .i64 z.x.l, .int .i64 z.x.a, .int .i64 z.x.n, .int .i64 z.x.s]
theorem acInfo : (Tryz.prog.info? 30).map (fun i => (i.zero, i.size, i.bytes)) = some (some (.agg #[.int .i64 0, .int .i64 0, .int .i64 0, .int .i64 0, .int .i64 0, .int .i64 0, .int .i64 0, .int .i64 0, .int .i64 0, .bool false, .int .i64 0, .int .i64 0, .int .i64 0, .int .i64 0]), 14, 112) := by kernel_rfl
def acR : RowTy Tryz.prog Ac where
 T := 30
 S := 23
 k := 14
 f := acF
 len := fun _ => rfl
 one := fun x u hu => by
  simp only [acF, List.mem_cons, List.not_mem_nil, or_false] at hu
  rcases hu with rfl | rfl | rfl | rfl | rfl | rfl | rfl | rfl | rfl | rfl | rfl | rfl | rfl | rfl <;> rfl
 pos := by decide
 small := by decide
 slice := Tryz.underlying23
 info := by
  obtain ⟨i0, hi, hz⟩ := Option.map_eq_some_iff.1 acInfo
  simp only [Prod.mk.injEq] at hz
  obtain ⟨h1, h2, h3⟩ := hz
  exact ⟨i0, _, _, hi, h1, h2, rfl, h3, by decide⟩
 row := ⟨_, Tryz.underlying30, rfl⟩
def AcWf (z : Ac) : Prop := (Lit.int .i64 z.a).wf = true ∧ (Lit.int .i64 z.r).wf = true ∧ (Lit.int .i64 z.t).wf = true
theorem fits_ac {cs : List Value} (h : Fits [some .i64, some .i64, some .i64, some .i64, some .i64, some .i64, some .i64, some .i64, some .i64, none, some .i64, some .i64, some .i64, some .i64] cs) : ∃ z : Ac, cs = acF z ∧ AcWf z := by
 obtain ⟨k, c1, rfl, w1, f1⟩ := fits_int h
 obtain ⟨a, c2, rfl, w2, f2⟩ := fits_int f1
 obtain ⟨r, c3, rfl, w3, f3⟩ := fits_int f2
 obtain ⟨t, c4, rfl, w4, f4⟩ := fits_int f3
 obtain ⟨st, c5, rfl, w5, f5⟩ := fits_int f4
 obtain ⟨who, c6, rfl, w6, f6⟩ := fits_int f5
 obtain ⟨lv, c7, rfl, w7, f7⟩ := fits_int f6
 obtain ⟨n, c8, rfl, w8, f8⟩ := fits_int f7
 obtain ⟨xk, c9, rfl, w9, f9⟩ := fits_int f8
 obtain ⟨xb, c10, rfl, f10⟩ := fits_bool f9
 obtain ⟨xl, c11, rfl, w11, f11⟩ := fits_int f10
 obtain ⟨xa, c12, rfl, w12, f12⟩ := fits_int f11
 obtain ⟨xn, c13, rfl, w13, f13⟩ := fits_int f12
 obtain ⟨xs, c14, rfl, w14, f14⟩ := fits_int f13
 obtain rfl := fits_nil f14
 exact ⟨⟨k, a, r, t, st, who, lv, n, ⟨xk, xb, xl, xa, xn, xs⟩⟩, rfl, w2, w3, w4⟩
section
variable {H : Type} {enc : TypeId × Value → H} {P : Program} {w : World} {base : Nat} {held : Bool}
theorem open_acsG (R : RowTy P Ac) (hRk : R.k = 14) (hRf : R.f = acF) {t e : TypeId} {v : Value} {d : DataW H} {p : List MemPlace} {r : Reach} {b0 : Nat} (n : Nat) (ht : P.underlying t = some (.slice e)) (hl : leaves P n e = some [some .i64, some .i64, some .i64, some .i64, some .i64, some .i64, some .i64, some .i64, some .i64, none, some .i64, some .i64, some .i64, some .i64]) (hc : P.cellsOf e = 14)
 (hv : Value.okWide P w r b0 t v) (h : DataW.Trod enc P w base (fun _ => true) held t v d p) : ∃ l : List Ac, RdS R w v l ∧ (l.length ≤ maxLen ∧ ∀ x ∈ l, AcWf x) := by
 rcases open_flats n ht hl hc hv h with rfl | ⟨a, len, cap, C, rfl, hle, hm, hC⟩
 · exact ⟨[], ⟨none, 0, rfl, fun i hi => absurd hi (Nat.not_lt_zero i)⟩, Nat.zero_le _, fun x hx => absurd hx (List.not_mem_nil)⟩
 · obtain ⟨T, hT⟩ := choose_lt (α := Ac) (p := fun i x => C i = acF x ∧ AcWf x) (fun i hi => fits_ac (hC i hi).1)
   have hlen : ((List.range len).map T).length = len := by simp
   refine ⟨(List.range len).map T, ⟨some a, cap, by rw [hlen], fun i hi => ?_⟩, by rw [hlen]; omega, fun x hx => ?_⟩
   · rw [hlen] at hi
     obtain ⟨hf, hcell⟩ := hC i (by omega)
     have hT' := (hT i (by omega)).1
     have hbl : ∀ j, j < 14 → w.cell? (a.add (i * 14 + j)) = (acF (T i))[j]? := fun j hj => by
      have := hcell j (by simpa using hj)
      rw [hT'] at this
      simpa using this
     have h0 : w.cell? (a.add (i * 14)) = some (.int .i64 (T i).k) := by have := hbl 0 (by omega); simpa [acF] using this
     have g0 := (hC 0 (by omega)).2 0 (by simp)
     rw [(hT 0 (by omega)).1] at g0
     have hsp := World.cell?_spot g0
     obtain ⟨blk, off, spot⟩ := a
     have hspot : spot = none := by simpa [Addr.add] using hsp
     subst hspot
     have hb := World.block_lt_of_cell? w _ h0
     have e : ((List.range len).map T)[i]'(by rw [hlen]; exact hi) = T i := by simp
     refine ⟨blk, off, rfl, fun j u hj => ?_, by simpa [Addr.add_mid] using hb⟩
     rw [e, hRf] at hj
     have hj4 : j < 14 := by
      have := (List.getElem?_eq_some_iff.1 hj).1
      simpa [acF] using this
     have := hbl j hj4
     rw [Addr.add_mid, ← Nat.add_assoc] at this
     rw [hRk, this]
     exact hj
   · obtain ⟨i, hi, rfl⟩ := List.mem_map.1 hx
     exact (hT i (by have := List.mem_range.1 hi; omega)).2
end
theorem open_acs {H : Type} {enc : TypeId × Value → H} {w : World} {base : Nat} {held : Bool} {v : Value} {d : DataW H} {p : List MemPlace} {r : Reach} {b0 : Nat} (n : Nat) (ht : Tryz.prog.underlying 23 = some (.slice 30)) (hl : leaves Tryz.prog n 30 = some [some .i64, some .i64, some .i64, some .i64, some .i64, some .i64, some .i64, some .i64, some .i64, none, some .i64, some .i64, some .i64, some .i64]) (hc : Tryz.prog.cellsOf 30 = 14)
 (hv : Value.okWide Tryz.prog w r b0 23 v) (h : DataW.Trod enc Tryz.prog w base (fun _ => true) held 23 v d p) : ∃ l : List Ac, RdS acR w v l ∧ (l.length ≤ maxLen ∧ ∀ x ∈ l, AcWf x) :=
 by
 have q := open_acsG (H := H) (enc := enc) (w := w) (base := base) (held := held) (v := v) (d := d) (p := p) (r := r) (b0 := b0) (t := 23) (e := 30) acR rfl rfl n ht hl hc
 revert hv h
 with_reducible exact q
end
section
open Go.RowKit Go.Maps Go.Shelf
theorem keys12 {β : Type} {l : List (Int × β)} (hs : SrtK l) (h : ∀ x ∈ l, 0 ≤ x.1 ∧ x.1 < 12) : l.length ≤ 12 := by
 have h1 : (l.map (fun x => x.1.toNat)).Pairwise (· < ·) := by
  rw [List.pairwise_map]
  refine List.Pairwise.imp_of_mem (fun {x y} hx hy hxy => ?_) hs
  have := h x hx
  have := h y hy
  omega
 have := rising_length 12 _ h1 (fun y hy => by
  obtain ⟨x, hx, rfl⟩ := List.mem_map.1 hy
  have := h x hx
  omega)
 rwa [List.length_map] at this
theorem castAt_below {w W : World} {b o : Nat} {x : Int × Bal} (h : w.rangeAt b o (castR.f x)) (hW : Below w.heap.size w W) : W.rangeAt b o (castR.f x) := by
 have h0 := h 0 _ rfl
 have hb : b < w.heap.size := by
  rw [World.cell?] at h0
  cases q : w.heap[b]? with
  | none => rw [q] at h0; cases h0
  | some o => exact (Array.getElem?_eq_some_iff.1 q).1
 exact rangeAt_block h (hW.block b hb)
theorem wf_small {x : Int} (h : -1 ≤ x ∧ x ≤ 12) : (Lit.int .i64 x).wf = true := by
 rcases (by omega : x = -1 ∨ x = 0 ∨ x = 1 ∨ x = 2 ∨ x = 3 ∨ x = 4 ∨ x = 5 ∨ x = 6 ∨ x = 7 ∨ x = 8 ∨ x = 9 ∨ x = 10 ∨ x = 11 ∨ x = 12) with rfl | rfl | rfl | rfl | rfl | rfl | rfl | rfl | rfl | rfl | rfl | rfl | rfl | rfl <;> decide
def neTly (a b : Value) : Sem Value := binOp .neq 41 a b
theorem neTly_hide (a b : Value) : binOp .neq 41 a b = neTly a b := rfl
theorem neTly_same (x : Tl) (w : World) : (neTly (.agg (tlyS.f x).toArray) (.agg (tlyS.f x).toArray)).run Tryz.prog w = .ok (.bool false) w := neT_same x w
end
section
open Go.RowKit Go.Maps Go.Shelf
def s11 (l : List Int) : Sx := ⟨accL (frees l), [], Vs.zero⟩
theorem s11_ok (l : List Int) : (s11 l).Ok := ⟨VInv.zero, fun x hx => (List.not_mem_nil hx).elim⟩
theorem law11_beginB (v : Value) (l : List Int) (w : World) (hr : RdI w v l) (hlen : l.length ≤ 1000) : Calls Tryz.prog 7 #[v] w fun e w' => ∃ d F, e = .returned (.pointer (some ⟨d.p, 0, none⟩)) ∧ (bwM d 0 (s11 l) (s11 l)).is F w' ∧ d.N = w.heap.size ∧ w.heap.size ≤ d.p ∧ (∀ k, F k → w.heap.size ≤ k) ∧ Below w.heap.size w w' := by
 obtain ⟨ao, cap, rfl⟩ := hr.lenOf
 obtain ⟨L, hL⟩ : ∃ L, L = l.length := ⟨_, rfl⟩
 rw [← hL] at hr hlen ⊢
 have HR := Lib.hid (And.intro hr hL)
 clear hr hL
 go_enter Tryz.func7, Tryz.ntmps7
 go_wp2_with fail
 go_loopw [3, 4] (fun u i wr => ∃ (k : Nat), k ≤ L ∧ k ≤ 10 ∧ i = .int .i64 k ∧ OwnN w.heap.size u (frees (l.take k)) wr ∧ Below w.heap.size w wr) (fun _ i _ => L - (intOf i).toNat)
 case atStart => exact ⟨0, by omega, by omega, rfl, OwnN.nil _ _, Below.refl _ _⟩
 case round =>
  obtain ⟨k, hk, hk10, rfl, how, hbl⟩ := hrel
  have hnl : (frees (l.take k)).length = k := by unfold frees; rw [List.length_map, List.length_take, List.length_take, ← HR.out.2]; omega
  have HS := Lib.hid (And.intro hnl (And.intro how hbl))
  by_cases hlt : k < L ∧ k < 10
  · obtain ⟨hlt, h10⟩ := hlt
    have hlt' : (k : Int) < L := by omega
    have h10' : (k : Int) < 10 := by omega
    obtain ⟨a, rfl, ca⟩ := (HR.out.1.below hbl).at (show k < l.length by rw [← HR.out.2]; exact hlt)
    obtain ⟨x, hx⟩ : ∃ x, x = l.getD k 0 := ⟨_, rfl⟩
    rw [← hx] at ca
    obtain ⟨z, hz⟩ : ∃ z, bits .and .i64 x 16777215 = z := ⟨_, rfl⟩
    have hsn := frees_snoc (l := l) (k := k) (by rw [← HR.out.2]; exact hlt) h10
    have HZ := Lib.hid (And.intro hsn (And.intro hx hz))
    clear hx hnl how hbl hsn
    go_wp2_with (first
     | (at_builtin; refine wpl_appN (B := w.heap.size) (ub := wr.heap.size) (xs := frees (l.take k)) (y := z) rfl rfl rfl rfl (HS.out.2.1.of (Nat.le_refl _) (fun k hk => Below.heap_alloc _ _ _ (HS.out.2.1.block hk).2)) (by rw [World.cell?, World.alloc_heap_new]; rfl) (by have := HS.out.1; omega) (by have := HS.out.2.2.size; rw [World.size_alloc]; omega) ?_; intro v' w4 hO4 hg4; have HO4 := Lib.hid hO4; have HG4 := Lib.hid hg4; clear hO4 hg4)
     | fail)
    go_roundw
    case rel =>
     refine ⟨k + 1, by omega, by omega, by go_num, ?_, ?_⟩
     · rw [HZ.out.1, ← HZ.out.2.1]
       unfold m24
       rw [HZ.out.2.2]
       exact HO4.out
     · exact Below.grown (HS.out.2.2.alloc HS.out.2.2.size _) HG4.out (by have := HS.out.2.2.size; rw [World.size_alloc]; omega) (fun j hj => (HS.out.2.1.block hj).1)
    case measure => simp [intOf]; omega
  · have hall : frees (l.take k) = frees l := by
     unfold frees
     rw [List.take_take]
     congr 1
     by_cases h1 : k < L
     · have e : k = 10 := by omega
       subst e; rfl
     · have e : k = l.length := by rw [← HR.out.2]; omega
       rw [e, List.take_of_length_le (by omega), List.take_of_length_le (by rw [← HR.out.2]; omega)]
    have hin : ∀ n ∈ frees l, 0 ≤ n ∧ n ≤ 16777215 := fun n hn => by
     obtain ⟨x, -, rfl⟩ := List.mem_map.1 hn
     exact m24_in x
    rw [hall] at hnl how HS
    have hok := newOk_24 (l := frees l) (by omega) hin
    have hrd := how.readsI
    have HK := Lib.hid (And.intro hok (And.intro hrd (show (frees l).length ≤ maxLen by unfold maxLen; omega)))
    have HK2 := Lib.hid (show (frees l).length ≤ 10 by omega)
    have hgd : ((k : Int) < L) = True ∧ ((k : Int) < 10) = False ∨ ((k : Int) < L) = False := by
     by_cases h1 : k < L
     · exact .inl ⟨by simp; omega, by simp; omega⟩
     · exact .inr (by simp; omega)
    clear hnl how hbl hok hrd hall hin hlt hk hk10
    rcases hgd with ⟨g1, g2⟩ | g1
    all_goals
     go_wp2_with (first
      | (go_at_call 27; refine (ledger_New_ok HK.out.2.1 HK.out.2.2 HK.out.1).mono ?_; rintro e w1 ⟨g, gl, rfl, hl, hb⟩; have H1 := Lib.hid (And.intro hl hb); clear hl hb)
      | (go_at_call 28; refine (ref6_New8 _ (frees l) w1 (HK.out.2.1.below H1.out.2) (Nat.le_trans HK2.out (by decide))).mono ?_; rintro e w2 ⟨hb, h⟩; obtain ⟨-, y6, rfl, ab6, F6, hr6, hf6⟩ := h.resolve_right (fun q => q.1 HK.out.1); have H2 := Lib.hid hb; have R2 := Lib.hid (And.intro hr6 hf6); clear hb hr6 hf6 h)
      | (go_at_call 29; refine (voting_NewV w2).mono ?_; rintro e w3 ⟨vb, gv, gd, gw, gp, FV, FD, FW, FQ, rfl, hv, hb⟩; have H3 := Lib.hid (And.intro hv hb); clear hv hb)
      | (go_at_call 30; refine (ref11_NewY w3).mono ?_; rintro e w4 ⟨vy, pb, rb, rfl, hry, hyf, hb⟩; have H4 := Lib.hid hb; have R4 := Lib.hid (And.intro hry hyf); clear hb hry hyf)
      | fail)
     have s1 := H1.out.2.size
     have s0 := HS.out.2.2.size
     have s2 := H2.out.size
     have s3 := H3.out.2.size
     have s4 := H4.out.size
     obtain ⟨FL, hld, -⟩ := LdX.of H1.out.1
     have hld1 := hld.lower s0
     have hvo3 := VoX.made (H3.out.1.lower (N' := w.heap.size) (by omega))
     have b5 : Below w4.heap.size w4 (w4.alloc (.cells #[.pointer (some ⟨g, 0, none⟩), .pointer (some ⟨vb, 0, none⟩), .pointer (some ⟨y6, 0, none⟩), .pointer (some ⟨vy, 0, none⟩), .int .i64 0] 38)) := (Below.refl _ w4).alloc (Nat.le_refl _) _
     have b45 := H4.out.trans (b5.mono s4)
     have b15 := H2.out.trans ((H3.out.2.trans (b45.mono s3)).mono s2)
     have hlt : ∀ k, (k = vb ∨ FV k ∨ FD k ∨ FW k ∨ FQ k) → w2.heap.size ≤ k ∧ k < w3.heap.size := fun k hk => ⟨by
      rcases hk with e | e
      · rw [e]; exact H3.out.1.off.nb
      · exact H3.out.1.off.n k e, H3.out.1.lt hk⟩
     have hlv : LvAt g vb w.heap.size Vs.zero (accL (frees l)) [] (fun k => (k = vb ∨ FV k ∨ FD k ∨ FW k ∨ FQ k) ∨ FL k) (w4.alloc (.cells #[.pointer (some ⟨g, 0, none⟩), .pointer (some ⟨vb, 0, none⟩), .pointer (some ⟨y6, 0, none⟩), .pointer (some ⟨vy, 0, none⟩), .int .i64 0] 38)) :=
      ⟨_, FL, hvo3.below b45, hld1.below b15, fun k hk hf => by have := hlt k hk; have := hld.lt hf; omega, fun k => Iff.rfl⟩
     have hrl : RlAt y6 ab6 F6 (accL (frees l)) [] (w4.alloc (.cells #[.pointer (some ⟨g, 0, none⟩), .pointer (some ⟨vb, 0, none⟩), .pointer (some ⟨y6, 0, none⟩), .pointer (some ⟨vy, 0, none⟩), .int .i64 0] 38)) := Mem.below (m := rlM y6 ab6 (accL (frees l)) []) R2.out.1 (H3.out.2.trans (b45.mono s3))
     have hry : RyAt vy pb rb Vs.zero.P (rcOf Vs.zero) (F3 vy pb rb) (w4.alloc (.cells #[.pointer (some ⟨g, 0, none⟩), .pointer (some ⟨vb, 0, none⟩), .pointer (some ⟨y6, 0, none⟩), .pointer (some ⟨vy, 0, none⟩), .int .i64 0] 38)) := Mem.below (m := ryM vy pb rb Vs.zero.P (rcOf Vs.zero)) R4.out.1 b5
     have l6 : ∀ k, F6 k → w1.heap.size ≤ k ∧ k < w2.heap.size := fun k hk => ⟨R2.out.2 k hk, (rlM y6 ab6 (accL (frees l)) []).lt (show (rlM y6 ab6 (accL (frees l)) []).is F6 w2 from R2.out.1) hk⟩
     have l3 : ∀ k, F3 vy pb rb k → w3.heap.size ≤ k ∧ k < w4.heap.size := fun k hk => ⟨R4.out.2 k hk, (ryM vy pb rb Vs.zero.P (rcOf Vs.zero)).lt (show (ryM vy pb rb Vs.zero.P (rcOf Vs.zero)).is (F3 vy pb rb) w4 from R4.out.1) hk⟩
     have hrr := Mem.join (m := rlM y6 ab6 (accL (frees l)) []) (n := ryS vy pb rb Vs.zero) hrl hry (fun k p q => by have := l6 k p; have := l3 k q; omega)
     have hl1 : ∀ k, FL k → k < w1.heap.size := fun k hk => hld.lt hk
     have hboth := Mem.join (m := lvM g vb w.heap.size (accL (frees l)) [] Vs.zero) hlv hrr (fun k p q => by
      rcases p with p | p
      · have h1 := hlt k p
        rcases q with q | q
        · have := l6 k q; omega
        · have := l3 k q; omega
      · have h1 := hl1 k p
        rcases q with q | q
        · have := l6 k q; omega
        · have := l3 k q; omega)
     have hall := Mem.join (m := Mem.one w4.heap.size (Bp.obj ⟨w4.heap.size, g, vb, w.heap.size, y6, ab6, vy, pb, rb⟩ 0)) (A := fun k => k = w4.heap.size) ⟨fun k => Iff.rfl, World.alloc_heap_new _ _⟩ hboth (fun k p q => by
      rcases q with (q | q) | (q | q)
      · have h1 := hlt k q; omega
      · have h1 := hl1 k q; omega
      · have := l6 k q; omega
      · have := l3 k q; omega)
     refine bodyPost_ret (v := .pointer (some ⟨w4.heap.size, 0, none⟩)) (by simp [results, Tryz.results7, go_sem]) rfl ⟨⟨w4.heap.size, g, vb, w.heap.size, y6, ab6, vy, pb, rb⟩, _, rfl, hall, rfl, by show w.heap.size ≤ w4.heap.size; omega, fun k hk => ?_, ?_⟩
     · rcases hk with q | (q | q)
       · have q' : k = w4.heap.size := q
         omega
       · exact hlv.lo q
       · rcases q with q | q
         · have := l6 k q; omega
         · have := l3 k q; omega
     exact HS.out.2.2.trans ((H1.out.2.trans (b15.mono s1)).mono s0)
end
end Go.Proofs.YtbpemdihoabbcaaGreat
