/-
  Joined texts.
-/
import Derived.Deep.DeepCutAuto
import Derived.StillTailTactics
import Derived.Deep.RegionHeld3
import Derived.StillTail
import Derived.Test.YtbpemdihoabbcaaGreatMhg
import Derived.Conc.WalkWords
namespace Go.Proofs.YtbpemdihoabbcaaGreat
set_option linter.unusedVariables false
set_option linter.unusedSimpArgs false
set_option maxRecDepth 100000
set_option maxHeartbeats 8000000
section
open Go.RowKit Go.Maps Go.Shelf
attribute [local go_sem] Oper.semAt_some
def relend (x : Bal) (was is : Wgt) (t : Tl) : Tl := (t.sub (gainW x was)).add (gainW x is)
def Pl.withT (p : Pl) (t : Tl) : Pl := ⟨p.st, p.tr, t.a, t.n, t.s, p.en⟩
def lendP1 (was is : Wgt) (P : Nat → Pl) (x : Int × Bal) : Nat → Pl := if (P x.1.toNat).st = 1 then putP P x.1.toNat ((P x.1.toNat).withT (relend x.2 was is (P x.1.toNat).t)) else P
def lendP (was is : Wgt) (P : Nat → Pl) (l : List (Int × Bal)) : Nat → Pl := l.foldl (lendP1 was is) P
theorem lendP_snoc (was is : Wgt) (P : Nat → Pl) (l : List (Int × Bal)) (x : Int × Bal) : lendP was is P (l ++ [x]) = lendP1 was is (lendP was is P l) x := by simp [lendP]
theorem lendP1_same (was is : Wgt) (P : Nat → Pl) (x : Int × Bal) (k : Nat) : (lendP1 was is P x k).st = (P k).st ∧ (lendP1 was is P x k).tr = (P k).tr ∧ (lendP1 was is P x k).en = (P k).en := by
 unfold lendP1
 split
 · by_cases h : k = x.1.toNat
   · subst h; rw [putP_same]; exact ⟨rfl, rfl, rfl⟩
   · rw [putP_other _ _ h]; exact ⟨rfl, rfl, rfl⟩
 · exact ⟨rfl, rfl, rfl⟩
theorem lendP_same (was is : Wgt) : ∀ (l : List (Int × Bal)) (P : Nat → Pl) (k : Nat), (lendP was is P l k).st = (P k).st ∧ (lendP was is P l k).tr = (P k).tr ∧ (lendP was is P l k).en = (P k).en
 | [], P, k => ⟨rfl, rfl, rfl⟩
 | x :: l, P, k => by
  obtain ⟨h1, h2, h3⟩ := lendP_same was is l (lendP1 was is P x) k
  obtain ⟨k1, k2, k3⟩ := lendP1_same was is P x k
  exact ⟨h1.trans k1, h2.trans k2, h3.trans k3⟩
def lendG (S : Vs) (who t dv dc : Int) : Wgt := ⟨wrap64 (((cget S.G who t).getD ⟨0, 0⟩).v + dv), wrap64 (((cget S.G who t).getD ⟨0, 0⟩).c + dc)⟩
def lendS (S : Vs) (who t dv dc : Int) : Vs := { S with G := cput S.G who t (lendG S who t dv dc), P := lendP ((cget S.G who t).getD ⟨0, 0⟩) (lendG S who t dv dc) S.P (ballots S who t) }
def LenI (vb N : Nat) (S1 : Vs) (F : FP) (w3 : World) (was is : Wgt) (vbx wb ib : Nat) (B0 : Nat) (pre : List (Int × Bal)) (Φ : FP) (W : World) : Prop :=
 (∀ k, ¬ Φ k) ∧ VoX vb N { S1 with P := lendP was is S1.P pre } F W ∧ Only (fun k => k = vb) (fun _ => False) w3 W ∧ W.heap[vbx]? = w3.heap[vbx]? ∧ W.heap[wb]? = w3.heap[wb]? ∧ W.heap[ib]? = w3.heap[ib]? ∧ B0 ≤ W.heap.size
theorem LenI.stab {vb N : Nat} {S1 : Vs} {F : FP} {w3 : World} {was is : Wgt} {vbx wb ib B0 : Nat} (hF : ∀ k, F k → k < B0) (h1 : vbx < B0) (h2 : wb < B0) (h3 : ib < B0) (hw : w3.heap.size ≤ B0) : Stab B0 (LenI vb N S1 F w3 was is vbx wb ib B0) := by
 rintro pre Φ W ⟨h0, hx, ho, e1, e2, e3, hs⟩
 exact ⟨fun k hk => (h0 k hk).elim, hs, fun W' hg hk => ⟨h0, hx.keep hg (fun k hf => hk k (.inl (hF k hf))), ⟨ho.grow.trans hg, fun k hk' h4 h5 => (hk k (.inl (by omega))).trans (ho.block k hk' h4 h5)⟩, (hk vbx (.inl h1)).trans e1, (hk wb (.inl h2)).trans e2, (hk ib (.inl h3)).trans e3, Nat.le_trans hs hg.size⟩⟩
def storeT (a v : Value) : Sem Unit := Instr.storeAt 41 a v
theorem storeT_hide (a v : Value) : Instr.storeAt 41 a v = storeT a v := rfl
def loadSt_T (v : Value) : Sem Value := Instr.loadAt 41 v
theorem loadSt_T_hide (v : Value) : Instr.loadAt 41 v = loadSt_T v := rfl
theorem VoX.setTX {vb N : Nat} {S : Vs} {F : FP} {w : World} (h : VoX vb N S F w) {k : Nat} (hk : k < 12) (t : Tl) : VoX vb N { S with P := putP S.P k ⟨(S.P k).st, (S.P k).tr, t.a, t.n, t.s, (S.P k).en⟩ } F (w.setCells vb (k * 6 + 2) (tlyS.f t)) := by
 obtain ⟨gv, gd, gw, gp, FV, FD, FW, FQ, h1, h2⟩ := h
 have hg := setCells_grow (b := vb) (tlyS.f t) (k * 6 + 2) w
 have ho : ∀ i, i ≠ vb → (w.setCells vb (k * 6 + 2) (tlyS.f t)).heap[i]? = w.heap[i]? := fun i hi => setCells_off hi _ _ _
 exact ⟨gv, gd, gw, gp, FV, FD, FW, FQ, ⟨h1.blk.setT hk t, h1.v.keep hg (fun i hi => ho i (fun e => h1.off.b.1 (e ▸ hi))), h1.d.keep hg (fun i hi => ho i (fun e => h1.off.b.2.1 (e ▸ hi))), h1.g.keep hg (fun i hi => ho i (fun e => h1.off.b.2.2.1 (e ▸ hi))), h1.q.keep hg (fun i hi => ho i (fun e => h1.off.b.2.2.2 (e ▸ hi))), h1.off⟩, h2⟩
theorem run_storeT {w : World} {b k : Nat} (h : w.there b k 3) (t : Tl) : (storeT (.pointer (some ⟨b, k, none⟩)) (.agg (tlyS.f t).toArray)).run Tryz.prog w = .ok () (w.setCells b k (tlyS.f t)) :=
 run_storeAt_mid w b k 41 (tlyS.f t).toArray h (by kernel_rfl) (by simp [tlyS, Value.oneCell'])
attribute [local go_sem ↓] loadSt_V_hide loadSt_W_hide loadSt_T_hide storeT_hide in
theorem VoX.lend {vb N : Nat} {S : Vs} {F : FP} {w : World} (h : VoX vb N S F w) (hlen : S.V.length ≤ 100000) (hlg : S.G.length ≤ 100000) {who t : Int} (ha : (Lit.int .i64 who).wf = true) (ht : (Lit.int .i64 t).wf = true) (hrf : ∀ x ∈ rowOf S.V who, (0 ≤ x.1 ∧ x.1 < 12) ∧ (S.P x.1.toNat).st ≠ 0 ∧ balOk x.2 = true) (dv dc : Int) :
 Calls Tryz.prog 74 #[.pointer (some ⟨vb, 0, none⟩), .int .i64 who, .int .i64 t, .int .i64 dv, .int .i64 dc] w fun e w' => e = .returned (.tuple #[]) ∧ VoTo vb N (lendS S who t dv dc) F w w' := by
 obtain ⟨was, hwas⟩ : ∃ was, was = (cget S.G who t).getD ⟨0, 0⟩ := ⟨_, rfl⟩
 obtain ⟨is, his⟩ : ∃ is, is = lendG S who t dv dc := ⟨_, rfl⟩
 have his2 : is = ⟨wrap64 (was.v + dv), wrap64 (was.c + dc)⟩ := by rw [his, hwas]; rfl
 have eS : lendS S who t dv dc = { S with G := cput S.G who t is, P := lendP was is S.P (ballots S who t) } := by rw [lendS, ← his, ← hwas]
 rw [eS]
 obtain ⟨xs, hxs⟩ : ∃ xs, xs = ballots S who t := ⟨_, rfl⟩
 rw [← hxs]
 have HXS := Lib.hid hxs
 obtain ⟨w1, hw1⟩ : ∃ w1, w1 = w.alloc (.cells #[.pointer (some ⟨vb, 0, none⟩)] 34) := ⟨_, rfl⟩
 have hb1 : Below w.heap.size w w1 := by rw [hw1]; exact (Below.refl _ w).alloc (Nat.le_refl _) _
 have x0 : Boxed w1 w.heap.size 34 (.pointer (some ⟨vb, 0, none⟩)) := by rw [hw1]; exact Boxed.new w _ _
 have hs1 : w1.heap.size = w.heap.size + 1 := by rw [hw1]; simp
 have hgot := (h.below hb1).got ha ht
 rw [show wgtS.zero = (⟨0, 0⟩ : Wgt) from rfl, ← hwas] at hgot
 have c0 := x0.cell
 refine (callsIn_wide (n := 3)).1 ?_
 refine callsIn_of_wp_marks Tryz.func74 rfl trivial ?_ rfl
 simp only [Tryz.ntmps74, List.size_toArray, List.length_cons, List.length_nil, Nat.reduceAdd, Nat.reduceSub, Array.replicate_succ, Array.replicate_zero, List.push_toArray, List.append_toArray, List.nil_append, List.cons_append]
 have HW1 := Lib.hid hw1
 have H1 := Lib.hid (And.intro hb1 (And.intro x0 hs1))
 have HG := Lib.hid hgot
 have HH := Lib.hid (And.intro h (And.intro hlen (And.intro hlg (And.intro ha (And.intro ht hrf)))))
 have HI := Lib.hid his2
 clear hxs his hwas his2 eS hb1 x0 hs1 hgot h hlen hlg ha ht hrf
 rw [hw1] at c0
 gi_upto_region 1 with fail
 rw [← HW1.out]
 rw [← hw1] at c0
 clear hw1
 gi_upto_region 2 with (first
  | (gi_at_call 62; refine (callsIn_wide.2 HG.out).mono ?_; rintro e w2 ⟨rfl, hb⟩; have H2 := Lib.hid hb; clear hb)
  | (refine ⟨trivial, ?_⟩; gi_at_call 62; refine (callsIn_wide.2 HG.out).mono ?_; rintro e w2 ⟨rfl, hb⟩; have H2 := Lib.hid hb; clear hb)
  | (refine wplIn_allocS (s := wgtS) rfl rfl rfl ?_)
  | (refine wplIn_storeS (s := wgtS) (t := was) (b := w2.heap.size) _ _ rfl rfl rfl rfl rfl (World.alloc_heap_new w2 _) (zeroS wgtS) ?_; rw [newS])
  | fail)
 obtain ⟨wb, hwb⟩ : ∃ wb, wb = w2.heap.size := ⟨_, rfl⟩
 obtain ⟨w3, hw3⟩ : ∃ w3, w3 = w2.alloc (wgtS.obj was) := ⟨_, rfl⟩
 have r3 : w3.rangeAt wb 0 (wgtS.f was) := by rw [hw3, hwb]; exact atS wgtS w2 was
 have d0 : w3.cell? ⟨wb, 0, none⟩ = some (.int .i64 was.v) := r3 0 _ rfl
 have d1 : w3.cell? ⟨wb, 1, none⟩ = some (.int .i64 was.c) := r3 1 _ rfl
 have hb3 : Below w2.heap.size w2 w3 := by rw [hw3]; exact (Below.refl _ w2).alloc (Nat.le_refl _) _
 have hs3 : w3.heap.size = wb + 1 := by rw [hw3, hwb]; simp
 have e1 : wrap64 (was.v + dv) = is.v := by rw [HI.out]
 have e2 : wrap64 (was.c + dc) = is.c := by rw [HI.out]
 rw [← hw3, ← hwb]
 have H3 := Lib.hid (And.intro r3 (And.intro hb3 (And.intro hs3 (And.intro hw3 hwb))))
 clear r3 hb3 hs3 hw3 hwb
 gi_upto_region 3 with (first
  | (refine wplIn_allocS (s := wgtS) rfl rfl rfl ?_)
  | (refine wplIn_storeS (s := wgtS) (t := is) (b := w3.heap.size) _ _ rfl rfl rfl rfl rfl (World.alloc_heap_new w3 _) (zeroS wgtS) ?_; rw [newS])
  | fail)
 clear e1 e2
 obtain ⟨ib, hib⟩ : ∃ ib, ib = w3.heap.size := ⟨_, rfl⟩
 obtain ⟨w4, hw4⟩ : ∃ w4, w4 = w3.alloc (wgtS.obj is) := ⟨_, rfl⟩
 rw [← hw4, ← hib]
 obtain ⟨r3, hb3, hs3, hw3, hwb⟩ := H3.out
 obtain ⟨hb1, x0, hs1⟩ := H1.out
 have hb4 : Below w3.heap.size w3 w4 := by rw [hw4]; exact (Below.refl _ w3).alloc (Nat.le_refl _) _
 have hs4 : w4.heap.size = ib + 1 := by rw [hw4, hib]; simp
 have hb12 : Below w1.heap.size w1 w2 := H2.out
 have hs12 := hb12.size
 have hb14 : Below w1.heap.size w1 w4 := hb12.trans ((hb3.trans (hb4.mono hb3.size)).mono hs12)
 have hb04 : Below w.heap.size w w4 := hb1.trans (hb14.mono hb1.size)
 have x4 : Boxed w4 w.heap.size 34 (.pointer (some ⟨vb, 0, none⟩)) := (hb14.block _ (by omega)).trans x0
 have c4 : w4.drew.cell? ⟨w.heap.size, 0, none⟩ = some (.pointer (some ⟨vb, 0, none⟩)) := x4.cell
 have r4 : w4.rangeAt wb 0 (wgtS.f was) := rangeAt_block r3 (hb4.block wb (by omega))
 have q4 : w4.rangeAt ib 0 (wgtS.f is) := by rw [hw4, hib]; exact atS wgtS w3 is
 have i0 : (loadSt_W (.pointer (some ⟨ib, 0, none⟩))).run Tryz.prog w4.drew = .ok (.agg (wgtS.f is).toArray) w4.drew := run_loadSt_W q4
 have hX4 : VoX vb N S F w4 := HH.out.1.below hb04
 obtain ⟨gv, gd, gw, gp, htb, -, -, -, -, hset, -⟩ := hX4.tables
 obtain ⟨-, -, t74, -⟩ := htb w4.drew (Below.refl _ w4).drew
 have hset4 := hset w4.drew (Below.refl _ w4).drew who t is (Nat.le_trans HH.out.2.2.1 (by omega)) HH.out.2.2.2.1 HH.out.2.2.2.2.1
 have mixed : Tryz.prog.follows .mixedOrders = true := by kernel_rfl
 have HSET := Lib.hid hset4
 have H4 := Lib.hid (And.intro hb04 (And.intro x4 (And.intro r4 (And.intro q4 (And.intro hs4 (And.intro hb14 (And.intro hs1 hs12)))))))
 have H4s := Lib.hid (show wb < ib ∧ w.heap.size < wb by omega)
 clear r3 hb3 hs3 hw3 hwb hb1 x0 hs1 hb4 hs4 hb12 hs12 hb14 hb04 x4 r4 q4 hX4 htb hset hset4 hw4 hib c0 d0 d1
 refine wpIn_region_still_tail 7 mixed (by kernel_rfl) ?_
 simp only [List.take_succ_cons, List.take_zero, List.drop_succ_cons, List.drop_zero]
 change wpStill _ _ w4.drew _ _ _
 repeat still_step
 refine wpStill_nil ?_
 change wpListIn _ _ _ _ _ _ _ w4.drew
 gi_upto_region 4 with (first
  | (gi_at_call 113; refine (callsIn_wide.2 HSET.out).mono ?_; rintro e w5 ⟨rfl, ht⟩; have H5 := Lib.hid ht; clear ht)
  | (refine ⟨trivial, ?_⟩; gi_at_call 113; refine (callsIn_wide.2 HSET.out).mono ?_; rintro e w5 ⟨rfl, ht⟩; have H5 := Lib.hid ht; clear ht)
  | fail)
 obtain ⟨F5, hX5, hF5, ho5⟩ := H5.out
 obtain ⟨hb04, x4, r4, q4, hs4, hb14, hs1, hs12⟩ := H4.out
 obtain ⟨lwi, lww⟩ := H4s.out
 have hnF : ∀ k, w.heap.size ≤ k → ¬ F k := fun k hk hf => by have := HH.out.1.lt hf; omega
 have hs5 : w4.heap.size ≤ w5.heap.size := ho5.grow.size
 have x5 : Boxed w5 w.heap.size 34 (.pointer (some ⟨vb, 0, none⟩)) := (ho5.block _ (by show w.heap.size < w4.heap.size; omega) (hnF _ (Nat.le_refl _)) (fun h => h)).trans x4
 have r5 : w5.rangeAt wb 0 (wgtS.f was) := rangeAt_block (w := w4) r4 (ho5.block wb (by show wb < w4.heap.size; omega) (hnF _ (by omega)) (fun h => h))
 have q5 : w5.rangeAt ib 0 (wgtS.f is) := rangeAt_block (w := w4) q4 (ho5.block ib (by show ib < w4.heap.size; omega) (hnF _ (by omega)) (fun h => h))
 have hbal := hX5.balWay HH.out.2.1 HH.out.2.2.2.1 (fun x hx => (HH.out.2.2.2.2.2 x hx).1) t
 have hvb : F5 vb := hX5.own
 have hvl : vb < w5.heap.size := hX5.lt hvb
 have hvw : vb < w.heap.size := HH.out.1.lt HH.out.1.own
 have c5 := x5.cell
 have HX5 := Lib.hid (And.intro hX5 (And.intro hF5 (And.intro ho5 (And.intro x5 (And.intro r5 q5)))))
 have HBAL := Lib.hid hbal
 have HL5 := Lib.hid (show w4.heap.size ≤ w5.heap.size ∧ vb < w5.heap.size ∧ vb < w.heap.size ∧ w.heap.size < wb ∧ wb < ib ∧ ib < w4.heap.size by omega)
 clear hX5 hF5 ho5 hb04 x4 r4 q4 hs4 hb14 hs1 hs12 lwi lww hnF hs5 x5 r5 q5 hbal hvb hvl hvw t74 c4 i0
 gi_wp2_with (first
  | (gi_at_call 78; refine (callsIn_wide.2 HBAL.out).mono ?_; rintro e w6 ⟨rfl, hb, hs6, hit, -⟩; have H6 := Lib.hid (And.intro hit (And.intro hb hs6)); clear hit hb hs6)
  | (refine ⟨trivial, ?_⟩; gi_at_call 78; refine (callsIn_wide.2 HBAL.out).mono ?_; rintro e w6 ⟨rfl, hb, hs6, hit, -⟩; have H6 := Lib.hid (And.intro hit (And.intro hb hs6)); clear hit hb hs6)
  | fail)
 obtain ⟨hX5, hF5, ho5, x5, r5, q5⟩ := HX5.out
 obtain ⟨l1, l2, l3, l4, l5, l6⟩ := HL5.out
 obtain ⟨hit, hb6, hs6⟩ := H6.out
 have hX6 := hX5.below hb6
 have x6 : Boxed w6 w.heap.size 34 (.pointer (some ⟨vb, 0, none⟩)) := (hb6.block _ (by omega)).trans x5
 have r6 : w6.rangeAt wb 0 (wgtS.f was) := rangeAt_block r5 (hb6.block wb (by omega))
 have q6 : w6.rangeAt ib 0 (wgtS.f is) := rangeAt_block q5 (hb6.block ib (by omega))
 have hGl : ∀ k, ((k = w5.heap.size ∨ k = w5.heap.size + 1 ∨ k = w5.heap.size + 1 + 1) ∨ F5 k) → k < w6.heap.size := fun k hk => by
  rcases hk with h | h
  · omega
  · have := hX5.lt h; omega
 have hF6 : ∀ k, F5 k → k < w6.heap.size := fun k hk => hX6.lt hk
 have hxs := HXS.out
 have hit0 : IterT Tryz.prog 1 116 #[.pointer (some ⟨w5.heap.size, 0, none⟩), .pointer (some ⟨w5.heap.size + 1, 0, none⟩), .pointer (some ⟨w5.heap.size + 1 + 1, 0, none⟩)] encs_V xs (fun k => k = w5.heap.size ∨ k = w5.heap.size + 1 ∨ k = w5.heap.size + 1 + 1) F5 (TrW vb S.P) w6 := by rw [hxs]; exact hit 0
 have hxm : ∀ x ∈ xs, (0 ≤ x.1 ∧ x.1 < 12) ∧ (S.P x.1.toNat).st ≠ 0 ∧ balOk x.2 = true := fun x hx => by
  rw [hxs] at hx
  exact HH.out.2.2.2.2.2 x (List.mem_filter.1 hx).1
 have HXM := Lib.hid (And.intro hxm hxs)
 have H6x := Lib.hid (And.intro x6 (And.intro r6 (And.intro q6 (And.intro hX6 (And.intro hF6 hb6)))))
 have HL6 := Lib.hid (show w5.heap.size + 3 = w6.heap.size by omega)
 have HIT := Lib.hid hit0
 have lv6 : vb < w6.heap.size := by omega
 have lx6 : w.heap.size < w6.heap.size := by omega
 have lw6 : wb < w6.heap.size := by omega
 have li6 : ib < w6.heap.size := by omega
 clear hxm hxs hit hit0 hX5 hF5 ho5 x5 r5 q5 hb6 hs6 x6 r6 q6 hX6 c5 l1 l2 l3 l4 l5 l6
 refine range_outerTU (n := 1) (gf := 116) rfl enters_ballots1 HIT.out (Grow.refl w6) (fun k hk => ⟨hGl k hk, rfl⟩) (fun _ => rfl)
  (fun k => k = vb) (by rintro k rfl; exact ⟨lv6, by have := HL5.out; omega⟩) (LenI vb N { S with G := cput S.G who t is } F5 w6 was is w.heap.size wb ib w6.heap.size) (fun _ _ _ _ => False) (LenI.stab hF6 lx6 lw6 li6 (Nat.le_refl _)) (fun c _ _ _ h => h.elim)
  (fun pre Φ W ⟨_, hx, _⟩ k hk => (hx.trw k hk).trans (by rw [(lendP_same was is pre S.P k).2.1])) ⟨fun _ h => h, H6x.out.2.2.2.1, Only.refl _ _ _, rfl, rfl, rfl, Nat.le_refl _⟩
  (fun x N T => (((T.setIfInBounds 40 (.int .i64 x.1)).setIfInBounds 41 (balVal x)).setIfInBounds 12 (.int .i64 x.1)).setIfInBounds 13 (.pointer (some ⟨N, 0, none⟩)))
  (fun x N W => W.heap[N]? = some (.cells #[.int .i64 x.2.k, .bool x.2.aye, .int .i64 x.2.l, .int .i64 x.2.a, .int .i64 x.2.n, .int .i64 x.2.s] 28 (0, 0))) (fun x N W W' h e => e.trans h) ?assign ?body ?done ?stop
 case stop => exact fun _ _ _ _ _ _ h => h.elim
 case assign =>
  intro l x W K hK
  simp only [encs_V]
  clear hGl hF6
  gi_wp2
  exact hK _ ((Below.refl _ W).alloc (Nat.le_refl _) _) (by simp) (World.alloc_heap_new _ _)
 case body =>
  rintro l pre x Φi Nx W' hpx ⟨hno, hx, hon, e1, e2, e3, hsz⟩ hl hΦl - hlN hNW hAt
  have hxm : x ∈ xs := hpx.subset (by simp)
  obtain ⟨⟨x0, x1⟩, hst, hok⟩ := HXM.out.1 x hxm
  obtain ⟨rf, hrf⟩ : ∃ rf : Nat, x.1 = rf := ⟨x.1.toNat, by omega⟩
  have hrl : rf < 12 := by omega
  rw [hrf, Int.toNat_natCast] at hst
  have hsn : lendP was is S.P (pre ++ [x]) = lendP1 was is (lendP was is S.P pre) x := lendP_snoc was is S.P pre x
  obtain ⟨P1, hP1⟩ : ∃ P1, P1 = lendP was is S.P pre := ⟨_, rfl⟩
  have hst1 : (P1 rf).st ≠ 0 := by rw [hP1, (lendP_same was is pre S.P rf).1]; exact hst
  rw [← hP1] at hsn
  have hx : VoX vb N { S with G := cput S.G who t is, P := P1 } F5 W' := by rw [hP1]; exact hx
  have hpoll := hx.poll rf
  have hptr : plPtr vb P1 (rf : Int) = some ⟨vb, rf * 6, none⟩ := by unfold plPtr; rw [if_pos ⟨by omega, by simpa using hst1⟩]; simp
  rw [show ({ S with G := cput S.G who t is, P := P1 } : Vs).P = P1 from rfl, hptr] at hpoll
  have hopen : Calls Tryz.prog 55 #[.pointer (some ⟨vb, rf * 6, none⟩)] W' fun e w' => e = .returned (.bool ((P1 rf).st == 1)) ∧ w' = W' := hx.open hrl
  obtain ⟨c0, -, -, -, hrt, hth, -⟩ := hx.cells hrl
  obtain ⟨tt, htt⟩ : ∃ tt, tt = (P1 rf).t := ⟨_, rfl⟩
  have hrt : W'.rangeAt vb (rf * 6 + 2) (tlyS.f tt) := by rw [htt]; exact hrt
  have cx : W'.cell? ⟨w.heap.size, 0, none⟩ = some (.pointer (some ⟨vb, 0, none⟩)) := by rw [World.cell?_of_block e1]; exact H6x.out.1.cell
  obtain ⟨xb, hxb⟩ : ∃ xb, xb = x.2 := ⟨_, rfl⟩
  have hNr : W'.rangeAt Nx 0 (balS.f xb) := by rw [hxb]; exact rangeAt_whole (T := balS.T) hAt
  have hwr : W'.rangeAt wb 0 (wgtS.f was) := rangeAt_block H6x.out.2.1 e2
  have hir : W'.rangeAt ib 0 (wgtS.f is) := rangeAt_block H6x.out.2.2.1 e3
  have hS : ∀ wx, Below W'.heap.size W' wx → (loadSt_V (.pointer (some ⟨Nx, 0, none⟩))).run Tryz.prog wx = .ok (.agg (balS.f xb).toArray) wx ∧ (loadSt_W (.pointer (some ⟨wb, 0, none⟩))).run Tryz.prog wx = .ok (.agg (wgtS.f was).toArray) wx ∧ (loadSt_W (.pointer (some ⟨ib, 0, none⟩))).run Tryz.prog wx = .ok (.agg (wgtS.f is).toArray) wx := fun wx hb =>
   ⟨run_loadSt_V (rangeAt_block hNr (hb.block Nx hNW)), run_loadSt_W (rangeAt_block hwr (hb.block wb (by omega))), run_loadSt_W (rangeAt_block hir (hb.block ib (by omega)))⟩
  have hlx := HL5.out
  have hlx6 := HL6.out
  have hS2 : ∀ wx, Below W'.heap.size W' wx → ∀ vs, (loadSt_V (.pointer (some ⟨Nx, 0, none⟩))).run Tryz.prog (wx.setCells vb (rf * 6 + 2) vs) = .ok (.agg (balS.f xb).toArray) (wx.setCells vb (rf * 6 + 2) vs) ∧ (loadSt_W (.pointer (some ⟨wb, 0, none⟩))).run Tryz.prog (wx.setCells vb (rf * 6 + 2) vs) = .ok (.agg (wgtS.f was).toArray) (wx.setCells vb (rf * 6 + 2) vs) ∧ (loadSt_W (.pointer (some ⟨ib, 0, none⟩))).run Tryz.prog (wx.setCells vb (rf * 6 + 2) vs) = .ok (.agg (wgtS.f is).toArray) (wx.setCells vb (rf * 6 + 2) vs) := fun wx hb vs =>
   ⟨run_loadSt_V (rangeAt_block hNr ((setCells_off (by omega) _ _ _).trans (hb.block Nx hNW))), run_loadSt_W (rangeAt_block hwr ((setCells_off (by omega) _ _ _).trans (hb.block wb (by omega)))), run_loadSt_W (rangeAt_block hir ((setCells_off (by omega) _ _ _).trans (hb.block ib (by omega))))⟩
  have hvb6 : vb < W'.heap.size := by omega
  have hT : ∀ wx, Below W'.heap.size W' wx → (loadSt_T (.pointer (some ⟨vb, rf * 6 + 2, none⟩))).run Tryz.prog wx = .ok (.agg (tlyS.f tt).toArray) wx ∧ ∀ t' : Tl, (storeT (.pointer (some ⟨vb, rf * 6 + 2, none⟩)) (.agg (tlyS.f t').toArray)).run Tryz.prog wx = .ok () (wx.setCells vb (rf * 6 + 2) (tlyS.f t')) := fun wx hb =>
   ⟨run_loadS (s := tlyS) (rangeAt_block hrt (hb.block vb hvb6)), fun t' => run_storeT (((hx.below hb).cells hrl).2.2.2.2.2.1) t'⟩
  have hGain1 : ∀ wx, Calls Tryz.prog 64 #[.agg (balS.f xb).toArray, .agg (wgtS.f was).toArray] wx fun e w' => e = .returned (.agg (tlyS.f (gainW xb was)).toArray) ∧ Below wx.heap.size wx w' := fun wx => conv_GainW xb was wx (by rw [hxb]; exact hok)
  have hGain2 : ∀ wx, Calls Tryz.prog 64 #[.agg (balS.f xb).toArray, .agg (wgtS.f is).toArray] wx fun e w' => e = .returned (.agg (tlyS.f (gainW xb is)).toArray) ∧ Below wx.heap.size wx w' := fun wx => conv_GainW xb is wx (by rw [hxb]; exact hok)
  have hSub : ∀ (a b : Tl) wx, Calls Tryz.prog 63 #[.agg (tlyS.f a).toArray, .agg (tlyS.f b).toArray] wx fun e w' => e = .returned (.agg (tlyS.f (a.sub b)).toArray) ∧ Below wx.heap.size wx w' := fun a b wx => conv_SubW a b wx
  have hAdd : ∀ (a b : Tl) {u : Value} {wx : World}, RdT wx u [b] → Calls Tryz.prog 65 #[.agg (tlyS.f a).toArray, u] wx fun e w' => e = .returned (.agg (tlyS.f (a.add b)).toArray) ∧ Below wx.heap.size wx w' := fun a b u wx hr => conv_AddW a b u wx hr
  have HS := Lib.hid hS
  have HS2 := Lib.hid hS2
  have HT := Lib.hid hT
  have HP := Lib.hid hpoll
  have HO := Lib.hid hopen
  have HR := Lib.hid (And.intro hno (And.intro hx (And.intro hon (And.intro e1 (And.intro e2 e3)))))
  have HRR := Lib.hid (And.intro hrl (And.intro hrf (And.intro hP1 (And.intro hsn htt))))
  have HSZ := Lib.hid hsz
  have HXB := Lib.hid hxb
  clear hno hx hon e1 e2 e3 hrl hP1 hsn htt hS hS2 hT hpoll hopen hst hst1 hptr c0 hrt hth hNr hwr hir hxm hok x0 x1 hpx hAt hlx hlx6 hxb hsz
  rw [hrf]
  clear hrf
  by_cases q : (P1 rf).st = 1
  · have q' : ((P1 rf).st == 1) = true := by simpa using q
    rw [q'] at HO
    have HQ := Lib.hid q
    clear q q'
    gi_upto_region 9 with (first
     | (gi_at_call 47; refine (CallsIn.inRound _ (callsIn_wide.2 HP.out)).mono ?_; rintro e wx ⟨rfl, hwx⟩; rw [hwx]; clear hwx wx)
     | (refine ⟨trivial, ?_⟩; gi_at_call 47; refine (CallsIn.inRound _ (callsIn_wide.2 HP.out)).mono ?_; rintro e wx ⟨rfl, hwx⟩; rw [hwx]; clear hwx wx)
     | (gi_at_call 55; refine (CallsIn.inRound _ (callsIn_wide.2 HO.out)).mono ?_; rintro e wx ⟨rfl, hwx⟩; rw [hwx]; clear hwx wx)
     | (refine ⟨trivial, ?_⟩; gi_at_call 55; refine (CallsIn.inRound _ (callsIn_wide.2 HO.out)).mono ?_; rintro e wx ⟨rfl, hwx⟩; rw [hwx]; clear hwx wx)
     | fail)
    refine wpIn_region_heldR (S := fun wx => (loadSt_V (.pointer (some ⟨Nx, 0, none⟩))).run Tryz.prog wx = .ok (.agg (balS.f xb).toArray) wx ∧ (loadSt_W (.pointer (some ⟨wb, 0, none⟩))).run Tryz.prog wx = .ok (.agg (wgtS.f was).toArray) wx ∧ (loadSt_W (.pointer (some ⟨ib, 0, none⟩))).run Tryz.prog wx = .ok (.agg (wgtS.f is).toArray) wx) (R := fun a wx => ∃ w13, Below W'.heap.size W' w13 ∧ wx = w13.setCells vb (rf * 6 + 2) (tlyS.f (relend xb was is tt))) mixed (by kernel_rfl) (HS.out _ (Below.refl _ W').drew) (fun hHeld => ?_) ?_
    · refine wpAnyH_take (i := 0) (v := ?_) rfl (by kernel_rfl) (by kernel_rfl) (by kernel_rfl) (fun _ _ _ h => h) (Or.inl ⟨by kernel_rfl, ?_⟩) (by assumption) ?_
      rotate_left
      · intro w' hSw
        try dsimp only at hSw
        go_simp
        try with_reducible rfl
      try walk_nrm
      refine wpAnyH_take (i := 1) (v := ?_) rfl (by kernel_rfl) (by kernel_rfl) (by kernel_rfl) (fun _ _ _ h => h) (Or.inl ⟨by kernel_rfl, ?_⟩) (by assumption) ?_
      rotate_left
      · intro w' hSw
        try dsimp only at hSw
        go_simp
        try with_reducible rfl
      try walk_nrm
      refine wpAnyH_take (i := 2) (v := ?_) rfl (by kernel_rfl) (by kernel_rfl) (by kernel_rfl) (fun _ _ _ h => h) (Or.inl ⟨by kernel_rfl, ?_⟩) (by assumption) ?_
      rotate_left
      · intro w' hSw
        try dsimp only at hSw
        go_simp
        try with_reducible rfl
      try walk_nrm
      refine wpAnyH_take (i := 3) (v := ?_) rfl (by kernel_rfl) (by kernel_rfl) (by kernel_rfl) (fun _ _ _ h => h) (Or.inl ⟨by kernel_rfl, ?_⟩) (by assumption) ?_
      rotate_left
      · intro w' hSw
        try dsimp only at hSw
        go_simp
        try with_reducible rfl
      try walk_nrm
      refine wpAnyH_take (i := 5) (v := ?_) rfl (by kernel_rfl) (by kernel_rfl) (by kernel_rfl) (fun _ _ _ h => h) (Or.inl ⟨by kernel_rfl, ?_⟩) (by assumption) ?_
      rotate_left
      · intro w' hSw
        try dsimp only at hSw
        go_simp
        try with_reducible rfl
      try walk_nrm
      refine wpAnyH_take (i := 6) (v := ?_) rfl (by kernel_rfl) (by kernel_rfl) (by kernel_rfl) (fun _ _ _ h => h) (Or.inl ⟨by kernel_rfl, ?_⟩) (by assumption) ?_
      rotate_left
      · intro w' hSw
        try dsimp only at hSw
        go_simp
        try with_reducible rfl
      try walk_nrm
      refine wpAnyH_take (i := 9) (v := ?_) rfl (by kernel_rfl) (by kernel_rfl) (by kernel_rfl) (fun _ _ _ h => h) (Or.inl ⟨by kernel_rfl, ?_⟩) (by assumption) ?_
      rotate_left
      · intro w' hSw
        try dsimp only at hSw
        go_simp
        try with_reducible rfl
      try walk_nrm
      refine wpAnyH_take (i := 10) (v := ?_) rfl (by kernel_rfl) (by kernel_rfl) (by kernel_rfl) (fun _ _ _ h => h) (Or.inl ⟨by kernel_rfl, ?_⟩) (by assumption) ?_
      rotate_left
      · intro w' hSw
        try dsimp only at hSw
        go_simp
        try with_reducible rfl
      try walk_nrm
      refine wpAnyH_ready (rs := [4, 7]) (by kernel_rfl) (by simp) ?_
      have hK0 := Lib.hid (show Below W'.heap.size W' W'.drew from (Below.refl _ W').drew)
      have rT0 := (HT.out _ hK0.out).1
      refine AllReadyH.cons rfl (fun K hK => ?_) (AllReadyH.cons rfl (fun K hK => ?_) AllReadyH.nil)
      · rw [if_pos (by kernel_rfl)]
        go_simp
        first | refine hK.out _ _ ?_ (fun hHeld => ?_) | (go_wp2_with fail; refine hK.out _ _ ?_ (fun hHeld => ?_))
        · try dsimp only
          exact HS.out _ hK0.out
        clear hK K
        try walk_nrm
        refine wpAnyH_ready (rs := [7]) (by kernel_rfl) (by simp) ?_
        refine AllReadyH.cons rfl (fun K hK => ?_) AllReadyH.nil
        rw [if_pos (by kernel_rfl)]
        go_simp
        go_at_call 64; refine (hGain1 _).mono ?_; rintro e w7 ⟨rfl, hbx⟩; have K7 := Lib.hid (hK0.out.trans (hbx.mono hK0.out.size)); clear hbx
        first | refine hK.out _ _ ?_ (fun hHeld => ?_) | (go_wp2_with fail; refine hK.out _ _ ?_ (fun hHeld => ?_))
        · try dsimp only
          exact HS.out _ K7.out
        clear hK K
        try walk_nrm
        refine wpAnyH_ready (rs := [8]) (by kernel_rfl) (by simp) ?_
        refine AllReadyH.cons rfl (fun K hK => ?_) AllReadyH.nil
        rw [if_pos (by kernel_rfl)]
        go_simp
        go_at_call 63; refine (hSub _ _ _).mono ?_; rintro e w8 ⟨rfl, hbx⟩; have K8 := Lib.hid (K7.out.trans (hbx.mono K7.out.size)); clear hbx
        first | refine hK.out _ _ ?_ (fun hHeld => ?_) | (go_wp2_with fail; refine hK.out _ _ ?_ (fun hHeld => ?_))
        · try dsimp only
          exact HS.out _ K8.out
        clear hK K
        try walk_nrm
        refine wpAnyH_ready (rs := [11]) (by kernel_rfl) (by simp) ?_
        refine AllReadyH.cons rfl (fun K hK => ?_) AllReadyH.nil
        rw [if_pos (by kernel_rfl)]
        go_simp
        go_at_call 64; refine (hGain2 _).mono ?_; rintro e w11 ⟨rfl, hbx⟩; have K11 := Lib.hid (K8.out.trans (hbx.mono K8.out.size)); clear hbx
        first | refine hK.out _ _ ?_ (fun hHeld => ?_) | (go_wp2_with fail; refine hK.out _ _ ?_ (fun hHeld => ?_))
        · try dsimp only
          exact HS.out _ K11.out
        clear hK K
        try walk_nrm
        refine wpAnyH_ready (rs := [12]) (by kernel_rfl) (by simp) ?_
        refine AllReadyH.cons rfl (fun K hK => ?_) AllReadyH.nil
        rw [if_pos (by kernel_rfl)]
        go_simp
        skip
        first | refine hK.out _ _ ?_ (fun hHeld => ?_) | (go_wp2_with fail; refine hK.out _ _ ?_ (fun hHeld => ?_))
        · try dsimp only
          exact HS.out _ (K11.out.alloc K11.out.size _)
        clear hK K
        try walk_nrm
        refine wpAnyH_ready (rs := [13]) (by kernel_rfl) (by simp) ?_
        refine AllReadyH.cons rfl (fun K hK => ?_) AllReadyH.nil
        rw [if_pos (by kernel_rfl)]
        go_simp
        go_at_call 65; refine (hAdd _ _ (RdT.one w11 _ _ _ _ rfl)).mono ?_; rintro e w13 ⟨rfl, hbx⟩; have K13 := Lib.hid ((K11.out.alloc K11.out.size _).trans (hbx.mono (K11.out.alloc K11.out.size _).size)); have rS := (HT.out w13 K13.out).2; clear hbx
        first | refine hK.out _ _ ?_ (fun hHeld => ?_) | (go_wp2_with fail; refine hK.out _ _ ?_ (fun hHeld => ?_))
        · try dsimp only
          exact HS.out _ K13.out
        clear hK K
        try walk_nrm
        refine wpAnyH_take (i := 14) (v := ?_) rfl (by kernel_rfl) (by kernel_rfl) (by kernel_rfl) (fun _ _ _ h => h) (Or.inl ⟨by kernel_rfl, ?_⟩) (by assumption) ?_
        rotate_left
        · intro w' hSw
          try dsimp only at hSw
          go_simp
          try with_reducible rfl
        try walk_nrm
        refine wpAnyH_take (i := 15) (v := ?_) rfl (by kernel_rfl) (by kernel_rfl) (by kernel_rfl) (fun _ _ _ h => h) (Or.inl ⟨by kernel_rfl, ?_⟩) (by assumption) ?_
        rotate_left
        · intro w' hSw
          try dsimp only at hSw
          go_simp
          try with_reducible rfl
        try walk_nrm
        refine wpAnyH_ready (rs := [16]) (by kernel_rfl) (by simp) ?_
        refine AllReadyH.cons rfl (fun K hK => ?_) AllReadyH.nil
        rw [if_pos (by kernel_rfl)]
        go_simp
        skip
        first | refine hK.out _ _ ?_ (fun hHeld => ?_) | (go_wp2_with fail; refine hK.out _ _ ?_ (fun hHeld => ?_))
        · try dsimp only
          exact HS2.out _ K13.out _
        clear hK K
        try walk_nrm
        refine wpAnyH_done (by kernel_rfl) ?_ _
        exact ⟨w13, K13.out, rfl⟩
      · rw [if_pos (by kernel_rfl)]
        go_simp
        go_at_call 64; refine (hGain1 _).mono ?_; rintro e w7 ⟨rfl, hbx⟩; have K7 := Lib.hid (hK0.out.trans (hbx.mono hK0.out.size)); clear hbx
        first | refine hK.out _ _ ?_ (fun hHeld => ?_) | (go_wp2_with fail; refine hK.out _ _ ?_ (fun hHeld => ?_))
        · try dsimp only
          exact HS.out _ K7.out
        clear hK K
        try walk_nrm
        have rT7 := (HT.out _ K7.out).1
        refine wpAnyH_ready (rs := [4]) (by kernel_rfl) (by simp) ?_
        refine AllReadyH.cons rfl (fun K hK => ?_) AllReadyH.nil
        rw [if_pos (by kernel_rfl)]
        go_simp
        skip
        first | refine hK.out _ _ ?_ (fun hHeld => ?_) | (go_wp2_with fail; refine hK.out _ _ ?_ (fun hHeld => ?_))
        · try dsimp only
          exact HS.out _ K7.out
        clear hK K
        try walk_nrm
        refine wpAnyH_ready (rs := [8]) (by kernel_rfl) (by simp) ?_
        refine AllReadyH.cons rfl (fun K hK => ?_) AllReadyH.nil
        rw [if_pos (by kernel_rfl)]
        go_simp
        go_at_call 63; refine (hSub _ _ _).mono ?_; rintro e w8 ⟨rfl, hbx⟩; have K8 := Lib.hid (K7.out.trans (hbx.mono K7.out.size)); clear hbx
        first | refine hK.out _ _ ?_ (fun hHeld => ?_) | (go_wp2_with fail; refine hK.out _ _ ?_ (fun hHeld => ?_))
        · try dsimp only
          exact HS.out _ K8.out
        clear hK K
        try walk_nrm
        refine wpAnyH_ready (rs := [11]) (by kernel_rfl) (by simp) ?_
        refine AllReadyH.cons rfl (fun K hK => ?_) AllReadyH.nil
        rw [if_pos (by kernel_rfl)]
        go_simp
        go_at_call 64; refine (hGain2 _).mono ?_; rintro e w11 ⟨rfl, hbx⟩; have K11 := Lib.hid (K8.out.trans (hbx.mono K8.out.size)); clear hbx
        first | refine hK.out _ _ ?_ (fun hHeld => ?_) | (go_wp2_with fail; refine hK.out _ _ ?_ (fun hHeld => ?_))
        · try dsimp only
          exact HS.out _ K11.out
        clear hK K
        try walk_nrm
        refine wpAnyH_ready (rs := [12]) (by kernel_rfl) (by simp) ?_
        refine AllReadyH.cons rfl (fun K hK => ?_) AllReadyH.nil
        rw [if_pos (by kernel_rfl)]
        go_simp
        skip
        first | refine hK.out _ _ ?_ (fun hHeld => ?_) | (go_wp2_with fail; refine hK.out _ _ ?_ (fun hHeld => ?_))
        · try dsimp only
          exact HS.out _ (K11.out.alloc K11.out.size _)
        clear hK K
        try walk_nrm
        refine wpAnyH_ready (rs := [13]) (by kernel_rfl) (by simp) ?_
        refine AllReadyH.cons rfl (fun K hK => ?_) AllReadyH.nil
        rw [if_pos (by kernel_rfl)]
        go_simp
        go_at_call 65; refine (hAdd _ _ (RdT.one w11 _ _ _ _ rfl)).mono ?_; rintro e w13 ⟨rfl, hbx⟩; have K13 := Lib.hid ((K11.out.alloc K11.out.size _).trans (hbx.mono (K11.out.alloc K11.out.size _).size)); have rS := (HT.out w13 K13.out).2; clear hbx
        first | refine hK.out _ _ ?_ (fun hHeld => ?_) | (go_wp2_with fail; refine hK.out _ _ ?_ (fun hHeld => ?_))
        · try dsimp only
          exact HS.out _ K13.out
        clear hK K
        try walk_nrm
        refine wpAnyH_take (i := 14) (v := ?_) rfl (by kernel_rfl) (by kernel_rfl) (by kernel_rfl) (fun _ _ _ h => h) (Or.inl ⟨by kernel_rfl, ?_⟩) (by assumption) ?_
        rotate_left
        · intro w' hSw
          try dsimp only at hSw
          go_simp
          try with_reducible rfl
        try walk_nrm
        refine wpAnyH_take (i := 15) (v := ?_) rfl (by kernel_rfl) (by kernel_rfl) (by kernel_rfl) (fun _ _ _ h => h) (Or.inl ⟨by kernel_rfl, ?_⟩) (by assumption) ?_
        rotate_left
        · intro w' hSw
          try dsimp only at hSw
          go_simp
          try with_reducible rfl
        try walk_nrm
        refine wpAnyH_ready (rs := [16]) (by kernel_rfl) (by simp) ?_
        refine AllReadyH.cons rfl (fun K hK => ?_) AllReadyH.nil
        rw [if_pos (by kernel_rfl)]
        go_simp
        skip
        first | refine hK.out _ _ ?_ (fun hHeld => ?_) | (go_wp2_with fail; refine hK.out _ _ ?_ (fun hHeld => ?_))
        · try dsimp only
          exact HS2.out _ K13.out _
        clear hK K
        try walk_nrm
        refine wpAnyH_done (by kernel_rfl) ?_ _
        exact ⟨w13, K13.out, rfl⟩
    rintro a wx ⟨w13, hb13, rfl⟩
    obtain ⟨hno, hx, hon, e1, e2, e3⟩ := HR.out
    obtain ⟨hrl, hrf, hP1, hsn, htt⟩ := HRR.out
    have hx13 := (hx.below hb13).setTX hrl (relend xb was is tt)
    have hsz := HSZ.out
    have l5 := HL5.out
    have l6 := HL6.out
    have eP : lendP was is S.P (pre ++ [x]) = putP P1 rf ⟨(P1 rf).st, (P1 rf).tr, (relend xb was is tt).a, (relend xb was is tt).n, (relend xb was is tt).s, (P1 rf).en⟩ := by
     rw [hsn]
     unfold lendP1
     rw [hrf, Int.toNat_natCast, if_pos HQ.out, ← htt, ← HXB.out]
     rfl
    have hg := hb13.size
    have hgr : Grow W' (w13.setCells vb (rf * 6 + 2) (tlyS.f (relend xb was is tt))) := (Grow.of_below hb13).trans (setCells_grow _ _ _)
    have hoff : ∀ k, k ≠ vb → k < W'.heap.size → (w13.setCells vb (rf * 6 + 2) (tlyS.f (relend xb was is tt))).heap[k]? = W'.heap[k]? := fun k hk hl => (setCells_off hk _ _ _).trans (hb13.block k hl)
    refine ⟨Φi, fun k h => .inl h, ⟨hgr, fun k hk h1 h2 => hoff k h1 hk⟩, hno, ?_, hon.trans (Φ' := fun _ => False) ⟨hgr, fun k hk h1 h2 => hoff k h1 hk⟩ (fun k h => h.elim), (hoff _ (by omega) (by omega)).trans e1, (hoff _ (by omega) (by omega)).trans e2, (hoff _ (by omega) (by omega)).trans e3, Nat.le_trans hsz hgr.size⟩
    rw [eP]
    exact hx13
  · have q' : ((P1 rf).st == 1) = false := by simpa using q
    rw [q'] at HO
    have HQ := Lib.hid q
    clear q q'
    gi_wp2_with (first
     | (gi_at_call 47; refine (CallsIn.inRound _ (callsIn_wide.2 HP.out)).mono ?_; rintro e wx ⟨rfl, hwx⟩; rw [hwx]; clear hwx wx)
     | (refine ⟨trivial, ?_⟩; gi_at_call 47; refine (CallsIn.inRound _ (callsIn_wide.2 HP.out)).mono ?_; rintro e wx ⟨rfl, hwx⟩; rw [hwx]; clear hwx wx)
     | (gi_at_call 55; refine (CallsIn.inRound _ (callsIn_wide.2 HO.out)).mono ?_; rintro e wx ⟨rfl, hwx⟩; rw [hwx]; clear hwx wx)
     | (refine ⟨trivial, ?_⟩; gi_at_call 55; refine (CallsIn.inRound _ (callsIn_wide.2 HO.out)).mono ?_; rintro e wx ⟨rfl, hwx⟩; rw [hwx]; clear hwx wx)
     | fail)
    obtain ⟨hno, hx, hon, e1, e2, e3⟩ := HR.out
    obtain ⟨hrl, hrf, hP1, hsn, htt⟩ := HRR.out
    have eP : lendP was is S.P (pre ++ [x]) = P1 := by
     rw [hsn]
     unfold lendP1
     rw [hrf, Int.toNat_natCast, if_neg HQ.out]
    refine ⟨Φi, fun k h => .inl h, Only.refl _ _ _, hno, ?_, hon, e1, e2, e3, HSZ.out⟩
    rw [eP]
    exact hx
 case done =>
  rintro D Φ W3 ⟨hno, hx, hon, e1, e2, e3, hsz⟩ hon2 hD hnD hK
  have HD := Lib.hid (And.intro hx (And.intro hon (And.intro hD hK)))
  clear hno hx hon e1 e2 e3 hon2 hD hK hnD hGl hF6
  gi_wp2_with fail
  obtain ⟨hx, hon, hD, hK⟩ := HD.out
  obtain ⟨hX5, hF5, ho5, -⟩ := HX5.out
  obtain ⟨hb04, -⟩ := H4.out
  obtain ⟨-, -, -, -, -, hb6⟩ := H6x.out
  have l5 := HL5.out
  have l6 := HL6.out
  have hvF : F vb := HH.out.1.own
  have ho04 : Only F (fun _ => False) w w5 := only_trans (Only.of_later hb04) (only_trans (Only.of_later (Below.refl _ w4).drew) ho5)
  have hoW : Only F (fun _ => False) w W3 := only_trans ho04 (only_trans (Only.of_later hb6) ⟨hon.grow, fun k hk h1 h2 => hon.block k hk (fun e => h1 (by rw [e]; exact hvF)) h2⟩)
  have hlD : ∀ k, F5 k → k ≠ D := fun k hk e => by have := hX5.lt hk; omega
  refine marks_leave [D] W3 (by simp) (fun d hd => ?_) (fun w' hg hk => ⟨_, results_none rfl _ _ _, rfl, ?_⟩)
  · simp only [List.mem_cons, List.not_mem_nil, or_false] at hd
    subst hd; exact hK
  · refine ⟨F5, hx.keep hg (fun k hk' => hk k (by simp; exact hlD k hk')), fun k hk' => (hF5 k hk').imp id (fun h => ?_), ⟨hoW.grow.trans hg, fun k hk' h1 h2 => (hk k (by simp; omega)).trans (hoW.block k hk' h1 h2)⟩⟩
    have h : w4.heap.size ≤ k := h
    have := hb04.size
    omega
end
section
open Go.RowKit Go.Maps Go.Shelf
def wonB (st : Int) (x : Bal) : Bool := if x.k = 1 then (if x.aye then st == 2 else st == 3) else false
theorem VoX.won {vb N : Nat} {S : Vs} {F : FP} {w : World} (h : VoX vb N S F w) {k : Nat} (hk : k < 12) (x : Bal) :
 Calls Tryz.prog 69 #[.pointer (some ⟨vb, k * 6, none⟩), .agg (balS.f x).toArray] w fun e w' => e = .returned (.bool (wonB (S.P k).st x)) ∧ Below w.heap.size w w' := by
 obtain ⟨xk, xy, xl, xa, xn, xs⟩ := x
 obtain ⟨w1, hw1⟩ : ∃ w1, w1 = w.alloc (.cells #[.int .i64 xk, .bool xy, .int .i64 xl, .int .i64 xa, .int .i64 xn, .int .i64 xs] 28) := ⟨_, rfl⟩
 have hb1 : Below w.heap.size w w1 := by rw [hw1]; exact (Below.refl _ w).alloc (Nat.le_refl _) _
 have c0 := ((h.below hb1).cells hk).1
 have hr : w1.rangeAt w.heap.size 0 (balS.f ⟨xk, xy, xl, xa, xn, xs⟩) := by rw [hw1]; exact rangeAt_whole (T := balS.T) (World.alloc_heap_new _ _)
 have d0 : w1.cell? ⟨w.heap.size, 0, none⟩ = some (.int .i64 xk) := hr 0 _ rfl
 have d1 : w1.cell? ⟨w.heap.size, 1, none⟩ = some (.bool xy) := hr 1 _ rfl
 obtain ⟨st, hst⟩ : ∃ st, st = (S.P k).st := ⟨_, rfl⟩
 rw [← hst] at c0 ⊢
 rw [show (balS.f ⟨xk, xy, xl, xa, xn, xs⟩).toArray = #[.int .i64 xk, .bool xy, .int .i64 xl, .int .i64 xa, .int .i64 xn, .int .i64 xs] from rfl]
 have HB := Lib.hid hb1
 have HW := Lib.hid hw1
 clear hr hst h hb1
 go_enter Tryz.func69, Tryz.ntmps69
 go_upto_region 1 with fail
 rw [← HW.out]
 clear hw1
 by_cases q : xk = 1
 · have q' : (xk != 1) = false := by simp [q]
   have HQ := Lib.hid q
   clear q
   cases xy
   · go_wp2_with fail
     exact bodyPost_ret (v := .bool (st == 3)) (by simp [results, Tryz.results69, go_sem]) rfl ⟨by simp [wonB, HQ.out], HB.out⟩
   · go_wp2_with fail
     exact bodyPost_ret (v := .bool (st == 2)) (by simp [results, Tryz.results69, go_sem]) rfl ⟨by simp [wonB, HQ.out], HB.out⟩
 · have q' : (xk != 1) = true := by simpa using q
   have HQ := Lib.hid q
   clear q
   go_wp2_with fail
   exact bodyPost_ret (v := .bool false) (by simp [results, Tryz.results69, go_sem]) rfl ⟨by simp [wonB, HQ.out], HB.out⟩
def openE (P : Nat → Pl) (r t : Int) : Int := if ¬ (0 ≤ r ∧ r < 12) ∨ ¬ (0 ≤ t ∧ t < 4) then 1 else if (P r.toNat).st ≠ 0 then 5 else 0
def newPl (t : Int) : Pl := ⟨1, t, 0, 0, 0, 0⟩
def openS (S : Vs) (r t : Int) : Vs := if openE S.P r t = 0 then { S with P := putP S.P r.toNat (newPl t) } else S
def storePl (a v : Value) : Sem Unit := Instr.storeAt 88 a v
theorem storePl_hide (a v : Value) : Instr.storeAt 88 a v = storePl a v := rfl
theorem run_storePl {w : World} {b k : Nat} (h : w.there b k 6) (p : Pl) : (storePl (.pointer (some ⟨b, k, none⟩)) (.agg (plc p).toArray)).run Tryz.prog w = .ok () (w.setCells b k (plc p)) :=
 run_storeAt_mid w b k 88 (plc p).toArray h (by kernel_rfl) (by simp [plc, Value.oneCell'])
attribute [local go_sem ↓] storePl_hide in
theorem VoX.Open {vb N : Nat} {S : Vs} {F : FP} {w : World} (h : VoX vb N S F w) (r t : Int) :
 Calls Tryz.prog 20 #[.pointer (some ⟨vb, 0, none⟩), .int .i64 r, .int .i64 t] w fun e w' => e = .returned (.int .i64 (openE S.P r t)) ∧ VoTo vb N (openS S r t) F w w' := by
 have hp := h.poll r
 by_cases hr : 0 ≤ r ∧ r < 12
 · have hr' : decide (0 ≤ r ∧ r < 12) = true := decide_eq_true hr
   by_cases ht : 0 ≤ t ∧ t < 4
   · have ht' : decide (0 ≤ t ∧ t < 4) = true := decide_eq_true ht
     obtain ⟨k, rfl⟩ := Int.eq_ofNat_of_zero_le hr.1
     have hk : k < 12 := by omega
     by_cases hst : (S.P k).st = 0
     · have eP : plPtr vb S.P (k : Int) = none := by unfold plPtr; rw [if_neg (fun h => h.2 (by simpa using hst))]
       have eE : openE S.P k t = 0 := by unfold openE; rw [if_neg (fun q => q.elim (fun q => q hr) (fun q => q ht)), if_neg (by simpa using hst)]
       have eS : openS S k t = { S with P := putP S.P k (newPl t) } := by unfold openS; rw [if_pos eE]; rfl
       rw [eP] at hp
       rw [eE, eS]
       have hth := (h.cells hk).2.2.2.2.2.2
       have rs := run_storePl hth (newPl t)
       have hto := h.setP hk (newPl t)
       have hkI : (k : Int) < 12 := by omega
       have hk0 : ¬ (k : Int) < 0 := by omega
       have HR := Lib.hid hr'
       have HT := Lib.hid ht'
       have HP := Lib.hid hp
       have HTO := Lib.hid hto
       unfold plc newPl at rs
       have HRS := Lib.hid rs
       clear hr hr' ht ht' hp hth hto eP eE eS hst h
       go_enter Tryz.func20, Tryz.ntmps20
       go_wp2_with (first
        | (go_at_call 53; refine (bound_Below _ _ _).mono ?_; rw [HR.out]; rintro e w' ⟨rfl, hw⟩; rw [hw]; clear hw w')
        | (go_at_call 54; refine (voting_isTrack _ _).mono ?_; rw [HT.out]; rintro e w' ⟨rfl, hw⟩; rw [hw]; clear hw w')
        | (go_at_call 47; refine HP.out.mono ?_; rintro e w' ⟨rfl, hw⟩; rw [hw]; clear hw w')
        | fail)
       exact bodyPost_ret (v := .int .i64 0) (by simp [results, Tryz.results20, go_sem]) rfl ⟨rfl, HTO.out⟩
     · have eP : plPtr vb S.P (k : Int) = some ⟨vb, k * 6, none⟩ := by unfold plPtr; rw [if_pos ⟨hr, by simpa using hst⟩]; simp
       have eE : openE S.P k t = 5 := by unfold openE; rw [if_neg (fun q => q.elim (fun q => q hr) (fun q => q ht)), if_pos (by simpa using hst)]
       have eS : openS S k t = S := by unfold openS; rw [if_neg (by rw [eE]; decide)]
       rw [eP] at hp
       rw [eE, eS]
       have HR := Lib.hid hr'
       have HT := Lib.hid ht'
       have HP := Lib.hid hp
       have HTO := Lib.hid h
       clear hr hr' ht ht' hp eP eE eS hst h
       go_enter Tryz.func20, Tryz.ntmps20
       go_wp2_with (first
        | (go_at_call 53; refine (bound_Below _ _ _).mono ?_; rw [HR.out]; rintro e w' ⟨rfl, hw⟩; rw [hw]; clear hw w')
        | (go_at_call 54; refine (voting_isTrack _ _).mono ?_; rw [HT.out]; rintro e w' ⟨rfl, hw⟩; rw [hw]; clear hw w')
        | (go_at_call 47; refine HP.out.mono ?_; rintro e w' ⟨rfl, hw⟩; rw [hw]; clear hw w')
        | fail)
       exact bodyPost_ret (v := .int .i64 5) (by simp [results, Tryz.results20, go_sem]) rfl ⟨rfl, VoTo.refl HTO.out⟩
   · have ht' : decide (0 ≤ t ∧ t < 4) = false := decide_eq_false ht
     have eE : openE S.P r t = 1 := by unfold openE; rw [if_pos (.inr ht)]
     have eS : openS S r t = S := by unfold openS; rw [if_neg (by rw [eE]; decide)]
     rw [eE, eS]
     have HR := Lib.hid hr'
     have HT := Lib.hid ht'
     have HTO := Lib.hid h
     clear hr hr' ht ht' hp eE eS h
     go_enter Tryz.func20, Tryz.ntmps20
     go_wp2_with (first
      | (go_at_call 53; refine (bound_Below _ _ _).mono ?_; rw [HR.out]; rintro e w' ⟨rfl, hw⟩; rw [hw]; clear hw w')
      | (go_at_call 54; refine (voting_isTrack _ _).mono ?_; rw [HT.out]; rintro e w' ⟨rfl, hw⟩; rw [hw]; clear hw w')
      | fail)
     exact bodyPost_ret (v := .int .i64 1) (by simp [results, Tryz.results20, go_sem]) rfl ⟨rfl, VoTo.refl HTO.out⟩
 · have hr' : decide (0 ≤ r ∧ r < 12) = false := decide_eq_false hr
   have eE : openE S.P r t = 1 := by unfold openE; rw [if_pos (.inl hr)]
   have eS : openS S r t = S := by unfold openS; rw [if_neg (by rw [eE]; decide)]
   rw [eE, eS]
   have HR := Lib.hid hr'
   have HTO := Lib.hid h
   clear hr hr' hp eE eS h
   go_enter Tryz.func20, Tryz.ntmps20
   go_wp2_with (first
    | (go_at_call 53; refine (bound_Below _ _ _).mono ?_; rw [HR.out]; rintro e w' ⟨rfl, hw⟩; rw [hw]; clear hw w')
    | fail)
   exact bodyPost_ret (v := .int .i64 1) (by simp [results, Tryz.results20, go_sem]) rfl ⟨rfl, VoTo.refl HTO.out⟩
def closeE (P : Nat → Pl) (r st : Int) : Int := if ¬ ((0 ≤ r ∧ r < 12) ∧ (P r.toNat).st ≠ 0) then 4 else if (P r.toNat).st ≠ 1 then 9 else if ¬ (2 ≤ st ∧ st ≤ 6) then 1 else 0
def closeS (S : Vs) (r st en : Int) : Vs := if closeE S.P r st = 0 then { S with P := putP S.P r.toNat ⟨st, (S.P r.toNat).tr, (S.P r.toNat).ay, (S.P r.toNat).na, (S.P r.toNat).su, en⟩ } else S
theorem VoX.setE {vb N : Nat} {S : Vs} {F : FP} {w : World} (h : VoX vb N S F w) {k : Nat} (hk : k < 12) (st en : Int) : VoTo vb N { S with P := putP S.P k ⟨st, (S.P k).tr, (S.P k).ay, (S.P k).na, (S.P k).su, en⟩ } F w ((w.setCell ⟨vb, k * 6, none⟩ (.int .i64 st)).setCell ⟨vb, k * 6 + 5, none⟩ (.int .i64 en)) := by
 obtain ⟨gv, gd, gw, gp, FV, FD, FW, FQ, h1, h2⟩ := h
 have hg : Grow w ((w.setCell ⟨vb, k * 6, none⟩ (.int .i64 st)).setCell ⟨vb, k * 6 + 5, none⟩ (.int .i64 en)) := ⟨rfl, rfl, rfl, by simp [World.setCell]⟩
 have ho : ∀ i, i ≠ vb → ((w.setCell ⟨vb, k * 6, none⟩ (.int .i64 st)).setCell ⟨vb, k * 6 + 5, none⟩ (.int .i64 en)).heap[i]? = w.heap[i]? := fun i hi => (Below.heap_setCell _ _ _ i hi).trans (Below.heap_setCell _ _ _ i hi)
 have b1 := h1.blk.set' hk (j := 0) (by omega) (u := .int .i64 st) (p' := ⟨st, (S.P k).tr, (S.P k).ay, (S.P k).na, (S.P k).su, (S.P k).en⟩) rfl
 have b2 := b1.set' hk (j := 5) (by omega) (u := .int .i64 en) (p' := ⟨st, (S.P k).tr, (S.P k).ay, (S.P k).na, (S.P k).su, en⟩) (by rw [putP_same]; rfl)
 rw [putP_putP] at b2
 refine ⟨F, ⟨gv, gd, gw, gp, FV, FD, FW, FQ, ⟨b2, h1.v.keep hg (fun i hi => ho i (fun e => h1.off.b.1 (e ▸ hi))), h1.d.keep hg (fun i hi => ho i (fun e => h1.off.b.2.1 (e ▸ hi))), h1.g.keep hg (fun i hi => ho i (fun e => h1.off.b.2.2.1 (e ▸ hi))), h1.q.keep hg (fun i hi => ho i (fun e => h1.off.b.2.2.2 (e ▸ hi))), h1.off⟩, h2⟩, fun k hk => .inl hk, hg, fun i hi h3 h4 => ho i (fun e => h3 ((h2 i).2 (.inl e)))⟩
theorem VoX.Close {vb N : Nat} {S : Vs} {F : FP} {w : World} (h : VoX vb N S F w) (r st en : Int) :
 Calls Tryz.prog 21 #[.pointer (some ⟨vb, 0, none⟩), .int .i64 r, .int .i64 st, .int .i64 en] w fun e w' => e = .returned (.int .i64 (closeE S.P r st)) ∧ VoTo vb N (closeS S r st en) F w w' := by
 have hp := h.poll r
 by_cases hr : (0 ≤ r ∧ r < 12) ∧ (S.P r.toNat).st ≠ 0
 · obtain ⟨k, rfl⟩ := Int.eq_ofNat_of_zero_le hr.1.1
   have hk : k < 12 := by omega
   have eP : plPtr vb S.P (k : Int) = some ⟨vb, k * 6, none⟩ := by unfold plPtr; rw [if_pos hr]; simp
   rw [eP] at hp
   have ho := h.open hk
   rw [Int.toNat_natCast] at hr
   by_cases h1 : (S.P k).st = 1
   · have h1' : ((S.P k).st == 1) = true := by simpa using h1
     rw [h1'] at ho
     by_cases h2 : 2 ≤ st ∧ st ≤ 6
     · have h2' : withinB st 2 6 = true := by simpa [withinB] using h2
       have eE : closeE S.P k st = 0 := by unfold closeE; rw [Int.toNat_natCast, if_neg (fun q => q hr), if_neg (fun q => q h1), if_neg (fun q => q h2)]
       have eS : closeS S k st en = { S with P := putP S.P k ⟨st, (S.P k).tr, (S.P k).ay, (S.P k).na, (S.P k).su, en⟩ } := by unfold closeS; rw [if_pos eE]; rfl
       rw [eE, eS]
       have hto := h.setE hk st en
       obtain ⟨c0, -, c5, hfr, -⟩ := h.cells hk
       have f0 := hfr (k * 6)
       have f5 := hfr (k * 6 + 5)
       have HP := Lib.hid hp
       have HO := Lib.hid ho
       have H2 := Lib.hid h2'
       have HTO := Lib.hid hto
       clear hp ho h2 h2' hto hr h1 h1' eE eS eP h hfr
       go_enter Tryz.func21, Tryz.ntmps21
       go_wp2_with (first
        | (go_at_call 47; refine HP.out.mono ?_; rintro e w' ⟨rfl, hw⟩; rw [hw]; clear hw w')
        | (go_at_call 55; refine HO.out.mono ?_; rintro e w' ⟨rfl, hw⟩; rw [hw]; clear hw w')
        | (go_at_call 56; refine (cvWithin _ _ _ _).mono ?_; rw [H2.out]; rintro e w' ⟨rfl, hw⟩; rw [← hw]; clear hw w')
        | fail)
       exact bodyPost_ret (v := .int .i64 0) (by simp [results, Tryz.results21, go_sem]) rfl ⟨rfl, HTO.out⟩
     · have h2' : withinB st 2 6 = false := by simp only [withinB]; by_cases q : 2 ≤ st <;> simp [q] <;> omega
       have eE : closeE S.P k st = 1 := by unfold closeE; rw [Int.toNat_natCast, if_neg (fun q => q hr), if_neg (fun q => q h1), if_pos h2]
       have eS : closeS S k st en = S := by unfold closeS; rw [if_neg (by rw [eE]; decide)]
       rw [eE, eS]
       have HP := Lib.hid hp
       have HO := Lib.hid ho
       have H2 := Lib.hid h2'
       have HTO := Lib.hid h
       clear hp ho h2 h2' hr h1 h1' eE eS eP h
       go_enter Tryz.func21, Tryz.ntmps21
       go_wp2_with (first
        | (go_at_call 47; refine HP.out.mono ?_; rintro e w' ⟨rfl, hw⟩; rw [hw]; clear hw w')
        | (go_at_call 55; refine HO.out.mono ?_; rintro e w' ⟨rfl, hw⟩; rw [hw]; clear hw w')
        | (go_at_call 56; refine (cvWithin _ _ _ _).mono ?_; rw [H2.out]; rintro e w' ⟨rfl, hw⟩; rw [← hw]; clear hw w')
        | fail)
       exact bodyPost_ret (v := .int .i64 1) (by simp [results, Tryz.results21, go_sem]) rfl ⟨rfl, VoTo.refl HTO.out⟩
   · have h1' : ((S.P k).st == 1) = false := by simpa using h1
     rw [h1'] at ho
     have eE : closeE S.P k st = 9 := by unfold closeE; rw [Int.toNat_natCast, if_neg (fun q => q hr), if_pos h1]
     have eS : closeS S k st en = S := by unfold closeS; rw [if_neg (by rw [eE]; decide)]
     rw [eE, eS]
     have HP := Lib.hid hp
     have HO := Lib.hid ho
     have HTO := Lib.hid h
     clear hp ho hr h1 h1' eE eS eP h
     go_enter Tryz.func21, Tryz.ntmps21
     go_wp2_with (first
      | (go_at_call 47; refine HP.out.mono ?_; rintro e w' ⟨rfl, hw⟩; rw [hw]; clear hw w')
      | (go_at_call 55; refine HO.out.mono ?_; rintro e w' ⟨rfl, hw⟩; rw [hw]; clear hw w')
      | fail)
     exact bodyPost_ret (v := .int .i64 9) (by simp [results, Tryz.results21, go_sem]) rfl ⟨rfl, VoTo.refl HTO.out⟩
 · have eP : plPtr vb S.P r = none := by unfold plPtr; rw [if_neg hr]
   rw [eP] at hp
   have eE : closeE S.P r st = 4 := by unfold closeE; rw [if_pos hr]
   have eS : closeS S r st en = S := by unfold closeS; rw [if_neg (by rw [eE]; decide)]
   rw [eE, eS]
   have HP := Lib.hid hp
   have HTO := Lib.hid h
   clear hp hr eE eS eP h
   go_enter Tryz.func21, Tryz.ntmps21
   go_wp2_with (first
    | (go_at_call 47; refine HP.out.mono ?_; rintro e w' ⟨rfl, hw⟩; rw [hw]; clear hw w')
    | fail)
   exact bodyPost_ret (v := .int .i64 4) (by simp [results, Tryz.results21, go_sem]) rfl ⟨rfl, VoTo.refl HTO.out⟩
theorem VoX.Votes {vb N : Nat} {S : Vs} {F : FP} {w : World} (h : VoX vb N S F w) (hlen : S.V.length ≤ 100000) {a : Int} (ha : (Lit.int .i64 a).wf = true) (hrf : ∀ x ∈ rowOf S.V a, 0 ≤ x.1 ∧ x.1 < 12) (t : Int) :
 Calls Tryz.prog 48 #[.pointer (some ⟨vb, 0, none⟩), .int .i64 a, .int .i64 t] w fun e w' => ∃ bx v, e = .returned (.func (.func 122) #[] #[.pointer (some ⟨bx, 0, none⟩)]) ∧ Boxed w' bx 191 v ∧ OwnR pair_V (bx + 1) v (ballots S a t) w' ∧ w.heap.size ≤ bx ∧ Below w.heap.size w w' := by
 have hbal := h.balWay hlen ha hrf t
 have hll : (ballots S a t).length ≤ 1000000 := Nat.le_trans (tbal_length _ _ _) (Nat.le_trans (row_length _ _) (by omega))
 obtain ⟨xs, hxs⟩ : ∃ xs, xs = ballots S a t := ⟨_, rfl⟩
 unfold BalWay at hbal
 rw [← hxs] at hbal hll ⊢
 have HB := Lib.hid hbal
 have HL := Lib.hid (And.intro hll (show ∀ k, F k → k < w.heap.size from fun k hk => h.lt hk))
 clear hbal hll hxs h hlen ha hrf
 go_enter Tryz.func48, Tryz.ntmps48
 go_wp2_with (first
  | (go_at_call 78; refine HB.out.mono ?_; rintro e w1 ⟨rfl, hb, hs1, -, hit⟩; have H1 := Lib.hid (And.intro hit (And.intro hb hs1)); clear hit hb hs1)
  | (go_at_call 102; refine (still_Now_V _ _ xs w1 enters_ballots1 ((H1.out.1 0).later (Grow.refl _) (fun k hk => ⟨by rcases hk with h | h; (have := HL.out.2 k h; have := H1.out.2.2; omega); (have := H1.out.2.2; omega), rfl⟩) (fun k hk => by rcases hk with h | h; (have := HL.out.2 k h; have := H1.out.2.2; show k < w1.heap.size; omega); (have := H1.out.2.2; show k < w1.heap.size; omega))) HL.out.1).mono ?_; rintro e w2 ⟨v, rfl, hbx, ho, hb⟩; have H2 := Lib.hid (And.intro hbx (And.intro ho hb)); clear hbx ho hb)
  | fail)
 go_ret
 exact ⟨_, v, rfl, H2.out.1, H2.out.2.1, H1.out.2.1.size, H1.out.2.1.trans (H2.out.2.2.mono H1.out.2.1.size)⟩
end
section
open Go.RowKit Go.Maps
theorem rising_length : ∀ (n : Nat) (l : List Nat), l.Pairwise (· < ·) → (∀ x ∈ l, x < n) → l.length ≤ n
 | 0, l, _, h => by
  cases l with
  | nil => simp
  | cons x l => have := h x (by simp); omega
 | n + 1, l, hp, h => by
  have h1 : (l.filter (· < n)).length ≤ n := rising_length n _ (hp.filter _) (fun x hx => by simpa using (List.mem_filter.1 hx).2)
  have h2 : l.length ≤ (l.filter (· < n)).length + 1 := by
   clear h1
   induction l with
   | nil => simp
   | cons x l ih =>
    have hp' := List.pairwise_cons.1 hp
    have ih' := ih hp'.2 (fun y hy => h y (List.mem_cons_of_mem _ hy))
    by_cases hx : x < n
    · rw [List.filter_cons_of_pos (by simpa using hx)]; simp; omega
    · have hxn : x = n := by have := h x (by simp); omega
      cases l with
      | nil => simp
      | cons y l => have := hp'.1 y (by simp); have := h y (by simp); omega
  omega
def KeyBox {β : Type} (M : Cls β) : Prop := ∀ x ∈ M, (0 ≤ x.1.1 ∧ x.1.1 < 10) ∧ (0 ≤ x.1.2 ∧ x.1.2 < 12)
theorem KeyBox.len {β : Type} {M : Cls β} (hs : SrtC M) (h : KeyBox M) : M.length ≤ 120 := by
 have h1 : (M.map (fun x => (x.1.1 * 12 + x.1.2).toNat)).Pairwise (· < ·) := by
  refine List.pairwise_map.2 (hs.imp_of_mem ?_)
  intro x y hx hy hl
  obtain ⟨h1, h2⟩ := h x hx
  obtain ⟨h3, h4⟩ := h y hy
  unfold lexlt at hl
  omega
 have h2 := rising_length 120 _ h1 (fun n hn => by
  obtain ⟨x, hx, rfl⟩ := List.mem_map.1 hn
  obtain ⟨h1, h2⟩ := h x hx
  omega)
 simpa using h2
theorem KeyBox.put {β : Type} {M : Cls β} (h : KeyBox M) {a b : Int} (ha : 0 ≤ a ∧ a < 10) (hb : 0 ≤ b ∧ b < 12) (v : β) : KeyBox (cput M a b v) := fun x hx => by
 rcases mem_cput.1 hx with rfl | ⟨h1, -⟩
 · exact ⟨ha, hb⟩
 · exact h x h1
theorem KeyBox.del {β : Type} {M : Cls β} (h : KeyBox M) (a b : Int) : KeyBox (cdel M a b) := fun x hx => h x (mem_cdel.1 hx).1
structure VInv (S : Vs) : Prop where
 v : ∀ x ∈ S.V, ((0 ≤ x.1.1 ∧ x.1.1 < 10) ∧ (0 ≤ x.1.2 ∧ x.1.2 < 12)) ∧ (S.P x.1.2.toNat).st ≠ 0 ∧ balOk x.2 = true
 d : ∀ x ∈ S.D, ((0 ≤ x.1.1 ∧ x.1.1 < 10) ∧ (0 ≤ x.1.2 ∧ x.1.2 < 12)) ∧ (0 ≤ x.2.to ∧ x.2.to < 10) ∧ (0 ≤ x.2.l ∧ x.2.l ≤ 6) ∧ (0 ≤ x.2.n ∧ x.2.n ≤ 1073741824)
 g : KeyBox S.G
 q : KeyBox S.Q
 t : ∀ k, k < 12 → 0 ≤ (S.P k).tr ∧ (S.P k).tr < 4
theorem VInv.zero : VInv Vs.zero := ⟨fun x hx => (List.not_mem_nil hx).elim, fun x hx => (List.not_mem_nil hx).elim, fun x hx => (List.not_mem_nil hx).elim, fun x hx => (List.not_mem_nil hx).elim, fun k hk => ⟨Int.le_refl 0, (by decide : (0 : Int) < 4)⟩⟩
theorem VInv.boxV {S : Vs} (h : VInv S) : KeyBox S.V := fun x hx => (h.v x hx).1
theorem VInv.boxD {S : Vs} (h : VInv S) : KeyBox S.D := fun x hx => (h.d x hx).1
theorem VInv.lens {S : Vs} (h : VInv S) {vb N : Nat} {F : FP} {w : World} (hx : VoX vb N S F w) : S.V.length ≤ 120 ∧ S.D.length ≤ 120 ∧ S.G.length ≤ 120 ∧ S.Q.length ≤ 120 := by
 obtain ⟨h1, h2, h3, h4⟩ := hx.srt
 exact ⟨h.boxV.len h1, h.boxD.len h2, h.g.len h3, h.q.len h4⟩
theorem VInv.row {S : Vs} (h : VInv S) (a : Int) : ∀ x ∈ rowOf S.V a, (0 ≤ x.1 ∧ x.1 < 12) ∧ (S.P x.1.toNat).st ≠ 0 ∧ balOk x.2 = true := fun x hx => by
 obtain ⟨h1, h2, h3⟩ := h.v _ (mem_rowOf.1 hx)
 exact ⟨h1.2, h2, h3⟩
instance (P : Nat → Pl) (r : Int) : Decidable (plHas P r) := by unfold plHas; infer_instance
def gotS (S : Vs) (a t : Int) : Wgt := (cget S.G a t).getD ⟨0, 0⟩
def capB (x : Bal) : Int := x.a + x.n + x.s
def voteE (S : Vs) (A : Acc) (a r : Int) (x : Bal) : Int :=
 if ¬ isAcc a ∨ balOk x = false then 1 else if ¬ plHas S.P r then 4 else if (S.P r.toNat).st ≠ 1 then 9 else if (cget S.D a (S.P r.toNat).tr).isSome = true then 5 else if (A a.toNat).1 < capB x then 6 else if (cget S.V a r).isSome = false ∧ 6 ≤ (ballots S a (S.P r.toNat).tr).length then 3 else 0
def voteT0 (S : Vs) (a r : Int) : Tl := match cget S.V a r with
 | some y => (S.P r.toNat).t.sub (gainW y (gotS S a (S.P r.toNat).tr))
 | none => (S.P r.toNat).t
def voteT (S : Vs) (a r : Int) (x : Bal) : Tl := (voteT0 S a r).add (gainW x (gotS S a (S.P r.toNat).tr))
def voteS (S : Vs) (A : Acc) (a r : Int) (x : Bal) : Vs := if voteE S A a r x = 0 then { S with P := putP S.P r.toNat ((S.P r.toNat).withT (voteT S a r x)), V := cput S.V a r x } else S
def voteM (S : Vs) (A : Acc) (M : Cls Int) (a r : Int) (x : Bal) : Cls Int := if voteE S A a r x = 0 then raiseM M a (S.P r.toNat).tr (capB x) else M
def unvoteE (S : Vs) (a r : Int) : Int := if ¬ isAcc a then 1 else if ¬ plHas S.P r ∨ (cget S.V a r).isSome = false then 4 else 0
def unvoteS (S : Vs) (a r now : Int) : Vs := if unvoteE S a r = 0 then
 (if (S.P r.toNat).st = 1 then { S with V := cdel S.V a r, P := putP S.P r.toNat ((S.P r.toNat).withT ((S.P r.toNat).t.sub (gainW ((cget S.V a r).getD balS.zero) (gotS S a (S.P r.toNat).tr)))) }
  else if wonB (S.P r.toNat).st ((cget S.V a r).getD balS.zero) = true then { S with V := cdel S.V a r, Q := joinQ S.Q a (S.P r.toNat).tr (wrap64 ((S.P r.toNat).en + periodI ((cget S.V a r).getD balS.zero).l 8)) ((cget S.V a r).getD balS.zero).a now }
  else { S with V := cdel S.V a r }) else S
def delE (S : Vs) (A : Acc) (a t who l n : Int) : Int :=
 if ¬ isAcc a ∨ ¬ (0 ≤ t ∧ t < 4) ∨ ¬ isAcc who ∨ who = a ∨ ¬ (0 ≤ l ∧ l ≤ 6) ∨ ¬ isBal n then 1 else if (cget S.D a t).isSome = true then 5 else if 0 < (ballots S a t).length then 9 else if (A a.toNat).1 < n then 6 else 0
def delS (S : Vs) (A : Acc) (a t who l n : Int) : Vs := if delE S A a t who l n = 0 then lendS { S with D := cput S.D a t ⟨who, l, n⟩ } who t (votesI n l) n else S
def delM (S : Vs) (A : Acc) (M : Cls Int) (a t who l n : Int) : Cls Int := if delE S A a t who l n = 0 then raiseM M a t n else M
def undE (S : Vs) (a t : Int) : Int := if ¬ isAcc a ∨ ¬ (0 ≤ t ∧ t < 4) then 1 else if (cget S.D a t).isSome = false then 4 else 0
def undD (S : Vs) (a t : Int) : Dlg := (cget S.D a t).getD dlgS.zero
def undS1 (S : Vs) (a t : Int) : Vs := lendS { S with D := cdel S.D a t } (undD S a t).to t (wrap64 (-(votesI (undD S a t).n (undD S a t).l))) (wrap64 (-(undD S a t).n))
def undS (S : Vs) (a t now : Int) : Vs := if undE S a t = 0 then { undS1 S a t with Q := joinQ S.Q a t (wrap64 (now + periodI (undD S a t).l 8)) (undD S a t).n now } else S
def unlE (a t : Int) : Int := if ¬ isAcc a ∨ ¬ (0 ≤ t ∧ t < 4) then 1 else 0
def unlQ (S : Vs) (a t now : Int) : Cls Wgt := if ((cget S.Q a t).getD ⟨0, 0⟩).v ≤ now then cdel S.Q a t else S.Q
def unlS (S : Vs) (a t now : Int) : Vs := if unlE a t = 0 then { S with Q := unlQ S a t now } else S
def maxCap (l : List (Int × Bal)) (n : Int) : Int := l.foldl (fun m x => max m (capB x.2)) n
def unlN (S : Vs) (a t now : Int) : Int := maxCap (ballots S a t) (max (undD S a t).n ((cget (unlQ S a t now) a t).getD ⟨0, 0⟩).c)
def unlM (S : Vs) (M : Cls Int) (a t now : Int) : Cls Int := if unlE a t = 0 then lockM M a t (unlN S a t now) else M
end
section
open Go.RowKit Go.Maps Go.Shelf
theorem plPtr_has {vb : Nat} {P : Nat → Pl} {r : Int} (h : plHas P r) : ∃ k : Nat, r = k ∧ k < 12 ∧ (P k).st ≠ 0 ∧ plPtr vb P r = some ⟨vb, k * 6, none⟩ := by
 obtain ⟨⟨h0, h1⟩, h2⟩ := h
 refine ⟨r.toNat, by omega, by omega, h2, ?_⟩
 unfold plPtr
 rw [if_pos ⟨⟨h0, h1⟩, h2⟩]
theorem plPtr_none {vb : Nat} {P : Nat → Pl} {r : Int} (h : ¬ plHas P r) : plPtr vb P r = none := by
 unfold plPtr
 exact if_neg h
theorem wfS {n : Int} (h0 : -1000 ≤ n) (h1 : n ≤ 1099511627776) : (Lit.int .i64 n).wf = true := by
 simp [Lit.wf, IntKind.min, IntKind.max, IntKind.signed, IntKind.bits]; omega
theorem putP_withT (P : Nat → Pl) (k : Nat) : putP P k ((P k).withT (P k).t) = P := by
 funext i
 by_cases h : i = k
 · subst h; rw [putP_same]; rfl
 · rw [putP_other _ _ h]
theorem VoTo.cons {vb N : Nat} {S' : Vs} {F F1 : FP} {w w1 w' : World} (h2 : ∀ k, F1 k → F k ∨ w.heap.size ≤ k) (h3 : Only F (fun _ => False) w w1) (h : VoTo vb N S' F1 w1 w') : VoTo vb N S' F w w' := by
 obtain ⟨F2, k1, k2, k3⟩ := h
 have hs := h3.grow.size
 refine ⟨F2, k1, fun k hk => (k2 k hk).elim (fun e => h2 k e) (fun e => .inr (by omega)), h3.grow.trans k3.grow, fun k hk h4 h5 => ?_⟩
 exact (k3.block k (by omega) (fun e => (h2 k e).elim h4 (fun e => by omega)) (fun h => h)).trans (h3.block k hk h4 (fun h => h))
structure Stt (g vb N : Nat) (S : Vs) (A : Acc) (M : Cls Int) (F FL Zn : FP) (w : World) (bs : List (Nat × List Value)) (W : World) : Prop where
 vo : VoX vb N S F W
 ld : LdX g N A M FL W
 dis : ∀ j, F j → ¬ FL j
 on : Only Zn (fun _ => False) w W
 sub : ∀ k, F k ∨ FL k → Zn k ∨ w.heap.size ≤ k
 bs : ∀ b ∈ bs, W.rangeAt b.1 0 b.2 ∧ (¬ F b.1 ∧ ¬ FL b.1) ∧ b.1 < W.heap.size
abbrev Sit (g vb N k : Nat) (S : Vs) (A : Acc) (M : Cls Int) (F FL Zn : FP) (w : World) (bs : List (Nat × List Value)) (t : Tl) (W : World) : Prop :=
 Stt g vb N { S with P := putP S.P k ((S.P k).withT t) } A M F FL Zn w bs W
section
variable {g vb N k : Nat} {S S' : Vs} {A A' : Acc} {M M' : Cls Int} {F FL Zn : FP} {w : World} {bs : List (Nat × List Value)} {t : Tl} {W W' : World}
theorem Stt.start (h : LvAt g vb N S A M Zn w) : ∃ F FL, Stt g vb N S A M F FL Zn w [] w := by
 obtain ⟨F, FL, h1, h2, h3, h4⟩ := h
 exact ⟨F, FL, h1, h2, h3, Only.refl _ _ _, fun k hk => .inl ((h4 k).2 hk), fun b hb => by cases hb⟩
theorem Stt.below (h : Stt g vb N S A M F FL Zn w bs W) (hb : Below W.heap.size W W') : Stt g vb N S A M F FL Zn w bs W' :=
 ⟨h.vo.below hb, h.ld.below hb, h.dis, only_trans h.on (Only.of_later hb), h.sub, fun b hm => ⟨rangeAt_block (h.bs b hm).1 (hb.block _ (h.bs b hm).2.2), (h.bs b hm).2.1, Nat.lt_of_lt_of_le (h.bs b hm).2.2 hb.size⟩⟩
theorem Stt.box (h : Stt g vb N S A M F FL Zn w bs W) {b : Nat} {l : List Value} (hr : W.rangeAt b 0 l) (hn : ¬ F b ∧ ¬ FL b) (hl : b < W.heap.size) : Stt g vb N S A M F FL Zn w ((b, l) :: bs) W :=
 ⟨h.vo, h.ld, h.dis, h.on, h.sub, fun c hc => by
  rcases List.mem_cons.1 hc with rfl | hc
  · exact ⟨hr, hn, hl⟩
  · exact h.bs c hc⟩
theorem Stt.new (h : Stt g vb N S A M F FL Zn w bs W) {b : Nat} {l : List Value} (hr : W'.rangeAt b 0 l) (hb : Below W.heap.size W W') (hn : W.heap.size ≤ b) (hl : b < W'.heap.size) : Stt g vb N S A M F FL Zn w ((b, l) :: bs) W' :=
 (h.below hb).box hr ⟨fun hf => by have := h.vo.lt hf; omega, fun hf => by have := h.ld.lt hf; omega⟩ hl
theorem Stt.to (h : Stt g vb N S A M F FL Zn w bs W) : LvTo g vb N S A M Zn w W := ⟨fun k => F k ∨ FL k, ⟨F, FL, h.vo, h.ld, h.dis, fun k => Iff.rfl⟩, h.sub, h.on⟩
theorem Stt.toV (h : Stt g vb N S A M F FL Zn w bs W) (ht : VoTo vb N S' F W W') : ∃ F', Stt g vb N S' A M F' FL Zn w bs W' := by
 obtain ⟨F', k1, k2, k3⟩ := ht
 refine ⟨F', k1, h.ld.keep k3.grow (fun k hk => k3.block k (h.ld.lt hk) (fun e => h.dis k e hk) (fun h => h)), fun k hk hl => (k2 k hk).elim (fun e => h.dis k e hl) (fun e => by have := h.ld.lt hl; omega), only_cons h.on (fun k hk => h.sub k (.inl hk)) k3, fun k hk => hk.elim (fun e => (k2 k e).elim (fun e => h.sub k (.inl e)) (fun e => .inr (Nat.le_trans h.on.grow.size e))) (fun e => h.sub k (.inr e)), fun b hm => ?_⟩
 obtain ⟨h1, ⟨h2, h3⟩, h4⟩ := h.bs b hm
 exact ⟨rangeAt_block h1 (k3.block _ h4 h2 (fun h => h)), ⟨fun hf => (k2 _ hf).elim h2 (fun e => by omega), h3⟩, Nat.lt_of_lt_of_le h4 k3.grow.size⟩
theorem Stt.toL (h : Stt g vb N S A M F FL Zn w bs W) (ht : LdTo g N A' M' FL W W') : ∃ FL', Stt g vb N S A' M' F FL' Zn w bs W' := by
 obtain ⟨F', k1, k2, k3⟩ := ht
 refine ⟨F', h.vo.keep k3.grow (fun k hk => k3.block k (h.vo.lt hk) (fun e => h.dis k hk e) (fun h => h)), k1, fun k hk hl => (k2 k hl).elim (fun e => h.dis k hk e) (fun e => by have := h.vo.lt hk; omega), only_cons h.on (fun k hk => h.sub k (.inr hk)) k3, fun k hk => hk.elim (fun e => h.sub k (.inl e)) (fun e => (k2 k e).elim (fun e => h.sub k (.inr e)) (fun e => .inr (Nat.le_trans h.on.grow.size e))), fun b hm => ?_⟩
 obtain ⟨h1, ⟨h2, h3⟩, h4⟩ := h.bs b hm
 exact ⟨rangeAt_block h1 (k3.block _ h4 h3 (fun h => h)), ⟨h2, fun hf => (k2 _ hf).elim h3 (fun e => by omega)⟩, Nat.lt_of_lt_of_le h4 k3.grow.size⟩
theorem Sit.of (h : Stt g vb N S A M F FL Zn w bs W) (k : Nat) : Sit g vb N k S A M F FL Zn w bs (S.P k).t W := by
 unfold Sit
 rw [putP_withT]
 exact h
theorem Sit.setT (h : Sit g vb N k S A M F FL Zn w bs t W) (hk : k < 12) (t' : Tl) : Sit g vb N k S A M F FL Zn w bs t' (W.setCells vb (k * 6 + 2) (tlyS.f t')) := by
 have hx := h.vo.setTX hk t'
 have hg := setCells_grow (b := vb) (tlyS.f t') (k * 6 + 2) W
 have ho : ∀ i, i ≠ vb → (W.setCells vb (k * 6 + 2) (tlyS.f t')).heap[i]? = W.heap[i]? := fun i hi => setCells_off hi _ _ _
 refine ⟨?_, h.ld.keep hg (fun i hi => ho i (fun e => h.dis vb h.vo.own (e ▸ hi))), h.dis, ?_, h.sub, fun b hb => ?_⟩
 · have e : putP (putP S.P k ((S.P k).withT t)) k ⟨(putP S.P k ((S.P k).withT t) k).st, (putP S.P k ((S.P k).withT t) k).tr, t'.a, t'.n, t'.s, (putP S.P k ((S.P k).withT t) k).en⟩ = putP S.P k ((S.P k).withT t') := by
    rw [putP_putP, putP_same]; rfl
   rw [← e]
   exact hx
 · exact only_cons h.on (fun k hk => h.sub k (.inl hk)) ⟨hg, fun i hi h1 h2 => ho i (fun e => h1 (e ▸ h.vo.own))⟩
 · obtain ⟨h1, h2, h3⟩ := h.bs b hb
   exact ⟨rangeAt_block h1 (ho _ (fun e => h2.1 (e ▸ h.vo.own))), h2, Nat.lt_of_lt_of_le h3 hg.size⟩
theorem Stt.loadV (h : Stt g vb N S A M F FL Zn w bs W) {b : Nat} {x : Bal} (hm : (b, balS.f x) ∈ bs) : (loadSt_V (.pointer (some ⟨b, 0, none⟩))).run Tryz.prog W = .ok (.agg (balS.f x).toArray) W := run_loadSt_V (h.bs _ hm).1
theorem Stt.loadW (h : Stt g vb N S A M F FL Zn w bs W) {b : Nat} {x : Wgt} (hm : (b, wgtS.f x) ∈ bs) : (loadSt_W (.pointer (some ⟨b, 0, none⟩))).run Tryz.prog W = .ok (.agg (wgtS.f x).toArray) W := run_loadSt_W (h.bs _ hm).1
theorem Sit.tally (h : Sit g vb N k S A M F FL Zn w bs t W) (hk : k < 12) : (loadSt_T (.pointer (some ⟨vb, k * 6 + 2, none⟩))).run Tryz.prog W = .ok (.agg (tlyS.f t).toArray) W ∧ (∀ t' : Tl, (storeT (.pointer (some ⟨vb, k * 6 + 2, none⟩)) (.agg (tlyS.f t').toArray)).run Tryz.prog W = .ok () (W.setCells vb (k * 6 + 2) (tlyS.f t'))) ∧ W.cell? ⟨vb, k * 6, none⟩ = some (.int .i64 (S.P k).st) ∧ W.cell? ⟨vb, k * 6 + 1, none⟩ = some (.int .i64 (S.P k).tr) ∧ W.cell? ⟨vb, k * 6 + 5, none⟩ = some (.int .i64 (S.P k).en) := by
 obtain ⟨c0, c1, c5, -, hr, hth, -⟩ := h.vo.cells hk
 have e : putP S.P k ((S.P k).withT t) k = (S.P k).withT t := putP_same _ _ _
 have hr : W.rangeAt vb (k * 6 + 2) (tlyS.f (putP S.P k ((S.P k).withT t) k).t) := hr
 rw [e] at hr
 have c0 : W.cell? ⟨vb, k * 6, none⟩ = some (.int .i64 (putP S.P k ((S.P k).withT t) k).st) := c0
 have c1 : W.cell? ⟨vb, k * 6 + 1, none⟩ = some (.int .i64 (putP S.P k ((S.P k).withT t) k).tr) := c1
 have c5 : W.cell? ⟨vb, k * 6 + 5, none⟩ = some (.int .i64 (putP S.P k ((S.P k).withT t) k).en) := c5
 rw [e] at c0 c1 c5
 exact ⟨run_loadS (s := tlyS) hr, fun t' => run_storeT hth t', c0, c1, c5⟩
end
theorem cGain (x : Bal) (l : Wgt) (h : balOk x = true) (wx : World) : Calls Tryz.prog 64 #[.agg (balS.f x).toArray, .agg (wgtS.f l).toArray] wx fun e w' => e = .returned (.agg (tlyS.f (gainW x l)).toArray) ∧ Below wx.heap.size wx w' := conv_GainW x l wx h
theorem cSub (a b : Tl) (wx : World) : Calls Tryz.prog 63 #[.agg (tlyS.f a).toArray, .agg (tlyS.f b).toArray] wx fun e w' => e = .returned (.agg (tlyS.f (a.sub b)).toArray) ∧ Below wx.heap.size wx w' := conv_SubW a b wx
theorem cAdd (a b : Tl) {u : Value} {wx : World} (hr : RdT wx u [b]) : Calls Tryz.prog 65 #[.agg (tlyS.f a).toArray, u] wx fun e w' => e = .returned (.agg (tlyS.f (a.add b)).toArray) ∧ Below wx.heap.size wx w' := conv_AddW a b u wx hr
theorem cCap (x : Bal) (h : balOk x = true) (wx : World) : Calls Tryz.prog 60 #[.agg (balS.f x).toArray] wx fun e w' => e = .returned (.int .i64 (capB x)) ∧ Below wx.heap.size wx w' := conv_CapitalW x wx h
end
section
open Go
section
variable {P : Program} {ops : Array Oper} {Q : Exit → Act → World → Prop} {md : Region.Mode} {S : World → Prop} {L : Nat}
def wpAnyU (P : Program) (md : Region.Mode) (ops : Array Oper) (Q : Exit → Act → World → Prop) (S : World → Prop) (L : Nat) : Nat → Array Bool → Act → World → Prop
 | 0, listed, a, w => Region.ready md ops listed = [] ∧ Q .normal a w
 | fuel + 1, listed, a, w => (Region.ready md ops listed = [] → Q .normal a w) ∧ ∀ i ∈ Region.ready md ops listed, wpOp P ops Q i (fun a' w' => (i = L ∨ listed.getD L true = true ∨ S w') ∧ wpAnyU P md ops Q S L fuel (listed.setIfInBounds i true) a' w') a w
theorem wpAny_of_until : ∀ (fuel : Nat) (listed : Array Bool) (a : Act) (w : World), wpAnyU P md ops Q S L fuel listed a w → wpAny P md ops Q fuel listed a w
 | 0, _, _, _, h => h
 | fuel + 1, _, _, _, h => ⟨h.1, fun i hi => wpOp_mono (fun a' w' h' => wpAny_of_until fuel _ a' w' h'.2) (h.2 i hi)⟩
def Waits (md : Region.Mode) (ops : Array Oper) (L i : Nat) (listed : Array Bool) : Prop := Region.waitsFor md ops L i = true ∨ ∃ m, Region.waitsFor md ops L m = true ∧ Region.waitsFor md ops m i = true ∧ listed.getD m true = false
theorem not_ready {i j : Nat} {listed : Array Bool} (hw : Region.waitsFor md ops j i = true) (hf : listed.getD i true = false) : j ∉ Region.ready md ops listed := fun hj => by
 obtain ⟨ol, hol, el, hel, hbl, hon⟩ := Region.waitsFor_spec hw
 obtain ⟨-, oj, hoj, hall⟩ := mem_ready.1 hj
 have h1 := hall el (by
  have : oj = ol := Option.some.inj (hoj.symm.trans hol)
  rw [this]; exact hel) hbl
 rw [hon, getD_both hf] at h1
 cases h1
theorem Waits.ne {i j : Nat} {listed : Array Bool} (h : Waits md ops L i listed) (hf : listed.getD i true = false) (hj : j ∈ Region.ready md ops listed) : j ≠ L := fun e => by
 subst e
 rcases h with h | ⟨m, h1, -, h3⟩
 · exact not_ready h hf hj
 · exact not_ready h1 h3 hj
theorem Waits.set {i j : Nat} {listed : Array Bool} (h : Waits md ops L i listed) (hf : listed.getD i true = false) (hj : j ∈ Region.ready md ops listed) : Waits md ops L i (listed.setIfInBounds j true) := by
 rcases h with h | ⟨m, h1, h2, h3⟩
 · exact .inl h
 · refine .inr ⟨m, h1, h2, ?_⟩
   have : j ≠ m := fun e => by subst e; exact not_ready h2 hf hj
   rw [getD_set_ne true this]
   exact h3
theorem wpAnyU_first {i : Nat} {oi : Oper} {v : Value} (hi : ops[i]? = some oi) (hsel : ∀ (j : Nat) (o : Oper) cs b, ops[j]? = some o → o.op ≠ .select cs b) (hQ : ∀ c a w, Q (.panic c) (a.put oi.dst v) w → Q (.panic c) a w) :
 ∀ (fuel : Nat) (listed : Array Bool) (a : Act) (w : World), Waits md ops L i listed → (∀ j oj, ops[j]? = some oj → j ≠ i → listed.getD j true = false → (∀ e ∈ oj.after, Region.binds md e = true → e.on ≠ i) → oi.apart ops oj = true) → i ∈ Region.ready md ops listed → listed.getD L true = false → YieldsIf P ops S oi v a → S w → wpAnyU P md ops Q S L fuel (listed.setIfInBounds i true) (a.put oi.dst v) w → wpAnyU P md ops Q S L (fuel + 1) listed a w := by
 intro fuel
 induction fuel with
 | zero =>
  intro listed a w _ _ hr hL hy hS H
  refine ⟨fun h => (by rw [h] at hr; cases hr), fun j hj => ?_⟩
  by_cases hji : j = i
  · subst hji; exact hy.wpOp hi hS ⟨.inr (.inr hS), H⟩
  · have := ready_mono hj hji
    rw [H.1] at this
    cases this
 | succ fuel ih =>
  intro listed a w hw hfree hr hL hy hS H
  have hfi : listed.getD i true = false := (mem_ready.1 hr).1
  have hiL : i ≠ L := hw.ne hfi hr
  refine ⟨fun h => (by rw [h] at hr; cases hr), fun j hj => ?_⟩
  by_cases hji : j = i
  · subst hji; exact hy.wpOp hi hS ⟨.inr (.inr hS), H⟩
  · have hjL : j ≠ L := hw.ne hfi hj
    have h1 := H.2 j (ready_mono hj hji)
    obtain ⟨hjun, oj, hoj, hall⟩ := mem_ready.1 hj
    have hnot : ∀ e ∈ oj.after, Region.binds md e = true → e.on ≠ i := fun e he hb q => by
     have h1 := hall e he hb
     rw [q, getD_both hfi] at h1
     cases h1
    have h2 := wpOp_putIf hoj (hfree j oj hoj hji hjun hnot) (fun cs b => hsel i oi cs b hi) (fun cs b => hsel j oj cs b hoj) hQ hy h1
    have hfree' : ∀ k ok, ops[k]? = some ok → k ≠ i → (listed.setIfInBounds j true).getD k true = false → (∀ e ∈ ok.after, Region.binds md e = true → e.on ≠ i) → oi.apart ops ok = true := fun k ok hk hki hu hno => by
     refine hfree k ok hk hki ?_ hno
     by_cases hjk : j = k
     · subst hjk; exact hjun
     · rw [getD_set_ne true hjk] at hu; exact hu
    refine wpOp_mono (fun a' w' h3 => ?_) h2
    have hS' : S w' := by
     rcases h3.2.1 with q | q | q
     · exact (hjL q).elim
     · rw [getD_set_ne true hiL, hL] at q; cases q
     · exact q
    refine ⟨.inr (.inr hS'), ih (listed.setIfInBounds j true) a' w' (hw.set hfi hj) hfree' (ready_mono hr (Ne.symm hji)) (by rw [getD_set_ne true hjL]; exact hL) h3.1 hS' ?_⟩
    rw [Array.setIfInBounds_comm _ _ hji]
    exact h3.2.2
def takeB (md : Region.Mode) (ops : Array Oper) (L : Nat) (listed : Array Bool) (i : Nat) : Bool := Region.noSelect ops && (Region.free md ops listed i && ((Region.ready md ops listed).contains i && ((Region.waitsFor md ops L i || (List.range ops.size).any fun m => Region.waitsFor md ops L m && (Region.waitsFor md ops m i && !(listed.getD m true))) && !(listed.getD L true))))
theorem takeU {i : Nat} {oi : Oper} {v : Value} {fuel : Nat} {listed : Array Bool} {a : Act} {w : World} (hi : ops[i]? = some oi) (hb : takeB md ops L listed i = true) (hQ : ∀ c a w, Q (.panic c) (a.put oi.dst v) w → Q (.panic c) a w) (hy : YieldsIf P ops S oi v a) (hS : S w)
 (h : wpAnyU P md ops Q S L fuel (listed.setIfInBounds i true) (a.put oi.dst v) w) : wpAnyU P md ops Q S L (fuel + 1) listed a w := by
 simp only [takeB, Bool.and_eq_true] at hb
 obtain ⟨h1, h2, h3, h4, h5⟩ := hb
 have hw : Waits md ops L i listed := by
  rcases Bool.or_eq_true _ _ |>.mp h4 with q | q
  · exact .inl q
  · obtain ⟨m, -, hm⟩ := List.any_eq_true.1 q
    simp only [Bool.and_eq_true] at hm
    exact .inr ⟨m, hm.1, hm.2.1, by simpa using hm.2.2⟩
 exact wpAnyU_first hi (Region.noSelect_spec h1) hQ fuel listed a w hw (Region.free_spec hi h2) (by simpa using h3) (by simpa using h5) hy hS h
def AllReadyU (P : Program) (md : Region.Mode) (ops : Array Oper) (Q : Exit → Act → World → Prop) (S : World → Prop) (L : Nat) (fuel : Nat) (listed : Array Bool) (a : Act) (w : World) (rs : List Nat) : Prop :=
 ∀ i ∈ rs, wpOp P ops Q i (fun a' w' => (i = L ∨ listed.getD L true = true ∨ S w') ∧ wpAnyU P md ops Q S L fuel (listed.setIfInBounds i true) a' w') a w
theorem AllReadyU.nil {fuel : Nat} {listed : Array Bool} {a : Act} {w : World} : AllReadyU P md ops Q S L fuel listed a w [] := fun _ h => by cases h
theorem AllReadyU.cons {fuel : Nat} {listed : Array Bool} {a : Act} {w : World} {i : Nat} {o : Oper} {rs : List Nat} (ho : ops[i]? = some o)
 (h : ∀ K' : Act → World → Prop, Shut (∀ a w, S w → (S w → wpAnyU P md ops Q S L fuel (listed.setIfInBounds i true) a w) → K' a w) → if Region.wanted o (yielded ops a.tmps) = true then Oper.wp P o a w K' Q else K' (a.put o.dst undef) w)
 (hs : AllReadyU P md ops Q S L fuel listed a w rs) : AllReadyU P md ops Q S L fuel listed a w (i :: rs) := fun j hj => by
 rcases List.mem_cons.1 hj with rfl | hj
 · exact wpOp_step ho (fun K' hK => h K' (fun a w hS hW => hK a w ⟨.inr (.inr hS), hW hS⟩))
 · exact hs j hj
theorem AllReadyU.last {fuel : Nat} {listed : Array Bool} {a : Act} {w : World} {o : Oper} (ho : ops[L]? = some o)
 (h : ∀ K' : Act → World → Prop, Shut (∀ a w, wpAnyU P md ops Q S L fuel (listed.setIfInBounds L true) a w → K' a w) → if Region.wanted o (yielded ops a.tmps) = true then Oper.wp P o a w K' Q else K' (a.put o.dst undef) w) : AllReadyU P md ops Q S L fuel listed a w [L] := fun j hj => by
 rcases List.mem_cons.1 hj with rfl | hj
 · exact wpOp_step ho (fun K' hK => h K' (fun a w hW => hK a w ⟨.inl rfl, hW⟩))
 · cases hj
theorem readyU {rs : List Nat} {fuel : Nat} {listed : Array Bool} {a : Act} {w : World} (hr : Region.ready md ops listed = rs) (hne : rs ≠ []) (h : AllReadyU P md ops Q S L fuel listed a w rs) : wpAnyU P md ops Q S L (fuel + 1) listed a w :=
 ⟨fun h0 => absurd (hr ▸ h0) hne, hr ▸ h⟩
theorem doneU {listed : Array Bool} {a : Act} {w : World} (hr : Region.ready md ops listed = []) (h : Q .normal a w) : ∀ fuel, wpAnyU P md ops Q S L fuel listed a w
 | 0 => ⟨hr, h⟩
 | _ + 1 => ⟨fun _ => h, by rw [hr]; simp⟩
theorem startU {id : Nat} {a : Act} {w : World} (hm : P.follows .mixedOrders = true) (hS : S w.drew) (h : S w.drew → wpAnyU P .any ops Q S L ops.size (Array.replicate ops.size false) a w.drew) : (Code.region id ops true).wp P Q a w :=
 wp_region_any hm (wpAny_of_until _ _ _ _ (h hS))
end
end
end Go.Proofs.YtbpemdihoabbcaaGreat
