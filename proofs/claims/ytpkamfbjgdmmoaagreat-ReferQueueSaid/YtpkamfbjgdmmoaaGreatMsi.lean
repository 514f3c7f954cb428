/-
  Joined texts.
-/
import Derived.Shelf.SlIterI.Nil
import Derived.Shelf.SortM.Plain
import Derived.Shelf.SortM.SortNone
import Derived.Ground.GgzProg
import Derived.Ground.SlgmProg
import Derived.Shelf.SlGeneric
import Derived.Test.YtpkamfbjgdmmoaaGreatProg
import Derived.BigRegion
import Derived.RegionTactic
import Derived.Deep.QuietTactic
import Derived.BigQuiet
import Derived.StillTailTactics
import Derived.Deep.DeepCutAuto
import Derived.Test.YtpkamfbjgdmmoaaGreatMsh

section
namespace Go.Proofs.YtpkamfbjgdmmoaaGreat
open Go.RowKit Go.Maps Go.Shelf
set_option linter.unusedVariables false
set_option linter.unusedSimpArgs false

/-- A digest. -/
structure Hsh where
  l : List Nat
  ok : l.length = 32
deriving DecidableEq
theorem hshInfo : (Tryz.prog.info? 43).map (fun i => (i.zero, i.size)) = some (some (.agg (hsB hs0).toArray), 32) := by kernel_rfl
def hshS : StTy Tryz.prog Hsh where
  T := 43
  k := 32
  f := fun x => hsB x.l
  zero := ⟨hs0, rfl⟩
  len := fun x => by rw [hsB_len, x.ok]
  lit := fun x u hu => by
    obtain ⟨b, -, rfl⟩ := List.mem_map.1 hu
    trivial
  inj := fun x y h => by cases x; cases y; simp only [Hsh.mk.injEq]; exact hsB_inj h
  info := by
    obtain ⟨i0, hi, hz⟩ := Option.map_eq_some_iff.1 hshInfo
    simp only [Prod.mk.injEq] at hz
    exact ⟨i0, hi, hz.1, hz.2⟩
  row := ⟨_, Tryz.underlying43, rfl⟩
def loadSt_H (v : Value) : Sem Value := Instr.loadAt 43 v
theorem loadSt_H_hide (v : Value) : Instr.loadAt 43 v = loadSt_H v := rfl
def buildRf (ps : Array (Nat × Value)) : Sem Value := Instr.build 56 ps
theorem buildRf_hide (ps : Array (Nat × Value)) : Instr.build 56 ps = buildRf ps := rfl
/-- A new referendum. -/
def newX (t : Int) (h : Hsh) (af now a : Int) : Rfm := ⟨1, t, h.l, af, now, a, true, -1, -1, -1, 0, 0, 0, 0, h.ok⟩
set_option maxRecDepth 100000 in
theorem run_buildRf (t : Int) (h : Hsh) (af now a : Int) (w : World) : (buildRf #[(0, .int .i64 1), (1, .int .i64 t), (2, .agg (hsB h.l).toArray), (3, .int .i64 af), (4, .int .i64 now), (5, .int .i64 a), (6, .bool true), (7, .int .i64 (-1)), (8, .int .i64 (-1)), (9, .int .i64 (-1))]).run Tryz.prog w = .ok (.agg (rfS.f (newX t h af now a)).toArray) w := by
  obtain ⟨l, ok⟩ := h
  obtain ⟨a0, a1, a2, a3, a4, a5, a6, a7, a8, a9, b0, b1, b2, b3, b4, b5, b6, b7, b8, b9, c0, c1, c2, c3, c4, c5, c6, c7, c8, c9, d0, d1, rfl⟩ := list32 l ok
  kernel_rfl
/-- What Submit answers, and leaves. -/
def subE (ts : List Trk) (R : List Rfm) (S : Vs) (A : Acc) (M : Cls Int) (a t af : Int) : Int :=
  if ¬ (0 ≤ t ∧ t < ts.length) ∨ ¬ isAcc a ∨ ¬ (0 ≤ af ∧ af ≤ 1000) then 1 else if 12 ≤ R.length then 3 else if plHas S.P R.length then 5 else spendE A M a 10 false
def subN (ts : List Trk) (R : List Rfm) (S : Vs) (A : Acc) (M : Cls Int) (a t af : Int) : Int := if subE ts R S A M a t af = 0 then R.length else 0
def subR (ts : List Trk) (R : List Rfm) (S : Vs) (A : Acc) (M : Cls Int) (a t af : Int) (h : Hsh) (now : Int) : List Rfm := if subE ts R S A M a t af = 0 then R ++ [newX t h af now a] else R
def subS (ts : List Trk) (R : List Rfm) (S : Vs) (A : Acc) (M : Cls Int) (a t af : Int) : Vs := if subE ts R S A M a t af = 0 then openS S R.length t else S
def subA (ts : List Trk) (R : List Rfm) (S : Vs) (A : Acc) (M : Cls Int) (a t af : Int) : Acc := if subE ts R S A M a t af = 0 then reserveA A M a 10 else A
section
variable {r g vb N : Nat} {ts : List Trk} {R : List Rfm} {S : Vs} {A : Acc} {M : Cls Int} {Z : FP} {w : World}
/-- Behind the track's copy. -/
structure SubK (r g vb N : Nat) (ts : List Trk) (Z : FP) (w : World) (h : Hsh) (R : List Rfm) (S : Vs) (A : Acc) (M : Cls Int) (w3 wx : World) : Prop where
  x : RvToX r g vb N ts R S A M Z (fun _ => False) w3 wx
  b : Below w.heap.size w w3
  hl : w.heap.size < w3.heap.size
  hz : ¬ Z w.heap.size
  hx : wx.rangeAt w.heap.size 0 (hsB h.l)
theorem SubK.start (h0 : RvAt r g vb N ts R S A M Z w) (h : Hsh) {w3 : World} (hb : Below (w.heap.size + 1) (w.alloc (.cells (hsB h.l).toArray 43)) w3) : SubK r g vb N ts Z w h R S A M w3 w3 := by
  have hb0 : Below w.heap.size w (w.alloc (.cells (hsB h.l).toArray 43)) := (Below.refl _ w).alloc (Nat.le_refl _) _
  have hb3 : Below w.heap.size w w3 := hb0.trans (hb.mono (Nat.le_succ _))
  have hs := hb.size
  rw [World.size_alloc] at hs
  refine ⟨RvToX.start (h0.below hb3) (fun j hj => hj.elim), hb3, by omega, fun hf => by have := h0.lt hf; omega, rangeAt_block (rangeAt_whole (T := 43) (World.alloc_heap_new w _)) (hb.block _ (by omega))⟩
theorem SubK.fin {h0 : Hsh} {w3 wx : World} (h : SubK r g vb N ts Z w h0 R S A M w3 wx) : RvTo r g vb N ts R S A M Z w wx := h.x.fin h.b (fun j hj => hj.elim)
theorem SubK.len {h0 : Hsh} {w3 wx : World} (h : SubK r g vb N ts Z w h0 R S A M w3 wx) : ∃ gb, wx.cell? ⟨r, 1, none⟩ = some (.pointer (some ⟨gb, 0, none⟩)) ∧ Calls Tryz.prog 37 #[.pointer (some ⟨gb, 0, none⟩)] wx fun e w' => e = .returned (.int .i64 R.length) ∧ w' = wx := by
  obtain ⟨FR, hre, -⟩ := h.x.re
  obtain ⟨tb, cap, gb, FG, h1, h2, h3, h4, h5, h6, h7, h8, h9⟩ := hre
  have := grid_Len_R h4
  rw [tabR_len] at this
  exact ⟨gb, by rw [World.cell?, h1]; rfl, this⟩
theorem SubK.poll {h0 : Hsh} {w3 wx : World} (h : SubK r g vb N ts Z w h0 R S A M w3 wx) (k : Int) : Calls Tryz.prog 38 #[.pointer (some ⟨vb, 0, none⟩), .int .i64 k] wx fun e w' => e = .returned (.bool (decide (plHas S.P k))) ∧ SubK r g vb N ts Z w h0 R S A M w3 w' := by
  obtain ⟨F, hvo, lift⟩ := h.x.vo
  refine (refer_hasPoll hvo k).mono ?_
  rintro e w' ⟨he, hto⟩
  obtain ⟨x', st⟩ := lift _ _ hto
  exact ⟨he, x', h.b, h.hl, h.hz, rangeAt_block h.hx (st _ h.hl h.hz)⟩
theorem SubK.res {h0 : Hsh} {w3 wx : World} (h : SubK r g vb N ts Z w h0 R S A M w3 wx) {a : Int} (ha : (Lit.int .i64 a).wf = true) (n : Int) : Calls Tryz.prog 39 #[.pointer (some ⟨g, 0, none⟩), .int .i64 a, .int .i64 n] wx fun e w' => e = .returned (.int .i64 (spendE A M a n false)) ∧ SubK r g vb N ts Z w h0 R S (reserveA A M a n) M w3 w' := by
  obtain ⟨FL, hld, lift⟩ := h.x.ld
  refine (ledger_ReserveX hld ha n).mono ?_
  rintro e w' ⟨he, hto⟩
  obtain ⟨x', st⟩ := lift _ _ _ hto
  exact ⟨he, x', h.b, h.hl, h.hz, rangeAt_block h.hx (st _ h.hl h.hz)⟩
theorem SubK.open {h0 : Hsh} {w3 wx : World} (h : SubK r g vb N ts Z w h0 R S A M w3 wx) (k t : Int) : Calls Tryz.prog 40 #[.pointer (some ⟨vb, 0, none⟩), .int .i64 k, .int .i64 t] wx fun e w' => (∃ E, e = .returned (.int .i64 E)) ∧ SubK r g vb N ts Z w h0 R (openS S k t) A M w3 w' := by
  obtain ⟨F, hvo, lift⟩ := h.x.vo
  refine (hvo.Open k t).mono ?_
  rintro e w' ⟨he, hto⟩
  obtain ⟨x', st⟩ := lift _ _ hto
  exact ⟨⟨_, he⟩, x', h.b, h.hl, h.hz, rangeAt_block h.hx (st _ h.hl h.hz)⟩
theorem SubK.put {h0 : Hsh} {w3 wx : World} (h : SubK r g vb N ts Z w h0 R S A M w3 wx) (hl : R.length ≤ 12) (y : Rfm) : Calls Tryz.prog 41 #[.pointer (some ⟨r, 0, none⟩), .int .i64 R.length, .agg (rfS.f y).toArray] wx fun e w' => e = .returned (.tuple #[]) ∧ RvTo r g vb N ts (R ++ [y]) S A M Z w w' := by
  obtain ⟨FR, hre, lift⟩ := h.x.re
  refine (refer_set hre hre.size (R' := R ++ [y]) (Nat.le_refl _) (by omega) y (by rw [if_neg (by omega)])).mono ?_
  rintro e w' ⟨he, hto⟩
  exact ⟨he, (lift _ _ hto).1.fin h.b (fun j hj => hj.elim)⟩
theorem SubK.load {h0 : Hsh} {w3 wx : World} (h : SubK r g vb N ts Z w h0 R S A M w3 wx) : (loadSt_H (.pointer (some ⟨w.heap.size, 0, none⟩))).run Tryz.prog wx = .ok (.agg (hsB h0.l).toArray) wx := run_loadS (s := hshS) h.hx
set_option maxRecDepth 100000 in
set_option maxHeartbeats 4000000 in
attribute [local go_sem ↓] loadSt_R_hide loadSt_H_hide buildRf_hide in
theorem submit_no (h : RvAt r g vb N ts R S A M Z w) (hi : Rin ts R) {t : Int} (ht : ¬ (0 ≤ t ∧ t < ts.length)) (h0 : Hsh) (a af now : Int) : Calls Tryz.prog 14 #[.pointer (some ⟨r, 0, none⟩), .pointer (some ⟨g, 0, none⟩), .pointer (some ⟨vb, 0, none⟩), .int .i64 a, .int .i64 t, .agg (hsB h0.l).toArray, .int .i64 af, .int .i64 now] w fun e w' => e = .returned (.tuple #[.int .i64 0, .int .i64 1]) ∧ RvTo r g vb N ts R S A M Z w w' := by
  obtain ⟨W1, hW1⟩ : ∃ W1, W1 = w.alloc (.cells (hsB h0.l).toArray 43) := ⟨_, rfl⟩
  obtain ⟨hb, hhb⟩ : ∃ hb, hb = w.heap.size := ⟨_, rfl⟩
  have hB1 : Below w.heap.size w W1 := by rw [hW1]; exact (Below.refl _ w).alloc (Nat.le_refl _) _
  have hs1 : W1.heap.size = hb + 1 := by rw [hW1, hhb]; simp
  obtain ⟨FR, hre, -⟩ := (h.below hB1).re
  have htk := refer_Track_no (hre.at (by have := hi.tlen; omega)) ht
  have fin : ∀ w2, Below W1.heap.size W1 w2 → RvTo r g vb N ts R S A M Z w (w2.alloc (.cells (trkR.f trk0).toArray 26)) := fun w2 hb2 => RvTo.of_below h (hB1.trans ((hb2.mono (by omega)).trans ((Below.refl _ w2).alloc (by have := hb2.size; omega) _)))
  have HF := Lib.hid fin
  have HT := Lib.hid htk
  have HW1 := Lib.hid (And.intro hW1 hhb)
  clear h hi ht hre htk fin hB1 hs1 hW1 hhb
  go_enter Tryz.func14, Tryz.ntmps14
  go_upto_region 1 with fail
  rw [← HW1.out.1, ← HW1.out.2]
  go_wp2_with (first
    | (go_at_call 30; refine HT.out.mono ?_; rintro e w2 ⟨rfl, hb2⟩; have H2 := Lib.hid hb2; clear hb2)
    | (refine wpl_allocR (r := trkR) (ty := 26) rfl rfl rfl ?_; intro C hC; have HC := Lib.hid hC; clear hC)
    | (refine wpl_storeR (r := trkR) (ty := 26) (t := trk0) (C := C) _ _ rfl rfl rfl rfl rfl (World.alloc_heap_new w2 _) HC.out ?_; rw [World.setRow_alloc_new])
    | fail)
  exact bodyPost_ret (v := .tuple #[.int .i64 0, .int .i64 1]) (by simp [results, Tryz.results14, go_sem]) rfl ⟨rfl, HF.out _ H2.out⟩
set_option maxRecDepth 100000 in
set_option maxHeartbeats 4000000 in
attribute [local go_sem ↓] loadSt_R_hide loadSt_H_hide buildRf_hide in
theorem submit_acc (h : RvAt r g vb N ts R S A M Z w) (hi : Rin ts R) {k : Nat} (hk : k < ts.length) (h0 : Hsh) {a : Int} (af now : Int) (hac : ¬ isAcc a) : Calls Tryz.prog 14 #[.pointer (some ⟨r, 0, none⟩), .pointer (some ⟨g, 0, none⟩), .pointer (some ⟨vb, 0, none⟩), .int .i64 a, .int .i64 k, .agg (hsB h0.l).toArray, .int .i64 af, .int .i64 now] w fun e w' => e = .returned (.tuple #[.int .i64 0, .int .i64 1]) ∧ RvTo r g vb N ts R S A M Z w w' := by
  obtain ⟨W1, hW1⟩ : ∃ W1, W1 = w.alloc (.cells (hsB h0.l).toArray 43) := ⟨_, rfl⟩
  obtain ⟨hb, hhb⟩ : ∃ hb, hb = w.heap.size := ⟨_, rfl⟩
  have hB1 : Below w.heap.size w W1 := by rw [hW1]; exact (Below.refl _ w).alloc (Nat.le_refl _) _
  have hs1 : W1.heap.size = hb + 1 := by rw [hW1, hhb]; simp
  obtain ⟨FR, hre, -⟩ := (h.below hB1).re
  obtain ⟨tr, htr⟩ : ∃ tr, tr = ts[k] := ⟨_, rfl⟩
  have htk := refer_Track (hre.at (by have := hi.tlen; omega)) hk
  rw [← htr] at htk
  have hst : ∀ w2, Below W1.heap.size W1 w2 → SubK r g vb N ts Z w h0 R S A M (w2.alloc (.cells (trkR.f tr).toArray 26)) (w2.alloc (.cells (trkR.f tr).toArray 26)) := fun w2 hb2 => SubK.start h h0 (by rw [← hW1, ← hhb, ← hs1]; exact hb2.alloc hb2.size _)
  have HST := Lib.hid hst
  have HT := Lib.hid htk
  have HLN := Lib.hid hi.len
  have HA := Lib.hid (show decide (0 ≤ a ∧ a < 10) = false from decide_eq_false (by unfold isAcc at hac; exact hac))
  have HW1 := Lib.hid (And.intro hW1 hhb)
  clear h hi hk hre htk hst hB1 hs1 hW1 hhb htr hac
  go_enter Tryz.func14, Tryz.ntmps14
  go_upto_region 1 with fail
  rw [← HW1.out.1, ← HW1.out.2]
  go_upto_region 2 with (first
    | (go_at_call 30; refine HT.out.mono ?_; rintro e w2 ⟨rfl, hb2⟩; have H2 := Lib.hid hb2; clear hb2)
    | (refine wpl_allocR (r := trkR) (ty := 26) rfl rfl rfl ?_; intro C hC; have HC := Lib.hid hC; clear hC)
    | (refine wpl_storeR (r := trkR) (ty := 26) (t := tr) (C := C) _ _ rfl rfl rfl rfl rfl (World.alloc_heap_new w2 _) HC.out ?_; rw [World.setRow_alloc_new])
    | fail)
  have k3 := HST.out w2 H2.out
  obtain ⟨w3, hw3⟩ : ∃ w3, w3 = w2.alloc (.cells (trkR.f tr).toArray 26) := ⟨_, rfl⟩
  rw [show w2.alloc (.cells (trkR.f tr).toArray 26) = w3 from hw3.symm] at k3
  first | rw [← hw3] | rw [show w2.alloc (.cells (trkR.f tr).toArray trkR.T) = w3 from hw3.symm]
  obtain ⟨gb, cg, hlen⟩ := k3.len
  have K3 := Lib.hid k3
  have HLEN := Lib.hid hlen
  clear k3 hw3 hlen
  go_wp2_with (first
    | (go_at_call 35; refine (bound_Account _ _).mono ?_; rw [HA.out]; rintro e w' ⟨rfl, hw⟩; rw [hw]; clear hw w')
    | fail)
  exact bodyPost_ret (v := .tuple #[.int .i64 0, .int .i64 1]) (by simp [results, Tryz.results14, go_sem]) rfl ⟨rfl, K3.out.fin⟩
set_option maxRecDepth 100000 in
set_option maxHeartbeats 4000000 in
attribute [local go_sem ↓] loadSt_R_hide loadSt_H_hide buildRf_hide in
theorem submit_aft (h : RvAt r g vb N ts R S A M Z w) (hi : Rin ts R) {k : Nat} (hk : k < ts.length) (h0 : Hsh) {a : Int} (af now : Int) (hac : isAcc a) (haf : ¬ (0 ≤ af ∧ af ≤ 1000)) : Calls Tryz.prog 14 #[.pointer (some ⟨r, 0, none⟩), .pointer (some ⟨g, 0, none⟩), .pointer (some ⟨vb, 0, none⟩), .int .i64 a, .int .i64 k, .agg (hsB h0.l).toArray, .int .i64 af, .int .i64 now] w fun e w' => e = .returned (.tuple #[.int .i64 0, .int .i64 1]) ∧ RvTo r g vb N ts R S A M Z w w' := by
  obtain ⟨W1, hW1⟩ : ∃ W1, W1 = w.alloc (.cells (hsB h0.l).toArray 43) := ⟨_, rfl⟩
  obtain ⟨hb, hhb⟩ : ∃ hb, hb = w.heap.size := ⟨_, rfl⟩
  have hB1 : Below w.heap.size w W1 := by rw [hW1]; exact (Below.refl _ w).alloc (Nat.le_refl _) _
  have hs1 : W1.heap.size = hb + 1 := by rw [hW1, hhb]; simp
  obtain ⟨FR, hre, -⟩ := (h.below hB1).re
  obtain ⟨tr, htr⟩ : ∃ tr, tr = ts[k] := ⟨_, rfl⟩
  have htk := refer_Track (hre.at (by have := hi.tlen; omega)) hk
  rw [← htr] at htk
  have hst : ∀ w2, Below W1.heap.size W1 w2 → SubK r g vb N ts Z w h0 R S A M (w2.alloc (.cells (trkR.f tr).toArray 26)) (w2.alloc (.cells (trkR.f tr).toArray 26)) := fun w2 hb2 => SubK.start h h0 (by rw [← hW1, ← hhb, ← hs1]; exact hb2.alloc hb2.size _)
  have HST := Lib.hid hst
  have HT := Lib.hid htk
  have HLN := Lib.hid hi.len
  have HA := Lib.hid (show decide (0 ≤ a ∧ a < 10) = true from decide_eq_true (by unfold isAcc at hac; exact hac))
  have HW := Lib.hid (show decide (0 ≤ af ∧ af ≤ 1000) = false from decide_eq_false haf)
  have HW1 := Lib.hid (And.intro hW1 hhb)
  clear h hi hk hre htk hst hB1 hs1 hW1 hhb htr hac haf
  go_enter Tryz.func14, Tryz.ntmps14
  go_upto_region 1 with fail
  rw [← HW1.out.1, ← HW1.out.2]
  go_upto_region 2 with (first
    | (go_at_call 30; refine HT.out.mono ?_; rintro e w2 ⟨rfl, hb2⟩; have H2 := Lib.hid hb2; clear hb2)
    | (refine wpl_allocR (r := trkR) (ty := 26) rfl rfl rfl ?_; intro C hC; have HC := Lib.hid hC; clear hC)
    | (refine wpl_storeR (r := trkR) (ty := 26) (t := tr) (C := C) _ _ rfl rfl rfl rfl rfl (World.alloc_heap_new w2 _) HC.out ?_; rw [World.setRow_alloc_new])
    | fail)
  have k3 := HST.out w2 H2.out
  obtain ⟨w3, hw3⟩ : ∃ w3, w3 = w2.alloc (.cells (trkR.f tr).toArray 26) := ⟨_, rfl⟩
  rw [show w2.alloc (.cells (trkR.f tr).toArray 26) = w3 from hw3.symm] at k3
  first | rw [← hw3] | rw [show w2.alloc (.cells (trkR.f tr).toArray trkR.T) = w3 from hw3.symm]
  obtain ⟨gb, cg, hlen⟩ := k3.len
  have K3 := Lib.hid k3
  have HLEN := Lib.hid hlen
  clear k3 hw3 hlen
  go_wp2_with (first
    | (go_at_call 35; refine (bound_Account _ _).mono ?_; rw [HA.out]; rintro e w' ⟨rfl, hw⟩; rw [hw]; clear hw w')
    | (go_at_call 36; refine (bound_Within _ _ _ _).mono ?_; rw [HW.out]; rintro e w' ⟨rfl, hw⟩; rw [hw]; clear hw w')
    | fail)
  exact bodyPost_ret (v := .tuple #[.int .i64 0, .int .i64 1]) (by simp [results, Tryz.results14, go_sem]) rfl ⟨rfl, K3.out.fin⟩
set_option maxRecDepth 100000 in
set_option maxHeartbeats 4000000 in
attribute [local go_sem ↓] loadSt_R_hide loadSt_H_hide buildRf_hide in
theorem submit_full (h : RvAt r g vb N ts R S A M Z w) (hi : Rin ts R) {k : Nat} (hk : k < ts.length) (h0 : Hsh) {a : Int} (af now : Int) (hac : isAcc a) (haf : 0 ≤ af ∧ af ≤ 1000) (hfu : 12 ≤ R.length) : Calls Tryz.prog 14 #[.pointer (some ⟨r, 0, none⟩), .pointer (some ⟨g, 0, none⟩), .pointer (some ⟨vb, 0, none⟩), .int .i64 a, .int .i64 k, .agg (hsB h0.l).toArray, .int .i64 af, .int .i64 now] w fun e w' => e = .returned (.tuple #[.int .i64 0, .int .i64 3]) ∧ RvTo r g vb N ts R S A M Z w w' := by
  obtain ⟨W1, hW1⟩ : ∃ W1, W1 = w.alloc (.cells (hsB h0.l).toArray 43) := ⟨_, rfl⟩
  obtain ⟨hb, hhb⟩ : ∃ hb, hb = w.heap.size := ⟨_, rfl⟩
  have hB1 : Below w.heap.size w W1 := by rw [hW1]; exact (Below.refl _ w).alloc (Nat.le_refl _) _
  have hs1 : W1.heap.size = hb + 1 := by rw [hW1, hhb]; simp
  obtain ⟨FR, hre, -⟩ := (h.below hB1).re
  obtain ⟨tr, htr⟩ : ∃ tr, tr = ts[k] := ⟨_, rfl⟩
  have htk := refer_Track (hre.at (by have := hi.tlen; omega)) hk
  rw [← htr] at htk
  have hst : ∀ w2, Below W1.heap.size W1 w2 → SubK r g vb N ts Z w h0 R S A M (w2.alloc (.cells (trkR.f tr).toArray 26)) (w2.alloc (.cells (trkR.f tr).toArray 26)) := fun w2 hb2 => SubK.start h h0 (by rw [← hW1, ← hhb, ← hs1]; exact hb2.alloc hb2.size _)
  have HST := Lib.hid hst
  have HT := Lib.hid htk
  have HLN := Lib.hid hi.len
  have HA := Lib.hid (show decide (0 ≤ a ∧ a < 10) = true from decide_eq_true (by unfold isAcc at hac; exact hac))
  have HW := Lib.hid (show decide (0 ≤ af ∧ af ≤ 1000) = true from decide_eq_true haf)
  have hg : decide ((12 : Int) ≤ (R.length : Int)) = true := decide_eq_true (by omega)
  have HW1 := Lib.hid (And.intro hW1 hhb)
  clear h hi hk hre htk hst hB1 hs1 hW1 hhb htr hac haf hfu
  go_enter Tryz.func14, Tryz.ntmps14
  go_upto_region 1 with fail
  rw [← HW1.out.1, ← HW1.out.2]
  go_upto_region 2 with (first
    | (go_at_call 30; refine HT.out.mono ?_; rintro e w2 ⟨rfl, hb2⟩; have H2 := Lib.hid hb2; clear hb2)
    | (refine wpl_allocR (r := trkR) (ty := 26) rfl rfl rfl ?_; intro C hC; have HC := Lib.hid hC; clear hC)
    | (refine wpl_storeR (r := trkR) (ty := 26) (t := tr) (C := C) _ _ rfl rfl rfl rfl rfl (World.alloc_heap_new w2 _) HC.out ?_; rw [World.setRow_alloc_new])
    | fail)
  have k3 := HST.out w2 H2.out
  obtain ⟨w3, hw3⟩ : ∃ w3, w3 = w2.alloc (.cells (trkR.f tr).toArray 26) := ⟨_, rfl⟩
  rw [show w2.alloc (.cells (trkR.f tr).toArray 26) = w3 from hw3.symm] at k3
  first | rw [← hw3] | rw [show w2.alloc (.cells (trkR.f tr).toArray trkR.T) = w3 from hw3.symm]
  obtain ⟨gb, cg, hlen⟩ := k3.len
  have K3 := Lib.hid k3
  have HLEN := Lib.hid hlen
  clear k3 hw3 hlen
  go_wp2_with (first
    | (go_at_call 35; refine (bound_Account _ _).mono ?_; rw [HA.out]; rintro e w' ⟨rfl, hw⟩; rw [hw]; clear hw w')
    | (go_at_call 36; refine (bound_Within _ _ _ _).mono ?_; rw [HW.out]; rintro e w' ⟨rfl, hw⟩; rw [hw]; clear hw w')
    | (go_at_call 37; refine HLEN.out.mono ?_; rintro e w' ⟨rfl, hw⟩; rw [hw]; clear hw w')
    | fail)
  exact bodyPost_ret (v := .tuple #[.int .i64 0, .int .i64 3]) (by simp [results, Tryz.results14, go_sem]) rfl ⟨rfl, K3.out.fin⟩
set_option maxRecDepth 100000 in
set_option maxHeartbeats 4000000 in
attribute [local go_sem ↓] loadSt_R_hide loadSt_H_hide buildRf_hide in
theorem submit_poll (h : RvAt r g vb N ts R S A M Z w) (hi : Rin ts R) {k : Nat} (hk : k < ts.length) (h0 : Hsh) {a : Int} (af now : Int) (hac : isAcc a) (haf : 0 ≤ af ∧ af ≤ 1000) (hfu : R.length < 12) (hpo : plHas S.P R.length) : Calls Tryz.prog 14 #[.pointer (some ⟨r, 0, none⟩), .pointer (some ⟨g, 0, none⟩), .pointer (some ⟨vb, 0, none⟩), .int .i64 a, .int .i64 k, .agg (hsB h0.l).toArray, .int .i64 af, .int .i64 now] w fun e w' => e = .returned (.tuple #[.int .i64 0, .int .i64 5]) ∧ RvTo r g vb N ts R S A M Z w w' := by
  obtain ⟨W1, hW1⟩ : ∃ W1, W1 = w.alloc (.cells (hsB h0.l).toArray 43) := ⟨_, rfl⟩
  obtain ⟨hb, hhb⟩ : ∃ hb, hb = w.heap.size := ⟨_, rfl⟩
  have hB1 : Below w.heap.size w W1 := by rw [hW1]; exact (Below.refl _ w).alloc (Nat.le_refl _) _
  have hs1 : W1.heap.size = hb + 1 := by rw [hW1, hhb]; simp
  obtain ⟨FR, hre, -⟩ := (h.below hB1).re
  obtain ⟨tr, htr⟩ : ∃ tr, tr = ts[k] := ⟨_, rfl⟩
  have htk := refer_Track (hre.at (by have := hi.tlen; omega)) hk
  rw [← htr] at htk
  have hst : ∀ w2, Below W1.heap.size W1 w2 → SubK r g vb N ts Z w h0 R S A M (w2.alloc (.cells (trkR.f tr).toArray 26)) (w2.alloc (.cells (trkR.f tr).toArray 26)) := fun w2 hb2 => SubK.start h h0 (by rw [← hW1, ← hhb, ← hs1]; exact hb2.alloc hb2.size _)
  have HST := Lib.hid hst
  have HT := Lib.hid htk
  have HLN := Lib.hid hi.len
  have HA := Lib.hid (show decide (0 ≤ a ∧ a < 10) = true from decide_eq_true (by unfold isAcc at hac; exact hac))
  have HW := Lib.hid (show decide (0 ≤ af ∧ af ≤ 1000) = true from decide_eq_true haf)
  have hg : decide ((12 : Int) ≤ (R.length : Int)) = false := decide_eq_false (by omega)
  have HP := Lib.hid (show decide (plHas S.P R.length) = true from decide_eq_true hpo)
  have HW1 := Lib.hid (And.intro hW1 hhb)
  clear h hi hk hre htk hst hB1 hs1 hW1 hhb htr hac haf hfu hpo
  go_enter Tryz.func14, Tryz.ntmps14
  go_upto_region 1 with fail
  rw [← HW1.out.1, ← HW1.out.2]
  go_upto_region 2 with (first
    | (go_at_call 30; refine HT.out.mono ?_; rintro e w2 ⟨rfl, hb2⟩; have H2 := Lib.hid hb2; clear hb2)
    | (refine wpl_allocR (r := trkR) (ty := 26) rfl rfl rfl ?_; intro C hC; have HC := Lib.hid hC; clear hC)
    | (refine wpl_storeR (r := trkR) (ty := 26) (t := tr) (C := C) _ _ rfl rfl rfl rfl rfl (World.alloc_heap_new w2 _) HC.out ?_; rw [World.setRow_alloc_new])
    | fail)
  have k3 := HST.out w2 H2.out
  obtain ⟨w3, hw3⟩ : ∃ w3, w3 = w2.alloc (.cells (trkR.f tr).toArray 26) := ⟨_, rfl⟩
  rw [show w2.alloc (.cells (trkR.f tr).toArray 26) = w3 from hw3.symm] at k3
  first | rw [← hw3] | rw [show w2.alloc (.cells (trkR.f tr).toArray trkR.T) = w3 from hw3.symm]
  obtain ⟨gb, cg, hlen⟩ := k3.len
  have K3 := Lib.hid k3
  have HLEN := Lib.hid hlen
  clear k3 hw3 hlen
  go_wp2_with (first
    | (go_at_call 35; refine (bound_Account _ _).mono ?_; rw [HA.out]; rintro e w' ⟨rfl, hw⟩; rw [hw]; clear hw w')
    | (go_at_call 36; refine (bound_Within _ _ _ _).mono ?_; rw [HW.out]; rintro e w' ⟨rfl, hw⟩; rw [hw]; clear hw w')
    | (go_at_call 37; refine HLEN.out.mono ?_; rintro e w' ⟨rfl, hw⟩; rw [hw]; clear hw w')
    | (go_at_call 38; refine (K3.out.poll _).mono ?_; rw [HP.out]; rintro e w4 ⟨rfl, hk⟩; have K4 := Lib.hid hk; clear hk)
    | fail)
  exact bodyPost_ret (v := .tuple #[.int .i64 0, .int .i64 5]) (by simp [results, Tryz.results14, go_sem]) rfl ⟨rfl, K4.out.fin⟩
set_option maxRecDepth 100000 in
set_option maxHeartbeats 4000000 in
attribute [local go_sem ↓] loadSt_R_hide loadSt_H_hide buildRf_hide in
theorem submit_fund (h : RvAt r g vb N ts R S A M Z w) (hi : Rin ts R) {k : Nat} (hk : k < ts.length) (h0 : Hsh) {a : Int} (af now : Int) (ha : (Lit.int .i64 a).wf = true) (hac : isAcc a) (haf : 0 ≤ af ∧ af ≤ 1000) (hfu : R.length < 12) (hpo : ¬ plHas S.P R.length) {E : Int} (hE : spendE A M a 10 false = E) (hne : E ≠ 0) : Calls Tryz.prog 14 #[.pointer (some ⟨r, 0, none⟩), .pointer (some ⟨g, 0, none⟩), .pointer (some ⟨vb, 0, none⟩), .int .i64 a, .int .i64 k, .agg (hsB h0.l).toArray, .int .i64 af, .int .i64 now] w fun e w' => e = .returned (.tuple #[.int .i64 0, .int .i64 E]) ∧ RvTo r g vb N ts R S A M Z w w' := by
  obtain ⟨W1, hW1⟩ : ∃ W1, W1 = w.alloc (.cells (hsB h0.l).toArray 43) := ⟨_, rfl⟩
  obtain ⟨hb, hhb⟩ : ∃ hb, hb = w.heap.size := ⟨_, rfl⟩
  have hB1 : Below w.heap.size w W1 := by rw [hW1]; exact (Below.refl _ w).alloc (Nat.le_refl _) _
  have hs1 : W1.heap.size = hb + 1 := by rw [hW1, hhb]; simp
  obtain ⟨FR, hre, -⟩ := (h.below hB1).re
  obtain ⟨tr, htr⟩ : ∃ tr, tr = ts[k] := ⟨_, rfl⟩
  have htk := refer_Track (hre.at (by have := hi.tlen; omega)) hk
  rw [← htr] at htk
  have hst : ∀ w2, Below W1.heap.size W1 w2 → SubK r g vb N ts Z w h0 R S A M (w2.alloc (.cells (trkR.f tr).toArray 26)) (w2.alloc (.cells (trkR.f tr).toArray 26)) := fun w2 hb2 => SubK.start h h0 (by rw [← hW1, ← hhb, ← hs1]; exact hb2.alloc hb2.size _)
  have HST := Lib.hid hst
  have HT := Lib.hid htk
  have HLN := Lib.hid hi.len
  have HA := Lib.hid (show decide (0 ≤ a ∧ a < 10) = true from decide_eq_true (by unfold isAcc at hac; exact hac))
  have HW := Lib.hid (show decide (0 ≤ af ∧ af ≤ 1000) = true from decide_eq_true haf)
  have hg : decide ((12 : Int) ≤ (R.length : Int)) = false := decide_eq_false (by omega)
  have HP := Lib.hid (show decide (plHas S.P R.length) = false from decide_eq_false hpo)
  have HWA := Lib.hid ha
  have HRA := Lib.hid (show reserveA A M a 10 = A by unfold reserveA; rw [if_neg (by rw [hE]; exact hne)])
  have HE := Lib.hid hE
  have qE : (E != 0) = true := by simpa using hne
  have HW1 := Lib.hid (And.intro hW1 hhb)
  clear h hi hk hre htk hst hB1 hs1 hW1 hhb htr ha hac haf hfu hpo hE hne
  go_enter Tryz.func14, Tryz.ntmps14
  go_upto_region 1 with fail
  rw [← HW1.out.1, ← HW1.out.2]
  go_upto_region 2 with (first
    | (go_at_call 30; refine HT.out.mono ?_; rintro e w2 ⟨rfl, hb2⟩; have H2 := Lib.hid hb2; clear hb2)
    | (refine wpl_allocR (r := trkR) (ty := 26) rfl rfl rfl ?_; intro C hC; have HC := Lib.hid hC; clear hC)
    | (refine wpl_storeR (r := trkR) (ty := 26) (t := tr) (C := C) _ _ rfl rfl rfl rfl rfl (World.alloc_heap_new w2 _) HC.out ?_; rw [World.setRow_alloc_new])
    | fail)
  have k3 := HST.out w2 H2.out
  obtain ⟨w3, hw3⟩ : ∃ w3, w3 = w2.alloc (.cells (trkR.f tr).toArray 26) := ⟨_, rfl⟩
  rw [show w2.alloc (.cells (trkR.f tr).toArray 26) = w3 from hw3.symm] at k3
  first | rw [← hw3] | rw [show w2.alloc (.cells (trkR.f tr).toArray trkR.T) = w3 from hw3.symm]
  obtain ⟨gb, cg, hlen⟩ := k3.len
  have K3 := Lib.hid k3
  have HLEN := Lib.hid hlen
  clear k3 hw3 hlen
  go_wp2_with (first
    | (go_at_call 35; refine (bound_Account _ _).mono ?_; rw [HA.out]; rintro e w' ⟨rfl, hw⟩; rw [hw]; clear hw w')
    | (go_at_call 36; refine (bound_Within _ _ _ _).mono ?_; rw [HW.out]; rintro e w' ⟨rfl, hw⟩; rw [hw]; clear hw w')
    | (go_at_call 37; refine HLEN.out.mono ?_; rintro e w' ⟨rfl, hw⟩; rw [hw]; clear hw w')
    | (go_at_call 38; refine (K3.out.poll _).mono ?_; rw [HP.out]; rintro e w4 ⟨rfl, hk⟩; have K4 := Lib.hid hk; clear hk)
    | (go_at_call 39; refine (K4.out.res HWA.out _).mono ?_; rw [HE.out]; rintro e w5 ⟨rfl, hk⟩; have K5 := Lib.hid hk; clear hk)
    | fail)
  exact bodyPost_ret (v := .tuple #[.int .i64 0, .int .i64 E]) (by simp [results, Tryz.results14, go_sem]) rfl ⟨rfl, by have := K5.out.fin; rwa [HRA.out] at this⟩
set_option maxRecDepth 100000 in
set_option maxHeartbeats 4000000 in
attribute [local go_sem ↓] loadSt_R_hide loadSt_H_hide buildRf_hide in
theorem submit_ok (h : RvAt r g vb N ts R S A M Z w) (hi : Rin ts R) {k : Nat} (hk : k < ts.length) (h0 : Hsh) {a : Int} (af now : Int) (ha : (Lit.int .i64 a).wf = true) (hac : isAcc a) (haf : 0 ≤ af ∧ af ≤ 1000) (hfu : R.length < 12) (hpo : ¬ plHas S.P R.length) (hE : spendE A M a 10 false = 0) : Calls Tryz.prog 14 #[.pointer (some ⟨r, 0, none⟩), .pointer (some ⟨g, 0, none⟩), .pointer (some ⟨vb, 0, none⟩), .int .i64 a, .int .i64 k, .agg (hsB h0.l).toArray, .int .i64 af, .int .i64 now] w fun e w' => e = .returned (.tuple #[.int .i64 R.length, .int .i64 0]) ∧ RvTo r g vb N ts (R ++ [newX k h0 af now a]) (openS S R.length k) (reserveA A M a 10) M Z w w' := by
  obtain ⟨W1, hW1⟩ : ∃ W1, W1 = w.alloc (.cells (hsB h0.l).toArray 43) := ⟨_, rfl⟩
  obtain ⟨hb, hhb⟩ : ∃ hb, hb = w.heap.size := ⟨_, rfl⟩
  have hB1 : Below w.heap.size w W1 := by rw [hW1]; exact (Below.refl _ w).alloc (Nat.le_refl _) _
  have hs1 : W1.heap.size = hb + 1 := by rw [hW1, hhb]; simp
  obtain ⟨FR, hre, -⟩ := (h.below hB1).re
  obtain ⟨tr, htr⟩ : ∃ tr, tr = ts[k] := ⟨_, rfl⟩
  have htk := refer_Track (hre.at (by have := hi.tlen; omega)) hk
  rw [← htr] at htk
  have hst : ∀ w2, Below W1.heap.size W1 w2 → SubK r g vb N ts Z w h0 R S A M (w2.alloc (.cells (trkR.f tr).toArray 26)) (w2.alloc (.cells (trkR.f tr).toArray 26)) := fun w2 hb2 => SubK.start h h0 (by rw [← hW1, ← hhb, ← hs1]; exact hb2.alloc hb2.size _)
  have HST := Lib.hid hst
  have HT := Lib.hid htk
  have HLN := Lib.hid hi.len
  have HA := Lib.hid (show decide (0 ≤ a ∧ a < 10) = true from decide_eq_true (by unfold isAcc at hac; exact hac))
  have HW := Lib.hid (show decide (0 ≤ af ∧ af ≤ 1000) = true from decide_eq_true haf)
  have hg : decide ((12 : Int) ≤ (R.length : Int)) = false := decide_eq_false (by omega)
  have HP := Lib.hid (show decide (plHas S.P R.length) = false from decide_eq_false hpo)
  have HWA := Lib.hid ha
  have HE := Lib.hid hE
  have HBR := Lib.hid (run_buildRf k h0 af now a)
  have HW1 := Lib.hid (And.intro hW1 hhb)
  clear h hi hk hre htk hst hB1 hs1 hW1 hhb htr ha hac haf hfu hpo hE
  go_enter Tryz.func14, Tryz.ntmps14
  go_upto_region 1 with fail
  rw [← HW1.out.1, ← HW1.out.2]
  go_upto_region 2 with (first
    | (go_at_call 30; refine HT.out.mono ?_; rintro e w2 ⟨rfl, hb2⟩; have H2 := Lib.hid hb2; clear hb2)
    | (refine wpl_allocR (r := trkR) (ty := 26) rfl rfl rfl ?_; intro C hC; have HC := Lib.hid hC; clear hC)
    | (refine wpl_storeR (r := trkR) (ty := 26) (t := tr) (C := C) _ _ rfl rfl rfl rfl rfl (World.alloc_heap_new w2 _) HC.out ?_; rw [World.setRow_alloc_new])
    | fail)
  have k3 := HST.out w2 H2.out
  obtain ⟨w3, hw3⟩ : ∃ w3, w3 = w2.alloc (.cells (trkR.f tr).toArray 26) := ⟨_, rfl⟩
  rw [show w2.alloc (.cells (trkR.f tr).toArray 26) = w3 from hw3.symm] at k3
  first | rw [← hw3] | rw [show w2.alloc (.cells (trkR.f tr).toArray trkR.T) = w3 from hw3.symm]
  obtain ⟨gb, cg, hlen⟩ := k3.len
  have K3 := Lib.hid k3
  have HLEN := Lib.hid hlen
  clear k3 hw3 hlen
  go_wp2_with (first
    | (go_at_call 35; refine (bound_Account _ _).mono ?_; rw [HA.out]; rintro e w' ⟨rfl, hw⟩; rw [hw]; clear hw w')
    | (go_at_call 36; refine (bound_Within _ _ _ _).mono ?_; rw [HW.out]; rintro e w' ⟨rfl, hw⟩; rw [hw]; clear hw w')
    | (go_at_call 37; refine HLEN.out.mono ?_; rintro e w' ⟨rfl, hw⟩; rw [hw]; clear hw w')
    | (go_at_call 38; refine (K3.out.poll _).mono ?_; rw [HP.out]; rintro e w4 ⟨rfl, hk⟩; have K4 := Lib.hid hk; clear hk)
    | (go_at_call 39; refine (K4.out.res HWA.out _).mono ?_; rw [HE.out]; rintro e w5 ⟨rfl, hk⟩; have K5 := Lib.hid hk; clear hk)
    | (go_at_call 40; refine (K5.out.open _ _).mono ?_; rintro e w6 ⟨⟨E6, rfl⟩, hk⟩; have K6 := Lib.hid hk; have l6 := K6.out.load; rw [← HW1.out.2] at l6; have b6 := HBR.out w6; clear hk)
    | (go_at_call 41; refine (K6.out.put HLN.out _).mono ?_; rintro e w7 ⟨rfl, hk⟩; have K7 := Lib.hid hk; clear hk)
    | fail)
  exact bodyPost_ret (v := .tuple #[.int .i64 R.length, .int .i64 0]) (by simp [results, Tryz.results14, go_sem]) rfl ⟨rfl, K7.out⟩
theorem refer_Submit (h : RvAt r g vb N ts R S A M Z w) (hi : Rin ts R) {a : Int} (ha : (Lit.int .i64 a).wf = true) (t : Int) (h0 : Hsh) (af now : Int) : Calls Tryz.prog 14 #[.pointer (some ⟨r, 0, none⟩), .pointer (some ⟨g, 0, none⟩), .pointer (some ⟨vb, 0, none⟩), .int .i64 a, .int .i64 t, .agg (hsB h0.l).toArray, .int .i64 af, .int .i64 now] w fun e w' => e = .returned (.tuple #[.int .i64 (subN ts R S A M a t af), .int .i64 (subE ts R S A M a t af)]) ∧ RvTo r g vb N ts (subR ts R S A M a t af h0 now) (subS ts R S A M a t af) (subA ts R S A M a t af) M Z w w' := by
  have bad : ∀ E, subE ts R S A M a t af = E → E ≠ 0 → subN ts R S A M a t af = 0 ∧ subR ts R S A M a t af h0 now = R ∧ subS ts R S A M a t af = S ∧ subA ts R S A M a t af = A := fun E h1 h2 => by
    have hn : ¬ subE ts R S A M a t af = 0 := by rw [h1]; exact h2
    exact ⟨by unfold subN; rw [if_neg hn], by unfold subR; rw [if_neg hn], by unfold subS; rw [if_neg hn], by unfold subA; rw [if_neg hn]⟩
  by_cases ht : 0 ≤ t ∧ t < ts.length
  · obtain ⟨k, rfl⟩ := Int.eq_ofNat_of_zero_le ht.1
    have hk : k < ts.length := by omega
    by_cases hac : isAcc a
    · by_cases haf : 0 ≤ af ∧ af ≤ 1000
      · have hc : ¬ (¬ (0 ≤ (k : Int) ∧ (k : Int) < ts.length) ∨ ¬ isAcc a ∨ ¬ (0 ≤ af ∧ af ≤ 1000)) := fun q => q.elim (fun q => q ht) (fun q => q.elim (fun q => q hac) (fun q => q haf))
        by_cases hfu : 12 ≤ R.length
        · have e : subE ts R S A M a k af = 3 := by unfold subE; rw [if_neg hc, if_pos hfu]
          obtain ⟨e1, e2, e3, e4⟩ := bad 3 e (by decide)
          rw [e, e1, e2, e3, e4]
          exact submit_full h hi hk h0 af now hac haf hfu
        · by_cases hpo : plHas S.P R.length
          · have e : subE ts R S A M a k af = 5 := by unfold subE; rw [if_neg hc, if_neg hfu, if_pos hpo]
            obtain ⟨e1, e2, e3, e4⟩ := bad 5 e (by decide)
            rw [e, e1, e2, e3, e4]
            exact submit_poll h hi hk h0 af now hac haf (by omega) hpo
          · have e0 : subE ts R S A M a k af = spendE A M a 10 false := by unfold subE; rw [if_neg hc, if_neg hfu, if_neg hpo]
            by_cases hE : spendE A M a 10 false = 0
            · have e : subE ts R S A M a k af = 0 := by rw [e0, hE]
              have e1 : subN ts R S A M a k af = R.length := by unfold subN; rw [if_pos e]
              have e2 : subR ts R S A M a k af h0 now = R ++ [newX k h0 af now a] := by unfold subR; rw [if_pos e]
              have e3 : subS ts R S A M a k af = openS S R.length k := by unfold subS; rw [if_pos e]
              have e4 : subA ts R S A M a k af = reserveA A M a 10 := by unfold subA; rw [if_pos e]
              rw [e, e1, e2, e3, e4]
              exact submit_ok h hi hk h0 af now ha hac haf (by omega) hpo hE
            · obtain ⟨e1, e2, e3, e4⟩ := bad _ e0 hE
              rw [e0, e1, e2, e3, e4]
              exact submit_fund h hi hk h0 af now ha hac haf (by omega) hpo rfl hE
      · have e : subE ts R S A M a k af = 1 := by unfold subE; rw [if_pos (.inr (.inr haf))]
        obtain ⟨e1, e2, e3, e4⟩ := bad 1 e (by decide)
        rw [e, e1, e2, e3, e4]
        exact submit_aft h hi hk h0 af now hac haf
    · have e : subE ts R S A M a k af = 1 := by unfold subE; rw [if_pos (.inr (.inl hac))]
      obtain ⟨e1, e2, e3, e4⟩ := bad 1 e (by decide)
      rw [e, e1, e2, e3, e4]
      exact submit_acc h hi hk h0 af now hac
  · have e : subE ts R S A M a t af = 1 := by unfold subE; rw [if_pos (.inl ht)]
    obtain ⟨e1, e2, e3, e4⟩ := bad 1 e (by decide)
    rw [e, e1, e2, e3, e4]
    exact submit_no h hi ht h0 a af now
end
end Go.Proofs.YtpkamfbjgdmmoaaGreat
end

section
namespace Go.Proofs
open Go.Shelf
def Tryz.keysR_ren : Go.Shelf.Ren := ⟨fun | 7 => 151 | 10 => 160 | n => n, fun | 23 => 200 | 26 => 3 | 3 => 56 | 28 => 250 | 0 => 0 | 27 => 249 | 33 => 72 | 4 => 4 | n => n, fun | n => n⟩
theorem Tryz.keysR : Go.Proofs.SlLaysZI.n7 Tryz.prog Tryz.keysR_ren := {
  mixed := by kernel_rfl
  f7 := ⟨Tryz.f151.name, by decide, Tryz.func151.trans (congrArg some (by kernel_rfl))⟩
  f10 := ⟨Tryz.f160.name, by decide, Tryz.func160.trans (congrArg some (by kernel_rfl))⟩
  t0 := Tryz.underlying0
  a0 := Tryz.isAgg0
  z0 := Tryz.sizeOf0
  v0 := Tryz.zeroValue0
  t4 := Tryz.underlying4
  a4 := Tryz.isAgg4
  z4 := Tryz.sizeOf4
  v4 := Tryz.zeroValue4
  t23 := Tryz.underlying200
  a23 := Tryz.isAgg200
  z23 := Tryz.sizeOf200
  v23 := Tryz.zeroValue200
  t26 := Tryz.underlying3
  a26 := Tryz.isAgg3
  z26 := Tryz.sizeOf3
  v26 := Tryz.zeroValue3
  t27 := Tryz.underlying249
  a27 := Tryz.isAgg249
  z27 := Tryz.sizeOf249
  v27 := Tryz.zeroValue249
  t28 := Tryz.underlying250
  a28 := Tryz.isAgg250
  z28 := Tryz.sizeOf250
  v28 := Tryz.zeroValue250
  t33 := Tryz.underlying72
  a33 := Tryz.isAgg72
  z33 := Tryz.sizeOf72
  v33 := Tryz.zeroValue72 }
end Go.Proofs
end

section
namespace Go.Proofs.YtpkamfbjgdmmoaaGreat
open Go.RowKit Go.Maps Go.Sort Go.Shelf
set_option linter.unusedVariables false
set_option linter.unusedSimpArgs false


set_option maxHeartbeats 1000000 in
theorem rising_R {β : Type} {c : Cod β} {b : Nat} {m : List (Int × β)} {w : World} (h : MapAt c b m w) (hm : m.length ≤ 1000000) :
    Calls Tryz.prog 141 #[.map (some b)] w fun e w' => ∃ v, e = .returned v ∧ w'.ownsRow w.heap.size 3 1 v m.length (m.map fun x => Value.int .i64 x.1) ∧ (v = .slice none 0 0 ↔ m = []) ∧ Below w.heap.size w w' := by
  refine (callsIn_wide (n := 6)).1 ?_
  have hbl := h.lt
  obtain ⟨nn, D0, hown, h1, h2⟩ := h.own
  have hs := MapAt.size h.srt hown h1
  have hperm := MapAt.keys h.srt hown h1
  have hseq : SeqGives Fence.wide 2 Tryz.prog 160 #[.pointer (some ⟨w.heap.size, 0, none⟩)] encZ (fun ss => ss.Perm (intKeys D0)) (Maps.size D0) (w.alloc (.cells #[.map (some b)] 200)) :=
    AnyZI.keys_gives (ρ := Tryz.keysR_ren) { Tryz.keysR with } Fence.wide _ trivial rfl (by omega) w.heap.size b nn D0 _ (by simp) (by simp) (hown.alloc _)
  have cK : ∀ mb W, CallsIn Fence.wide 5 Tryz.prog 151 #[.map mb] W fun e w' => e = .returned (.func (.func 160) #[] #[.pointer (some ⟨W.heap.size, 0, none⟩)]) ∧ w' = W.alloc (.cells #[.map mb] 200) := fun mb W => AnyZI.keys_in Tryz.keysR Fence.wide 5 trivial rfl mb W
  have cS := AnyZI.sorted_in Tryz.sortedA Fence.wide 5 trivial trivial trivial trivial rfl (by omega) (sortsA _) (enters_of Tryz.func159 (by kernel_rfl) rfl) 160 #[.pointer (some ⟨w.heap.size, 0, none⟩)] trivial (enters_of Tryz.func160 (by kernel_rfl) rfl) _ _ (by rw [hs]; unfold maxLen; omega) (by rw [hs]; omega) _ hseq
  change CallsIn _ _ Tryz.prog 150 _ _ _ at cS
  have hfK : Fence.wide.fn 151 := trivial
  have hfS : Fence.wide.fn 150 := trivial
  have Hd := Lib.hid (And.intro hs (And.intro hperm (And.intro h1 h.srt)))
  clear hs hperm h1 h2 hm
  refine callsIn_of_wp Tryz.func141 rfl trivial ?_ rfl
  simp only [Tryz.ntmps141, List.size_toArray, List.length_cons, List.length_nil, Nat.reduceAdd, Nat.reduceSub, Array.replicate_succ, Array.replicate_zero, List.push_toArray, List.append_toArray, List.nil_append, List.cons_append]
  gi_wp2_with (first
    | (gi_at_call 151; refine (cK _ _).mono ?_; rintro e w' ⟨rfl, rfl⟩)
    | (gi_at_call 150; refine cS.mono ?_; rintro e w' ⟨v, ss, rfl, hS, hrow, hnil, hb⟩)
    | fail)
  go_ret
  obtain ⟨hs, hperm, h1, hsrt⟩ := Hd.out
  have hp : ss.Perm (m.map (·.1)) := hS.trans hperm.symm
  have hl : ss.length = m.length := by rw [hp.length_eq]; simp
  have hsk := sorted_keys hsrt hp
  refine ⟨v, rfl, ?_, ?_, ((Below.refl _ w).alloc (Nat.le_refl _) _).trans (hb.mono (by simp))⟩
  · have : w'.ownsRow w.heap.size 3 1 v ss.length ((ss.mergeSort (fun x y => decide (x ≤ y))).map encZ) := ownsRow_base_a hrow (by simp)
    rw [hsk, hl] at this
    simpa [encZ, Function.comp_def] using this
  · rw [hnil, ← List.length_eq_zero_iff, ← List.length_eq_zero_iff, hl]

set_option maxHeartbeats 1000000 in
theorem rising_R_nil (w : World) : Calls Tryz.prog 141 #[.map none] w fun e w' => e = .returned (.slice none 0 0) ∧ Below w.heap.size w w' := by
  refine (callsIn_wide (n := 6)).1 ?_
  have hseq : SeqGives Fence.wide 2 Tryz.prog 160 #[.pointer (some ⟨w.heap.size, 0, none⟩)] encZ (fun ss : List Int => ss = []) 0 (w.alloc (.cells #[.map none] 200)) :=
    AnyZI.keys_gives_nil (ρ := Tryz.keysR_ren) { Tryz.keysR with } Fence.wide _ trivial rfl w.heap.size _ (by simp) (by simp)
  have cK : ∀ mb W, CallsIn Fence.wide 5 Tryz.prog 151 #[.map mb] W fun e w' => e = .returned (.func (.func 160) #[] #[.pointer (some ⟨W.heap.size, 0, none⟩)]) ∧ w' = W.alloc (.cells #[.map mb] 200) := fun mb W => AnyZI.keys_in Tryz.keysR Fence.wide 5 trivial rfl mb W
  have cS := AnyZI.sorted_in Tryz.sortedA Fence.wide 5 trivial trivial trivial trivial rfl (by omega) (sortsA _) (enters_of Tryz.func159 (by kernel_rfl) rfl) 160 #[.pointer (some ⟨w.heap.size, 0, none⟩)] trivial (enters_of Tryz.func160 (by kernel_rfl) rfl) _ 0 (Nat.zero_le _) (by omega) _ hseq
  change CallsIn _ _ Tryz.prog 150 _ _ _ at cS
  have hfK : Fence.wide.fn 151 := trivial
  have hfS : Fence.wide.fn 150 := trivial
  refine callsIn_of_wp Tryz.func141 rfl trivial ?_ rfl
  simp only [Tryz.ntmps141, List.size_toArray, List.length_cons, List.length_nil, Nat.reduceAdd, Nat.reduceSub, Array.replicate_succ, Array.replicate_zero, List.push_toArray, List.append_toArray, List.nil_append, List.cons_append]
  gi_wp2_with (first
    | (gi_at_call 151; refine (cK _ _).mono ?_; rintro e w' ⟨rfl, rfl⟩)
    | (gi_at_call 150; refine cS.mono ?_; rintro e w' ⟨v, ss, rfl, rfl, hrow, hnil, hb⟩; obtain rfl : v = .slice none 0 0 := hnil.2 rfl)
    | fail)
  go_ret
  exact ⟨rfl, ((Below.refl _ w).alloc (Nat.le_refl _) _).trans (hb.mono (by simp))⟩
attribute [local go_sem] Oper.semAt_some

/-- What a look at a table finds. -/
theorem GrAt.look_R {g : Nat} {M : Cls Rfm} {F : FP} {w : World} (h : GrAt rfS.cod 173 g M F w) {a b : Int} (ha : (Lit.int .i64 a).wf = true) (hb : (Lit.int .i64 b).wf = true) :
    ∃ mv mi, w.cell? ⟨g, 0, none⟩ = some (.map mv) ∧ (Instr.lookup 170 (.map mv) (.int .i64 a) false).run Tryz.prog w = .ok (.map mi) w ∧
      (Instr.lookup 200 (.map mi) (.int .i64 b) false).run Tryz.prog w = .ok (rfS.cod.enc ((cget M a b).getD rfS.zero)) w := by
  have hu1 : Tryz.prog.underlying 170 = some (.map 3 200) := Tryz.underlying170
  have hu2 : Tryz.prog.underlying 200 = some (.map 3 56) := Tryz.underlying200
  have hz1 : ∀ w, (zeroValue 200).run Tryz.prog w = .ok (codM.enc none) w := fun w => Tryz.zeroValue200 w
  have hz2 : ∀ w, (zeroValue 56).run Tryz.prog w = .ok (rfS.cod.enc rfS.zero) w := fun w => rfS.zeroRun w
  obtain ⟨_, _, _, (⟨rfl, hh⟩ | ⟨B, C, rm, cm, hh, hM, _⟩)⟩ := h
  · exact ⟨none, none, by rw [World.cell?, hh]; rfl, nil_look hu1 (hz1 w) ha false, nil_look hu2 (hz2 w) hb false⟩
  · have hl := hM.row.map.look (z0 := none) hu1 (hz1 w) ha
    cases hs : sget rm a with
    | none =>
      rw [hs] at hl
      refine ⟨some B, none, by rw [World.cell?, hh]; rfl, hl, ?_⟩
      have hr := hM.row.isNil hs
      have : cget M a b = none := by rw [cget, hr]; rfl
      rw [this]
      exact nil_look hu2 (hz2 w) hb false
    | some x =>
      obtain ⟨b', rfl, _, _, h3⟩ := hM.row.at_ a x hs
      rw [hs] at hl
      exact ⟨some B, some b', by rw [World.cell?, hh]; rfl, hl, h3.look hu2 (hz2 w) hb⟩
/-- A row's keys, rising. -/
theorem GrAt.rises_row_R {g : Nat} {M : Cls Rfm} {F : FP} {w : World} (h : GrAt rfS.cod 173 g M F w) (hlen : M.length ≤ 100000) {a : Int} (ha : (Lit.int .i64 a).wf = true) :
    ∃ mv mi, w.cell? ⟨g, 0, none⟩ = some (.map mv) ∧ (Instr.lookup 170 (.map mv) (.int .i64 a) false).run Tryz.prog w = .ok (.map mi) w ∧
      Calls Tryz.prog 141 #[.map mi] w (fun e w' => ∃ v, e = .returned v ∧ OwnN w.heap.size v ((rowOf M a).map (·.1)) w' ∧ Below w.heap.size w w') := by
  have hu1 : Tryz.prog.underlying 170 = some (.map 3 200) := Tryz.underlying170
  have hz1 : ∀ w, (zeroValue 200).run Tryz.prog w = .ok (codM.enc none) w := fun w => Tryz.zeroValue200 w
  have hnil : rowOf M a = [] → Calls Tryz.prog 141 #[.map none] w (fun e w' => ∃ v, e = .returned v ∧ OwnN w.heap.size v ((rowOf M a).map (·.1)) w' ∧ Below w.heap.size w w') := fun e => by
    refine (rising_R_nil w).mono ?_
    rintro _ w' ⟨rfl, hb⟩
    rw [e]
    exact ⟨_, rfl, OwnN.nil _ _, hb⟩
  have hr := row_length M a
  obtain ⟨_, _, _, (⟨rfl, hh⟩ | ⟨B, C, rm, cm, hh, hM, _⟩)⟩ := h
  · exact ⟨none, none, by rw [World.cell?, hh]; rfl, nil_look hu1 (hz1 w) ha false, hnil rfl⟩
  · have hl := hM.row.map.look (z0 := none) hu1 (hz1 w) ha
    cases hs : sget rm a with
    | none =>
      rw [hs] at hl
      exact ⟨some B, none, by rw [World.cell?, hh]; rfl, hl, hnil (hM.row.isNil hs)⟩
    | some x =>
      obtain ⟨b', rfl, _, _, h3⟩ := hM.row.at_ a x hs
      rw [hs] at hl
      refine ⟨some B, some b', by rw [World.cell?, hh]; rfl, hl, (rising_R h3 (by omega)).mono ?_⟩
      rintro e w' ⟨v, rfl, ho, _, hb⟩
      refine ⟨v, rfl, ?_, hb⟩
      unfold OwnN Is
      rw [List.length_map, List.map_map]
      exact ho

set_option maxHeartbeats 4000000 in
set_option maxRecDepth 100000 in
theorem row_iter_R (n : Nat) (bx ba g : Nat) (M : Cls Rfm) (F : FP) (s : Int) (w : World) (hbx : w.cell? ⟨bx, 0, none⟩ = some (.pointer (some ⟨g, 0, none⟩))) (hba : w.cell? ⟨ba, 0, none⟩ = some (.int .i64 s)) (h : GrAt rfS.cod 173 g M F w) (hlen : M.length ≤ 100000) (hs : (Lit.int .i64 s).wf = true)
    (G : FP) (hGb : G bx) (hGa : G ba) (hGF : ∀ k, F k → G k) :
    Iter Tryz.prog n 140 #[.pointer (some ⟨bx, 0, none⟩), .pointer (some ⟨ba, 0, none⟩)] (fun x : Int × Rfm => #[.int .i64 x.1, rfS.cod.enc x.2]) (rowOf M s) G w := by
  intro lp B Ψ J Jx Φ0 W hgw hG hΨ hΦ0 hJ hJx hround h0
  have hc1 : W.cell? ⟨bx, 0, none⟩ = some (.pointer (some ⟨g, 0, none⟩)) := (World.cell?_of_block (hG bx hGb).2).trans hbx
  have hc2 : W.cell? ⟨ba, 0, none⟩ = some (.int .i64 s) := (World.cell?_of_block (hG ba hGa).2).trans hba
  have hW : GrAt rfS.cod 173 g M F W := h.keep hgw (fun k hk => (hG k (hGF k hk)).2)
  have hWd : GrAt rfS.cod 173 g M F W.drew := hW.keep ⟨rfl, rfl, rfl, Nat.le_refl _⟩ (fun _ _ => rfl)
  obtain ⟨mv, mi, hcm, hlm, hrise⟩ := hWd.rises_row_R hlen hs
  have hcm : W.cell? ⟨g, 0, none⟩ = some (.map mv) := hcm
  obtain ⟨hs1, hs2, hs3⟩ := hJ _ _ _ h0
  have mixed : Tryz.prog.follows .mixedOrders = true := by kernel_rfl
  refine callsIn_of_wp Tryz.func140 rfl trivial ?_ rfl
  simp only [Tryz.ntmps140, List.size_toArray, List.length_cons, List.length_nil, Nat.reduceAdd, Nat.reduceSub, Array.replicate_succ, Array.replicate_zero, List.push_toArray, List.append_toArray, List.nil_append, List.cons_append]
  have hsrt := hW.1
  obtain ⟨xs, hxs⟩ : ∃ xs, xs = rowOf M s := ⟨_, rfl⟩
  obtain ⟨ks, hks⟩ : ∃ ks, ks = (rowOf M s).map (·.1) := ⟨_, rfl⟩
  rw [← hks] at hrise
  rw [← hxs] at hround ⊢
  have hkl : ks.length = xs.length := by rw [hks, hxs]; simp
  have hbig : (ks.length : Int) ≤ 100000 := by rw [hkl, hxs]; have := row_length M s; omega
  have HXS := Lib.hid hxs
  have HKS := Lib.hid (And.intro hks (And.intro hkl hsrt))
  clear hxs hks hkl hsrt
  have HW := Lib.hid hW
  have HRS := Lib.hid hrise
  have HRD := Lib.hid hround
  have HJ := Lib.hid hJ
  have HP := Lib.hid hΨ
  have HP0 := Lib.hid hΦ0
  have HG := Lib.hid hG
  have HGF := Lib.hid (And.intro hGb (And.intro hGa hGF))
  have HH0 := Lib.hid h0
  have HS3 := Lib.hid hs3
  have HS1 := Lib.hid hs1
  have HL := Lib.hid hlen
  have HWF := Lib.hid hs
  clear hW hWd hrise hround hJ hJx hG hΨ hΦ0 hbx hba hGb hGa hGF h0 hs1 hs3 hlen hs h
  gi_wp2_with fail
  refine region_meet (R := fun a wc => ∃ co ccap, a = { tmps := #[.func (.yield lp) #[] #[], .pointer (some ⟨bx, 0, none⟩), .pointer (some ⟨ba, 0, none⟩), undef, undef, undef, .pointer (some ⟨g, 0, none⟩), .bool false, .pointer (some ⟨g, 0, none⟩), .pointer (some ⟨g, 0, none⟩), .pointer (some ⟨g, 0, none⟩), .map mv, .int .i64 s, .map mi, .slice co ks.length ccap, .int .i64 ks.length, .int .i64 0, undef, undef, undef, undef, undef, undef, undef, undef, undef, undef, undef, undef, undef, undef, undef, undef], defers := [] } ∧ OwnN W.drew.heap.size (.slice co ks.length ccap) ks wc ∧ Below W.drew.heap.size W.drew wc) ?_ ?_
  · go_region_with (first | (go_at_call 141; refine HRS.out.mono ?_; rintro e wc ⟨vc, rfl, hoc, hbc⟩; obtain ⟨co, ccap, rfl⟩ := hoc.lenOf; have HOC := Lib.hid hoc; have HBC := Lib.hid hbc; clear hoc hbc) | fail)
    all_goals exact ⟨co, ccap, rfl, HOC.out, HBC.out⟩
  rintro _ wc ⟨co, ccap, rfl, hoc, hbc⟩
  have HOC := Lib.hid hoc
  have HBC := Lib.hid hbc
  clear hoc hbc
  have hcs : W.heap.size ≤ wc.heap.size := HBC.out.size
  have hbc' : Below W.heap.size W wc := ((Below.refl _ W).drew).trans (show Below W.heap.size W.drew wc from HBC.out)
  have HO1 := Lib.hid (Only.of_later (Ψ := Ψ) (Φ := Φ0) hbc')
  have hJc : J [] Φ0 wc := HS3.out wc (Grow.of_below hbc') (fun k hk => hbc'.block k (hk.elim (fun h => by omega) (fun h => (HS1.out k h).2)))
  have HJC := Lib.hid hJc
  have hkeep : ∀ wr, Only Ψ Φ0 wc wr → OwnN W.heap.size (.slice co ks.length ccap) ks wr ∧ GrAt rfS.cod 173 g M F wr ∧ wr.cell? ⟨bx, 0, none⟩ = some (.pointer (some ⟨g, 0, none⟩)) ∧ wr.cell? ⟨ba, 0, none⟩ = some (.int .i64 s) := fun wr ho => by
    have hgk : ∀ k, G k → wr.heap[k]? = W.heap[k]? := fun k hk => by
      have hkW : k < W.heap.size := by have := (HG.out k hk).1; have := hgw.size; omega
      rw [ho.block k (by omega) (fun h => (HP.out k h).2 hk) (fun h => HP0.out k h hk)]
      exact hbc'.block k hkW
    refine ⟨OwnN.of HOC.out (Nat.le_refl _) (fun k hk => ?_), HW.out.keep ((Grow.of_below hbc').trans ho.grow) (fun k hk => hgk k (HGF.out.2.2 k hk)), (World.cell?_of_block (hgk bx HGF.out.1)).trans hc1, (World.cell?_of_block (hgk ba HGF.out.2.1)).trans hc2⟩
    obtain ⟨h1, h2⟩ := HOC.out.block hk
    have h1 : W.heap.size ≤ k := h1
    exact ho.block k h2 (fun h => by have := (HP.out k h).1; omega) (fun h => by have := (HS1.out k h).2; omega)
  have HK := Lib.hid hkeep
  clear hkeep hJc hbc' hc1 hc2 hlm hcm
  gi_wp2_with fail
  gi_loopw [16] (fun r wr => ∃ (k : Nat) (Φ : FP), k ≤ ks.length ∧ r = .int .i64 k ∧ J (xs.take k) Φ wr ∧ Only Ψ Φ0 wc wr ∧ (∀ j, Φ j → Φ0 j ∨ wc.heap.size ≤ j)) (fun r wr => ks.length - (intOf r).toNat)
  case atStart => exact ⟨0, Φ0, Nat.zero_le _, rfl, HJC.out, Only.refl _ _ _, fun j h => .inl h⟩
  case round =>
    obtain ⟨k, Φ, hk, rfl, hJ2, ho2, hn2⟩ := hrel
    obtain ⟨hkl, hkl2, hsrt⟩ := HKS.out
    by_cases hlt : k < ks.length
    · have hlt' : (k : Int) < ks.length := by omega
      obtain ⟨hoW, hGW, cb, ca⟩ := HK.out wr ho2
      obtain ⟨b, cap, hv, hcell, hbl, hbu⟩ := hoW.at hlt
      injection hv with hv1 hv2 hv3
      subst hv1
      have hltx : k < xs.length := by omega
      obtain ⟨x, hx⟩ : ∃ x, x = xs[k] := ⟨_, rfl⟩
      have hy : ks[k] = x.1 := by simp only [hkl, hx, HXS.out, List.getElem_map]
      rw [hy] at hcell
      have hxm : x ∈ rowOf M s := by rw [← HXS.out, hx]; exact List.getElem_mem _
      have hxM := (mem_rowOf (x := x)).1 hxm
      have hwfx := hGW.wf hxM
      have hget : cget M s x.1 = some x.2 := hsrt.get.2 hxM
      obtain ⟨mv', mi', cm, l1, l2⟩ := (hGW.keep (w' := wr.drew) ⟨rfl, rfl, rfl, Nat.le_refl _⟩ (fun _ _ => rfl)).look_R (a := s) (b := x.1) HWF.out hwfx.2
      rw [hget, Option.getD_some] at l2
      have cm : wr.cell? ⟨g, 0, none⟩ = some (.map mv') := cm
      have htk : xs.take k ++ [x] = xs.take (k + 1) := by rw [hx]; exact pre_snoc hltx
      have hpre : (xs.take k ++ [x]) <+: xs := by rw [htk]; exact List.take_prefix _ _
      obtain ⟨q1, q2, q3⟩ := HJ.out _ _ _ hJ2
      have hJd : J (xs.take k) Φ wr.drew := q3 wr.drew ⟨rfl, rfl, rfl, Nat.le_refl _⟩ (fun _ _ => rfl)
      obtain ⟨fn, tm, asg, bd, hyy, hR⟩ := HRD.out (xs.take k) x Φ wr.drew hpre hJd
      dsimp only at hyy
      obtain ⟨yv, hyv⟩ : ∃ yv, yv = x.1 := ⟨_, rfl⟩
      rw [← hyv] at hcell hyy l2
      obtain ⟨ev, hev⟩ : ∃ ev, ev = rfS.cod.enc x.2 := ⟨_, rfl⟩
      rw [← hev] at hyy l2
      have HT := Lib.hid htk
      have HPR := Lib.hid hpre
      have HO2 := Lib.hid ho2
      have HN2 := Lib.hid hn2
      have HR := Lib.hid hR
      clear htk hpre q1 q2 q3 hx hy hyv hev hJ2 hJd ho2 hn2 hR hxm hxM hget hwfx hoW hGW hkl hkl2 hsrt hv2 hv3
      gi_wp2_with fail
      refine wpIn_region_still_tail 10 mixed (by kernel_rfl) ?_
      simp only [List.take_succ_cons, List.take_zero, List.drop_succ_cons, List.drop_zero]
      change wpStill _ _ wr.drew _ _ _
      repeat still_step
      refine wpStill_nil ?_
      change wpListIn _ _ _ _ _ _ _ wr.drew
      gi_wp2
      refine HR.out.mono ?_
      rintro e W' ⟨Φ', hn', ho', (⟨rfl, hJ'⟩ | ⟨rfl, hJ'⟩)⟩
      · have ho3 : Only Ψ Φ0 wc W' := HO2.out.trans (Only.undrew ho') HN2.out
        have hn3 : ∀ j, Φ' j → Φ0 j ∨ wc.heap.size ≤ j := fun j hj => (hn' j hj).elim (HN2.out j) (fun h => .inr (by have := HO2.out.grow.size; have : wr.heap.size ≤ j := h; omega))
        gi_wp2
        exact ⟨⟨k + 1, Φ', hlt, by go_num, by rw [← HT.out]; exact hJ', ho3, hn3⟩, by simp [intOf]; omega⟩
      · have ho3 : Only Ψ Φ0 wc W' := HO2.out.trans (Only.undrew ho') HN2.out
        have hn3 : ∀ j, Φ' j → Φ0 j ∨ wc.heap.size ≤ j := fun j hj => (hn' j hj).elim (HN2.out j) (fun h => .inr (by have := HO2.out.grow.size; have : wr.heap.size ≤ j := h; omega))
        gi_wp2
        refine bodyPost_ret (results_none rfl _ _ _) rfl ?_
        exact ⟨⟨_, rfl⟩, Φ', fun j hj => (hn3 j hj).imp id (fun h => by omega), HO1.out.trans ho3 (fun j h => .inl h), .inr ⟨_, HPR.out, hJ'⟩⟩
    · have hkn : k = ks.length := by omega
      subst hkn
      rw [hkl2, List.take_length] at hJ2
      clear hkl hkl2 hsrt
      gi_wp2
      refine bodyPost_end (results_none rfl _ _ _) rfl ?_
      exact ⟨⟨_, rfl⟩, Φ, fun j hj => (hn2 j hj).imp id (fun h => by omega), HO1.out.trans ho2 (fun j h => .inl h), .inl hJ2⟩

set_option maxHeartbeats 4000000 in
theorem row_iter_nil_R (n : Nat) (bx ba : Nat) (w : World) (hbx : w.cell? ⟨bx, 0, none⟩ = some (.pointer none)) (G : FP) (hGb : G bx) :
    Iter Tryz.prog n 140 #[.pointer (some ⟨bx, 0, none⟩), .pointer (some ⟨ba, 0, none⟩)] (fun x : Int × Rfm => #[.int .i64 x.1, rfS.cod.enc x.2]) [] G w := by
  intro lp B Ψ J Jx Φ0 W hgw hG hΨ hΦ0 hJ hJx hround h0
  have hc1 : W.cell? ⟨bx, 0, none⟩ = some (.pointer none) := (World.cell?_of_block (hG bx hGb).2).trans hbx
  refine callsIn_of_wp Tryz.func140 rfl trivial ?_ rfl
  simp only [Tryz.ntmps140, List.size_toArray, List.length_cons, List.length_nil, Nat.reduceAdd, Nat.reduceSub, Array.replicate_succ, Array.replicate_zero, List.push_toArray, List.append_toArray, List.nil_append, List.cons_append]
  have HH0 := Lib.hid h0
  clear hround hJ hJx hG hΨ hbx hGb h0
  gi_wp2
  refine bodyPost_ret (results_none rfl _ _ _) rfl ?_
  exact ⟨⟨_, rfl⟩, Φ0, fun j h => .inl h, Only.refl _ _ _, .inl HH0.out⟩
theorem enters_row1_R : ∀ args w, (callFunc 140 args).run Tryz.prog w = .ok (.enter 140 args) w := enters_of Tryz.func140 (by kernel_rfl) rfl
theorem grid_row_R (p : Option Addr) (s : Int) (w : World) : Calls Tryz.prog 121 #[.pointer p, .int .i64 s] w fun e w' => e = .returned (.func (.func 140) #[] #[.pointer (some ⟨w.heap.size, 0, none⟩), .pointer (some ⟨w.heap.size + 1, 0, none⟩)]) ∧ w' = (w.alloc (.cells #[.pointer p] 91)).alloc (.cells #[.int .i64 s] 3) := by
  go_enter Tryz.func121, Tryz.ntmps121
  go_wp2
  go_ret
  exact ⟨rfl, rfl⟩
end Go.Proofs.YtpkamfbjgdmmoaaGreat
end

section
namespace Go.Proofs.YtpkamfbjgdmmoaaGreat
open Go.RowKit Go.Maps Go.Shelf
set_option linter.unusedVariables false
set_option linter.unusedSimpArgs false


set_option maxRecDepth 100000 in
set_option maxHeartbeats 2000000 in
theorem grid_Row_R {g : Nat} {M : Cls Rfm} {F : FP} {w : World} (h : GrAt rfS.cod 173 g M F w) (hlen : M.length ≤ 100000) {s : Int} (hs : (Lit.int .i64 s).wf = true) :
    Calls Tryz.prog 97 #[.pointer (some ⟨g, 0, none⟩), .int .i64 s] w fun e w' => ∃ f, e = .returned f ∧ Way Tryz.prog encs_R f (rowOf M s) w' ∧ Below w.heap.size w w' := by
  have c1 := grid_row_R (some ⟨g, 0, none⟩) s w
  have hway : ∀ w', w' = ((w.alloc (.cells #[.pointer (some ⟨g, 0, none⟩)] 91)).alloc (.cells #[.int .i64 s] 3)).alloc (.cells #[.func (.func 140) #[] #[.pointer (some ⟨w.heap.size, 0, none⟩), .pointer (some ⟨w.heap.size + 1, 0, none⟩)]] 130) →
      Way Tryz.prog encs_R (.func (.func 139) #[] #[.pointer (some ⟨w.heap.size + 2, 0, none⟩)]) (rowOf M s) w' ∧ Below w.heap.size w w' := by
    intro w' hw'
    have hB : Below w.heap.size w w' := by rw [hw']; exact (((Below.refl _ w).alloc (Nat.le_refl _) _).alloc (by simp) _).alloc (by simp; omega) _
    have hsz : w'.heap.size = w.heap.size + 3 := by rw [hw']; simp
    have b0 : Boxed w' w.heap.size 91 (.pointer (some ⟨g, 0, none⟩)) := by rw [hw']; exact ((Boxed.new w _ _).alloc _).alloc _
    have b1 : Boxed w' (w.heap.size + 1) 3 (.int .i64 s) := by
      have := Boxed.new (w.alloc (.cells #[.pointer (some ⟨g, 0, none⟩)] 91)) 3 (.int .i64 s)
      rw [World.size_alloc] at this
      rw [hw']; exact this.alloc _
    have b2 : Boxed w' (w.heap.size + 2) 130 (.func (.func 140) #[] #[.pointer (some ⟨w.heap.size, 0, none⟩), .pointer (some ⟨w.heap.size + 1, 0, none⟩)]) := by
      have := Boxed.new ((w.alloc (.cells #[.pointer (some ⟨g, 0, none⟩)] 91)).alloc (.cells #[.int .i64 s] 3)) 130 (.func (.func 140) #[] #[.pointer (some ⟨w.heap.size, 0, none⟩), .pointer (some ⟨w.heap.size + 1, 0, none⟩)])
      rw [World.size_alloc, World.size_alloc] at this
      rw [hw']; exact this
    have hg' : GrAt rfS.cod 173 g M F w' := h.keep (Grow.of_below hB) (fun k hk => hB.block k (h.2.2.1 k hk))
    have hi := row_iter_R 0 w.heap.size (w.heap.size + 1) g M F s w' b0.cell b1.cell hg' hlen hs (fun k => k < w'.heap.size) (by omega) (by omega) (fun k hk => hg'.2.2.1 k hk)
    refine ⟨⟨_, _, rfl, enters_begun_R, fun n => ?_⟩, hB⟩
    exact begun_iter_R n (w.heap.size + 2) _ _ (rowOf M s) (fun k => k < w'.heap.size) w' b2 enters_row1_R hi (by omega) (fun k hk => hk) (by have := row_length M s; omega)
  have HW := Lib.hid hway
  have HC := Lib.hid c1
  clear c1 hway h hlen hs
  go_enter Tryz.func97, Tryz.ntmps97
  go_wp2_with (first
    | (go_at_call 121; refine HC.out.mono ?_; rintro e w1 ⟨rfl, rfl⟩)
    | (go_at_call 120; refine (still_Begun_R _ _ ⟨_, _, rfl⟩).mono ?_; rintro e w2 ⟨rfl, rfl⟩)
    | fail)
  go_ret
  exact ⟨_, rfl, (HW.out _ rfl).1, (HW.out _ rfl).2⟩
set_option maxRecDepth 100000 in
set_option maxHeartbeats 2000000 in
theorem grid_Row_nil_R (s : Int) (w : World) :
    Calls Tryz.prog 97 #[.pointer none, .int .i64 s] w fun e w' => ∃ f, e = .returned f ∧ Way Tryz.prog encs_R f [] w' ∧ Below w.heap.size w w' := by
  have c1 := grid_row_R none s w
  have hway : ∀ w', w' = ((w.alloc (.cells #[.pointer none] 91)).alloc (.cells #[.int .i64 s] 3)).alloc (.cells #[.func (.func 140) #[] #[.pointer (some ⟨w.heap.size, 0, none⟩), .pointer (some ⟨w.heap.size + 1, 0, none⟩)]] 130) →
      Way Tryz.prog encs_R (.func (.func 139) #[] #[.pointer (some ⟨w.heap.size + 2, 0, none⟩)]) [] w' ∧ Below w.heap.size w w' := by
    intro w' hw'
    have hB : Below w.heap.size w w' := by rw [hw']; exact (((Below.refl _ w).alloc (Nat.le_refl _) _).alloc (by simp) _).alloc (by simp; omega) _
    have hsz : w'.heap.size = w.heap.size + 3 := by rw [hw']; simp
    have b0 : Boxed w' w.heap.size 91 (.pointer none) := by rw [hw']; exact ((Boxed.new w _ _).alloc _).alloc _
    have b2 : Boxed w' (w.heap.size + 2) 130 (.func (.func 140) #[] #[.pointer (some ⟨w.heap.size, 0, none⟩), .pointer (some ⟨w.heap.size + 1, 0, none⟩)]) := by
      have := Boxed.new ((w.alloc (.cells #[.pointer none] 91)).alloc (.cells #[.int .i64 s] 3)) 130 (.func (.func 140) #[] #[.pointer (some ⟨w.heap.size, 0, none⟩), .pointer (some ⟨w.heap.size + 1, 0, none⟩)])
      rw [World.size_alloc, World.size_alloc] at this
      rw [hw']; exact this
    have hi := row_iter_nil_R 0 w.heap.size (w.heap.size + 1) w' b0.cell (fun k => k < w'.heap.size) (by omega)
    refine ⟨⟨_, _, rfl, enters_begun_R, fun n => ?_⟩, hB⟩
    exact begun_iter_R n (w.heap.size + 2) _ _ [] (fun k => k < w'.heap.size) w' b2 enters_row1_R hi (by omega) (fun k hk => hk) (by simp)
  have HW := Lib.hid hway
  have HC := Lib.hid c1
  clear c1 hway
  go_enter Tryz.func97, Tryz.ntmps97
  go_wp2_with (first
    | (go_at_call 121; refine HC.out.mono ?_; rintro e w1 ⟨rfl, rfl⟩)
    | (go_at_call 120; refine (still_Begun_R _ _ ⟨_, _, rfl⟩).mono ?_; rintro e w2 ⟨rfl, rfl⟩)
    | fail)
  go_ret
  exact ⟨_, rfl, (HW.out _ rfl).1, (HW.out _ rfl).2⟩
end Go.Proofs.YtpkamfbjgdmmoaaGreat
end

section
namespace Go.Proofs.YtpkamfbjgdmmoaaGreat
open Go.RowKit Go.Maps Go.Shelf
set_option linter.unusedVariables false
set_option linter.unusedSimpArgs false

section
variable {r N : Nat} {ts : List Trk} {R : List Rfm} {F : FP} {w : World}
theorem refer_All (h : ReX r N ts R F w) (hl : R.length ≤ 1000) :
    Calls Tryz.prog 57 #[.pointer (some ⟨r, 0, none⟩)] w fun e w' => ∃ bx v, e = .returned (.func (.func 119) #[] #[.pointer (some ⟨bx, 0, none⟩)]) ∧ Boxed w' bx 224 v ∧ OwnR pair_R (bx + 1) v (rowR 0 R) w' ∧ w.heap.size ≤ bx ∧ Below w.heap.size w w' := by
  obtain ⟨tb, cap, gb, FG, h1, h2, h3, h4, h5, h6, h7, h8, h9⟩ := h
  have c1 : w.cell? ⟨r, 1, none⟩ = some (.pointer (some ⟨gb, 0, none⟩)) := by rw [World.cell?, h1]; rfl
  have hrow := grid_Row_R h4 (by rw [tabR_len]; omega) (s := 0) (by decide)
  rw [row_tabR] at hrow
  have hlen : (rowR 0 R).length ≤ 1000000 := by rw [rowR_len]; omega
  have HROW := Lib.hid hrow
  have HL := Lib.hid hlen
  clear h1 h2 h3 h4 h5 h6 h7 h8 h9 hrow hlen hl
  go_enter Tryz.func57, Tryz.ntmps57
  go_wp2_with (first
    | (go_at_call 97; refine HROW.out.mono ?_; rintro e w1 ⟨f, rfl, hway, hb⟩; obtain ⟨gf, lb, rfl, hit⟩ := hway; have H1 := Lib.hid (And.intro hit hb); clear hit hb)
    | (go_at_call 96; refine (still_Now_R gf lb (rowR 0 R) w1 H1.out.1.1 (H1.out.1.2 0).iterI HL.out).mono ?_; rintro e w2 ⟨v, rfl, hbx, ho, hb⟩; have H2 := Lib.hid (And.intro hbx (And.intro ho hb)); clear hbx ho hb)
    | fail)
  go_ret
  exact ⟨_, v, rfl, H2.out.1, H2.out.2.1, H1.out.2.size, H1.out.2.trans (H2.out.2.2.mono H1.out.2.size)⟩
end
theorem cmp_isNaN (x : Int) (w : World) : Calls Tryz.prog 118 #[.int .i64 x] w fun e w' => e = .returned (.bool false) ∧ w' = w := by
  go_enter Tryz.func118, Tryz.ntmps118
  go_wp2_with fail
  exact bodyPost_ret (v := .bool false) (by simp [results, Tryz.results118, go_sem]) rfl ⟨rfl, rfl⟩
def cmpI (x y : Int) : Int := if x < y then -1 else if y < x then 1 else 0
theorem cmp_Compare (x y : Int) (w : World) : Calls Tryz.prog 95 #[.int .i64 x, .int .i64 y] w fun e w' => e = .returned (.int .i64 (cmpI x y)) ∧ w' = w := by
  by_cases h1 : x < y
  · rw [cmpI, if_pos h1]
    go_enter Tryz.func95, Tryz.ntmps95
    go_wp2_with (first | (go_at_call 118; refine (cmp_isNaN _ _).mono ?_; rintro e w' ⟨rfl, hw⟩; rw [hw]; clear hw w') | fail)
    go_ret
    exact ⟨rfl, rfl⟩
  · by_cases h2 : y < x
    · rw [cmpI, if_neg h1, if_pos h2]
      go_enter Tryz.func95, Tryz.ntmps95
      go_wp2_with (first | (go_at_call 118; refine (cmp_isNaN _ _).mono ?_; rintro e w' ⟨rfl, hw⟩; rw [hw]; clear hw w') | fail)
      go_ret
      exact ⟨rfl, rfl⟩
    · rw [cmpI, if_neg h1, if_neg h2]
      go_enter Tryz.func95, Tryz.ntmps95
      go_wp2_with (first | (go_at_call 118; refine (cmp_isNaN _ _).mono ?_; rintro e w' ⟨rfl, hw⟩; rw [hw]; clear hw w') | fail)
      go_ret
      exact ⟨rfl, rfl⟩
/-- Which of two referenda comes first: below 0, the first one. -/
def cmpA (S : Vs) (a b : Int) : Int := cmpI (tallyOf S b).a (tallyOf S a).a
def fieldTl (v : Value) (i : Nat) : Sem Value := Instr.field 54 v i
theorem fieldTl_hide (v : Value) (i : Nat) : Instr.field 54 v i = fieldTl v i := rfl
theorem run_fieldTl (a n s : Int) (w : World) : (fieldTl (.agg #[.int .i64 a, .int .i64 n, .int .i64 s]) 0).run Tryz.prog w = .ok (.int .i64 a) w := by kernel_rfl
set_option maxRecDepth 100000 in
set_option maxHeartbeats 4000000 in
attribute [local go_sem ↓] fieldTl_hide in
theorem choose_cmp {vb N : Nat} {S : Vs} {F : FP} {w : World} (h : VoX vb N S F w) {q : Nat} (hq : w.cell? ⟨q, 0, none⟩ = some (.pointer (some ⟨vb, 0, none⟩))) (a b : Int) :
    Calls Tryz.prog 94 #[.int .i64 a, .int .i64 b, .pointer (some ⟨q, 0, none⟩)] w fun e w' => e = .returned (.int .i64 (cmpA S a b)) ∧ Below w.heap.size w w' := by
  have hql := cell_lt hq
  have hd : Below w.heap.size w w.drew := (Below.refl _ w).drew
  have hT : ∀ W c, Below w.heap.size w W → Calls Tryz.prog 19 #[.pointer (some ⟨vb, 0, none⟩), .int .i64 c] W fun e w' => e = .returned (.agg #[.int .i64 (tallyOf S c).a, .int .i64 (tallyOf S c).n, .int .i64 (tallyOf S c).s]) ∧ Below W.heap.size W w' := fun W c hb => (h.below hb).Tally c
  have hC : ∀ W, Below w.heap.size w W → W.cell? ⟨q, 0, none⟩ = some (.pointer (some ⟨vb, 0, none⟩)) := fun W hb => (World.cell?_of_block (a := ⟨q, 0, none⟩) (hb.block q hql)).trans hq
  have HT := Lib.hid hT
  have HC := Lib.hid hC
  have K0 := Lib.hid hd
  have C0 := Lib.hid (hC _ hd)
  obtain ⟨ta, hta⟩ : ∃ t, t = (tallyOf S a) := ⟨_, rfl⟩
  obtain ⟨tb, htb⟩ : ∃ t, t = (tallyOf S b) := ⟨_, rfl⟩
  have eC : cmpA S a b = cmpI tb.a ta.a := by unfold cmpA; rw [hta, htb]
  have HTa := Lib.hid (fun W (hb : Below w.heap.size w W) => (show Calls Tryz.prog 19 #[.pointer (some ⟨vb, 0, none⟩), .int .i64 a] W fun e w' => e = .returned (.agg #[.int .i64 ta.a, .int .i64 ta.n, .int .i64 ta.s]) ∧ Below W.heap.size W w' by rw [hta]; exact hT W a hb))
  have HTb := Lib.hid (fun W (hb : Below w.heap.size w W) => (show Calls Tryz.prog 19 #[.pointer (some ⟨vb, 0, none⟩), .int .i64 b] W fun e w' => e = .returned (.agg #[.int .i64 tb.a, .int .i64 tb.n, .int .i64 tb.s]) ∧ Below W.heap.size W w' by rw [htb]; exact hT W b hb))
  rw [eC]
  have rfa := run_fieldTl ta.a ta.n ta.s
  have rfb := run_fieldTl tb.a tb.n tb.s
  have mixed : Tryz.prog.follows .mixedOrders = true := by kernel_rfl
  clear h hT hC hd hta htb eC hq
  go_enter Tryz.func94, Tryz.ntmps94
  go_wp2_with fail
  go_region_held3 (fun W => W.cell? ⟨q, 0, none⟩ = some (.pointer (some ⟨vb, 0, none⟩))) (first | exact C0.out | exact C1.out | exact C2.out) (first
    | (go_at_call 19; with_reducible refine (HTb.out _ K0.out).mono ?_; rintro e w1 ⟨rfl, hb⟩; have K1 := Lib.hid (K0.out.trans (hb.mono K0.out.size)); have C1 := Lib.hid (HC.out _ K1.out); clear hb)
    | (go_at_call 19; with_reducible refine (HTa.out _ K1.out).mono ?_; rintro e w2 ⟨rfl, hb⟩; have K2 := Lib.hid (K1.out.trans (hb.mono K1.out.size)); have C2 := Lib.hid (HC.out _ K2.out); clear hb)
    | (go_at_call 95; refine (cmp_Compare _ _ _).mono ?_; rintro e w' ⟨rfl, hw⟩; rw [hw]; clear hw w')
    | fail)
  go_wp2_with fail
  go_ret
  exact ⟨rfl, K2.out⟩
end Go.Proofs.YtpkamfbjgdmmoaaGreat
end

section
namespace Go.Proofs.YtpkamfbjgdmmoaaGreat
open Go.RowKit Go.Maps Go.Shelf
set_option linter.unusedVariables false
set_option linter.unusedSimpArgs false

theorem OwnN.setAt {B g n cap k : Nat} {l : List Int} {w : World} {y : Int} (h : OwnN B (.slice (some ⟨g, 0, none⟩) n cap) l w) (hk : k < l.length) : OwnN B (.slice (some ⟨g, 0, none⟩) n cap) (l.set k y) (w.setCell ⟨g, k, none⟩ (.int .i64 y)) := by
  obtain ⟨h1, h2⟩ := h
  unfold OwnN
  rw [List.length_set]
  refine ⟨by simp [Is], ?_⟩
  rcases h2 with ⟨h2, -⟩ | ⟨g', cap', cur, e, hb, hg, hn, hm, hs, ht⟩
  · cases h2
  · injection e with e1 e2 e3
    injection e1 with e1
    injection e1 with e1
    subst e1 e2 e3
    refine .inr ⟨g, cap, cur.setIfInBounds k (.int .i64 y), rfl, hb, ?_, hn, hm, by simpa using hs, ?_⟩
    · simp [World.setCell, Array.getElem?_modify, hg]
    · rw [Array.toList_setIfInBounds, List.take_set, ht]
      simp [Is, List.map_set]
theorem OwnN.frozen {B g n cap k : Nat} {l : List Int} {w : World} (h : OwnN B (.slice (some ⟨g, 0, none⟩) n cap) l w) : w.frozen? ⟨g, k, none⟩ = false := by
  rcases h.2 with ⟨h2, -⟩ | ⟨g', cap', cur, e, hb, hg, -⟩
  · cases h2
  · injection e with e1 e2 e3
    injection e1 with e1
    injection e1 with e1
    subst e1
    simp [World.frozen?, hg]
theorem OwnN.cellAt {B g n cap k : Nat} {l : List Int} {w : World} (h : OwnN B (.slice (some ⟨g, 0, none⟩) n cap) l w) (hk : k < l.length) : w.cell? ⟨g, k, none⟩ = some (.int .i64 (l.getD k 0)) := by
  obtain ⟨b, cap', e, hc, -, -⟩ := h.at hk
  injection e with e1 e2 e3
  injection e1 with e1
  injection e1 with e1
  subst e1
  rw [hc, List.getD_eq_getElem?_getD, List.getElem?_eq_getElem hk]; rfl
/-- Two neighbours change places. -/
def swp (l : List Int) (j : Nat) : List Int := (l.set (j + 1) (l.getD j 0)).set j (l.getD (j + 1) 0)
theorem swp_len (l : List Int) (j : Nat) : (swp l j).length = l.length := by simp [swp]
/-- One goes down as long as it comes before its neighbour. -/
def insIn (cf : Int → Int → Int) : Nat → List Int → List Int
  | 0, l => l
  | j + 1, l => if cf (l.getD (j + 1) 0) (l.getD j 0) < 0 then insIn cf j (swp l j) else l
def insOut (cf : Int → Int → Int) : Nat → Nat → List Int → List Int
  | 0, _, l => l
  | n + 1, i, l => insOut cf n (i + 1) (insIn cf i l)
def isort (cf : Int → Int → Int) (l : List Int) : List Int := insOut cf (l.length - 1) 1 l
theorem insIn_len (cf : Int → Int → Int) : ∀ (j : Nat) (l : List Int), (insIn cf j l).length = l.length
  | 0, l => rfl
  | j + 1, l => by
    rw [insIn]
    split
    · rw [insIn_len cf j, swp_len]
    · rfl
theorem insOut_len (cf : Int → Int → Int) : ∀ (n i : Nat) (l : List Int), (insOut cf n i l).length = l.length
  | 0, _, l => rfl
  | n + 1, i, l => by rw [insOut, insOut_len cf n, insIn_len]
theorem isort_len (cf : Int → Int → Int) (l : List Int) : (isort cf l).length = l.length := insOut_len cf _ _ l
/-- A row of numbers at block b, from w on; nothing else that was there has changed. -/
structure SrtAt (b cap : Nat) (w : World) (l : List Int) (wr : World) : Prop where
  own : OwnN 0 (.slice (some ⟨b, 0, none⟩) l.length cap) l wr
  grow : Grow w wr
  off : ∀ j, j < w.heap.size → j ≠ b → wr.heap[j]? = w.heap[j]?
  lt : b < w.heap.size
theorem SrtAt.below {b cap : Nat} {w : World} {l : List Int} {wr w' : World} (h : SrtAt b cap w l wr) (hb : Below wr.heap.size wr w') : SrtAt b cap w l w' := by
  have hs := h.grow.size
  have hl := h.lt
  exact ⟨h.own.of (Nat.le_refl _) (fun k hk => by injection hk with hk; simp only at hk; exact hb.block k (by omega)), h.grow.trans (Grow.of_below hb), fun j hj hn => (hb.block j (by omega)).trans (h.off j hj hn), h.lt⟩
theorem SrtAt.set {b cap : Nat} {w : World} {l : List Int} {wr : World} (h : SrtAt b cap w l wr) {k : Nat} (hk : k < l.length) (y : Int) : SrtAt b cap w (l.set k y) (wr.setCell ⟨b, k, none⟩ (.int .i64 y)) := by
  have ho := h.own.setAt hk (y := y)
  exact ⟨by rw [List.length_set]; exact ho, h.grow.trans ⟨rfl, rfl, rfl, by simp [World.setCell]⟩, fun j hj hn => (Below.heap_setCell _ _ _ j hn).trans (h.off j hj hn), h.lt⟩
theorem SrtAt.swap {b cap : Nat} {w : World} {l : List Int} {wr : World} (h : SrtAt b cap w l wr) {j : Nat} (hj : j + 1 < l.length) : SrtAt b cap w (swp l j) ((wr.setCell ⟨b, j + 1, none⟩ (.int .i64 (l.getD j 0))).setCell ⟨b, j, none⟩ (.int .i64 (l.getD (j + 1) 0))) :=
  (h.set hj (l.getD j 0)).set (by rw [List.length_set]; omega) (l.getD (j + 1) 0)
set_option maxHeartbeats 4000000 in
set_option maxRecDepth 100000 in
theorem insertion_small {q b cap : Nat} {cf : Int → Int → Int} {l0 : List Int} {w : World} (hS : SrtAt b cap w l0 w) (hl : l0.length ≤ 1000)
    (hc : ∀ (x y : Int) (wr : World) (l : List Int), SrtAt b cap w l wr → Calls Tryz.prog 94 #[.int .i64 x, .int .i64 y, .pointer (some ⟨q, 0, none⟩)] wr fun e w' => e = .returned (.int .i64 (cf x y)) ∧ Below wr.heap.size wr w') :
    Calls Tryz.prog 137 #[.slice (some ⟨b, 0, none⟩) l0.length cap, .int .i64 0, .int .i64 l0.length, .func (.func 94) #[] #[.pointer (some ⟨q, 0, none⟩)]] w fun e w' => e = .returned (.tuple #[]) ∧ SrtAt b cap w (isort cf l0) w' := by
  obtain ⟨n, hn⟩ : ∃ n, n = l0.length := ⟨_, rfl⟩
  rw [← hn] at hl ⊢
  have HC := Lib.hid hc
  have HS := Lib.hid hS
  have HN := Lib.hid hn
  have mixed : Tryz.prog.follows .mixedOrders = true := by kernel_rfl
  clear hc hS hn
  go_enter Tryz.func137, Tryz.ntmps137
  go_wp2_with fail
  go_loopw [8] (fun i wr => ∃ (k : Nat) (l : List Int), i = .int .i64 k ∧ 1 ≤ k ∧ k ≤ n + 1 ∧ l.length = n ∧ SrtAt b cap w l wr ∧ insOut cf (n - k) k l = isort cf l0) (fun i _ => n + 1 - (intOf i).toNat)
  case atStart => exact ⟨1, l0, rfl, by omega, by omega, HN.out.symm, HS.out, by unfold isort; rw [← HN.out]⟩
  case round =>
    obtain ⟨k, l, rfl, hk1, hkn, hln, hsr, heq⟩ := hrel
    by_cases hlt : k < n
    · have hlt' : (k : Int) < n := by omega
      have HEQ := Lib.hid (And.intro hln (And.intro hsr heq))
      clear hln hsr heq
      go_wp2_with fail
      go_loopw [9] (fun i wr2 => ∃ (j : Nat) (l2 : List Int), i = .int .i64 j ∧ j ≤ k ∧ l2.length = n ∧ SrtAt b cap w l2 wr2 ∧ insIn cf j l2 = insIn cf k l) (fun i _ => (intOf i).toNat)
      case atStart => exact ⟨k, l, rfl, Nat.le_refl _, HEQ.out.1, HEQ.out.2.1, rfl⟩
      case round =>
        obtain ⟨j, l2, rfl, hjk, hl2, hsr2, heq2⟩ := hrel
        have hin : insOut cf (n - (k + 1)) (k + 1) (insIn cf k l) = isort cf l0 := by
          have := HEQ.out.2.2
          rw [show n - k = (n - (k + 1)) + 1 by omega, insOut] at this
          exact this
        have HIN := Lib.hid hin
        clear hin
        cases j with
        | zero =>
          have HE2 := Lib.hid (And.intro hl2 (And.intro hsr2 heq2))
          clear hl2 hsr2 heq2
          rw [show ((0 : Nat) : Int) = 0 from rfl]
          go_wp2_with fail
          go_quiet (fail)
          go_wp2_with fail
          obtain ⟨hl2, hsr2, heq2⟩ := HE2.out
          have e : insIn cf k l = l2 := heq2.symm
          refine ⟨⟨k + 1, insIn cf k l, by go_num, by omega, by omega, by rw [e]; exact hl2, ?_, HIN.out⟩, by simp [intOf]; omega⟩
          rw [e]
          exact hsr2.below (below_dn (Below.refl _ _) _)
        | succ j =>
          obtain ⟨x, hx⟩ : ∃ x, x = l2.getD (j + 1) 0 := ⟨_, rfl⟩
          obtain ⟨y, hy⟩ : ∃ y, y = l2.getD j 0 := ⟨_, rfl⟩
          have hs2 := swp_len l2 j
          obtain ⟨k1, hk1⟩ : ∃ k1, k1 = j + 1 := ⟨_, rfl⟩
          have c1 : wr.drew.cell? ⟨b, k1, none⟩ = some (.int .i64 x) := by rw [hx, hk1]; exact hsr2.own.cellAt (by omega)
          have c0 : wr.drew.cell? ⟨b, j, none⟩ = some (.int .i64 y) := by rw [hy]; exact hsr2.own.cellAt (by omega)
          have hcall := HC.out x y wr.drew l2 (hsr2.below (Below.refl _ _).drew)
          obtain ⟨cv, hcv⟩ : ∃ cv, cv = cf x y := ⟨_, rfl⟩
          rw [← hcv] at hcall
          have hjn : (j : Int) < n := by omega
          have hkn1 : (k1 : Int) < n := by omega
          have hj1 : IntKind.i64.wrap ((k1 : Int) - 1) = j := by rw [hk1, show ((j + 1 : Nat) : Int) - 1 = j by omega]; exact IntWalk.i64_in _ (by omega)
          have hjp3 : decide ((0 : Int) < (k1 : Int)) = true := decide_eq_true (by omega)
          have hjp4 : 0 < k1 := by omega
          -- behind the exchange
          have hnext : ∀ w2, Below wr.heap.size wr w2 → cv < 0 → SrtAt b cap w (swp l2 j) ((w2.setCell ⟨b, k1, none⟩ (.int .i64 y)).setCell ⟨b, j, none⟩ (.int .i64 x)) ∧ insIn cf j (swp l2 j) = insIn cf k l ∧ (swp l2 j).length = n ∧ w2.cell? ⟨b, k1, none⟩ = some (.int .i64 x) ∧ w2.cell? ⟨b, j, none⟩ = some (.int .i64 y) ∧ (∀ i, w2.frozen? ⟨b, i, none⟩ = false) ∧ (w2.setCell ⟨b, k1, none⟩ (.int .i64 y)).cell? ⟨b, j, none⟩ = some (.int .i64 y) ∧ (w2.setCell ⟨b, k1, none⟩ (.int .i64 y)).frozen? ⟨b, j, none⟩ = false := fun w2 hb hlt0 => by
            have h2 := hsr2.below hb
            refine ⟨?_, ?_, by rw [hs2, hl2], by rw [hx, hk1]; exact h2.own.cellAt (by omega), by rw [hy]; exact h2.own.cellAt (by omega), fun i => h2.own.frozen, ?_, ?_⟩
            · have := h2.swap (j := j) (by omega)
              rw [hk1, hx, hy]; exact this
            · rw [← heq2, insIn, if_pos (by rw [← hx, ← hy, ← hcv]; exact hlt0)]
            · have h3 := h2.set (k := k1) (by omega) y
              rw [h3.own.cellAt (by rw [List.length_set]; omega), List.getD_eq_getElem?_getD, List.getElem?_set_ne (by omega), ← List.getD_eq_getElem?_getD, ← hy]
            · exact (h2.set (k := k1) (by omega) y).own.frozen
          have hstop : ∀ w2, Below wr.heap.size wr w2 → ¬ cv < 0 → SrtAt b cap w (insIn cf k l) w2 ∧ (insIn cf k l).length = n := fun w2 hb hge => by
            have e : insIn cf k l = l2 := by rw [← heq2, insIn, if_neg (by rw [← hx, ← hy, ← hcv]; exact hge)]
            rw [e]
            exact ⟨hsr2.below hb, hl2⟩
          have HNX := Lib.hid hnext
          have HSP := Lib.hid hstop
          have HCA := Lib.hid hcall
          have HJ := Lib.hid (And.intro hk1 hjk)
          rw [← hk1]
          clear hl2 hsr2 heq2 hx hy hcv hcall hnext hstop hs2 hk1 hjk
          go_wp2_with fail
          go_still_tail 14, (by kernel_rfl)
          change wpList _ _ _ _ _ wr.drew
          by_cases hcv : cv < 0
          · have hcvb : decide (cv < 0) = true := decide_eq_true hcv
            have HCV := Lib.hid hcv
            clear hcv
            go_upto_region 6 with (first
              | (go_at_call 94; refine HCA.out.mono ?_; rintro e w2 ⟨rfl, hb⟩; have H2 := Lib.hid hb; clear hb)
              | fail)
            obtain ⟨hsw, hin2, hln2, d1, d0, fz, g1, g0⟩ := HNX.out w2 ((Below.refl _ wr).drew.trans H2.out) HCV.out
            have HSW := Lib.hid (And.intro hsw (And.intro hin2 hln2))
            have f1 := fz k1
            have f0 := fz j
            clear hsw hin2 hln2 fz c1 c0
            go_region
            all_goals
              go_wp2_with fail
              first
                | exact ⟨⟨j, swp l2 j, by first | rfl | go_num, by have := HJ.out; omega, HSW.out.2.2, HSW.out.1, HSW.out.2.1⟩, by have := HJ.out.1; simp [intOf]; omega⟩
                | exact ⟨⟨j, swp l2 j, by first | rfl | go_num, by have := HJ.out; omega, HSW.out.2.2, HSW.out.1.below (below_dn (Below.refl _ _) _), HSW.out.2.1⟩, by have := HJ.out.1; simp [intOf]; omega⟩
          · have hcvb : decide (cv < 0) = false := decide_eq_false hcv
            have HCV := Lib.hid hcv
            clear hcv
            go_wp2_with (first
              | (go_at_call 94; refine HCA.out.mono ?_; rintro e w2 ⟨rfl, hb⟩; have H2 := Lib.hid hb; clear hb)
              | fail)
            obtain ⟨h1, h2⟩ := HSP.out w2 ((Below.refl _ wr).drew.trans H2.out) HCV.out
            exact ⟨⟨k + 1, insIn cf k l, by go_num, by omega, by omega, h2, h1, HIN.out⟩, by simp [intOf]; omega⟩
    · have hge : ¬ (k : Int) < n := by omega
      have e : l = isort cf l0 := by rw [← heq, show n - k = 0 by omega]; rfl
      have HF := Lib.hid (And.intro hsr e)
      clear hsr heq e hln
      go_wp2_with fail
      refine bodyPost_end (results_none rfl _ _ _) rfl ?_
      refine ⟨rfl, ?_⟩
      rw [← HF.out.2]
      exact HF.out.1
end Go.Proofs.YtpkamfbjgdmmoaaGreat
end

section
namespace Go.Proofs.YtpkamfbjgdmmoaaGreat
open Go.RowKit Go.Maps Go.Shelf
set_option linter.unusedVariables false
set_option linter.unusedSimpArgs false

set_option maxHeartbeats 4000000 in
set_option maxRecDepth 100000 in
theorem insertion_none (f : Value) (w : World) : Calls Tryz.prog 137 #[.slice none 0 0, .int .i64 0, .int .i64 0, f] w fun e w' => (∃ v, e = .returned v) ∧ w' = w := by
  go_enter Tryz.func137, Tryz.ntmps137
  go_wp2_with fail
  go_loopw [8] (fun i wr => i = .int .i64 1 ∧ wr = w) (fun _ _ => 0)
  case atStart => exact ⟨rfl, rfl⟩
  case round =>
    obtain ⟨rfl, rfl⟩ := hrel
    go_wp2_with fail
    refine bodyPost_end (results_none rfl _ _ _) rfl ?_
    exact ⟨⟨_, rfl⟩, rfl⟩
set_option maxHeartbeats 4000000 in
set_option maxRecDepth 100000 in
theorem stable_none (f : Value) (w : World) : Calls Tryz.prog 117 #[.slice none 0 0, .int .i64 0, f] w fun e w' => (∃ v, e = .returned v) ∧ w' = w := by
  go_enter Tryz.func117, Tryz.ntmps117
  go_wp2_with fail
  go_loopw [7, 8] (fun a b wr => a = .int .i64 0 ∧ b = .int .i64 20 ∧ wr = w) (fun _ _ _ => 0)
  case atStart => exact ⟨rfl, rfl, rfl⟩
  case round =>
    obtain ⟨rfl, rfl, rfl⟩ := hrel
    obtain ⟨wq, hwq⟩ : ∃ wq, wq = wr := ⟨_, rfl⟩
    subst hwq
    go_wp2_with (first
      | (go_at_call 137; refine (insertion_none _ _).mono ?_; rintro e w' ⟨⟨v, rfl⟩, hw⟩; rw [hw]; clear hw w')
      | fail)
    go_loopw [6] (fun a wr => a = .int .i64 20 ∧ wr = wq) (fun _ _ => 0)
    case atStart => exact ⟨rfl, rfl⟩
    case round =>
      obtain ⟨rfl, rfl⟩ := hrel
      go_wp2_with fail
      refine bodyPost_end (results_none rfl _ _ _) rfl ?_
      exact ⟨⟨_, rfl⟩, rfl⟩
theorem sortStable_none {fn : Nat} {lb : Array Value} (w : World) : Calls Tryz.prog 93 #[.slice none 0 0, .func (.func fn) #[] lb] w fun e w' => (∃ v, e = .returned v) ∧ w' = w := by
  go_enter Tryz.func93, Tryz.ntmps93
  go_wp2_with (first
    | (go_at_call 117; refine (stable_none _ _).mono ?_; rintro e w' ⟨⟨v, rfl⟩, hw⟩; rw [hw]; clear hw w')
    | fail)
  refine bodyPost_end (results_none rfl _ _ _) rfl ?_
  exact ⟨⟨_, rfl⟩, rfl⟩
section
variable {q b cap : Nat} {cf : Int → Int → Int} {l0 : List Int} {w : World}
set_option maxHeartbeats 4000000 in
set_option maxRecDepth 100000 in
theorem stable_small (hS : SrtAt b cap w l0 w) (hl : l0.length ≤ 12)
    (hc : ∀ (x y : Int) (wr : World) (l : List Int), SrtAt b cap w l wr → Calls Tryz.prog 94 #[.int .i64 x, .int .i64 y, .pointer (some ⟨q, 0, none⟩)] wr fun e w' => e = .returned (.int .i64 (cf x y)) ∧ Below wr.heap.size wr w') :
    Calls Tryz.prog 117 #[.slice (some ⟨b, 0, none⟩) l0.length cap, .int .i64 l0.length, .func (.func 94) #[] #[.pointer (some ⟨q, 0, none⟩)]] w fun e w' => (∃ v, e = .returned v) ∧ SrtAt b cap w (isort cf l0) w' := by
  have hin := insertion_small hS (by omega) hc
  obtain ⟨n, hn⟩ : ∃ n, n = l0.length := ⟨_, rfl⟩
  rw [← hn] at hl hin ⊢
  have HIN := Lib.hid hin
  have h20 : ¬ (20 : Int) ≤ n := by omega
  have h20' : ¬ (20 : Int) < n := by omega
  clear hin hS hc hn
  go_enter Tryz.func117, Tryz.ntmps117
  go_wp2_with fail
  go_loopw [7, 8] (fun a b wr => a = .int .i64 0 ∧ b = .int .i64 20 ∧ wr = w) (fun _ _ _ => 0)
  case atStart => exact ⟨rfl, rfl, rfl⟩
  case round =>
    obtain ⟨rfl, rfl, rfl⟩ := hrel
    obtain ⟨wq, hwq⟩ : ∃ wq, wq = wr := ⟨_, rfl⟩
    subst hwq
    go_wp2_with (first
      | (go_at_call 137; refine HIN.out.mono ?_; rintro e w2 ⟨rfl, hs⟩; have HS2 := Lib.hid hs; clear hs)
      | fail)
    go_loopw [6] (fun a wr => a = .int .i64 20 ∧ wr = w2) (fun _ _ => 0)
    case atStart => exact ⟨rfl, rfl⟩
    case round =>
      obtain ⟨rfl, rfl⟩ := hrel
      go_wp2_with fail
      refine bodyPost_end (results_none rfl _ _ _) rfl ?_
      exact ⟨⟨_, rfl⟩, HS2.out⟩
/-- Numbers of one's own, sorted. -/
theorem sortStable_small {B : Nat} {v : Value} (hO : OwnN B v l0 w) (hl : l0.length ≤ 12)
    (hc : ∀ (x y : Int) (wr : World), Grow w wr → (∀ j, j < w.heap.size → v.ownBlock ≠ some j → wr.heap[j]? = w.heap[j]?) → Calls Tryz.prog 94 #[.int .i64 x, .int .i64 y, .pointer (some ⟨q, 0, none⟩)] wr fun e w' => e = .returned (.int .i64 (cf x y)) ∧ Below wr.heap.size wr w') :
    Calls Tryz.prog 93 #[v, .func (.func 94) #[] #[.pointer (some ⟨q, 0, none⟩)]] w fun e w' => (∃ u, e = .returned u) ∧ OwnN B v (isort cf l0) w' ∧ Grow w w' ∧ ∀ j, j < w.heap.size → v.ownBlock ≠ some j → w'.heap[j]? = w.heap[j]? := by
  rcases hO.2 with ⟨rfl, hn⟩ | ⟨b, cap, cur, rfl, hb, hg, hn, hm, hs, ht⟩
  · obtain rfl : l0 = [] := List.length_eq_zero_iff.1 hn
    refine (sortStable_none w).mono ?_
    rintro e w' ⟨he, rfl⟩
    exact ⟨he, hO, Grow.refl _, fun _ _ _ => rfl⟩
  · have hbl : b < w.heap.size := (Array.getElem?_eq_some_iff.1 hg).1
    have hS : SrtAt b cap w l0 w := ⟨hO.of (Nat.zero_le _) (fun _ _ => rfl), Grow.refl _, fun _ _ _ => rfl, hbl⟩
    have hst := stable_small (q := q) (cf := cf) hS hl (fun x y wr l h => hc x y wr h.grow (fun j hj hne => h.off j hj (fun e => hne (by rw [e]; rfl))))
    obtain ⟨n, hn'⟩ : ∃ n, n = l0.length := ⟨_, rfl⟩
    rw [← hn'] at hst ⊢
    have HST := Lib.hid hst
    have HB := Lib.hid hb
    have HL := Lib.hid (And.intro hn' hl)
    clear hst hS hO hc hg hs ht hn hm hl hb hbl hn'
    go_enter Tryz.func93, Tryz.ntmps93
    go_wp2_with (first
      | (go_at_call 117; refine HST.out.mono ?_; rintro e w2 ⟨⟨u, rfl⟩, hs⟩; have HS2 := Lib.hid hs; clear hs)
      | fail)
    refine bodyPost_end (results_none rfl _ _ _) rfl ?_
    have h2 := HS2.out
    refine ⟨⟨_, rfl⟩, ?_, h2.grow, fun j hj hne => h2.off j hj (fun e => hne (by rw [e]; rfl))⟩
    obtain ⟨ho1, ho2⟩ := h2.own
    rw [isort_len, ← HL.out.1] at ho2
    refine ⟨ho1, ?_⟩
    rw [isort_len, ← HL.out.1]
    rcases ho2 with ⟨e, -⟩ | ⟨g', cap', cur', e, -, q2, q3, q4, q5, q6⟩
    · cases e
    · injection e with e1 e2 e3
      injection e1 with e1
      injection e1 with e1
      exact .inr ⟨g', cap', cur', by rw [e1, e3], by rw [← e1]; exact HB.out, q2, q3, q4, q5, q6⟩
end
end Go.Proofs.YtpkamfbjgdmmoaaGreat
end

section
namespace Go.Proofs.YtpkamfbjgdmmoaaGreat
open Go.RowKit Go.Maps Go.Shelf
set_option linter.unusedVariables false
set_option linter.unusedSimpArgs false

theorem intInfo : (Tryz.prog.info? 3).map (fun i => (i.zero, i.size, i.bytes)) = some (some (.int .i64 0), 1, 8) := by kernel_rfl
/-- One that is decided already, by track i. -/
def isDec (i : Int) (x : Rfm) : Bool := decide (x.st = 1) && decide (x.tr = i) && !decide (x.si = -1)
/-- One that waits, and may be decided now. -/
def isWait (t : Trk) (i now : Int) (x : Rfm) : Bool := decide (x.st = 1) && decide (x.tr = i) && decide (x.si = -1) && !decide (x.bk = -1) && decide (t.prep ≤ now - x.sb)
def decP (i : Int) (l : List (Int × Rfm)) : Nat := (l.filter (fun p => isDec i p.2)).length
def waitP (t : Trk) (i now : Int) (l : List (Int × Rfm)) : List Int := (l.filter (fun p => isWait t i now p.2)).map (·.1)
theorem decP_snoc (i : Int) (l : List (Int × Rfm)) (x : Int × Rfm) : decP i (l ++ [x]) = decP i l + if isDec i x.2 then 1 else 0 := by
  unfold decP
  rw [List.filter_append, List.length_append]
  congr 1
  by_cases h : isDec i x.2 = true <;> simp [h]
theorem waitP_snoc (t : Trk) (i now : Int) (l : List (Int × Rfm)) (x : Int × Rfm) : waitP t i now (l ++ [x]) = waitP t i now l ++ if isWait t i now x.2 then [x.1] else [] := by
  unfold waitP
  rw [List.filter_append, List.map_append]
  congr 1
  by_cases h : isWait t i now x.2 = true <;> simp [h]
theorem decP_le (i : Int) (l : List (Int × Rfm)) : decP i l ≤ l.length := List.length_filter_le _ _
theorem waitP_len (t : Trk) (i now : Int) (l : List (Int × Rfm)) : (waitP t i now l).length ≤ l.length := by unfold waitP; rw [List.length_map]; exact List.length_filter_le _ _
/-- Some are decided from now on. -/
def selR (R : List Rfm) (now : Int) (l : List Int) : List Rfm := l.foldl (fun R k => R.set k.toNat { refAt R k with si := now }) R
theorem selR_snoc (R : List Rfm) (now : Int) (l : List Int) (k : Int) : selR R now (l ++ [k]) = (selR R now l).set k.toNat { refAt (selR R now l) k with si := now } := by simp [selR]
theorem selR_len (R : List Rfm) (now : Int) : ∀ l : List Int, (selR R now l).length = R.length := by
  intro l
  unfold selR
  induction l generalizing R with
  | nil => rfl
  | cons a l ih => rw [List.foldl_cons, ih, List.length_set]
/-- Whom choose chooses, in the order in which it does. -/
def chosen (t : Trk) (R : List Rfm) (S : Vs) (i now : Int) : List Int :=
  let l := isort (cmpA S) (waitP t i now (rowR 0 R))
  l.take (min l.length (max (t.most - decP i (rowR 0 R)) 0).toNat)
def chooseR (t : Trk) (R : List Rfm) (S : Vs) (i now : Int) : List Rfm := selR R now (chosen t R S i now)
theorem chooseR_len (t : Trk) (R : List Rfm) (S : Vs) (i now : Int) : (chooseR t R S i now).length = R.length := selR_len _ _ _
/-- What sorts keeps what is there. -/
theorem mem_swp {l : List Int} {j : Nat} (hj : j + 1 < l.length) {x : Int} (h : x ∈ swp l j) : x ∈ l := by
  unfold swp at h
  have key : ∀ {m : List Int} {k : Nat} {y : Int}, x ∈ m.set k y → x ∈ m ∨ x = y := fun h => List.mem_or_eq_of_mem_set h
  have g : ∀ k, k < l.length → l.getD k 0 ∈ l := fun k hk => by rw [List.getD_eq_getElem?_getD, List.getElem?_eq_getElem hk]; exact List.getElem_mem _
  rcases key h with h | rfl
  · rcases key h with h | rfl
    · exact h
    · exact g j (by omega)
  · exact g (j + 1) hj
theorem mem_insIn {cf : Int → Int → Int} {x : Int} : ∀ (j : Nat) (l : List Int), j < l.length ∨ l = [] → x ∈ insIn cf j l → x ∈ l
  | 0, l, _, h => h
  | j + 1, l, hj, h => by
    rw [insIn] at h
    split at h
    · rcases hj with hj | rfl
      · exact mem_swp hj (mem_insIn j (swp l j) (.inl (by rw [swp_len]; omega)) h)
      · rename_i q
        have e : swp [] j = [] := by simp [swp]
        rw [e] at h
        exact mem_insIn j [] (.inr rfl) h
    · exact h
theorem mem_insOut {cf : Int → Int → Int} {x : Int} : ∀ (n i : Nat) (l : List Int), i + n ≤ l.length ∨ n = 0 → x ∈ insOut cf n i l → x ∈ l
  | 0, _, l, _, h => h
  | n + 1, i, l, hl, h => by
    rw [insOut] at h
    have hl : i + (n + 1) ≤ l.length := by omega
    exact mem_insIn i l (.inl (by omega)) (mem_insOut n (i + 1) (insIn cf i l) (.inl (by rw [insIn_len]; omega)) h)
theorem mem_isort {cf : Int → Int → Int} {l : List Int} {x : Int} (h : x ∈ isort cf l) : x ∈ l := by
  unfold isort at h
  exact mem_insOut _ _ _ (by omega) h
theorem mem_chosen {t : Trk} {R : List Rfm} {S : Vs} {i now : Int} {x : Int} (h : x ∈ chosen t R S i now) : ∃ k : Nat, x = k ∧ k < R.length := by
  have h1 := mem_isort (List.mem_of_mem_take h)
  unfold waitP at h1
  obtain ⟨p, hp, rfl⟩ := List.mem_map.1 h1
  obtain ⟨j, hj, e⟩ := mem_rowR.1 (List.mem_filter.1 hp).1
  exact ⟨j, by rw [e]; omega, (List.getElem?_eq_some_iff.1 hj).1⟩
theorem Rin.sel {ts : List Trk} {R : List Rfm} (h : Rin ts R) {now : Int} (hn : soon now) : ∀ {l : List Int}, (∀ x ∈ l, ∃ k : Nat, x = k ∧ k < R.length) → Rin ts (selR R now l) := by
  intro l
  unfold selR
  induction l generalizing R with
  | nil => exact fun _ => h
  | cons a l ih =>
    intro hl
    rw [List.foldl_cons]
    obtain ⟨k, rfl, hk⟩ := hl a (by simp)
    have hm : refAt R k ∈ R := by rw [refAt_is hk]; exact List.getElem_mem _
    refine ih (h.set _ (y := { refAt R k with si := now }) (h.tr (refAt R k) hm) (h.who (refAt R k) hm) (h.sb (refAt R k) hm) hn) (fun x hx => ?_)
    rw [List.length_set]
    exact hl x (List.mem_cons_of_mem _ hx)
theorem Rin.choose {ts : List Trk} {R : List Rfm} (h : Rin ts R) {now : Int} (hn : soon now) (t : Trk) (S : Vs) (i : Int) : Rin ts (chooseR t R S i now) := h.sel hn (fun x hx => mem_chosen hx)
end Go.Proofs.YtpkamfbjgdmmoaaGreat
end
