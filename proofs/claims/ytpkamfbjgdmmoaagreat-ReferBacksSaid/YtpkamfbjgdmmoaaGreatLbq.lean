/-
  The law ReferBacks, walked. Printed by mk12.py.
-/
import Derived.Test.YtpkamfbjgdmmoaaGreatBq1
import Derived.BigRegion
import Derived.RegionTactic
import Derived.Deep.RegionHeld3
namespace Go.Proofs.YtpkamfbjgdmmoaaGreat
open Go.RowKit Go.Maps Go.Shelf
set_option linter.unusedVariables false
set_option linter.unusedSimpArgs false

theorem fold_trk (t : Trk) : List.foldl (fun (cs : Array Value) (x : Value × Nat) => cs.setIfInBounds x.2 x.1) #[.int .i64 0, .int .i64 0, .int .i64 0, .int .i64 0, .int .i64 0, .int .i64 0, .int .i64 0, .int .i64 0, .int .i64 0, .int .i64 0, .int .i64 0, .int .i64 0, .int .i64 0, .int .i64 0, .int .i64 0, .int .i64 0, .int .i64 0, .int .i64 0] (trkR.f t).zipIdx = (trkR.f t).toArray := by kernel_rfl
theorem sub_bT (D a : Int) : St12.zero.sub (bT D) a 0 hsh0 0 0 = St12.zero.sub kT a 0 hsh0 0 0 := by
  have e : subE (bT D) = subE kT := by funext R S A M a t af; unfold subE; rfl
  unfold St12.sub subR subS subA
  rw [e]
theorem rin0b : rinB kT St12.zero.R = true := by decide +kernel
theorem wf_small {m : Int} (h0 : 0 ≤ m) (h1 : m < 1000000) : (Lit.int .i64 m).wf = true := wfS (by omega) (by omega)
set_option maxRecDepth 100000 in
set_option maxHeartbeats 8000000 in
theorem bq_walk_hi (D a b : Int) (w : World) (wa : (Lit.int .i64 a).wf = true) (wb : (Lit.int .i64 b).wf = true) (d0 : 0 ≤ D) (d1 : D ≤ 2000) (a0 : 0 ≤ a) (a1 : a < 10) (b0 : 0 ≤ b) (b1 : b < 10) (hd : 1000 < D) : Calls Tryz.prog 10 #[.int .i64 D, .int .i64 a, .int .i64 b] w fun e w' => e = .returned (.bool true) ∧ Below w.heap.size w w' := by
  have HPL := Lib.hid (law12_plain w)
  have HNB := Lib.hid (show newB [trkD D] = true from bT_new d0 d1)
  have HE := Lib.hid (bq_hi (D := D) (by omega) d1 a0 a1 b0 b1)
  have g1 : ¬ D < 0 := by omega
  have g2 : ¬ D > 2000 := by omega
  have g3 : ¬ a < 0 := by omega
  have g4 : ¬ a ≥ 10 := by omega
  have g5 : ¬ b < 0 := by omega
  have g6 : ¬ b ≥ 10 := by omega
  have W1 : IntKind.i64.wrap (a + 1) = a + 1 := IntWalk.i64_in _ (by omega)
  have W2 : IntKind.i64.wrap (1000 - D) = 1000 - D := IntWalk.i64_in _ (by omega)
  obtain ⟨m, hm⟩ : ∃ m, (a + 1).tmod 10 = m := ⟨_, rfl⟩
  have hmb : 0 ≤ m ∧ m < 10 := by rw [← hm]; exact ⟨Int.tmod_nonneg _ (by omega), Int.tmod_lt_of_pos _ (by decide)⟩
  have HM := Lib.hid (show (Lit.int .i64 m).wf = true from wf_small hmb.1 (by omega))
  have hr0 := rin_bT (bT_new d0 d1) rin0b
  have HR0 := Lib.hid hr0
  have HS1 := Lib.hid (show St12.zero.sub (bT D) m 0 hsh0 0 0 = bq1 a by rw [sub_bT]; unfold bq1 bq0; rw [hm])
  have gd : D > 1000 := hd
  clear hd d0 d1 a0 a1 b0 b1 hmb hr0
  go_enter Tryz.func10, Tryz.ntmps10
  have mixed : Tryz.prog.follows .mixedOrders = true := by kernel_rfl
  go_upto_region 4 with (first
    | (go_at_call 12; refine HPL.out.mono ?_; rintro e w1 ⟨rfl, hb⟩; have H1 := Lib.hid hb; clear hb)
    | (refine wpl_allocR (r := trkR) (ty := 26) rfl rfl rfl ?_; intro C hC)
    | (refine wpl_storeR (r := trkR) (ty := 26) (t := trkP) (C := C) _ _ rfl rfl rfl rfl rfl (World.alloc_heap_new w1 _) hC ?_; rw [World.setRow_alloc_new])
    | fail)
  clear hC C
  obtain ⟨tb, htb⟩ : ∃ tb, tb = w1.heap.size := ⟨_, rfl⟩
  obtain ⟨W3, hW3⟩ : ∃ W3, W3 = w1.alloc (.cells (trkR.f trkP).toArray 26) := ⟨_, rfl⟩
  have x3 : W3.heap[tb]? = some (.cells (trkR.f trkP).toArray 26 (0, 0)) := by rw [hW3, htb]; exact World.alloc_heap_new _ _
  have b3 : Below w.heap.size w W3 := by rw [hW3]; exact H1.out.alloc H1.out.size _
  have htw : w.heap.size ≤ tb := by rw [htb]; exact H1.out.size
  rw [← hW3, ← htb]
  clear hW3 htb
  have ct : W3.cell? ⟨tb, 1, none⟩ = some (trkP.cells[1]) := by rw [World.cell?, x3]; rfl
  have ft : W3.frozen? ⟨tb, 1, none⟩ = false := by rw [World.frozen?, x3]; rfl
  have x4 := trk_set (i := 1) (v := .int .i64 D) (t' := trkD D) x3 rfl
  have b4 : Below w.heap.size w (W3.setCell ⟨tb, 1, none⟩ (.int .i64 D)) := b3.trans ⟨rfl, rfl, rfl, by simp [World.setCell], fun k hk => Below.heap_setCell _ _ _ k (by show k ≠ tb; omega)⟩
  have HX := Lib.hid (And.intro x4 b4)
  clear x3 b3 htw x4 b4
  go_upto_region 5 with fail
  obtain ⟨W4, hW4⟩ : ∃ W4, W4 = W3.setCell ⟨tb, 1, none⟩ (.int .i64 D) := ⟨_, rfl⟩
  rw [← hW4] at HX ⊢
  clear hW4 ct ft
  obtain ⟨tt, htt⟩ : ∃ tt, tt = trkD D := ⟨_, rfl⟩
  have hbg : Calls Tryz.prog 13 #[.slice (some ⟨W4.heap.size, 0, none⟩) 1 1] (W4.alloc (.cells (trkR.f tt).toArray 26)) fun e w' => ∃ p g vb r, e = .returned (.pointer (some ⟨p, 0, none⟩)) ∧ Pq p r g vb (bT D) St12.zero (W4.alloc (.cells (trkR.f tt).toArray 26)) w' := by rw [htt]; exact begin12 HNB.out W4
  rw [← htt] at HX
  have hr4 := rangeAt_whole (T := 26) HX.out.1
  have HR4 := Lib.hid hr4
  have HB := Lib.hid hbg
  clear hr4 hbg htt
  have hsz : (trkR.f tt).length = 18 := trkR.len tt
  go_upto_region 8 with (first
    | (refine wpl_loadR (r := trkR) (t := tt) (b := tb) (k := 0) _ rfl rfl rfl HR4.out ?_)
    | (go_at_call 13; rw [fold_trk]; refine HB.out.mono ?_; rintro e w2 ⟨p, g, vb, r, rfl, hp⟩; have Q2 := Lib.hid hp; clear hp)
    | fail)
  have H4 := Lib.hid (show Below w.heap.size w (W4.alloc (.cells (trkR.f tt).toArray 26)) from HX.out.2.alloc HX.out.2.size _)
  go_upto_region 8 with fail
  have D2 := Lib.hid Q2.out.dcells
  go_region_held3 (fun W => W.cell? ⟨p, 0, none⟩ = some (.pointer (some ⟨g, 0, none⟩)) ∧ W.cell? ⟨p, 1, none⟩ = some (.pointer (some ⟨vb, 0, none⟩)) ∧ W.cell? ⟨p, 2, none⟩ = some (.pointer (some ⟨r, 0, none⟩))) (first | exact D2.out | exact C3.out) (first
    | (go_at_call 14; refine (Q2.out.drew.Submit HR0.out HM.out 0 hsh0 0 0).mono ?_; rw [HS1.out]; rintro e w3 ⟨rfl, hp⟩; have Q3 := Lib.hid (show Pq p r g vb (bT D) (bq1 a) _ _ from hp); have C3 := Lib.hid hp.cells; clear hp)
    | fail)
  go_upto_region 9 with fail
  have D3 := Lib.hid Q3.out.dcells
  go_region_held3 (fun W => W.cell? ⟨p, 0, none⟩ = some (.pointer (some ⟨g, 0, none⟩)) ∧ W.cell? ⟨p, 1, none⟩ = some (.pointer (some ⟨vb, 0, none⟩)) ∧ W.cell? ⟨p, 2, none⟩ = some (.pointer (some ⟨r, 0, none⟩))) (first | exact D3.out | exact C4.out) (first
    | (go_at_call 15; refine (Q3.out.drew.Deposit HE.out.1.1 wa (by decide)).mono ?_; rw [show (bq1 a).M = [] from rfl, HE.out.2.1]; rintro e w4 ⟨rfl, hp⟩; have Q4 := Lib.hid (show Pq p r g vb (bT D) (bq2 D a) _ _ from hp); have C4 := Lib.hid hp.cells; clear hp)
    | fail)
  go_upto_region 10 with fail
  have D4 := Lib.hid Q4.out.dcells
  go_region_held3 (fun W => W.cell? ⟨p, 0, none⟩ = some (.pointer (some ⟨g, 0, none⟩)) ∧ W.cell? ⟨p, 1, none⟩ = some (.pointer (some ⟨vb, 0, none⟩)) ∧ W.cell? ⟨p, 2, none⟩ = some (.pointer (some ⟨r, 0, none⟩))) (first | exact D4.out | exact C5.out) (first
    | (go_at_call 15; refine (Q4.out.drew.Deposit HE.out.1.2.1 wb (by decide)).mono ?_; rw [show (bq2 D a).M = [] from rfl, HE.out.2.2.1]; rintro e w5 ⟨rfl, hp⟩; have Q5 := Lib.hid (show Pq p r g vb (bT D) (bq3 D a b) _ _ from hp); have C5 := Lib.hid hp.cells; clear hp)
    | fail)
  go_upto_region 11 with fail
  have D5 := Lib.hid Q5.out.dcells
  go_region_held3 (fun W => W.cell? ⟨p, 0, none⟩ = some (.pointer (some ⟨g, 0, none⟩)) ∧ W.cell? ⟨p, 1, none⟩ = some (.pointer (some ⟨vb, 0, none⟩)) ∧ W.cell? ⟨p, 2, none⟩ = some (.pointer (some ⟨r, 0, none⟩))) (first | exact D5.out | exact C6.out) (first
    | (go_at_call 26; refine (Q5.out.drew.Cancel HE.out.1.2.2.1 (by decide) 1).mono ?_; rintro e w6 ⟨v6, rfl, hp, ho⟩; skip; have Q6 := Lib.hid (show Pq p r g vb (bT D) (bq4 D a b) _ _ from hp); have C6 := Lib.hid hp.cells; clear hp ho)
    | fail)
  go_upto_region 12 with fail
  have D6 := Lib.hid Q6.out.dcells
  go_region_held3 (fun W => W.cell? ⟨p, 0, none⟩ = some (.pointer (some ⟨g, 0, none⟩)) ∧ W.cell? ⟨p, 1, none⟩ = some (.pointer (some ⟨vb, 0, none⟩)) ∧ W.cell? ⟨p, 2, none⟩ = some (.pointer (some ⟨r, 0, none⟩))) (first | exact D6.out | exact C7.out) (first
    | (go_at_call 15; refine (Q6.out.drew.Deposit HE.out.1.2.2.2.1 wb (by decide)).mono ?_; rw [show (bq4 D a b).M = [] from rfl, HE.out.2.2.2.2.1]; rintro e w7 ⟨rfl, hp⟩; have Q7 := Lib.hid (show Pq p r g vb (bT D) (bq5 D a b) _ _ from hp); have C7 := Lib.hid hp.cells; clear hp)
    | fail)
  go_upto_region 13 with fail
  have D7 := Lib.hid Q7.out.dcells
  go_region_held3 (fun W => W.cell? ⟨p, 0, none⟩ = some (.pointer (some ⟨g, 0, none⟩)) ∧ W.cell? ⟨p, 1, none⟩ = some (.pointer (some ⟨vb, 0, none⟩)) ∧ W.cell? ⟨p, 2, none⟩ = some (.pointer (some ⟨r, 0, none⟩))) (first | exact D7.out | exact C8.out) (first
    | (go_at_call 15; refine (Q7.out.drew.Deposit HE.out.1.2.2.2.2 wb (by decide)).mono ?_; rw [show (bq5 D a b).M = [] from rfl, HE.out.2.2.2.2.2]; rintro e w8 ⟨rfl, hp⟩; have Q8 := Lib.hid (show Pq p r g vb (bT D) ((bq5 D a b).dep (bT D) b 1) _ _ from hp); have C8 := Lib.hid hp.cells; clear hp)
    | fail)
  go_wp2_with (first
    | (go_at_call 20; refine (law12_known _).mono ?_; rintro e wk ⟨rfl, hp⟩; have QK := Lib.hid (Q8.out.below hp); clear hp)
    | fail)
  exact bodyPost_ret (v := .bool true) (by simp [results, Tryz.results10, go_sem]) rfl ⟨rfl, H4.out.trans (QK.out.old.mono H4.out.size)⟩
set_option maxRecDepth 100000 in
set_option maxHeartbeats 8000000 in
theorem bq_walk_lo (D a b : Int) (w : World) (wa : (Lit.int .i64 a).wf = true) (wb : (Lit.int .i64 b).wf = true) (d0 : 0 ≤ D) (d1 : D ≤ 2000) (a0 : 0 ≤ a) (a1 : a < 10) (b0 : 0 ≤ b) (b1 : b < 10) (hd : D ≤ 1000) : Calls Tryz.prog 10 #[.int .i64 D, .int .i64 a, .int .i64 b] w fun e w' => e = .returned (.bool true) ∧ Below w.heap.size w w' := by
  have HPL := Lib.hid (law12_plain w)
  have HNB := Lib.hid (show newB [trkD D] = true from bT_new d0 d1)
  have HE := Lib.hid (bq_lo (D := D) d0 hd a0 a1 b0 b1)
  have g1 : ¬ D < 0 := by omega
  have g2 : ¬ D > 2000 := by omega
  have g3 : ¬ a < 0 := by omega
  have g4 : ¬ a ≥ 10 := by omega
  have g5 : ¬ b < 0 := by omega
  have g6 : ¬ b ≥ 10 := by omega
  have W1 : IntKind.i64.wrap (a + 1) = a + 1 := IntWalk.i64_in _ (by omega)
  have W2 : IntKind.i64.wrap (1000 - D) = 1000 - D := IntWalk.i64_in _ (by omega)
  obtain ⟨m, hm⟩ : ∃ m, (a + 1).tmod 10 = m := ⟨_, rfl⟩
  have hmb : 0 ≤ m ∧ m < 10 := by rw [← hm]; exact ⟨Int.tmod_nonneg _ (by omega), Int.tmod_lt_of_pos _ (by decide)⟩
  have HM := Lib.hid (show (Lit.int .i64 m).wf = true from wf_small hmb.1 (by omega))
  have hr0 := rin_bT (bT_new d0 d1) rin0b
  have HR0 := Lib.hid hr0
  have HS1 := Lib.hid (show St12.zero.sub (bT D) m 0 hsh0 0 0 = bq1 a by rw [sub_bT]; unfold bq1 bq0; rw [hm])
  have gd : ¬ D > 1000 := by omega
  clear hd d0 d1 a0 a1 b0 b1 hmb hr0
  go_enter Tryz.func10, Tryz.ntmps10
  have mixed : Tryz.prog.follows .mixedOrders = true := by kernel_rfl
  go_upto_region 4 with (first
    | (go_at_call 12; refine HPL.out.mono ?_; rintro e w1 ⟨rfl, hb⟩; have H1 := Lib.hid hb; clear hb)
    | (refine wpl_allocR (r := trkR) (ty := 26) rfl rfl rfl ?_; intro C hC)
    | (refine wpl_storeR (r := trkR) (ty := 26) (t := trkP) (C := C) _ _ rfl rfl rfl rfl rfl (World.alloc_heap_new w1 _) hC ?_; rw [World.setRow_alloc_new])
    | fail)
  clear hC C
  obtain ⟨tb, htb⟩ : ∃ tb, tb = w1.heap.size := ⟨_, rfl⟩
  obtain ⟨W3, hW3⟩ : ∃ W3, W3 = w1.alloc (.cells (trkR.f trkP).toArray 26) := ⟨_, rfl⟩
  have x3 : W3.heap[tb]? = some (.cells (trkR.f trkP).toArray 26 (0, 0)) := by rw [hW3, htb]; exact World.alloc_heap_new _ _
  have b3 : Below w.heap.size w W3 := by rw [hW3]; exact H1.out.alloc H1.out.size _
  have htw : w.heap.size ≤ tb := by rw [htb]; exact H1.out.size
  rw [← hW3, ← htb]
  clear hW3 htb
  have ct : W3.cell? ⟨tb, 1, none⟩ = some (trkP.cells[1]) := by rw [World.cell?, x3]; rfl
  have ft : W3.frozen? ⟨tb, 1, none⟩ = false := by rw [World.frozen?, x3]; rfl
  have x4 := trk_set (i := 1) (v := .int .i64 D) (t' := trkD D) x3 rfl
  have b4 : Below w.heap.size w (W3.setCell ⟨tb, 1, none⟩ (.int .i64 D)) := b3.trans ⟨rfl, rfl, rfl, by simp [World.setCell], fun k hk => Below.heap_setCell _ _ _ k (by show k ≠ tb; omega)⟩
  have HX := Lib.hid (And.intro x4 b4)
  clear x3 b3 htw x4 b4
  go_upto_region 5 with fail
  obtain ⟨W4, hW4⟩ : ∃ W4, W4 = W3.setCell ⟨tb, 1, none⟩ (.int .i64 D) := ⟨_, rfl⟩
  rw [← hW4] at HX ⊢
  clear hW4 ct ft
  obtain ⟨tt, htt⟩ : ∃ tt, tt = trkD D := ⟨_, rfl⟩
  have hbg : Calls Tryz.prog 13 #[.slice (some ⟨W4.heap.size, 0, none⟩) 1 1] (W4.alloc (.cells (trkR.f tt).toArray 26)) fun e w' => ∃ p g vb r, e = .returned (.pointer (some ⟨p, 0, none⟩)) ∧ Pq p r g vb (bT D) St12.zero (W4.alloc (.cells (trkR.f tt).toArray 26)) w' := by rw [htt]; exact begin12 HNB.out W4
  rw [← htt] at HX
  have hr4 := rangeAt_whole (T := 26) HX.out.1
  have HR4 := Lib.hid hr4
  have HB := Lib.hid hbg
  clear hr4 hbg htt
  have hsz : (trkR.f tt).length = 18 := trkR.len tt
  go_upto_region 8 with (first
    | (refine wpl_loadR (r := trkR) (t := tt) (b := tb) (k := 0) _ rfl rfl rfl HR4.out ?_)
    | (go_at_call 13; rw [fold_trk]; refine HB.out.mono ?_; rintro e w2 ⟨p, g, vb, r, rfl, hp⟩; have Q2 := Lib.hid hp; clear hp)
    | fail)
  have H4 := Lib.hid (show Below w.heap.size w (W4.alloc (.cells (trkR.f tt).toArray 26)) from HX.out.2.alloc HX.out.2.size _)
  go_upto_region 8 with fail
  have D2 := Lib.hid Q2.out.dcells
  go_region_held3 (fun W => W.cell? ⟨p, 0, none⟩ = some (.pointer (some ⟨g, 0, none⟩)) ∧ W.cell? ⟨p, 1, none⟩ = some (.pointer (some ⟨vb, 0, none⟩)) ∧ W.cell? ⟨p, 2, none⟩ = some (.pointer (some ⟨r, 0, none⟩))) (first | exact D2.out | exact C3.out) (first
    | (go_at_call 14; refine (Q2.out.drew.Submit HR0.out HM.out 0 hsh0 0 0).mono ?_; rw [HS1.out]; rintro e w3 ⟨rfl, hp⟩; have Q3 := Lib.hid (show Pq p r g vb (bT D) (bq1 a) _ _ from hp); have C3 := Lib.hid hp.cells; clear hp)
    | fail)
  go_upto_region 9 with fail
  have D3 := Lib.hid Q3.out.dcells
  go_region_held3 (fun W => W.cell? ⟨p, 0, none⟩ = some (.pointer (some ⟨g, 0, none⟩)) ∧ W.cell? ⟨p, 1, none⟩ = some (.pointer (some ⟨vb, 0, none⟩)) ∧ W.cell? ⟨p, 2, none⟩ = some (.pointer (some ⟨r, 0, none⟩))) (first | exact D3.out | exact C4.out) (first
    | (go_at_call 15; refine (Q3.out.drew.Deposit HE.out.1.1 wa (by decide)).mono ?_; rw [show (bq1 a).M = [] from rfl, HE.out.2.1]; rintro e w4 ⟨rfl, hp⟩; have Q4 := Lib.hid (show Pq p r g vb (bT D) (bq2 D a) _ _ from hp); have C4 := Lib.hid hp.cells; clear hp)
    | fail)
  go_upto_region 10 with fail
  have D4 := Lib.hid Q4.out.dcells
  go_region_held3 (fun W => W.cell? ⟨p, 0, none⟩ = some (.pointer (some ⟨g, 0, none⟩)) ∧ W.cell? ⟨p, 1, none⟩ = some (.pointer (some ⟨vb, 0, none⟩)) ∧ W.cell? ⟨p, 2, none⟩ = some (.pointer (some ⟨r, 0, none⟩))) (first | exact D4.out | exact C5.out) (first
    | (go_at_call 15; refine (Q4.out.drew.Deposit HE.out.1.2.1 wb (by decide)).mono ?_; rw [show (bq2 D a).M = [] from rfl, HE.out.2.2.1]; rintro e w5 ⟨rfl, hp⟩; have Q5 := Lib.hid (show Pq p r g vb (bT D) (bq3 D a b) _ _ from hp); have C5 := Lib.hid hp.cells; clear hp)
    | fail)
  go_upto_region 11 with fail
  have D5 := Lib.hid Q5.out.dcells
  go_region_held3 (fun W => W.cell? ⟨p, 0, none⟩ = some (.pointer (some ⟨g, 0, none⟩)) ∧ W.cell? ⟨p, 1, none⟩ = some (.pointer (some ⟨vb, 0, none⟩)) ∧ W.cell? ⟨p, 2, none⟩ = some (.pointer (some ⟨r, 0, none⟩))) (first | exact D5.out | exact C6.out) (first
    | (go_at_call 26; refine (Q5.out.drew.Cancel HE.out.1.2.2.1 (by decide) 1).mono ?_; rintro e w6 ⟨v6, rfl, hp, ho⟩; skip; have Q6 := Lib.hid (show Pq p r g vb (bT D) (bq4 D a b) _ _ from hp); have C6 := Lib.hid hp.cells; clear hp ho)
    | fail)
  go_upto_region 12 with fail
  have D6 := Lib.hid Q6.out.dcells
  go_region_held3 (fun W => W.cell? ⟨p, 0, none⟩ = some (.pointer (some ⟨g, 0, none⟩)) ∧ W.cell? ⟨p, 1, none⟩ = some (.pointer (some ⟨vb, 0, none⟩)) ∧ W.cell? ⟨p, 2, none⟩ = some (.pointer (some ⟨r, 0, none⟩))) (first | exact D6.out | exact C7.out) (first
    | (go_at_call 15; refine (Q6.out.drew.Deposit HE.out.1.2.2.2.1 wb (by decide)).mono ?_; rw [show (bq4 D a b).M = [] from rfl, HE.out.2.2.2.2.1]; rintro e w7 ⟨rfl, hp⟩; have Q7 := Lib.hid (show Pq p r g vb (bT D) (bq5 D a b) _ _ from hp); have C7 := Lib.hid hp.cells; clear hp)
    | fail)
  go_upto_region 13 with fail
  have D7 := Lib.hid Q7.out.dcells
  go_region_held3 (fun W => W.cell? ⟨p, 0, none⟩ = some (.pointer (some ⟨g, 0, none⟩)) ∧ W.cell? ⟨p, 1, none⟩ = some (.pointer (some ⟨vb, 0, none⟩)) ∧ W.cell? ⟨p, 2, none⟩ = some (.pointer (some ⟨r, 0, none⟩))) (first | exact D7.out | exact C8.out) (first
    | (go_at_call 15; refine (Q7.out.drew.Deposit HE.out.1.2.2.2.2 wb (by decide)).mono ?_; rw [show (bq5 D a b).M = [] from rfl, HE.out.2.2.2.2.2.1, HE.out.2.2.2.2.2.2.1]; rintro e w8 ⟨rfl, hp⟩; have Q8 := Lib.hid (show Pq p r g vb (bT D) (bq5 D a b) _ _ from hp); have C8 := Lib.hid hp.cells; clear hp)
    | fail)
  obtain ⟨f0, f1, f2⟩ := Q8.out.cells
  obtain ⟨xx, hxx⟩ : ∃ xx, xx = refAt (bq5 D a b).R 0 := ⟨_, rfl⟩
  have HG := Lib.hid (show Calls Tryz.prog 21 #[.pointer (some ⟨r, 0, none⟩), .int .i64 0] w8 fun e w' => e = .returned (.tuple #[.agg (rfS.f xx).toArray, .bool true]) ∧ Pq p r g vb (bT D) (bq5 D a b) _ w' from by
    have := Q8.out.Get (b := 0) (by decide)
    rw [HE.out.2.2.2.2.2.2.2.1, ← hxx] at this
    exact this)
  have HXX := Lib.hid (show xx.bk = a by rw [hxx]; exact HE.out.2.2.2.2.2.2.2.2.1)
  clear hxx
  go_upto_region 17 with (first
    | (go_at_call 21; refine HG.out.mono ?_; rintro e w9 ⟨rfl, hp⟩; have Q9 := Lib.hid hp; clear hp)
    | (refine wpl_allocS (s := rfS) rfl rfl rfl ?_)
    | (refine wpl_storeS (s := rfS) (t := xx) (b := w9.heap.size) _ _ rfl rfl rfl rfl rfl (World.alloc_heap_new w9 _) (zeroS rfS) ?_; rw [newS])
    | fail)
  obtain ⟨xb, hxb⟩ : ∃ xb, xb = w9.heap.size := ⟨_, rfl⟩
  obtain ⟨W9, hW9⟩ : ∃ W9, W9 = w9.alloc (rfS.obj xx) := ⟨_, rfl⟩
  have bxx : RfBox W9 xb xx := by rw [hW9, hxb]; exact World.alloc_heap_new _ _
  have Q10 := Lib.hid (show Pq p r g vb (bT D) (bq5 D a b) _ W9 from by rw [hW9]; exact Q9.out.below ((Below.refl _ w9).alloc (Nat.le_refl _) _))
  rw [← hW9, ← hxb]
  obtain ⟨-, -, -, -, -, -, x38, -, -, -⟩ := rf_at bxx.range
  rw [HXX.out] at x38
  obtain ⟨f0, f1, f2⟩ := Q10.out.cells
  clear hW9 hxb bxx
  go_wp2_with (first
    | (go_at_call 25; with_reducible refine (Q10.out.Free a).mono ?_; rw [HE.out.2.2.2.2.2.2.2.2.2]; rintro e w' ⟨rfl, hw⟩; rw [hw]; clear hw w')
    | (go_at_call 20; refine (law12_known _).mono ?_; rintro e wk ⟨rfl, hp⟩; have QK := Lib.hid (Q10.out.below hp); clear hp)
    | fail)
  exact bodyPost_ret (v := .bool true) (by simp [results, Tryz.results10, go_sem]) rfl ⟨rfl, H4.out.trans (QK.out.old.mono H4.out.size)⟩
set_option maxRecDepth 100000 in
set_option maxHeartbeats 8000000 in
theorem referBacks_walk (D a b : Int) (w : World) (wd : (Lit.int .i64 D).wf = true) (wa : (Lit.int .i64 a).wf = true) (wb : (Lit.int .i64 b).wf = true) : Calls Tryz.prog 10 #[.int .i64 D, .int .i64 a, .int .i64 b] w fun e w' => e = .returned (.bool true) ∧ Below w.heap.size w w' := by
  by_cases hin : (0 ≤ D ∧ D ≤ 2000) ∧ (0 ≤ a ∧ a < 10) ∧ 0 ≤ b ∧ b < 10
  · obtain ⟨⟨d0, d1⟩, ⟨a0, a1⟩, b0, b1⟩ := hin
    by_cases hd : D ≤ 1000
    · exact bq_walk_lo D a b w wa wb d0 d1 a0 a1 b0 b1 hd
    · exact bq_walk_hi D a b w wa wb d0 d1 a0 a1 b0 b1 (by omega)
  · have hout : (D < 0) ∨ (¬ D < 0 ∧ D > 2000) ∨ (¬ D < 0 ∧ ¬ D > 2000 ∧ a < 0) ∨ (¬ D < 0 ∧ ¬ D > 2000 ∧ ¬ a < 0 ∧ a ≥ 10) ∨ (¬ D < 0 ∧ ¬ D > 2000 ∧ ¬ a < 0 ∧ ¬ a ≥ 10 ∧ b < 0) ∨ (¬ D < 0 ∧ ¬ D > 2000 ∧ ¬ a < 0 ∧ ¬ a ≥ 10 ∧ ¬ b < 0 ∧ b ≥ 10) := by omega
    rcases hout with h | ⟨h0, h⟩ | ⟨h0, h1, h⟩ | ⟨h0, h1, h2, h⟩ | ⟨h0, h1, h2, h3, h⟩ | ⟨h0, h1, h2, h3, h4, h⟩
    all_goals
      go_enter Tryz.func10, Tryz.ntmps10
      go_wp2
      exact bodyPost_ret (v := .bool true) (by simp [results, Tryz.results10, go_sem]) rfl ⟨rfl, Below.refl _ w⟩
end Go.Proofs.YtpkamfbjgdmmoaaGreat
