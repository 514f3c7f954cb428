/-
  The law VotingBack, walked.
-/
import Derived.Test.YtlnjcfgihklppaaGreatVba
namespace Go.Proofs.YtlnjcfgihklppaaGreat
open Go.RowKit Go.Maps Go.Shelf
set_option linter.unusedVariables false
set_option linter.unusedSimpArgs false

set_option maxRecDepth 100000 in
set_option maxHeartbeats 8000000 in
attribute [local go_sem ↓] loadSt_V_hide loadSt_W_hide loadSt_T_hide in
theorem votingBack_in (x y : Bal) (l n : Int) (w : World) (hx : balOk x = true) (hy : balOk y = true) (c3 : ¬ capB x > 1048576) (c4 : ¬ capB y > 1048576) (c5 : ¬ n < 0) (c6 : ¬ n > 1048576) (c7 : ¬ l < 0) (c8 : ¬ l > 6) : Calls Tryz.prog 5 #[.agg #[.int .i64 x.k, .bool x.aye, .int .i64 x.l, .int .i64 x.a, .int .i64 x.n, .int .i64 x.s], .agg #[.int .i64 y.k, .bool y.aye, .int .i64 y.l, .int .i64 y.a, .int .i64 y.n, .int .i64 y.s], .int .i64 l, .int .i64 n] w fun e w' => e = .returned (.bool true) ∧ Below w.heap.size w w' := by
  have HIX := Lib.hid (fun W => hx ▸ law_Is x W)
  have HIY := Lib.hid (fun W => hy ▸ law_Is y W)
  have HCX := Lib.hid (fun W => law_Cap hx W)
  have HCY := Lib.hid (fun W => law_Cap hy W)
  have HXY := Lib.hid (And.intro hx hy)
  clear hx hy
  go_enter Tryz.func5, Tryz.ntmps5
  go_upto_region 1 with fail
  obtain ⟨wb, hwb⟩ : ∃ wb, wb = (w.alloc (.cells #[.int .i64 x.k, .bool x.aye, .int .i64 x.l, .int .i64 x.a, .int .i64 x.n, .int .i64 x.s] 23)).alloc (.cells #[.int .i64 y.k, .bool y.aye, .int .i64 y.l, .int .i64 y.a, .int .i64 y.n, .int .i64 y.s] 23) := ⟨_, rfl⟩
  obtain ⟨hb0, hs0, hx0, hy0⟩ := two_boxes w x y hwb
  rw [← hwb]
  have SL := Lib.hid (show ∀ W, Below wb.heap.size wb W → (loadSt_V (.pointer (some ⟨w.heap.size, 0, none⟩))).run Tryz.prog W = .ok (.agg #[.int .i64 x.k, .bool x.aye, .int .i64 x.l, .int .i64 x.a, .int .i64 x.n, .int .i64 x.s]) W ∧ (loadSt_V (.pointer (some ⟨w.heap.size + 1, 0, none⟩))).run Tryz.prog W = .ok (.agg #[.int .i64 y.k, .bool y.aye, .int .i64 y.l, .int .i64 y.a, .int .i64 y.n, .int .i64 y.s]) W from fun W hb => ⟨run_loadS (s := balS) (rangeAt_block hx0 (hb.block _ (by omega))), run_loadS (s := balS) (rangeAt_block hy0 (hb.block _ hs0))⟩)
  have HB0 := Lib.hid (And.intro hb0 (And.intro hs0 (And.intro hx0 hy0)))
  have B0 := Lib.hid (Below.refl wb.heap.size wb)
  obtain ⟨lx0, ly0⟩ := SL.out wb B0.out
  clear hwb hb0 hs0 hx0 hy0
  go_upto_region 3 with (first
    | (go_at_call 27; with_reducible refine (HIX.out _).mono ?_; rintro e wc1 ⟨rfl, hb⟩; have B1 := Lib.hid (B0.out.trans (hb.mono B0.out.size)); obtain ⟨lx1, ly1⟩ := SL.out wc1 B1.out; clear hb)
    | (go_at_call 27; with_reducible refine (HIY.out _).mono ?_; rintro e wc2 ⟨rfl, hb⟩; have B2 := Lib.hid (B1.out.trans (hb.mono B1.out.size)); obtain ⟨lx2, ly2⟩ := SL.out wc2 B2.out; clear hb)
    | (go_at_call 28; with_reducible refine (HCX.out _).mono ?_; rintro e wc3 ⟨rfl, hb⟩; have B3 := Lib.hid (B2.out.trans (hb.mono B2.out.size)); obtain ⟨lx3, ly3⟩ := SL.out wc3 B3.out; clear hb)
    | (go_at_call 28; with_reducible refine (HCY.out _).mono ?_; rintro e wc4 ⟨rfl, hb⟩; have B4 := Lib.hid (B3.out.trans (hb.mono B3.out.size)); obtain ⟨lx4, ly4⟩ := SL.out wc4 B4.out; clear hb)
    | fail)
  obtain ⟨w1, hw1⟩ : ∃ w1, w1 = wc4.alloc (.cells #[.int .i64 0, .int .i64 1048576, .int .i64 1048576, .int .i64 1048576] 3) := ⟨_, rfl⟩
  have hrd : RdI w1 (.slice (some ⟨wc4.heap.size, 0, none⟩) 4 4) [0, 1048576, 1048576, 1048576] := by rw [hw1]; exact RdI.lit wc4 3 [0, 1048576, 1048576, 1048576] 4 rfl
  have hb1 : Below w.heap.size w w1 := by rw [hw1]; exact HB0.out.1.trans ((B4.out.alloc B4.out.size _).mono HB0.out.1.size)
  have hb1x : Below wb.heap.size wb w1 := by rw [hw1]; exact B4.out.alloc B4.out.size _
  have hbg := begin1 _ _ w1 hrd (by simp) (by intro x hx; simp at hx; omega)
  have HB := Lib.hid hbg
  have H1 := Lib.hid hb1
  have HW := Lib.hid hw1
  have HE := Lib.hid (ba_ok (x := x) (y := y) (l := l) (n := n) HXY.out.1 HXY.out.2 (by omega) (by omega) (by omega) (by omega) (by omega) (by omega))
  have HV := Lib.hid (ref_Votes n l · (by omega) (by omega) (by omega) (by omega))
  obtain ⟨hv0, hv1⟩ := votesI_bd (n := n) (l := l) (b := 1048576) (by omega) (by omega) (by omega) (by omega) (by omega)
  have HG := Lib.hid (fun W => ref_gain (x := x) HXY.out.1 (v := votesI n l) (c := n) (by omega) (by omega) W)
  obtain ⟨v, hv⟩ : ∃ v, v = votesI n l := ⟨_, rfl⟩
  rw [← hv] at HE HV HG
  obtain ⟨g0, hg0⟩ : ∃ g0, g0 = gainW x ⟨0, 0⟩ := ⟨_, rfl⟩
  obtain ⟨gw, hgw⟩ : ∃ gw, gw = gainW x ⟨v, n⟩ := ⟨_, rfl⟩
  rw [← hg0, ← hgw] at HE
  rw [← hgw] at HG
  have HX1 := Lib.hid (And.intro (rangeAt_block HB0.out.2.2.1 (hb1x.block _ (by have := HB0.out.2.1; omega))) (And.intro (rangeAt_block HB0.out.2.2.2 (hb1x.block _ HB0.out.2.1)) (Nat.lt_of_lt_of_le HB0.out.2.1 hb1x.size)))
  clear hb1x hv hg0 hgw hv0 hv1
  clear hrd hb1 hbg hw1
  go_upto_region 4 with (first
    | (go_at_call 29; rw [← HW.out]; refine HB.out.mono ?_; rintro e w2 ⟨p, g, vb, rfl, hp⟩; have Q2 := Lib.hid (Pv1.b hp); clear hp)
    | fail)
  have Q3 := Lib.hid ((Q2.out.old HX1.out.2.1 HX1.out.2.2).old HX1.out.1 (by have := HX1.out.2.2; omega))
  obtain ⟨C1_0, C1_1, -⟩ := Q3.out.cells
  go_upto_region 7 with (first
    | (go_at_call 17; refine (Q3.out.vOpen 0 0).mono ?_; rintro e w4 ⟨rfl, hp⟩; have Q4 := Lib.hid (show Pvb p g vb w1.heap.size baS1 baA [] _ w1 w4 from hp); clear hp)
    | fail)
  have hlx := Q4.out.drew.loadB (b := w.heap.size) (t := x) (by simp)
  obtain ⟨C2_0, C2_1, -⟩ := Q4.out.dcells
  go_still_tail 9, (by kernel_rfl)
  change wpList _ _ _ _ _ w4.drew
  go_upto_region 9 with (first
    | (go_at_call 19; refine (Q4.out.drew.vVote (a := 1) (r := 0) (by decide) (by decide) x).mono ?_; rw [HE.out.1.1]; rintro e w5 ⟨rfl, hp⟩; have Q5 := Lib.hid (show Pvb p g vb w1.heap.size (baS2 x) baA _ _ w1 w5 from hp); clear hp)
    | fail)
  obtain ⟨C3_0, C3_1, -⟩ := Q5.out.cells
  go_upto_region 10 with (first
    | (go_at_call 24; refine (Q5.out.vTally 0).mono ?_; rw [HE.out.2.1]; rintro e w6 ⟨rfl, hp⟩; have Q6 := Lib.hid hp; clear hp)
    | (refine wpl_allocS (s := tlyS) rfl rfl rfl ?_)
    | (refine wpl_storeS (s := tlyS) (t := g0) (b := w6.heap.size) _ _ rfl rfl rfl rfl rfl (World.alloc_heap_new w6 _) (zeroS tlyS) ?_; rw [newS])
    | fail)
  obtain ⟨w7, hw7⟩ : ∃ w7, w7 = w6.alloc (tlyS.obj g0) := ⟨_, rfl⟩
  have Q7 := Lib.hid (show Pvb p g vb w1.heap.size _ _ _ _ w1 w7 from hw7 ▸ Q6.out.tly g0)
  rw [← hw7]
  clear hw7
  have hly := Q7.out.drew.loadB (b := w.heap.size + 1) (t := y) (by simp)
  obtain ⟨C4_0, C4_1, -⟩ := Q7.out.dcells
  go_still_tail 9, (by kernel_rfl)
  change wpList _ _ _ _ _ w7.drew
  go_upto_region 11 with (first
    | (go_at_call 19; refine (Q7.out.drew.vVote (a := 2) (r := 0) (by decide) (by decide) y).mono ?_; rw [HE.out.1.2.1]; rintro e w8 ⟨rfl, hp⟩; have Q8 := Lib.hid (show Pvb p g vb w1.heap.size (baS3 x y) baA _ _ w1 w8 from hp); clear hp)
    | fail)
  obtain ⟨C5_0, C5_1, -⟩ := Q8.out.cells
  go_upto_region 12 with (first
    | (go_at_call 20; refine (Q8.out.vUnvote (a := 2) (r := 0) (by decide) (by decide) 0).mono ?_; rw [HE.out.1.2.2.1]; rintro e w9 ⟨rfl, hp⟩; have Q9 := Lib.hid (show Pvb p g vb w1.heap.size (baS4 x y) baA _ _ w1 w9 from hp); clear hp)
    | fail)
  have Q10 := Lib.hid (Q9.out.drew)
  obtain ⟨cH0, cH1, -⟩ := Q10.out.cells
  have hl1 := Q10.out.loadT (b := w6.heap.size) (t := g0) (by simp)
  go_region_held3 (fun W => W.cell? ⟨p, 1, none⟩ = some (.pointer (some ⟨vb, 0, none⟩)) ∧ (loadSt_T (.pointer (some ⟨w6.heap.size, 0, none⟩))).run Tryz.prog W = .ok (.agg #[.int .i64 g0.a, .int .i64 g0.n, .int .i64 g0.s]) W) (first | exact ⟨Q10.out.cells.2.1, Q10.out.loadT (b := w6.heap.size) (t := g0) (by simp)⟩ | exact ⟨Q11.out.cells.2.1, Q11.out.loadT (b := w6.heap.size) (t := g0) (by simp)⟩) (first
    | (go_at_call 24; refine (Q10.out.vTally 0).mono ?_; rw [HE.out.2.2.1]; rintro e w11 ⟨rfl, hp⟩; have Q11 := Lib.hid hp; clear hp)
    | fail)
  all_goals
    go_upto_region 14 with fail
    obtain ⟨C6_0, C6_1, -⟩ := Q11.out.dcells
    go_still_tail 10, (by kernel_rfl)
    change wpList _ _ _ _ _ w11.drew
    go_upto_region 15 with (first
      | (go_at_call 21; refine (Q11.out.drew.vDelegate (a := 3) (t := 0) (who := 1) (by decide) (by decide) l n).mono ?_; rw [HE.out.1.2.2.2.1]; rintro e w12 ⟨rfl, hp⟩; have Q12 := Lib.hid (show Pvb p g vb w1.heap.size (baS5 x y l n) baA _ _ w1 w12 from hp); clear hp)
      | fail)
    obtain ⟨C7_0, C7_1, -⟩ := Q12.out.cells
    go_upto_region 16 with (first
      | (go_at_call 24; refine (Q12.out.vTally 0).mono ?_; rw [HE.out.2.2.2.1]; rintro e w13 ⟨rfl, hp⟩; have Q13 := Lib.hid hp; clear hp)
      | (refine wpl_allocS (s := tlyS) rfl rfl rfl ?_)
      | (refine wpl_storeS (s := tlyS) (t := gw) (b := w13.heap.size) _ _ rfl rfl rfl rfl rfl (World.alloc_heap_new w13 _) (zeroS tlyS) ?_; rw [newS])
      | fail)
    obtain ⟨w14, hw14⟩ : ∃ w14, w14 = w13.alloc (tlyS.obj gw) := ⟨_, rfl⟩
    have Q14 := Lib.hid (show Pvb p g vb w1.heap.size _ _ _ _ w1 w14 from hw14 ▸ Q13.out.tly gw)
    rw [← hw14]
    clear hw14
    go_upto_region 17 with (first
      | (go_at_call 31; refine (HV.out _).mono ?_; rintro e w' ⟨rfl, rfl⟩)
      | (refine wpl_allocS (s := wgtS) rfl rfl rfl ?_)
      | (refine wpl_storeS (s := wgtS) (t := ⟨v, n⟩) (b := w14.heap.size) _ _ rfl rfl rfl rfl rfl (World.alloc_heap_new w14 _) (zeroS wgtS) ?_; rw [newS])
      | fail)
    obtain ⟨w15, hw15⟩ : ∃ w15, w15 = w14.alloc (wgtS.obj ⟨v, n⟩) := ⟨_, rfl⟩
    have Q15 := Lib.hid (show Pvb p g vb w1.heap.size _ _ _ _ w1 w15 from hw15 ▸ Q14.out.bal' ⟨v, n⟩)
    rw [← hw15]
    clear hw15
    obtain ⟨C8_0, C8_1, -⟩ := Q15.out.cells
    go_upto_region 18 with (first
      | (go_at_call 22; refine (Q15.out.vUndelegate (a := 3) (t := 0) (by decide) (by decide) 0).mono ?_; rw [HE.out.1.2.2.2.2]; rintro e w16 ⟨rfl, hp⟩; have Q16 := Lib.hid (show Pvb p g vb w1.heap.size (baS6 x y l n) baA _ _ w1 w16 from hp); clear hp)
      | fail)
    have Q17 := Lib.hid (Q16.out.drew)
    obtain ⟨cI0, cI1, -⟩ := Q17.out.cells
    have hk1 := Q17.out.loadT (b := w13.heap.size) (t := gw) (by simp)
    have hk2 := Q17.out.loadB (b := w.heap.size) (t := x) (by simp)
    have hk3 := Q17.out.loadW (b := w14.heap.size) (t := ⟨v, n⟩) (by simp)
    have hk4 := Q17.out.loadT (b := w6.heap.size) (t := g0) (by simp)
    go_region_held3 (fun W => W.cell? ⟨p, 1, none⟩ = some (.pointer (some ⟨vb, 0, none⟩)) ∧ (loadSt_T (.pointer (some ⟨w13.heap.size, 0, none⟩))).run Tryz.prog W = .ok (.agg #[.int .i64 gw.a, .int .i64 gw.n, .int .i64 gw.s]) W ∧ (loadSt_V (.pointer (some ⟨w.heap.size, 0, none⟩))).run Tryz.prog W = .ok (.agg #[.int .i64 x.k, .bool x.aye, .int .i64 x.l, .int .i64 x.a, .int .i64 x.n, .int .i64 x.s]) W ∧ (loadSt_W (.pointer (some ⟨w14.heap.size, 0, none⟩))).run Tryz.prog W = .ok (.agg #[.int .i64 v, .int .i64 n]) W ∧ (loadSt_T (.pointer (some ⟨w6.heap.size, 0, none⟩))).run Tryz.prog W = .ok (.agg #[.int .i64 g0.a, .int .i64 g0.n, .int .i64 g0.s]) W) (first | exact ⟨Q17.out.cells.2.1, Q17.out.loadT (b := w13.heap.size) (t := gw) (by simp), Q17.out.loadB (b := w.heap.size) (t := x) (by simp), Q17.out.loadW (b := w14.heap.size) (t := ⟨v, n⟩) (by simp), Q17.out.loadT (b := w6.heap.size) (t := g0) (by simp)⟩ | exact ⟨Q18.out.cells.2.1, Q18.out.loadT (b := w13.heap.size) (t := gw) (by simp), Q18.out.loadB (b := w.heap.size) (t := x) (by simp), Q18.out.loadW (b := w14.heap.size) (t := ⟨v, n⟩) (by simp), Q18.out.loadT (b := w6.heap.size) (t := g0) (by simp)⟩ | exact ⟨Q19.out.cells.2.1, Q19.out.loadT (b := w13.heap.size) (t := gw) (by simp), Q19.out.loadB (b := w.heap.size) (t := x) (by simp), Q19.out.loadW (b := w14.heap.size) (t := ⟨v, n⟩) (by simp), Q19.out.loadT (b := w6.heap.size) (t := g0) (by simp)⟩ | exact ⟨Q20.out.cells.2.1, Q20.out.loadT (b := w13.heap.size) (t := gw) (by simp), Q20.out.loadB (b := w.heap.size) (t := x) (by simp), Q20.out.loadW (b := w14.heap.size) (t := ⟨v, n⟩) (by simp), Q20.out.loadT (b := w6.heap.size) (t := g0) (by simp)⟩ | exact ⟨Q21.out.cells.2.1, Q21.out.loadT (b := w13.heap.size) (t := gw) (by simp), Q21.out.loadB (b := w.heap.size) (t := x) (by simp), Q21.out.loadW (b := w14.heap.size) (t := ⟨v, n⟩) (by simp), Q21.out.loadT (b := w6.heap.size) (t := g0) (by simp)⟩) (first
      | (go_at_call 32; refine (HG.out _).mono ?_; rintro e w18 ⟨rfl, hb⟩; have Q18 := Lib.hid (Q17.out.below hb); clear hb)
      | (go_at_call 24; refine (Q18.out.vTally 0).mono ?_; rw [HE.out.2.2.2.2.1]; rintro e w19 ⟨rfl, hp⟩; have Q19 := Lib.hid hp; clear hp)
      | (go_at_call 25; refine (Q19.out.vGot (a := 1) (b := 0) (by decide) (by decide)).mono ?_; rw [HE.out.2.2.2.2.2]; rintro e w20 ⟨rfl, hp⟩; have Q20 := Lib.hid hp; clear hp)
      | (go_at_call 26; refine (law11_known _).mono ?_; rintro e w21 ⟨rfl, hp⟩; have Q21 := Lib.hid (Q20.out.below hp); clear hp)
      | fail)
    all_goals
      go_wp2_with fail
      exact bodyPost_ret (v := .bool true) (by simp [results, Tryz.results5, go_sem]) rfl ⟨rfl, H1.out.trans (Q21.out.bl.mono H1.out.size)⟩
set_option maxRecDepth 100000 in
set_option maxHeartbeats 8000000 in
attribute [local go_sem ↓] loadSt_V_hide loadSt_W_hide loadSt_T_hide in
theorem back_o1 (x y : Bal) (l n : Int) (w : World) (hx : balOk x = false) : Calls Tryz.prog 5 #[.agg #[.int .i64 x.k, .bool x.aye, .int .i64 x.l, .int .i64 x.a, .int .i64 x.n, .int .i64 x.s], .agg #[.int .i64 y.k, .bool y.aye, .int .i64 y.l, .int .i64 y.a, .int .i64 y.n, .int .i64 y.s], .int .i64 l, .int .i64 n] w fun e w' => e = .returned (.bool true) ∧ Below w.heap.size w w' := by
  have HIX := Lib.hid (fun W => hx ▸ law_Is x W)
  have HIY := HIX
  have HCX := HIX
  have HCY := HIX
  clear hx
  go_enter Tryz.func5, Tryz.ntmps5
  go_upto_region 1 with fail
  obtain ⟨wb, hwb⟩ : ∃ wb, wb = (w.alloc (.cells #[.int .i64 x.k, .bool x.aye, .int .i64 x.l, .int .i64 x.a, .int .i64 x.n, .int .i64 x.s] 23)).alloc (.cells #[.int .i64 y.k, .bool y.aye, .int .i64 y.l, .int .i64 y.a, .int .i64 y.n, .int .i64 y.s] 23) := ⟨_, rfl⟩
  obtain ⟨hb0, hs0, hx0, hy0⟩ := two_boxes w x y hwb
  rw [← hwb]
  have SL := Lib.hid (show ∀ W, Below wb.heap.size wb W → (loadSt_V (.pointer (some ⟨w.heap.size, 0, none⟩))).run Tryz.prog W = .ok (.agg #[.int .i64 x.k, .bool x.aye, .int .i64 x.l, .int .i64 x.a, .int .i64 x.n, .int .i64 x.s]) W ∧ (loadSt_V (.pointer (some ⟨w.heap.size + 1, 0, none⟩))).run Tryz.prog W = .ok (.agg #[.int .i64 y.k, .bool y.aye, .int .i64 y.l, .int .i64 y.a, .int .i64 y.n, .int .i64 y.s]) W from fun W hb => ⟨run_loadS (s := balS) (rangeAt_block hx0 (hb.block _ (by omega))), run_loadS (s := balS) (rangeAt_block hy0 (hb.block _ hs0))⟩)
  have HB0 := Lib.hid (And.intro hb0 (And.intro hs0 (And.intro hx0 hy0)))
  have B0 := Lib.hid (Below.refl wb.heap.size wb)
  obtain ⟨lx0, ly0⟩ := SL.out wb B0.out
  clear hwb hb0 hs0 hx0 hy0
  go_wp2_with (first
    | (go_at_call 27; with_reducible refine (HIX.out _).mono ?_; rintro e wc1 ⟨rfl, hb⟩; have B1 := Lib.hid (B0.out.trans (hb.mono B0.out.size)); obtain ⟨lx1, ly1⟩ := SL.out wc1 B1.out; clear hb)
    | (go_at_call 27; with_reducible refine (HIY.out _).mono ?_; rintro e wc2 ⟨rfl, hb⟩; have B2 := Lib.hid (B1.out.trans (hb.mono B1.out.size)); obtain ⟨lx2, ly2⟩ := SL.out wc2 B2.out; clear hb)
    | (go_at_call 28; with_reducible refine (HCX.out _).mono ?_; rintro e wc3 ⟨rfl, hb⟩; have B3 := Lib.hid (B2.out.trans (hb.mono B2.out.size)); obtain ⟨lx3, ly3⟩ := SL.out wc3 B3.out; clear hb)
    | (go_at_call 28; with_reducible refine (HCY.out _).mono ?_; rintro e wc4 ⟨rfl, hb⟩; have B4 := Lib.hid (B3.out.trans (hb.mono B3.out.size)); obtain ⟨lx4, ly4⟩ := SL.out wc4 B4.out; clear hb)
    | fail)
  exact bodyPost_ret (v := .bool true) (by simp [results, Tryz.results5, go_sem]) rfl ⟨rfl, HB0.out.1.trans (B1.out.mono HB0.out.1.size)⟩
set_option maxRecDepth 100000 in
set_option maxHeartbeats 8000000 in
attribute [local go_sem ↓] loadSt_V_hide loadSt_W_hide loadSt_T_hide in
theorem back_o2 (x y : Bal) (l n : Int) (w : World) (hx : balOk x = true) (hy : balOk y = false) : Calls Tryz.prog 5 #[.agg #[.int .i64 x.k, .bool x.aye, .int .i64 x.l, .int .i64 x.a, .int .i64 x.n, .int .i64 x.s], .agg #[.int .i64 y.k, .bool y.aye, .int .i64 y.l, .int .i64 y.a, .int .i64 y.n, .int .i64 y.s], .int .i64 l, .int .i64 n] w fun e w' => e = .returned (.bool true) ∧ Below w.heap.size w w' := by
  have HIX := Lib.hid (fun W => hx ▸ law_Is x W)
  have HIY := Lib.hid (fun W => hy ▸ law_Is y W)
  have HCX := HIX
  have HCY := HIX
  clear hx hy
  go_enter Tryz.func5, Tryz.ntmps5
  go_upto_region 1 with fail
  obtain ⟨wb, hwb⟩ : ∃ wb, wb = (w.alloc (.cells #[.int .i64 x.k, .bool x.aye, .int .i64 x.l, .int .i64 x.a, .int .i64 x.n, .int .i64 x.s] 23)).alloc (.cells #[.int .i64 y.k, .bool y.aye, .int .i64 y.l, .int .i64 y.a, .int .i64 y.n, .int .i64 y.s] 23) := ⟨_, rfl⟩
  obtain ⟨hb0, hs0, hx0, hy0⟩ := two_boxes w x y hwb
  rw [← hwb]
  have SL := Lib.hid (show ∀ W, Below wb.heap.size wb W → (loadSt_V (.pointer (some ⟨w.heap.size, 0, none⟩))).run Tryz.prog W = .ok (.agg #[.int .i64 x.k, .bool x.aye, .int .i64 x.l, .int .i64 x.a, .int .i64 x.n, .int .i64 x.s]) W ∧ (loadSt_V (.pointer (some ⟨w.heap.size + 1, 0, none⟩))).run Tryz.prog W = .ok (.agg #[.int .i64 y.k, .bool y.aye, .int .i64 y.l, .int .i64 y.a, .int .i64 y.n, .int .i64 y.s]) W from fun W hb => ⟨run_loadS (s := balS) (rangeAt_block hx0 (hb.block _ (by omega))), run_loadS (s := balS) (rangeAt_block hy0 (hb.block _ hs0))⟩)
  have HB0 := Lib.hid (And.intro hb0 (And.intro hs0 (And.intro hx0 hy0)))
  have B0 := Lib.hid (Below.refl wb.heap.size wb)
  obtain ⟨lx0, ly0⟩ := SL.out wb B0.out
  clear hwb hb0 hs0 hx0 hy0
  go_wp2_with (first
    | (go_at_call 27; with_reducible refine (HIX.out _).mono ?_; rintro e wc1 ⟨rfl, hb⟩; have B1 := Lib.hid (B0.out.trans (hb.mono B0.out.size)); obtain ⟨lx1, ly1⟩ := SL.out wc1 B1.out; clear hb)
    | (go_at_call 27; with_reducible refine (HIY.out _).mono ?_; rintro e wc2 ⟨rfl, hb⟩; have B2 := Lib.hid (B1.out.trans (hb.mono B1.out.size)); obtain ⟨lx2, ly2⟩ := SL.out wc2 B2.out; clear hb)
    | (go_at_call 28; with_reducible refine (HCX.out _).mono ?_; rintro e wc3 ⟨rfl, hb⟩; have B3 := Lib.hid (B2.out.trans (hb.mono B2.out.size)); obtain ⟨lx3, ly3⟩ := SL.out wc3 B3.out; clear hb)
    | (go_at_call 28; with_reducible refine (HCY.out _).mono ?_; rintro e wc4 ⟨rfl, hb⟩; have B4 := Lib.hid (B3.out.trans (hb.mono B3.out.size)); obtain ⟨lx4, ly4⟩ := SL.out wc4 B4.out; clear hb)
    | fail)
  exact bodyPost_ret (v := .bool true) (by simp [results, Tryz.results5, go_sem]) rfl ⟨rfl, HB0.out.1.trans (B2.out.mono HB0.out.1.size)⟩
set_option maxRecDepth 100000 in
set_option maxHeartbeats 8000000 in
attribute [local go_sem ↓] loadSt_V_hide loadSt_W_hide loadSt_T_hide in
theorem back_o3 (x y : Bal) (l n : Int) (w : World) (hx : balOk x = true) (hy : balOk y = true)  (hc : capB x > 1048576) : Calls Tryz.prog 5 #[.agg #[.int .i64 x.k, .bool x.aye, .int .i64 x.l, .int .i64 x.a, .int .i64 x.n, .int .i64 x.s], .agg #[.int .i64 y.k, .bool y.aye, .int .i64 y.l, .int .i64 y.a, .int .i64 y.n, .int .i64 y.s], .int .i64 l, .int .i64 n] w fun e w' => e = .returned (.bool true) ∧ Below w.heap.size w w' := by
  have HIX := Lib.hid (fun W => hx ▸ law_Is x W)
  have HIY := Lib.hid (fun W => hy ▸ law_Is y W)
  have HCX := Lib.hid (fun W => law_Cap hx W)
  have HCY := Lib.hid (fun W => law_Cap hy W)
  clear hx hy
  go_enter Tryz.func5, Tryz.ntmps5
  go_upto_region 1 with fail
  obtain ⟨wb, hwb⟩ : ∃ wb, wb = (w.alloc (.cells #[.int .i64 x.k, .bool x.aye, .int .i64 x.l, .int .i64 x.a, .int .i64 x.n, .int .i64 x.s] 23)).alloc (.cells #[.int .i64 y.k, .bool y.aye, .int .i64 y.l, .int .i64 y.a, .int .i64 y.n, .int .i64 y.s] 23) := ⟨_, rfl⟩
  obtain ⟨hb0, hs0, hx0, hy0⟩ := two_boxes w x y hwb
  rw [← hwb]
  have SL := Lib.hid (show ∀ W, Below wb.heap.size wb W → (loadSt_V (.pointer (some ⟨w.heap.size, 0, none⟩))).run Tryz.prog W = .ok (.agg #[.int .i64 x.k, .bool x.aye, .int .i64 x.l, .int .i64 x.a, .int .i64 x.n, .int .i64 x.s]) W ∧ (loadSt_V (.pointer (some ⟨w.heap.size + 1, 0, none⟩))).run Tryz.prog W = .ok (.agg #[.int .i64 y.k, .bool y.aye, .int .i64 y.l, .int .i64 y.a, .int .i64 y.n, .int .i64 y.s]) W from fun W hb => ⟨run_loadS (s := balS) (rangeAt_block hx0 (hb.block _ (by omega))), run_loadS (s := balS) (rangeAt_block hy0 (hb.block _ hs0))⟩)
  have HB0 := Lib.hid (And.intro hb0 (And.intro hs0 (And.intro hx0 hy0)))
  have B0 := Lib.hid (Below.refl wb.heap.size wb)
  obtain ⟨lx0, ly0⟩ := SL.out wb B0.out
  clear hwb hb0 hs0 hx0 hy0
  go_wp2_with (first
    | (go_at_call 27; with_reducible refine (HIX.out _).mono ?_; rintro e wc1 ⟨rfl, hb⟩; have B1 := Lib.hid (B0.out.trans (hb.mono B0.out.size)); obtain ⟨lx1, ly1⟩ := SL.out wc1 B1.out; clear hb)
    | (go_at_call 27; with_reducible refine (HIY.out _).mono ?_; rintro e wc2 ⟨rfl, hb⟩; have B2 := Lib.hid (B1.out.trans (hb.mono B1.out.size)); obtain ⟨lx2, ly2⟩ := SL.out wc2 B2.out; clear hb)
    | (go_at_call 28; with_reducible refine (HCX.out _).mono ?_; rintro e wc3 ⟨rfl, hb⟩; have B3 := Lib.hid (B2.out.trans (hb.mono B2.out.size)); obtain ⟨lx3, ly3⟩ := SL.out wc3 B3.out; clear hb)
    | (go_at_call 28; with_reducible refine (HCY.out _).mono ?_; rintro e wc4 ⟨rfl, hb⟩; have B4 := Lib.hid (B3.out.trans (hb.mono B3.out.size)); obtain ⟨lx4, ly4⟩ := SL.out wc4 B4.out; clear hb)
    | fail)
  exact bodyPost_ret (v := .bool true) (by simp [results, Tryz.results5, go_sem]) rfl ⟨rfl, HB0.out.1.trans (B3.out.mono HB0.out.1.size)⟩
set_option maxRecDepth 100000 in
set_option maxHeartbeats 8000000 in
attribute [local go_sem ↓] loadSt_V_hide loadSt_W_hide loadSt_T_hide in
theorem back_o4 (x y : Bal) (l n : Int) (w : World) (hx : balOk x = true) (hy : balOk y = true) (c3 : ¬ capB x > 1048576) (hc : capB y > 1048576) : Calls Tryz.prog 5 #[.agg #[.int .i64 x.k, .bool x.aye, .int .i64 x.l, .int .i64 x.a, .int .i64 x.n, .int .i64 x.s], .agg #[.int .i64 y.k, .bool y.aye, .int .i64 y.l, .int .i64 y.a, .int .i64 y.n, .int .i64 y.s], .int .i64 l, .int .i64 n] w fun e w' => e = .returned (.bool true) ∧ Below w.heap.size w w' := by
  have HIX := Lib.hid (fun W => hx ▸ law_Is x W)
  have HIY := Lib.hid (fun W => hy ▸ law_Is y W)
  have HCX := Lib.hid (fun W => law_Cap hx W)
  have HCY := Lib.hid (fun W => law_Cap hy W)
  clear hx hy
  go_enter Tryz.func5, Tryz.ntmps5
  go_upto_region 1 with fail
  obtain ⟨wb, hwb⟩ : ∃ wb, wb = (w.alloc (.cells #[.int .i64 x.k, .bool x.aye, .int .i64 x.l, .int .i64 x.a, .int .i64 x.n, .int .i64 x.s] 23)).alloc (.cells #[.int .i64 y.k, .bool y.aye, .int .i64 y.l, .int .i64 y.a, .int .i64 y.n, .int .i64 y.s] 23) := ⟨_, rfl⟩
  obtain ⟨hb0, hs0, hx0, hy0⟩ := two_boxes w x y hwb
  rw [← hwb]
  have SL := Lib.hid (show ∀ W, Below wb.heap.size wb W → (loadSt_V (.pointer (some ⟨w.heap.size, 0, none⟩))).run Tryz.prog W = .ok (.agg #[.int .i64 x.k, .bool x.aye, .int .i64 x.l, .int .i64 x.a, .int .i64 x.n, .int .i64 x.s]) W ∧ (loadSt_V (.pointer (some ⟨w.heap.size + 1, 0, none⟩))).run Tryz.prog W = .ok (.agg #[.int .i64 y.k, .bool y.aye, .int .i64 y.l, .int .i64 y.a, .int .i64 y.n, .int .i64 y.s]) W from fun W hb => ⟨run_loadS (s := balS) (rangeAt_block hx0 (hb.block _ (by omega))), run_loadS (s := balS) (rangeAt_block hy0 (hb.block _ hs0))⟩)
  have HB0 := Lib.hid (And.intro hb0 (And.intro hs0 (And.intro hx0 hy0)))
  have B0 := Lib.hid (Below.refl wb.heap.size wb)
  obtain ⟨lx0, ly0⟩ := SL.out wb B0.out
  clear hwb hb0 hs0 hx0 hy0
  go_wp2_with (first
    | (go_at_call 27; with_reducible refine (HIX.out _).mono ?_; rintro e wc1 ⟨rfl, hb⟩; have B1 := Lib.hid (B0.out.trans (hb.mono B0.out.size)); obtain ⟨lx1, ly1⟩ := SL.out wc1 B1.out; clear hb)
    | (go_at_call 27; with_reducible refine (HIY.out _).mono ?_; rintro e wc2 ⟨rfl, hb⟩; have B2 := Lib.hid (B1.out.trans (hb.mono B1.out.size)); obtain ⟨lx2, ly2⟩ := SL.out wc2 B2.out; clear hb)
    | (go_at_call 28; with_reducible refine (HCX.out _).mono ?_; rintro e wc3 ⟨rfl, hb⟩; have B3 := Lib.hid (B2.out.trans (hb.mono B2.out.size)); obtain ⟨lx3, ly3⟩ := SL.out wc3 B3.out; clear hb)
    | (go_at_call 28; with_reducible refine (HCY.out _).mono ?_; rintro e wc4 ⟨rfl, hb⟩; have B4 := Lib.hid (B3.out.trans (hb.mono B3.out.size)); obtain ⟨lx4, ly4⟩ := SL.out wc4 B4.out; clear hb)
    | fail)
  exact bodyPost_ret (v := .bool true) (by simp [results, Tryz.results5, go_sem]) rfl ⟨rfl, HB0.out.1.trans (B4.out.mono HB0.out.1.size)⟩
set_option maxRecDepth 100000 in
set_option maxHeartbeats 8000000 in
attribute [local go_sem ↓] loadSt_V_hide loadSt_W_hide loadSt_T_hide in
theorem back_o5 (x y : Bal) (l n : Int) (w : World) (hx : balOk x = true) (hy : balOk y = true) (c3 : ¬ capB x > 1048576) (c4 : ¬ capB y > 1048576) (hc : n < 0) : Calls Tryz.prog 5 #[.agg #[.int .i64 x.k, .bool x.aye, .int .i64 x.l, .int .i64 x.a, .int .i64 x.n, .int .i64 x.s], .agg #[.int .i64 y.k, .bool y.aye, .int .i64 y.l, .int .i64 y.a, .int .i64 y.n, .int .i64 y.s], .int .i64 l, .int .i64 n] w fun e w' => e = .returned (.bool true) ∧ Below w.heap.size w w' := by
  have HIX := Lib.hid (fun W => hx ▸ law_Is x W)
  have HIY := Lib.hid (fun W => hy ▸ law_Is y W)
  have HCX := Lib.hid (fun W => law_Cap hx W)
  have HCY := Lib.hid (fun W => law_Cap hy W)
  clear hx hy
  go_enter Tryz.func5, Tryz.ntmps5
  go_upto_region 1 with fail
  obtain ⟨wb, hwb⟩ : ∃ wb, wb = (w.alloc (.cells #[.int .i64 x.k, .bool x.aye, .int .i64 x.l, .int .i64 x.a, .int .i64 x.n, .int .i64 x.s] 23)).alloc (.cells #[.int .i64 y.k, .bool y.aye, .int .i64 y.l, .int .i64 y.a, .int .i64 y.n, .int .i64 y.s] 23) := ⟨_, rfl⟩
  obtain ⟨hb0, hs0, hx0, hy0⟩ := two_boxes w x y hwb
  rw [← hwb]
  have SL := Lib.hid (show ∀ W, Below wb.heap.size wb W → (loadSt_V (.pointer (some ⟨w.heap.size, 0, none⟩))).run Tryz.prog W = .ok (.agg #[.int .i64 x.k, .bool x.aye, .int .i64 x.l, .int .i64 x.a, .int .i64 x.n, .int .i64 x.s]) W ∧ (loadSt_V (.pointer (some ⟨w.heap.size + 1, 0, none⟩))).run Tryz.prog W = .ok (.agg #[.int .i64 y.k, .bool y.aye, .int .i64 y.l, .int .i64 y.a, .int .i64 y.n, .int .i64 y.s]) W from fun W hb => ⟨run_loadS (s := balS) (rangeAt_block hx0 (hb.block _ (by omega))), run_loadS (s := balS) (rangeAt_block hy0 (hb.block _ hs0))⟩)
  have HB0 := Lib.hid (And.intro hb0 (And.intro hs0 (And.intro hx0 hy0)))
  have B0 := Lib.hid (Below.refl wb.heap.size wb)
  obtain ⟨lx0, ly0⟩ := SL.out wb B0.out
  clear hwb hb0 hs0 hx0 hy0
  go_wp2_with (first
    | (go_at_call 27; with_reducible refine (HIX.out _).mono ?_; rintro e wc1 ⟨rfl, hb⟩; have B1 := Lib.hid (B0.out.trans (hb.mono B0.out.size)); obtain ⟨lx1, ly1⟩ := SL.out wc1 B1.out; clear hb)
    | (go_at_call 27; with_reducible refine (HIY.out _).mono ?_; rintro e wc2 ⟨rfl, hb⟩; have B2 := Lib.hid (B1.out.trans (hb.mono B1.out.size)); obtain ⟨lx2, ly2⟩ := SL.out wc2 B2.out; clear hb)
    | (go_at_call 28; with_reducible refine (HCX.out _).mono ?_; rintro e wc3 ⟨rfl, hb⟩; have B3 := Lib.hid (B2.out.trans (hb.mono B2.out.size)); obtain ⟨lx3, ly3⟩ := SL.out wc3 B3.out; clear hb)
    | (go_at_call 28; with_reducible refine (HCY.out _).mono ?_; rintro e wc4 ⟨rfl, hb⟩; have B4 := Lib.hid (B3.out.trans (hb.mono B3.out.size)); obtain ⟨lx4, ly4⟩ := SL.out wc4 B4.out; clear hb)
    | fail)
  exact bodyPost_ret (v := .bool true) (by simp [results, Tryz.results5, go_sem]) rfl ⟨rfl, HB0.out.1.trans (B4.out.mono HB0.out.1.size)⟩
set_option maxRecDepth 100000 in
set_option maxHeartbeats 8000000 in
attribute [local go_sem ↓] loadSt_V_hide loadSt_W_hide loadSt_T_hide in
theorem back_o6 (x y : Bal) (l n : Int) (w : World) (hx : balOk x = true) (hy : balOk y = true) (c3 : ¬ capB x > 1048576) (c4 : ¬ capB y > 1048576) (c5 : ¬ n < 0) (hc : n > 1048576) : Calls Tryz.prog 5 #[.agg #[.int .i64 x.k, .bool x.aye, .int .i64 x.l, .int .i64 x.a, .int .i64 x.n, .int .i64 x.s], .agg #[.int .i64 y.k, .bool y.aye, .int .i64 y.l, .int .i64 y.a, .int .i64 y.n, .int .i64 y.s], .int .i64 l, .int .i64 n] w fun e w' => e = .returned (.bool true) ∧ Below w.heap.size w w' := by
  have HIX := Lib.hid (fun W => hx ▸ law_Is x W)
  have HIY := Lib.hid (fun W => hy ▸ law_Is y W)
  have HCX := Lib.hid (fun W => law_Cap hx W)
  have HCY := Lib.hid (fun W => law_Cap hy W)
  clear hx hy
  go_enter Tryz.func5, Tryz.ntmps5
  go_upto_region 1 with fail
  obtain ⟨wb, hwb⟩ : ∃ wb, wb = (w.alloc (.cells #[.int .i64 x.k, .bool x.aye, .int .i64 x.l, .int .i64 x.a, .int .i64 x.n, .int .i64 x.s] 23)).alloc (.cells #[.int .i64 y.k, .bool y.aye, .int .i64 y.l, .int .i64 y.a, .int .i64 y.n, .int .i64 y.s] 23) := ⟨_, rfl⟩
  obtain ⟨hb0, hs0, hx0, hy0⟩ := two_boxes w x y hwb
  rw [← hwb]
  have SL := Lib.hid (show ∀ W, Below wb.heap.size wb W → (loadSt_V (.pointer (some ⟨w.heap.size, 0, none⟩))).run Tryz.prog W = .ok (.agg #[.int .i64 x.k, .bool x.aye, .int .i64 x.l, .int .i64 x.a, .int .i64 x.n, .int .i64 x.s]) W ∧ (loadSt_V (.pointer (some ⟨w.heap.size + 1, 0, none⟩))).run Tryz.prog W = .ok (.agg #[.int .i64 y.k, .bool y.aye, .int .i64 y.l, .int .i64 y.a, .int .i64 y.n, .int .i64 y.s]) W from fun W hb => ⟨run_loadS (s := balS) (rangeAt_block hx0 (hb.block _ (by omega))), run_loadS (s := balS) (rangeAt_block hy0 (hb.block _ hs0))⟩)
  have HB0 := Lib.hid (And.intro hb0 (And.intro hs0 (And.intro hx0 hy0)))
  have B0 := Lib.hid (Below.refl wb.heap.size wb)
  obtain ⟨lx0, ly0⟩ := SL.out wb B0.out
  clear hwb hb0 hs0 hx0 hy0
  go_wp2_with (first
    | (go_at_call 27; with_reducible refine (HIX.out _).mono ?_; rintro e wc1 ⟨rfl, hb⟩; have B1 := Lib.hid (B0.out.trans (hb.mono B0.out.size)); obtain ⟨lx1, ly1⟩ := SL.out wc1 B1.out; clear hb)
    | (go_at_call 27; with_reducible refine (HIY.out _).mono ?_; rintro e wc2 ⟨rfl, hb⟩; have B2 := Lib.hid (B1.out.trans (hb.mono B1.out.size)); obtain ⟨lx2, ly2⟩ := SL.out wc2 B2.out; clear hb)
    | (go_at_call 28; with_reducible refine (HCX.out _).mono ?_; rintro e wc3 ⟨rfl, hb⟩; have B3 := Lib.hid (B2.out.trans (hb.mono B2.out.size)); obtain ⟨lx3, ly3⟩ := SL.out wc3 B3.out; clear hb)
    | (go_at_call 28; with_reducible refine (HCY.out _).mono ?_; rintro e wc4 ⟨rfl, hb⟩; have B4 := Lib.hid (B3.out.trans (hb.mono B3.out.size)); obtain ⟨lx4, ly4⟩ := SL.out wc4 B4.out; clear hb)
    | fail)
  exact bodyPost_ret (v := .bool true) (by simp [results, Tryz.results5, go_sem]) rfl ⟨rfl, HB0.out.1.trans (B4.out.mono HB0.out.1.size)⟩
set_option maxRecDepth 100000 in
set_option maxHeartbeats 8000000 in
attribute [local go_sem ↓] loadSt_V_hide loadSt_W_hide loadSt_T_hide in
theorem back_o7 (x y : Bal) (l n : Int) (w : World) (hx : balOk x = true) (hy : balOk y = true) (c3 : ¬ capB x > 1048576) (c4 : ¬ capB y > 1048576) (c5 : ¬ n < 0) (c6 : ¬ n > 1048576) (hc : l < 0) : Calls Tryz.prog 5 #[.agg #[.int .i64 x.k, .bool x.aye, .int .i64 x.l, .int .i64 x.a, .int .i64 x.n, .int .i64 x.s], .agg #[.int .i64 y.k, .bool y.aye, .int .i64 y.l, .int .i64 y.a, .int .i64 y.n, .int .i64 y.s], .int .i64 l, .int .i64 n] w fun e w' => e = .returned (.bool true) ∧ Below w.heap.size w w' := by
  have HIX := Lib.hid (fun W => hx ▸ law_Is x W)
  have HIY := Lib.hid (fun W => hy ▸ law_Is y W)
  have HCX := Lib.hid (fun W => law_Cap hx W)
  have HCY := Lib.hid (fun W => law_Cap hy W)
  clear hx hy
  go_enter Tryz.func5, Tryz.ntmps5
  go_upto_region 1 with fail
  obtain ⟨wb, hwb⟩ : ∃ wb, wb = (w.alloc (.cells #[.int .i64 x.k, .bool x.aye, .int .i64 x.l, .int .i64 x.a, .int .i64 x.n, .int .i64 x.s] 23)).alloc (.cells #[.int .i64 y.k, .bool y.aye, .int .i64 y.l, .int .i64 y.a, .int .i64 y.n, .int .i64 y.s] 23) := ⟨_, rfl⟩
  obtain ⟨hb0, hs0, hx0, hy0⟩ := two_boxes w x y hwb
  rw [← hwb]
  have SL := Lib.hid (show ∀ W, Below wb.heap.size wb W → (loadSt_V (.pointer (some ⟨w.heap.size, 0, none⟩))).run Tryz.prog W = .ok (.agg #[.int .i64 x.k, .bool x.aye, .int .i64 x.l, .int .i64 x.a, .int .i64 x.n, .int .i64 x.s]) W ∧ (loadSt_V (.pointer (some ⟨w.heap.size + 1, 0, none⟩))).run Tryz.prog W = .ok (.agg #[.int .i64 y.k, .bool y.aye, .int .i64 y.l, .int .i64 y.a, .int .i64 y.n, .int .i64 y.s]) W from fun W hb => ⟨run_loadS (s := balS) (rangeAt_block hx0 (hb.block _ (by omega))), run_loadS (s := balS) (rangeAt_block hy0 (hb.block _ hs0))⟩)
  have HB0 := Lib.hid (And.intro hb0 (And.intro hs0 (And.intro hx0 hy0)))
  have B0 := Lib.hid (Below.refl wb.heap.size wb)
  obtain ⟨lx0, ly0⟩ := SL.out wb B0.out
  clear hwb hb0 hs0 hx0 hy0
  go_wp2_with (first
    | (go_at_call 27; with_reducible refine (HIX.out _).mono ?_; rintro e wc1 ⟨rfl, hb⟩; have B1 := Lib.hid (B0.out.trans (hb.mono B0.out.size)); obtain ⟨lx1, ly1⟩ := SL.out wc1 B1.out; clear hb)
    | (go_at_call 27; with_reducible refine (HIY.out _).mono ?_; rintro e wc2 ⟨rfl, hb⟩; have B2 := Lib.hid (B1.out.trans (hb.mono B1.out.size)); obtain ⟨lx2, ly2⟩ := SL.out wc2 B2.out; clear hb)
    | (go_at_call 28; with_reducible refine (HCX.out _).mono ?_; rintro e wc3 ⟨rfl, hb⟩; have B3 := Lib.hid (B2.out.trans (hb.mono B2.out.size)); obtain ⟨lx3, ly3⟩ := SL.out wc3 B3.out; clear hb)
    | (go_at_call 28; with_reducible refine (HCY.out _).mono ?_; rintro e wc4 ⟨rfl, hb⟩; have B4 := Lib.hid (B3.out.trans (hb.mono B3.out.size)); obtain ⟨lx4, ly4⟩ := SL.out wc4 B4.out; clear hb)
    | fail)
  exact bodyPost_ret (v := .bool true) (by simp [results, Tryz.results5, go_sem]) rfl ⟨rfl, HB0.out.1.trans (B4.out.mono HB0.out.1.size)⟩
set_option maxRecDepth 100000 in
set_option maxHeartbeats 8000000 in
attribute [local go_sem ↓] loadSt_V_hide loadSt_W_hide loadSt_T_hide in
theorem back_o8 (x y : Bal) (l n : Int) (w : World) (hx : balOk x = true) (hy : balOk y = true) (c3 : ¬ capB x > 1048576) (c4 : ¬ capB y > 1048576) (c5 : ¬ n < 0) (c6 : ¬ n > 1048576) (c7 : ¬ l < 0) (hc : l > 6) : Calls Tryz.prog 5 #[.agg #[.int .i64 x.k, .bool x.aye, .int .i64 x.l, .int .i64 x.a, .int .i64 x.n, .int .i64 x.s], .agg #[.int .i64 y.k, .bool y.aye, .int .i64 y.l, .int .i64 y.a, .int .i64 y.n, .int .i64 y.s], .int .i64 l, .int .i64 n] w fun e w' => e = .returned (.bool true) ∧ Below w.heap.size w w' := by
  have HIX := Lib.hid (fun W => hx ▸ law_Is x W)
  have HIY := Lib.hid (fun W => hy ▸ law_Is y W)
  have HCX := Lib.hid (fun W => law_Cap hx W)
  have HCY := Lib.hid (fun W => law_Cap hy W)
  clear hx hy
  go_enter Tryz.func5, Tryz.ntmps5
  go_upto_region 1 with fail
  obtain ⟨wb, hwb⟩ : ∃ wb, wb = (w.alloc (.cells #[.int .i64 x.k, .bool x.aye, .int .i64 x.l, .int .i64 x.a, .int .i64 x.n, .int .i64 x.s] 23)).alloc (.cells #[.int .i64 y.k, .bool y.aye, .int .i64 y.l, .int .i64 y.a, .int .i64 y.n, .int .i64 y.s] 23) := ⟨_, rfl⟩
  obtain ⟨hb0, hs0, hx0, hy0⟩ := two_boxes w x y hwb
  rw [← hwb]
  have SL := Lib.hid (show ∀ W, Below wb.heap.size wb W → (loadSt_V (.pointer (some ⟨w.heap.size, 0, none⟩))).run Tryz.prog W = .ok (.agg #[.int .i64 x.k, .bool x.aye, .int .i64 x.l, .int .i64 x.a, .int .i64 x.n, .int .i64 x.s]) W ∧ (loadSt_V (.pointer (some ⟨w.heap.size + 1, 0, none⟩))).run Tryz.prog W = .ok (.agg #[.int .i64 y.k, .bool y.aye, .int .i64 y.l, .int .i64 y.a, .int .i64 y.n, .int .i64 y.s]) W from fun W hb => ⟨run_loadS (s := balS) (rangeAt_block hx0 (hb.block _ (by omega))), run_loadS (s := balS) (rangeAt_block hy0 (hb.block _ hs0))⟩)
  have HB0 := Lib.hid (And.intro hb0 (And.intro hs0 (And.intro hx0 hy0)))
  have B0 := Lib.hid (Below.refl wb.heap.size wb)
  obtain ⟨lx0, ly0⟩ := SL.out wb B0.out
  clear hwb hb0 hs0 hx0 hy0
  go_wp2_with (first
    | (go_at_call 27; with_reducible refine (HIX.out _).mono ?_; rintro e wc1 ⟨rfl, hb⟩; have B1 := Lib.hid (B0.out.trans (hb.mono B0.out.size)); obtain ⟨lx1, ly1⟩ := SL.out wc1 B1.out; clear hb)
    | (go_at_call 27; with_reducible refine (HIY.out _).mono ?_; rintro e wc2 ⟨rfl, hb⟩; have B2 := Lib.hid (B1.out.trans (hb.mono B1.out.size)); obtain ⟨lx2, ly2⟩ := SL.out wc2 B2.out; clear hb)
    | (go_at_call 28; with_reducible refine (HCX.out _).mono ?_; rintro e wc3 ⟨rfl, hb⟩; have B3 := Lib.hid (B2.out.trans (hb.mono B2.out.size)); obtain ⟨lx3, ly3⟩ := SL.out wc3 B3.out; clear hb)
    | (go_at_call 28; with_reducible refine (HCY.out _).mono ?_; rintro e wc4 ⟨rfl, hb⟩; have B4 := Lib.hid (B3.out.trans (hb.mono B3.out.size)); obtain ⟨lx4, ly4⟩ := SL.out wc4 B4.out; clear hb)
    | fail)
  exact bodyPost_ret (v := .bool true) (by simp [results, Tryz.results5, go_sem]) rfl ⟨rfl, HB0.out.1.trans (B4.out.mono HB0.out.1.size)⟩
theorem votingBack_walk (x y : Bal) (l n : Int) (w : World) (wl : (Lit.int .i64 l).wf = true) (wn : (Lit.int .i64 n).wf = true) : Calls Tryz.prog 5 #[.agg #[.int .i64 x.k, .bool x.aye, .int .i64 x.l, .int .i64 x.a, .int .i64 x.n, .int .i64 x.s], .agg #[.int .i64 y.k, .bool y.aye, .int .i64 y.l, .int .i64 y.a, .int .i64 y.n, .int .i64 y.s], .int .i64 l, .int .i64 n] w fun e w' => e = .returned (.bool true) ∧ Below w.heap.size w w' := by
  by_cases hx : balOk x = true
  · by_cases hy : balOk y = true
    · by_cases c3 : capB x > 1048576
      · exact back_o3 x y l n w hx hy c3
      · by_cases c4 : capB y > 1048576
        · exact back_o4 x y l n w hx hy c3 c4
        · by_cases c5 : n < 0
          · exact back_o5 x y l n w hx hy c3 c4 c5
          · by_cases c6 : n > 1048576
            · exact back_o6 x y l n w hx hy c3 c4 c5 c6
            · by_cases c7 : l < 0
              · exact back_o7 x y l n w hx hy c3 c4 c5 c6 c7
              · by_cases c8 : l > 6
                · exact back_o8 x y l n w hx hy c3 c4 c5 c6 c7 c8
                · exact votingBack_in x y l n w hx hy c3 c4 c5 c6 c7 c8
    · exact back_o2 x y l n w hx (by simpa using hy)
  · exact back_o1 x y l n w (by simpa using hx)
end Go.Proofs.YtlnjcfgihklppaaGreat

