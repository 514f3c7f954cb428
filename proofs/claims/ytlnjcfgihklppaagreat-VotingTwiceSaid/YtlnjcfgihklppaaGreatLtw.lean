/-
  The law VotingTwice, walked.
-/
import Derived.Test.YtlnjcfgihklppaaGreatTw2
namespace Go.Proofs.YtlnjcfgihklppaaGreat
open Go.RowKit Go.Maps Go.Shelf
set_option linter.unusedVariables false
set_option linter.unusedSimpArgs false

set_option maxRecDepth 100000 in
set_option maxHeartbeats 8000000 in
attribute [local go_sem ↓] loadSt_V_hide loadSt_W_hide loadSt_T_hide in
theorem votingTwice_in (x y : Bal) (m : Int) (w : World) (hx : balOk x = true) (hy : balOk y = true) (c3 : ¬ capB x > 1048576) (c4 : ¬ capB y > 1048576) (c5 : ¬ m < 0) (c6 : ¬ m > 1048576) : Calls Tryz.prog 4 #[.agg #[.int .i64 x.k, .bool x.aye, .int .i64 x.l, .int .i64 x.a, .int .i64 x.n, .int .i64 x.s], .agg #[.int .i64 y.k, .bool y.aye, .int .i64 y.l, .int .i64 y.a, .int .i64 y.n, .int .i64 y.s], .int .i64 m] w fun e w' => e = .returned (.bool true) ∧ Below w.heap.size w w' := by
  have HIX := Lib.hid (fun W => hx ▸ law_Is x W)
  have HIY := Lib.hid (fun W => hy ▸ law_Is y W)
  have HCX := Lib.hid (fun W => law_Cap hx W)
  have HCY := Lib.hid (fun W => law_Cap hy W)
  have HXY := Lib.hid (And.intro hx hy)
  clear hx hy
  go_enter Tryz.func4, Tryz.ntmps4
  go_upto_region 1 with fail
  obtain ⟨wb, hwb⟩ : ∃ wb, wb = (w.alloc (.cells #[.int .i64 x.k, .bool x.aye, .int .i64 x.l, .int .i64 x.a, .int .i64 x.n, .int .i64 x.s] 23)).alloc (.cells #[.int .i64 y.k, .bool y.aye, .int .i64 y.l, .int .i64 y.a, .int .i64 y.n, .int .i64 y.s] 23) := ⟨_, rfl⟩
  obtain ⟨hb0, hs0, hx0, hy0⟩ := two_boxes w x y hwb
  rw [← hwb]
  have SL := Lib.hid (show ∀ W, Below wb.heap.size wb W → (loadSt_V (.pointer (some ⟨w.heap.size, 0, none⟩))).run Tryz.prog W = .ok (.agg #[.int .i64 x.k, .bool x.aye, .int .i64 x.l, .int .i64 x.a, .int .i64 x.n, .int .i64 x.s]) W ∧ (loadSt_V (.pointer (some ⟨w.heap.size + 1, 0, none⟩))).run Tryz.prog W = .ok (.agg #[.int .i64 y.k, .bool y.aye, .int .i64 y.l, .int .i64 y.a, .int .i64 y.n, .int .i64 y.s]) W from fun W hb => ⟨run_loadS (s := balS) (rangeAt_block hx0 (hb.block _ (by omega))), run_loadS (s := balS) (rangeAt_block hy0 (hb.block _ hs0))⟩)
  have HB0 := Lib.hid (And.intro hb0 (And.intro hs0 (And.intro hx0 hy0)))
  have B0 := Lib.hid (Below.refl wb.heap.size wb)
  obtain ⟨lx0, ly0⟩ := SL.out wb B0.out
  clear hwb hb0 hs0 hx0 hy0
  go_upto_region 3 with (first
    | (go_at_call 27; with_reducible refine (HIX.out _).mono ?_; rintro e wc1 ⟨rfl, hb⟩; have B1 := Lib.hid (B0.out.trans (hb.mono B0.out.size)); obtain ⟨lx1, ly1⟩ := SL.out wc1 B1.out; clear hb)
    | (go_at_call 27; with_reducible refine (HIY.out _).mono ?_; rintro e wc2 ⟨rfl, hb⟩; have B2 := Lib.hid (B1.out.trans (hb.mono B1.out.size)); obtain ⟨lx2, ly2⟩ := SL.out wc2 B2.out; clear hb)
    | (go_at_call 28; with_reducible refine (HCX.out _).mono ?_; rintro e wc3 ⟨rfl, hb⟩; have B3 := Lib.hid (B2.out.trans (hb.mono B2.out.size)); obtain ⟨lx3, ly3⟩ := SL.out wc3 B3.out; clear hb)
    | (go_at_call 28; with_reducible refine (HCY.out _).mono ?_; rintro e wc4 ⟨rfl, hb⟩; have B4 := Lib.hid (B3.out.trans (hb.mono B3.out.size)); obtain ⟨lx4, ly4⟩ := SL.out wc4 B4.out; clear hb)
    | fail)
  obtain ⟨w1, hw1⟩ : ∃ w1, w1 = wc4.alloc (.cells #[.int .i64 0, .int .i64 1048576, .int .i64 1048576] 3) := ⟨_, rfl⟩
  have hrd : RdI w1 (.slice (some ⟨wc4.heap.size, 0, none⟩) 3 3) [0, 1048576, 1048576] := by rw [hw1]; exact RdI.lit wc4 3 [0, 1048576, 1048576] 3 rfl
  have hb1 : Below w.heap.size w w1 := by rw [hw1]; exact HB0.out.1.trans ((B4.out.alloc B4.out.size _).mono HB0.out.1.size)
  have hb1x : Below wb.heap.size wb w1 := by rw [hw1]; exact B4.out.alloc B4.out.size _
  have HB := Lib.hid (begin1 _ _ w1 hrd (by simp) (by intro x hx; simp at hx; omega))
  have H1 := Lib.hid hb1
  have HW := Lib.hid hw1
  have HE := Lib.hid (tw_ok (x := x) (y := y) (m := m) HXY.out.1 HXY.out.2 (by omega) (by omega) (by omega) (by omega))
  obtain ⟨gy, hgy⟩ : ∃ gy, gy = gainW y ⟨m, m⟩ := ⟨_, rfl⟩
  rw [← hgy] at HE
  have HX1 := Lib.hid (And.intro (rangeAt_block HB0.out.2.2.1 (hb1x.block _ (by have := HB0.out.2.1; omega))) (And.intro (rangeAt_block HB0.out.2.2.2 (hb1x.block _ HB0.out.2.1)) (Nat.lt_of_lt_of_le HB0.out.2.1 hb1x.size)))
  have hmax2 := vw_max2
  clear hb1x hgy hrd hb1 hw1
  go_upto_region 4 with (first
    | (go_at_call 29; rw [← HW.out]; refine HB.out.mono ?_; rintro e w2 ⟨p, g, vb, rfl, hp⟩; have Q2 := Lib.hid (Pv1.b hp); clear hp)
    | fail)
  have Q3 := Lib.hid ((Q2.out.old HX1.out.2.1 HX1.out.2.2).old HX1.out.1 (by have := HX1.out.2.2; omega))
  obtain ⟨wa, hwa⟩ : ∃ wa, wa = w2.alloc (.cells #[.int .i64 0, .int .i64 1048576, .int .i64 1048576] 3) := ⟨_, rfl⟩
  have hrd : RdI wa (.slice (some ⟨w2.heap.size, 0, none⟩) 3 3) [0, 1048576, 1048576] := by rw [hwa]; exact RdI.lit w2 3 [0, 1048576, 1048576] 3 rfl
  have hba : Below w2.heap.size w2 wa := by rw [hwa]; exact (Below.refl _ w2).alloc (Nat.le_refl _) _
  have HBb := Lib.hid (begin1 _ _ wa hrd (by simp) (by intro x hx; simp at hx; omega))
  have HWa := Lib.hid hwa
  have HBa := Lib.hid hba
  clear hrd hba hwa
  go_upto_region 5 with (first
    | (go_at_call 29; rw [← HWa.out]; refine HBb.out.mono ?_; rintro e w4 ⟨q, g', vb', rfl, hp⟩; have Q4 := Lib.hid (Tw.start Q3.out HBa.out hp); clear hp)
    | fail)
  obtain ⟨⟨a4, b4⟩, ⟨d4, e4⟩⟩ := Q4.out.pcells
  go_upto_region 8 with (first
    | (go_at_call 17; refine (Q4.out.vOpen 0 0).mono ?_; rintro e w5 ⟨rfl, hp⟩; have Q5 := Lib.hid (show Tw w1.heap.size p g vb w1.heap.size twS1 twA [] q g' vb' wa.heap.size Vs.zero twA [] _ w1 w5 from hp); clear hp)
    | fail)
  obtain ⟨⟨a5, b5⟩, ⟨d5, e5⟩⟩ := Q5.out.pcells
  go_upto_region 9 with (first
    | (go_at_call 17; refine (Q5.out.swap.vOpen 0 0).mono ?_; rintro e w6 ⟨rfl, hp⟩; have Q6 := Lib.hid (show Tw w1.heap.size p g vb w1.heap.size twS1 twA [] q g' vb' wa.heap.size twS1 twA [] _ w1 w6 from hp.swap); clear hp)
    | fail)
  obtain ⟨⟨a6, b6⟩, ⟨d6, e6⟩⟩ := Q6.out.drew.pcells
  go_still_tail 9, (by kernel_rfl)
  change wpList _ _ _ _ _ w6.drew
  go_upto_region 10 with (first
    | (go_at_call 21; refine (Q6.out.drew.vDelegate (a := 2) (t := 0) (who := 1) (by decide) (by decide) 1 m).mono ?_; rw [HE.out.1.1]; rintro e w7 ⟨rfl, hp⟩; have Q7 := Lib.hid (show Tw w1.heap.size p g vb w1.heap.size (twS2 m) twA (twM2 m) q g' vb' wa.heap.size twS1 twA [] _ w1 w7 from hp); clear hp)
    | fail)
  obtain ⟨⟨a7, b7⟩, ⟨d7, e7⟩⟩ := Q7.out.drew.pcells
  go_still_tail 9, (by kernel_rfl)
  change wpList _ _ _ _ _ w7.drew
  go_upto_region 11 with (first
    | (go_at_call 21; refine (Q7.out.drew.swap.vDelegate (a := 2) (t := 0) (who := 1) (by decide) (by decide) 1 m).mono ?_; rw [HE.out.1.1]; rintro e w8 ⟨rfl, hp⟩; have Q8 := Lib.hid (show Tw w1.heap.size p g vb w1.heap.size (twS2 m) twA (twM2 m) q g' vb' wa.heap.size (twS2 m) twA (twM2 m) _ w1 w8 from hp.swap); clear hp)
    | fail)
  obtain ⟨⟨a8, b8⟩, ⟨d8, e8⟩⟩ := Q8.out.drew.pcells
  have hl8 := Q8.out.drew.loadB (b := w.heap.size) (t := x) (by simp)
  go_still_tail 9, (by kernel_rfl)
  change wpList _ _ _ _ _ w8.drew
  go_upto_region 12 with (first
    | (go_at_call 19; refine (Q8.out.drew.vVote (a := 1) (r := 0) (by decide) (by decide) x).mono ?_; rw [HE.out.1.2.1]; rintro e w9 ⟨rfl, hp⟩; have Q9 := Lib.hid (show Tw w1.heap.size p g vb w1.heap.size (twS3 m x) twA (twM3 m x) q g' vb' wa.heap.size (twS2 m) twA (twM2 m) _ w1 w9 from hp); clear hp)
    | fail)
  obtain ⟨⟨a9, b9⟩, ⟨d9, e9⟩⟩ := Q9.out.drew.pcells
  have hl9 := Q9.out.drew.loadB (b := (w.heap.size + 1)) (t := y) (by simp)
  go_still_tail 9, (by kernel_rfl)
  change wpList _ _ _ _ _ w9.drew
  go_upto_region 13 with (first
    | (go_at_call 19; refine (Q9.out.drew.vVote (a := 1) (r := 0) (by decide) (by decide) y).mono ?_; rw [HE.out.1.2.2.1]; rintro e w10 ⟨rfl, hp⟩; have Q10 := Lib.hid (show Tw w1.heap.size p g vb w1.heap.size (twS4 m x y) twA (twM4 m x y) q g' vb' wa.heap.size (twS2 m) twA (twM2 m) _ w1 w10 from hp); clear hp)
    | fail)
  obtain ⟨⟨a10, b10⟩, ⟨d10, e10⟩⟩ := Q10.out.drew.pcells
  have hl10 := Q10.out.drew.loadB (b := (w.heap.size + 1)) (t := y) (by simp)
  go_still_tail 9, (by kernel_rfl)
  change wpList _ _ _ _ _ w10.drew
  go_upto_region 14 with (first
    | (go_at_call 19; refine (Q10.out.drew.swap.vVote (a := 1) (r := 0) (by decide) (by decide) y).mono ?_; rw [HE.out.1.2.2.2]; rintro e w11 ⟨rfl, hp⟩; have Q11 := Lib.hid (show Tw w1.heap.size p g vb w1.heap.size (twS4 m x y) twA (twM4 m x y) q g' vb' wa.heap.size (twS3 m y) twA (twM3 m y) _ w1 w11 from hp.swap); clear hp)
    | fail)
  obtain ⟨⟨a11, b11⟩, ⟨d11, e11⟩⟩ := Q11.out.pcells
  have HLX := Lib.hid (show (ballots (twS4 m x y) 1 0).length ≤ 100 by rw [HE.out.2.2.2.1]; simp)
  go_upto_region 15 with (first
    | (go_at_call 16; refine (Q11.out.casts (a := 1) (by decide) 0 HLX.out).mono ?_; rw [HE.out.2.2.2.1, List.length_singleton]; rintro e w12 ⟨ao, cap, rfl, ho, hp⟩; have HBC := Lib.hid hp; have HO := Lib.hid ho; clear hp ho)
    | fail)
  obtain ⟨cb, rfl, hcb, hcl, hcr⟩ := cast_one HO.out
  have Q13 := Lib.hid ((Tw.new Q11.out hcr (by exact HBC.out) hcb hcl).drew)
  have SK := Lib.hid (show ∀ W, Tw w1.heap.size p g vb w1.heap.size (twS4 m x y) twA (twM4 m x y) q g' vb' wa.heap.size (twS3 m y) twA (twM3 m y) [(cb, .int .i64 0 :: balS.f y), (w.heap.size, balS.f x), (w.heap.size + 1, balS.f y)] w1 W → (W.cell? ⟨p, 0, none⟩ = some (.pointer (some ⟨g, 0, none⟩)) ∧ W.cell? ⟨p, 1, none⟩ = some (.pointer (some ⟨vb, 0, none⟩)) ∧ W.cell? ⟨q, 1, none⟩ = some (.pointer (some ⟨vb', 0, none⟩))) ∧ (loadSt_V (.pointer (some ⟨w.heap.size, 0, none⟩))).run Tryz.prog W = .ok (.agg #[.int .i64 x.k, .bool x.aye, .int .i64 x.l, .int .i64 x.a, .int .i64 x.n, .int .i64 x.s]) W ∧ (loadSt_V (.pointer (some ⟨w.heap.size + 1, 0, none⟩))).run Tryz.prog W = .ok (.agg #[.int .i64 y.k, .bool y.aye, .int .i64 y.l, .int .i64 y.a, .int .i64 y.n, .int .i64 y.s]) W ∧ (loadSt_V (.pointer (some ⟨cb, 1, none⟩))).run Tryz.prog W = .ok (.agg #[.int .i64 y.k, .bool y.aye, .int .i64 y.l, .int .i64 y.a, .int .i64 y.n, .int .i64 y.s]) W from fun W h => ⟨⟨h.pcells.1.1, h.pcells.1.2, h.pcells.2.2⟩, h.loadB (by simp), h.loadB (by simp), h.loadO (u := .int .i64 0) (by simp)⟩)
  obtain ⟨⟨s1, s2, s3⟩, s4, s5, s6⟩ := SK.out _ Q13.out
  go_region_held3 (fun W => (W.cell? ⟨p, 0, none⟩ = some (.pointer (some ⟨g, 0, none⟩)) ∧ W.cell? ⟨p, 1, none⟩ = some (.pointer (some ⟨vb, 0, none⟩)) ∧ W.cell? ⟨q, 1, none⟩ = some (.pointer (some ⟨vb', 0, none⟩))) ∧ (loadSt_V (.pointer (some ⟨w.heap.size, 0, none⟩))).run Tryz.prog W = .ok (.agg #[.int .i64 x.k, .bool x.aye, .int .i64 x.l, .int .i64 x.a, .int .i64 x.n, .int .i64 x.s]) W ∧ (loadSt_V (.pointer (some ⟨w.heap.size + 1, 0, none⟩))).run Tryz.prog W = .ok (.agg #[.int .i64 y.k, .bool y.aye, .int .i64 y.l, .int .i64 y.a, .int .i64 y.n, .int .i64 y.s]) W ∧ (loadSt_V (.pointer (some ⟨cb, 1, none⟩))).run Tryz.prog W = .ok (.agg #[.int .i64 y.k, .bool y.aye, .int .i64 y.l, .int .i64 y.a, .int .i64 y.n, .int .i64 y.s]) W) (first | exact SK.out _ Q13.out | exact SK.out _ Q14.out | exact SK.out _ Q15.out | exact SK.out _ Q16.out | exact SK.out _ Q17.out | exact SK.out _ Q18.out | exact SK.out _ Q19.out) (first
    | (go_at_call 24; with_reducible refine (Q13.out.vTally 0).mono ?_; rw [HE.out.2.1]; rintro e w14 ⟨rfl, hp⟩; have Q14 := Lib.hid hp; clear hp)
    | (go_at_call 24; with_reducible refine (Q14.out.swap.vTally 0).mono ?_; rw [HE.out.2.2.1]; rintro e w15 ⟨rfl, hp⟩; have Q15 := Lib.hid hp.swap; clear hp)
    | (go_at_call 30; refine (Q15.out.vLocked (a := 1) (by decide)).mono ?_; rw [HE.out.2.2.2.2]; rintro e w16 ⟨rfl, hp⟩; have Q16 := Lib.hid hp; clear hp)
    | (go_at_call 28; with_reducible refine (HCX.out _).mono ?_; rintro e w17 ⟨rfl, hb⟩; have Q17 := Lib.hid (Q16.out.below hb); clear hb)
    | (go_at_call 28; with_reducible refine (HCY.out _).mono ?_; rintro e w18 ⟨rfl, hb⟩; have Q18 := Lib.hid (Q17.out.below hb); clear hb)
    | (go_at_call 26; refine (law11_known _).mono ?_; rintro e w19 ⟨rfl, hp⟩; have Q19 := Lib.hid (Q18.out.below hp); clear hp)
    | fail)
  all_goals
    go_wp2_with fail
    exact bodyPost_ret (v := .bool true) (by simp [results, Tryz.results4, go_sem]) rfl ⟨rfl, H1.out.trans (Q19.out.bl.mono H1.out.size)⟩
set_option maxRecDepth 100000 in
set_option maxHeartbeats 8000000 in
attribute [local go_sem ↓] loadSt_V_hide loadSt_W_hide loadSt_T_hide in
theorem twice_o1 (x y : Bal) (m : Int) (w : World) (hx : balOk x = false) : Calls Tryz.prog 4 #[.agg #[.int .i64 x.k, .bool x.aye, .int .i64 x.l, .int .i64 x.a, .int .i64 x.n, .int .i64 x.s], .agg #[.int .i64 y.k, .bool y.aye, .int .i64 y.l, .int .i64 y.a, .int .i64 y.n, .int .i64 y.s], .int .i64 m] w fun e w' => e = .returned (.bool true) ∧ Below w.heap.size w w' := by
  have HIX := Lib.hid (fun W => hx ▸ law_Is x W)
  have HIY := HIX
  have HCX := HIX
  have HCY := HIX
  clear hx
  go_enter Tryz.func4, Tryz.ntmps4
  go_upto_region 1 with fail
  obtain ⟨wb, hwb⟩ : ∃ wb, wb = (w.alloc (.cells #[.int .i64 x.k, .bool x.aye, .int .i64 x.l, .int .i64 x.a, .int .i64 x.n, .int .i64 x.s] 23)).alloc (.cells #[.int .i64 y.k, .bool y.aye, .int .i64 y.l, .int .i64 y.a, .int .i64 y.n, .int .i64 y.s] 23) := ⟨_, rfl⟩
  obtain ⟨hb0, hs0, hx0, hy0⟩ := two_boxes w x y hwb
  rw [← hwb]
  have SL := Lib.hid (show ∀ W, Below wb.heap.size wb W → (loadSt_V (.pointer (some ⟨w.heap.size, 0, none⟩))).run Tryz.prog W = .ok (.agg #[.int .i64 x.k, .bool x.aye, .int .i64 x.l, .int .i64 x.a, .int .i64 x.n, .int .i64 x.s]) W ∧ (loadSt_V (.pointer (some ⟨w.heap.size + 1, 0, none⟩))).run Tryz.prog W = .ok (.agg #[.int .i64 y.k, .bool y.aye, .int .i64 y.l, .int .i64 y.a, .int .i64 y.n, .int .i64 y.s]) W from fun W hb => ⟨run_loadS (s := balS) (rangeAt_block hx0 (hb.block _ (by omega))), run_loadS (s := balS) (rangeAt_block hy0 (hb.block _ hs0))⟩)
  have HB0 := Lib.hid (And.intro hb0 (And.intro hs0 (And.intro hx0 hy0)))
  have B0 := Lib.hid (Below.refl wb.heap.size wb)
  obtain ⟨lx0, ly0⟩ := SL.out wb B0.out
  clear hwb hb0 hs0 hx0 hy0
  go_wp2_with (first
    | (go_at_call 27; with_reducible refine (HIX.out _).mono ?_; rintro e wc1 ⟨rfl, hb⟩; have B1 := Lib.hid (B0.out.trans (hb.mono B0.out.size)); obtain ⟨lx1, ly1⟩ := SL.out wc1 B1.out; clear hb)
    | (go_at_call 27; with_reducible refine (HIY.out _).mono ?_; rintro e wc2 ⟨rfl, hb⟩; have B2 := Lib.hid (B1.out.trans (hb.mono B1.out.size)); obtain ⟨lx2, ly2⟩ := SL.out wc2 B2.out; clear hb)
    | (go_at_call 28; with_reducible refine (HCX.out _).mono ?_; rintro e wc3 ⟨rfl, hb⟩; have B3 := Lib.hid (B2.out.trans (hb.mono B2.out.size)); obtain ⟨lx3, ly3⟩ := SL.out wc3 B3.out; clear hb)
    | (go_at_call 28; with_reducible refine (HCY.out _).mono ?_; rintro e wc4 ⟨rfl, hb⟩; have B4 := Lib.hid (B3.out.trans (hb.mono B3.out.size)); obtain ⟨lx4, ly4⟩ := SL.out wc4 B4.out; clear hb)
    | fail)
  exact bodyPost_ret (v := .bool true) (by simp [results, Tryz.results4, go_sem]) rfl ⟨rfl, HB0.out.1.trans (B1.out.mono HB0.out.1.size)⟩
set_option maxRecDepth 100000 in
set_option maxHeartbeats 8000000 in
attribute [local go_sem ↓] loadSt_V_hide loadSt_W_hide loadSt_T_hide in
theorem twice_o2 (x y : Bal) (m : Int) (w : World) (hx : balOk x = true) (hy : balOk y = false) : Calls Tryz.prog 4 #[.agg #[.int .i64 x.k, .bool x.aye, .int .i64 x.l, .int .i64 x.a, .int .i64 x.n, .int .i64 x.s], .agg #[.int .i64 y.k, .bool y.aye, .int .i64 y.l, .int .i64 y.a, .int .i64 y.n, .int .i64 y.s], .int .i64 m] w fun e w' => e = .returned (.bool true) ∧ Below w.heap.size w w' := by
  have HIX := Lib.hid (fun W => hx ▸ law_Is x W)
  have HIY := Lib.hid (fun W => hy ▸ law_Is y W)
  have HCX := HIX
  have HCY := HIX
  clear hx hy
  go_enter Tryz.func4, Tryz.ntmps4
  go_upto_region 1 with fail
  obtain ⟨wb, hwb⟩ : ∃ wb, wb = (w.alloc (.cells #[.int .i64 x.k, .bool x.aye, .int .i64 x.l, .int .i64 x.a, .int .i64 x.n, .int .i64 x.s] 23)).alloc (.cells #[.int .i64 y.k, .bool y.aye, .int .i64 y.l, .int .i64 y.a, .int .i64 y.n, .int .i64 y.s] 23) := ⟨_, rfl⟩
  obtain ⟨hb0, hs0, hx0, hy0⟩ := two_boxes w x y hwb
  rw [← hwb]
  have SL := Lib.hid (show ∀ W, Below wb.heap.size wb W → (loadSt_V (.pointer (some ⟨w.heap.size, 0, none⟩))).run Tryz.prog W = .ok (.agg #[.int .i64 x.k, .bool x.aye, .int .i64 x.l, .int .i64 x.a, .int .i64 x.n, .int .i64 x.s]) W ∧ (loadSt_V (.pointer (some ⟨w.heap.size + 1, 0, none⟩))).run Tryz.prog W = .ok (.agg #[.int .i64 y.k, .bool y.aye, .int .i64 y.l, .int .i64 y.a, .int .i64 y.n, .int .i64 y.s]) W from fun W hb => ⟨run_loadS (s := balS) (rangeAt_block hx0 (hb.block _ (by omega))), run_loadS (s := balS) (rangeAt_block hy0 (hb.block _ hs0))⟩)
  have HB0 := Lib.hid (And.intro hb0 (And.intro hs0 (And.intro hx0 hy0)))
  have B0 := Lib.hid (Below.refl wb.heap.size wb)
  obtain ⟨lx0, ly0⟩ := SL.out wb B0.out
  clear hwb hb0 hs0 hx0 hy0
  go_wp2_with (first
    | (go_at_call 27; with_reducible refine (HIX.out _).mono ?_; rintro e wc1 ⟨rfl, hb⟩; have B1 := Lib.hid (B0.out.trans (hb.mono B0.out.size)); obtain ⟨lx1, ly1⟩ := SL.out wc1 B1.out; clear hb)
    | (go_at_call 27; with_reducible refine (HIY.out _).mono ?_; rintro e wc2 ⟨rfl, hb⟩; have B2 := Lib.hid (B1.out.trans (hb.mono B1.out.size)); obtain ⟨lx2, ly2⟩ := SL.out wc2 B2.out; clear hb)
    | (go_at_call 28; with_reducible refine (HCX.out _).mono ?_; rintro e wc3 ⟨rfl, hb⟩; have B3 := Lib.hid (B2.out.trans (hb.mono B2.out.size)); obtain ⟨lx3, ly3⟩ := SL.out wc3 B3.out; clear hb)
    | (go_at_call 28; with_reducible refine (HCY.out _).mono ?_; rintro e wc4 ⟨rfl, hb⟩; have B4 := Lib.hid (B3.out.trans (hb.mono B3.out.size)); obtain ⟨lx4, ly4⟩ := SL.out wc4 B4.out; clear hb)
    | fail)
  exact bodyPost_ret (v := .bool true) (by simp [results, Tryz.results4, go_sem]) rfl ⟨rfl, HB0.out.1.trans (B2.out.mono HB0.out.1.size)⟩
set_option maxRecDepth 100000 in
set_option maxHeartbeats 8000000 in
attribute [local go_sem ↓] loadSt_V_hide loadSt_W_hide loadSt_T_hide in
theorem twice_o3 (x y : Bal) (m : Int) (w : World) (hx : balOk x = true) (hy : balOk y = true)  (hc : capB x > 1048576) : Calls Tryz.prog 4 #[.agg #[.int .i64 x.k, .bool x.aye, .int .i64 x.l, .int .i64 x.a, .int .i64 x.n, .int .i64 x.s], .agg #[.int .i64 y.k, .bool y.aye, .int .i64 y.l, .int .i64 y.a, .int .i64 y.n, .int .i64 y.s], .int .i64 m] w fun e w' => e = .returned (.bool true) ∧ Below w.heap.size w w' := by
  have HIX := Lib.hid (fun W => hx ▸ law_Is x W)
  have HIY := Lib.hid (fun W => hy ▸ law_Is y W)
  have HCX := Lib.hid (fun W => law_Cap hx W)
  have HCY := Lib.hid (fun W => law_Cap hy W)
  clear hx hy
  go_enter Tryz.func4, Tryz.ntmps4
  go_upto_region 1 with fail
  obtain ⟨wb, hwb⟩ : ∃ wb, wb = (w.alloc (.cells #[.int .i64 x.k, .bool x.aye, .int .i64 x.l, .int .i64 x.a, .int .i64 x.n, .int .i64 x.s] 23)).alloc (.cells #[.int .i64 y.k, .bool y.aye, .int .i64 y.l, .int .i64 y.a, .int .i64 y.n, .int .i64 y.s] 23) := ⟨_, rfl⟩
  obtain ⟨hb0, hs0, hx0, hy0⟩ := two_boxes w x y hwb
  rw [← hwb]
  have SL := Lib.hid (show ∀ W, Below wb.heap.size wb W → (loadSt_V (.pointer (some ⟨w.heap.size, 0, none⟩))).run Tryz.prog W = .ok (.agg #[.int .i64 x.k, .bool x.aye, .int .i64 x.l, .int .i64 x.a, .int .i64 x.n, .int .i64 x.s]) W ∧ (loadSt_V (.pointer (some ⟨w.heap.size + 1, 0, none⟩))).run Tryz.prog W = .ok (.agg #[.int .i64 y.k, .bool y.aye, .int .i64 y.l, .int .i64 y.a, .int .i64 y.n, .int .i64 y.s]) W from fun W hb => ⟨run_loadS (s := balS) (rangeAt_block hx0 (hb.block _ (by omega))), run_loadS (s := balS) (rangeAt_block hy0 (hb.block _ hs0))⟩)
  have HB0 := Lib.hid (And.intro hb0 (And.intro hs0 (And.intro hx0 hy0)))
  have B0 := Lib.hid (Below.refl wb.heap.size wb)
  obtain ⟨lx0, ly0⟩ := SL.out wb B0.out
  clear hwb hb0 hs0 hx0 hy0
  go_wp2_with (first
    | (go_at_call 27; with_reducible refine (HIX.out _).mono ?_; rintro e wc1 ⟨rfl, hb⟩; have B1 := Lib.hid (B0.out.trans (hb.mono B0.out.size)); obtain ⟨lx1, ly1⟩ := SL.out wc1 B1.out; clear hb)
    | (go_at_call 27; with_reducible refine (HIY.out _).mono ?_; rintro e wc2 ⟨rfl, hb⟩; have B2 := Lib.hid (B1.out.trans (hb.mono B1.out.size)); obtain ⟨lx2, ly2⟩ := SL.out wc2 B2.out; clear hb)
    | (go_at_call 28; with_reducible refine (HCX.out _).mono ?_; rintro e wc3 ⟨rfl, hb⟩; have B3 := Lib.hid (B2.out.trans (hb.mono B2.out.size)); obtain ⟨lx3, ly3⟩ := SL.out wc3 B3.out; clear hb)
    | (go_at_call 28; with_reducible refine (HCY.out _).mono ?_; rintro e wc4 ⟨rfl, hb⟩; have B4 := Lib.hid (B3.out.trans (hb.mono B3.out.size)); obtain ⟨lx4, ly4⟩ := SL.out wc4 B4.out; clear hb)
    | fail)
  exact bodyPost_ret (v := .bool true) (by simp [results, Tryz.results4, go_sem]) rfl ⟨rfl, HB0.out.1.trans (B3.out.mono HB0.out.1.size)⟩
set_option maxRecDepth 100000 in
set_option maxHeartbeats 8000000 in
attribute [local go_sem ↓] loadSt_V_hide loadSt_W_hide loadSt_T_hide in
theorem twice_o4 (x y : Bal) (m : Int) (w : World) (hx : balOk x = true) (hy : balOk y = true) (c3 : ¬ capB x > 1048576) (hc : capB y > 1048576) : Calls Tryz.prog 4 #[.agg #[.int .i64 x.k, .bool x.aye, .int .i64 x.l, .int .i64 x.a, .int .i64 x.n, .int .i64 x.s], .agg #[.int .i64 y.k, .bool y.aye, .int .i64 y.l, .int .i64 y.a, .int .i64 y.n, .int .i64 y.s], .int .i64 m] w fun e w' => e = .returned (.bool true) ∧ Below w.heap.size w w' := by
  have HIX := Lib.hid (fun W => hx ▸ law_Is x W)
  have HIY := Lib.hid (fun W => hy ▸ law_Is y W)
  have HCX := Lib.hid (fun W => law_Cap hx W)
  have HCY := Lib.hid (fun W => law_Cap hy W)
  clear hx hy
  go_enter Tryz.func4, Tryz.ntmps4
  go_upto_region 1 with fail
  obtain ⟨wb, hwb⟩ : ∃ wb, wb = (w.alloc (.cells #[.int .i64 x.k, .bool x.aye, .int .i64 x.l, .int .i64 x.a, .int .i64 x.n, .int .i64 x.s] 23)).alloc (.cells #[.int .i64 y.k, .bool y.aye, .int .i64 y.l, .int .i64 y.a, .int .i64 y.n, .int .i64 y.s] 23) := ⟨_, rfl⟩
  obtain ⟨hb0, hs0, hx0, hy0⟩ := two_boxes w x y hwb
  rw [← hwb]
  have SL := Lib.hid (show ∀ W, Below wb.heap.size wb W → (loadSt_V (.pointer (some ⟨w.heap.size, 0, none⟩))).run Tryz.prog W = .ok (.agg #[.int .i64 x.k, .bool x.aye, .int .i64 x.l, .int .i64 x.a, .int .i64 x.n, .int .i64 x.s]) W ∧ (loadSt_V (.pointer (some ⟨w.heap.size + 1, 0, none⟩))).run Tryz.prog W = .ok (.agg #[.int .i64 y.k, .bool y.aye, .int .i64 y.l, .int .i64 y.a, .int .i64 y.n, .int .i64 y.s]) W from fun W hb => ⟨run_loadS (s := balS) (rangeAt_block hx0 (hb.block _ (by omega))), run_loadS (s := balS) (rangeAt_block hy0 (hb.block _ hs0))⟩)
  have HB0 := Lib.hid (And.intro hb0 (And.intro hs0 (And.intro hx0 hy0)))
  have B0 := Lib.hid (Below.refl wb.heap.size wb)
  obtain ⟨lx0, ly0⟩ := SL.out wb B0.out
  clear hwb hb0 hs0 hx0 hy0
  go_wp2_with (first
    | (go_at_call 27; with_reducible refine (HIX.out _).mono ?_; rintro e wc1 ⟨rfl, hb⟩; have B1 := Lib.hid (B0.out.trans (hb.mono B0.out.size)); obtain ⟨lx1, ly1⟩ := SL.out wc1 B1.out; clear hb)
    | (go_at_call 27; with_reducible refine (HIY.out _).mono ?_; rintro e wc2 ⟨rfl, hb⟩; have B2 := Lib.hid (B1.out.trans (hb.mono B1.out.size)); obtain ⟨lx2, ly2⟩ := SL.out wc2 B2.out; clear hb)
    | (go_at_call 28; with_reducible refine (HCX.out _).mono ?_; rintro e wc3 ⟨rfl, hb⟩; have B3 := Lib.hid (B2.out.trans (hb.mono B2.out.size)); obtain ⟨lx3, ly3⟩ := SL.out wc3 B3.out; clear hb)
    | (go_at_call 28; with_reducible refine (HCY.out _).mono ?_; rintro e wc4 ⟨rfl, hb⟩; have B4 := Lib.hid (B3.out.trans (hb.mono B3.out.size)); obtain ⟨lx4, ly4⟩ := SL.out wc4 B4.out; clear hb)
    | fail)
  exact bodyPost_ret (v := .bool true) (by simp [results, Tryz.results4, go_sem]) rfl ⟨rfl, HB0.out.1.trans (B4.out.mono HB0.out.1.size)⟩
set_option maxRecDepth 100000 in
set_option maxHeartbeats 8000000 in
attribute [local go_sem ↓] loadSt_V_hide loadSt_W_hide loadSt_T_hide in
theorem twice_o5 (x y : Bal) (m : Int) (w : World) (hx : balOk x = true) (hy : balOk y = true) (c3 : ¬ capB x > 1048576) (c4 : ¬ capB y > 1048576) (hc : m < 0) : Calls Tryz.prog 4 #[.agg #[.int .i64 x.k, .bool x.aye, .int .i64 x.l, .int .i64 x.a, .int .i64 x.n, .int .i64 x.s], .agg #[.int .i64 y.k, .bool y.aye, .int .i64 y.l, .int .i64 y.a, .int .i64 y.n, .int .i64 y.s], .int .i64 m] w fun e w' => e = .returned (.bool true) ∧ Below w.heap.size w w' := by
  have HIX := Lib.hid (fun W => hx ▸ law_Is x W)
  have HIY := Lib.hid (fun W => hy ▸ law_Is y W)
  have HCX := Lib.hid (fun W => law_Cap hx W)
  have HCY := Lib.hid (fun W => law_Cap hy W)
  clear hx hy
  go_enter Tryz.func4, Tryz.ntmps4
  go_upto_region 1 with fail
  obtain ⟨wb, hwb⟩ : ∃ wb, wb = (w.alloc (.cells #[.int .i64 x.k, .bool x.aye, .int .i64 x.l, .int .i64 x.a, .int .i64 x.n, .int .i64 x.s] 23)).alloc (.cells #[.int .i64 y.k, .bool y.aye, .int .i64 y.l, .int .i64 y.a, .int .i64 y.n, .int .i64 y.s] 23) := ⟨_, rfl⟩
  obtain ⟨hb0, hs0, hx0, hy0⟩ := two_boxes w x y hwb
  rw [← hwb]
  have SL := Lib.hid (show ∀ W, Below wb.heap.size wb W → (loadSt_V (.pointer (some ⟨w.heap.size, 0, none⟩))).run Tryz.prog W = .ok (.agg #[.int .i64 x.k, .bool x.aye, .int .i64 x.l, .int .i64 x.a, .int .i64 x.n, .int .i64 x.s]) W ∧ (loadSt_V (.pointer (some ⟨w.heap.size + 1, 0, none⟩))).run Tryz.prog W = .ok (.agg #[.int .i64 y.k, .bool y.aye, .int .i64 y.l, .int .i64 y.a, .int .i64 y.n, .int .i64 y.s]) W from fun W hb => ⟨run_loadS (s := balS) (rangeAt_block hx0 (hb.block _ (by omega))), run_loadS (s := balS) (rangeAt_block hy0 (hb.block _ hs0))⟩)
  have HB0 := Lib.hid (And.intro hb0 (And.intro hs0 (And.intro hx0 hy0)))
  have B0 := Lib.hid (Below.refl wb.heap.size wb)
  obtain ⟨lx0, ly0⟩ := SL.out wb B0.out
  clear hwb hb0 hs0 hx0 hy0
  go_wp2_with (first
    | (go_at_call 27; with_reducible refine (HIX.out _).mono ?_; rintro e wc1 ⟨rfl, hb⟩; have B1 := Lib.hid (B0.out.trans (hb.mono B0.out.size)); obtain ⟨lx1, ly1⟩ := SL.out wc1 B1.out; clear hb)
    | (go_at_call 27; with_reducible refine (HIY.out _).mono ?_; rintro e wc2 ⟨rfl, hb⟩; have B2 := Lib.hid (B1.out.trans (hb.mono B1.out.size)); obtain ⟨lx2, ly2⟩ := SL.out wc2 B2.out; clear hb)
    | (go_at_call 28; with_reducible refine (HCX.out _).mono ?_; rintro e wc3 ⟨rfl, hb⟩; have B3 := Lib.hid (B2.out.trans (hb.mono B2.out.size)); obtain ⟨lx3, ly3⟩ := SL.out wc3 B3.out; clear hb)
    | (go_at_call 28; with_reducible refine (HCY.out _).mono ?_; rintro e wc4 ⟨rfl, hb⟩; have B4 := Lib.hid (B3.out.trans (hb.mono B3.out.size)); obtain ⟨lx4, ly4⟩ := SL.out wc4 B4.out; clear hb)
    | fail)
  exact bodyPost_ret (v := .bool true) (by simp [results, Tryz.results4, go_sem]) rfl ⟨rfl, HB0.out.1.trans (B4.out.mono HB0.out.1.size)⟩
set_option maxRecDepth 100000 in
set_option maxHeartbeats 8000000 in
attribute [local go_sem ↓] loadSt_V_hide loadSt_W_hide loadSt_T_hide in
theorem twice_o6 (x y : Bal) (m : Int) (w : World) (hx : balOk x = true) (hy : balOk y = true) (c3 : ¬ capB x > 1048576) (c4 : ¬ capB y > 1048576) (c5 : ¬ m < 0) (hc : m > 1048576) : Calls Tryz.prog 4 #[.agg #[.int .i64 x.k, .bool x.aye, .int .i64 x.l, .int .i64 x.a, .int .i64 x.n, .int .i64 x.s], .agg #[.int .i64 y.k, .bool y.aye, .int .i64 y.l, .int .i64 y.a, .int .i64 y.n, .int .i64 y.s], .int .i64 m] w fun e w' => e = .returned (.bool true) ∧ Below w.heap.size w w' := by
  have HIX := Lib.hid (fun W => hx ▸ law_Is x W)
  have HIY := Lib.hid (fun W => hy ▸ law_Is y W)
  have HCX := Lib.hid (fun W => law_Cap hx W)
  have HCY := Lib.hid (fun W => law_Cap hy W)
  clear hx hy
  go_enter Tryz.func4, Tryz.ntmps4
  go_upto_region 1 with fail
  obtain ⟨wb, hwb⟩ : ∃ wb, wb = (w.alloc (.cells #[.int .i64 x.k, .bool x.aye, .int .i64 x.l, .int .i64 x.a, .int .i64 x.n, .int .i64 x.s] 23)).alloc (.cells #[.int .i64 y.k, .bool y.aye, .int .i64 y.l, .int .i64 y.a, .int .i64 y.n, .int .i64 y.s] 23) := ⟨_, rfl⟩
  obtain ⟨hb0, hs0, hx0, hy0⟩ := two_boxes w x y hwb
  rw [← hwb]
  have SL := Lib.hid (show ∀ W, Below wb.heap.size wb W → (loadSt_V (.pointer (some ⟨w.heap.size, 0, none⟩))).run Tryz.prog W = .ok (.agg #[.int .i64 x.k, .bool x.aye, .int .i64 x.l, .int .i64 x.a, .int .i64 x.n, .int .i64 x.s]) W ∧ (loadSt_V (.pointer (some ⟨w.heap.size + 1, 0, none⟩))).run Tryz.prog W = .ok (.agg #[.int .i64 y.k, .bool y.aye, .int .i64 y.l, .int .i64 y.a, .int .i64 y.n, .int .i64 y.s]) W from fun W hb => ⟨run_loadS (s := balS) (rangeAt_block hx0 (hb.block _ (by omega))), run_loadS (s := balS) (rangeAt_block hy0 (hb.block _ hs0))⟩)
  have HB0 := Lib.hid (And.intro hb0 (And.intro hs0 (And.intro hx0 hy0)))
  have B0 := Lib.hid (Below.refl wb.heap.size wb)
  obtain ⟨lx0, ly0⟩ := SL.out wb B0.out
  clear hwb hb0 hs0 hx0 hy0
  go_wp2_with (first
    | (go_at_call 27; with_reducible refine (HIX.out _).mono ?_; rintro e wc1 ⟨rfl, hb⟩; have B1 := Lib.hid (B0.out.trans (hb.mono B0.out.size)); obtain ⟨lx1, ly1⟩ := SL.out wc1 B1.out; clear hb)
    | (go_at_call 27; with_reducible refine (HIY.out _).mono ?_; rintro e wc2 ⟨rfl, hb⟩; have B2 := Lib.hid (B1.out.trans (hb.mono B1.out.size)); obtain ⟨lx2, ly2⟩ := SL.out wc2 B2.out; clear hb)
    | (go_at_call 28; with_reducible refine (HCX.out _).mono ?_; rintro e wc3 ⟨rfl, hb⟩; have B3 := Lib.hid (B2.out.trans (hb.mono B2.out.size)); obtain ⟨lx3, ly3⟩ := SL.out wc3 B3.out; clear hb)
    | (go_at_call 28; with_reducible refine (HCY.out _).mono ?_; rintro e wc4 ⟨rfl, hb⟩; have B4 := Lib.hid (B3.out.trans (hb.mono B3.out.size)); obtain ⟨lx4, ly4⟩ := SL.out wc4 B4.out; clear hb)
    | fail)
  exact bodyPost_ret (v := .bool true) (by simp [results, Tryz.results4, go_sem]) rfl ⟨rfl, HB0.out.1.trans (B4.out.mono HB0.out.1.size)⟩
theorem votingTwice_walk (x y : Bal) (m : Int) (w : World) (wm : (Lit.int .i64 m).wf = true) : Calls Tryz.prog 4 #[.agg #[.int .i64 x.k, .bool x.aye, .int .i64 x.l, .int .i64 x.a, .int .i64 x.n, .int .i64 x.s], .agg #[.int .i64 y.k, .bool y.aye, .int .i64 y.l, .int .i64 y.a, .int .i64 y.n, .int .i64 y.s], .int .i64 m] w fun e w' => e = .returned (.bool true) ∧ Below w.heap.size w w' := by
  by_cases hx : balOk x = true
  · by_cases hy : balOk y = true
    · by_cases c3 : capB x > 1048576
      · exact twice_o3 x y m w hx hy c3
      · by_cases c4 : capB y > 1048576
        · exact twice_o4 x y m w hx hy c3 c4
        · by_cases c5 : m < 0
          · exact twice_o5 x y m w hx hy c3 c4 c5
          · by_cases c6 : m > 1048576
            · exact twice_o6 x y m w hx hy c3 c4 c5 c6
            · exact votingTwice_in x y m w hx hy c3 c4 c5 c6
    · exact twice_o2 x y m w hx (by simpa using hy)
  · exact twice_o1 x y m w (by simpa using hx)
end Go.Proofs.YtlnjcfgihklppaaGreat

