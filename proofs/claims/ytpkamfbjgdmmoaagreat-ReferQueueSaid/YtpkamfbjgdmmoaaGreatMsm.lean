/-
  Joined texts.
-/
import Derived.TacticsInMore
import Derived.LoopNIn
import Derived.LoopIn
import Derived.Test.YtpkamfbjgdmmoaaGreatMsl

section
namespace Go.Proofs.YtpkamfbjgdmmoaaGreat
open Go.RowKit Go.Maps Go.Shelf
set_option linter.unusedVariables false
set_option linter.unusedSimpArgs false

set_option maxHeartbeats 8000000 in
set_option maxRecDepth 100000 in
attribute [local go_sem ↓] loadSt_V_hide loadSt_W_hide loadSt_T_hide storeT_hide in
theorem VoX.Unvote {vb N : Nat} {S : Vs} {F : FP} {w : World} (h : VoX vb N S F w) (hv : VInv S) {a r now : Int} (ha : (Lit.int .i64 a).wf = true) (hr : (Lit.int .i64 r).wf = true) :
    Calls Tryz.prog 22 #[.pointer (some ⟨vb, 0, none⟩), .int .i64 a, .int .i64 r, .int .i64 now] w fun e w' => e = .returned (.int .i64 (unvoteE S a r)) ∧ VoTo vb N (unvoteS S a r now) F w w' := by
  by_cases hac : isAcc a
  · have HA := Lib.hid (show decide (0 ≤ a ∧ a < 10) = true from decide_eq_true hac)
    have hL := hv.lens h
    obtain ⟨gv, gd, gw, gp, htb, hgV, -, -, -, -, hdV, -⟩ := h.tables
    obtain ⟨c72, -⟩ := htb w (Below.refl _ _)
    have hget := hgV w (Below.refl _ _) a r ha hr
    have hp := h.poll r
    obtain ⟨x, hx⟩ : ∃ x, x = (cget S.V a r).getD balS.zero := ⟨_, rfl⟩
    obtain ⟨q, hq⟩ : ∃ q, q = (cget S.V a r).isSome := ⟨_, rfl⟩
    rw [← hx, ← hq] at hget
    by_cases hh : plHas S.P r
    · cases q with
      | false =>
        have hE : unvoteE S a r = 4 := by unfold unvoteE; rw [if_neg (fun q => q hac), if_pos (.inr hq.symm)]
        have hS : unvoteS S a r now = S := by unfold unvoteS; rw [if_neg (by rw [hE]; decide)]
        rw [hE, hS]
        obtain ⟨k, rfl, hk, hst, hptr⟩ := plPtr_has (vb := vb) hh
        rw [hptr] at hp
        have HG := Lib.hid hget
        have HP := Lib.hid hp
        have HX := Lib.hid h
        clear hget hp h hv ha hr hac hL htb hgV hdV hx hq hh hE hS hk hst hptr
        go_enter Tryz.func22, Tryz.ntmps22
        go_wp2_with (first
          | (go_at_call 35; refine (bound_Account _ _).mono ?_; rw [HA.out]; rintro e w' ⟨rfl, hw⟩; rw [hw]; clear hw w')
          | (go_at_call 44; refine HP.out.mono ?_; rintro e w' ⟨rfl, hw⟩; rw [hw]; clear hw w')
          | (go_at_call 45; refine HG.out.mono ?_; rintro e w3 ⟨rfl, hb⟩; have K3 := Lib.hid hb; clear hb)
          | (refine wpl_allocS (s := balS) rfl rfl rfl ?_)
          | (refine wpl_storeS (s := balS) (t := x) (b := w3.heap.size) _ _ rfl rfl rfl rfl rfl (World.alloc_heap_new w3 _) (zeroS balS) ?_; rw [newS])
          | fail)
        exact bodyPost_ret (v := .int .i64 4) (by simp [results, Tryz.results22, go_sem]) rfl ⟨rfl, VoTo.of_below HX.out (K3.out.alloc K3.out.size _)⟩
      | true =>
        have hE : unvoteE S a r = 0 := by unfold unvoteE; rw [if_neg (fun q => q hac), if_neg (fun q => q.elim (fun q => q hh) (fun q => by rw [← hq] at q; cases q))]
        obtain ⟨x', hx'⟩ := Option.isSome_iff_exists.1 hq.symm
        have hxx : x = x' := by rw [hx, hx']; rfl
        obtain ⟨-, -, hok⟩ := hv.v _ (h.srt.1.get.1 hx')
        rw [← hxx] at hok
        dsimp only at hok
        obtain ⟨k, rfl, hk, hst, hptr⟩ := plPtr_has (vb := vb) hh
        rw [hptr] at hp
        rw [hE]
        have htr := hv.t k hk
        obtain ⟨tr, htr0⟩ : ∃ tr, tr = (S.P k).tr := ⟨_, rfl⟩
        obtain ⟨st, hst0⟩ : ∃ st, st = (S.P k).st := ⟨_, rfl⟩
        obtain ⟨en, hen0⟩ : ∃ en, en = (S.P k).en := ⟨_, rfl⟩
        obtain ⟨tt, htt0⟩ : ∃ tt, tt = (S.P k).t := ⟨_, rfl⟩
        obtain ⟨le, hle⟩ : ∃ le, le = gotS S a tr := ⟨_, rfl⟩
        have wtr : (Lit.int .i64 tr).wf = true := wfS (by omega) (by omega)
        obtain ⟨S1, hS1⟩ : ∃ S1, S1 = { S with V := cdel S.V a k } := ⟨_, rfl⟩
        have hdel := fun W hb => hdV W hb a k (by omega) ha hr
        rw [← hS1] at hdel
        have eNat : ((k : Int)).toNat = k := Int.toNat_natCast k
        have hW : ∀ F' w5 W, VoX vb N S1 F' w5 → Below w5.heap.size w5 W → W.cell? ⟨vb, k * 6 + 1, none⟩ = some (.int .i64 tr) ∧ W.cell? ⟨vb, k * 6 + 5, none⟩ = some (.int .i64 en) ∧ (loadSt_T (.pointer (some ⟨vb, k * 6 + 2, none⟩))).run Tryz.prog W = .ok (.agg (tlyS.f tt).toArray) W ∧ (∀ t' : Tl, (storeT (.pointer (some ⟨vb, k * 6 + 2, none⟩)) (.agg (tlyS.f t').toArray)).run Tryz.prog W = .ok () (W.setCells vb (k * 6 + 2) (tlyS.f t'))) ∧ ∀ t' : Tl, (W.setCells vb (k * 6 + 2) (tlyS.f t')).cell? ⟨vb, k * 6 + 1, none⟩ = some (.int .i64 tr) := fun F' w5 W hx5 hb => by
          obtain ⟨-, c1, c5, -, hrt, hth, -⟩ := (hx5.below hb).cells hk
          have eP : S1.P = S.P := by rw [hS1]
          rw [eP] at c1 c5 hrt
          refine ⟨by rw [htr0]; exact c1, by rw [hen0]; exact c5, by rw [htt0]; exact run_loadS (s := tlyS) hrt, fun t' => run_storeT hth t', fun t' => ?_⟩
          have := (((hx5.below hb).setTX hk t').cells hk).2.1
          have this : (W.setCells vb (k * 6 + 2) (tlyS.f t')).cell? ⟨vb, k * 6 + 1, none⟩ = some (.int .i64 (putP S1.P k ⟨(S1.P k).st, (S1.P k).tr, t'.a, t'.n, t'.s, (S1.P k).en⟩ k).tr) := this
          rw [putP_same, eP] at this
          rw [htr0]; exact this
        have hop : ∀ F' W, VoX vb N S1 F' W → Calls Tryz.prog 47 #[.pointer (some ⟨vb, k * 6, none⟩)] W fun e w' => e = .returned (.bool (st == 1)) ∧ w' = W := fun F' W hx5 => by
          have := hx5.open hk
          rw [show S1.P = S.P by rw [hS1], ← hst0] at this
          exact this
        have hwon : ∀ F' W, VoX vb N S1 F' W → Calls Tryz.prog 63 #[.pointer (some ⟨vb, k * 6, none⟩), .agg (balS.f x).toArray] W fun e w' => e = .returned (.bool (wonB st x)) ∧ Below W.heap.size W w' := fun F' W hx5 => by
          have := hx5.won hk x
          rw [show S1.P = S.P by rw [hS1], ← hst0] at this
          exact this
        have hgot : ∀ F' W, VoX vb N S1 F' W → Calls Tryz.prog 50 #[.pointer (some ⟨vb, 0, none⟩), .int .i64 a, .int .i64 tr] W fun e w' => e = .returned (.agg (wgtS.f le).toArray) ∧ Below W.heap.size W w' := fun F' W hx5 => by
          have := hx5.got ha wtr
          rw [show S1.G = S.G by rw [hS1]] at this
          rw [hle]; exact this
        have hsub : ∀ wx, Calls Tryz.prog 51 #[.agg (tlyS.f tt).toArray, .agg (tlyS.f (gainW x le)).toArray] wx fun e w' => e = .returned (.agg (tlyS.f (tt.sub (gainW x le))).toArray) ∧ Below wx.heap.size wx w' := fun wx => cSub tt (gainW x le) wx
        have HG := Lib.hid hget
        have HP := Lib.hid hp
        have HX := Lib.hid h
        have HTB := Lib.hid (show ∀ W, Below w.heap.size w W → W.cell? ⟨vb, 72, none⟩ = some (.pointer (some ⟨gv, 0, none⟩)) from fun W hb => (htb W hb).1)
        have HD := Lib.hid hdel
        have HW := Lib.hid hW
        have HO := Lib.hid hop
        have HWN := Lib.hid hwon
        have HGT := Lib.hid hgot
        have HSB := Lib.hid hsub
        have HGN := Lib.hid (cGain x le hok)
        have HK := Lib.hid hk
        have vS : unvoteS S a k now = (if st = 1 then { S1 with P := putP S1.P k ((S1.P k).withT (tt.sub (gainW x le))) } else if wonB st x = true then { S1 with Q := joinQ S1.Q a tr (wrap64 (en + periodI x.l 8)) x.a now } else S1) := by
          unfold unvoteS
          rw [hE, if_pos rfl, eNat, ← hst0, ← hx, ← htr0, ← hle, ← htt0, ← hen0, hS1]
        have hjoin : ∀ F' W, VoX vb N S1 F' W → ∀ u n : Int, Calls Tryz.prog 64 #[.pointer (some ⟨vb, 0, none⟩), .int .i64 a, .int .i64 tr, .int .i64 u, .int .i64 n, .int .i64 now] W fun e w' => e = .returned (.tuple #[]) ∧ VoTo vb N { S1 with Q := joinQ S1.Q a tr u n now } F' W w' := fun F' W hx5 u n => hx5.join (by rw [show S1.Q = S.Q by rw [hS1]]; omega) ha wtr u n now
        have hlev : wonB st x = true → 0 ≤ x.l ∧ x.l ≤ 6 := fun q => by
          unfold wonB at q
          by_cases k1 : x.k = 1
          · unfold balOk voteB shapedB at hok
            simp only [k1, if_true, Bool.and_eq_true] at hok
            exact withinB_out hok.1.1.1.1.1.1
          · rw [if_neg k1] at q; cases q
        have hper : wonB st x = true → ∀ wx : World, Calls Tryz.prog 65 #[.int .i64 x.l, .int .i64 8] wx fun e w' => e = .returned (.int .i64 (periodI x.l 8)) ∧ w' = wx := fun q wx => (conv_Period x.l 8 wx (by omega) (by omega) (hlev q).1 (hlev q).2).mono fun e w' h => ⟨h.1, h.2.symm⟩
        have HJ := Lib.hid hjoin
        have HPE := Lib.hid hper
        rw [vS]
        clear hget hp h hv ha hr hac hL htb hgV hdV hx hq hh hE hst hptr hx' hxx hok htr0 hst0 hen0 htt0 hle wtr hS1 hdel eNat hW hop hwon hgot hsub hk vS hjoin hlev hper htr
        obtain ⟨p, hp⟩ : ∃ p, p = wonB st x := ⟨_, rfl⟩
        rw [← hp] at HWN HPE ⊢
        clear hp
        by_cases q1 : st = 1
        · have q1' : (st == 1) = true := by simpa using q1
          rw [if_pos q1]
          clear q1
          go_enter Tryz.func22, Tryz.ntmps22
          go_upto_region 7 with (first
            | (go_at_call 35; refine (bound_Account _ _).mono ?_; rw [HA.out]; rintro e w' ⟨rfl, hw⟩; rw [hw]; clear hw w')
            | (go_at_call 44; refine HP.out.mono ?_; rintro e w' ⟨rfl, hw⟩; rw [hw]; clear hw w')
            | (go_at_call 45; refine HG.out.mono ?_; rintro e w3 ⟨rfl, hb⟩; have K3 := Lib.hid hb; clear hb)
            | (refine wpl_allocS (s := balS) rfl rfl rfl ?_)
            | (refine wpl_storeS (s := balS) (t := x) (b := w3.heap.size) _ _ rfl rfl rfl rfl rfl (World.alloc_heap_new w3 _) (zeroS balS) ?_; rw [newS])
            | fail)
          obtain ⟨yb, hyb⟩ : ∃ yb, yb = w3.heap.size := ⟨_, rfl⟩
          obtain ⟨w4, hw4⟩ : ∃ w4, w4 = w3.alloc (balS.obj x) := ⟨_, rfl⟩
          have hr4 : w4.rangeAt yb 0 (balS.f x) := by rw [hw4, hyb]; exact atS balS w3 x
          have hb4 : Below w.heap.size w w4 := by rw [hw4]; exact K3.out.alloc K3.out.size _
          have hl4 : yb < w4.heap.size ∧ w.heap.size ≤ yb := by rw [hw4, hyb]; exact ⟨by simp, K3.out.size⟩
          rw [← hw4, ← hyb]
          have c74 := HTB.out w4 hb4
          have H4 := Lib.hid (And.intro hr4 (And.intro hb4 hl4))
          clear hw4 hyb hr4 hb4 hl4 c72
          go_upto_region 8 with (first
            | (go_at_call 62; refine (HD.out w4 H4.out.2.1).mono ?_; rintro e w5 ⟨rfl, hto⟩; have H5 := Lib.hid hto; clear hto)
            | fail)
          obtain ⟨F5, hx5, hF5, ho5⟩ := H5.out
          obtain ⟨hr4, hb4, hl4, hl4'⟩ := H4.out
          have hnF : ∀ k, w.heap.size ≤ k → ¬ F k := fun k hk hf => by have := HX.out.lt hf; omega
          have hr5 : w5.rangeAt yb 0 (balS.f x) := rangeAt_block hr4 (ho5.block yb hl4 (hnF yb hl4') (fun h => h))
          have hl5 : yb < w5.heap.size := Nat.lt_of_lt_of_le hl4 ho5.grow.size
          have hn5 : yb ≠ vb := fun e => by have := HX.out.lt HX.out.own; omega
          have hSx : ∀ W, Below w5.heap.size w5 W → (loadSt_V (.pointer (some ⟨yb, 0, none⟩))).run Tryz.prog W = .ok (.agg (balS.f x).toArray) W := fun W hb => run_loadSt_V (rangeAt_block hr5 (hb.block yb hl5))
          have hSy : ∀ W, Below w5.heap.size w5 W → ∀ vs, (loadSt_V (.pointer (some ⟨yb, 0, none⟩))).run Tryz.prog (W.setCells vb (k * 6 + 2) vs) = .ok (.agg (balS.f x).toArray) (W.setCells vb (k * 6 + 2) vs) := fun W hb vs => run_loadSt_V (rangeAt_block hr5 ((setCells_off hn5 _ _ _).trans (hb.block yb hl5)))
          have hcl : ∀ W, Below w5.heap.size w5 W → W.cell? ⟨yb, 2, none⟩ = some (.int .i64 x.l) ∧ W.cell? ⟨yb, 3, none⟩ = some (.int .i64 x.a) := fun W hb => ⟨(rangeAt_block hr5 (hb.block yb hl5)) 2 _ rfl, (rangeAt_block hr5 (hb.block yb hl5)) 3 _ rfl⟩
          have H5x := Lib.hid (And.intro hx5 (And.intro hF5 ho5))
          have HW5 := Lib.hid (fun W hb => HW.out F5 w5 W hx5 hb)
          have HSX := Lib.hid hSx
          have HSY := Lib.hid hSy
          have HCL := Lib.hid hcl
          have K5 := Lib.hid (Below.refl w5.heap.size w5)
          clear hx5 hF5 ho5 hr4 hb4 hl4 hl4' hnF hr5 hl5 hn5 hSx hSy hcl c74
          go_upto_region 9 with (first
            | (go_at_call 47; refine (HO.out F5 w5 H5x.out.1).mono ?_; rintro e wx ⟨rfl, hw⟩; rw [hw]; clear hw wx)
            | fail)
          have SL := Lib.hid (show ∀ W, Below w5.heap.size w5 W → (loadSt_V (.pointer (some ⟨yb, 0, none⟩))).run Tryz.prog W = .ok (.agg (balS.f x).toArray) W ∧ W.cell? ⟨vb, k * 6 + 1, none⟩ = some (.int .i64 tr) from fun W hb => ⟨HSX.out W hb, (HW5.out W hb).1⟩)
          have K5d := Lib.hid (show Below w5.heap.size w5 w5.drew from (Below.refl _ w5).drew)
          have rT5 := (HW5.out _ K5d.out).2.2.1
          refine wp_region_held_drew (S := fun W => (loadSt_V (.pointer (some ⟨yb, 0, none⟩))).run Tryz.prog W = .ok (.agg (balS.f x).toArray) W ∧ W.cell? ⟨vb, k * 6 + 1, none⟩ = some (.int .i64 tr)) (by kernel_rfl) (SL.out _ K5d.out) (fun hHeld => ?_)
          refine wpAnyH_take (i := 0) (v := ?_) rfl (by kernel_rfl) (by kernel_rfl) (by kernel_rfl) (fun _ _ _ h => h) (Or.inl ⟨by kernel_rfl, ?_⟩) (by assumption) ?_
          rotate_left
          · intro w' hSw
            try dsimp only at hSw
            go_simp
            try with_reducible rfl
          try simp only [Act.put, List.getElem_toArray, List.getElem_cons_zero, List.getElem_cons_succ, List.setIfInBounds_toArray, List.set_cons_zero, List.set_cons_succ]
          refine wpAnyH_take (i := 1) (v := ?_) rfl (by kernel_rfl) (by kernel_rfl) (by kernel_rfl) (fun _ _ _ h => h) (Or.inl ⟨by kernel_rfl, ?_⟩) (by assumption) ?_
          rotate_left
          · intro w' hSw
            try dsimp only at hSw
            go_simp
            try with_reducible rfl
          try simp only [Act.put, List.getElem_toArray, List.getElem_cons_zero, List.getElem_cons_succ, List.setIfInBounds_toArray, List.set_cons_zero, List.set_cons_succ]
          refine wpAnyH_take (i := 2) (v := ?_) rfl (by kernel_rfl) (by kernel_rfl) (by kernel_rfl) (fun _ _ _ h => h) (Or.inl ⟨by kernel_rfl, ?_⟩) (by assumption) ?_
          rotate_left
          · intro w' hSw
            try dsimp only at hSw
            go_simp
            try with_reducible rfl
          try simp only [Act.put, List.getElem_toArray, List.getElem_cons_zero, List.getElem_cons_succ, List.setIfInBounds_toArray, List.set_cons_zero, List.set_cons_succ]
          refine wpAnyH_take (i := 3) (v := ?_) rfl (by kernel_rfl) (by kernel_rfl) (by kernel_rfl) (fun _ _ _ h => h) (Or.inl ⟨by kernel_rfl, ?_⟩) (by assumption) ?_
          rotate_left
          · intro w' hSw
            try dsimp only at hSw
            go_simp
            try with_reducible rfl
          try simp only [Act.put, List.getElem_toArray, List.getElem_cons_zero, List.getElem_cons_succ, List.setIfInBounds_toArray, List.set_cons_zero, List.set_cons_succ]
          refine wpAnyH_take (i := 5) (v := ?_) rfl (by kernel_rfl) (by kernel_rfl) (by kernel_rfl) (fun _ _ _ h => h) (Or.inl ⟨by kernel_rfl, ?_⟩) (by assumption) ?_
          rotate_left
          · intro w' hSw
            try dsimp only at hSw
            go_simp
            try with_reducible rfl
          try simp only [Act.put, List.getElem_toArray, List.getElem_cons_zero, List.getElem_cons_succ, List.setIfInBounds_toArray, List.set_cons_zero, List.set_cons_succ]
          refine wpAnyH_take (i := 6) (v := ?_) rfl (by kernel_rfl) (by kernel_rfl) (by kernel_rfl) (fun _ _ _ h => h) (Or.inl ⟨by kernel_rfl, ?_⟩) (by assumption) ?_
          rotate_left
          · intro w' hSw
            try dsimp only at hSw
            go_simp
            try with_reducible rfl
          try simp only [Act.put, List.getElem_toArray, List.getElem_cons_zero, List.getElem_cons_succ, List.setIfInBounds_toArray, List.set_cons_zero, List.set_cons_succ]
          refine wpAnyH_take (i := 7) (v := ?_) rfl (by kernel_rfl) (by kernel_rfl) (by kernel_rfl) (fun _ _ _ h => h) (Or.inl ⟨by kernel_rfl, ?_⟩) (by assumption) ?_
          rotate_left
          · intro w' hSw
            try dsimp only at hSw
            go_simp
            try with_reducible rfl
          try simp only [Act.put, List.getElem_toArray, List.getElem_cons_zero, List.getElem_cons_succ, List.setIfInBounds_toArray, List.set_cons_zero, List.set_cons_succ]
          refine wpAnyH_take (i := 8) (v := ?_) rfl (by kernel_rfl) (by kernel_rfl) (by kernel_rfl) (fun _ _ _ h => h) (Or.inl ⟨by kernel_rfl, ?_⟩) (by assumption) ?_
          rotate_left
          · intro w' hSw
            try dsimp only at hSw
            go_simp
            try with_reducible rfl
          try simp only [Act.put, List.getElem_toArray, List.getElem_cons_zero, List.getElem_cons_succ, List.setIfInBounds_toArray, List.set_cons_zero, List.set_cons_succ]
          refine wpAnyH_take (i := 9) (v := ?_) rfl (by kernel_rfl) (by kernel_rfl) (by kernel_rfl) (fun _ _ _ h => h) (Or.inl ⟨by kernel_rfl, ?_⟩) (by assumption) ?_
          rotate_left
          · intro w' hSw
            try dsimp only at hSw
            go_simp
            try with_reducible rfl
          try simp only [Act.put, List.getElem_toArray, List.getElem_cons_zero, List.getElem_cons_succ, List.setIfInBounds_toArray, List.set_cons_zero, List.set_cons_succ]
          refine wpAnyH_take (i := 10) (v := ?_) rfl (by kernel_rfl) (by kernel_rfl) (by kernel_rfl) (fun _ _ _ h => h) (Or.inl ⟨by kernel_rfl, ?_⟩) (by assumption) ?_
          rotate_left
          · intro w' hSw
            try dsimp only at hSw
            go_simp
            try with_reducible rfl
          try simp only [Act.put, List.getElem_toArray, List.getElem_cons_zero, List.getElem_cons_succ, List.setIfInBounds_toArray, List.set_cons_zero, List.set_cons_succ]
          refine wpAnyH_take (i := 11) (v := ?_) rfl (by kernel_rfl) (by kernel_rfl) (by kernel_rfl) (fun _ _ _ h => h) (Or.inl ⟨by kernel_rfl, ?_⟩) (by assumption) ?_
          rotate_left
          · intro w' hSw
            try dsimp only at hSw
            go_simp
            try with_reducible rfl
          try simp only [Act.put, List.getElem_toArray, List.getElem_cons_zero, List.getElem_cons_succ, List.setIfInBounds_toArray, List.set_cons_zero, List.set_cons_succ]
          refine wpAnyH_ready (rs := [4, 12]) (by kernel_rfl) (by simp) ?_
          refine AllReadyH.cons rfl (fun K hK => ?_) (AllReadyH.cons rfl (fun K hK => ?_) AllReadyH.nil)
          · rw [if_pos (by kernel_rfl)]
            go_simp
            skip
            first | refine hK.out _ _ ?_ (fun hHeld => ?_) | (go_wp2_with fail; refine hK.out _ _ ?_ (fun hHeld => ?_))
            · try dsimp only
              exact SL.out _ K5d.out
            clear hK K
            try simp only [Act.put, List.getElem_toArray, List.getElem_cons_zero, List.getElem_cons_succ, List.setIfInBounds_toArray, List.set_cons_zero, List.set_cons_succ]
            refine wpAnyH_ready (rs := [12]) (by kernel_rfl) (by simp) ?_
            refine AllReadyH.cons rfl (fun K hK => ?_) AllReadyH.nil
            rw [if_pos (by kernel_rfl)]
            go_simp
            go_at_call 50; refine (HGT.out F5 _ (H5x.out.1.below K5d.out)).mono ?_; rintro e w12 ⟨rfl, hb⟩; have K12 := Lib.hid (K5d.out.trans (hb.mono K5d.out.size)); have rT12 := (HW5.out _ K12.out).2.2.1; clear hb
            first | refine hK.out _ _ ?_ (fun hHeld => ?_) | (go_wp2_with fail; refine hK.out _ _ ?_ (fun hHeld => ?_))
            · try dsimp only
              exact SL.out _ K12.out
            clear hK K
            try simp only [Act.put, List.getElem_toArray, List.getElem_cons_zero, List.getElem_cons_succ, List.setIfInBounds_toArray, List.set_cons_zero, List.set_cons_succ]
            refine wpAnyH_ready (rs := [13]) (by kernel_rfl) (by simp) ?_
            refine AllReadyH.cons rfl (fun K hK => ?_) AllReadyH.nil
            rw [if_pos (by kernel_rfl)]
            go_simp
            go_at_call 52; refine (HGN.out _).mono ?_; rintro e w13 ⟨rfl, hb⟩; have K13 := Lib.hid (K12.out.trans (hb.mono K12.out.size)); have rT13 := (HW5.out _ K13.out).2.2.1; clear hb
            first | refine hK.out _ _ ?_ (fun hHeld => ?_) | (go_wp2_with fail; refine hK.out _ _ ?_ (fun hHeld => ?_))
            · try dsimp only
              exact SL.out _ K13.out
            clear hK K
            try simp only [Act.put, List.getElem_toArray, List.getElem_cons_zero, List.getElem_cons_succ, List.setIfInBounds_toArray, List.set_cons_zero, List.set_cons_succ]
            refine wpAnyH_ready (rs := [14]) (by kernel_rfl) (by simp) ?_
            refine AllReadyH.cons rfl (fun K hK => ?_) AllReadyH.nil
            rw [if_pos (by kernel_rfl)]
            go_simp
            go_at_call 51; refine (HSB.out _).mono ?_; rintro e w14 ⟨rfl, hb⟩; have K14 := Lib.hid (K13.out.trans (hb.mono K13.out.size)); have rS14 := (HW5.out _ K14.out).2.2.2.1 (tt.sub (gainW x le)); clear hb
            first | refine hK.out _ _ ?_ (fun hHeld => ?_) | (go_wp2_with fail; refine hK.out _ _ ?_ (fun hHeld => ?_))
            · try dsimp only
              exact SL.out _ K14.out
            clear hK K
            try simp only [Act.put, List.getElem_toArray, List.getElem_cons_zero, List.getElem_cons_succ, List.setIfInBounds_toArray, List.set_cons_zero, List.set_cons_succ]
            refine wpAnyH_take (i := 15) (v := ?_) rfl (by kernel_rfl) (by kernel_rfl) (by kernel_rfl) (fun _ _ _ h => h) (Or.inl ⟨by kernel_rfl, ?_⟩) (by assumption) ?_
            rotate_left
            · intro w' hSw
              try dsimp only at hSw
              go_simp
              try with_reducible rfl
            try simp only [Act.put, List.getElem_toArray, List.getElem_cons_zero, List.getElem_cons_succ, List.setIfInBounds_toArray, List.set_cons_zero, List.set_cons_succ]
            refine wpAnyH_take (i := 16) (v := ?_) rfl (by kernel_rfl) (by kernel_rfl) (by kernel_rfl) (fun _ _ _ h => h) (Or.inl ⟨by kernel_rfl, ?_⟩) (by assumption) ?_
            rotate_left
            · intro w' hSw
              try dsimp only at hSw
              go_simp
              try with_reducible rfl
            try simp only [Act.put, List.getElem_toArray, List.getElem_cons_zero, List.getElem_cons_succ, List.setIfInBounds_toArray, List.set_cons_zero, List.set_cons_succ]
            refine wpAnyH_ready (rs := [17]) (by kernel_rfl) (by simp) ?_
            refine AllReadyH.cons rfl (fun K hK => ?_) AllReadyH.nil
            rw [if_pos (by kernel_rfl)]
            go_simp
            skip
            first | refine hK.out _ _ ?_ (fun hHeld => ?_) | (go_wp2_with fail; refine hK.out _ _ ?_ (fun hHeld => ?_))
            · try dsimp only
              exact ⟨HSY.out _ K14.out _, (HW5.out _ K14.out).2.2.2.2 _⟩
            clear hK K
            try simp only [Act.put, List.getElem_toArray, List.getElem_cons_zero, List.getElem_cons_succ, List.setIfInBounds_toArray, List.set_cons_zero, List.set_cons_succ]
            refine wpAnyH_done (by kernel_rfl) ?_ _
            go_wp2_with fail
            exact bodyPost_ret (v := .int .i64 0) (by simp [results, Tryz.results22, go_sem]) rfl ⟨rfl, VoTo.later H4.out.2.1 (VoTo.cons H5x.out.2.1 H5x.out.2.2 (VoTo.later K14.out ((H5x.out.1.below K14.out).setT HK.out _)))⟩
          · rw [if_pos (by kernel_rfl)]
            go_simp
            go_at_call 50; refine (HGT.out F5 _ (H5x.out.1.below K5d.out)).mono ?_; rintro e w12 ⟨rfl, hb⟩; have K12 := Lib.hid (K5d.out.trans (hb.mono K5d.out.size)); have rT12 := (HW5.out _ K12.out).2.2.1; clear hb
            first | refine hK.out _ _ ?_ (fun hHeld => ?_) | (go_wp2_with fail; refine hK.out _ _ ?_ (fun hHeld => ?_))
            · try dsimp only
              exact SL.out _ K12.out
            clear hK K
            try simp only [Act.put, List.getElem_toArray, List.getElem_cons_zero, List.getElem_cons_succ, List.setIfInBounds_toArray, List.set_cons_zero, List.set_cons_succ]
            refine wpAnyH_ready (rs := [4, 13]) (by kernel_rfl) (by simp) ?_
            refine AllReadyH.cons rfl (fun K hK => ?_) (AllReadyH.cons rfl (fun K hK => ?_) AllReadyH.nil)
            · rw [if_pos (by kernel_rfl)]
              go_simp
              skip
              first | refine hK.out _ _ ?_ (fun hHeld => ?_) | (go_wp2_with fail; refine hK.out _ _ ?_ (fun hHeld => ?_))
              · try dsimp only
                exact SL.out _ K12.out
              clear hK K
              try simp only [Act.put, List.getElem_toArray, List.getElem_cons_zero, List.getElem_cons_succ, List.setIfInBounds_toArray, List.set_cons_zero, List.set_cons_succ]
              refine wpAnyH_ready (rs := [13]) (by kernel_rfl) (by simp) ?_
              refine AllReadyH.cons rfl (fun K hK => ?_) AllReadyH.nil
              rw [if_pos (by kernel_rfl)]
              go_simp
              go_at_call 52; refine (HGN.out _).mono ?_; rintro e w13 ⟨rfl, hb⟩; have K13 := Lib.hid (K12.out.trans (hb.mono K12.out.size)); have rT13 := (HW5.out _ K13.out).2.2.1; clear hb
              first | refine hK.out _ _ ?_ (fun hHeld => ?_) | (go_wp2_with fail; refine hK.out _ _ ?_ (fun hHeld => ?_))
              · try dsimp only
                exact SL.out _ K13.out
              clear hK K
              try simp only [Act.put, List.getElem_toArray, List.getElem_cons_zero, List.getElem_cons_succ, List.setIfInBounds_toArray, List.set_cons_zero, List.set_cons_succ]
              refine wpAnyH_ready (rs := [14]) (by kernel_rfl) (by simp) ?_
              refine AllReadyH.cons rfl (fun K hK => ?_) AllReadyH.nil
              rw [if_pos (by kernel_rfl)]
              go_simp
              go_at_call 51; refine (HSB.out _).mono ?_; rintro e w14 ⟨rfl, hb⟩; have K14 := Lib.hid (K13.out.trans (hb.mono K13.out.size)); have rS14 := (HW5.out _ K14.out).2.2.2.1 (tt.sub (gainW x le)); clear hb
              first | refine hK.out _ _ ?_ (fun hHeld => ?_) | (go_wp2_with fail; refine hK.out _ _ ?_ (fun hHeld => ?_))
              · try dsimp only
                exact SL.out _ K14.out
              clear hK K
              try simp only [Act.put, List.getElem_toArray, List.getElem_cons_zero, List.getElem_cons_succ, List.setIfInBounds_toArray, List.set_cons_zero, List.set_cons_succ]
              refine wpAnyH_take (i := 15) (v := ?_) rfl (by kernel_rfl) (by kernel_rfl) (by kernel_rfl) (fun _ _ _ h => h) (Or.inl ⟨by kernel_rfl, ?_⟩) (by assumption) ?_
              rotate_left
              · intro w' hSw
                try dsimp only at hSw
                go_simp
                try with_reducible rfl
              try simp only [Act.put, List.getElem_toArray, List.getElem_cons_zero, List.getElem_cons_succ, List.setIfInBounds_toArray, List.set_cons_zero, List.set_cons_succ]
              refine wpAnyH_take (i := 16) (v := ?_) rfl (by kernel_rfl) (by kernel_rfl) (by kernel_rfl) (fun _ _ _ h => h) (Or.inl ⟨by kernel_rfl, ?_⟩) (by assumption) ?_
              rotate_left
              · intro w' hSw
                try dsimp only at hSw
                go_simp
                try with_reducible rfl
              try simp only [Act.put, List.getElem_toArray, List.getElem_cons_zero, List.getElem_cons_succ, List.setIfInBounds_toArray, List.set_cons_zero, List.set_cons_succ]
              refine wpAnyH_ready (rs := [17]) (by kernel_rfl) (by simp) ?_
              refine AllReadyH.cons rfl (fun K hK => ?_) AllReadyH.nil
              rw [if_pos (by kernel_rfl)]
              go_simp
              skip
              first | refine hK.out _ _ ?_ (fun hHeld => ?_) | (go_wp2_with fail; refine hK.out _ _ ?_ (fun hHeld => ?_))
              · try dsimp only
                exact ⟨HSY.out _ K14.out _, (HW5.out _ K14.out).2.2.2.2 _⟩
              clear hK K
              try simp only [Act.put, List.getElem_toArray, List.getElem_cons_zero, List.getElem_cons_succ, List.setIfInBounds_toArray, List.set_cons_zero, List.set_cons_succ]
              refine wpAnyH_done (by kernel_rfl) ?_ _
              go_wp2_with fail
              exact bodyPost_ret (v := .int .i64 0) (by simp [results, Tryz.results22, go_sem]) rfl ⟨rfl, VoTo.later H4.out.2.1 (VoTo.cons H5x.out.2.1 H5x.out.2.2 (VoTo.later K14.out ((H5x.out.1.below K14.out).setT HK.out _)))⟩
            · rw [if_pos (by kernel_rfl)]
              go_simp
              go_at_call 52; refine (HGN.out _).mono ?_; rintro e w13 ⟨rfl, hb⟩; have K13 := Lib.hid (K12.out.trans (hb.mono K12.out.size)); have rT13 := (HW5.out _ K13.out).2.2.1; clear hb
              first | refine hK.out _ _ ?_ (fun hHeld => ?_) | (go_wp2_with fail; refine hK.out _ _ ?_ (fun hHeld => ?_))
              · try dsimp only
                exact SL.out _ K13.out
              clear hK K
              try simp only [Act.put, List.getElem_toArray, List.getElem_cons_zero, List.getElem_cons_succ, List.setIfInBounds_toArray, List.set_cons_zero, List.set_cons_succ]
              refine wpAnyH_ready (rs := [4]) (by kernel_rfl) (by simp) ?_
              refine AllReadyH.cons rfl (fun K hK => ?_) AllReadyH.nil
              rw [if_pos (by kernel_rfl)]
              go_simp
              skip
              first | refine hK.out _ _ ?_ (fun hHeld => ?_) | (go_wp2_with fail; refine hK.out _ _ ?_ (fun hHeld => ?_))
              · try dsimp only
                exact SL.out _ K13.out
              clear hK K
              try simp only [Act.put, List.getElem_toArray, List.getElem_cons_zero, List.getElem_cons_succ, List.setIfInBounds_toArray, List.set_cons_zero, List.set_cons_succ]
              refine wpAnyH_ready (rs := [14]) (by kernel_rfl) (by simp) ?_
              refine AllReadyH.cons rfl (fun K hK => ?_) AllReadyH.nil
              rw [if_pos (by kernel_rfl)]
              go_simp
              go_at_call 51; refine (HSB.out _).mono ?_; rintro e w14 ⟨rfl, hb⟩; have K14 := Lib.hid (K13.out.trans (hb.mono K13.out.size)); have rS14 := (HW5.out _ K14.out).2.2.2.1 (tt.sub (gainW x le)); clear hb
              first | refine hK.out _ _ ?_ (fun hHeld => ?_) | (go_wp2_with fail; refine hK.out _ _ ?_ (fun hHeld => ?_))
              · try dsimp only
                exact SL.out _ K14.out
              clear hK K
              try simp only [Act.put, List.getElem_toArray, List.getElem_cons_zero, List.getElem_cons_succ, List.setIfInBounds_toArray, List.set_cons_zero, List.set_cons_succ]
              refine wpAnyH_take (i := 15) (v := ?_) rfl (by kernel_rfl) (by kernel_rfl) (by kernel_rfl) (fun _ _ _ h => h) (Or.inl ⟨by kernel_rfl, ?_⟩) (by assumption) ?_
              rotate_left
              · intro w' hSw
                try dsimp only at hSw
                go_simp
                try with_reducible rfl
              try simp only [Act.put, List.getElem_toArray, List.getElem_cons_zero, List.getElem_cons_succ, List.setIfInBounds_toArray, List.set_cons_zero, List.set_cons_succ]
              refine wpAnyH_take (i := 16) (v := ?_) rfl (by kernel_rfl) (by kernel_rfl) (by kernel_rfl) (fun _ _ _ h => h) (Or.inl ⟨by kernel_rfl, ?_⟩) (by assumption) ?_
              rotate_left
              · intro w' hSw
                try dsimp only at hSw
                go_simp
                try with_reducible rfl
              try simp only [Act.put, List.getElem_toArray, List.getElem_cons_zero, List.getElem_cons_succ, List.setIfInBounds_toArray, List.set_cons_zero, List.set_cons_succ]
              refine wpAnyH_ready (rs := [17]) (by kernel_rfl) (by simp) ?_
              refine AllReadyH.cons rfl (fun K hK => ?_) AllReadyH.nil
              rw [if_pos (by kernel_rfl)]
              go_simp
              skip
              first | refine hK.out _ _ ?_ (fun hHeld => ?_) | (go_wp2_with fail; refine hK.out _ _ ?_ (fun hHeld => ?_))
              · try dsimp only
                exact ⟨HSY.out _ K14.out _, (HW5.out _ K14.out).2.2.2.2 _⟩
              clear hK K
              try simp only [Act.put, List.getElem_toArray, List.getElem_cons_zero, List.getElem_cons_succ, List.setIfInBounds_toArray, List.set_cons_zero, List.set_cons_succ]
              refine wpAnyH_done (by kernel_rfl) ?_ _
              go_wp2_with fail
              exact bodyPost_ret (v := .int .i64 0) (by simp [results, Tryz.results22, go_sem]) rfl ⟨rfl, VoTo.later H4.out.2.1 (VoTo.cons H5x.out.2.1 H5x.out.2.2 (VoTo.later K14.out ((H5x.out.1.below K14.out).setT HK.out _)))⟩
        · have q1' : (st == 1) = false := by simpa using q1
          rw [if_neg q1]
          clear q1
          cases p with
          | true =>
            rw [if_pos rfl]
            go_enter Tryz.func22, Tryz.ntmps22
            go_upto_region 7 with (first
              | (go_at_call 35; refine (bound_Account _ _).mono ?_; rw [HA.out]; rintro e w' ⟨rfl, hw⟩; rw [hw]; clear hw w')
              | (go_at_call 44; refine HP.out.mono ?_; rintro e w' ⟨rfl, hw⟩; rw [hw]; clear hw w')
              | (go_at_call 45; refine HG.out.mono ?_; rintro e w3 ⟨rfl, hb⟩; have K3 := Lib.hid hb; clear hb)
              | (refine wpl_allocS (s := balS) rfl rfl rfl ?_)
              | (refine wpl_storeS (s := balS) (t := x) (b := w3.heap.size) _ _ rfl rfl rfl rfl rfl (World.alloc_heap_new w3 _) (zeroS balS) ?_; rw [newS])
              | fail)
            obtain ⟨yb, hyb⟩ : ∃ yb, yb = w3.heap.size := ⟨_, rfl⟩
            obtain ⟨w4, hw4⟩ : ∃ w4, w4 = w3.alloc (balS.obj x) := ⟨_, rfl⟩
            have hr4 : w4.rangeAt yb 0 (balS.f x) := by rw [hw4, hyb]; exact atS balS w3 x
            have hb4 : Below w.heap.size w w4 := by rw [hw4]; exact K3.out.alloc K3.out.size _
            have hl4 : yb < w4.heap.size ∧ w.heap.size ≤ yb := by rw [hw4, hyb]; exact ⟨by simp, K3.out.size⟩
            rw [← hw4, ← hyb]
            have c74 := HTB.out w4 hb4
            have H4 := Lib.hid (And.intro hr4 (And.intro hb4 hl4))
            clear hw4 hyb hr4 hb4 hl4 c72
            go_upto_region 8 with (first
              | (go_at_call 62; refine (HD.out w4 H4.out.2.1).mono ?_; rintro e w5 ⟨rfl, hto⟩; have H5 := Lib.hid hto; clear hto)
              | fail)
            obtain ⟨F5, hx5, hF5, ho5⟩ := H5.out
            obtain ⟨hr4, hb4, hl4, hl4'⟩ := H4.out
            have hnF : ∀ k, w.heap.size ≤ k → ¬ F k := fun k hk hf => by have := HX.out.lt hf; omega
            have hr5 : w5.rangeAt yb 0 (balS.f x) := rangeAt_block hr4 (ho5.block yb hl4 (hnF yb hl4') (fun h => h))
            have hl5 : yb < w5.heap.size := Nat.lt_of_lt_of_le hl4 ho5.grow.size
            have hn5 : yb ≠ vb := fun e => by have := HX.out.lt HX.out.own; omega
            have hSx : ∀ W, Below w5.heap.size w5 W → (loadSt_V (.pointer (some ⟨yb, 0, none⟩))).run Tryz.prog W = .ok (.agg (balS.f x).toArray) W := fun W hb => run_loadSt_V (rangeAt_block hr5 (hb.block yb hl5))
            have hSy : ∀ W, Below w5.heap.size w5 W → ∀ vs, (loadSt_V (.pointer (some ⟨yb, 0, none⟩))).run Tryz.prog (W.setCells vb (k * 6 + 2) vs) = .ok (.agg (balS.f x).toArray) (W.setCells vb (k * 6 + 2) vs) := fun W hb vs => run_loadSt_V (rangeAt_block hr5 ((setCells_off hn5 _ _ _).trans (hb.block yb hl5)))
            have hcl : ∀ W, Below w5.heap.size w5 W → W.cell? ⟨yb, 2, none⟩ = some (.int .i64 x.l) ∧ W.cell? ⟨yb, 3, none⟩ = some (.int .i64 x.a) := fun W hb => ⟨(rangeAt_block hr5 (hb.block yb hl5)) 2 _ rfl, (rangeAt_block hr5 (hb.block yb hl5)) 3 _ rfl⟩
            have H5x := Lib.hid (And.intro hx5 (And.intro hF5 ho5))
            have HW5 := Lib.hid (fun W hb => HW.out F5 w5 W hx5 hb)
            have HSX := Lib.hid hSx
            have HSY := Lib.hid hSy
            have HCL := Lib.hid hcl
            have K5 := Lib.hid (Below.refl w5.heap.size w5)
            clear hx5 hF5 ho5 hr4 hb4 hl4 hl4' hnF hr5 hl5 hn5 hSx hSy hcl c74
            have lx5 := HSX.out _ K5.out
            go_upto_region 11 with (first
              | (go_at_call 47; refine (HO.out F5 w5 H5x.out.1).mono ?_; rintro e wx ⟨rfl, hw⟩; rw [hw]; clear hw wx)
              | (go_at_call 63; refine (HWN.out F5 w5 H5x.out.1).mono ?_; rintro e w6 ⟨rfl, hb⟩; have K6 := Lib.hid hb; clear hb)
              | fail)
            have K6d := Lib.hid (show Below w5.heap.size w5 w6.drew from K6.out.drew)
            obtain ⟨z1, z5, -⟩ := HW5.out _ K6d.out
            obtain ⟨y2, y3⟩ := HCL.out _ K6d.out
            clear lx5
            refine wp_region_still_tail 17 (by kernel_rfl) (by kernel_rfl) ?_
            simp only [List.take_succ_cons, List.take_zero, List.drop_succ_cons, List.drop_zero]
            change wpStill _ _ w6.drew _ _ _
            repeat still_step
            still_call (HPE.out (by trivial) w6.drew)
            repeat still_step
            refine wpStill_nil ?_
            change wpList _ _ _ _ _ w6.drew
            go_wp2_with (first
              | (go_at_call 64; refine (HJ.out F5 _ (H5x.out.1.below K6d.out) _ _).mono ?_; rintro e w7 ⟨rfl, hto⟩; have H7 := Lib.hid hto; clear hto)
              | fail)
            exact bodyPost_ret (v := .int .i64 0) (by simp [results, Tryz.results22, go_sem]) rfl ⟨rfl, VoTo.later H4.out.2.1 (VoTo.cons H5x.out.2.1 H5x.out.2.2 (VoTo.later K6d.out H7.out))⟩
          | false =>
            rw [if_neg (by decide)]
            go_enter Tryz.func22, Tryz.ntmps22
            go_upto_region 7 with (first
              | (go_at_call 35; refine (bound_Account _ _).mono ?_; rw [HA.out]; rintro e w' ⟨rfl, hw⟩; rw [hw]; clear hw w')
              | (go_at_call 44; refine HP.out.mono ?_; rintro e w' ⟨rfl, hw⟩; rw [hw]; clear hw w')
              | (go_at_call 45; refine HG.out.mono ?_; rintro e w3 ⟨rfl, hb⟩; have K3 := Lib.hid hb; clear hb)
              | (refine wpl_allocS (s := balS) rfl rfl rfl ?_)
              | (refine wpl_storeS (s := balS) (t := x) (b := w3.heap.size) _ _ rfl rfl rfl rfl rfl (World.alloc_heap_new w3 _) (zeroS balS) ?_; rw [newS])
              | fail)
            obtain ⟨yb, hyb⟩ : ∃ yb, yb = w3.heap.size := ⟨_, rfl⟩
            obtain ⟨w4, hw4⟩ : ∃ w4, w4 = w3.alloc (balS.obj x) := ⟨_, rfl⟩
            have hr4 : w4.rangeAt yb 0 (balS.f x) := by rw [hw4, hyb]; exact atS balS w3 x
            have hb4 : Below w.heap.size w w4 := by rw [hw4]; exact K3.out.alloc K3.out.size _
            have hl4 : yb < w4.heap.size ∧ w.heap.size ≤ yb := by rw [hw4, hyb]; exact ⟨by simp, K3.out.size⟩
            rw [← hw4, ← hyb]
            have c74 := HTB.out w4 hb4
            have H4 := Lib.hid (And.intro hr4 (And.intro hb4 hl4))
            clear hw4 hyb hr4 hb4 hl4 c72
            go_upto_region 8 with (first
              | (go_at_call 62; refine (HD.out w4 H4.out.2.1).mono ?_; rintro e w5 ⟨rfl, hto⟩; have H5 := Lib.hid hto; clear hto)
              | fail)
            obtain ⟨F5, hx5, hF5, ho5⟩ := H5.out
            obtain ⟨hr4, hb4, hl4, hl4'⟩ := H4.out
            have hnF : ∀ k, w.heap.size ≤ k → ¬ F k := fun k hk hf => by have := HX.out.lt hf; omega
            have hr5 : w5.rangeAt yb 0 (balS.f x) := rangeAt_block hr4 (ho5.block yb hl4 (hnF yb hl4') (fun h => h))
            have hl5 : yb < w5.heap.size := Nat.lt_of_lt_of_le hl4 ho5.grow.size
            have hn5 : yb ≠ vb := fun e => by have := HX.out.lt HX.out.own; omega
            have hSx : ∀ W, Below w5.heap.size w5 W → (loadSt_V (.pointer (some ⟨yb, 0, none⟩))).run Tryz.prog W = .ok (.agg (balS.f x).toArray) W := fun W hb => run_loadSt_V (rangeAt_block hr5 (hb.block yb hl5))
            have hSy : ∀ W, Below w5.heap.size w5 W → ∀ vs, (loadSt_V (.pointer (some ⟨yb, 0, none⟩))).run Tryz.prog (W.setCells vb (k * 6 + 2) vs) = .ok (.agg (balS.f x).toArray) (W.setCells vb (k * 6 + 2) vs) := fun W hb vs => run_loadSt_V (rangeAt_block hr5 ((setCells_off hn5 _ _ _).trans (hb.block yb hl5)))
            have hcl : ∀ W, Below w5.heap.size w5 W → W.cell? ⟨yb, 2, none⟩ = some (.int .i64 x.l) ∧ W.cell? ⟨yb, 3, none⟩ = some (.int .i64 x.a) := fun W hb => ⟨(rangeAt_block hr5 (hb.block yb hl5)) 2 _ rfl, (rangeAt_block hr5 (hb.block yb hl5)) 3 _ rfl⟩
            have H5x := Lib.hid (And.intro hx5 (And.intro hF5 ho5))
            have HW5 := Lib.hid (fun W hb => HW.out F5 w5 W hx5 hb)
            have HSX := Lib.hid hSx
            have HSY := Lib.hid hSy
            have HCL := Lib.hid hcl
            have K5 := Lib.hid (Below.refl w5.heap.size w5)
            clear hx5 hF5 ho5 hr4 hb4 hl4 hl4' hnF hr5 hl5 hn5 hSx hSy hcl c74
            have lx5 := HSX.out _ K5.out
            go_wp2_with (first
              | (go_at_call 47; refine (HO.out F5 w5 H5x.out.1).mono ?_; rintro e wx ⟨rfl, hw⟩; rw [hw]; clear hw wx)
              | (go_at_call 63; refine (HWN.out F5 w5 H5x.out.1).mono ?_; rintro e w6 ⟨rfl, hb⟩; have K6 := Lib.hid hb; clear hb)
              | fail)
            exact bodyPost_ret (v := .int .i64 0) (by simp [results, Tryz.results22, go_sem]) rfl ⟨rfl, VoTo.later H4.out.2.1 (VoTo.cons H5x.out.2.1 H5x.out.2.2 (VoTo.of_below H5x.out.1 K6.out))⟩
    · have hE : unvoteE S a r = 4 := by unfold unvoteE; rw [if_neg (fun q => q hac), if_pos (.inl hh)]
      have hS : unvoteS S a r now = S := by unfold unvoteS; rw [if_neg (by rw [hE]; decide)]
      rw [hE, hS]
      rw [plPtr_none hh] at hp
      have HG := Lib.hid hget
      have HP := Lib.hid hp
      have HX := Lib.hid h
      clear hget hp h hv ha hr hac hL htb hgV hdV hx hq hh hE hS
      go_enter Tryz.func22, Tryz.ntmps22
      go_wp2_with (first
        | (go_at_call 35; refine (bound_Account _ _).mono ?_; rw [HA.out]; rintro e w' ⟨rfl, hw⟩; rw [hw]; clear hw w')
        | (go_at_call 44; refine HP.out.mono ?_; rintro e w' ⟨rfl, hw⟩; rw [hw]; clear hw w')
        | (go_at_call 45; refine HG.out.mono ?_; rintro e w3 ⟨rfl, hb⟩; have K3 := Lib.hid hb; clear hb)
        | (refine wpl_allocS (s := balS) rfl rfl rfl ?_)
        | (refine wpl_storeS (s := balS) (t := x) (b := w3.heap.size) _ _ rfl rfl rfl rfl rfl (World.alloc_heap_new w3 _) (zeroS balS) ?_; rw [newS])
        | fail)
      exact bodyPost_ret (v := .int .i64 4) (by simp [results, Tryz.results22, go_sem]) rfl ⟨rfl, VoTo.of_below HX.out (K3.out.alloc K3.out.size _)⟩
  · have HA := Lib.hid (show decide (0 ≤ a ∧ a < 10) = false from decide_eq_false hac)
    have hE : unvoteE S a r = 1 := by unfold unvoteE; rw [if_pos hac]
    have hS : unvoteS S a r now = S := by unfold unvoteS; rw [if_neg (by rw [hE]; decide)]
    rw [hE, hS]
    have HX := Lib.hid h
    clear h hv ha hr hac hE hS
    go_enter Tryz.func22, Tryz.ntmps22
    go_wp2_with (first
      | (go_at_call 35; refine (bound_Account _ _).mono ?_; rw [HA.out]; rintro e w' ⟨rfl, hw⟩; rw [hw]; clear hw w')
      | fail)
    exact bodyPost_ret (v := .int .i64 1) (by simp [results, Tryz.results22, go_sem]) rfl ⟨rfl, VoTo.refl HX.out⟩
end Go.Proofs.YtpkamfbjgdmmoaaGreat
end

section
namespace Go.Proofs.YtpkamfbjgdmmoaaGreat
open Go.RowKit Go.Maps Go.Shelf
set_option linter.unusedVariables false
set_option linter.unusedSimpArgs false

def St12.vot (s : St12) (a ref : Int) (x : Bal) : St12 := ⟨s.R, voteS s.S s.A a ref x, s.A, voteM s.S s.A s.M a ref x⟩
def St12.unv (s : St12) (a ref now : Int) : St12 := ⟨s.R, unvoteS s.S a ref now, s.A, s.M⟩
def vinvB (S : Vs) (M : Cls Int) : Bool :=
  (S.V.all fun x => decide (((0 ≤ x.1.1 ∧ x.1.1 < 10) ∧ (0 ≤ x.1.2 ∧ x.1.2 < 12)) ∧ (S.P x.1.2.toNat).st ≠ 0 ∧ balOk x.2 = true)) &&
  (S.D.all fun x => decide (((0 ≤ x.1.1 ∧ x.1.1 < 10) ∧ (0 ≤ x.1.2 ∧ x.1.2 < 12)) ∧ (0 ≤ x.2.to ∧ x.2.to < 10) ∧ (0 ≤ x.2.l ∧ x.2.l ≤ 6) ∧ (0 ≤ x.2.n ∧ x.2.n ≤ 1073741824))) &&
  (S.G.all fun x => decide ((0 ≤ x.1.1 ∧ x.1.1 < 10) ∧ (0 ≤ x.1.2 ∧ x.1.2 < 12))) &&
  (S.Q.all fun x => decide ((0 ≤ x.1.1 ∧ x.1.1 < 10) ∧ (0 ≤ x.1.2 ∧ x.1.2 < 12))) &&
  ((List.range 12).all fun k => decide (0 ≤ (S.P k).tr ∧ (S.P k).tr < 4)) && decide (M.length < 10000)
theorem vinvB_of {S : Vs} {M : Cls Int} (h : vinvB S M = true) : VInv S ∧ M.length < 10000 := by
  unfold vinvB at h
  simp only [Bool.and_eq_true, List.all_eq_true] at h
  obtain ⟨⟨⟨⟨⟨h1, h2⟩, h3⟩, h4⟩, h5⟩, h6⟩ := h
  exact ⟨⟨fun x hx => of_decide_eq_true (h1 x hx), fun x hx => of_decide_eq_true (h2 x hx), fun x hx => of_decide_eq_true (h3 x hx), fun x hx => of_decide_eq_true (h4 x hx), fun k hk => of_decide_eq_true (h5 k (List.mem_range.2 hk))⟩, of_decide_eq_true h6⟩
/-- The pair, and boxes beside it. -/
def Pz (p r g vb : Nat) (ts : List Trk) (s : St12) (bs : List (Nat × List Value)) (w0 w : World) : Prop :=
  ∃ Z, RvAt r g vb w0.heap.size ts s.R s.S s.A s.M Z w ∧ (∃ px py pz, w.heap[p]? = some (.cells #[.pointer (some ⟨g, 0, none⟩), .pointer (some ⟨vb, 0, none⟩), .pointer (some ⟨r, 0, none⟩), .pointer px, .pointer py, .pointer pz, .int .i64 0] 40 (0, 0))) ∧ ¬ Z p ∧ w0.heap.size ≤ p ∧ Below w0.heap.size w0 w ∧ ∀ b ∈ bs, w.rangeAt b.1 0 b.2 ∧ ¬ Z b.1 ∧ b.1 < w.heap.size
section
variable {p r g vb : Nat} {ts : List Trk} {s : St12} {bs : List (Nat × List Value)} {w0 w w' : World}
theorem Pq.z (h : Pq p r g vb ts s w0 w) : Pz p r g vb ts s [] w0 w := by
  obtain ⟨Z, h1, h2, h3, h4, h5⟩ := h
  exact ⟨Z, h1, h2, h3, h4, h5, fun b hb => (List.not_mem_nil hb).elim⟩
theorem Pz.q (h : Pz p r g vb ts s bs w0 w) : Pq p r g vb ts s w0 w := by
  obtain ⟨Z, h1, h2, h3, h4, h5, -⟩ := h
  exact ⟨Z, h1, h2, h3, h4, h5⟩
theorem Pz.via (h : Pz p r g vb ts s bs w0 w) : ∃ Z, RvAt r g vb w0.heap.size ts s.R s.S s.A s.M Z w ∧ ∀ (s' : St12) w', RvTo r g vb w0.heap.size ts s'.R s'.S s'.A s'.M Z w w' → Pz p r g vb ts s' bs w0 w' := by
  obtain ⟨Z, h1, ⟨px, py, pz, h2⟩, h3, h4, h5, h6⟩ := h
  refine ⟨Z, h1, fun s' w' ⟨Z2, k1, k2, k3⟩ => ?_⟩
  have hp := (Array.getElem?_eq_some_iff.1 h2).1
  have hs := k3.grow.size
  have hs0 := h5.size
  exact ⟨Z2, k1, ⟨px, py, pz, (k3.block p hp h3 (fun h => h)).trans h2⟩, fun e => (k2 p e).elim h3 (fun e => by omega), h4, ⟨k3.grow.os.trans h5.os, k3.grow.tape.trans h5.tape, k3.grow.output.trans h5.output, Nat.le_trans hs0 hs, fun k hk => (k3.block k (by omega) (fun e => by have := h1.lo e; omega) (fun h => h)).trans (h5.block k hk)⟩, fun b hb => ⟨rangeAt_block (h6 b hb).1 (k3.block _ (h6 b hb).2.2 (h6 b hb).2.1 (fun h => h)), fun hz => (k2 _ hz).elim (h6 b hb).2.1 (fun e => by have := (h6 b hb).2.2; omega), Nat.lt_of_lt_of_le (h6 b hb).2.2 hs⟩⟩
theorem Pz.below (h : Pz p r g vb ts s bs w0 w) (hb : Below w.heap.size w w') : Pz p r g vb ts s bs w0 w' := by
  obtain ⟨Z, h1, h2⟩ := h.via
  exact h2 s w' (RvTo.of_below h1 hb)
theorem Pz.drew (h : Pz p r g vb ts s bs w0 w) : Pz p r g vb ts s bs w0 w.drew := h.below (Below.refl _ w).drew
theorem Pz.old (h : Pz p r g vb ts s bs w0 w) : Below w0.heap.size w0 w := h.q.old
theorem Pz.cells (h : Pz p r g vb ts s bs w0 w) : w.cell? ⟨p, 0, none⟩ = some (.pointer (some ⟨g, 0, none⟩)) ∧ w.cell? ⟨p, 1, none⟩ = some (.pointer (some ⟨vb, 0, none⟩)) ∧ w.cell? ⟨p, 2, none⟩ = some (.pointer (some ⟨r, 0, none⟩)) := h.q.cells
theorem Pz.dcells (h : Pz p r g vb ts s bs w0 w) : w.drew.cell? ⟨p, 0, none⟩ = some (.pointer (some ⟨g, 0, none⟩)) ∧ w.drew.cell? ⟨p, 1, none⟩ = some (.pointer (some ⟨vb, 0, none⟩)) ∧ w.drew.cell? ⟨p, 2, none⟩ = some (.pointer (some ⟨r, 0, none⟩)) := h.q.dcells
theorem Pz.new (h : Pz p r g vb ts s bs w0 w) {b : Nat} {l : List Value} (hr : w'.rangeAt b 0 l) (hb : Below w.heap.size w w') (hn : w.heap.size ≤ b) (hl : b < w'.heap.size) : Pz p r g vb ts s ((b, l) :: bs) w0 w' := by
  obtain ⟨Z, h1, ⟨px, py, pz, h2⟩, h3, h4, h5, h6⟩ := h
  have hp := (Array.getElem?_eq_some_iff.1 h2).1
  refine ⟨Z, h1.below hb, ⟨px, py, pz, (hb.block p hp).trans h2⟩, h3, h4, h5.trans (hb.mono h5.size), fun c hc => ?_⟩
  rcases List.mem_cons.1 hc with rfl | hc
  · exact ⟨hr, fun hz => by have := h1.lt hz; omega, hl⟩
  · exact ⟨rangeAt_block (h6 c hc).1 (hb.block _ (h6 c hc).2.2), (h6 c hc).2.1, Nat.lt_of_lt_of_le (h6 c hc).2.2 hb.size⟩
theorem Pz.bal (h : Pz p r g vb ts s bs w0 w) (t : Bal) : Pz p r g vb ts s ((w.heap.size, balS.f t) :: bs) w0 (w.alloc (balS.obj t)) := h.new (atS balS w t) ((Below.refl _ w).alloc (Nat.le_refl _) _) (Nat.le_refl _) (by simp)
theorem Pz.rf (h : Pz p r g vb ts s bs w0 w) (t : Rfm) : Pz p r g vb ts s ((w.heap.size, rfS.f t) :: bs) w0 (w.alloc (rfS.obj t)) := h.new (atS rfS w t) ((Below.refl _ w).alloc (Nat.le_refl _) _) (Nat.le_refl _) (by simp)
theorem Pz.at (h : Pz p r g vb ts s bs w0 w) {b : Nat} {l : List Value} (hm : (b, l) ∈ bs) : w.rangeAt b 0 l := by
  obtain ⟨Z, h1, h2, h3, h4, h5, h6⟩ := h
  exact (h6 _ hm).1
theorem Pz.loadB (h : Pz p r g vb ts s bs w0 w) {b : Nat} {t : Bal} (hm : (b, balS.f t) ∈ bs) : (loadSt_V (.pointer (some ⟨b, 0, none⟩))).run Tryz.prog w = .ok (.agg #[.int .i64 t.k, .bool t.aye, .int .i64 t.l, .int .i64 t.a, .int .i64 t.n, .int .i64 t.s]) w := run_loadS (s := balS) (h.at hm)
theorem Pz.Submit (h : Pz p r g vb ts s bs w0 w) (hi : rinB ts s.R = true) {a : Int} (ha : (Lit.int .i64 a).wf = true) (t : Int) (h0 : Hsh) (af now : Int) : Calls Tryz.prog 14 #[.pointer (some ⟨r, 0, none⟩), .pointer (some ⟨g, 0, none⟩), .pointer (some ⟨vb, 0, none⟩), .int .i64 a, .int .i64 t, .agg (hsB h0.l).toArray, .int .i64 af, .int .i64 now] w fun e w' => e = .returned (.tuple #[.int .i64 (subN ts s.R s.S s.A s.M a t af), .int .i64 (subE ts s.R s.S s.A s.M a t af)]) ∧ Pz p r g vb ts (s.sub ts a t h0 af now) bs w0 w' := by
  obtain ⟨Z, h1, lift⟩ := h.via
  exact (refer_Submit h1 (rinB_of hi) ha t h0 af now).mono fun e w' ⟨he, hto⟩ => ⟨he, lift _ _ hto⟩
theorem Pz.Deposit (h : Pz p r g vb ts s bs w0 w) (hi : rinB ts s.R = true) {a ref : Int} (ha : (Lit.int .i64 a).wf = true) (hr : (Lit.int .i64 ref).wf = true) : Calls Tryz.prog 15 #[.pointer (some ⟨r, 0, none⟩), .pointer (some ⟨g, 0, none⟩), .int .i64 a, .int .i64 ref] w fun e w' => e = .returned (.int .i64 (depE ts s.R s.A s.M a ref)) ∧ Pz p r g vb ts (s.dep ts a ref) bs w0 w' := by
  obtain ⟨Z, h1, lift⟩ := h.via
  exact (refer_Deposit h1 (rinB_of hi) ha hr).mono fun e w' ⟨he, hto⟩ => ⟨he, lift _ _ hto⟩
theorem Pz.Service (h : Pz p r g vb ts s bs w0 w) {now : Int} (hb : srvB ts s now = true) : Calls Tryz.prog 17 #[.pointer (some ⟨r, 0, none⟩), .pointer (some ⟨g, 0, none⟩), .pointer (some ⟨vb, 0, none⟩), .int .i64 now] w fun e w' => ∃ v, e = .returned v ∧ Pz p r g vb ts (s.srv ts now) bs w0 w' ∧ OwnR evR w.heap.size v (s.evs ts now) w' := by
  obtain ⟨Z, h1, lift⟩ := h.via
  unfold srvB at hb
  simp only [Bool.and_eq_true, List.all_eq_true] at hb
  obtain ⟨⟨⟨b1, b2⟩, b3⟩, b4⟩ := hb
  exact (refer_Service h1 (rinB_of b1) (fun x hx => of_decide_eq_true (b2 x hx)) (soonB_of b3) (fun k hk => of_decide_eq_true (b4 k (List.mem_range.2 hk)))).mono fun e w' ⟨v, he, hto, ho⟩ => ⟨v, he, lift (s.srv ts now) _ hto, ho⟩
theorem Pz.Vote (h : Pz p r g vb ts s bs w0 w) (hv : VInv s.S ∧ s.M.length < 10000) {a ref : Int} (ha : (Lit.int .i64 a).wf = true) (hr : (Lit.int .i64 ref).wf = true) (x : Bal) : Calls Tryz.prog 16 #[.pointer (some ⟨vb, 0, none⟩), .pointer (some ⟨g, 0, none⟩), .int .i64 a, .int .i64 ref, .agg #[.int .i64 x.k, .bool x.aye, .int .i64 x.l, .int .i64 x.a, .int .i64 x.n, .int .i64 x.s]] w fun e w' => e = .returned (.int .i64 (voteE s.S s.A a ref x)) ∧ Pz p r g vb ts (s.vot a ref x) bs w0 w' := by
  obtain ⟨Z, h1, lift⟩ := h.via
  obtain ⟨Zn, k1, k2⟩ := h1.lv
  exact (k1.Vote hv.1 hv.2 ha hr x).mono fun e w' ⟨he, hto⟩ => ⟨he, lift (s.vot a ref x) _ (k2 _ _ _ _ hto)⟩
theorem Pz.Unvote (h : Pz p r g vb ts s bs w0 w) (hv : VInv s.S) {a ref : Int} (ha : (Lit.int .i64 a).wf = true) (hr : (Lit.int .i64 ref).wf = true) (now : Int) : Calls Tryz.prog 22 #[.pointer (some ⟨vb, 0, none⟩), .int .i64 a, .int .i64 ref, .int .i64 now] w fun e w' => e = .returned (.int .i64 (unvoteE s.S a ref)) ∧ Pz p r g vb ts (s.unv a ref now) bs w0 w' := by
  obtain ⟨Z, h1, lift⟩ := h.via
  obtain ⟨F, k1, k2⟩ := h1.vo
  exact (k1.Unvote hv ha hr).mono fun e w' ⟨he, hto⟩ => ⟨he, lift (s.unv a ref now) _ (k2 _ _ hto)⟩
theorem Pz.Transfer (h : Pz p r g vb ts s bs w0 w) {a : Int} (ha : (Lit.int .i64 a).wf = true) (b n : Int) : Calls Tryz.prog 27 #[.pointer (some ⟨g, 0, none⟩), .int .i64 a, .int .i64 b, .int .i64 n] w fun e w' => e = .returned (.int .i64 (transE s.A s.M a b n)) ∧ Pz p r g vb ts ⟨s.R, s.S, transA s.A s.M a b n, s.M⟩ bs w0 w' := by
  obtain ⟨Z, h1, lift⟩ := h.via
  obtain ⟨FL, hld, lift2⟩ := h1.ld
  exact (ledger_TransferX hld ha b n).mono fun e w' ⟨he, hto⟩ => ⟨he, lift _ _ (lift2 _ _ _ hto)⟩
theorem Pz.Tally (h : Pz p r g vb ts s bs w0 w) (ref : Int) : Calls Tryz.prog 19 #[.pointer (some ⟨vb, 0, none⟩), .int .i64 ref] w fun e w' => e = .returned (.agg #[.int .i64 (tallyOf s.S ref).a, .int .i64 (tallyOf s.S ref).n, .int .i64 (tallyOf s.S ref).s]) ∧ Below w.heap.size w w' := by
  obtain ⟨Z, h1, lift⟩ := h.via
  obtain ⟨F, k1, k2⟩ := h1.vo
  exact k1.Tally ref
theorem Pz.Get (h : Pz p r g vb ts s bs w0 w) {b : Int} (hb : (Lit.int .i64 b).wf = true) : Calls Tryz.prog 21 #[.pointer (some ⟨r, 0, none⟩), .int .i64 b] w fun e w' => e = .returned (.tuple #[.agg (rfS.f (refAt s.R b)).toArray, .bool (refHas s.R b)]) ∧ Below w.heap.size w w' := by
  obtain ⟨Z, h1, lift⟩ := h.via
  obtain ⟨FR, hre, -⟩ := h1.re
  exact refer_Get hre hb
end
end Go.Proofs.YtpkamfbjgdmmoaaGreat
end

section
namespace Go.Proofs.YtpkamfbjgdmmoaaGreat
open Go.RowKit Go.Maps Go.Shelf
set_option linter.unusedVariables false
set_option linter.unusedSimpArgs false

theorem refer_All_nil (w : World) :
    Calls Tryz.prog 57 #[.pointer none] w fun e w' => ∃ bx v, e = .returned (.func (.func 119) #[] #[.pointer (some ⟨bx, 0, none⟩)]) ∧ Boxed w' bx 224 v ∧ OwnR pair_R (bx + 1) v (rowR 0 []) w' ∧ w.heap.size ≤ bx ∧ Below w.heap.size w w' := by
  have HROW := Lib.hid (grid_Row_nil_R 0 w)
  have HL := Lib.hid (show ([] : List (Int × Rfm)).length ≤ 1000000 by simp)
  go_enter Tryz.func57, Tryz.ntmps57
  go_wp2_with (first
    | (go_at_call 97; refine HROW.out.mono ?_; rintro e w1 ⟨f, rfl, hway, hb⟩; obtain ⟨gf, lb, rfl, hit⟩ := hway; have H1 := Lib.hid (And.intro hit hb); clear hit hb)
    | (go_at_call 96; refine (still_Now_R gf lb [] w1 H1.out.1.1 (H1.out.1.2 0).iterI HL.out).mono ?_; rintro e w2 ⟨v, rfl, hbx, ho, hb⟩; have H2 := Lib.hid (And.intro hbx (And.intro ho hb)); clear hbx ho hb)
    | fail)
  go_ret
  exact ⟨_, v, rfl, H2.out.1, H2.out.2.1, H1.out.2.size, H1.out.2.trans (H2.out.2.2.mono H1.out.2.size)⟩
set_option maxRecDepth 100000 in
attribute [local go_sem ↓] loadSt_R_hide in
theorem refer_Get_nil (b : Int) (w : World) : Calls Tryz.prog 21 #[.pointer none, .int .i64 b] w fun e w' => e = .returned (.tuple #[.agg (rfS.f rfS.zero).toArray, .bool false]) ∧ Below w.heap.size w w' := by
  go_enter Tryz.func21, Tryz.ntmps21
  go_upto_region 1 with (first | (refine wpl_allocS (s := rfS) rfl rfl rfl ?_) | fail)
  go_wp2_with (first
    | (refine wpl_storeS (s := rfS) (t := rfS.zero) (b := w.heap.size) _ _ rfl rfl rfl rfl rfl (World.alloc_heap_new w _) (zeroS rfS) ?_; rw [newS])
    | fail)
  exact bodyPost_ret (v := .tuple #[rfS.v rfS.zero, .bool false]) (results_S2 (s := rfS) Tryz.results21 rfl rfl (rangeAt_whole (T := rfS.T) (World.alloc_heap_new _ _))) rfl ⟨rfl, (Below.refl _ w).alloc (Nat.le_refl _) _⟩
theorem refer_Track_nil (b : Int) (w : World) : Calls Tryz.prog 30 #[.pointer none, .int .i64 b] w fun e w' => e = .returned (.tuple #[.agg (trkR.f trk0).toArray, .bool false]) ∧ Below w.heap.size w w' := by
  go_enter Tryz.func30, Tryz.ntmps30
  go_wp2_with (first
    | (refine wpl_allocR (r := trkR) (ty := 26) rfl rfl rfl ?_; intro C hC)
    | (refine wpl_storeR (r := trkR) (ty := 26) (t := trk0) (C := C) _ _ rfl rfl rfl rfl rfl (World.alloc_heap_new w _) hC ?_; rw [World.setRow_alloc_new])
    | fail)
  exact bodyPost_ret (v := .tuple #[.agg (trkR.f trk0).toArray, .bool false]) (by exact results_R2 (r := trkR) (t := trk0) (b := w.heap.size) Tryz.results30 rfl rfl (rangeAt_whole (T := 26) (World.alloc_heap_new _ _))) rfl ⟨rfl, (Below.refl _ w).alloc (Nat.le_refl _) _⟩
set_option maxRecDepth 100000 in
set_option maxHeartbeats 4000000 in
theorem refer_Submit_nil (g v : Option Addr) (a t : Int) (h0 : Hsh) (af now : Int) (w : World) : Calls Tryz.prog 14 #[.pointer none, .pointer g, .pointer v, .int .i64 a, .int .i64 t, .agg (hsB h0.l).toArray, .int .i64 af, .int .i64 now] w fun e w' => e = .returned (.tuple #[.int .i64 0, .int .i64 1]) ∧ Below w.heap.size w w' := by
  obtain ⟨W1, hW1⟩ : ∃ W1, W1 = w.alloc (.cells (hsB h0.l).toArray 43) := ⟨_, rfl⟩
  obtain ⟨hb, hhb⟩ : ∃ hb, hb = w.heap.size := ⟨_, rfl⟩
  have hB1 : Below w.heap.size w W1 := by rw [hW1]; exact (Below.refl _ w).alloc (Nat.le_refl _) _
  have HB1 := Lib.hid hB1
  have HT := Lib.hid (refer_Track_nil t W1)
  have HW1 := Lib.hid (And.intro hW1 hhb)
  clear hB1 hW1 hhb
  go_enter Tryz.func14, Tryz.ntmps14
  go_upto_region 1 with fail
  rw [← HW1.out.1, ← HW1.out.2]
  go_wp2_with (first
    | (go_at_call 30; refine HT.out.mono ?_; rintro e w2 ⟨rfl, hb2⟩; have H2 := Lib.hid hb2; clear hb2)
    | (refine wpl_allocR (r := trkR) (ty := 26) rfl rfl rfl ?_; intro C hC; have HC := Lib.hid hC; clear hC)
    | (refine wpl_storeR (r := trkR) (ty := 26) (t := trk0) (C := C) _ _ rfl rfl rfl rfl rfl (World.alloc_heap_new w2 _) HC.out ?_; rw [World.setRow_alloc_new])
    | fail)
  exact bodyPost_ret (v := .tuple #[.int .i64 0, .int .i64 1]) (by simp [results, Tryz.results14, go_sem]) rfl ⟨rfl, HB1.out.trans ((H2.out.alloc H2.out.size _).mono HB1.out.size)⟩
theorem refer_Deposit_nil (g : Option Addr) (a b : Int) (w : World) : Calls Tryz.prog 15 #[.pointer none, .pointer g, .int .i64 a, .int .i64 b] w fun e w' => e = .returned (.int .i64 1) ∧ w' = w := by
  go_enter Tryz.func15, Tryz.ntmps15
  go_wp2
  go_ret
  exact ⟨rfl, rfl⟩
theorem refer_Refund_nil (g : Option Addr) (a b : Int) (w : World) : Calls Tryz.prog 23 #[.pointer none, .pointer g, .int .i64 a, .int .i64 b] w fun e w' => e = .returned (.int .i64 1) ∧ w' = w := by
  go_enter Tryz.func23, Tryz.ntmps23
  go_wp2
  go_ret
  exact ⟨rfl, rfl⟩
theorem refer_Cancel_nil (v : Option Addr) (b now : Int) (w : World) : Calls Tryz.prog 26 #[.pointer none, .pointer v, .int .i64 b, .int .i64 now] w fun e w' => e = .returned (.tuple #[.slice none 0 0, .int .i64 1]) ∧ w' = w := by
  go_enter Tryz.func26, Tryz.ntmps26
  go_wp2
  exact bodyPost_ret (v := .tuple #[.slice none 0 0, .int .i64 1]) (by simp [results, Tryz.results26, go_sem]) rfl ⟨rfl, rfl⟩
theorem refer_Kill_nil (g v : Option Addr) (b now : Int) (w : World) : Calls Tryz.prog 24 #[.pointer none, .pointer g, .pointer v, .int .i64 b, .int .i64 now] w fun e w' => e = .returned (.tuple #[.slice none 0 0, .int .i64 1]) ∧ w' = w := by
  go_enter Tryz.func24, Tryz.ntmps24
  go_wp2
  exact bodyPost_ret (v := .tuple #[.slice none 0 0, .int .i64 1]) (by simp [results, Tryz.results24, go_sem]) rfl ⟨rfl, rfl⟩
theorem refer_Service_nil (g v : Option Addr) (now : Int) (w : World) : Calls Tryz.prog 17 #[.pointer none, .pointer g, .pointer v, .int .i64 now] w fun e w' => e = .returned (.slice none 0 0) ∧ Below w.heap.size w w' := by
  go_enter Tryz.func17, Tryz.ntmps17
  go_wp2
  go_ret
  exact ⟨rfl, by exact ((((Below.refl _ w).alloc (Nat.le_refl _) _).alloc (by simp) _).alloc (by simp; omega) _).alloc (by simp; omega) _⟩
end Go.Proofs.YtpkamfbjgdmmoaaGreat
end

section
namespace Go.Proofs.YtpkamfbjgdmmoaaGreat
open Go.RowKit Go.Maps Go.Shelf
attribute [local go_sem] Oper.semAt_some
set_option linter.unusedVariables false
set_option linter.unusedSimpArgs false

theorem rfInfoP : (Tryz.prog.info? 56).map (fun i => (i.zero, i.size, i.bytes)) = some (some (.agg (rfF rf0).toArray), 45, 136) := by kernel_rfl
/-- Numbers and referenda, as a row of referenda. -/
def refP : RowTy Tryz.prog (Int × Rfm) where
  T := 56
  S := 50
  k := 45
  f := fun x => rfF x.2
  len := fun x => by simp [rfF_len]
  one := fun x u hu => (rfF_lit _ u hu).one
  pos := by decide
  small := by decide
  slice := Tryz.underlying50
  info := by
    obtain ⟨i0, hi, hz⟩ := Option.map_eq_some_iff.1 rfInfoP
    simp only [Prod.mk.injEq] at hz
    obtain ⟨h1, h2, h3⟩ := hz
    exact ⟨i0, _, _, hi, h1, h2, rfl, h3, by decide⟩
  row := ⟨_, Tryz.underlying56, rfl⟩
def bsRf (ps : Array (Nat × Value)) : Sem Value := Instr.buildSlice 50 1 ps
theorem bsRf_hide (ps : Array (Nat × Value)) : Instr.buildSlice 50 1 ps = bsRf ps := rfl
set_option maxRecDepth 100000 in
theorem run_bsRf (x : Rfm) (w : World) : (bsRf #[(0, .agg (rfS.f x).toArray)]).run Tryz.prog w = .ok (.slice (some ⟨w.heap.size, 0, none⟩) 1 1) (w.alloc (.cells (rfS.f x).toArray 56)) := by
  obtain ⟨e0, e1, h, e3, e4, e5, e6, e7, e8, e9, f0, f1, f2, f3, ok⟩ := x
  obtain ⟨a0, a1, a2, a3, a4, a5, a6, a7, a8, a9, b0, b1, b2, b3, b4, b5, b6, b7, b8, b9, c0, c1, c2, c3, c4, c5, c6, c7, c8, c9, d0, d1, rfl⟩ := list32 h ok
  obtain ⟨i0, hi, hz⟩ := Option.map_eq_some_iff.1 rfInfoP
  simp only [Prod.mk.injEq] at hz
  obtain ⟨h1, h2, h3⟩ := hz
  exact run_buildSlice w _ _ 1 _ _ i0 _ Tryz.underlying50 hi h1 (by rw [h2]; decide) (by rw [h2]; decide) (by rw [h2]; kernel_rfl)
theorem rowR_get {β : Type} : ∀ (l : List β) (k i : Nat), (rowR k l)[i]? = (l[i]?).map (fun x => (((k + i : Nat) : Int), x))
  | [], k, i => by simp [rowR]
  | x :: l, k, 0 => by simp [rowR]
  | x :: l, k, i + 1 => by rw [rowR, List.getElem?_cons_succ, rowR_get l, List.getElem?_cons_succ]; congr 1; funext y; congr 1; omega
theorem rowR_pre {β : Type} {l : List β} {pre : List (Int × β)} {x : Int × β} (h : (pre ++ [x]) <+: rowR 0 l) : x.1 = (pre.length : Int) := by
  obtain ⟨t, ht⟩ := h
  have : (rowR 0 l)[pre.length]? = some x := by rw [← ht]; simp
  rw [rowR_get] at this
  obtain ⟨y, -, hy⟩ := Option.map_eq_some_iff.1 this
  rw [← hy]
  simp
set_option maxHeartbeats 4000000 in
set_option maxRecDepth 100000 in
attribute [local go_sem ↓] loadSt_R_hide bsRf_hide in
theorem law12_allW (p : Option Addr) (R : List Rfm) (w : World) (hcall : ∀ w', Below w.heap.size w w' → Calls Tryz.prog 57 #[.pointer p] w' fun e w'' => ∃ bx v, e = .returned (.func (.func 119) #[] #[.pointer (some ⟨bx, 0, none⟩)]) ∧ Boxed w'' bx 224 v ∧ OwnR pair_R (bx + 1) v (rowR 0 R) w'' ∧ w'.heap.size ≤ bx ∧ Below w'.heap.size w' w'') (hlen : R.length ≤ 50) :
    Calls Tryz.prog 18 #[.pointer p] w fun e w' => ∃ v, e = .returned (.tuple #[v, .bool true]) ∧ OwnR refP w.heap.size v (rowR 0 R) w' ∧ Below w.heap.size w w' := by
  obtain ⟨xs, hxs⟩ : ∃ xs, xs = rowR 0 R := ⟨_, rfl⟩
  have hxl : xs.length ≤ 50 := by rw [hxs, rowR_len]; exact hlen
  have hpr : ∀ (pre : List (Int × Rfm)) (x : Int × Rfm), (pre ++ [x]) <+: xs → x.1 = (pre.length : Int) := fun pre x h => rowR_pre (l := R) (by rw [← hxs]; exact h)
  rw [← hxs] at hcall ⊢
  have HPR := Lib.hid hpr
  have HXL := Lib.hid hxl
  clear hxl hpr hxs
  refine (callsIn_wide (n := 2)).1 ?_
  have q1 : ∀ g lb w, (binOp .eql 130 (.func g #[] lb) .nilFunc).run Tryz.prog w = .ok (.bool false) w := fun g lb w => by kernel_rfl
  refine callsIn_of_wp_marks Tryz.func18 rfl trivial ?_ rfl
  simp only [Tryz.ntmps18, List.size_toArray, List.length_cons, List.length_nil, Nat.reduceAdd, Nat.reduceSub, Array.replicate_succ, Array.replicate_zero, List.push_toArray, List.append_toArray, List.nil_append, List.cons_append]
  have hb2 : Below w.heap.size w ((w.alloc (.cells #[.slice none 0 0] 50)).alloc (.cells #[.bool false] 4)) := ((Below.refl _ w).alloc (Nat.le_refl _) _).alloc (by simp) _
  have hc := hcall _ hb2
  have HC := Lib.hid (And.intro hc hb2)
  have HLN := Lib.hid hlen
  clear hcall hlen hc hb2
  gi_wp2_with (first
    | (gi_at_call 57; refine (callsIn_wide.2 HC.out.1).mono ?_; rintro e wa ⟨bx, v0, rfl, hbx, ho, hn, hba⟩; have H0 := Lib.hid (And.intro hbx (And.intro ho (And.intro hn hba))); clear hbx ho hn hba)
    | (refine ⟨trivial, ?_⟩; gi_at_call 57; refine (callsIn_wide.2 HC.out.1).mono ?_; rintro e wa ⟨bx, v0, rfl, hbx, ho, hn, hba⟩; have H0 := Lib.hid (And.intro hbx (And.intro ho (And.intro hn hba))); clear hbx ho hn hba)
    | fail)
  have hit0 := now1_iter_R 0 bx v0 xs wa H0.out.1 H0.out.2.1.reads (by have := HXL.out; omega) (fun k => k < wa.heap.size) H0.out.1.lt (fun k hk => (H0.out.2.1.block hk).2)
  have HIT := Lib.hid (And.intro hit0 (And.intro enters_now_R H0.out.2.2.2))
  clear hit0 H0
  obtain ⟨s, hs⟩ : ∃ s, s = w.heap.size := ⟨_, rfl⟩
  obtain ⟨rb, hrb⟩ : ∃ rb, rb = s + 1 := ⟨_, rfl⟩
  obtain ⟨ob, hob⟩ : ∃ ob, ob = wa.heap.size := ⟨_, rfl⟩
  obtain ⟨w1, hw1⟩ : ∃ w1, w1 = wa.alloc (.cells #[.slice none 0 0] 50) := ⟨_, rfl⟩
  rw [← hw1]
  have hBa : Below w.heap.size w wa := HC.out.2.trans (HIT.out.2.2.mono HC.out.2.size)
  have hsza : s + 2 ≤ wa.heap.size := by have := HIT.out.2.2.size; rw [World.size_alloc, World.size_alloc] at this; omega
  have hB1a : Below wa.heap.size wa w1 := by rw [hw1]; exact (Below.refl _ _).alloc (Nat.le_refl _) _
  have hB : Below w.heap.size w w1 := hBa.trans (hB1a.mono hBa.size)
  have hsz : w1.heap.size = ob + 1 := by rw [hw1, hob]; simp
  have hx0 : Boxed ((w.alloc (.cells #[.slice none 0 0] 50)).alloc (.cells #[.bool false] 4)) s 50 (.slice none 0 0) := by rw [hs]; exact (Boxed.new w _ _).alloc _
  have hx1 : Boxed ((w.alloc (.cells #[.slice none 0 0] 50)).alloc (.cells #[.bool false] 4)) rb 4 (.bool false) := by
    have := Boxed.new (w.alloc (.cells #[.slice none 0 0] 50)) 4 (.bool false)
    rw [World.size_alloc] at this
    rw [hrb, hs]; exact this
  have x0 : Boxed w1 s 50 (.slice none 0 0) := (hB1a.block s (by omega)).trans ((HIT.out.2.2.block s hx0.lt).trans hx0)
  have x1 : Boxed w1 rb 4 (.bool false) := (hB1a.block rb (by omega)).trans ((HIT.out.2.2.block rb hx1.lt).trans hx1)
  have x2 : Boxed w1 ob 50 (.slice none 0 0) := by rw [hw1, hob]; exact Boxed.new wa _ _
  rw [← hs, ← hrb, ← hob]
  have l0 : s < rb := by omega
  have l1 : rb < ob := by omega
  have l2 : ob < w1.heap.size := by omega
  have HB1 := Lib.hid (And.intro hB hB1a)
  have HS := Lib.hid (And.intro hs (And.intro hsz hob))
  have HR := Lib.hid (And.intro x0 x1)
  clear hw1 hs hrb hB hB1a hBa hsz hsza hx0 hx1 x0 x1 hob
  refine range_outerAI (n := 0) (gf := 119) (lb := #[.pointer (some ⟨bx, 0, none⟩)]) rfl HIT.out.2.1 HIT.out.1 (Grow.of_below HB1.out.2) (fun k hk => ⟨hk, HB1.out.2.block k hk⟩) (fun _ => rfl)
    (fun k => k = ob) (by rintro k rfl; exact ⟨l2, fun h => by have := HS.out.2.2; omega⟩) (ColI refP w1.heap.size ob) (fun _ _ _ _ => False) (ColI.stab l2) (fun c _ _ _ h => h.elim)
    ⟨_, x2, OwnR.nil _ _, fun k => ⟨fun h => h.elim, fun h => by cases h⟩, Nat.le_refl _⟩
    (fun x N => { tmps := #[.pointer p, undef, .pointer (some ⟨s, 0, none⟩), .pointer (some ⟨rb, 0, none⟩), .func (.func 119) #[] #[.pointer (some ⟨bx, 0, none⟩)], .pointer (some ⟨ob, 0, none⟩), .int .i64 x.1, .pointer (some ⟨N, 0, none⟩), .pointer p, .func (.func 119) #[] #[.pointer (some ⟨bx, 0, none⟩)], .func (.func 119) #[] #[.pointer (some ⟨bx, 0, none⟩)], .bool false, .func (.func 119) #[] #[.pointer (some ⟨bx, 0, none⟩)], .int .i64 x.1, .agg (rfS.f x.2).toArray, undef, undef, undef, undef, undef, undef, undef, undef, undef, undef, undef, undef, undef], defers := [] })
    (fun x N W => W.heap[N]? = some (.cells (rfS.f x.2).toArray 56 (0, 0))) (fun x N W W' h e => e.trans h) ?assign ?body ?done ?stop
  case assign =>
    intro l x W K hK
    simp only [encs_R]
    gi_wp2_with (first
      | (refine wplIn_allocS (s := rfS) rfl rfl rfl ?_)
      | (refine wplIn_storeS (s := rfS) (t := x.2) (b := W.heap.size) _ _ rfl rfl rfl rfl rfl (World.alloc_heap_new W _) (zeroS rfS) ?_; rw [newS])
      | fail)
    exact hK _ ((Below.refl _ W).alloc (Nat.le_refl _) _) (by simp) (World.alloc_heap_new _ _)
  case body =>
    rintro l pre x Φ N W hpx ⟨v1, hI⟩ hl1 hΦ - hlN hNW hAt
    have hpl := hpx.length_le
    rw [List.length_append, List.length_singleton] at hpl
    have hpl2 : pre.length ≤ 49 := by have := HXL.out; omega
    have hx1 := HPR.out _ _ hpx
    obtain ⟨ao1, cap1, rfl⟩ := hI.own.lenOf
    obtain ⟨pl, hm⟩ : ∃ pl, pl = pre.length := ⟨_, rfl⟩
    rw [← hm] at hI hx1
    have c0 := hI.bx.cell
    have hlW : ob < W.heap.size := by have := hI.sz; omega
    have hsW : w1.heap.size ≤ W.heap.size := hI.sz
    obtain ⟨i, hi⟩ : ∃ i, i = x.1 := ⟨_, rfl⟩
    rw [← hi] at hx1 ⊢
    have g1 : (i != (pl : Int)) = false := by simp [hx1]
    have g2 : ¬ i > 100 := by omega
    have lN : (loadSt_R (.pointer (some ⟨N, 0, none⟩))).run Tryz.prog W = .ok (.agg (rfS.f x.2).toArray) W := run_loadSt_R (rangeAt_whole (T := rfS.T) hAt)
    have bS := run_bsRf x.2 W
    have HI := Lib.hid hI
    have HPH := Lib.hid hΦ
    have HPL := Lib.hid hpl2
    clear hI hΦ hm hpl hpl2 hAt hx1 hi
    gi_wp2_with (first
      | (refine wplIn_appR (r := refP) (y := x) rfl rfl rfl rfl ((OwnR.of HI.out.own (Nat.le_refl _) (fun k hk => Below.heap_alloc _ _ _ (HI.out.own.block hk).2))) (rangeAt_whole (T := 56) (by exact World.alloc_heap_new _ _)) (by have := HPL.out; omega) (by have h := hsW; rw [World.size_alloc]; omega) ?_; intro v' w3 hO hg3 hat3 hne; have cB : w3.cell? ⟨ob, 0, none⟩ = some (.slice ao1 pl cap1) := (World.cell?_of_block (a := ⟨ob, 0, none⟩) ((hg3.block ob (by rw [World.size_alloc]; omega) (fun e => by have := (HI.out.own.block e.symm).1; omega)).trans (Below.heap_alloc _ _ _ hlW))).trans c0; have fB : w3.frozen? ⟨ob, 0, none⟩ = false := ((HI.out.bx.alloc _).kept hg3 (fun e => by have := (HI.out.own.block e.symm).1; omega)).frozen; obtain ⟨ao2, m2, cap2, hm2, rfl⟩ : ∃ ao m cap, m = pre.length + 1 ∧ v' = .slice ao m cap := by { obtain ⟨a, c, e⟩ := hO.lenOf; exact ⟨a, _, c, by simp, e⟩ }; have hm3 : True := trivial; have HO := Lib.hid hO; have HG3 := Lib.hid hg3; have HAT := Lib.hid hat3; clear hO hg3 hat3 hm2 hne)
      | fail)
    exact ColC.step HI.out l2 rfl ((Below.refl _ W).alloc (Nat.le_refl _) _) HO.out HG3.out HAT.out
  case done =>
    rintro D Φ W3 ⟨v3, hC⟩ hon hD hnD hK
    obtain ⟨x0, x1⟩ := HR.out
    have hkeep : ∀ k, k < ob → W3.heap[k]? = w1.heap[k]? := fun k hk => hon.block k (by omega) (by omega) (fun h => h)
    have y0 : Boxed W3 s 50 (.slice none 0 0) := (hkeep s (by omega)).trans x0
    have y1 : Boxed W3 rb 4 (.bool false) := (hkeep rb (by omega)).trans x1
    obtain ⟨ao1, cp1, rfl⟩ := hC.own.lenOf
    obtain ⟨m1, hm1⟩ : ∃ m, m = xs.length := ⟨_, rfl⟩
    rw [← hm1] at hC
    have c0 := hC.bx.cell
    have c2 := y0.cell
    have c4 := y1.cell
    have f2 := y0.frozen
    have f4 := y1.frozen
    have hiff := hC.iff
    have hpost : ∀ W5, W5 = (W3.setCell ⟨s, 0, none⟩ (.slice ao1 m1 cp1)).setCell ⟨rb, 0, none⟩ (.bool true) →
        W5.heap[D]? = some (.deferred (some [])) ∧ OwnR refP w.heap.size (.slice ao1 m1 cp1) xs (W5.putObj D (.deferred none)) ∧ Below w.heap.size w (W5.putObj D (.deferred none)) ∧
        (W5.putObj D (.deferred none)).cell? ⟨s, 0, none⟩ = some (.slice ao1 m1 cp1) ∧ (W5.putObj D (.deferred none)).cell? ⟨rb, 0, none⟩ = some (.bool true) := by
      intro W5 hW5
      obtain ⟨hs, hsz, hob⟩ := HS.out
      have hDl : D < W3.heap.size := (Array.getElem?_eq_some_iff.1 hK).1
      have hb : ∀ k, ob ≤ k → W5.heap[k]? = W3.heap[k]? := fun k hk => by
        rw [hW5, Below.heap_setCell _ _ _ k (by show k ≠ rb; omega), Below.heap_setCell _ _ _ k (by show k ≠ s; omega)]
      have b0 : Boxed W5 s 50 (.slice ao1 m1 cp1) := by
        rw [hW5]
        exact (Below.heap_setCell _ _ _ s (by show s ≠ rb; omega)).trans (y0.set _)
      have b2 : Boxed W5 rb 4 (.bool true) := by
        rw [hW5]
        have : Boxed (W3.setCell ⟨s, 0, none⟩ (.slice ao1 m1 cp1)) rb 4 (.bool false) := (Below.heap_setCell _ _ _ rb (by show rb ≠ s; omega)).trans y1
        exact this.set _
      have hput : ∀ k, k ≠ D → (W5.putObj D (.deferred none)).heap[k]? = W5.heap[k]? := fun k hk => put_other hk
      have hO2 := hon
      have hw2 := HB1.out.1
      refine ⟨(hb D (by omega)).trans hK, hC.own.of (by omega) (fun k hk => ?_), ⟨?_, ?_, ?_, ?_, fun k hk => ?_⟩, ((Boxed.cell (show Boxed (W5.putObj D (.deferred none)) s _ _ from (hput s (by omega)).trans b0))), ((Boxed.cell (show Boxed (W5.putObj D (.deferred none)) rb _ _ from (hput rb (by omega)).trans b2)))⟩
      · rw [hput k (fun e => hnD ((hiff D).2 (by rw [← e]; exact hk)))]; exact hb k (by have := (hC.own.block hk).1; omega)
      · rw [hW5]; exact hO2.grow.os.trans hw2.os
      · rw [hW5]; exact hO2.grow.tape.trans hw2.tape
      · rw [hW5]; exact hO2.grow.output.trans hw2.output
      · have h1 := hO2.grow.size; have h2 := hw2.size; rw [hW5]; simp [World.putObj, World.setCell]; omega
      · rw [hput k (by omega), hW5, Below.heap_setCell _ _ _ k (by show k ≠ rb; omega), Below.heap_setCell _ _ _ k (by show k ≠ s; omega), hO2.block k (by omega) (by omega) (fun h => h)]
        exact hw2.block k (by omega)
    have HP := Lib.hid hpost
    clear hpost hC hon hK hkeep y0 y1 x0 x1 hm1
    gi_wp2
    obtain ⟨W5, hW5⟩ : ∃ W5, W5 = (W3.setCell ⟨s, 0, none⟩ (.slice ao1 m1 cp1)).setCell ⟨rb, 0, none⟩ (.bool true) := ⟨_, rfl⟩
    rw [← hW5]
    obtain ⟨p1, p2, p4, p5, p7⟩ := HP.out W5 hW5
    refine ⟨by simp, .inl ⟨_, _, rfl, run_takeDeferred p1, ?_⟩⟩
    obtain ⟨W6, hW6⟩ : ∃ W6, W6 = W5.putObj D (.deferred none) := ⟨_, rfl⟩
    rw [← hW6] at p2 p4 p5 p7 ⊢
    clear hW6 hW5
    exact ⟨.tuple #[.slice ao1 m1 cp1, .bool true], by simp [results, Tryz.results18, go_sem, p5, p7], _, rfl, p2, p4⟩
  case stop =>
    rintro D Φ c pre W3 hpre h
    exact h.elim
theorem law12_all {r N : Nat} {ts : List Trk} {R : List Rfm} {F : FP} {w : World} (h : ReX r N ts R F w) (hl : R.length ≤ 50) :
    Calls Tryz.prog 18 #[.pointer (some ⟨r, 0, none⟩)] w fun e w' => ∃ v, e = .returned (.tuple #[v, .bool true]) ∧ OwnR refP w.heap.size v (rowR 0 R) w' ∧ Below w.heap.size w w' :=
  law12_allW _ R w (fun w' hb => refer_All (h.below hb) (by omega)) hl
end Go.Proofs.YtpkamfbjgdmmoaaGreat
end

section
namespace Go.Proofs.YtpkamfbjgdmmoaaGreat
open Go.RowKit Go.Maps Go.Shelf
theorem Pq.All {p r g vb : Nat} {ts : List Trk} {s : St12} {w0 w : World} (h : Pq p r g vb ts s w0 w) {n : Nat} (hn : s.R.length = n) (hl : n ≤ 50) : Calls Tryz.prog 18 #[.pointer (some ⟨r, 0, none⟩)] w fun e w' => ∃ ao cap, e = .returned (.tuple #[.slice ao n cap, .bool true]) ∧ OwnR refP w.heap.size (.slice ao n cap) (rowR 0 s.R) w' ∧ Below w.heap.size w w' := by
  obtain ⟨Z, h1, lift⟩ := P12.via h
  obtain ⟨FR, hre, -⟩ := h1.re
  refine (law12_all hre (by omega)).mono ?_
  rintro e w' ⟨v, rfl, ho, hb⟩
  obtain ⟨ao, cp, hv⟩ := ho.lenOf
  rw [rowR_len, hn] at hv
  subst hv
  exact ⟨ao, cp, rfl, ho, hb⟩
end Go.Proofs.YtpkamfbjgdmmoaaGreat
end
