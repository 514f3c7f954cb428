/-
  Joined texts.
-/
import Derived.WalkKit
import Derived.ProofKit
import Derived.OpenShut
import Derived.Carry
import Derived.Below
import Derived.ChangeOld
import Derived.ChangeArms
import Derived.Deep.Matrix
import Derived.Laws.MakeOwn
import Derived.BigRegion
import Derived.RegionTactic
import Derived.StillTailTactics
import Derived.Test.YtbpemdihoabbcaaGreatMhi
import Derived.Conc.WalkWords
namespace Go.Proofs.YtbpemdihoabbcaaGreat
set_option linter.unusedVariables false
set_option linter.unusedSimpArgs false
set_option maxRecDepth 100000
set_option maxHeartbeats 8000000
section
open Go.RowKit Go.Maps Go.Shelf
attribute [local go_sem ↓] loadSt_V_hide loadSt_W_hide loadSt_T_hide storeT_hide in
theorem VoX.Unvote {vb N : Nat} {S : Vs} {F : FP} {w : World} (h : VoX vb N S F w) (hv : VInv S) {a r now : Int} (ha : (Lit.int .i64 a).wf = true) (hr : (Lit.int .i64 r).wf = true) :
 Calls Tryz.prog 23 #[.pointer (some ⟨vb, 0, none⟩), .int .i64 a, .int .i64 r, .int .i64 now] w fun e w' => e = .returned (.int .i64 (unvoteE S a r)) ∧ VoTo vb N (unvoteS S a r now) F w w' := by
 by_cases hac : isAcc a
 · have HA := Lib.hid (show decide (0 ≤ a ∧ a < 10) = true from decide_eq_true hac)
   have hL := hv.lens h
   obtain ⟨gv, gd, gw, gp, htb, hgV, -, -, -, -, hdV, -⟩ := h.tables
   obtain ⟨c72, -⟩ := htb w (Below.refl _ _)
   have hget := hgV w (Below.refl _ _) a r ha hr
   have hp := h.poll r
   obtain ⟨x, hx⟩ : ∃ x, x = (cget S.V a r).getD balS.zero := ⟨_, rfl⟩
   obtain ⟨q, hq⟩ : ∃ q, q = (cget S.V a r).isSome := ⟨_, rfl⟩
   rw [← hx, ← hq] at hget
   by_cases hh : plHas S.P r
   · cases q with
     | false =>
      have hE : unvoteE S a r = 4 := by unfold unvoteE; rw [if_neg (fun q => q hac), if_pos (.inr hq.symm)]
      have hS : unvoteS S a r now = S := by unfold unvoteS; rw [if_neg (by rw [hE]; decide)]
      rw [hE, hS]
      obtain ⟨k, rfl, hk, hst, hptr⟩ := plPtr_has (vb := vb) hh
      rw [hptr] at hp
      have HG := Lib.hid hget
      have HP := Lib.hid hp
      have HX := Lib.hid h
      clear hget hp h hv ha hr hac hL htb hgV hdV hx hq hh hE hS hk hst hptr
      go_enter Tryz.func23, Tryz.ntmps23
      go_wp2_with (first
       | (go_at_call 57; refine (bound_Account _ _).mono ?_; rw [HA.out]; rintro e w' ⟨rfl, hw⟩; rw [hw]; clear hw w')
       | (go_at_call 47; refine HP.out.mono ?_; rintro e w' ⟨rfl, hw⟩; rw [hw]; clear hw w')
       | (go_at_call 59; refine HG.out.mono ?_; rintro e w3 ⟨rfl, hb⟩; have K3 := Lib.hid hb; clear hb)
       | (refine wpl_allocS (s := balS) rfl rfl rfl ?_)
       | (refine wpl_storeS (s := balS) (t := x) (b := w3.heap.size) _ _ rfl rfl rfl rfl rfl (World.alloc_heap_new w3 _) (zeroS balS) ?_; rw [newS])
       | fail)
      exact bodyPost_ret (v := .int .i64 4) (by simp [results, Tryz.results23, go_sem]) rfl ⟨rfl, VoTo.of_below HX.out (K3.out.alloc K3.out.size _)⟩
     | true =>
      have hE : unvoteE S a r = 0 := by unfold unvoteE; rw [if_neg (fun q => q hac), if_neg (fun q => q.elim (fun q => q hh) (fun q => by rw [← hq] at q; cases q))]
      obtain ⟨x', hx'⟩ := Option.isSome_iff_exists.1 hq.symm
      have hxx : x = x' := by rw [hx, hx']; rfl
      obtain ⟨-, -, hok⟩ := hv.v _ (h.srt.1.get.1 hx')
      rw [← hxx] at hok
      dsimp only at hok
      obtain ⟨k, rfl, hk, hst, hptr⟩ := plPtr_has (vb := vb) hh
      rw [hptr] at hp
      rw [hE]
      have htr := hv.t k hk
      obtain ⟨tr, htr0⟩ : ∃ tr, tr = (S.P k).tr := ⟨_, rfl⟩
      obtain ⟨st, hst0⟩ : ∃ st, st = (S.P k).st := ⟨_, rfl⟩
      obtain ⟨en, hen0⟩ : ∃ en, en = (S.P k).en := ⟨_, rfl⟩
      obtain ⟨tt, htt0⟩ : ∃ tt, tt = (S.P k).t := ⟨_, rfl⟩
      obtain ⟨le, hle⟩ : ∃ le, le = gotS S a tr := ⟨_, rfl⟩
      have wtr : (Lit.int .i64 tr).wf = true := wfS (by omega) (by omega)
      obtain ⟨S1, hS1⟩ : ∃ S1, S1 = { S with V := cdel S.V a k } := ⟨_, rfl⟩
      have hdel := fun W hb => hdV W hb a k (by omega) ha hr
      rw [← hS1] at hdel
      have eNat : ((k : Int)).toNat = k := Int.toNat_natCast k
      have hW : ∀ F' w5 W, VoX vb N S1 F' w5 → Below w5.heap.size w5 W → W.cell? ⟨vb, k * 6 + 1, none⟩ = some (.int .i64 tr) ∧ W.cell? ⟨vb, k * 6 + 5, none⟩ = some (.int .i64 en) ∧ (loadSt_T (.pointer (some ⟨vb, k * 6 + 2, none⟩))).run Tryz.prog W = .ok (.agg (tlyS.f tt).toArray) W ∧ (∀ t' : Tl, (storeT (.pointer (some ⟨vb, k * 6 + 2, none⟩)) (.agg (tlyS.f t').toArray)).run Tryz.prog W = .ok () (W.setCells vb (k * 6 + 2) (tlyS.f t'))) ∧ ∀ t' : Tl, (W.setCells vb (k * 6 + 2) (tlyS.f t')).cell? ⟨vb, k * 6 + 1, none⟩ = some (.int .i64 tr) := fun F' w5 W hx5 hb => by
       obtain ⟨-, c1, c5, -, hrt, hth, -⟩ := (hx5.below hb).cells hk
       have eP : S1.P = S.P := by rw [hS1]
       rw [eP] at c1 c5 hrt
       refine ⟨by rw [htr0]; exact c1, by rw [hen0]; exact c5, by rw [htt0]; exact run_loadS (s := tlyS) hrt, fun t' => run_storeT hth t', fun t' => ?_⟩
       have := (((hx5.below hb).setTX hk t').cells hk).2.1
       have this : (W.setCells vb (k * 6 + 2) (tlyS.f t')).cell? ⟨vb, k * 6 + 1, none⟩ = some (.int .i64 (putP S1.P k ⟨(S1.P k).st, (S1.P k).tr, t'.a, t'.n, t'.s, (S1.P k).en⟩ k).tr) := this
       rw [putP_same, eP] at this
       rw [htr0]; exact this
      have hop : ∀ F' W, VoX vb N S1 F' W → Calls Tryz.prog 55 #[.pointer (some ⟨vb, k * 6, none⟩)] W fun e w' => e = .returned (.bool (st == 1)) ∧ w' = W := fun F' W hx5 => by
       have := hx5.open hk
       rw [show S1.P = S.P by rw [hS1], ← hst0] at this
       exact this
      have hwon : ∀ F' W, VoX vb N S1 F' W → Calls Tryz.prog 69 #[.pointer (some ⟨vb, k * 6, none⟩), .agg (balS.f x).toArray] W fun e w' => e = .returned (.bool (wonB st x)) ∧ Below W.heap.size W w' := fun F' W hx5 => by
       have := hx5.won hk x
       rw [show S1.P = S.P by rw [hS1], ← hst0] at this
       exact this
      have hgot : ∀ F' W, VoX vb N S1 F' W → Calls Tryz.prog 62 #[.pointer (some ⟨vb, 0, none⟩), .int .i64 a, .int .i64 tr] W fun e w' => e = .returned (.agg (wgtS.f le).toArray) ∧ Below W.heap.size W w' := fun F' W hx5 => by
       have := hx5.got ha wtr
       rw [show S1.G = S.G by rw [hS1]] at this
       rw [hle]; exact this
      have hsub : ∀ wx, Calls Tryz.prog 63 #[.agg (tlyS.f tt).toArray, .agg (tlyS.f (gainW x le)).toArray] wx fun e w' => e = .returned (.agg (tlyS.f (tt.sub (gainW x le))).toArray) ∧ Below wx.heap.size wx w' := fun wx => cSub tt (gainW x le) wx
      have HG := Lib.hid hget
      have HP := Lib.hid hp
      have HX := Lib.hid h
      have HTB := Lib.hid (show ∀ W, Below w.heap.size w W → W.cell? ⟨vb, 72, none⟩ = some (.pointer (some ⟨gv, 0, none⟩)) from fun W hb => (htb W hb).1)
      have HD := Lib.hid hdel
      have HW := Lib.hid hW
      have HO := Lib.hid hop
      have HWN := Lib.hid hwon
      have HGT := Lib.hid hgot
      have HSB := Lib.hid hsub
      have HGN := Lib.hid (cGain x le hok)
      have HK := Lib.hid hk
      have vS : unvoteS S a k now = (if st = 1 then { S1 with P := putP S1.P k ((S1.P k).withT (tt.sub (gainW x le))) } else if wonB st x = true then { S1 with Q := joinQ S1.Q a tr (wrap64 (en + periodI x.l 8)) x.a now } else S1) := by
       unfold unvoteS
       rw [hE, if_pos rfl, eNat, ← hst0, ← hx, ← htr0, ← hle, ← htt0, ← hen0, hS1]
      have hjoin : ∀ F' W, VoX vb N S1 F' W → ∀ u n : Int, Calls Tryz.prog 70 #[.pointer (some ⟨vb, 0, none⟩), .int .i64 a, .int .i64 tr, .int .i64 u, .int .i64 n, .int .i64 now] W fun e w' => e = .returned (.tuple #[]) ∧ VoTo vb N { S1 with Q := joinQ S1.Q a tr u n now } F' W w' := fun F' W hx5 u n => hx5.join (by rw [show S1.Q = S.Q by rw [hS1]]; omega) ha wtr u n now
      have hlev : wonB st x = true → 0 ≤ x.l ∧ x.l ≤ 6 := fun q => by
       unfold wonB at q
       by_cases k1 : x.k = 1
       · unfold balOk voteB shapedB at hok
         simp only [k1, if_true, Bool.and_eq_true] at hok
         exact withinB_out hok.1.1.1.1.1.1
       · rw [if_neg k1] at q; cases q
      have hper : wonB st x = true → ∀ wx : World, Calls Tryz.prog 71 #[.int .i64 x.l, .int .i64 8] wx fun e w' => e = .returned (.int .i64 (periodI x.l 8)) ∧ w' = wx := fun q wx => (conv_Period x.l 8 wx (by omega) (by omega) (hlev q).1 (hlev q).2).mono fun e w' h => ⟨h.1, h.2.symm⟩
      have HJ := Lib.hid hjoin
      have HPE := Lib.hid hper
      rw [vS]
      clear hget hp h hv ha hr hac hL htb hgV hdV hx hq hh hE hst hptr hx' hxx hok htr0 hst0 hen0 htt0 hle wtr hS1 hdel eNat hW hop hwon hgot hsub hk vS hjoin hlev hper htr
      obtain ⟨p, hp⟩ : ∃ p, p = wonB st x := ⟨_, rfl⟩
      rw [← hp] at HWN HPE ⊢
      clear hp
      by_cases q1 : st = 1
      focus
       have q1' : (st == 1) = true := by simpa using q1
       rw [if_pos q1]
       clear q1
      rotate_left
      have q1' : (st == 1) = false := by simpa using q1
      rw [if_neg q1]
      clear q1
      cases p
      rw [if_neg (by decide)]
      rotate_left
      rw [if_pos rfl]
      rotate_left
      all_goals
       go_enter Tryz.func23, Tryz.ntmps23
       go_upto_region 7 with (first
        | (go_at_call 57; refine (bound_Account _ _).mono ?_; rw [HA.out]; rintro e w' ⟨rfl, hw⟩; rw [hw]; clear hw w')
        | (go_at_call 47; refine HP.out.mono ?_; rintro e w' ⟨rfl, hw⟩; rw [hw]; clear hw w')
        | (go_at_call 59; refine HG.out.mono ?_; rintro e w3 ⟨rfl, hb⟩; have K3 := Lib.hid hb; clear hb)
        | (refine wpl_allocS (s := balS) rfl rfl rfl ?_)
        | (refine wpl_storeS (s := balS) (t := x) (b := w3.heap.size) _ _ rfl rfl rfl rfl rfl (World.alloc_heap_new w3 _) (zeroS balS) ?_; rw [newS])
        | fail)
       obtain ⟨yb, hyb⟩ : ∃ yb, yb = w3.heap.size := ⟨_, rfl⟩
       obtain ⟨w4, hw4⟩ : ∃ w4, w4 = w3.alloc (balS.obj x) := ⟨_, rfl⟩
       have hr4 : w4.rangeAt yb 0 (balS.f x) := by rw [hw4, hyb]; exact atS balS w3 x
       have hb4 : Below w.heap.size w w4 := by rw [hw4]; exact K3.out.alloc K3.out.size _
       have hl4 : yb < w4.heap.size ∧ w.heap.size ≤ yb := by rw [hw4, hyb]; exact ⟨by simp, K3.out.size⟩
       rw [← hw4, ← hyb]
       have c74 := HTB.out w4 hb4
       have H4 := Lib.hid (And.intro hr4 (And.intro hb4 hl4))
       clear hw4 hyb hr4 hb4 hl4 c72
       go_upto_region 8 with (first
        | (go_at_call 68; refine (HD.out w4 H4.out.2.1).mono ?_; rintro e w5 ⟨rfl, hto⟩; have H5 := Lib.hid hto; clear hto)
        | fail)
       obtain ⟨F5, hx5, hF5, ho5⟩ := H5.out
       obtain ⟨hr4, hb4, hl4, hl4'⟩ := H4.out
       have hnF : ∀ k, w.heap.size ≤ k → ¬ F k := fun k hk hf => by have := HX.out.lt hf; omega
       have hr5 : w5.rangeAt yb 0 (balS.f x) := rangeAt_block hr4 (ho5.block yb hl4 (hnF yb hl4') (fun h => h))
       have hl5 : yb < w5.heap.size := Nat.lt_of_lt_of_le hl4 ho5.grow.size
       have hn5 : yb ≠ vb := fun e => by have := HX.out.lt HX.out.own; omega
       have hSx : ∀ W, Below w5.heap.size w5 W → (loadSt_V (.pointer (some ⟨yb, 0, none⟩))).run Tryz.prog W = .ok (.agg (balS.f x).toArray) W := fun W hb => run_loadSt_V (rangeAt_block hr5 (hb.block yb hl5))
       have hSy : ∀ W, Below w5.heap.size w5 W → ∀ vs, (loadSt_V (.pointer (some ⟨yb, 0, none⟩))).run Tryz.prog (W.setCells vb (k * 6 + 2) vs) = .ok (.agg (balS.f x).toArray) (W.setCells vb (k * 6 + 2) vs) := fun W hb vs => run_loadSt_V (rangeAt_block hr5 ((setCells_off hn5 _ _ _).trans (hb.block yb hl5)))
       have hcl : ∀ W, Below w5.heap.size w5 W → W.cell? ⟨yb, 2, none⟩ = some (.int .i64 x.l) ∧ W.cell? ⟨yb, 3, none⟩ = some (.int .i64 x.a) := fun W hb => ⟨(rangeAt_block hr5 (hb.block yb hl5)) 2 _ rfl, (rangeAt_block hr5 (hb.block yb hl5)) 3 _ rfl⟩
       have H5x := Lib.hid (And.intro hx5 (And.intro hF5 ho5))
       have HW5 := Lib.hid (fun W hb => HW.out F5 w5 W hx5 hb)
       have HSX := Lib.hid hSx
       have HSY := Lib.hid hSy
       have HCL := Lib.hid hcl
       have K5 := Lib.hid (Below.refl w5.heap.size w5)
       clear hx5 hF5 ho5 hr4 hb4 hl4 hl4' hnF hr5 hl5 hn5 hSx hSy hcl c74
      · go_upto_region 9 with (first
         | (go_at_call 55; refine (HO.out F5 w5 H5x.out.1).mono ?_; rintro e wx ⟨rfl, hw⟩; rw [hw]; clear hw wx)
         | fail)
        have SL := Lib.hid (show ∀ W, Below w5.heap.size w5 W → (loadSt_V (.pointer (some ⟨yb, 0, none⟩))).run Tryz.prog W = .ok (.agg (balS.f x).toArray) W ∧ W.cell? ⟨vb, k * 6 + 1, none⟩ = some (.int .i64 tr) from fun W hb => ⟨HSX.out W hb, (HW5.out W hb).1⟩)
        have K5d := Lib.hid (show Below w5.heap.size w5 w5.drew from (Below.refl _ w5).drew)
        refine startU (S := fun W => (loadSt_V (.pointer (some ⟨yb, 0, none⟩))).run Tryz.prog W = .ok (.agg (balS.f x).toArray) W ∧ W.cell? ⟨vb, k * 6 + 1, none⟩ = some (.int .i64 tr) ∧ (loadSt_T (.pointer (some ⟨vb, k * 6 + 2, none⟩))).run Tryz.prog W = .ok (.agg (tlyS.f tt).toArray) W) (L := 17) (by kernel_rfl) ?_ (fun hHeld => ?_)
        · try dsimp only
          first | with_reducible exact ⟨(SL.out _ K14.out).1, (SL.out _ K14.out).2, (HW5.out _ K14.out).2.2.1⟩ | with_reducible exact ⟨(SL.out _ K13.out).1, (SL.out _ K13.out).2, (HW5.out _ K13.out).2.2.1⟩ | with_reducible exact ⟨(SL.out _ K12.out).1, (SL.out _ K12.out).2, (HW5.out _ K12.out).2.2.1⟩ | with_reducible exact ⟨(SL.out _ K5d.out).1, (SL.out _ K5d.out).2, (HW5.out _ K5d.out).2.2.1⟩
        refine takeU (i := 0) (v := ?_) rfl (by kernel_rfl) (fun _ _ _ h => h) (Or.inl ⟨by rfl, ?_⟩) (by assumption) ?_
        rotate_left
        · (intro w' hSw; (try dsimp only at hSw); go_simp; try with_reducible rfl)
        try walk_nrm
        refine takeU (i := 1) (v := ?_) rfl (by kernel_rfl) (fun _ _ _ h => h) (Or.inl ⟨by rfl, ?_⟩) (by assumption) ?_
        rotate_left
        · (intro w' hSw; (try dsimp only at hSw); go_simp; try with_reducible rfl)
        try walk_nrm
        refine takeU (i := 2) (v := ?_) rfl (by kernel_rfl) (fun _ _ _ h => h) (Or.inl ⟨by rfl, ?_⟩) (by assumption) ?_
        rotate_left
        · (intro w' hSw; (try dsimp only at hSw); go_simp; try with_reducible rfl)
        try walk_nrm
        refine takeU (i := 3) (v := ?_) rfl (by kernel_rfl) (fun _ _ _ h => h) (Or.inl ⟨by rfl, ?_⟩) (by assumption) ?_
        rotate_left
        · (intro w' hSw; (try dsimp only at hSw); go_simp; try with_reducible rfl)
        try walk_nrm
        refine takeU (i := 4) (v := ?_) rfl (by kernel_rfl) (fun _ _ _ h => h) (Or.inl ⟨by rfl, ?_⟩) (by assumption) ?_
        rotate_left
        · (intro w' hSw; (try dsimp only at hSw); go_simp; try with_reducible rfl)
        try walk_nrm
        refine takeU (i := 5) (v := ?_) rfl (by kernel_rfl) (fun _ _ _ h => h) (Or.inl ⟨by rfl, ?_⟩) (by assumption) ?_
        rotate_left
        · (intro w' hSw; (try dsimp only at hSw); go_simp; try with_reducible rfl)
        try walk_nrm
        refine takeU (i := 6) (v := ?_) rfl (by kernel_rfl) (fun _ _ _ h => h) (Or.inl ⟨by rfl, ?_⟩) (by assumption) ?_
        rotate_left
        · (intro w' hSw; (try dsimp only at hSw); go_simp; try with_reducible rfl)
        try walk_nrm
        refine takeU (i := 7) (v := ?_) rfl (by kernel_rfl) (fun _ _ _ h => h) (Or.inl ⟨by rfl, ?_⟩) (by assumption) ?_
        rotate_left
        · (intro w' hSw; (try dsimp only at hSw); go_simp; try with_reducible rfl)
        try walk_nrm
        refine takeU (i := 8) (v := ?_) rfl (by kernel_rfl) (fun _ _ _ h => h) (Or.inl ⟨by rfl, ?_⟩) (by assumption) ?_
        rotate_left
        · (intro w' hSw; (try dsimp only at hSw); go_simp; try with_reducible rfl)
        try walk_nrm
        refine takeU (i := 9) (v := ?_) rfl (by kernel_rfl) (fun _ _ _ h => h) (Or.inl ⟨by rfl, ?_⟩) (by assumption) ?_
        rotate_left
        · (intro w' hSw; (try dsimp only at hSw); go_simp; try with_reducible rfl)
        try walk_nrm
        refine takeU (i := 10) (v := ?_) rfl (by kernel_rfl) (fun _ _ _ h => h) (Or.inl ⟨by rfl, ?_⟩) (by assumption) ?_
        rotate_left
        · (intro w' hSw; (try dsimp only at hSw); go_simp; try with_reducible rfl)
        try walk_nrm
        refine takeU (i := 11) (v := ?_) rfl (by kernel_rfl) (fun _ _ _ h => h) (Or.inl ⟨by rfl, ?_⟩) (by assumption) ?_
        rotate_left
        · (intro w' hSw; (try dsimp only at hSw); go_simp; try with_reducible rfl)
        try walk_nrm
        refine readyU (rs := [12]) (by kernel_rfl) (by simp) ?_
        refine AllReadyU.cons rfl (fun K hK => ?_) AllReadyU.nil
        simp only [List.getElem_toArray, List.getElem_cons_zero, List.getElem_cons_succ]
        go_simp
        go_at_call 62; refine (HGT.out F5 _ (H5x.out.1.below K5d.out)).mono ?_; rintro e w12 ⟨rfl, hb⟩; have K12 := Lib.hid (K5d.out.trans (hb.mono K5d.out.size)); clear hb
        first | refine hK.out _ _ ?_ (fun hHeld => ?_) | (go_wp2_with fail; refine hK.out _ _ ?_ (fun hHeld => ?_))
        · try dsimp only
          first | with_reducible exact ⟨(SL.out _ K14.out).1, (SL.out _ K14.out).2, (HW5.out _ K14.out).2.2.1⟩ | with_reducible exact ⟨(SL.out _ K13.out).1, (SL.out _ K13.out).2, (HW5.out _ K13.out).2.2.1⟩ | with_reducible exact ⟨(SL.out _ K12.out).1, (SL.out _ K12.out).2, (HW5.out _ K12.out).2.2.1⟩ | with_reducible exact ⟨(SL.out _ K5d.out).1, (SL.out _ K5d.out).2, (HW5.out _ K5d.out).2.2.1⟩
        clear hK K
        try walk_nrm
        refine readyU (rs := [13]) (by kernel_rfl) (by simp) ?_
        refine AllReadyU.cons rfl (fun K hK => ?_) AllReadyU.nil
        simp only [List.getElem_toArray, List.getElem_cons_zero, List.getElem_cons_succ]
        go_simp
        go_at_call 64; refine (HGN.out _).mono ?_; rintro e w13 ⟨rfl, hb⟩; have K13 := Lib.hid (K12.out.trans (hb.mono K12.out.size)); clear hb
        first | refine hK.out _ _ ?_ (fun hHeld => ?_) | (go_wp2_with fail; refine hK.out _ _ ?_ (fun hHeld => ?_))
        · try dsimp only
          first | with_reducible exact ⟨(SL.out _ K14.out).1, (SL.out _ K14.out).2, (HW5.out _ K14.out).2.2.1⟩ | with_reducible exact ⟨(SL.out _ K13.out).1, (SL.out _ K13.out).2, (HW5.out _ K13.out).2.2.1⟩ | with_reducible exact ⟨(SL.out _ K12.out).1, (SL.out _ K12.out).2, (HW5.out _ K12.out).2.2.1⟩ | with_reducible exact ⟨(SL.out _ K5d.out).1, (SL.out _ K5d.out).2, (HW5.out _ K5d.out).2.2.1⟩
        clear hK K
        try walk_nrm
        refine readyU (rs := [14]) (by kernel_rfl) (by simp) ?_
        refine AllReadyU.cons rfl (fun K hK => ?_) AllReadyU.nil
        simp only [List.getElem_toArray, List.getElem_cons_zero, List.getElem_cons_succ]
        go_simp
        go_at_call 63; refine (HSB.out _).mono ?_; rintro e w14 ⟨rfl, hb⟩; have K14 := Lib.hid (K13.out.trans (hb.mono K13.out.size)); have rS14 := (HW5.out _ K14.out).2.2.2.1 (tt.sub (gainW x le)); clear hb
        first | refine hK.out _ _ ?_ (fun hHeld => ?_) | (go_wp2_with fail; refine hK.out _ _ ?_ (fun hHeld => ?_))
        · try dsimp only
          first | with_reducible exact ⟨(SL.out _ K14.out).1, (SL.out _ K14.out).2, (HW5.out _ K14.out).2.2.1⟩ | with_reducible exact ⟨(SL.out _ K13.out).1, (SL.out _ K13.out).2, (HW5.out _ K13.out).2.2.1⟩ | with_reducible exact ⟨(SL.out _ K12.out).1, (SL.out _ K12.out).2, (HW5.out _ K12.out).2.2.1⟩ | with_reducible exact ⟨(SL.out _ K5d.out).1, (SL.out _ K5d.out).2, (HW5.out _ K5d.out).2.2.1⟩
        clear hK K
        try walk_nrm
        refine takeU (i := 15) (v := ?_) rfl (by kernel_rfl) (fun _ _ _ h => h) (Or.inl ⟨by rfl, ?_⟩) (by assumption) ?_
        rotate_left
        · (intro w' hSw; (try dsimp only at hSw); go_simp; try with_reducible rfl)
        try walk_nrm
        refine takeU (i := 16) (v := ?_) rfl (by kernel_rfl) (fun _ _ _ h => h) (Or.inl ⟨by rfl, ?_⟩) (by assumption) ?_
        rotate_left
        · (intro w' hSw; (try dsimp only at hSw); go_simp; try with_reducible rfl)
        try walk_nrm
        refine readyU (rs := [17]) (by kernel_rfl) (by simp) ?_
        refine AllReadyU.last rfl (fun K hK => ?_)
        simp only [List.getElem_toArray, List.getElem_cons_zero, List.getElem_cons_succ]
        go_simp
        first | refine hK.out _ _ ?_ | (go_wp2_with fail; refine hK.out _ _ ?_)
        clear hK K
        try walk_nrm
        refine doneU (by kernel_rfl) ?_ _
        go_wp2_with fail
        exact bodyPost_ret (v := .int .i64 0) (by simp [results, Tryz.results23, go_sem]) rfl ⟨rfl, VoTo.later H4.out.2.1 (VoTo.cons H5x.out.2.1 H5x.out.2.2 (VoTo.later K14.out ((H5x.out.1.below K14.out).setT HK.out _)))⟩
      · have lx5 := HSX.out _ K5.out
        go_wp2_with (first
         | (go_at_call 55; refine (HO.out F5 w5 H5x.out.1).mono ?_; rintro e wx ⟨rfl, hw⟩; rw [hw]; clear hw wx)
         | (go_at_call 69; refine (HWN.out F5 w5 H5x.out.1).mono ?_; rintro e w6 ⟨rfl, hb⟩; have K6 := Lib.hid hb; clear hb)
         | fail)
        exact bodyPost_ret (v := .int .i64 0) (by simp [results, Tryz.results23, go_sem]) rfl ⟨rfl, VoTo.later H4.out.2.1 (VoTo.cons H5x.out.2.1 H5x.out.2.2 (VoTo.of_below H5x.out.1 K6.out))⟩
      · have lx5 := HSX.out _ K5.out
        go_upto_region 11 with (first
         | (go_at_call 55; refine (HO.out F5 w5 H5x.out.1).mono ?_; rintro e wx ⟨rfl, hw⟩; rw [hw]; clear hw wx)
         | (go_at_call 69; refine (HWN.out F5 w5 H5x.out.1).mono ?_; rintro e w6 ⟨rfl, hb⟩; have K6 := Lib.hid hb; clear hb)
         | fail)
        have K6d := Lib.hid (show Below w5.heap.size w5 w6.drew from K6.out.drew)
        obtain ⟨z1, z5, -⟩ := HW5.out _ K6d.out
        obtain ⟨y2, y3⟩ := HCL.out _ K6d.out
        clear lx5
        refine wp_region_still_tail 17 (by kernel_rfl) (by kernel_rfl) ?_
        simp only [List.take_succ_cons, List.take_zero, List.drop_succ_cons, List.drop_zero]
        change wpStill _ _ w6.drew _ _ _
        repeat still_step
        still_call (HPE.out (by trivial) w6.drew)
        repeat still_step
        refine wpStill_nil ?_
        change wpList _ _ _ _ _ w6.drew
        go_wp2_with (first
         | (go_at_call 70; refine (HJ.out F5 _ (H5x.out.1.below K6d.out) _ _).mono ?_; rintro e w7 ⟨rfl, hto⟩; have H7 := Lib.hid hto; clear hto)
         | fail)
        exact bodyPost_ret (v := .int .i64 0) (by simp [results, Tryz.results23, go_sem]) rfl ⟨rfl, VoTo.later H4.out.2.1 (VoTo.cons H5x.out.2.1 H5x.out.2.2 (VoTo.later K6d.out H7.out))⟩
   · have hE : unvoteE S a r = 4 := by unfold unvoteE; rw [if_neg (fun q => q hac), if_pos (.inl hh)]
     have hS : unvoteS S a r now = S := by unfold unvoteS; rw [if_neg (by rw [hE]; decide)]
     rw [hE, hS]
     rw [plPtr_none hh] at hp
     have HG := Lib.hid hget
     have HP := Lib.hid hp
     have HX := Lib.hid h
     clear hget hp h hv ha hr hac hL htb hgV hdV hx hq hh hE hS
     go_enter Tryz.func23, Tryz.ntmps23
     go_wp2_with (first
      | (go_at_call 57; refine (bound_Account _ _).mono ?_; rw [HA.out]; rintro e w' ⟨rfl, hw⟩; rw [hw]; clear hw w')
      | (go_at_call 47; refine HP.out.mono ?_; rintro e w' ⟨rfl, hw⟩; rw [hw]; clear hw w')
      | (go_at_call 59; refine HG.out.mono ?_; rintro e w3 ⟨rfl, hb⟩; have K3 := Lib.hid hb; clear hb)
      | (refine wpl_allocS (s := balS) rfl rfl rfl ?_)
      | (refine wpl_storeS (s := balS) (t := x) (b := w3.heap.size) _ _ rfl rfl rfl rfl rfl (World.alloc_heap_new w3 _) (zeroS balS) ?_; rw [newS])
      | fail)
     exact bodyPost_ret (v := .int .i64 4) (by simp [results, Tryz.results23, go_sem]) rfl ⟨rfl, VoTo.of_below HX.out (K3.out.alloc K3.out.size _)⟩
 · have HA := Lib.hid (show decide (0 ≤ a ∧ a < 10) = false from decide_eq_false hac)
   have hE : unvoteE S a r = 1 := by unfold unvoteE; rw [if_pos hac]
   have hS : unvoteS S a r now = S := by unfold unvoteS; rw [if_neg (by rw [hE]; decide)]
   rw [hE, hS]
   have HX := Lib.hid h
   clear h hv ha hr hac hE hS
   go_enter Tryz.func23, Tryz.ntmps23
   go_wp2_with (first
    | (go_at_call 57; refine (bound_Account _ _).mono ?_; rw [HA.out]; rintro e w' ⟨rfl, hw⟩; rw [hw]; clear hw w')
    | fail)
   exact bodyPost_ret (v := .int .i64 1) (by simp [results, Tryz.results23, go_sem]) rfl ⟨rfl, VoTo.refl HX.out⟩
end
section
open Go.RowKit Go.Maps Go.Shelf
attribute [local go_sem] Oper.semAt_some
theorem maxCap_snoc (l : List (Int × Bal)) (x : Int × Bal) (n : Int) : maxCap (l ++ [x]) n = max (maxCap l n) (capB x.2) := by simp [maxCap]
theorem Stt.keep {g vb N : Nat} {S : Vs} {A : Acc} {M : Cls Int} {F FL Zn : FP} {w : World} {bs : List (Nat × List Value)} {W W' : World} (h : Stt g vb N S A M F FL Zn w bs W) (hg : Grow W W') (hk : ∀ k, F k ∨ FL k → W'.heap[k]? = W.heap[k]?) (hb : Below w.heap.size W W') : Stt g vb N S A M F FL Zn w [] W' :=
 ⟨h.vo.keep hg (fun k hf => hk k (.inl hf)), h.ld.keep hg (fun k hf => hk k (.inr hf)), h.dis, ⟨h.on.grow.trans hg, fun k hk h1 h2 => (hb.block k hk).trans (h.on.block k hk h1 h2)⟩, h.sub, fun b hb => by cases hb⟩
def UnlI (N0 nb : Nat) (n0 : Int) (pre : List (Int × Bal)) (Φ : FP) (W : World) : Prop := (∀ k, ¬ Φ k) ∧ Boxed W nb 3 (.int .i64 (maxCap pre n0)) ∧ N0 ≤ W.heap.size
theorem UnlI.stab {N0 nb : Nat} {n0 : Int} (h1 : nb < N0) : Stab N0 (UnlI N0 nb n0) := by
 rintro pre Φ W ⟨h0, h, hs⟩
 exact ⟨fun k hk => (h0 k hk).elim, hs, fun W' hg hk => ⟨h0, (hk nb (.inl h1)).trans h, Nat.le_trans hs hg.size⟩⟩
attribute [local go_sem ↓] loadSt_V_hide in
theorem LvAt.Unlock {g vb N : Nat} {S : Vs} {A : Acc} {M : Cls Int} {Zn : FP} {w : World} (h : LvAt g vb N S A M Zn w) (hv : VInv S) (hM : M.length < 10000) {a t now : Int} (ha : (Lit.int .i64 a).wf = true) (ht : (Lit.int .i64 t).wf = true) :
 Calls Tryz.prog 26 #[.pointer (some ⟨vb, 0, none⟩), .pointer (some ⟨g, 0, none⟩), .int .i64 a, .int .i64 t, .int .i64 now] w fun e w' => e = .returned (.int .i64 (unlE a t)) ∧ LvTo g vb N (unlS S a t now) A (unlM S M a t now) Zn w w' := by
 by_cases hac : isAcc a
 · have HA := Lib.hid (show decide (0 ≤ a ∧ a < 10) = true from decide_eq_true hac)
   by_cases htr : 0 ≤ t ∧ t < 4
   · have HT := Lib.hid (show decide (0 ≤ t ∧ t < 4) = true from decide_eq_true htr)
     have hE : unlE a t = 0 := by unfold unlE; rw [if_neg (fun q => q.elim (fun q => q hac) (fun q => q htr))]
     have hS : unlS S a t now = { S with Q := unlQ S a t now } := by unfold unlS; rw [if_pos hE]
     have hMM : unlM S M a t now = lockM M a t (unlN S a t now) := by unfold unlM; rw [if_pos hE]
     rw [hE, hS, hMM]
     obtain ⟨F, FL, hs⟩ := Stt.start h
     have hL := hv.lens hs.vo
     obtain ⟨gv, gd, gw, gp, htb, -, -, -, -, -, -, -, hdQ⟩ := hs.vo.tables
     have hpr := hs.vo.prior ha ht
     obtain ⟨S1, hS1⟩ : ∃ S1, S1 = { S with Q := unlQ S a t now } := ⟨_, rfl⟩
     obtain ⟨p1, hp1⟩ : ∃ p1, p1 = (cget S.Q a t).getD priS.zero := ⟨_, rfl⟩
     obtain ⟨dd, hdd⟩ : ∃ dd, dd = undD S a t := ⟨_, rfl⟩
     obtain ⟨dq, hdq⟩ : ∃ dq, dq = (cget S.D a t).isSome := ⟨_, rfl⟩
     obtain ⟨p2, hp2⟩ : ∃ p2, p2 = (cget S1.Q a t).getD priS.zero := ⟨_, rfl⟩
     obtain ⟨xs, hxs⟩ : ∃ xs, xs = ballots S a t := ⟨_, rfl⟩
     have hN : unlN S a t now = maxCap xs (max dd.n p2.c) := by unfold unlN; rw [← hxs, ← hdd, hp2, hS1]; rfl
     rw [← hp1] at hpr
     have hdg : ∀ F' W, VoX vb N S1 F' W → Calls Tryz.prog 16 #[.pointer (some ⟨vb, 0, none⟩), .int .i64 a, .int .i64 t] W fun e w' => e = .returned (.tuple #[.int .i64 dd.to, .int .i64 dd.l, .int .i64 dd.n, .bool dq]) ∧ Below W.heap.size W w' := fun F' W hx => by
      have := hx.delegating ha ht
      rw [show S1.D = S.D by rw [hS1]] at this
      rw [hdd, hdq]; exact this
     have hp2c : ∀ F' W, VoX vb N S1 F' W → Calls Tryz.prog 17 #[.pointer (some ⟨vb, 0, none⟩), .int .i64 a, .int .i64 t] W fun e w' => e = .returned (.tuple #[.int .i64 p2.v, .int .i64 p2.c]) ∧ Below W.heap.size W w' := fun F' W hx => by
      rw [hp2]; exact hx.prior ha ht
     have hbal : ∀ F' W, VoX vb N S1 F' W → Calls Tryz.prog 78 #[.pointer (some ⟨vb, 0, none⟩), .int .i64 a, .int .i64 t] W (BalWay vb S1 F' a t W) := fun F' W hx => hx.balWay (by rw [show S1.V = S.V by rw [hS1]]; omega) ha (by rw [show S1.V = S.V by rw [hS1]]; exact fun x hx => (hv.row a x hx).1) t
     have hxs1 : ballots S1 a t = xs := by rw [hxs, hS1]; rfl
     have hok : ∀ x ∈ xs, balOk x.2 = true := fun x hx => by rw [hxs] at hx; exact (hv.row a x (List.mem_filter.1 hx).1).2.2
     have hdel := fun W hb => hdQ W hb a t (by omega) ha ht
     have hq1 : p1.v ≤ now → { S with Q := cdel S.Q a t } = S1 := fun q => by rw [hS1]; unfold unlQ; rw [if_pos (by rw [hp1] at q; exact q)]
     have hq2 : ¬ p1.v ≤ now → S = S1 := fun q => by rw [hS1]; unfold unlQ; rw [if_neg (by rw [hp1] at q; exact q)]
     have HTB := Lib.hid (show ∀ W, Below w.heap.size w W → W.cell? ⟨vb, 75, none⟩ = some (.pointer (some ⟨gp, 0, none⟩)) from fun W hb => (htb W hb).2.2.2)
     have HPR := Lib.hid hpr
     have HD := Lib.hid hdel
     have HDG := Lib.hid hdg
     have HP2 := Lib.hid hp2c
     have HBL := Lib.hid (And.intro hbal hxs1)
     have HOK := Lib.hid hok
     have HST := Lib.hid hs
     have HM := Lib.hid (And.intro hM (And.intro hac (And.intro ha (And.intro ht hN))))
     have HQ1 := Lib.hid hq1
     have HQ2 := Lib.hid hq2
     rw [← hS1, hN]
     clear hE hS hMM hs hL htb hdQ hpr hp1 hdd hdq hp2 hxs hN hdg hp2c hbal hxs1 hok hdel hq1 hq2 hS1 h hv hM ha ht hac htr
     by_cases q1 : p1.v ≤ now
     focus
      have HQ := Lib.hid q1
      refine (callsIn_wide (n := 3)).1 ?_
      refine callsIn_of_wp_marks Tryz.func26 rfl trivial ?_ rfl
      simp only [Tryz.ntmps26, List.size_toArray, List.length_cons, List.length_nil, Nat.reduceAdd, Nat.reduceSub, Array.replicate_succ, Array.replicate_zero, List.push_toArray, List.append_toArray, List.nil_append, List.cons_append]
      gi_upto_region 6 with (first
       | (gi_at_call 57; refine (callsIn_wide.2 (bound_Account _ _)).mono ?_; rw [HA.out]; rintro e w' ⟨rfl, hw⟩; rw [hw]; clear hw w')
       | (refine ⟨trivial, ?_⟩; gi_at_call 57; refine (callsIn_wide.2 (bound_Account _ _)).mono ?_; rw [HA.out]; rintro e w' ⟨rfl, hw⟩; rw [hw]; clear hw w')
       | (gi_at_call 54; refine (callsIn_wide.2 (voting_isTrack _ _)).mono ?_; rw [HT.out]; rintro e w' ⟨rfl, hw⟩; rw [hw]; clear hw w')
       | (refine ⟨trivial, ?_⟩; gi_at_call 54; refine (callsIn_wide.2 (voting_isTrack _ _)).mono ?_; rw [HT.out]; rintro e w' ⟨rfl, hw⟩; rw [hw]; clear hw w')
       | (gi_at_call 17; with_reducible refine (callsIn_wide.2 HPR.out).mono ?_; rintro e w3 ⟨rfl, hb⟩; have K3 := Lib.hid hb; have c75 := HTB.out w3 hb; clear hb)
       | (refine ⟨trivial, ?_⟩; gi_at_call 17; with_reducible refine (callsIn_wide.2 HPR.out).mono ?_; rintro e w3 ⟨rfl, hb⟩; have K3 := Lib.hid hb; have c75 := HTB.out w3 hb; clear hb)
       | (gi_at_call 77; refine (callsIn_wide.2 (HD.out w3 K3.out)).mono ?_; rintro e w4 ⟨rfl, hto⟩; have H4 := Lib.hid (VoTo.later K3.out hto); clear hto)
       | (refine ⟨trivial, ?_⟩; gi_at_call 77; refine (callsIn_wide.2 (HD.out w3 K3.out)).mono ?_; rintro e w4 ⟨rfl, hto⟩; have H4 := Lib.hid (VoTo.later K3.out hto); clear hto)
       | fail)
      have H4' := H4.out
      rw [HQ1.out HQ.out] at H4'
      obtain ⟨F4, hs4⟩ := HST.out.toV H4'
      have Q4 := Lib.hid hs4
      have L4 := Lib.hid (show w.heap.size ≤ w4.heap.size by obtain ⟨_, _, _, q⟩ := H4'; exact q.grow.size)
      clear hs4 H4' c75
     rotate_left
     focus
      have HQ := Lib.hid q1
      refine (callsIn_wide (n := 3)).1 ?_
      refine callsIn_of_wp_marks Tryz.func26 rfl trivial ?_ rfl
      simp only [Tryz.ntmps26, List.size_toArray, List.length_cons, List.length_nil, Nat.reduceAdd, Nat.reduceSub, Array.replicate_succ, Array.replicate_zero, List.push_toArray, List.append_toArray, List.nil_append, List.cons_append]
      gi_upto_region 6 with (first
       | (gi_at_call 57; refine (callsIn_wide.2 (bound_Account _ _)).mono ?_; rw [HA.out]; rintro e w' ⟨rfl, hw⟩; rw [hw]; clear hw w')
       | (refine ⟨trivial, ?_⟩; gi_at_call 57; refine (callsIn_wide.2 (bound_Account _ _)).mono ?_; rw [HA.out]; rintro e w' ⟨rfl, hw⟩; rw [hw]; clear hw w')
       | (gi_at_call 54; refine (callsIn_wide.2 (voting_isTrack _ _)).mono ?_; rw [HT.out]; rintro e w' ⟨rfl, hw⟩; rw [hw]; clear hw w')
       | (refine ⟨trivial, ?_⟩; gi_at_call 54; refine (callsIn_wide.2 (voting_isTrack _ _)).mono ?_; rw [HT.out]; rintro e w' ⟨rfl, hw⟩; rw [hw]; clear hw w')
       | (gi_at_call 17; with_reducible refine (callsIn_wide.2 HPR.out).mono ?_; rintro e w3 ⟨rfl, hb⟩; have K3 := Lib.hid hb; clear hb)
       | (refine ⟨trivial, ?_⟩; gi_at_call 17; with_reducible refine (callsIn_wide.2 HPR.out).mono ?_; rintro e w3 ⟨rfl, hb⟩; have K3 := Lib.hid hb; clear hb)
       | fail)
      obtain ⟨w4, hw4⟩ : ∃ w4, w4 = w3 := ⟨_, rfl⟩
      rw [← hw4]
      obtain ⟨F4, hF4⟩ : ∃ F4, F4 = F := ⟨_, rfl⟩
      have hs4 : Stt g vb N S1 A M F4 FL Zn w [] w4 := by rw [hw4, hF4, ← HQ2.out HQ.out]; exact HST.out.below K3.out
      have Q4 := Lib.hid hs4
      have L4 := Lib.hid (show w.heap.size ≤ w4.heap.size by rw [hw4]; exact K3.out.size)
      clear hs4 hw4 hF4
     rotate_left
     all_goals
      gi_upto_region 9 with (first
       | (gi_at_call 16; refine (callsIn_wide.2 (HDG.out F4 w4 Q4.out.vo)).mono ?_; rintro e w5 ⟨rfl, hb⟩; have Q5 := Lib.hid (Q4.out.below hb); have K5 := Lib.hid hb; clear hb)
       | (refine ⟨trivial, ?_⟩; gi_at_call 16; refine (callsIn_wide.2 (HDG.out F4 w4 Q4.out.vo)).mono ?_; rintro e w5 ⟨rfl, hb⟩; have Q5 := Lib.hid (Q4.out.below hb); have K5 := Lib.hid hb; clear hb)
       | (gi_at_call 17; with_reducible refine (callsIn_wide.2 (HP2.out F4 w5 Q5.out.vo)).mono ?_; rintro e w6 ⟨rfl, hb⟩; have Q6 := Lib.hid (Q5.out.below hb); have K6 := Lib.hid (K5.out.trans (hb.mono K5.out.size)); clear hb)
       | (refine ⟨trivial, ?_⟩; gi_at_call 17; with_reducible refine (callsIn_wide.2 (HP2.out F4 w5 Q5.out.vo)).mono ?_; rintro e w6 ⟨rfl, hb⟩; have Q6 := Lib.hid (Q5.out.below hb); have K6 := Lib.hid (K5.out.trans (hb.mono K5.out.size)); clear hb)
       | fail)
      obtain ⟨n0, hn0⟩ : ∃ n0, n0 = max dd.n p2.c := ⟨_, rfl⟩
      obtain ⟨nb, hnb⟩ : ∃ nb, nb = w6.heap.size := ⟨_, rfl⟩
      try rw [← hn0]
      obtain ⟨w7, hw7⟩ : ∃ w7, w7 = w6.alloc (.cells #[.int .i64 n0] 3) := ⟨_, rfl⟩
      rw [← hw7, ← hnb]
      have hb7 : Below w6.heap.size w6 w7 := by rw [hw7]; exact (Below.refl _ w6).alloc (Nat.le_refl _) _
      have x7 : Boxed w7 nb 3 (.int .i64 n0) := by rw [hw7, hnb]; exact Boxed.new w6 _ _
      have hnl : nb < w7.heap.size := by rw [hw7, hnb]; simp
      have H7 := Lib.hid (And.intro x7 (And.intro hb7 (And.intro hnl hn0)))
      have Q7 := Lib.hid (Q6.out.below hb7)
      have hnF : ¬ F4 nb := fun hf => by have := Q6.out.vo.lt hf; omega
      have hnL : ¬ FL nb := fun hf => by have := Q6.out.ld.lt hf; omega
      have HNF := Lib.hid (And.intro hnF (And.intro hnL (show w4.heap.size ≤ nb by have := K6.out.size; omega)))
      have hbw := HBL.out.1 F4 w7 Q7.out.vo
      unfold BalWay at hbw
      rw [HBL.out.2] at hbw
      have HBW := Lib.hid hbw
      clear hw7 hnb hb7 x7 hnl hn0 hnF hnL hbw
      gi_wp2_with (first
       | (gi_at_call 78; refine (callsIn_wide.2 HBW.out).mono ?_; rintro e w8 ⟨rfl, hb, hs8, -, hit⟩; have H8 := Lib.hid (And.intro hit (And.intro hb hs8)); clear hit hb hs8)
       | (refine ⟨trivial, ?_⟩; gi_at_call 78; refine (callsIn_wide.2 HBW.out).mono ?_; rintro e w8 ⟨rfl, hb, hs8, -, hit⟩; have H8 := Lib.hid (And.intro hit (And.intro hb hs8)); clear hit hb hs8)
       | fail)
      obtain ⟨hit, hb8, hs8⟩ := H8.out
      obtain ⟨x7, hb7, hnl7, hn0⟩ := H7.out
      have x8 : Boxed w8 nb 3 (.int .i64 (maxCap [] n0)) := (hb8.block nb hnl7).trans x7
      have hnl : nb < w8.heap.size := Nat.lt_of_lt_of_le hnl7 hb8.size
      have hF4 : ∀ k, F4 k → k < w7.heap.size := fun k hk => Q7.out.vo.lt hk
      have hGl : ∀ k, (F4 k ∨ k = w7.heap.size ∨ k = w7.heap.size + 1 ∨ k = w7.heap.size + 1 + 1) → k < w8.heap.size ∧ k ≠ nb := fun k hk => by
       rcases hk with h | h
       · exact ⟨by have := hF4 k h; omega, fun e => HNF.out.1 (e ▸ h)⟩
       · omega
      have mixed : Tryz.prog.follows .mixedOrders = true := by kernel_rfl
      have HIT := Lib.hid (hit 0)
      have HB8 := Lib.hid hb8
      clear hit hb8 hs8 x7 hb7 hnl7 hn0 hF4
      refine range_outerAU (n := 1) (gf := 116) rfl enters_ballots1 HIT.out (Grow.refl w8) (fun k hk => ⟨(hGl k hk).1, rfl⟩) (fun _ => rfl)
       (fun k => k = nb) (by rintro k rfl; exact ⟨hnl, fun h => (hGl _ h).2 rfl⟩) (UnlI w8.heap.size nb n0) (fun _ _ _ _ => False) (UnlI.stab hnl) (fun c _ _ _ h => h.elim) ⟨fun _ h => h, x8, Nat.le_refl _⟩
       (fun x N T => ((T.setIfInBounds 78 (.int .i64 x.1)).setIfInBounds 79 (balVal x)).setIfInBounds 21 (.pointer (some ⟨N, 0, none⟩)))
       (fun x N W => W.heap[N]? = some (.cells #[.int .i64 x.2.k, .bool x.2.aye, .int .i64 x.2.l, .int .i64 x.2.a, .int .i64 x.2.n, .int .i64 x.2.s] 28 (0, 0))) (fun x N W W' h e => e.trans h) ?assign ?body ?done ?stop
      case stop => exact fun _ _ _ _ _ _ h => h.elim
      case assign =>
       intro l x W K hK
       simp only [encs_V]
       clear hGl
       gi_wp2
       exact hK _ ((Below.refl _ W).alloc (Nat.le_refl _) _) (by simp) (World.alloc_heap_new _ _)
      case body =>
       rintro l pre x Φi Nx W' hpx ⟨hno, hbx, hsz⟩ hl hΦl - hlN hNW hAt
       have hok := HOK.out x (hpx.subset (by simp))
       have hmx := maxCap_snoc pre x n0
       obtain ⟨m, hm⟩ : ∃ m, m = maxCap pre n0 := ⟨_, rfl⟩
       obtain ⟨xb, hxb⟩ : ∃ xb, xb = x.2 := ⟨_, rfl⟩
       obtain ⟨cp, hcp⟩ : ∃ cp, cp = capB xb := ⟨_, rfl⟩
       rw [← hm] at hbx hmx
       rw [← hxb, ← hcp] at hmx
       have hcap : ∀ wx, Calls Tryz.prog 60 #[.agg (balS.f xb).toArray] wx fun e w' => e = .returned (.int .i64 cp) ∧ Below wx.heap.size wx w' := fun wx => by rw [hcp]; exact cCap xb (by rw [hxb]; exact hok) wx
       have hNr : W'.rangeAt Nx 0 (balS.f xb) := by rw [hxb]; exact rangeAt_whole (T := balS.T) hAt
       have hnx : Nx ≠ nb := by omega
       have hnbW : nb < W'.heap.size := by omega
       have hS : ∀ wx, Below W'.heap.size W' wx → (loadSt_V (.pointer (some ⟨Nx, 0, none⟩))).run Tryz.prog wx = .ok (.agg (balS.f xb).toArray) wx ∧ wx.cell? ⟨nb, 0, none⟩ = some (.int .i64 m) ∧ wx.frozen? ⟨nb, 0, none⟩ = false := fun wx hb => by
        have hbb : Boxed wx nb 3 (.int .i64 m) := (hb.block nb hnbW).trans hbx
        exact ⟨run_loadSt_V (rangeAt_block hNr (hb.block Nx hNW)), hbb.cell, hbb.frozen⟩
       have hS2 : ∀ wx, Below W'.heap.size W' wx → ∀ v, (loadSt_V (.pointer (some ⟨Nx, 0, none⟩))).run Tryz.prog (wx.setCell ⟨nb, 0, none⟩ v) = .ok (.agg (balS.f xb).toArray) (wx.setCell ⟨nb, 0, none⟩ v) ∧ ((wx.setCell ⟨nb, 0, none⟩ v).heap[nb]? = some (.cells #[v] 3 (0, 0))) ∧ ∀ j, j ≠ nb → j < W'.heap.size → (wx.setCell ⟨nb, 0, none⟩ v).heap[j]? = W'.heap[j]? := fun wx hb v => by
        have hbb : Boxed wx nb 3 (.int .i64 m) := (hb.block nb hnbW).trans hbx
        exact ⟨run_loadSt_V (rangeAt_block hNr ((Below.heap_setCell _ _ _ Nx hnx).trans (hb.block Nx hNW))), hbb.set v, fun j hj hl => (Below.heap_setCell _ _ _ j hj).trans (hb.block j hl)⟩
       have HS := Lib.hid hS
       have HS2 := Lib.hid hS2
       have HC := Lib.hid hcap
       have HR := Lib.hid (And.intro hno (And.intro hsz (And.intro hmx hbx)))
       have K0 := Lib.hid (show Below W'.heap.size W' W'.drew from (Below.refl _ W').drew)
       have SL := Lib.hid (show ∀ W, Below W'.heap.size W' W → (loadSt_V (.pointer (some ⟨Nx, 0, none⟩))).run Tryz.prog W = .ok (.agg (balS.f xb).toArray) W from fun W hb => (hS W hb).1)
       obtain ⟨-, z0, -⟩ := hS _ K0.out
       clear hno hbx hsz hmx hm hxb hcp hcap hNr hnx hnbW hS hS2 hok hpx hAt hGl
       gi_upto_region 11 with fail
       refine wpIn_region_heldR (S := fun wx => (loadSt_V (.pointer (some ⟨Nx, 0, none⟩))).run Tryz.prog wx = .ok (.agg (balS.f xb).toArray) wx) (R := fun a wx => ∃ w9, Below W'.heap.size W' w9 ∧ wx = w9.setCell ⟨nb, 0, none⟩ (.int .i64 (max m cp))) mixed (by kernel_rfl) (SL.out _ K0.out) (fun hHeld => ?_) ?_
       · refine wpAnyH_take (i := 1) (v := ?_) rfl (by kernel_rfl) (by kernel_rfl) (by kernel_rfl) (fun _ _ _ h => h) (Or.inl ⟨by kernel_rfl, ?_⟩) (by assumption) ?_
         rotate_left
         · intro w' hSw
           try dsimp only at hSw
           go_simp
           try with_reducible rfl
         try walk_nrm
         refine wpAnyH_ready (rs := [0, 2]) (by kernel_rfl) (by simp) ?_
         refine AllReadyH.cons rfl (fun K hK => ?_) (AllReadyH.cons rfl (fun K hK => ?_) AllReadyH.nil)
         · rw [if_pos (by kernel_rfl)]
           go_simp
           skip
           first | refine hK.out _ _ ?_ (fun hHeld => ?_) | (go_wp2_with fail; refine hK.out _ _ ?_ (fun hHeld => ?_))
           · try dsimp only
             exact SL.out _ K0.out
           clear hK K
           try walk_nrm
           refine wpAnyH_ready (rs := [2]) (by kernel_rfl) (by simp) ?_
           refine AllReadyH.cons rfl (fun K hK => ?_) AllReadyH.nil
           rw [if_pos (by kernel_rfl)]
           go_simp
           go_at_call 60; refine (HC.out _).mono ?_; rintro e w9 ⟨rfl, hb⟩; have K9 := Lib.hid (K0.out.trans (hb.mono K0.out.size)); obtain ⟨-, z9, f9⟩ := HS.out _ K9.out; clear hb
           first | refine hK.out _ _ ?_ (fun hHeld => ?_) | (go_wp2_with fail; refine hK.out _ _ ?_ (fun hHeld => ?_))
           · try dsimp only
             exact SL.out _ K9.out
           clear hK K
           try walk_nrm
           refine wpAnyH_ready (rs := [3]) (by kernel_rfl) (by simp) ?_
           refine AllReadyH.cons rfl (fun K hK => ?_) AllReadyH.nil
           rw [if_pos (by kernel_rfl)]
           go_simp
           skip
           first | refine hK.out _ _ ?_ (fun hHeld => ?_) | (go_wp2_with fail; refine hK.out _ _ ?_ (fun hHeld => ?_))
           · try dsimp only
             exact SL.out _ K9.out
           clear hK K
           try walk_nrm
           refine wpAnyH_ready (rs := [4]) (by kernel_rfl) (by simp) ?_
           refine AllReadyH.cons rfl (fun K hK => ?_) AllReadyH.nil
           rw [if_pos (by kernel_rfl)]
           go_simp
           skip
           first | refine hK.out _ _ ?_ (fun hHeld => ?_) | (go_wp2_with fail; refine hK.out _ _ ?_ (fun hHeld => ?_))
           · try dsimp only
             exact (HS2.out _ K9.out _).1
           clear hK K
           try walk_nrm
           refine wpAnyH_done (by kernel_rfl) ?_ _
           exact ⟨w9, K9.out, rfl⟩
         · rw [if_pos (by kernel_rfl)]
           go_simp
           go_at_call 60; refine (HC.out _).mono ?_; rintro e w9 ⟨rfl, hb⟩; have K9 := Lib.hid (K0.out.trans (hb.mono K0.out.size)); obtain ⟨-, z9, f9⟩ := HS.out _ K9.out; clear hb
           first | refine hK.out _ _ ?_ (fun hHeld => ?_) | (go_wp2_with fail; refine hK.out _ _ ?_ (fun hHeld => ?_))
           · try dsimp only
             exact SL.out _ K9.out
           clear hK K
           try walk_nrm
           refine wpAnyH_ready (rs := [0]) (by kernel_rfl) (by simp) ?_
           refine AllReadyH.cons rfl (fun K hK => ?_) AllReadyH.nil
           rw [if_pos (by kernel_rfl)]
           go_simp
           skip
           first | refine hK.out _ _ ?_ (fun hHeld => ?_) | (go_wp2_with fail; refine hK.out _ _ ?_ (fun hHeld => ?_))
           · try dsimp only
             exact SL.out _ K9.out
           clear hK K
           try walk_nrm
           refine wpAnyH_ready (rs := [3]) (by kernel_rfl) (by simp) ?_
           refine AllReadyH.cons rfl (fun K hK => ?_) AllReadyH.nil
           rw [if_pos (by kernel_rfl)]
           go_simp
           skip
           first | refine hK.out _ _ ?_ (fun hHeld => ?_) | (go_wp2_with fail; refine hK.out _ _ ?_ (fun hHeld => ?_))
           · try dsimp only
             exact SL.out _ K9.out
           clear hK K
           try walk_nrm
           refine wpAnyH_ready (rs := [4]) (by kernel_rfl) (by simp) ?_
           refine AllReadyH.cons rfl (fun K hK => ?_) AllReadyH.nil
           rw [if_pos (by kernel_rfl)]
           go_simp
           skip
           first | refine hK.out _ _ ?_ (fun hHeld => ?_) | (go_wp2_with fail; refine hK.out _ _ ?_ (fun hHeld => ?_))
           · try dsimp only
             exact (HS2.out _ K9.out _).1
           clear hK K
           try walk_nrm
           refine wpAnyH_done (by kernel_rfl) ?_ _
           exact ⟨w9, K9.out, rfl⟩
       rintro a wx ⟨w9, hb9, rfl⟩
       obtain ⟨hno, hsz, hmx, hbx⟩ := HR.out
       obtain ⟨-, k1, k2⟩ := HS2.out w9 hb9 (.int .i64 (max m cp))
       have hg9 : Grow W' (w9.setCell ⟨nb, 0, none⟩ (.int .i64 (max m cp))) := (Grow.of_below hb9).trans ⟨rfl, rfl, rfl, by simp [World.setCell]⟩
       refine ⟨Φi, fun k h => .inl h, ⟨hg9, fun k hk h1 h2 => k2 k h1 hk⟩, hno, ?_, Nat.le_trans hsz hg9.size⟩
       rw [hmx]
       exact k1
      case done =>
       rintro D Φ W3 ⟨hno, hbx, hsz⟩ hon hD hnD hK
       have c1 := hbx.cell
       have hb4 : Below w4.heap.size w4 W3 := by
        have h1 := K6.out.trans (H7.out.2.1.mono K6.out.size)
        have h2 := h1.trans (HB8.out.mono h1.size)
        exact ⟨hon.grow.os.trans h2.os, hon.grow.tape.trans h2.tape, hon.grow.output.trans h2.output, Nat.le_trans h2.size hon.grow.size, fun k hk => (hon.block k (Nat.lt_of_lt_of_le hk h2.size) (fun e => by have := HNF.out.2.2; omega) (fun h => h)).trans (h2.block k hk)⟩
       have Q9 := Lib.hid (Q4.out.below hb4)
       have hlock := ledger_LockX Q9.out.ld HM.out.1 HM.out.2.1 HM.out.2.2.1 HM.out.2.2.2.1 (maxCap xs n0)
       have HLO := Lib.hid hlock
       have hDl : D < W3.heap.size := (Array.getElem?_eq_some_iff.1 hK).1
       have HD9 := Lib.hid (And.intro hD (And.intro hK (And.intro hDl hb4)))
       clear hno hbx hsz hon hD hnD hK hb4 hlock hDl hGl
       gi_wp2_with (first
        | (gi_at_call 79; refine (callsIn_wide.2 HLO.out).mono ?_; rintro e w10 ⟨rfl, hto⟩; have H10 := Lib.hid hto; clear hto)
        | (refine ⟨trivial, ?_⟩; gi_at_call 79; refine (callsIn_wide.2 HLO.out).mono ?_; rintro e w10 ⟨rfl, hto⟩; have H10 := Lib.hid hto; clear hto)
        | fail)
       obtain ⟨hD, hK, hDl, hb4⟩ := HD9.out
       obtain ⟨F10, k1, k2, k3⟩ := H10.out
       have hq := Q9.out.toL H10.out
       have hDL : ∀ k, FL k → k ≠ D := fun k hk e => by have := Q4.out.ld.lt hk; have := HB8.out.size; have := H7.out.2.2.1; have := HNF.out.2.2; omega
       have hFD : ∀ k, F4 k → k ≠ D := fun k hk e => by have := Q7.out.vo.lt hk; have := HB8.out.size; omega
       have hF10 : ∀ k, F10 k → k ≠ D := fun k hk e => (k2 k hk).elim (fun h => hDL k h e) (fun h => by omega)
       have hKD : w10.heap[D]? = some (.deferred (some [])) := (k3.block D hDl (fun h => hDL D h rfl) (fun h => h)).trans hK
       have hs10 : Stt g vb N S1 A (lockM M a t (maxCap xs n0)) F4 F10 Zn w [] w10 := ⟨Q9.out.vo.keep k3.grow (fun k hk => k3.block k (Q9.out.vo.lt hk) (fun e => Q9.out.dis k hk e) (fun h => h)), k1, fun k hk hl => (k2 k hl).elim (fun e => Q9.out.dis k hk e) (fun e => by have := Q9.out.vo.lt hk; omega), only_cons Q9.out.on (fun k hk => Q9.out.sub k (.inr hk)) k3, fun k hk => hk.elim (fun e => Q9.out.sub k (.inl e)) (fun e => (k2 k e).elim (fun e => Q9.out.sub k (.inr e)) (fun e => .inr (Nat.le_trans Q9.out.on.grow.size e))), fun b hb => by cases hb⟩
       refine marks_leave [D] w10 (by simp) (fun d hd => ?_) (fun w' hg hk => ⟨.int .i64 0, by simp [results, Tryz.results26, go_sem], rfl, ?_⟩)
       · simp only [List.mem_cons, List.not_mem_nil, or_false] at hd
         subst hd; exact hKD
       · have hs11 := hs10.keep (W' := w') hg (fun k hk' => hk k (by simp; exact hk'.elim (hFD k) (hF10 k))) ⟨hg.os, hg.tape, hg.output, hg.size, fun k hk' => hk k (by simp; have := HB8.out.size; have := H7.out.2.2.1; have := HNF.out.2.2; have := L4.out; omega)⟩
         have e0 := H7.out.2.2.2
         rw [← e0]
         exact hs11.to
   · have HT := Lib.hid (show decide (0 ≤ t ∧ t < 4) = false from decide_eq_false htr)
     have hE : unlE a t = 1 := by unfold unlE; rw [if_pos (.inr htr)]
     have hS : unlS S a t now = S := by unfold unlS; rw [if_neg (by rw [hE]; decide)]
     have hMM : unlM S M a t now = M := by unfold unlM; rw [if_neg (by rw [hE]; decide)]
     rw [hE, hS, hMM]
     have HX := Lib.hid h
     clear hE hS hMM h hv hM ha ht hac htr
     refine (callsIn_wide (n := 3)).1 ?_
     refine callsIn_of_wp_marks Tryz.func26 rfl trivial ?_ rfl
     simp only [Tryz.ntmps26, List.size_toArray, List.length_cons, List.length_nil, Nat.reduceAdd, Nat.reduceSub, Array.replicate_succ, Array.replicate_zero, List.push_toArray, List.append_toArray, List.nil_append, List.cons_append]
     gi_wp2_with (first
      | (gi_at_call 57; refine (callsIn_wide.2 (bound_Account _ _)).mono ?_; rw [HA.out]; rintro e w' ⟨rfl, hw⟩; rw [hw]; clear hw w')
      | (refine ⟨trivial, ?_⟩; gi_at_call 57; refine (callsIn_wide.2 (bound_Account _ _)).mono ?_; rw [HA.out]; rintro e w' ⟨rfl, hw⟩; rw [hw]; clear hw w')
      | (gi_at_call 54; refine (callsIn_wide.2 (voting_isTrack _ _)).mono ?_; rw [HT.out]; rintro e w' ⟨rfl, hw⟩; rw [hw]; clear hw w')
      | (refine ⟨trivial, ?_⟩; gi_at_call 54; refine (callsIn_wide.2 (voting_isTrack _ _)).mono ?_; rw [HT.out]; rintro e w' ⟨rfl, hw⟩; rw [hw]; clear hw w')
      | fail)
     refine marks_leave [] w (by simp) (fun d hd => by cases hd) (fun w' hg hk => ⟨.int .i64 1, by simp [results, Tryz.results26, go_sem], rfl, ?_⟩)
     have hb : Below w.heap.size w w' := ⟨hg.os, hg.tape, hg.output, hg.size, fun k hk' => hk k (by simp)⟩
     exact LvTo.of_below HX.out hb
 · have HA := Lib.hid (show decide (0 ≤ a ∧ a < 10) = false from decide_eq_false hac)
   have hE : unlE a t = 1 := by unfold unlE; rw [if_pos (.inl hac)]
   have hS : unlS S a t now = S := by unfold unlS; rw [if_neg (by rw [hE]; decide)]
   have hMM : unlM S M a t now = M := by unfold unlM; rw [if_neg (by rw [hE]; decide)]
   rw [hE, hS, hMM]
   have HX := Lib.hid h
   clear hE hS hMM h hv hM ha ht hac
   refine (callsIn_wide (n := 3)).1 ?_
   refine callsIn_of_wp_marks Tryz.func26 rfl trivial ?_ rfl
   simp only [Tryz.ntmps26, List.size_toArray, List.length_cons, List.length_nil, Nat.reduceAdd, Nat.reduceSub, Array.replicate_succ, Array.replicate_zero, List.push_toArray, List.append_toArray, List.nil_append, List.cons_append]
   gi_wp2_with (first
    | (gi_at_call 57; refine (callsIn_wide.2 (bound_Account _ _)).mono ?_; rw [HA.out]; rintro e w' ⟨rfl, hw⟩; rw [hw]; clear hw w')
    | (refine ⟨trivial, ?_⟩; gi_at_call 57; refine (callsIn_wide.2 (bound_Account _ _)).mono ?_; rw [HA.out]; rintro e w' ⟨rfl, hw⟩; rw [hw]; clear hw w')
    | (refine ⟨trivial, ?_⟩)
    | fail)
   refine marks_leave [] w (by simp) (fun d hd => by cases hd) (fun w' hg hk => ⟨.int .i64 1, by simp [results, Tryz.results26, go_sem], rfl, ?_⟩)
   have hb : Below w.heap.size w w' := ⟨hg.os, hg.tape, hg.output, hg.size, fun k hk' => hk k (by simp)⟩
   exact LvTo.of_below HX.out hb
end
section
open Go.RowKit Go.Maps
structure PKeep (P P' : Nat → Pl) : Prop where
 st : ∀ k, (P k).st ≠ 0 → (P' k).st ≠ 0
 tr : ∀ k, k < 12 → (0 ≤ (P k).tr ∧ (P k).tr < 4) → 0 ≤ (P' k).tr ∧ (P' k).tr < 4
theorem PKeep.withT (P : Nat → Pl) (k : Nat) (t : Tl) : PKeep P (putP P k ((P k).withT t)) := by
 refine ⟨fun i h => ?_, fun i hi h => ?_⟩ <;> by_cases e : i = k
 · subst e; rw [putP_same]; exact h
 · rw [putP_other _ _ e]; exact h
 · subst e; rw [putP_same]; exact h
 · rw [putP_other _ _ e]; exact h
theorem PKeep.lend (was is : Wgt) (P : Nat → Pl) (l : List (Int × Bal)) : PKeep P (lendP was is P l) :=
 ⟨fun k h => by rw [(lendP_same was is l P k).1]; exact h, fun k _ h => by rw [(lendP_same was is l P k).2.1]; exact h⟩
theorem VInv.polls {S : Vs} (h : VInv S) {P' : Nat → Pl} (hk : PKeep S.P P') : VInv { S with P := P' } :=
 ⟨fun x hx => ⟨(h.v x hx).1, hk.st _ (h.v x hx).2.1, (h.v x hx).2.2⟩, h.d, h.g, h.q, fun k hk' => hk.tr k hk' (h.t k hk')⟩
theorem VInv.delV {S : Vs} (h : VInv S) (a r : Int) : VInv { S with V := cdel S.V a r } := ⟨fun x hx => h.v x (mem_cdel.1 hx).1, h.d, h.g, h.q, h.t⟩
theorem VInv.delD {S : Vs} (h : VInv S) (a r : Int) : VInv { S with D := cdel S.D a r } := ⟨h.v, fun x hx => h.d x (mem_cdel.1 hx).1, h.g, h.q, h.t⟩
theorem VInv.setQ {S : Vs} (h : VInv S) {Q : Cls Wgt} (hq : KeyBox Q) : VInv { S with Q := Q } := ⟨h.v, h.d, h.g, hq, h.t⟩
theorem KeyBox.join {Q : Cls Wgt} (h : KeyBox Q) {a b : Int} (ha : 0 ≤ a ∧ a < 10) (hb : 0 ≤ b ∧ b < 12) (u n now : Int) : KeyBox (joinQ Q a b u n now) := by
 unfold joinQ
 split
 · exact h
 · exact h.put ha hb _
theorem VInv.lend {S : Vs} (h : VInv S) {who t : Int} (hw : 0 ≤ who ∧ who < 10) (ht : 0 ≤ t ∧ t < 4) (dv dc : Int) : VInv (lendS S who t dv dc) := by
 have h1 : VInv { S with P := lendP ((cget S.G who t).getD ⟨0, 0⟩) (lendG S who t dv dc) S.P (ballots S who t) } := h.polls (PKeep.lend _ _ _ _)
 exact ⟨h1.v, h1.d, h.g.put hw (by omega) _, h1.q, h1.t⟩
theorem VInv.open {S : Vs} (h : VInv S) (r t : Int) : VInv (openS S r t) := by
 unfold openS
 split
 · rename_i e
   unfold openE at e
   split at e
   · omega
   rename_i q
   refine h.polls ⟨fun i hi => ?_, fun i hi hp => ?_⟩ <;> by_cases ei : i = r.toNat
   · subst ei; rw [putP_same]; show (1 : Int) ≠ 0; omega
   · rw [putP_other _ _ ei]; exact hi
   · subst ei; rw [putP_same]; show 0 ≤ t ∧ t < 4; omega
   · rw [putP_other _ _ ei]; exact hp
 · exact h
theorem VInv.close {S : Vs} (h : VInv S) (r st en : Int) : VInv (closeS S r st en) := by
 unfold closeS
 split
 · rename_i e
   unfold closeE at e
   split at e
   · omega
   split at e
   · omega
   split at e
   · omega
   rename_i q
   refine h.polls ⟨fun i hi => ?_, fun i hi hp => ?_⟩ <;> by_cases ei : i = r.toNat
   · subst ei; rw [putP_same]; show st ≠ 0; omega
   · rw [putP_other _ _ ei]; exact hi
   · subst ei; rw [putP_same]; exact hp
   · rw [putP_other _ _ ei]; exact hp
 · exact h
theorem voteE_ok {S : Vs} {A : Acc} {a r : Int} {x : Bal} (h : voteE S A a r x = 0) : isAcc a ∧ balOk x = true ∧ plHas S.P r ∧ (S.P r.toNat).st = 1 := by
 unfold voteE at h
 split at h
 · omega
 rename_i h1
 split at h
 · omega
 rename_i h2
 split at h
 · omega
 rename_i h3
 refine ⟨Classical.not_not.1 (fun q => h1 (.inl q)), ?_, Classical.not_not.1 h2, Classical.not_not.1 h3⟩
 cases e : balOk x with
 | true => rfl
 | false => exact (h1 (.inr e)).elim
theorem VInv.vote {S : Vs} (h : VInv S) (A : Acc) (a r : Int) (x : Bal) : VInv (voteS S A a r x) := by
 unfold voteS
 split
 · rename_i e
   obtain ⟨h1, h2, h3, h4⟩ := voteE_ok e
   have hp := h.polls (PKeep.withT S.P r.toNat (voteT S a r x))
   refine ⟨fun y hy => ?_, hp.d, hp.g, hp.q, hp.t⟩
   rcases mem_cput.1 hy with rfl | ⟨hy, -⟩
   · exact ⟨⟨h1, h3.1⟩, (PKeep.withT S.P r.toNat (voteT S a r x)).st _ h3.2, h2⟩
   · exact hp.v y hy
 · exact h
theorem VInv.unvote {S : Vs} (h : VInv S) (a r now : Int) : VInv (unvoteS S a r now) := by
 unfold unvoteS
 split
 · rename_i e
   have hd := h.delV a r
   unfold unvoteE at e
   split at e
   · omega
   rename_i hac
   split at e
   · omega
   rename_i hh
   have ht : 0 ≤ (S.P r.toNat).tr ∧ (S.P r.toNat).tr < 4 := h.t _ (by have := (Classical.not_not.1 (fun q => hh (.inl q)) : plHas S.P r).1; omega)
   split
   · exact hd.polls (PKeep.withT S.P r.toNat _)
   · split
     · exact hd.setQ (h.q.join (Classical.not_not.1 hac) (by omega) _ _ _)
     · exact hd
 · exact h
theorem delE_ok {S : Vs} {A : Acc} {a t who l n : Int} (h : delE S A a t who l n = 0) : isAcc a ∧ (0 ≤ t ∧ t < 4) ∧ isAcc who ∧ (0 ≤ l ∧ l ≤ 6) ∧ isBal n := by
 unfold delE at h
 split at h
 · omega
 rename_i q
 refine ⟨?_, ?_, ?_, ?_, ?_⟩
 · exact Classical.not_not.1 (fun p => q (.inl p))
 · exact Classical.not_not.1 (fun p => q (.inr (.inl p)))
 · exact Classical.not_not.1 (fun p => q (.inr (.inr (.inl p))))
 · exact Classical.not_not.1 (fun p => q (.inr (.inr (.inr (.inr (.inl p))))))
 · exact Classical.not_not.1 (fun p => q (.inr (.inr (.inr (.inr (.inr p))))))
theorem VInv.del {S : Vs} (h : VInv S) (A : Acc) (a t who l n : Int) : VInv (delS S A a t who l n) := by
 unfold delS
 split
 · rename_i e
   obtain ⟨h1, h2, h3, h4, h5⟩ := delE_ok e
   have h1' : 0 ≤ a ∧ a < 10 := h1
   have hd : VInv { S with D := cput S.D a t ⟨who, l, n⟩ } := ⟨h.v, fun x hx => by
    rcases mem_cput.1 hx with rfl | ⟨hx, -⟩
    · exact ⟨⟨h1, by show 0 ≤ t ∧ t < 12; omega⟩, h3, h4, h5⟩
    · exact h.d x hx, h.g, h.q, h.t⟩
   exact hd.lend h3 h2 _ _
 · exact h
theorem VInv.und {S : Vs} (h : VInv S) (hs : SrtC S.D) (a t now : Int) : VInv (undS S a t now) := by
 unfold undS
 split
 · rename_i e
   unfold undE at e
   split at e
   · omega
   rename_i q
   split at e
   · omega
   rename_i q2
   have h1 : 0 ≤ a ∧ a < 10 := Classical.not_not.1 (fun p => q (.inl p))
   have h2 : 0 ≤ t ∧ t < 4 := Classical.not_not.1 (fun p => q (.inr p))
   obtain ⟨d, hd⟩ := Option.isSome_iff_exists.1 (show (cget S.D a t).isSome = true by cases e2 : (cget S.D a t).isSome with | true => rfl | false => exact (q2 e2).elim)
   have hdd : undD S a t = d := by unfold undD; rw [hd]; rfl
   obtain ⟨-, k1, k2, k3⟩ := h.d _ (hs.get.1 hd)
   have hl := (h.delD a t).lend (who := (undD S a t).to) (t := t) (by rw [hdd]; exact k1) h2 (wrap64 (-(votesI (undD S a t).n (undD S a t).l))) (wrap64 (-(undD S a t).n))
   exact hl.setQ (h.q.join h1 (by omega) _ _ _)
 · exact h
theorem VInv.unl {S : Vs} (h : VInv S) (a t now : Int) : VInv (unlS S a t now) := by
 unfold unlS
 split
 · refine h.setQ ?_
   unfold unlQ
   split
   · exact h.q.del _ _
   · exact h.q
 · exact h
theorem KeyBox.lock {M : Cls Int} (h : KeyBox M) {a t : Int} (ht : 0 ≤ t ∧ t < 12) (n : Int) : KeyBox (lockM M a t n) := by
 unfold lockM
 split
 · exact h
 · rename_i q
   split
   · exact h.del _ _
   · exact h.put (Classical.not_not.1 q) ht _
theorem KeyBox.raise {M : Cls Int} (h : KeyBox M) {a t : Int} (ht : 0 ≤ t ∧ t < 12) (n : Int) : KeyBox (raiseM M a t n) := by
 unfold raiseM
 split
 · exact h
 · exact h.lock ht n
theorem KeyBox.voteM {M : Cls Int} (h : KeyBox M) {S : Vs} (hv : VInv S) (A : Acc) (a r : Int) (x : Bal) : KeyBox (voteM S A M a r x) := by
 unfold Go.Proofs.YtbpemdihoabbcaaGreat.voteM
 split
 · rename_i e
   obtain ⟨h1, h2, h3, h4⟩ := voteE_ok e
   have := hv.t r.toNat (by have := h3.1; omega)
   exact h.raise (by omega) _
 · exact h
theorem KeyBox.delM {M : Cls Int} (h : KeyBox M) (S : Vs) (A : Acc) (a t who l n : Int) : KeyBox (delM S A M a t who l n) := by
 unfold Go.Proofs.YtbpemdihoabbcaaGreat.delM
 split
 · rename_i e
   obtain ⟨h1, h2, -⟩ := delE_ok e
   exact h.raise (by omega) _
 · exact h
theorem KeyBox.unlM {M : Cls Int} (h : KeyBox M) (S : Vs) (a t now : Int) : KeyBox (unlM S M a t now) := by
 unfold Go.Proofs.YtbpemdihoabbcaaGreat.unlM
 split
 · rename_i e
   unfold unlE at e
   split at e
   · omega
   rename_i q
   exact h.lock (by have := (Classical.not_not.1 (fun p => q (.inr p)) : 0 ≤ t ∧ t < 4); omega) _
 · exact h
end
section
open Go.ChangeShapes Go.WideShapes Go.ChangeAt Go.RowKit
section
variable {H : Type} {enc : TypeId × Value → H} {P : Program}
theorem trodAll_stays (hl : laidOutB P = true) {W W' : World} (hb : Below W.heap.size W W') : ∀ (ts : List TypeId) (vs : List Value) (ds : List (DataW H)) (ps : List MemPlace),
 (ts.all fun t => P.readableRec t && decide (t < P.types.size)) = true → DataW.TrodAll enc P W 0 (fun _ => true) true ts vs ds ps →
 DataW.TrodAll enc P W' 0 (fun b => decide (b < W.heap.size)) true ts vs ds ps
 | [], [], [], _, _, h => h
 | t :: ts, v :: vs, d :: ds, _, hr, h => by
  obtain ⟨p, q, h1, h2, rfl⟩ := h
  simp only [List.all_cons, Bool.and_eq_true, decide_eq_true_eq] at hr
  have lt : ∀ x ∈ p, x.block < W.heap.size := by obtain ⟨m, hm⟩ := h1; exact DataW.trod_lt m _ _ _ hm
  exact ⟨p, q, Below.trod hl hr.1.1 hr.1.2 h1 hb lt, trodAll_stays hl hb ts vs ds q hr.2 h2, rfl⟩
 | [], _ :: _, _, _, _, h => h.elim
 | [], [], _ :: _, _, _, h => h.elim
 | _ :: _, [], _, _, _, h => h.elim
 | _ :: _, _ :: _, [], _, _, h => h.elim
theorem trodAll_lengths {w : World} {base : Nat} {spare : Nat → Bool} {held : Bool} : ∀ (ts : List TypeId) (vs : List Value) (ds : List (DataW H)) (ps : List MemPlace), DataW.TrodAll enc P w base spare held ts vs ds ps → ds.length = ts.length ∧ vs.length = ts.length
 | [], [], [], _, _ => ⟨rfl, rfl⟩
 | _ :: ts, _ :: vs, _ :: ds, _, h => by
  obtain ⟨_, q, _, h2, _⟩ := h
  have := trodAll_lengths ts vs ds q h2
  exact ⟨by simp [this.1], by simp [this.2]⟩
 | [], _ :: _, _, _, h => h.elim
 | [], [], _ :: _, _, h => h.elim
 | _ :: _, [], _, _, h => h.elim
 | _ :: _, _ :: _, [], _, h => h.elim
def IsLaw (s : ChangeSpec) (n : Nat) : Prop := s.vars = [] ∧ ∀ (H : Type) (ds : List (DataW H)), ds.length = n → s.fn H ds = { results := [.lit (.bool true)], args := ds }
structure LawFacts (P : Program) (fn : Func) : Prop where
 laid : laidOutB P = true
 read : (fn.params.toList.all fun t => P.readableRec t && decide (t < P.types.size)) = true
 res : ∃ T, fn.resultTypes = #[T] ∧ P.underlying T = some .bool
theorem law_post {fn : Func} {s : ChangeSpec} (hs : IsLaw s fn.params.size) (hf : LawFacts P fn) {W W' : World} {args : Array Value} {ds gs : List (DataW H)} {before : List MemPlace}
 (hW : DataW.Whole enc P fn.params.toList s.vars false W args.toList ds gs before) (hb : Below W.heap.size W W') :
 s.post enc P fn false true false false W args (.bool true) W' := by
 have hW' := hW
 obtain ⟨p, q, hA, hV, _, _, _⟩ := hW
 rw [hs.1] at hV
 obtain ⟨rfl, _⟩ := trodVars_none hV
 have hlen : ds.length = fn.params.size := by have := (trodAll_lengths _ _ _ _ hA).1; simpa using this
 have hfn := hs.2 H ds hlen
 obtain ⟨T, hT, hB⟩ := hf.res
 refine ⟨_, _, _, [], p, [], hW', ?_, ?_, ?_, hb.frame _, fun h => by cases h⟩
 · rw [List.append_nil, hfn, hT]
   exact trodAll_mk1 (shut_bool hB _)
 · rw [List.append_nil, hfn]
   exact trodAll_stays hf.laid hb _ _ _ _ hf.read hA
 · rw [List.append_nil, hfn, hs.1]
   rfl
end
end
section
open Go.ChangeShapes Go.WideShapes Go.ChangeAt Go.RowKit
section
variable {H : Type} {enc : TypeId × Value → H} {P : Program} {w : World} {base : Nat} {spare : Nat → Bool} {held : Bool}
abbrev Leaf := Option IntKind
def leafFits : Leaf → Value → Prop
 | some k, v => ∃ n, v = .int k n ∧ (Lit.int k n).wf = true
 | .none, v => ∃ b, v = .bool b
def Fits : List Leaf → List Value → Prop
 | [], [] => True
 | l :: ls, v :: vs => leafFits l v ∧ Fits ls vs
 | _, _ => False
theorem fits_append : ∀ {a b : List Leaf} {x y : List Value}, Fits a x → Fits b y → Fits (a ++ b) (x ++ y)
 | [], _, [], _, _, h => h
 | _ :: _, _, _ :: _, _, h, k => ⟨h.1, fits_append h.2 k⟩
 | [], _, _ :: _, _, h, _ => h.elim
 | _ :: _, _, [], _, h, _ => h.elim
theorem fits_length : ∀ {a : List Leaf} {x : List Value}, Fits a x → x.length = a.length
 | [], [], _ => rfl
 | _ :: _, _ :: _, h => by simp [fits_length h.2]
 | [], _ :: _, h => h.elim
 | _ :: _, [], h => h.elim
theorem fits_int {k : IntKind} {ls : List Leaf} {cs : List Value} (h : Fits (some k :: ls) cs) : ∃ n vs, cs = .int k n :: vs ∧ (Lit.int k n).wf = true ∧ Fits ls vs := by
 match cs, h with
 | v :: vs, h => obtain ⟨⟨n, rfl, hn⟩, hr⟩ := h; exact ⟨n, vs, rfl, hn, hr⟩
theorem fits_bool {ls : List Leaf} {cs : List Value} (h : Fits (.none :: ls) cs) : ∃ b vs, cs = .bool b :: vs ∧ Fits ls vs := by
 match cs, h with
 | v :: vs, h => obtain ⟨⟨b, rfl⟩, hr⟩ := h; exact ⟨b, vs, rfl, hr⟩
theorem fits_nil {cs : List Value} (h : Fits [] cs) : cs = [] := by
 match cs, h with
 | [], _ => rfl
def fieldLeaves (P : Program) (of : TypeId → Option (List Leaf)) : Nat → List Field → Option (List Leaf)
 | _, [] => some []
 | off, f :: fs => match of f.type, fieldLeaves P of (off + P.cellsOf f.type) fs with
  | some a, some b => if f.offset = off ∧ a.length = P.cellsOf f.type then some (a ++ b) else .none
  | _, _ => .none
def repeatLeaves (a : List Leaf) : Nat → List Leaf
 | 0 => []
 | n + 1 => a ++ repeatLeaves a n
def leaves (P : Program) : Nat → TypeId → Option (List Leaf)
 | 0, _ => .none
 | n + 1, t => match P.underlying t with
  | some .bool => some [.none]
  | some (.int k) => some [some k]
  | some (.struct fs) => match fieldLeaves P (leaves P n) 0 fs.toList with
   | some ls => if ls.length = P.cellsOf t then some ls else .none
   | .none => .none
  | some (.array m e) => match leaves P n e with
   | some a => if a.length = P.cellsOf e ∧ m * P.cellsOf e = P.cellsOf t then some (repeatLeaves a m) else .none
   | .none => .none
  | _ => .none
theorem fields_fit {of : TypeId → Option (List Leaf)} {cs : List Value} : ∀ (fs : List Field) (off : Nat) (ls : List Leaf), fieldLeaves P of off fs = some ls →
 (∀ f ∈ fs, ∀ a, of f.type = some a → Fits a ((cs.drop f.offset).take (P.cellsOf f.type))) → ∃ pre rest, cs.drop off = pre ++ rest ∧ Fits ls pre
 | [], off, ls, h, _ => by
  simp only [fieldLeaves, Option.some.injEq] at h; subst h
  exact ⟨[], _, rfl, trivial⟩
 | f :: fs, off, ls, h, hf => by
  simp only [fieldLeaves] at h
  split at h
  · rename_i a b ha hb
    split at h
    · rename_i hc
      simp only [Option.some.injEq] at h; subst h
      have k := hf f (List.mem_cons_self ..) a ha
      obtain ⟨pre, rest, hd, hfit⟩ := fields_fit fs _ b hb (fun g hg => hf g (List.mem_cons_of_mem _ hg))
      rw [hc.1] at k
      refine ⟨(cs.drop off).take (P.cellsOf f.type) ++ pre, rest, ?_, fits_append k hfit⟩
      rw [List.append_assoc, ← hd, ← List.drop_drop, List.take_append_drop]
    · cases h
  · cases h
theorem repeat_length (a : List Leaf) : ∀ n, (repeatLeaves a n).length = n * a.length
 | 0 => by simp [repeatLeaves]
 | n + 1 => by rw [repeatLeaves, List.length_append, repeat_length a n, Nat.succ_mul]; omega
theorem repeat_fit {a : List Leaf} {c : Nat} : ∀ (m : Nat) (cs : List Value), (∀ i, i < m → Fits a ((cs.drop (i * c)).take c)) → ∃ pre rest, cs = pre ++ rest ∧ Fits (repeatLeaves a m) pre
 | 0, cs, _ => ⟨[], cs, rfl, trivial⟩
 | m + 1, cs, h => by
  have h0 := h 0 (by omega)
  simp only [Nat.zero_mul, List.drop_zero] at h0
  obtain ⟨pre, rest, hd, hf⟩ := repeat_fit (a := a) (c := c) m (cs.drop c) (fun i hi => by
   have := h (i + 1) (by omega)
   rw [Nat.succ_mul] at this
   rwa [List.drop_drop, Nat.add_comm c])
  exact ⟨cs.take c ++ pre, rest, by rw [List.append_assoc, ← hd, List.take_append_drop], fits_append h0 hf⟩
theorem flat_fits : ∀ (n : Nat) (t : TypeId) (ls : List Leaf), leaves P n t = some ls → ∀ (fuel : Nat) (cs : List Value) (x : DataW H × List MemPlace), DataW.trod enc P w base spare held fuel t cs = some x → Fits ls cs
 | 0, t, ls, h, _, _, _, _ => by simp [leaves] at h
 | n + 1, t, ls, h, fuel, cs, x, hx => by
  simp only [leaves] at h
  split at h
  · rename_i hu
    simp only [Option.some.injEq] at h; subst h
    cases fuel with
    | zero => simp [DataW.trod] at hx
    | succ m =>
     unfold DataW.trod at hx; rw [hu] at hx
     split at hx <;> simp_all [Fits, leafFits]
  · rename_i k hu
    simp only [Option.some.injEq] at h; subst h
    cases fuel with
    | zero => simp [DataW.trod] at hx
    | succ m =>
     unfold DataW.trod at hx; rw [hu] at hx
     split at hx <;> simp_all [Fits, leafFits]
  · rename_i fs hu
    split at h
    · rename_i l hl
      split at h
      · rename_i hc
        simp only [Option.some.injEq] at h; subst h
        obtain ⟨xs, m, rfl, hxx, hlen, hxl, hf⟩ := DataW.trod_struct hu hx
        obtain ⟨pre, rest, hd, hfit⟩ := fields_fit (P := P) (cs := cs) fs.toList 0 _ hl (fun f hmem a ha => by
         obtain ⟨i, hi, hie⟩ := List.getElem_of_mem hmem
         have hi' : i < xs.length := by rw [hxl]; simpa using hi
         have e1 : fs[i]? = some f := by rw [← Array.getElem?_toList, List.getElem?_eq_getElem hi, hie]
         have e2 := hf i f e1
         rw [List.getElem?_eq_getElem hi'] at e2
         exact flat_fits n f.type a ha m _ _ e2)
        have e := fits_length hfit
        rw [List.drop_zero] at hd
        have : rest = [] := by
         have h1 := congrArg List.length hd
         rw [List.length_append] at h1
         have : rest.length = 0 := by omega
         simpa using this
        subst this
        rw [hd, List.append_nil]; exact hfit
      · cases h
    · cases h
  · rename_i m e hu
    split at h
    · rename_i a ha
      split at h
      · rename_i hc
        simp only [Option.some.injEq] at h; subst h
        obtain ⟨xs, k, rfl, _, hlen, hxl, hf⟩ := DataW.trod_array hu hx
        obtain ⟨pre, rest, hd, hfit⟩ := repeat_fit (a := a) (c := P.cellsOf e) m cs (fun i hi => by
         have hi' : i < xs.length := by omega
         have e2 := hf i hi
         rw [List.getElem?_eq_getElem hi'] at e2
         exact flat_fits n e a ha k _ _ e2)
        have e3 := fits_length hfit
        rw [repeat_length] at e3
        have : rest = [] := by
         have h1 := congrArg List.length hd
         rw [List.length_append, e3, hc.1, hc.2] at h1
         have : rest.length = 0 := by omega
         simpa using this
        subst this
        rw [hd, List.append_nil]; exact hfit
      · cases h
    · cases h
  · cases h
theorem open_flat {r : Reach} {b0 : Nat} {t : TypeId} {fs : Array Field} {ls : List Leaf} {v : Value} {d : DataW H} {p : List MemPlace} (n : Nat) (hs : P.underlying t = some (.struct fs)) (hl : leaves P n t = some ls)
 (hv : Value.okWide P w r b0 t v) (h : DataW.Trod enc P w base spare held t v d p) : ∃ cs : List Value, v = .agg cs.toArray ∧ Fits ls cs := by
 obtain ⟨cs, rfl, _⟩ := okWide_struct hs hv
 obtain ⟨fuel, hf⟩ := h
 exact ⟨cs.toList, rfl, flat_fits n t ls hl fuel _ _ (by simpa [Value.cells] using hf)⟩
end
end
section
open Go.ChangeShapes Go.WideShapes Go.ChangeAt Go.RowKit Go.Deep
def RdI (w : World) (v : Value) (l : List Int) : Prop :=
 (v = .slice none 0 0 ∧ l = []) ∨ ∃ a cap, v = .slice (some a) l.length cap ∧ l.length ≤ cap ∧ ∀ i, i < l.length → w.cell? (a.add i) = some (.int .i64 (l.getD i 0))
theorem cell_blockI {w : World} {a : Addr} {v : Value} (h : w.cell? a = some v) : a.block < w.heap.size := by
 by_cases hh : a.block < w.heap.size
 · exact hh
 · simp [World.cell?, Array.getElem?_eq_none (Nat.le_of_not_lt hh)] at h
theorem RdI.below {w w' : World} {v : Value} {l : List Int} (h : RdI w v l) (hb : Below w.heap.size w w') : RdI w' v l := by
 rcases h with h | ⟨a, cap, hv, hc, hcell⟩
 · exact .inl h
 · refine .inr ⟨a, cap, hv, hc, fun i hi => ?_⟩
   have hl := cell_blockI (hcell i hi)
   rw [hb.cell hl]; exact hcell i hi
theorem RdI.lenOf {w : World} {v : Value} {l : List Int} (h : RdI w v l) : ∃ ao cap, v = .slice ao l.length cap := by
 rcases h with ⟨rfl, rfl⟩ | ⟨a, cap, rfl, -⟩
 · exact ⟨_, _, rfl⟩
 · exact ⟨_, _, rfl⟩
theorem RdI.at {w : World} {ao : Option Addr} {n cap : Nat} {l : List Int} (h : RdI w (.slice ao n cap) l) {i : Nat} (hi : i < l.length) : ∃ a, ao = some a ∧ w.cell? (a.add i) = some (.int .i64 (l.getD i 0)) := by
 rcases h with ⟨hv, rfl⟩ | ⟨a, cap', hv, hc, hcell⟩
 · simp at hi
 · injection hv with h1 h2 h3
   exact ⟨a, h1, hcell i hi⟩
section
variable {H : Type} {enc : TypeId × Value → H} {P : Program} {w : World} {base : Nat} {held : Bool}
theorem open_RdI0 {t e : TypeId} {k : IntKind} {v : Value} {d : DataW H} {p : List MemPlace} (ht : P.underlying t = some (.slice e)) (he : P.underlying e = some (.int k)) (hc : P.cellsOf e = 1)
 (h : ∃ fuel, DataW.trod enc P w base (fun _ => true) held fuel t [v] = some (d, p)) : (v = .slice none 0 0) ∨
  ∃ (a : Addr) (len cap : Nat) (zs : List Int), v = .slice (some a) len cap ∧ len ≤ cap ∧ cap ≤ maxLen ∧ zs.length = cap ∧ (∀ i, i < cap → w.cell? (a.add i) = some (.int k (zs.getD i 0))) ∧ (∀ n ∈ zs, (Lit.int k n).wf = true) := by
 obtain ⟨fuel, hf⟩ := h
 rcases open_ints ht he hc hf with ⟨hcs, -⟩ | ⟨a, len, cap, zs, hcs, hb, hl, hm, hz, -, hcell, hwz⟩
 · exact .inl (by simpa using hcs)
 · simp only [if_true] at hz
   exact .inr ⟨a, len, cap, zs, by simpa using hcs, hl, hm, hz, fun i hi => hcell i (by omega), hwz⟩
theorem cells_sliceI {v : Value} {r : Reach} {b0 : Nat} {t e : TypeId} (ht : P.underlying t = some (.slice e)) (hv : Value.okWide P w r b0 t v) : v.cells.toList = [v] := by
 unfold Value.okWide at hv
 rw [ht] at hv
 simp only [Cell.okWide, Cell.ok, ht] at hv
 cases v <;> simp [Value.cells] at hv ⊢
theorem open_RdI {t e : TypeId} {v : Value} {d : DataW H} {p : List MemPlace} {r : Reach} {b0 : Nat} (ht : P.underlying t = some (.slice e)) (he : P.underlying e = some (.int .i64)) (hc : P.cellsOf e = 1)
 (hv : Value.okWide P w r b0 t v) (h : DataW.Trod enc P w base (fun _ => true) held t v d p) : ∃ l : List Int, RdI w v l ∧ (∀ n ∈ l, (Lit.int .i64 n).wf = true) ∧ l.length ≤ maxLen := by
 obtain ⟨fuel, hf⟩ := h
 rw [cells_sliceI ht hv] at hf
 rcases open_RdI0 ht he hc ⟨fuel, hf⟩ with rfl | ⟨a, len, cap, zs, rfl, hl, hm, hz, hcell, hw⟩
 · exact ⟨[], .inl ⟨rfl, rfl⟩, by simp, by simp⟩
 · have hlen : (zs.take len).length = len := by simp; omega
   refine ⟨zs.take len, .inr ⟨a, cap, by rw [hlen], by rw [hlen]; exact hl, fun i hi => ?_⟩, fun n hn => hw n (List.mem_of_mem_take hn), by rw [hlen]; omega⟩
   rw [hlen] at hi
   rw [hcell i (by omega)]
   have hiz : i < zs.length := by omega
   simp [hiz, hi]
end
end
section
open Go.RowKit Go.Maps Go.Shelf
def accL (l : List Int) : Acc := fun k => (l.getD k 0, 0)
def newOk (l : List Int) : Prop := l.length ≤ 10 ∧ (∀ k, k < l.length → isBal (l.getD k 0)) ∧ sumTo (accL l) 10 ≤ 1073741824
theorem accL_nil : accL [] = acc0 := by funext k; simp [accL, acc0]
theorem take_getD {l : List Int} {k j : Nat} : (l.take k).getD j 0 = if j < k then l.getD j 0 else 0 := by
 by_cases h : j < k
 · rw [if_pos h, List.getD_eq_getElem?_getD, List.getD_eq_getElem?_getD, List.getElem?_take_of_lt h]
 · rw [if_neg h, List.getD_eq_getElem?_getD, List.getElem?_eq_none (by simp; omega)]; rfl
theorem accL_step (l : List Int) (k : Nat) : upd (accL (l.take k)) k (l.getD k 0, (accL (l.take k) k).2) = accL (l.take (k + 1)) := by
 funext j
 by_cases e : j = k
 · subst e
   rw [upd_same]
   show (l.getD j 0, (0 : Int)) = ((l.take (j + 1)).getD j 0, 0)
   rw [take_getD, if_pos (by omega)]
 · rw [upd_other _ _ e]
   show ((l.take k).getD j 0, (0 : Int)) = ((l.take (k + 1)).getD j 0, 0)
   rw [take_getD, take_getD]
   by_cases h : j < k
   · rw [if_pos h, if_pos (by omega)]
   · rw [if_neg h, if_neg (by omega)]
theorem sum_accL_step (l : List Int) {k : Nat} (hk : k < 10) : sumTo (accL (l.take (k + 1))) 10 = sumTo (accL (l.take k)) 10 + l.getD k 0 := by
 rw [← accL_step, sumTo_upd, if_pos hk]
 have : both (accL (l.take k)) k = 0 := by unfold both accL; rw [take_getD, if_neg (by omega)]; rfl
 rw [this]
 show sumTo (accL (l.take k)) 10 + (l.getD k 0 + 0 - 0) = _
 omega
theorem sum_accL_mono {l : List Int} (h : ∀ k, k < l.length → isBal (l.getD k 0)) (k : Nat) : sumTo (accL (l.take k)) 10 ≤ sumTo (accL l) 10 := by
 have key : ∀ n, sumTo (accL (l.take k)) n ≤ sumTo (accL l) n := by
  intro n
  induction n with
  | zero => exact Int.le_refl _
  | succ n ih =>
   rw [sumTo, sumTo]
   have : both (accL (l.take k)) n ≤ both (accL l) n := by
    unfold both accL
    rw [take_getD]
    by_cases c : n < l.length
    · have := (h n c).1; split <;> simp only <;> omega
    · have e : l.getD n 0 = 0 := by rw [List.getD_eq_getElem?_getD, List.getElem?_eq_none (by omega)]; rfl
      rw [e]; split <;> simp
   omega
 exact key 10
theorem LdAt.start {N g gl : Nat} {w1 w2 : World} (ho : GrOwn codI 186 N gl [] w1) (hN : N ≤ w1.heap.size) (hg : g = w1.heap.size) (hw : w2 = w1.alloc (.cells (lcells acc0 gl).toArray 130)) : LdAt N g gl acc0 [] w2 ∧ Below N w1 w2 := by
 obtain ⟨F, h1, h2⟩ := ho
 have hB : Below w1.heap.size w1 w2 := by rw [hw]; exact (Below.refl _ w1).alloc (Nat.le_refl _) _
 refine ⟨⟨by rw [hw, hg]; exact World.alloc_heap_new _ _, ⟨F, h1.keep (Grow.of_below hB) (fun k hk => hB.block k (h1.2.2.1 k hk)), fun k hk => ⟨h2 k hk, fun e => by have := h1.2.2.1 k hk; omega⟩⟩, by omega, AccOk.zero, by simp⟩, hB.mono hN⟩
theorem ledger_New (v : Value) (l : List Int) (w : World) (hr : RdI w v l) (hm : l.length ≤ maxLen) : Calls Tryz.prog 27 #[v] w fun e w' => Below w.heap.size w w' ∧ ((newOk l ∧ ∃ g, e = .returned (.tuple #[.pointer (some ⟨g, 0, none⟩), .int .i64 0]) ∧ ∃ gl, LdAt w.heap.size g gl (accL l) [] w') ∨ (¬ newOk l ∧ e = .returned (.tuple #[.pointer none, .int .i64 1]))) := by
 obtain ⟨ao, cap, rfl⟩ := hr.lenOf
 obtain ⟨L, hL⟩ : ∃ L, L = l.length := ⟨_, rfl⟩
 rw [← hL] at hr hm ⊢
 have HR := Lib.hid (And.intro hr hL)
 clear hr hm hL
 go_enter Tryz.func27, Tryz.ntmps27
 by_cases c0 : (10 : Int) < (L : Int)
 · go_wp2_with fail
   exact bodyPost_ret (v := .tuple #[.pointer none, .int .i64 1]) (by simp [results, Tryz.results27, go_sem]) rfl ⟨Below.refl _ _, .inr ⟨fun h => by have := h.1; have := HR.out.2; omega, rfl⟩⟩
 have hL10 : L ≤ 10 := by omega
 go_wp2_with (first
  | (go_at_call 80; refine (grid_New_own_I w).mono ?_; rintro e w1 ⟨gl, rfl, ho1, hb1⟩; have H1 := Lib.hid (And.intro ho1 hb1); clear ho1 hb1)
  | fail)
 obtain ⟨w2, hw2⟩ : ∃ w2, w2 = w1.alloc (.cells #[.int .i64 0, .int .i64 0, .int .i64 0, .int .i64 0, .int .i64 0, .int .i64 0, .int .i64 0, .int .i64 0, .int .i64 0, .int .i64 0, .int .i64 0, .int .i64 0, .int .i64 0, .int .i64 0, .int .i64 0, .int .i64 0, .int .i64 0, .int .i64 0, .int .i64 0, .int .i64 0, .pointer (some ⟨gl, 0, none⟩)] 130) := ⟨_, rfl⟩
 obtain ⟨g, hg⟩ : ∃ g, g = w1.heap.size := ⟨_, rfl⟩
 obtain ⟨hl0, hb0⟩ := LdAt.start H1.out.1 H1.out.2.size hg (hw2.trans rfl)
 rw [← hw2, ← hg]
 have H2 := Lib.hid (And.intro hl0 (H1.out.2.trans hb0))
 clear hw2 hg hl0 hb0 H1
 go_loopw [15] (fun i wr => ∃ k : Nat, k ≤ L ∧ i = .int .i64 k ∧ (∀ j, j < k → isBal (l.getD j 0)) ∧ LdAt w.heap.size g gl (accL (l.take k)) [] wr ∧ Below w.heap.size w wr) (fun i _ => L - (intOf i).toNat)
 case atStart => exact ⟨0, by omega, rfl, fun j hj => by omega, by rw [List.take_zero, accL_nil]; exact H2.out.1, H2.out.2⟩
 case round =>
  obtain ⟨k, hk, rfl, hbs, hld, hbl⟩ := hrel
  have HS := Lib.hid (And.intro hbs (And.intro hld hbl))
  by_cases hlt : k < L
  · have hlt' : (k : Int) < L := by omega
    have hk10 : (k : Int) < 10 := by omega
    obtain ⟨a, rfl, ca⟩ := (HR.out.1.below hbl).at (show k < l.length by rw [← HR.out.2]; exact hlt)
    obtain ⟨n, hn⟩ : ∃ n, n = l.getD k 0 := ⟨_, rfl⟩
    rw [← hn] at ca
    obtain ⟨s, hs⟩ : ∃ s, s = sumTo (accL (l.take k)) 10 := ⟨_, rfl⟩
    have hs0 : 0 ≤ s ∧ s ≤ 1073741824 := by rw [hs]; exact hld.ok.part (Nat.le_refl _)
    have hiss := ledger_Issued hld
    rw [← hs] at hiss
    have HI := Lib.hid hiss
    have hs1 : sumTo (accL (l.take (k + 1))) 10 = s + n := by rw [hs, hn]; exact sum_accL_step l (by omega)
    have HN := Lib.hid (And.intro hn hs1)
    clear hiss hs hn hs1 hbs hld hbl
    by_cases hbal : isBal n
    · have hbal' := hbal
      unfold isBal at hbal'
      have hd : decide (0 ≤ n ∧ n ≤ 1073741824) = true := decide_eq_true hbal'
      obtain ⟨sn, hsn⟩ : ∃ sn, sn = s + n := ⟨_, rfl⟩
      have hn2 : IntKind.i64.wrap (s + n) = sn := by rw [hsn]; exact IntWalk.i64_in _ (by omega)
      by_cases hov : 1073741824 < sn
      · have hd2 : decide (0 ≤ sn ∧ sn ≤ 1073741824) = false := decide_eq_false (by omega)
        have hbad : ¬ newOk l := fun h => by have h1 := sum_accL_mono h.2.1 (k + 1); have h2 := HN.out.2; have h3 := h.2.2; omega
        have HD := Lib.hid (And.intro hd (And.intro hd2 hbad))
        clear hbal hbal' hd hsn hd2 hov hbad hs0
        have tok : True := trivial
        go_wp2_with (first
         | (go_at_call 72; have _t := tok; refine (bound_Balance n _).mono ?_; rw [HD.out.1]; rintro e w' ⟨rfl, hw⟩; rw [hw]; clear hw w' tok)
         | (go_at_call 81; refine HI.out.mono ?_; rintro e w3 ⟨rfl, hb⟩; have H3 := Lib.hid hb; clear hb)
         | (go_at_call 72; refine (bound_Balance sn _).mono ?_; rw [HD.out.2.1]; rintro e w' ⟨rfl, hw⟩; rw [hw]; clear hw w')
         | fail)
        exact bodyPost_ret (v := .tuple #[.pointer none, .int .i64 1]) (by simp [results, Tryz.results27, go_sem]) rfl ⟨HS.out.2.2.trans (H3.out.mono HS.out.2.2.size), .inr ⟨HD.out.2.2, rfl⟩⟩
      · have hd2 : decide (0 ≤ sn ∧ sn ≤ 1073741824) = true := decide_eq_true (by omega)
        have hok2 : AccOk (upd (accL (l.take k)) k (n, (accL (l.take k) k).2)) := by
         have hld := HS.out.2.1
         have h1 := HN.out.2
         rw [HN.out.1, ← accL_step] at h1
         rw [HN.out.1] at hsn hbal'
         rw [HN.out.1]
         refine ⟨fun j => ?_, fun j => ?_, by omega⟩
         · by_cases e : j = k
           · subst e; rw [upd_same]; exact hbal'.1
           · rw [upd_other _ _ e]; exact hld.ok.free j
         · by_cases e : j = k
           · subst e; rw [upd_same]; exact hld.ok.held j
           · rw [upd_other _ _ e]; exact hld.ok.held j
        have hpay : ∀ w1, LdAt w.heap.size g gl (accL (l.take k)) [] w1 → LdAt w.heap.size g gl (accL (l.take (k + 1))) [] (w1.setCell ⟨g, k * 2, none⟩ (.int .i64 n)) ∧ Below w.heap.size w1 (w1.setCell ⟨g, k * 2, none⟩ (.int .i64 n)) := fun w1 h1 => by
         have := h1.setFree (a := k) (by omega) n hok2
         refine ⟨?_, this.2⟩
         rw [← accL_step, ← HN.out.1]; exact this.1
        have HD := Lib.hid (And.intro hd (And.intro hd2 hbal))
        have HP := Lib.hid hpay
        clear hbal hbal' hd hsn hd2 hov hs0 hok2 hpay
        have tok : True := trivial
        go_wp2_with (first
         | (go_at_call 72; have _t := tok; refine (bound_Balance n _).mono ?_; rw [HD.out.1]; rintro e w' ⟨rfl, hw⟩; rw [hw]; clear hw w' tok)
         | (go_at_call 81; refine HI.out.mono ?_; rintro e w3 ⟨rfl, hb⟩; have h3 := HS.out.2.1.below hb; have hf3 := h3.frozen (k * 2); have hc3 := h3.free (k := k) (by omega); have H3 := Lib.hid (And.intro h3 (hb.mono HS.out.2.2.size)); clear hb h3)
         | (go_at_call 72; refine (bound_Balance sn _).mono ?_; rw [HD.out.2.1]; rintro e w' ⟨rfl, hw⟩; rw [hw]; clear hw w')
         | fail)
        go_roundw
        case rel =>
         refine ⟨k + 1, by omega, by go_num, fun j hj => ?_, (HP.out _ H3.out.1).1, HS.out.2.2.trans (H3.out.2.trans (HP.out _ H3.out.1).2)⟩
         by_cases e : j = k
         · subst e; rw [← HN.out.1]; exact HD.out.2.2
         · exact HS.out.1 j (by omega)
        case measure => simp [intOf]; omega
    · have hd : decide (0 ≤ n ∧ n ≤ 1073741824) = false := by unfold isBal at hbal; exact decide_eq_false hbal
      have hbad : ¬ newOk l := fun h => hbal (by rw [HN.out.1]; exact h.2.1 k (by rw [← HR.out.2]; exact hlt))
      have HD := Lib.hid (And.intro hd hbad)
      clear hbal hd hbad hs0
      go_wp2_with (first
       | (go_at_call 72; refine (bound_Balance n _).mono ?_; rw [HD.out.1]; rintro e w' ⟨rfl, hw⟩; rw [hw]; clear hw w')
       | fail)
      exact bodyPost_ret (v := .tuple #[.pointer none, .int .i64 1]) (by simp [results, Tryz.results27, go_sem]) rfl ⟨HS.out.2.2, .inr ⟨HD.out.2, rfl⟩⟩
  · have hge : ¬ (k : Int) < L := by omega
    have hkl : l.take k = l := List.take_of_length_le (by have := HR.out.2; omega)
    have hfin : newOk l ∧ LdAt w.heap.size g gl (accL l) [] wr := by
     rw [hkl] at hld
     exact ⟨⟨by have := HR.out.2; omega, fun j hj => hbs j (by have := HR.out.2; omega), hld.ok.all⟩, hld⟩
    have HF := Lib.hid hfin
    clear hfin hkl hbs hld hbl
    go_wp2_with fail
    exact bodyPost_ret (v := .tuple #[.pointer (some ⟨g, 0, none⟩), .int .i64 0]) (by simp [results, Tryz.results27, go_sem]) rfl ⟨HS.out.2.2, .inl ⟨HF.out.1, g, rfl, gl, HF.out.2⟩⟩
end
section
open Go.RowKit Go.Maps
theorem run_makeV {P : Program} (t e : TypeId) (n s by_ : Nat) (ht : P.underlying t = some (.slice e)) (hi : (P.info? e).map (fun i => (i.size, i.bytes)) = some (s, by_)) (hz : ((P.info? e).bind (·.zero)).isSome = true) (hz2 : ((P.info? e).bind (·.zero)).map (fun z => decide (z.cells.size = s)) = some true) (hb : by_ * n ≤ 1000000) (hn : n ≤ 1000000) :
 ∃ C : Array Value, C.size = n * s ∧ ∀ w : World, (Instr.makeSlice t (.int .i64 (n : Int)) (.int .i64 (n : Int))).run P w = .ok (.slice (some ⟨w.heap.size, 0, none⟩) n n) (w.alloc (.cells C e)) := by
 obtain ⟨i, hi0, hi1⟩ := Option.map_eq_some_iff.1 hi
 simp only [Prod.mk.injEq] at hi1
 obtain ⟨z, hz0⟩ := Option.isSome_iff_exists.1 hz
 rw [hi0] at hz0
 have hz1 : i.zero = some z := by simpa using hz0
 refine ⟨madeCells z.cells (n * i.size), by simp [madeCells, hi1.1], fun w => ?_⟩
 have hbb : (i.bytes : Int) * (n : Int) ≤ 281474976710656 := by
  rw [hi1.2]
  have : ((by_ * n : Nat) : Int) ≤ 281474976710656 := by omega
  rwa [Int.natCast_mul] at this
 have := run_make (P := P) w t e i z ht hi0 hz1 .i64 .i64 n n (by omega) (by omega) hbb (by omega)
 simpa using this
theorem ref11_New (w : World) : Calls Tryz.prog 30 #[] w fun e w' => ∃ p, e = .returned (.pointer p) ∧ Below w.heap.size w w' := by
 obtain ⟨C1, -, h1⟩ := run_makeV (P := Tryz.prog) 44 43 12 7 56 Tryz.underlying44 (by kernel_rfl) (by kernel_rfl) (by kernel_rfl) (by decide) (by decide)
 obtain ⟨C2, -, h2⟩ := run_makeV (P := Tryz.prog) 45 148 40 9 88 Tryz.underlying45 (by kernel_rfl) (by kernel_rfl) (by kernel_rfl) (by decide) (by decide)
 have h1' : ∀ w : World, (Instr.makeSlice 44 (.int .i64 12) (.int .i64 12)).run Tryz.prog w = .ok (.slice (some ⟨w.heap.size, 0, none⟩) 12 12) (w.alloc (.cells C1 43)) := h1
 have h2' : ∀ w : World, (Instr.makeSlice 45 (.int .i64 40) (.int .i64 40)).run Tryz.prog w = .ok (.slice (some ⟨w.heap.size, 0, none⟩) 40 40) (w.alloc (.cells C2 148)) := h2
 clear h1 h2
 go_enter Tryz.func30, Tryz.ntmps30
 go_upto_region 1 with fail
 go_region
 all_goals go_wp2_with fail
 all_goals go_ret
 all_goals exact ⟨_, rfl, (((((Below.refl _ w).drew).alloc (by show w.heap.size ≤ w.heap.size; omega) _).alloc (by rw [World.size_alloc]; show w.heap.size ≤ w.heap.size + 1; omega) _).alloc (by rw [World.size_alloc, World.size_alloc]; show w.heap.size ≤ w.heap.size + 1 + 1; omega) _)⟩
structure R6 (w0 : World) (lb ab : Nat) (w : World) : Prop where
 l : w.heap[lb]? = some (.cells #[.slice (some ⟨ab, 0, none⟩) 10 10] 134 (0, 0))
 a : ∃ C, w.heap[ab]? = some (.cells C 137 (0, 0)) ∧ C.size = 30
 ll : w0.heap.size ≤ lb
 la : w0.heap.size ≤ ab
 ne : lb ≠ ab
 old : Below w0.heap.size w0 w
theorem R6.below {w0 w w' : World} {lb ab : Nat} (h : R6 w0 lb ab w) (hb : Below w.heap.size w w') : R6 w0 lb ab w' := by
 obtain ⟨C, h1, h2⟩ := h.a
 exact ⟨(hb.block lb (Array.getElem?_eq_some_iff.1 h.l).1).trans h.l, ⟨C, (hb.block ab (Array.getElem?_eq_some_iff.1 h1).1).trans h1, h2⟩, h.ll, h.la, h.ne, h.old.trans (hb.mono h.old.size)⟩
theorem R6.set {w0 w : World} {lb ab i : Nat} {v : Value} (h : R6 w0 lb ab w) : R6 w0 lb ab (w.setCell ⟨ab, i, none⟩ v) := by
 obtain ⟨C, h1, h2⟩ := h.a
 refine ⟨(Below.heap_setCell _ _ _ lb h.ne).trans h.l, ⟨C.setIfInBounds i v, ?_, by simp [h2]⟩, h.ll, h.la, h.ne, h.old.trans ⟨rfl, rfl, rfl, by simp [World.setCell], fun k hk => Below.heap_setCell _ _ _ k ?_⟩⟩
 · simp [World.setCell, Array.getElem?_modify, h1]
 · have := h.la; show k ≠ ab; omega
theorem R6.drew {w0 w : World} {lb ab : Nat} (h : R6 w0 lb ab w) : R6 w0 lb ab w.drew := h.below (Below.refl _ w).drew
theorem ref6_New (v : Value) (l : List Int) (w : World) (hr : RdI w v l) (hl : l.length ≤ 10) : Calls Tryz.prog 28 #[v] w fun e w' => ∃ p c, e = .returned (.tuple #[.pointer p, .int .i64 c]) ∧ Below w.heap.size w w' := by
 obtain ⟨C, hC, h1⟩ := run_makeV (P := Tryz.prog) 132 137 10 3 40 Tryz.underlying132 (by kernel_rfl) (by kernel_rfl) (by kernel_rfl) (by decide) (by decide)
 have h1' : ∀ w : World, (Instr.makeSlice 132 (.int .i64 10) (.int .i64 10)).run Tryz.prog w = .ok (.slice (some ⟨w.heap.size, 0, none⟩) 10 10) (w.alloc (.cells C 137)) := h1
 clear h1
 obtain ⟨ao, cap, rfl⟩ := hr.lenOf
 obtain ⟨L, hL⟩ : ∃ L, L = l.length := ⟨_, rfl⟩
 rw [← hL] at hr hl ⊢
 have HR := Lib.hid (And.intro hr hL)
 clear hr hL
 have c0 : ¬ (10 : Int) < (L : Int) := by omega
 obtain ⟨W0, hW0⟩ : ∃ W0, W0 = (w.alloc (.cells C 137)).alloc (.cells #[.slice (some ⟨w.heap.size, 0, none⟩) 10 10] 134) := ⟨_, rfl⟩
 obtain ⟨ab, hab⟩ : ∃ ab, ab = w.heap.size := ⟨_, rfl⟩
 obtain ⟨lb, hlb⟩ : ∃ lb, lb = ab + 1 := ⟨_, rfl⟩
 have h6 : R6 w lb ab W0 := by
  refine ⟨?_, ⟨C, ?_, hC⟩, by omega, by omega, by omega, by rw [hW0]; exact ((Below.refl _ w).alloc (Nat.le_refl _) _).alloc (by simp) _⟩
  · have := World.alloc_heap_new (w.alloc (.cells C 137)) (.cells #[.slice (some ⟨w.heap.size, 0, none⟩) 10 10] 134)
    rw [World.size_alloc] at this
    rw [hW0, hlb, hab]; exact this
  · rw [hW0, hab]; exact (Below.heap_alloc _ _ _ (by simp)).trans (World.alloc_heap_new w _)
 have H6 := Lib.hid h6
 have HW0 := Lib.hid (And.intro hW0 (And.intro hab hlb))
 clear hW0 h6 hC hab hlb
 go_enter Tryz.func28, Tryz.ntmps28
 go_upto_region 4 with fail
 rw [← HW0.out.1, ← HW0.out.2.1, ← HW0.out.2.2]
 go_wp2_with fail
 go_loopw [5, 6] (fun z i wr => ∃ (k : Nat) (zz : Int), k ≤ L ∧ z = .int .i64 zz ∧ i = .int .i64 k ∧ R6 w lb ab wr) (fun _ i _ => L - (intOf i).toNat)
 case atStart => exact ⟨0, 0, by omega, rfl, rfl, H6.out⟩
 case round =>
  obtain ⟨k, zz, hk, rfl, rfl, h6⟩ := hrel
  by_cases hlt : k < L
  · have hlt' : (k : Int) < L := by omega
    obtain ⟨a, rfl, ca⟩ := (HR.out.1.below h6.old).at (show k < l.length by rw [← HR.out.2]; exact hlt)
    obtain ⟨x, hx⟩ : ∃ x, x = l.getD k 0 := ⟨_, rfl⟩
    have hca : ∀ W, Below w.heap.size w W → W.cell? (a.add k) = some (.int .i64 x) := fun W hW => by
     obtain ⟨a', hv, ca'⟩ := (HR.out.1.below hW).at (show k < l.length by rw [← HR.out.2]; exact hlt)
     injection hv with hv
     subst hv
     rw [hx]; exact ca'
    have HCA := Lib.hid hca
    clear hca
    rw [← hx] at ca
    have h6k := h6
    obtain ⟨C6, ha6, hs6⟩ := h6.a
    have cl : wr.cell? ⟨lb, 0, none⟩ = some (.slice (some ⟨ab, 0, none⟩) 10 10) := by rw [World.cell?, h6.l]; rfl
    have hk10 : (k : Int) < 10 := by omega
    have hk3 : k * 3 < C6.size := by omega
    have cc : ∃ v0, wr.cell? ⟨ab, k * 3, none⟩ = some v0 := ⟨C6[k * 3], by rw [World.cell?, ha6]; simp [hk3]⟩
    obtain ⟨v0, cc⟩ := cc
    have cf : wr.frozen? ⟨ab, k * 3, none⟩ = false := by simp [World.frozen?, ha6]
    have HX := Lib.hid h6k
    clear h6 h6k ha6 hs6 hk3 hx
    by_cases hb : x < 0
    · go_wp2_with fail
      exact bodyPost_ret (v := .tuple #[.pointer none, .int .i64 1]) (by simp [results, Tryz.results28, go_sem]) rfl (by first | exact ⟨_, _, rfl, HX.out.old⟩ | exact ⟨⟨_, _, rfl⟩, HX.out.old⟩)
    · by_cases hb2 : 1073741824 < x
      · go_wp2_with fail
        exact bodyPost_ret (v := .tuple #[.pointer none, .int .i64 1]) (by simp [results, Tryz.results28, go_sem]) rfl (by first | exact ⟨_, _, rfl, HX.out.old⟩ | exact ⟨⟨_, _, rfl⟩, HX.out.old⟩)
      · go_upto_region 10 with fail
        go_still_tail 11, (by kernel_rfl)
        change wpList _ _ _ _ _ wr.drew
        have hs := HX.out.drew.set (i := k * 3) (v := .int .i64 x)
        have ca2 := HCA.out _ hs.old
        have ca3 := HCA.out _ (HX.out.set (i := k * 3) (v := .int .i64 x)).old
        have ca4 := HCA.out _ (HX.out.set (i := k * 3) (v := .int .i64 x)).drew.old
        have HS2 := Lib.hid (HX.out.set (i := k * 3) (v := .int .i64 x)).drew
        have HS := Lib.hid hs
        clear hs
        go_wp2_with fail
        go_roundw
        case rel => exact ⟨k + 1, _, by omega, rfl, by go_num, HS2.out⟩
        case measure => simp [intOf]; omega
  · have hge : ¬ (k : Int) < L := by omega
    by_cases hz : 1073741824 < zz
    · go_wp2_with fail
      exact bodyPost_ret (v := .tuple #[.pointer none, .int .i64 1]) (by simp [results, Tryz.results28, go_sem]) rfl (by first | exact ⟨_, _, rfl, h6.old⟩ | exact ⟨⟨_, _, rfl⟩, h6.old⟩)
    · go_wp2_with fail
      exact bodyPost_ret (v := .tuple #[.pointer (some ⟨lb, 0, none⟩), .int .i64 0]) (by simp [results, Tryz.results28, go_sem]) rfl (by first | exact ⟨_, _, rfl, h6.old⟩ | exact ⟨⟨_, _, rfl⟩, h6.old⟩)
end
section
open Go.RowKit Go.Maps Go.Shelf
theorem ledger_New_ok {v : Value} {l : List Int} {w : World} (hr : RdI w v l) (hm : l.length ≤ maxLen) (hok : newOk l) : Calls Tryz.prog 27 #[v] w fun e w' => ∃ g gl, e = .returned (.tuple #[.pointer (some ⟨g, 0, none⟩), .int .i64 0]) ∧ LdAt w.heap.size g gl (accL l) [] w' ∧ Below w.heap.size w w' := by
 refine (ledger_New v l w hr hm).mono ?_
 rintro e w' ⟨hb, ⟨-, g, rfl, gl, hl⟩ | ⟨hno, -⟩⟩
 · exact ⟨g, gl, rfl, hl, hb⟩
 · exact absurd hok hno
theorem RdI.lit (w : World) (T : TypeId) (l : List Int) (n : Nat) (hn : l.length = n) : RdI (w.alloc (.cells (l.map (fun n => Value.int .i64 n)).toArray T)) (.slice (some ⟨w.heap.size, 0, none⟩) n n) l := by
 subst hn
 refine .inr ⟨⟨w.heap.size, 0, none⟩, _, rfl, Nat.le_refl _, fun i hi => ?_⟩
 have h := World.alloc_heap_new w (.cells (l.map (fun n => Value.int .i64 n)).toArray T)
 have e : (⟨w.heap.size, 0, none⟩ : Addr).add i = ⟨w.heap.size, i, none⟩ := by rw [Addr.add_mid]; simp
 rw [e]
 refine cell_of h ?_
 simp [hi, List.getD_eq_getElem?_getD]
def M1 : Cls Int := lockM [] 0 1 3
end
section
open Go.RowKit Go.Maps Go.Shelf
section
variable {w : World} {ops : Array Oper} {rest : List Oper} {o : Oper} {a : Act} {Q : Exit → Act → World → Prop}
theorem wpl_appN {s x : Operand} {B ub : Nat} {v : Value} {xs : List Int} {y : Int} (hgd : o.guard = none)
 (ho : o.op = .call { callee := .builtin .append, args := #[s, x], argTypes := #[22, 22] }) (hs : a.eval s = v) (hx : a.eval x = .slice (some ⟨ub, 0, none⟩) 1 1)
 (hown : OwnN B v xs w) (hc : w.cell? ⟨ub, 0, none⟩ = some (.int .i64 y)) (hlen : xs.length ≤ 100000) (hB : B ≤ w.heap.size)
 (h : ∀ v' w', OwnN B v' (xs ++ [y]) w' → w.grownBy w' v.ownBlock → wpList Tryz.prog ops Q rest (a.put o.dst v') w') : wpList Tryz.prog ops Q (o :: rest) a w := by
 obtain ⟨i0, hi, hz⟩ := Option.map_eq_some_iff.1 infoI
 simp only [Prod.mk.injEq] at hz
 obtain ⟨hz0, hz1, hz2⟩ := hz
 refine wpList_append_own _ hgd s x _ ho B 3 i0 (.int .i64 0) 1 8 Tryz.underlying22 hi hz0 hz1 hz2 rfl (by decide) v _ _ hs hown ⟨ub, 0, none⟩ 1 1 [.int .i64 y] hx (by simp)
  (fun j u hj => by
   cases j with
   | zero => simp only [List.getElem?_cons_zero, Option.some.injEq] at hj; subst hj; rw [Addr.add_mid]; exact hc
   | succ j => simp at hj) (by simp [Value.oneCell']) (by unfold maxLen; omega) (by omega) hB ?_
 intro v' w' h1 h2 h3
 refine h v' w' ?_ h2
 unfold OwnN
 rw [List.length_append]
 simpa [Is] using h1
end
theorem OwnN.readsI {B : Nat} {v : Value} {l : List Int} {w : World} (h : OwnN B v l w) : RdI w v l := by
 have h0 := h
 obtain ⟨hl, h2⟩ := h
 rcases h2 with ⟨rfl, e⟩ | ⟨g, cap, cur, rfl, _, hg, hn, _, hs, ht⟩
 · exact .inl ⟨rfl, List.eq_nil_of_length_eq_zero e⟩
 · refine .inr ⟨⟨g, 0, none⟩, cap, rfl, hn, fun i hi => ?_⟩
   have e : (⟨g, 0, none⟩ : Addr).add i = ⟨g, i, none⟩ := by rw [Addr.add_mid]; simp
   rw [e, World.cell?, hg]
   have h1 : (Is l)[i]? = some (.int .i64 (l.getD i 0)) := by simp [Is, hi, List.getD_eq_getElem?_getD]
   rw [← ht, List.getElem?_take_of_lt (by omega)] at h1
   simpa using h1
end
end Go.Proofs.YtbpemdihoabbcaaGreat
