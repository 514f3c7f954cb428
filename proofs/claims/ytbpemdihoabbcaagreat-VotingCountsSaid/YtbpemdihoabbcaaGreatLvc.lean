/- A part. -/
import Derived.Test.YtbpemdihoabbcaaGreatBsc
import Derived.Test.YtbpemdihoabbcaaGreatUC
import Derived.Test.YtbpemdihoabbcaaGreatRct
import Derived.Test.YtbpemdihoabbcaaGreatMhl
import Derived.TacticsInMore
import Derived.Deep.CutBlock
import Derived.Deep.DeepCutAuto
import Derived.BigQuiet
import Derived.Deep.QuietTactic
namespace Go.Proofs.YtbpemdihoabbcaaGreat
set_option linter.unusedVariables false
set_option linter.unusedSimpArgs false
set_option maxRecDepth 100000
set_option maxHeartbeats 8000000
open Go.RowKit Go.Maps Go.Shelf
section
variable {d : Bp} {now : Int} {s : Sx} {F : FP} {w w' : World}
theorem tly_new (w : World) (T : Tl) : (storeT (.pointer (some ⟨w.heap.size, 0, none⟩)) (.agg (tlyS.f T).toArray)).run Tryz.prog (w.alloc (.cells #[.int .i64 0, .int .i64 0, .int .i64 0] 41)) = .ok () ((w.alloc (.cells #[.int .i64 0, .int .i64 0, .int .i64 0] 41)).setCells w.heap.size 0 (tlyS.f T)) ∧ BxS tlyS ((w.alloc (.cells #[.int .i64 0, .int .i64 0, .int .i64 0] 41)).setCells w.heap.size 0 (tlyS.f T)) w.heap.size T :=
 ⟨(BxS.new tlyS w ⟨0, 0, 0⟩).storeT T, (BxS.new tlyS w ⟨0, 0, 0⟩).set T⟩
attribute [local go_sem ↓] loadSt_T_hide storeT_hide neTly_hide in
theorem votingCounts_walk (hv : VoteAct) (v : Value) (l : List Int) (u : Value) (acts : List Ac) (w : World) (hr : RdI w v l) (hbd : ∀ n ∈ l, (Lit.int .i64 n).wf = true) (hm : l.length ≤ maxLen) (hra : RdS acR w u acts) (hma : acts.length ≤ maxLen ∧ ∀ x ∈ acts, AcWf x) :
 Calls Tryz.prog 4 #[v, u] w fun e w' => e = .returned (.bool true) ∧ Below w.heap.size w w' := by
 obtain ⟨ao, cap, rfl⟩ := hr.lenOf
 obtain ⟨K, hK⟩ : ∃ K, K = l.length := ⟨_, rfl⟩
 rw [← hK] at hr hm ⊢
 obtain ⟨ao2, cap2, rfl, hrd⟩ := hra
 obtain ⟨hmx, hwf⟩ := hma
 have hmx' : (acts.length : Int) ≤ 9223372036854775807 := Int.le_trans (Int.ofNat_le.2 hmx) (by decide +kernel)
 obtain ⟨L, hL⟩ : ∃ L, L = acts.length := ⟨_, rfl⟩
 have HRD := Lib.hid hrd
 have HL := Lib.hid hL
 have HWF := Lib.hid hwf
 have HR := Lib.hid (And.intro hr hK)
 have HV := Lib.hid hv
 rw [← hL] at hmx' ⊢
 clear hrd hL hmx hwf hr hm hbd hK hv
 go_enter Tryz.func4, Tryz.ntmps4
 by_cases c1 : (10000 : Int) < (L : Int)
 · go_wp2_with fail
   exact bodyPost_ret (v := .bool true) (by simp [results, Tryz.results4, go_sem]) rfl ⟨rfl, Below.refl _ _⟩
 by_cases c0 : (1000 : Int) < (K : Int)
 · go_wp2_with fail
   exact bodyPost_ret (v := .bool true) (by simp [results, Tryz.results4, go_sem]) rfl ⟨rfl, Below.refl _ _⟩
 have hbg : Calls Tryz.prog 7 #[.slice ao K cap] w fun e w' => ∃ d F, e = .returned (.pointer (some ⟨d.p, 0, none⟩)) ∧ (bwM d 0 (s11 l) (s11 l)).is F w' ∧ d.N = w.heap.size ∧ w.heap.size ≤ d.p ∧ (∀ k, F k → w.heap.size ≤ k) ∧ Below w.heap.size w w' := by
  refine (law11_beginB _ l w HR.out.1 (by rw [← HR.out.2]; omega)).mono ?_
  rintro e w' ⟨d, F, he, h1, h2, h3, h4, h5⟩
  exact ⟨d, F, he, h1, h2, h3, h4, h5⟩
 have HBG := Lib.hid hbg
 clear hbg
 go_upto_block 0 with (first
  | (go_at_call 7; refine HBG.out.mono ?_; rintro e w1 ⟨d, F, rfl, h1, h2, h3, h4, h5⟩; have H1 := Lib.hid (And.intro h1 (And.intro (show d.N ≤ d.p by omega) (And.intro h4 h5))); clear h1 h2 h3 h4 h5)
  | fail)
 clear HBG
 go_wp2_with fail
 go_loopw [6, 7, 8, 9] (fun i _ _ _ wr => ∃ (k : Nat) (now : Int) (s : Sx) (F : FP), k ≤ L ∧ k ≤ 80 ∧ i = .int .i64 k ∧ (bwM d now s s).is F wr ∧ (s.Ok ∧ CInv s) ∧ (∀ j, F j → w.heap.size ≤ j) ∧ Below w.heap.size w wr) (fun i _ _ _ _ => 80 - (intOf i).toNat)
 case atStart => exact ⟨0, 0, s11 l, F, by omega, by omega, rfl, H1.out.1, ⟨s11_ok l, CInv.zero l⟩, H1.out.2.2.1, H1.out.2.2.2⟩
 case round =>
  obtain ⟨k, now, s, F, hkL, hk1, rfl, hbw, hok, hF, hbl⟩ := hrel
  have HS := Lib.hid (And.intro hbw (And.intro hok (And.intro hF hbl)))
  clear hbw hok hF hbl
  by_cases hin : k < L ∧ k < 80
  · obtain ⟨hlt, hlt1⟩ := hin
    have hlt' : (k : Int) < L := by omega
    have hlt2 : (k : Int) < 80 := by omega
    obtain ⟨b, off, rfl, hrg, hbw⟩ := HRD.out k (by rw [← HL.out]; exact hlt)
    obtain ⟨x, hx⟩ : ∃ x, x = acts[k]'(by rw [← HL.out]; exact hlt) := ⟨_, rfl⟩
    rw [← hx] at hrg
    have hxw : AcWf x := by rw [hx]; exact HWF.out _ (List.getElem_mem _)
    have hrg2 : wr.rangeAt b (off + k * 14) (acF x) := rangeAt_block hrg (HS.out.2.2.2.block b hbw)
    have HX := Lib.hid (And.intro hxw hrg2)
    have HK := Lib.hid (And.intro hlt hlt1)
    clear hx hrg hbw hrg2 hxw hlt hlt1
    go_upto_block 2 with (first
     | (refine wpl_loadR (r := acR) _ rfl rfl rfl HX.out.2 ?_; dsimp only [acR])
     | (go_at_call 8; refine (law11_actS HV.out x HX.out.1 HS.out.1 HS.out.2.1.1 H1.out.2.1).mono ?_; rintro e w3 ⟨rfl, now3, h3, k3⟩; have H3 := Lib.hid (And.intro h3 (And.intro k3 (CInv.step HS.out.2.1.2 (bq_srt HS.out.1) HS.out.2.1.1 now x))); clear h3 k3; obtain ⟨F3, h4, h5, -⟩ := Mem.next H3.out.1; have H4 := Lib.hid (And.intro h4 (And.intro (show ∀ j, F3 j → w.heap.size ≤ j from fun j hj => (h5 j hj).elim (HS.out.2.2.1 j) (fun e => Nat.le_trans HS.out.2.2.2.size e)) (HS.out.2.2.2.trans (Mem.to_low H3.out.1 HS.out.2.2.2.size HS.out.2.2.1)))); clear h4 h5)
     | fail)
    obtain ⟨s3, hs3⟩ : ∃ s3, s3 = stepX now s x := ⟨_, rfl⟩
    rw [← hs3] at H3 H4
    have HB4 := H4.out.1
    have HI3 := Lib.hid H3.out.2
    have HLT := Lib.hid H4.out.2
    have HCL := Lib.hid (fun W (hW : Below w3.heap.size w3 W) => bw_cells (bw_below HB4 hW))
    have HRY := Lib.hid (fun W (hW : Below w3.heap.size w3 W) => bq_ry (bw_below HB4 hW))
    have HHS := Lib.hid (fun W (hW : Below w3.heap.size w3 W) (r : Int) => show Calls Tryz.prog 11 #[.pointer (some ⟨d.y, 0, none⟩), .int .i64 r] W fun e w' => e = .returned (.bool (decide (plHas s3.S.P r))) ∧ w' = W by
     obtain ⟨B, hy, -⟩ := bq_ry (bw_below HB4 hW)
     exact ry_Has hy r)
    have HRC := Lib.hid (fun W (hW : Below w3.heap.size w3 W) (k : Nat) (hk : k < 12) (hst : (s3.S.P k).st = 1) => law11_recount (bw_below HB4 hW) H3.out.2.1 H1.out.2.1 H3.out.2.2.t H3.out.2.2.g hk hst rfl)
    have HTL := Lib.hid (fun W (hW : Below w3.heap.size w3 W) (k : Int) => bq_tally (bw_below HB4 hW) H3.out.2.1 H1.out.2.1 k)
    have HBW := Lib.hid HB4
    clear HB4 hs3 H3 H4 HX HS
    clear hkL hk1 hlt' hlt2
    go_wp2_with fail
    go_loopw [7, 8, 9] (fun a _ _ wq => ∃ j : Nat, j ≤ 12 ∧ a = .int .i64 j ∧ Below w3.heap.size w3 wq) (fun a _ _ _ => 12 - (intOf a).toNat)
    case atStart => exact ⟨0, by omega, rfl, Below.refl _ _⟩
    case round =>
     obtain ⟨j, hj, rfl, hb⟩ := hrel
     have HA := Lib.hid hb
     clear hb
     by_cases hlt : j < 12
     · have hlt' : (j : Int) < 12 := by omega
       have HJ12 := Lib.hid hlt
       obtain ⟨-, e1, -, e3, -⟩ := HCL.out _ HA.out
       obtain ⟨B, hy, -⟩ := HRY.out _ HA.out
       have c0 := hy.top.1
       have c2 := (hy.poll hlt).2.2.1
       have hhs := HHS.out _ HA.out j
       clear hy
       by_cases hst : (s3.S.P j).st = 1
       · have hpl : plHas s3.S.P j := ⟨by omega, by rw [Int.toNat_natCast, hst]; decide⟩
         rw [hst] at c2
         rw [decide_eq_true hpl] at hhs
         have HHH := Lib.hid hhs
         have HST := Lib.hid hst
         have HPL := Lib.hid hpl
         obtain ⟨tr, htr⟩ : ∃ tr, tr = (s3.S.P j).tr := ⟨_, rfl⟩
         obtain ⟨T, hT⟩ : ∃ T, T = (s3.S.P j).t := ⟨_, rfl⟩
         have HTR := Lib.hid (And.intro htr hT)
         clear hhs hst hpl htr hT hlt hj
         go_upto_region 14 with (first
          | (go_at_call 11; refine HHH.out.mono ?_; rintro e w' ⟨rfl, hw⟩; rw [hw]; clear hw w')
          | fail)
         clear e1 e3 c0 c2
         have HAd := Lib.hid HA.out.drew
         have hcs : ∀ W, Below w3.heap.size w3 W → W.cell? ⟨d.p, 1, none⟩ = some (.pointer (some ⟨d.vb, 0, none⟩)) ∧ W.cell? ⟨d.p, 3, none⟩ = some (.pointer (some ⟨d.y, 0, none⟩)) ∧ W.cell? ⟨d.y, 0, none⟩ = some (.slice (some ⟨d.pb, 0, none⟩) 12 12) ∧ W.cell? ⟨d.pb, j * 7 + 1, none⟩ = some (.int .i64 tr) := fun W hW => by
          obtain ⟨-, e1, -, e3, -⟩ := HCL.out _ hW
          obtain ⟨B, hy, -⟩ := HRY.out _ hW
          exact ⟨e1, e3, hy.top.1, by rw [HTR.out.1]; exact (hy.poll HJ12.out).2.1⟩
         have hrc : ∀ W, Below w3.heap.size w3 W → Calls Tryz.prog 12 #[.pointer (some ⟨d.vb, 0, none⟩), .int .i64 j, .int .i64 tr] W fun e w' => e = .returned (.tuple #[.agg (tlyS.f T).toArray, .bool true]) ∧ Below W.heap.size W w' := fun W hW => by
          rw [HTR.out.1, HTR.out.2]; exact HRC.out W hW j HJ12.out HST.out
         have HCS := Lib.hid hcs
         have HRR := Lib.hid hrc
         clear hcs hrc
         have mixed : Tryz.prog.follows .mixedOrders = true := by kernel_rfl
         have mz := (Below.refl wr.heap.size wr).alloc (Nat.le_refl _) (.cells #[.int .i64 0, .int .i64 0, .int .i64 0] 41)
         have HAb := Lib.hid ((HA.out.trans (mz.mono HA.out.size)).drew)
         have HAc := Lib.hid (HA.out.trans (mz.mono HA.out.size))
         have b0 : BxS tlyS (wr.alloc (.cells #[.int .i64 0, .int .i64 0, .int .i64 0] 41)) wr.heap.size ⟨0, 0, 0⟩ := BxS.new tlyS wr ⟨0, 0, 0⟩
         have HB0 := Lib.hid (b0.below (Below.refl _ _).drew)
         clear mz b0
         first
          | go_region_held3 (fun w' => w'.cell? ⟨d.p, 1, none⟩ = some (.pointer (some ⟨d.vb, 0, none⟩)) ∧ w'.cell? ⟨d.p, 3, none⟩ = some (.pointer (some ⟨d.y, 0, none⟩)) ∧ w'.cell? ⟨d.y, 0, none⟩ = some (.slice (some ⟨d.pb, 0, none⟩) 12 12) ∧ w'.cell? ⟨d.pb, j * 7 + 1, none⟩ = some (.int .i64 tr)) (first | exact HCS.out _ HA.out | exact HCS.out _ HAd.out | exact HCS.out _ HR8.out | exact HCS.out _ HR6.out | exact HCS.out _ HR7.out | exact HCS.out _ HAb.out | exact HCS.out _ HAc.out) (first
           | (go_at_call 12; with_reducible refine (HRR.out _ HAd.out).mono ?_; rintro e w6 ⟨rfl, hb⟩; have HR6 := Lib.hid (HAd.out.trans (hb.mono HAd.out.size)); have HR7 := Lib.hid (HR6.out.alloc HR6.out.size (.cells #[.int .i64 0, .int .i64 0, .int .i64 0] 41)); have st := (tly_new w6 T).1; have HR8 := Lib.hid (below_setCells HR7.out HR6.out.size 0 (tlyS.f T)); have HBX := Lib.hid (tly_new w6 T).2; clear hb)
           | (go_at_call 12; with_reducible refine (HRR.out _ HAb.out).mono ?_; rintro e w6 ⟨rfl, hb⟩; have HR6 := Lib.hid (HAb.out.trans (hb.mono HAb.out.size)); have HB6 := Lib.hid (HB0.out.below hb); have st := HB6.out.storeT T; have HR8 := Lib.hid (below_setCells HR6.out HA.out.size 0 (tlyS.f T)); have HBX := Lib.hid (HB6.out.set T); clear hb)
           | fail)
          | fail
         focus
          obtain ⟨w8, hw8⟩ : ∃ w8, w8 = (w6.alloc (.cells #[.int .i64 0, .int .i64 0, .int .i64 0] 41)).setCells w6.heap.size 0 (tlyS.f T) := ⟨_, rfl⟩
          obtain ⟨tb, htb⟩ : ∃ tb, tb = w6.heap.size := ⟨_, rfl⟩
          clear HR7
         rotate_left
         focus
          obtain ⟨w8, hw8⟩ : ∃ w8, w8 = w6.setCells wr.heap.size 0 (tlyS.f T) := ⟨_, rfl⟩
          obtain ⟨tb, htb⟩ : ∃ tb, tb = wr.heap.size := ⟨_, rfl⟩
         rotate_left
         all_goals
          rw [← hw8]
          rw [← hw8] at HR8 HBX
          rw [← htb]
          rw [← htb] at HBX
          have HR8d := Lib.hid HR8.out.drew
          have hlw : ∀ W, Below w8.heap.size w8 W → (loadSt_T (.pointer (some ⟨tb, 0, none⟩))).run Tryz.prog W = .ok (.agg (tlyS.f T).toArray) W := fun W hW => (HBX.out.below hW).loadT
          have htl : ∀ W, Below w3.heap.size w3 W → Calls Tryz.prog 13 #[.pointer (some ⟨d.vb, 0, none⟩), .int .i64 j] W fun e w' => e = .returned (.agg (tlyS.f T).toArray) ∧ Below W.heap.size W w' := fun W hW => by
           have := HTL.out W hW j
           have e : tallyOf s3.S j = T := by
            unfold tallyOf
            rw [if_pos HPL.out, HTR.out.2, Int.toNat_natCast]
           rwa [e] at this
          have HLW := Lib.hid hlw
          have HTT := Lib.hid htl
          have nes := neTly_same T
          clear hlw htl st hw8 htb HR6 HRR
          have HC8 := Lib.hid (fun W (hW : Below w8.heap.size w8 W) => And.intro (HCS.out W (HR8.out.trans (hW.mono HR8.out.size))).1 (HLW.out W hW))
          have H80 := Lib.hid (Below.refl w8.heap.size w8)
          have H8d := Lib.hid H80.out.drew
          go_upto_region 15 with fail
          first
           | go_region_held3 (fun w' => w'.cell? ⟨d.p, 1, none⟩ = some (.pointer (some ⟨d.vb, 0, none⟩)) ∧ (loadSt_T (.pointer (some ⟨tb, 0, none⟩))).run Tryz.prog w' = .ok (.agg (tlyS.f T).toArray) w') (first | exact HC8.out _ H80.out | exact HC8.out _ H8d.out | exact HC8.out _ H9.out) (first
            | (go_at_call 13; refine (HTT.out _ HR8d.out).mono ?_; rintro e w9 ⟨rfl, hb⟩; have H9 := Lib.hid (H8d.out.trans (hb.mono H8d.out.size)); have HR9 := Lib.hid (HR8d.out.trans (hb.mono HR8d.out.size)); clear hb)
            | fail)
           | fail
          go_wp2_with fail
          go_roundw
          case rel => exact ⟨j + 1, HJ12.out, by go_num, HR9.out⟩
          case measure => have := HJ12.out; simp [intOf]; omega
       · have hsn : ((s3.S.P j).st == 1) = false := by simp [hst]
         obtain ⟨sv, hsv⟩ : ∃ sv, sv = (s3.S.P j).st := ⟨_, rfl⟩
         rw [← hsv] at c2 hsn
         have hsn2 : (sv != 1) = true := by simp [bne, hsn]
         obtain ⟨q, hq⟩ : ∃ q, q = decide (plHas s3.S.P j) := ⟨_, rfl⟩
         rw [← hq] at hhs
         have HHH := Lib.hid hhs
         clear hhs hq hst hsv hlt hj
         cases q
         · go_wp2_with (first
            | (go_at_call 11; refine HHH.out.mono ?_; rintro e w' ⟨rfl, hw⟩; rw [hw]; clear hw w')
            | fail)
           go_roundw
           case rel => exact ⟨j + 1, HJ12.out, by go_num, HA.out⟩
           case measure => have := HJ12.out; simp [intOf]; omega
         · go_wp2_with (first
            | (go_at_call 11; refine HHH.out.mono ?_; rintro e w' ⟨rfl, hw⟩; rw [hw]; clear hw w')
            | fail)
           go_roundw
           case rel => exact ⟨j + 1, HJ12.out, by go_num, HA.out⟩
           case measure => have := HJ12.out; simp [intOf]; omega
     · have hge : ¬ (j : Int) < 12 := by omega
       have hk80 : k < 80 := HK.out.2
       go_wp2_with fail
       go_roundw
       case rel => exact ⟨k + 1, now3, s3, F3, HK.out.1, HK.out.2, by go_num, bw_below HBW.out HA.out, HI3.out, HLT.out.1, HLT.out.2.trans (HA.out.mono HLT.out.2.size)⟩
       case measure => have := HK.out; simp [intOf]; omega
  · have hex : (¬ (k : Int) < L) ∨ ((k : Int) < L ∧ ¬ (k : Int) < 80) := by omega
    clear hin hkL hk1
    rcases hex with hq | ⟨hq1, hq2⟩
    all_goals
     go_wp2_with (first
      | (go_at_call 10; refine (law11_known _).mono ?_; rintro e w5 ⟨rfl, hb⟩; have H5 := Lib.hid (HS.out.2.2.2.trans (hb.mono HS.out.2.2.2.size)); clear hb)
      | fail)
     exact bodyPost_ret (v := .bool true) (by simp [results, Tryz.results4, go_sem]) rfl ⟨rfl, H5.out⟩
end
end Go.Proofs.YtbpemdihoabbcaaGreat
