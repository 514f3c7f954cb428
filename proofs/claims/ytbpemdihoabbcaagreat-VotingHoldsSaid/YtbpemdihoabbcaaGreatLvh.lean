/-
  VotingHolds: the walk.
-/
import Derived.Test.YtbpemdihoabbcaaGreatBsh
import Derived.Test.YtbpemdihoabbcaaGreatUC
import Derived.Test.YtbpemdihoabbcaaGreatMhm
import Derived.TacticsInMore
import Derived.Deep.CutBlock
import Derived.Deep.DeepCutAuto
import Derived.BigQuiet
import Derived.Deep.QuietTactic
namespace Go.Proofs.YtbpemdihoabbcaaGreat
set_option linter.unusedVariables false
set_option linter.unusedSimpArgs false
set_option maxRecDepth 100000
set_option maxHeartbeats 8000000
open Go.RowKit Go.Maps Go.Shelf
section
variable {d : Bp} {now : Int} {s : Sx} {F : FP} {w w' : World}
theorem HInv.casts (h : HInv s) (hs : SrtC s.S.V) (hi : VInv s.S) {a t : Int} {x : Int × Bal} (hx : x ∈ ballots s.S a t) : balOk x.2 = true ∧ capB x.2 ≤ lkv s.M a t := by
 obtain ⟨h1, h2⟩ := mem_ballots.1 hx
 have h3 := h.v a x.1 x.2 (hs.get.2 (mem_rowOf.1 h1))
 rw [h2] at h3
 exact ⟨(hi.row a x h1).2.2, h3⟩
theorem HInv.free (h : HInv s) (hs : SrtC s.M) (hA : AccOk s.A) {a : Int} (ha : isAcc a) : lockedOf s.M a ≤ (accOf s.A a).1 := by
 unfold accOf
 rw [if_pos ha]
 exact locked_le_lk hs (hA.free _) (fun t => h.f a t ha)
attribute [local go_sem ↓] loadSt_V_hide in
theorem votingHolds_walk (hv : VoteAct) (v : Value) (l : List Int) (u : Value) (acts : List Ac) (w : World) (hr : RdI w v l) (hbd : ∀ n ∈ l, (Lit.int .i64 n).wf = true) (hm : l.length ≤ maxLen) (hra : RdS acR w u acts) (hma : acts.length ≤ maxLen ∧ ∀ x ∈ acts, AcWf x) :
 Calls Tryz.prog 5 #[v, u] w fun e w' => e = .returned (.bool true) ∧ Below w.heap.size w w' := by
 obtain ⟨ao, cap, rfl⟩ := hr.lenOf
 obtain ⟨K, hK⟩ : ∃ K, K = l.length := ⟨_, rfl⟩
 rw [← hK] at hr hm ⊢
 obtain ⟨ao2, cap2, rfl, hrd⟩ := hra
 obtain ⟨hmx, hwf⟩ := hma
 have hmx' : (acts.length : Int) ≤ 9223372036854775807 := Int.le_trans (Int.ofNat_le.2 hmx) (by decide +kernel)
 obtain ⟨L, hL⟩ : ∃ L, L = acts.length := ⟨_, rfl⟩
 have HRD := Lib.hid hrd
 have HL := Lib.hid hL
 have HWF := Lib.hid hwf
 have HR := Lib.hid (And.intro hr hK)
 have HV := Lib.hid hv
 rw [← hL] at hmx' ⊢
 clear hrd hL hmx hwf hr hm hbd hK hv
 go_enter Tryz.func5, Tryz.ntmps5
 by_cases c1 : (10000 : Int) < (L : Int)
 · go_wp2_with fail
   exact bodyPost_ret (v := .bool true) (by simp [results, Tryz.results5, go_sem]) rfl ⟨rfl, Below.refl _ _⟩
 by_cases c0 : (1000 : Int) < (K : Int)
 · go_wp2_with fail
   exact bodyPost_ret (v := .bool true) (by simp [results, Tryz.results5, go_sem]) rfl ⟨rfl, Below.refl _ _⟩
 have hbg : Calls Tryz.prog 7 #[.slice ao K cap] w fun e w' => ∃ d F, e = .returned (.pointer (some ⟨d.p, 0, none⟩)) ∧ (bwM d 0 (s11 l) (s11 l)).is F w' ∧ d.N = w.heap.size ∧ w.heap.size ≤ d.p ∧ (∀ k, F k → w.heap.size ≤ k) ∧ Below w.heap.size w w' := by
  refine (law11_beginB _ l w HR.out.1 (by rw [← HR.out.2]; omega)).mono ?_
  rintro e w' ⟨d, F, he, h1, h2, h3, h4, h5⟩
  exact ⟨d, F, he, h1, h2, h3, h4, h5⟩
 have HBG := Lib.hid hbg
 clear hbg
 go_upto_block 0 with (first
  | (go_at_call 7; refine HBG.out.mono ?_; rintro e w1 ⟨d, F, rfl, h1, h2, h3, h4, h5⟩; have H1 := Lib.hid (And.intro h1 (And.intro (show d.N ≤ d.p by omega) (And.intro h4 h5))); clear h1 h2 h3 h4 h5)
  | fail)
 clear HBG
 go_wp2_with fail
 go_loopw [6, 7, 8, 9, 10, 11, 12, 13, 14, 15, 16, 17, 18] (fun i _ _ _ _ _ _ _ _ _ _ _ _ wr => ∃ (k : Nat) (now : Int) (s : Sx) (F : FP), k ≤ L ∧ k ≤ 80 ∧ i = .int .i64 k ∧ (bwM d now s s).is F wr ∧ (s.Ok ∧ HInv s) ∧ (∀ j, F j → w.heap.size ≤ j) ∧ Below w.heap.size w wr) (fun i _ _ _ _ _ _ _ _ _ _ _ _ _ => 80 - (intOf i).toNat)
 case atStart => exact ⟨0, 0, s11 l, F, by omega, by omega, rfl, H1.out.1, ⟨s11_ok l, HInv.zero l (bq_accOk H1.out.1)⟩, H1.out.2.2.1, H1.out.2.2.2⟩
 case round =>
  obtain ⟨k, now, s, F, hkL, hk1, rfl, hbw, hok, hF, hbl⟩ := hrel
  have HS := Lib.hid (And.intro hbw (And.intro hok (And.intro hF hbl)))
  clear hbw hok hF hbl
  by_cases hin : k < L ∧ k < 80
  · obtain ⟨hlt, hlt1⟩ := hin
    have hlt' : (k : Int) < L := by omega
    have hlt2 : (k : Int) < 80 := by omega
    obtain ⟨b, off, rfl, hrg, hbw⟩ := HRD.out k (by rw [← HL.out]; exact hlt)
    obtain ⟨x, hx⟩ : ∃ x, x = acts[k]'(by rw [← HL.out]; exact hlt) := ⟨_, rfl⟩
    rw [← hx] at hrg
    have hxw : AcWf x := by rw [hx]; exact HWF.out _ (List.getElem_mem _)
    have hrg2 : wr.rangeAt b (off + k * 14) (acF x) := rangeAt_block hrg (HS.out.2.2.2.block b hbw)
    have HX := Lib.hid (And.intro hxw hrg2)
    have HK := Lib.hid (And.intro hlt hlt1)
    clear hx hrg hbw hrg2 hxw hlt hlt1
    go_upto_block 2 with (first
     | (refine wpl_loadR (r := acR) _ rfl rfl rfl HX.out.2 ?_; dsimp only [acR])
     | (go_at_call 8; refine (law11_actS HV.out x HX.out.1 HS.out.1 HS.out.2.1.1 H1.out.2.1).mono ?_; rintro e w3 ⟨rfl, now3, h3, k3⟩; have H3 := Lib.hid (And.intro h3 (And.intro k3 (HInv.step HS.out.2.1.2 (bq_srt HS.out.1) HS.out.2.1.1 (bq_accOk HS.out.1) now x))); clear h3 k3; obtain ⟨F3, h4, h5, -⟩ := Mem.next H3.out.1; have H4 := Lib.hid (And.intro h4 (And.intro (show ∀ j, F3 j → w.heap.size ≤ j from fun j hj => (h5 j hj).elim (HS.out.2.2.1 j) (fun e => Nat.le_trans HS.out.2.2.2.size e)) (HS.out.2.2.2.trans (Mem.to_low H3.out.1 HS.out.2.2.2.size HS.out.2.2.1)))); clear h4 h5)
     | fail)
    obtain ⟨s3, hs3⟩ : ∃ s3, s3 = stepX now s x := ⟨_, rfl⟩
    rw [← hs3] at H3 H4
    have HB4 := H4.out.1
    have HSR := Lib.hid (bq_srt HB4)
    have HAC := Lib.hid (bq_accOk HB4)
    have HI3 := Lib.hid H3.out.2
    have HLT := Lib.hid H4.out.2
    have HFR := Lib.hid (fun W (hW : Below w3.heap.size w3 W) (x : Int) => bq_free (bw_below HB4 hW) x)
    have HLK := Lib.hid (fun W (hW : Below w3.heap.size w3 W) (x : Int) (hx : -1 ≤ x ∧ x ≤ 12) => bq_locked (bw_below HB4 hW) (wf_small hx))
    have HCL := Lib.hid (fun W (hW : Below w3.heap.size w3 W) => bw_cells (bw_below HB4 hW))
    have HCA := Lib.hid (fun W (hW : Below w3.heap.size w3 W) (a t : Int) (ha : -1 ≤ a ∧ a ≤ 12) => bq_casts (bw_below HB4 hW) H3.out.2.1.inv (wf_small ha) t (Nat.le_trans (keys12 (ballots_srt HSR.out.v a t) (fun x hx => (H3.out.2.1.inv.row a x (List.mem_filter.1 hx).1).1)) (by decide)))
    have HDE := Lib.hid (fun W (hW : Below w3.heap.size w3 W) (a t : Int) (ha : -1 ≤ a ∧ a ≤ 12) (ht : -1 ≤ t ∧ t ≤ 12) => bq_lends (bw_below HB4 hW) (wf_small ha) (wf_small ht))
    have HPR := Lib.hid (fun W (hW : Below w3.heap.size w3 W) (a t : Int) (ha : -1 ≤ a ∧ a ≤ 12) (ht : -1 ≤ t ∧ t ≤ 12) => bq_prior (bw_below HB4 hW) (wf_small ha) (wf_small ht))
    have HBW := Lib.hid HB4
    clear HB4 hs3 H3 H4 HX HS
    clear hkL hk1 hlt' hlt2
    go_wp2_with fail
    go_loopw [7, 8, 9, 10, 11, 12, 13, 14, 15, 16, 17, 18] (fun a _ _ _ _ _ _ _ _ _ _ _ wq => ∃ j : Nat, j ≤ 10 ∧ a = .int .i64 j ∧ Below w3.heap.size w3 wq) (fun a _ _ _ _ _ _ _ _ _ _ _ _ => 10 - (intOf a).toNat)
    case atStart => exact ⟨0, by omega, rfl, Below.refl _ _⟩
    case round =>
     obtain ⟨j, hj, rfl, hb⟩ := hrel
     have HA := Lib.hid hb
     clear hb
     by_cases hlt : j < 10
     · have hlt' : (j : Int) < 10 := by omega
       have HJ := Lib.hid (show -1 ≤ (j : Int) ∧ (j : Int) ≤ 12 by omega)
       have HJA := Lib.hid (show isAcc (j : Int) from ⟨by omega, by omega⟩)
       have HJ10 := Lib.hid hlt
       obtain ⟨lo, hlo⟩ : ∃ lo, lo = lockedOf s3.M j := ⟨_, rfl⟩
       have HLO := Lib.hid (And.intro hlo (show 0 ≤ lo by rw [hlo]; exact maxTo_nonneg _))
       obtain ⟨fr, hfr⟩ : ∃ fr, fr = (accOf s3.A j).1 := ⟨_, rfl⟩
       have hfl : ¬ fr < lo := by rw [hfr, hlo]; exact Int.not_lt.2 (HI3.out.2.free HSR.out.m HAC.out HJA.out)
       have HFE := Lib.hid hfr
       clear hlt hj hlo hfr
       go_wp2_with fail
       go_loopw [8, 9, 10, 11, 12, 13, 14, 15, 16, 17, 18] (fun du t _ _ _ _ _ _ _ _ _ wt => ∃ (m : Nat) (dy : Int), m ≤ 4 ∧ t = .int .i64 m ∧ du = .int .i64 dy ∧ dy ≤ lo ∧ Below w3.heap.size w3 wt) (fun _ t _ _ _ _ _ _ _ _ _ _ => 4 - (intOf t).toNat)
       case atStart => exact ⟨0, 0, by omega, rfl, rfl, HLO.out.2, HA.out⟩
       case round =>
        obtain ⟨m, dy, hm, rfl, rfl, hdy, hb⟩ := hrel
        have HB := Lib.hid hb
        clear hb
        by_cases hlt : m < 4
        · have hltm : (m : Int) < 4 := by omega
          have HM := Lib.hid (show -1 ≤ (m : Int) ∧ (m : Int) ≤ 12 by omega)
          have HM4 := Lib.hid hlt
          obtain ⟨cs, hcs⟩ : ∃ cs, cs = ballots s3.S j m := ⟨_, rfl⟩
          have hcap : ∀ x ∈ cs, balOk x.2 = true ∧ capB x.2 ≤ lo := fun x hx => by
           rw [hcs] at hx
           obtain ⟨h1, h2⟩ := HI3.out.2.casts HSR.out.v HI3.out.1.inv hx
           exact ⟨h1, Int.le_trans h2 (by rw [HLO.out.1]; exact lkv_le_locked HSR.out.m _ _)⟩
          obtain ⟨dn, hdn⟩ : ∃ dn, dn = (undD s3.S j m).n := ⟨_, rfl⟩
          have hdl : dn ≤ lo := by
           rw [hdn]
           unfold undD
           cases hc : cget s3.S.D j m with
           | none => exact HLO.out.2
           | some y => exact Int.le_trans (HI3.out.2.d j m y hc) (by rw [HLO.out.1]; exact lkv_le_locked HSR.out.m _ _)
          obtain ⟨pc, hpc⟩ : ∃ pc, pc = ((cget s3.S.Q j m).getD ⟨0, 0⟩).c := ⟨_, rfl⟩
          obtain ⟨pu, hpu⟩ : ∃ pu, pu = ((cget s3.S.Q j m).getD ⟨0, 0⟩).v := ⟨_, rfl⟩
          have hpl : pc ≤ lo := by
           rw [hpc]
           cases hc : cget s3.S.Q j m with
           | none => exact HLO.out.2
           | some y => exact Int.le_trans (HI3.out.2.q j m y hc) (by rw [HLO.out.1]; exact lkv_le_locked HSR.out.m _ _)
          obtain ⟨n, hn⟩ : ∃ n, n = cs.length := ⟨_, rfl⟩
          have hn12 : n ≤ 12 := by rw [hn, hcs]; exact keys12 (ballots_srt HSR.out.v j m) (fun x hx => (HI3.out.1.inv.row j x (List.mem_filter.1 hx).1).1)
          have HCC := Lib.hid (And.intro hcs (And.intro hn hcap))
          have HDN := Lib.hid (And.intro hdn hdl)
          have HPC := Lib.hid (And.intro hpc (And.intro hpu hpl))
          have HDY := Lib.hid hdy
          clear hcs hn hcap hdn hdl hpc hpu hpl hdy hm hlt
          obtain ⟨-, e1, -⟩ := HCL.out _ HB.out
          go_upto_block 6 with (first
           | (go_at_call 14; refine (HCA.out _ HB.out j m HJ.out).mono ?_; rintro e w4 ⟨v2, rfl, ho, hb⟩; rw [← HCC.out.1] at ho; obtain ⟨ao2, cap2, rfl⟩ := ho.lenOf; rw [← HCC.out.2.1] at ho ⊢; have HO := Lib.hid ho; have H4 := Lib.hid (HB.out.trans (hb.mono HB.out.size)); clear ho hb e1)
           | fail)
          go_wp2_with fail
          go_loopw [8, 12] (fun du i wk => ∃ (q : Nat) (dz : Int), q ≤ n ∧ i = .int .i64 q ∧ du = .int .i64 dz ∧ dz ≤ lo ∧ Below w4.heap.size w4 wk) (fun _ i _ => n - (intOf i).toNat)
          case atStart => exact ⟨0, dy, by omega, rfl, rfl, HDY.out, Below.refl _ _⟩
          case round =>
           obtain ⟨q, dz, hq, rfl, rfl, hdz, hb⟩ := hrel
           have H5 := Lib.hid hb
           clear hb
           by_cases hlt : q < n
           · have hltq : (q : Int) < n := by omega
             have hqc : q < cs.length := by rw [← HCC.out.2.1]; exact hlt
             obtain ⟨b2, o2, e2, h2, hb2⟩ := HO.out.reads.at hqc
             obtain ⟨x, hx⟩ : ∃ x, x = cs[q] := ⟨_, rfl⟩
             rw [← hx] at h2
             subst e2
             obtain ⟨hok, hcl⟩ := HCC.out.2.2 x (by rw [hx]; exact List.getElem_mem _)
             have lv : (loadSt_V (.pointer (some ⟨b2, o2 + q * 7 + 1, none⟩))).run Tryz.prog wr = .ok (.agg (balS.f x.2).toArray) wr := loadV_at (cast_vote (castAt_below h2 H5.out))
             obtain ⟨cp, hcp⟩ : ∃ cp, cp = capB x.2 := ⟨_, rfl⟩
             rw [← hcp] at hcl
             have hcapc : ∀ W : World, Calls Tryz.prog 15 #[.agg (balS.f x.2).toArray] W fun e w' => e = .returned (.int .i64 cp) ∧ Below W.heap.size W w' := fun W => by rw [hcp]; exact ref_CapitalV x.2 W hok
             obtain ⟨mz, hmz⟩ : ∃ mz, mz = max dz cp := ⟨_, rfl⟩
             have N1 : max dz cp = mz := hmz.symm
             have N2 : (if dz < cp then cp else dz) = mz := by rw [hmz]; split <;> omega
             have HMZ := Lib.hid (show mz ≤ lo by omega)
             have HCP := Lib.hid hcapc
             have HQ := Lib.hid hlt
             clear hcapc hmz hcp hok hcl hx h2 hb2 hqc hlt hdz hq
             go_wp2_with (first
              | (go_at_call 15; refine (HCP.out _).mono ?_; rintro e w6 ⟨rfl, hb⟩; have H6 := Lib.hid (H5.out.trans (hb.mono H5.out.size)); clear hb)
              | fail)
             go_roundw
             case rel => exact ⟨q + 1, mz, HQ.out, by go_num, rfl, HMZ.out, H6.out⟩
             case measure => have := HQ.out; simp [intOf]; omega
           · have hge : ¬ (q : Int) < n := by omega
             have H7 := Lib.hid (H4.out.trans (H5.out.mono H4.out.size))
             obtain ⟨-, e1, -⟩ := HCL.out _ H7.out
             obtain ⟨m1, hm1⟩ : ∃ m1, m1 = max dz dn := ⟨_, rfl⟩
             have N1 : max dz dn = m1 := hm1.symm
             have N2 : (if dz < dn then dn else dz) = m1 := by rw [hm1]; split <;> omega
             obtain ⟨m2, hm2⟩ : ∃ m2, m2 = max m1 pc := ⟨_, rfl⟩
             have N3 : max m1 pc = m2 := hm2.symm
             have N4 : (if m1 < pc then pc else m1) = m2 := by rw [hm2]; split <;> omega
             have HM1 := Lib.hid (show m1 ≤ lo by have := HDN.out.2; omega)
             have HM2 := Lib.hid (show m2 ≤ lo by have := HDN.out.2; have := HPC.out.2.2; omega)
             clear hm1 hm2 hdz hlt hq
             by_cases hun : now3 < pu
             all_goals
              go_wp2_with (first
               | (go_at_call 16; refine (HDE.out _ H7.out j m HJ.out HM.out).mono ?_; rw [← HDN.out.1]; rintro e w8 ⟨rfl, hb⟩; have H8 := Lib.hid (H7.out.trans (hb.mono H7.out.size)); obtain ⟨-, f1, -⟩ := HCL.out _ H8.out; clear hb)
               | (go_at_call 17; refine (HPR.out _ H8.out j m HJ.out HM.out).mono ?_; rw [← HPC.out.1, ← HPC.out.2.1]; rintro e w9 ⟨rfl, hb⟩; have H9 := Lib.hid (H8.out.trans (hb.mono H8.out.size)); obtain ⟨-, -, -, -, g4⟩ := HCL.out _ H9.out; clear hb)
               | fail)
              go_roundw
              case rel => first | exact ⟨m + 1, m2, HM4.out, by go_num, rfl, HM2.out, H9.out⟩ | exact ⟨m + 1, m1, HM4.out, by go_num, rfl, HM1.out, H9.out⟩
              case measure => have := HM4.out; simp [intOf]; omega
        · have hge : ¬ (m : Int) < 4 := by omega
          have hld : ¬ lo < dy := by omega
          have HBd := Lib.hid HB.out.drew
          clear hdy hlt hm
          go_upto_region 29 with fail
          have hldb : decide (lo < dy) = false := decide_eq_false (by omega)
          have hflb : decide (fr < lo) = false := decide_eq_false (by omega)
          have mixed : Tryz.prog.follows .mixedOrders = true := by kernel_rfl
          first
           | go_region_held3 (fun w' => w'.cell? ⟨d.p, 0, none⟩ = some (.pointer (some ⟨d.g, 0, none⟩))) (first | exact (HCL.out _ HB.out).1 | exact (HCL.out _ HBd.out).1 | exact (HCL.out _ HL4.out).1 | exact (HCL.out _ HL5.out).1) (first
            | (go_at_call 19; refine (HFR.out _ HL4.out j).mono ?_; rw [← HFE.out]; rintro e w' ⟨rfl, hw⟩; rw [hw]; clear hw w')
            | (go_at_call 18; with_reducible refine (HLK.out _ HL4.out j HJ.out).mono ?_; rw [← HLO.out.1]; rintro e wl5 ⟨rfl, hb⟩; have HL5 := Lib.hid (HL4.out.trans (hb.mono HL4.out.size)); clear hb)
            | (go_at_call 18; with_reducible refine (HLK.out _ HBd.out j HJ.out).mono ?_; rw [← HLO.out.1]; rintro e wl4 ⟨rfl, hb⟩; have HL4 := Lib.hid (HBd.out.trans (hb.mono HBd.out.size)); clear hb)
            | fail)
           | fail
          go_wp2_with fail
          go_roundw
          case rel => exact ⟨j + 1, HJ10.out, by go_num, HL5.out⟩
          case measure => have := HJ10.out; simp [intOf]; omega
     · have hge : ¬ (j : Int) < 10 := by omega
       have hk80 : k < 80 := HK.out.2
       go_wp2_with fail
       go_roundw
       case rel => exact ⟨k + 1, now3, s3, F3, HK.out.1, HK.out.2, by go_num, bw_below HBW.out HA.out, HI3.out, HLT.out.1, HLT.out.2.trans (HA.out.mono HLT.out.2.size)⟩
       case measure => have := HK.out; simp [intOf]; omega
  · have hex : (¬ (k : Int) < L) ∨ ((k : Int) < L ∧ ¬ (k : Int) < 80) := by omega
    clear hin hkL hk1
    rcases hex with hq | ⟨hq1, hq2⟩
    all_goals
     go_wp2_with (first
      | (go_at_call 10; refine (law11_known _).mono ?_; rintro e w5 ⟨rfl, hb⟩; have H5 := Lib.hid (HS.out.2.2.2.trans (hb.mono HS.out.2.2.2.size)); clear hb)
      | fail)
     exact bodyPost_ret (v := .bool true) (by simp [results, Tryz.results5, go_sem]) rfl ⟨rfl, H5.out⟩
end
end Go.Proofs.YtbpemdihoabbcaaGreat
