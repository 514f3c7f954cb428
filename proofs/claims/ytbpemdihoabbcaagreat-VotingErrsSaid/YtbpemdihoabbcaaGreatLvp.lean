/- A part. -/
import Derived.Test.YtbpemdihoabbcaaGreatBaca
import Derived.Test.YtbpemdihoabbcaaGreatUE
import Derived.Test.YtbpemdihoabbcaaGreatUC
import Derived.Test.YtbpemdihoabbcaaGreatMhl
import Derived.TacticsInMore
import Derived.Deep.CutBlock
import Derived.Deep.DeepCutAuto
import Derived.BigQuiet
import Derived.Deep.QuietTactic
namespace Go.Proofs.YtbpemdihoabbcaaGreat
set_option linter.unusedVariables false
set_option linter.unusedSimpArgs false
set_option maxRecDepth 100000
set_option maxHeartbeats 8000000
open Go.RowKit Go.Maps Go.Shelf
section
theorem votingPlays_walk (hv : VoteAct) (v : Value) (l : List Int) (u : Value) (acts : List Ac) (w : World) (hr : RdI w v l) (hbd : ∀ n ∈ l, (Lit.int .i64 n).wf = true) (hm : l.length ≤ maxLen) (hra : RdS acR w u acts) (hma : acts.length ≤ maxLen ∧ ∀ x ∈ acts, AcWf x) :
 Calls Tryz.prog 3 #[v, u] w fun e w' => e = .returned (.bool true) ∧ Below w.heap.size w w' := by
 obtain ⟨ao, cap, rfl⟩ := hr.lenOf
 obtain ⟨K, hK⟩ : ∃ K, K = l.length := ⟨_, rfl⟩
 rw [← hK] at hr hm ⊢
 obtain ⟨ao2, cap2, rfl, hrd⟩ := hra
 obtain ⟨hmx, hwf⟩ := hma
 have hmx' : (acts.length : Int) ≤ 9223372036854775807 := Int.le_trans (Int.ofNat_le.2 hmx) (by decide +kernel)
 obtain ⟨L, hL⟩ : ∃ L, L = acts.length := ⟨_, rfl⟩
 have HRD := Lib.hid hrd
 have HL := Lib.hid hL
 have HWF := Lib.hid hwf
 have HR := Lib.hid (And.intro hr hK)
 have HV := Lib.hid hv
 rw [← hL] at hmx' ⊢
 clear hrd hL hmx hwf hr hm hbd hK hv
 go_enter Tryz.func3, Tryz.ntmps3
 by_cases c1 : (10000 : Int) < (L : Int)
 · go_wp2_with fail
   exact bodyPost_ret (v := .bool true) (by simp [results, Tryz.results3, go_sem]) rfl ⟨rfl, Below.refl _ _⟩
 by_cases c0 : (1000 : Int) < (K : Int)
 · go_wp2_with fail
   exact bodyPost_ret (v := .bool true) (by simp [results, Tryz.results3, go_sem]) rfl ⟨rfl, Below.refl _ _⟩
 have hbg : Calls Tryz.prog 7 #[.slice ao K cap] w fun e w' => ∃ d F, e = .returned (.pointer (some ⟨d.p, 0, none⟩)) ∧ (bwM d 0 (s11 l) (s11 l)).is F w' ∧ d.N = w.heap.size ∧ w.heap.size ≤ d.p ∧ (∀ k, F k → w.heap.size ≤ k) ∧ Below w.heap.size w w' := by
  refine (law11_beginB _ l w HR.out.1 (by rw [← HR.out.2]; omega)).mono ?_
  rintro e w' ⟨d, F, he, h1, h2, h3, h4, h5⟩
  exact ⟨d, F, he, h1, h2, h3, h4, h5⟩
 have HBG := Lib.hid hbg
 clear hbg
 go_upto_block 0 with (first
  | (go_at_call 7; refine HBG.out.mono ?_; rintro e w1 ⟨d, F, rfl, h1, h2, h3, h4, h5⟩; have H1 := Lib.hid (And.intro h1 (And.intro (show d.N ≤ d.p by omega) (And.intro h4 h5))); clear h1 h2 h3 h4 h5)
  | fail)
 clear HBG
 go_wp2_with fail
 go_loopw [6] (fun i wr => ∃ (k : Nat) (now : Int) (s : Sx) (F : FP), k ≤ L ∧ k ≤ 80 ∧ i = .int .i64 k ∧ (bwM d now s s).is F wr ∧ s.Ok ∧ (∀ j, F j → w.heap.size ≤ j) ∧ Below w.heap.size w wr) (fun i _ => 80 - (intOf i).toNat)
 case atStart => exact ⟨0, 0, s11 l, F, by omega, by omega, rfl, H1.out.1, s11_ok l, H1.out.2.2.1, H1.out.2.2.2⟩
 case round =>
  obtain ⟨k, now, s, F, hkL, hk1, rfl, hbw, hok, hF, hbl⟩ := hrel
  have HS := Lib.hid (And.intro hbw (And.intro hok (And.intro hF hbl)))
  clear hbw hok hF hbl
  by_cases hin : k < L ∧ k < 80
  · obtain ⟨hlt, hlt1⟩ := hin
    have hlt' : (k : Int) < L := by omega
    have hlt2 : (k : Int) < 80 := by omega
    obtain ⟨b, off, rfl, hrg, hbw⟩ := HRD.out k (by rw [← HL.out]; exact hlt)
    obtain ⟨x, hx⟩ : ∃ x, x = acts[k]'(by rw [← HL.out]; exact hlt) := ⟨_, rfl⟩
    rw [← hx] at hrg
    have hxw : AcWf x := by rw [hx]; exact HWF.out _ (List.getElem_mem _)
    have hrg2 : wr.rangeAt b (off + k * 14) (acF x) := rangeAt_block hrg (HS.out.2.2.2.block b hbw)
    have HX := Lib.hid (And.intro hxw hrg2)
    clear hx hrg hbw hrg2 hxw hlt hlt1
    go_wp2_with (first
     | (refine wpl_loadR (r := acR) _ rfl rfl rfl HX.out.2 ?_; dsimp only [acR])
     | (go_at_call 8; refine (law11_act HV.out x HX.out.1 HS.out.1 HS.out.2.1 H1.out.2.1).mono ?_; rintro e w3 ⟨rfl, now3, s3, h3, k3⟩; have H3 := Lib.hid (And.intro h3 k3); clear h3 k3; obtain ⟨F3, h4, h5, -⟩ := Mem.next H3.out.1; have H4 := Lib.hid (And.intro h4 (And.intro (show ∀ j, F3 j → w.heap.size ≤ j from fun j hj => (h5 j hj).elim (HS.out.2.2.1 j) (fun e => Nat.le_trans HS.out.2.2.2.size e)) (HS.out.2.2.2.trans (Mem.to_low H3.out.1 HS.out.2.2.2.size HS.out.2.2.1)))); clear h4 h5)
     | (go_at_call 9; refine (law11_alike H4.out.1 H3.out.2 H1.out.2.1).mono ?_; rintro e w4 ⟨rfl, hb⟩; have H5 := Lib.hid (And.intro (bw_below H4.out.1 hb) (H4.out.2.2.trans (hb.mono H4.out.2.2.size))); clear hb)
     | fail)
    go_roundw
    case rel => exact ⟨k + 1, now3, s3, F3, by omega, by omega, by go_num, H5.out.1, H3.out.2, H4.out.2.1, H5.out.2⟩
    case measure => simp [intOf]; omega
  · have hex : (¬ (k : Int) < L) ∨ ((k : Int) < L ∧ ¬ (k : Int) < 80) := by omega
    clear hin hkL hk1
    rcases hex with hq | ⟨hq1, hq2⟩
    all_goals
     go_wp2_with (first
      | (go_at_call 10; refine (law11_known _).mono ?_; rintro e w5 ⟨rfl, hb⟩; have H5 := Lib.hid (HS.out.2.2.2.trans (hb.mono HS.out.2.2.2.size)); clear hb)
      | fail)
     exact bodyPost_ret (v := .bool true) (by simp [results, Tryz.results3, go_sem]) rfl ⟨rfl, H5.out⟩
end
end Go.Proofs.YtbpemdihoabbcaaGreat
