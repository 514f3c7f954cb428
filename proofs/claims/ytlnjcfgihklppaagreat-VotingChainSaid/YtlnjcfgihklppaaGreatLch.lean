/-
  The law VotingChain, walked.
-/
import Derived.Test.YtlnjcfgihklppaaGreatVch
namespace Go.Proofs.YtlnjcfgihklppaaGreat
open Go.RowKit Go.Maps Go.Shelf
set_option linter.unusedVariables false
set_option linter.unusedSimpArgs false

set_option maxRecDepth 100000 in
set_option maxHeartbeats 8000000 in
attribute [local go_sem ↓] loadSt_V_hide loadSt_W_hide loadSt_T_hide in
theorem votingChain_walk (n : Int) (m : Int) (l : Int) (w : World) (wf0 : (Lit.int .i64 n).wf = true) (wf1 : (Lit.int .i64 m).wf = true) (wf2 : (Lit.int .i64 l).wf = true) : Calls Tryz.prog 10 #[.int .i64 n, .int .i64 m, .int .i64 l] w fun e w' => e = .returned (.bool true) ∧ Below w.heap.size w w' := by
  by_cases hin : (¬ n < 0) ∧ (¬ n > 1000) ∧ (¬ m < 0) ∧ (¬ m > 1000) ∧ (¬ l < 0) ∧ (¬ l > 6)
  · obtain ⟨c1, c2, c3, c4, c5, c6⟩ := hin
    obtain ⟨w1, hw1⟩ : ∃ w1, w1 = w.alloc (.cells #[.int .i64 0, .int .i64 1000, .int .i64 1000, .int .i64 1000] 3) := ⟨_, rfl⟩
    have hrd : RdI w1 (.slice (some ⟨w.heap.size, 0, none⟩) 4 4) [0, 1000, 1000, 1000] := by rw [hw1]; exact RdI.lit w 3 [0, 1000, 1000, 1000] 4 rfl
    have hb1 : Below w.heap.size w w1 := by rw [hw1]; exact (Below.refl _ w).alloc (Nat.le_refl _) _
    have hbg := begin1 _ _ w1 hrd (by simp) (by intro x hx; simp at hx; omega)
    have HB := Lib.hid hbg
    have H1 := Lib.hid hb1
    have HW := Lib.hid hw1
    have HE := Lib.hid (ch_ok (n := n) (m := m) (l := l) (by omega) (by omega) (by omega) (by omega) (by omega) (by omega))
    have HV := Lib.hid (ref_Votes m l · (by omega) (by omega) (by omega) (by omega))
    have HVb := votesI_bd (n := m) (l := l) (b := 1000) (by omega) (by omega) (by omega) (by omega) (by omega)
    obtain ⟨v, hv⟩ : ∃ v, v = votesI m l := ⟨_, rfl⟩
    rw [← hv] at HE HV HVb
    have W1 : IntKind.i64.wrap (100 + n) = 100 + n := IntWalk.i64_in _ (by omega)
    have W2 : IntKind.i64.wrap (n + v) = n + v := IntWalk.i64_in _ (by omega)
    clear hv
    clear hrd hb1 hbg hw1 wf0 wf1 wf2
    go_enter Tryz.func10, Tryz.ntmps10
    go_upto_region 4 with (first
      | (go_at_call 29; rw [← HW.out]; refine HB.out.mono ?_; rintro e w2 ⟨p, g, vb, rfl, hp⟩; have Q2 := Lib.hid (Pv1.b hp); clear hp)
      | fail)
    obtain ⟨C1_0, C1_1, -⟩ := Q2.out.cells
    go_upto_region 7 with (first
      | (go_at_call 17; refine (Q2.out.vOpen 0 0).mono ?_; rintro e w3 ⟨rfl, hp⟩; have Q3 := Lib.hid (show Pvb p g vb w1.heap.size chS1 chA [] _ w1 w3 from hp); clear hp)
      | fail)
    obtain ⟨C2_0, C2_1, -⟩ := Q3.out.dcells
    go_still_tail 9, (by kernel_rfl)
    change wpList _ _ _ _ _ w3.drew
    go_upto_region 8 with (first
      | (go_at_call 19; refine (Q3.out.drew.vVote (a := 1) (r := 0) (by decide) (by decide) chX).mono ?_; rw [HE.out.1]; rintro e w4 ⟨rfl, hp⟩; have Q4 := Lib.hid (show Pvb p g vb w1.heap.size chS2 chA _ _ w1 w4 from hp); clear hp)
      | fail)
    obtain ⟨C3_0, C3_1, -⟩ := Q4.out.dcells
    go_still_tail 9, (by kernel_rfl)
    change wpList _ _ _ _ _ w4.drew
    go_upto_region 9 with (first
      | (go_at_call 21; refine (Q4.out.drew.vDelegate (a := 2) (t := 0) (who := 1) (by decide) (by decide) 1 n).mono ?_; rw [HE.out.2.1]; rintro e w5 ⟨rfl, hp⟩; have Q5 := Lib.hid (show Pvb p g vb w1.heap.size (chS3 n) chA _ _ w1 w5 from hp); clear hp)
      | fail)
    obtain ⟨C4_0, C4_1, -⟩ := Q5.out.dcells
    go_still_tail 10, (by kernel_rfl)
    change wpList _ _ _ _ _ w5.drew
    go_upto_region 10 with (first
      | (go_at_call 21; refine (Q5.out.drew.vDelegate (a := 3) (t := 0) (who := 2) (by decide) (by decide) l m).mono ?_; rw [HE.out.2.2.1]; rintro e w6 ⟨rfl, hp⟩; have Q6 := Lib.hid (show Pvb p g vb w1.heap.size (chS4 n m l) chA _ _ w1 w6 from hp); clear hp)
      | fail)
    obtain ⟨C5_0, C5_1, -⟩ := Q6.out.cells
    go_upto_region 11 with (first
      | (go_at_call 24; refine (Q6.out.vTally 0).mono ?_; rw [HE.out.2.2.2.2.2.1]; rintro e w7 ⟨rfl, hp⟩; have Q7 := Lib.hid hp; clear hp)
      | (refine wpl_allocS (s := tlyS) rfl rfl rfl ?_)
      | (refine wpl_storeS (s := tlyS) (t := ⟨100 + n, 0, 100 + n⟩) (b := w7.heap.size) _ _ rfl rfl rfl rfl rfl (World.alloc_heap_new w7 _) (zeroS tlyS) ?_; rw [newS])
      | fail)
    obtain ⟨w8, hw8⟩ : ∃ w8, w8 = w7.alloc (tlyS.obj ⟨100 + n, 0, 100 + n⟩) := ⟨_, rfl⟩
    have Q8 := Lib.hid (show Pvb p g vb w1.heap.size _ _ _ _ w1 w8 from hw8 ▸ Q7.out.tly ⟨100 + n, 0, 100 + n⟩)
    rw [← hw8]
    clear hw8
    obtain ⟨C6_0, C6_1, -⟩ := Q8.out.cells
    go_upto_region 12 with (first
      | (go_at_call 22; refine (Q8.out.vUndelegate (a := 2) (t := 0) (by decide) (by decide) 0).mono ?_; rw [HE.out.2.2.2.1]; rintro e w9 ⟨rfl, hp⟩; have Q9 := Lib.hid (show Pvb p g vb w1.heap.size (chS5 n m l) chA _ _ w1 w9 from hp); clear hp)
      | fail)
    obtain ⟨C7_0, C7_1, -⟩ := Q9.out.dcells
    go_still_tail 10, (by kernel_rfl)
    change wpList _ _ _ _ _ w9.drew
    go_upto_region 13 with (first
      | (go_at_call 19; refine (Q9.out.drew.vVote (a := 2) (r := 0) (by decide) (by decide) (chY n)).mono ?_; rw [HE.out.2.2.2.2.1]; rintro e w10 ⟨rfl, hp⟩; have Q10 := Lib.hid (show Pvb p g vb w1.heap.size (chS6 n m l) chA _ _ w1 w10 from hp); clear hp)
      | fail)
    obtain ⟨C8_0, C8_1, -⟩ := Q10.out.cells
    go_upto_region 14 with (first
      | (go_at_call 24; refine (Q10.out.vTally 0).mono ?_; rw [HE.out.2.2.2.2.2.2]; rintro e w11 ⟨rfl, hp⟩; have Q11 := Lib.hid hp; clear hp)
      | (refine wpl_allocS (s := tlyS) rfl rfl rfl ?_)
      | (refine wpl_storeS (s := tlyS) (t := ⟨100, n + v, 100⟩) (b := w11.heap.size) _ _ rfl rfl rfl rfl rfl (World.alloc_heap_new w11 _) (zeroS tlyS) ?_; rw [newS])
      | fail)
    obtain ⟨w12, hw12⟩ : ∃ w12, w12 = w11.alloc (tlyS.obj ⟨100, n + v, 100⟩) := ⟨_, rfl⟩
    have Q12 := Lib.hid (show Pvb p g vb w1.heap.size _ _ _ _ w1 w12 from hw12 ▸ Q11.out.tly ⟨100, n + v, 100⟩)
    rw [← hw12]
    clear hw12
    have Q13 := Lib.hid (Q12.out.drew)
    have hl1 := Q13.out.loadT (b := w7.heap.size) (t := ⟨100 + n, 0, 100 + n⟩) (by simp)
    have hl2 := Q13.out.loadT (b := w11.heap.size) (t := ⟨100, n + v, 100⟩) (by simp)
    go_region_held3 (fun W => (loadSt_T (.pointer (some ⟨w7.heap.size, 0, none⟩))).run Tryz.prog W = .ok (.agg #[.int .i64 (100 + n), .int .i64 0, .int .i64 (100 + n)]) W ∧ (loadSt_T (.pointer (some ⟨w11.heap.size, 0, none⟩))).run Tryz.prog W = .ok (.agg #[.int .i64 100, .int .i64 (n + v), .int .i64 100]) W) (first | exact ⟨Q13.out.loadT (b := w7.heap.size) (t := ⟨100 + n, 0, 100 + n⟩) (by simp), Q13.out.loadT (b := w11.heap.size) (t := ⟨100, n + v, 100⟩) (by simp)⟩ | exact ⟨Q14.out.loadT (b := w7.heap.size) (t := ⟨100 + n, 0, 100 + n⟩) (by simp), Q14.out.loadT (b := w11.heap.size) (t := ⟨100, n + v, 100⟩) (by simp)⟩) (first
      | (go_at_call 31; refine (HV.out _).mono ?_; rintro e w' ⟨rfl, rfl⟩)
      | (go_at_call 26; refine (law11_known _).mono ?_; rintro e w14 ⟨rfl, hp⟩; have Q14 := Lib.hid (Q13.out.below hp); clear hp)
      | fail)
    all_goals
      go_wp2_with fail
      exact bodyPost_ret (v := .bool true) (by simp [results, Tryz.results10, go_sem]) rfl ⟨rfl, H1.out.trans (Q14.out.bl.mono H1.out.size)⟩
  · have hout : (n < 0) ∨ (¬ n < 0 ∧ n > 1000) ∨ (¬ n < 0 ∧ ¬ n > 1000 ∧ m < 0) ∨ (¬ n < 0 ∧ ¬ n > 1000 ∧ ¬ m < 0 ∧ m > 1000) ∨ (¬ n < 0 ∧ ¬ n > 1000 ∧ ¬ m < 0 ∧ ¬ m > 1000 ∧ l < 0) ∨ (¬ n < 0 ∧ ¬ n > 1000 ∧ ¬ m < 0 ∧ ¬ m > 1000 ∧ ¬ l < 0 ∧ l > 6) := by omega
    rcases hout with h | ⟨h0, h⟩ | ⟨h0, h1, h⟩ | ⟨h0, h1, h2, h⟩ | ⟨h0, h1, h2, h3, h⟩ | ⟨h0, h1, h2, h3, h4, h⟩
    all_goals
      go_enter Tryz.func10, Tryz.ntmps10
      go_wp2
      exact bodyPost_ret (v := .bool true) (by simp [results, Tryz.results10, go_sem]) rfl ⟨rfl, Below.refl _ w⟩
end Go.Proofs.YtlnjcfgihklppaaGreat
