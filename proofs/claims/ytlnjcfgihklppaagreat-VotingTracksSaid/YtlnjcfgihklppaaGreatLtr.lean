/-
  The law VotingTracks, walked.
-/
import Derived.Test.YtlnjcfgihklppaaGreatVtr
namespace Go.Proofs.YtlnjcfgihklppaaGreat
open Go.RowKit Go.Maps Go.Shelf
set_option linter.unusedVariables false
set_option linter.unusedSimpArgs false

set_option maxRecDepth 100000 in
set_option maxHeartbeats 8000000 in
attribute [local go_sem ↓] loadSt_V_hide loadSt_W_hide loadSt_T_hide in
theorem votingTracks_walk (a : Int) (b : Int) (c : Int) (w : World) (wf0 : (Lit.int .i64 a).wf = true) (wf1 : (Lit.int .i64 b).wf = true) (wf2 : (Lit.int .i64 c).wf = true) : Calls Tryz.prog 11 #[.int .i64 a, .int .i64 b, .int .i64 c] w fun e w' => e = .returned (.bool true) ∧ Below w.heap.size w w' := by
  by_cases hin : (¬ a < 0) ∧ (¬ a > 1000) ∧ (¬ b < 0) ∧ (¬ b > 1000) ∧ (¬ c < 0) ∧ (¬ c > 1000)
  · obtain ⟨c1, c2, c3, c4, c5, c6⟩ := hin
    obtain ⟨w1, hw1⟩ : ∃ w1, w1 = w.alloc (.cells #[.int .i64 0, .int .i64 1000, .int .i64 1000] 3) := ⟨_, rfl⟩
    have hrd : RdI w1 (.slice (some ⟨w.heap.size, 0, none⟩) 3 3) [0, 1000, 1000] := by rw [hw1]; exact RdI.lit w 3 [0, 1000, 1000] 3 rfl
    have hb1 : Below w.heap.size w w1 := by rw [hw1]; exact (Below.refl _ w).alloc (Nat.le_refl _) _
    have hbg := begin1 _ _ w1 hrd (by simp) (by intro x hx; simp at hx; omega)
    have HB := Lib.hid hbg
    have H1 := Lib.hid hb1
    have HW := Lib.hid hw1
    have HE := Lib.hid (tr_ok (a := a) (b := b) (c := c) (by omega) (by omega) (by omega) (by omega) (by omega) (by omega))
    have hmax3 := vw_max3
    have hmax2 := vw_max2
    have WB : IntKind.i64.wrap (2 * b) = 2 * b := IntWalk.i64_in _ (by omega)
    clear hrd hb1 hbg hw1 wf0 wf1 wf2
    go_enter Tryz.func11, Tryz.ntmps11
    go_upto_region 4 with (first
      | (go_at_call 29; rw [← HW.out]; refine HB.out.mono ?_; rintro e w2 ⟨p, g, vb, rfl, hp⟩; have Q2 := Lib.hid (Pv1.b hp); clear hp)
      | fail)
    go_upto_region 6 with fail
    clear c1 c2 c3 c4 c5 c6
    go_wp2_with fail
    go_loopw [8] (fun i wr => ∃ k : Nat, k ≤ 3 ∧ i = .int .i64 k ∧ Pvb p g vb w1.heap.size (trO k) trA [] [] w1 wr) (fun i _ => 3 - (intOf i).toNat)
    case atStart => exact ⟨0, by omega, rfl, Q2.out⟩
    case round =>
      obtain ⟨k, hk, rfl, hld⟩ := hrel
      have HS := Lib.hid hld
      obtain ⟨d0, d1, -⟩ := HS.out.cells
      by_cases hlt : k < 3
      · clear hld
        have hki : (k : Int) < 3 := by omega
        have e : k = 0 ∨ k = 1 ∨ k = 2 := by omega
        clear hk hlt
        go_wp2_with (first
          | (go_at_call 17; refine (HS.out.vOpen k k).mono ?_; rintro e3 w3 ⟨rfl, hp⟩; have H3 := Lib.hid (show Pvb p g vb w1.heap.size (trO (k + 1)) trA [] [] w1 w3 from hp); clear hp)
          | fail)
        go_roundw
        case rel => exact ⟨k + 1, by omega, by go_num, H3.out⟩
        case measure => simp [intOf]; omega
      · have hk3 : k = 3 := by omega
        subst hk3
        clear hld hk hlt
        have Q3 := HS
        clear HS
        go_upto_region 10 with fail
        obtain ⟨C1_0, C1_1, -⟩ := Q3.out.dcells
        go_still_tail 10, (by kernel_rfl)
        change wpList _ _ _ _ _ wr.drew
        go_upto_region 11 with (first
          | (go_at_call 19; refine (Q3.out.drew.vVote (a := 1) (r := 0) (by decide) (by decide) (trX a)).mono ?_; rw [HE.out.1.1]; rintro e w4 ⟨rfl, hp⟩; have Q4 := Lib.hid (show Pvb p g vb w1.heap.size (trS2 a) trA (trM2 a) _ w1 w4 from hp); clear hp)
          | fail)
        obtain ⟨C2_0, C2_1, -⟩ := Q4.out.dcells
        go_still_tail 10, (by kernel_rfl)
        change wpList _ _ _ _ _ w4.drew
        go_upto_region 12 with (first
          | (go_at_call 19; refine (Q4.out.drew.vVote (a := 1) (r := 1) (by decide) (by decide) (trY b)).mono ?_; rw [HE.out.1.2.1]; rintro e w5 ⟨rfl, hp⟩; have Q5 := Lib.hid (show Pvb p g vb w1.heap.size (trS3 a b) trA (trM3 a b) _ w1 w5 from hp); clear hp)
          | fail)
        obtain ⟨C3_0, C3_1, -⟩ := Q5.out.dcells
        go_still_tail 9, (by kernel_rfl)
        change wpList _ _ _ _ _ w5.drew
        go_upto_region 13 with (first
          | (go_at_call 21; refine (Q5.out.drew.vDelegate (a := 1) (t := 2) (who := 2) (by decide) (by decide) 1 c).mono ?_; rw [HE.out.1.2.2.1]; rintro e w6 ⟨rfl, hp⟩; have Q6 := Lib.hid (show Pvb p g vb w1.heap.size (trS4 a b c) trA (trM4 a b c) _ w1 w6 from hp); clear hp)
          | fail)
        obtain ⟨C4_0, C4_1, -⟩ := Q6.out.cells
        go_upto_region 14 with (first
          | (go_at_call 30; refine (Q6.out.vLocked (a := 1) (by decide)).mono ?_; rw [HE.out.2.1]; rintro e w7 ⟨rfl, hp⟩; have Q7 := Lib.hid hp; clear hp)
          | fail)
        obtain ⟨C5_0, C5_1, -⟩ := Q7.out.cells
        go_upto_region 15 with (first
          | (go_at_call 20; refine (Q7.out.vUnvote (a := 1) (r := 0) (by decide) (by decide) 5).mono ?_; rw [HE.out.1.2.2.2]; rintro e w8 ⟨rfl, hp⟩; have Q8 := Lib.hid (show Pvb p g vb w1.heap.size (trS5 a b c) trA (trM4 a b c) _ w1 w8 from hp); clear hp)
          | fail)
        obtain ⟨C6_0, C6_1, -⟩ := Q8.out.dcells
        go_still_tail 8, (by kernel_rfl)
        change wpList _ _ _ _ _ w8.drew
        go_upto_region 16 with (first
          | (go_at_call 23; refine (Q8.out.drew.vUnlock (a := 1) (t := 0) (by decide) (by decide) 5).mono ?_; rw [show unlE 1 0 = 0 from rfl]; rintro e w9 ⟨rfl, hp⟩; have Q9 := Lib.hid (show Pvb p g vb w1.heap.size (trS6 a b c) trA (trM6 a b c) _ w1 w9 from hp); clear hp)
          | fail)
        obtain ⟨cF0, cF1, -⟩ := Q9.out.cells
        go_wp2_with (first
          | (go_at_call 30; with_reducible refine (Q9.out.vLocked (a := 1) (by decide)).mono ?_; rw [HE.out.2.2.1]; rintro e w10 ⟨rfl, hp⟩; have Q10 := Lib.hid hp; obtain ⟨cF10a, cF10b, -⟩ := Q10.out.cells; clear hp)
          | (go_at_call 24; with_reducible refine (Q10.out.vTally 0).mono ?_; rw [HE.out.2.2.2.1]; rintro e w11 ⟨rfl, hp⟩; have Q11 := Lib.hid hp; obtain ⟨cF11a, cF11b, -⟩ := Q11.out.cells; clear hp)
          | (go_at_call 24; with_reducible refine (Q11.out.vTally 1).mono ?_; rw [HE.out.2.2.2.2.1]; rintro e w12 ⟨rfl, hp⟩; have Q12 := Lib.hid hp; obtain ⟨cF12a, cF12b, -⟩ := Q12.out.cells; clear hp)
          | (go_at_call 24; with_reducible refine (Q12.out.vTally 2).mono ?_; rw [HE.out.2.2.2.2.2]; rintro e w13 ⟨rfl, hp⟩; have Q13 := Lib.hid hp; obtain ⟨cF13a, cF13b, -⟩ := Q13.out.cells; clear hp)
          | (go_at_call 26; refine (law11_known _).mono ?_; rintro e w14 ⟨rfl, hp⟩; have Q14 := Lib.hid (Q13.out.below hp); clear hp)
          | fail)
        exact bodyPost_ret (v := .bool true) (by simp [results, Tryz.results11, go_sem]) rfl ⟨rfl, H1.out.trans (Q14.out.bl.mono H1.out.size)⟩
  · have hout : (a < 0) ∨ (¬ a < 0 ∧ a > 1000) ∨ (¬ a < 0 ∧ ¬ a > 1000 ∧ b < 0) ∨ (¬ a < 0 ∧ ¬ a > 1000 ∧ ¬ b < 0 ∧ b > 1000) ∨ (¬ a < 0 ∧ ¬ a > 1000 ∧ ¬ b < 0 ∧ ¬ b > 1000 ∧ c < 0) ∨ (¬ a < 0 ∧ ¬ a > 1000 ∧ ¬ b < 0 ∧ ¬ b > 1000 ∧ ¬ c < 0 ∧ c > 1000) := by omega
    rcases hout with h | ⟨h0, h⟩ | ⟨h0, h1, h⟩ | ⟨h0, h1, h2, h⟩ | ⟨h0, h1, h2, h3, h⟩ | ⟨h0, h1, h2, h3, h4, h⟩
    all_goals
      go_enter Tryz.func11, Tryz.ntmps11
      go_wp2
      exact bodyPost_ret (v := .bool true) (by simp [results, Tryz.results11, go_sem]) rfl ⟨rfl, Below.refl _ w⟩
end Go.Proofs.YtlnjcfgihklppaaGreat
