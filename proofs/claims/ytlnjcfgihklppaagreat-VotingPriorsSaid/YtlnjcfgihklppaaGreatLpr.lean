/-
  The law VotingPriors, walked.
-/
import Derived.Test.YtlnjcfgihklppaaGreatVpr
namespace Go.Proofs.YtlnjcfgihklppaaGreat
open Go.RowKit Go.Maps Go.Shelf
set_option linter.unusedVariables false
set_option linter.unusedSimpArgs false

set_option maxRecDepth 100000 in
set_option maxHeartbeats 8000000 in
attribute [local go_sem ↓] loadSt_V_hide loadSt_W_hide loadSt_T_hide in
theorem votingPriors_ttp (l now n : Int) (w : World) (c1 : ¬ l < 0) (c2 : ¬ l > 6) (c3 : ¬ now < 0) (c4 : ¬ now > 600) (c5 : ¬ n < 1) (c6 : ¬ n > 1000) (hn : now < 10 + periodI l 8) : Calls Tryz.prog 6 #[.int .i64 l, .bool true, .bool true, .int .i64 now, .int .i64 n] w fun e w' => e = .returned (.bool true) ∧ Below w.heap.size w w' := by
  obtain ⟨w1, hw1⟩ : ∃ w1, w1 = w.alloc (.cells #[.int .i64 0, .int .i64 1000] 3) := ⟨_, rfl⟩
  have hrd : RdI w1 (.slice (some ⟨w.heap.size, 0, none⟩) 2 2) [0, 1000] := by rw [hw1]; exact RdI.lit w 3 [0, 1000] 2 rfl
  have hb1 : Below w.heap.size w w1 := by rw [hw1]; exact (Below.refl _ w).alloc (Nat.le_refl _) _
  have hbg := begin1 _ _ w1 hrd (by simp) (by intro x hx; simp at hx; omega)
  have HB := Lib.hid hbg
  have H1 := Lib.hid hb1
  have HW := Lib.hid hw1
  have HE := Lib.hid (pr_ok (y := true) (q := true) (l := l) (n := n) (now := now) (by omega) (by omega) (by omega) (by omega) (by omega) (by omega))
  have HL := Lib.hid (HE.out.2.1.trans (if_pos ⟨rfl, show now < prU l from hn⟩))
  have HP := Lib.hid (ref_Period l 8 · (by omega) (by omega) (by omega) (by omega))
  obtain ⟨pb0, pb1⟩ := period_bd (l := l) (by omega) (by omega)
  have hmax2 := vw_max2
  clear hrd hb1 hbg hw1
  go_enter Tryz.func6, Tryz.ntmps6
  go_upto_region 4 with (first
    | (go_at_call 29; rw [← HW.out]; refine HB.out.mono ?_; rintro e w2 ⟨p, g, vb, rfl, hp⟩; have Q2 := Lib.hid (Pv1.b hp); clear hp)
    | fail)
  obtain ⟨C1_0, C1_1, -⟩ := Q2.out.cells
  go_upto_region 7 with (first
    | (go_at_call 17; refine (Q2.out.vOpen 0 2).mono ?_; rintro e w3 ⟨rfl, hp⟩; have Q3 := Lib.hid (show Pvb p g vb w1.heap.size prS1 prA [] _ w1 w3 from hp); clear hp)
    | fail)
  obtain ⟨C2_0, C2_1, -⟩ := Q3.out.dcells
  go_still_tail 12, (by kernel_rfl)
  change wpList _ _ _ _ _ w3.drew
  go_upto_region 8 with (first
    | (go_at_call 19; refine (Q3.out.drew.vVote (a := 1) (r := 0) (by decide) (by decide) (prX true l n)).mono ?_; rw [HE.out.1.1]; rintro e w4 ⟨rfl, hp⟩; have Q4 := Lib.hid (show Pvb p g vb w1.heap.size (prS2 true l n) prA (prM2 true l n) _ w1 w4 from hp); clear hp)
    | fail)
  obtain ⟨C3_0, C3_1, -⟩ := Q4.out.cells
  go_upto_region 12 with (first
    | (go_at_call 18; refine (Q4.out.vClose 0 (prSt true) 10).mono ?_; rw [HE.out.1.2.1]; rintro e w5 ⟨rfl, hp⟩; have Q5 := Lib.hid (show Pvb p g vb w1.heap.size (prS3 true true l n) prA _ _ w1 w5 from hp); clear hp)
    | fail)
  obtain ⟨C4_0, C4_1, -⟩ := Q5.out.cells
  go_upto_region 13 with (first
    | (go_at_call 20; refine (Q5.out.vUnvote (a := 1) (r := 0) (by decide) (by decide) now).mono ?_; rw [HE.out.1.2.2]; rintro e w6 ⟨rfl, hp⟩; have Q6 := Lib.hid (show Pvb p g vb w1.heap.size (prS4 true true l n now) prA _ _ w1 w6 from hp); clear hp)
    | fail)
  go_upto_region 14 with (first
    | (go_at_call 33; refine (HP.out _).mono ?_; rintro e w' ⟨rfl, rfl⟩)
    | fail)
  obtain ⟨C5_0, C5_1, -⟩ := Q6.out.dcells
  go_still_tail 9, (by kernel_rfl)
  change wpList _ _ _ _ _ w6.drew
  go_upto_region 15 with (first
    | (go_at_call 23; refine (Q6.out.drew.vUnlock (a := 1) (t := 2) (by decide) (by decide) now).mono ?_; rw [show unlE 1 2 = 0 from rfl]; rintro e w7 ⟨rfl, hp⟩; have Q7 := Lib.hid (show Pvb p g vb w1.heap.size (prS5 true true l n now) prA (prM5 true true l n now) _ w1 w7 from hp); clear hp)
    | fail)
  obtain ⟨C6_0, C6_1, -⟩ := Q7.out.cells
  go_upto_region 20 with (first
    | (go_at_call 30; refine (Q7.out.vLocked (a := 1) (by decide)).mono ?_; rw [HL.out]; rintro e w8 ⟨rfl, hp⟩; have Q8 := Lib.hid hp; clear hp)
    | fail)
  obtain ⟨C7_0, C7_1, -⟩ := Q8.out.dcells
  go_still_tail 11, (by kernel_rfl)
  change wpList _ _ _ _ _ w8.drew
  go_upto_region 21 with (first
    | (go_at_call 23; refine (Q8.out.drew.vUnlock (a := 1) (t := 2) (by decide) (by decide) (max (10 + periodI l 8) now)).mono ?_; rw [show unlE 1 2 = 0 from rfl]; rintro e w9 ⟨rfl, hp⟩; have Q9 := Lib.hid (show Pvb p g vb w1.heap.size (prS6 true true l n now) prA (prM6 true true l n now) _ w1 w9 from hp); clear hp)
    | fail)
  obtain ⟨cF0, cF1, -⟩ := Q9.out.cells
  go_wp2_with (first
    | (go_at_call 30; with_reducible refine (Q9.out.vLocked (a := 1) (by decide)).mono ?_; rw [HE.out.2.2.1]; rintro e w10 ⟨rfl, hp⟩; have Q10 := Lib.hid hp; obtain ⟨cF10a, cF10b, -⟩ := Q10.out.cells; clear hp)
    | (go_at_call 34; with_reducible refine (Q10.out.vTransfer (a := 1) (by decide) 0 1000).mono ?_; rw [HE.out.2.2.2]; rintro e w11 ⟨rfl, hp⟩; have Q11 := Lib.hid hp; obtain ⟨cF11a, cF11b, -⟩ := Q11.out.cells; clear hp)
    | (go_at_call 26; refine (law11_known _).mono ?_; rintro e w12 ⟨rfl, hp⟩; have Q12 := Lib.hid (Q11.out.below hp); clear hp)
    | fail)
  exact bodyPost_ret (v := .bool true) (by simp [results, Tryz.results6, go_sem]) rfl ⟨rfl, H1.out.trans (Q12.out.bl.mono H1.out.size)⟩
set_option maxRecDepth 100000 in
set_option maxHeartbeats 8000000 in
attribute [local go_sem ↓] loadSt_V_hide loadSt_W_hide loadSt_T_hide in
theorem votingPriors_ttn (l now n : Int) (w : World) (c1 : ¬ l < 0) (c2 : ¬ l > 6) (c3 : ¬ now < 0) (c4 : ¬ now > 600) (c5 : ¬ n < 1) (c6 : ¬ n > 1000) (hn : ¬ now < 10 + periodI l 8) : Calls Tryz.prog 6 #[.int .i64 l, .bool true, .bool true, .int .i64 now, .int .i64 n] w fun e w' => e = .returned (.bool true) ∧ Below w.heap.size w w' := by
  obtain ⟨w1, hw1⟩ : ∃ w1, w1 = w.alloc (.cells #[.int .i64 0, .int .i64 1000] 3) := ⟨_, rfl⟩
  have hrd : RdI w1 (.slice (some ⟨w.heap.size, 0, none⟩) 2 2) [0, 1000] := by rw [hw1]; exact RdI.lit w 3 [0, 1000] 2 rfl
  have hb1 : Below w.heap.size w w1 := by rw [hw1]; exact (Below.refl _ w).alloc (Nat.le_refl _) _
  have hbg := begin1 _ _ w1 hrd (by simp) (by intro x hx; simp at hx; omega)
  have HB := Lib.hid hbg
  have H1 := Lib.hid hb1
  have HW := Lib.hid hw1
  have HE := Lib.hid (pr_ok (y := true) (q := true) (l := l) (n := n) (now := now) (by omega) (by omega) (by omega) (by omega) (by omega) (by omega))
  have HL := Lib.hid (HE.out.2.1.trans (if_neg (fun h => hn h.2)))
  have HP := Lib.hid (ref_Period l 8 · (by omega) (by omega) (by omega) (by omega))
  obtain ⟨pb0, pb1⟩ := period_bd (l := l) (by omega) (by omega)
  have hmax2 := vw_max2
  clear hrd hb1 hbg hw1
  go_enter Tryz.func6, Tryz.ntmps6
  go_upto_region 4 with (first
    | (go_at_call 29; rw [← HW.out]; refine HB.out.mono ?_; rintro e w2 ⟨p, g, vb, rfl, hp⟩; have Q2 := Lib.hid (Pv1.b hp); clear hp)
    | fail)
  obtain ⟨C1_0, C1_1, -⟩ := Q2.out.cells
  go_upto_region 7 with (first
    | (go_at_call 17; refine (Q2.out.vOpen 0 2).mono ?_; rintro e w3 ⟨rfl, hp⟩; have Q3 := Lib.hid (show Pvb p g vb w1.heap.size prS1 prA [] _ w1 w3 from hp); clear hp)
    | fail)
  obtain ⟨C2_0, C2_1, -⟩ := Q3.out.dcells
  go_still_tail 12, (by kernel_rfl)
  change wpList _ _ _ _ _ w3.drew
  go_upto_region 8 with (first
    | (go_at_call 19; refine (Q3.out.drew.vVote (a := 1) (r := 0) (by decide) (by decide) (prX true l n)).mono ?_; rw [HE.out.1.1]; rintro e w4 ⟨rfl, hp⟩; have Q4 := Lib.hid (show Pvb p g vb w1.heap.size (prS2 true l n) prA (prM2 true l n) _ w1 w4 from hp); clear hp)
    | fail)
  obtain ⟨C3_0, C3_1, -⟩ := Q4.out.cells
  go_upto_region 12 with (first
    | (go_at_call 18; refine (Q4.out.vClose 0 (prSt true) 10).mono ?_; rw [HE.out.1.2.1]; rintro e w5 ⟨rfl, hp⟩; have Q5 := Lib.hid (show Pvb p g vb w1.heap.size (prS3 true true l n) prA _ _ w1 w5 from hp); clear hp)
    | fail)
  obtain ⟨C4_0, C4_1, -⟩ := Q5.out.cells
  go_upto_region 13 with (first
    | (go_at_call 20; refine (Q5.out.vUnvote (a := 1) (r := 0) (by decide) (by decide) now).mono ?_; rw [HE.out.1.2.2]; rintro e w6 ⟨rfl, hp⟩; have Q6 := Lib.hid (show Pvb p g vb w1.heap.size (prS4 true true l n now) prA _ _ w1 w6 from hp); clear hp)
    | fail)
  go_upto_region 14 with (first
    | (go_at_call 33; refine (HP.out _).mono ?_; rintro e w' ⟨rfl, rfl⟩)
    | fail)
  obtain ⟨C5_0, C5_1, -⟩ := Q6.out.dcells
  go_still_tail 9, (by kernel_rfl)
  change wpList _ _ _ _ _ w6.drew
  go_upto_region 15 with (first
    | (go_at_call 23; refine (Q6.out.drew.vUnlock (a := 1) (t := 2) (by decide) (by decide) now).mono ?_; rw [show unlE 1 2 = 0 from rfl]; rintro e w7 ⟨rfl, hp⟩; have Q7 := Lib.hid (show Pvb p g vb w1.heap.size (prS5 true true l n now) prA (prM5 true true l n now) _ w1 w7 from hp); clear hp)
    | fail)
  obtain ⟨C6_0, C6_1, -⟩ := Q7.out.cells
  go_upto_region 20 with (first
    | (go_at_call 30; refine (Q7.out.vLocked (a := 1) (by decide)).mono ?_; rw [HL.out]; rintro e w8 ⟨rfl, hp⟩; have Q8 := Lib.hid hp; clear hp)
    | fail)
  obtain ⟨C7_0, C7_1, -⟩ := Q8.out.dcells
  go_still_tail 11, (by kernel_rfl)
  change wpList _ _ _ _ _ w8.drew
  go_upto_region 21 with (first
    | (go_at_call 23; refine (Q8.out.drew.vUnlock (a := 1) (t := 2) (by decide) (by decide) (max (10 + periodI l 8) now)).mono ?_; rw [show unlE 1 2 = 0 from rfl]; rintro e w9 ⟨rfl, hp⟩; have Q9 := Lib.hid (show Pvb p g vb w1.heap.size (prS6 true true l n now) prA (prM6 true true l n now) _ w1 w9 from hp); clear hp)
    | fail)
  obtain ⟨cF0, cF1, -⟩ := Q9.out.cells
  go_wp2_with (first
    | (go_at_call 30; with_reducible refine (Q9.out.vLocked (a := 1) (by decide)).mono ?_; rw [HE.out.2.2.1]; rintro e w10 ⟨rfl, hp⟩; have Q10 := Lib.hid hp; obtain ⟨cF10a, cF10b, -⟩ := Q10.out.cells; clear hp)
    | (go_at_call 34; with_reducible refine (Q10.out.vTransfer (a := 1) (by decide) 0 1000).mono ?_; rw [HE.out.2.2.2]; rintro e w11 ⟨rfl, hp⟩; have Q11 := Lib.hid hp; obtain ⟨cF11a, cF11b, -⟩ := Q11.out.cells; clear hp)
    | (go_at_call 26; refine (law11_known _).mono ?_; rintro e w12 ⟨rfl, hp⟩; have Q12 := Lib.hid (Q11.out.below hp); clear hp)
    | fail)
  exact bodyPost_ret (v := .bool true) (by simp [results, Tryz.results6, go_sem]) rfl ⟨rfl, H1.out.trans (Q12.out.bl.mono H1.out.size)⟩
set_option maxRecDepth 100000 in
set_option maxHeartbeats 8000000 in
attribute [local go_sem ↓] loadSt_V_hide loadSt_W_hide loadSt_T_hide in
theorem votingPriors_tfx (l now n : Int) (w : World) (c1 : ¬ l < 0) (c2 : ¬ l > 6) (c3 : ¬ now < 0) (c4 : ¬ now > 600) (c5 : ¬ n < 1) (c6 : ¬ n > 1000) : Calls Tryz.prog 6 #[.int .i64 l, .bool true, .bool false, .int .i64 now, .int .i64 n] w fun e w' => e = .returned (.bool true) ∧ Below w.heap.size w w' := by
  obtain ⟨w1, hw1⟩ : ∃ w1, w1 = w.alloc (.cells #[.int .i64 0, .int .i64 1000] 3) := ⟨_, rfl⟩
  have hrd : RdI w1 (.slice (some ⟨w.heap.size, 0, none⟩) 2 2) [0, 1000] := by rw [hw1]; exact RdI.lit w 3 [0, 1000] 2 rfl
  have hb1 : Below w.heap.size w w1 := by rw [hw1]; exact (Below.refl _ w).alloc (Nat.le_refl _) _
  have hbg := begin1 _ _ w1 hrd (by simp) (by intro x hx; simp at hx; omega)
  have HB := Lib.hid hbg
  have H1 := Lib.hid hb1
  have HW := Lib.hid hw1
  have HE := Lib.hid (pr_ok (y := true) (q := false) (l := l) (n := n) (now := now) (by omega) (by omega) (by omega) (by omega) (by omega) (by omega))
  have HL := Lib.hid (HE.out.2.1.trans (if_neg (fun h => absurd h.1 (by decide))))
  have HP := Lib.hid (ref_Period l 8 · (by omega) (by omega) (by omega) (by omega))
  obtain ⟨pb0, pb1⟩ := period_bd (l := l) (by omega) (by omega)
  have hmax2 := vw_max2
  clear hrd hb1 hbg hw1
  go_enter Tryz.func6, Tryz.ntmps6
  go_upto_region 4 with (first
    | (go_at_call 29; rw [← HW.out]; refine HB.out.mono ?_; rintro e w2 ⟨p, g, vb, rfl, hp⟩; have Q2 := Lib.hid (Pv1.b hp); clear hp)
    | fail)
  obtain ⟨C1_0, C1_1, -⟩ := Q2.out.cells
  go_upto_region 7 with (first
    | (go_at_call 17; refine (Q2.out.vOpen 0 2).mono ?_; rintro e w3 ⟨rfl, hp⟩; have Q3 := Lib.hid (show Pvb p g vb w1.heap.size prS1 prA [] _ w1 w3 from hp); clear hp)
    | fail)
  obtain ⟨C2_0, C2_1, -⟩ := Q3.out.dcells
  go_still_tail 12, (by kernel_rfl)
  change wpList _ _ _ _ _ w3.drew
  go_upto_region 8 with (first
    | (go_at_call 19; refine (Q3.out.drew.vVote (a := 1) (r := 0) (by decide) (by decide) (prX true l n)).mono ?_; rw [HE.out.1.1]; rintro e w4 ⟨rfl, hp⟩; have Q4 := Lib.hid (show Pvb p g vb w1.heap.size (prS2 true l n) prA (prM2 true l n) _ w1 w4 from hp); clear hp)
    | fail)
  obtain ⟨C3_0, C3_1, -⟩ := Q4.out.cells
  go_upto_region 12 with (first
    | (go_at_call 18; refine (Q4.out.vClose 0 (prSt false) 10).mono ?_; rw [HE.out.1.2.1]; rintro e w5 ⟨rfl, hp⟩; have Q5 := Lib.hid (show Pvb p g vb w1.heap.size (prS3 true false l n) prA _ _ w1 w5 from hp); clear hp)
    | fail)
  obtain ⟨C4_0, C4_1, -⟩ := Q5.out.cells
  go_upto_region 13 with (first
    | (go_at_call 20; refine (Q5.out.vUnvote (a := 1) (r := 0) (by decide) (by decide) now).mono ?_; rw [HE.out.1.2.2]; rintro e w6 ⟨rfl, hp⟩; have Q6 := Lib.hid (show Pvb p g vb w1.heap.size (prS4 true false l n now) prA _ _ w1 w6 from hp); clear hp)
    | fail)
  go_upto_region 14 with (first
    | (go_at_call 33; refine (HP.out _).mono ?_; rintro e w' ⟨rfl, rfl⟩)
    | fail)
  obtain ⟨C5_0, C5_1, -⟩ := Q6.out.dcells
  go_still_tail 9, (by kernel_rfl)
  change wpList _ _ _ _ _ w6.drew
  go_upto_region 15 with (first
    | (go_at_call 23; refine (Q6.out.drew.vUnlock (a := 1) (t := 2) (by decide) (by decide) now).mono ?_; rw [show unlE 1 2 = 0 from rfl]; rintro e w7 ⟨rfl, hp⟩; have Q7 := Lib.hid (show Pvb p g vb w1.heap.size (prS5 true false l n now) prA (prM5 true false l n now) _ w1 w7 from hp); clear hp)
    | fail)
  obtain ⟨C6_0, C6_1, -⟩ := Q7.out.cells
  go_upto_region 20 with (first
    | (go_at_call 30; refine (Q7.out.vLocked (a := 1) (by decide)).mono ?_; rw [HL.out]; rintro e w8 ⟨rfl, hp⟩; have Q8 := Lib.hid hp; clear hp)
    | fail)
  obtain ⟨C7_0, C7_1, -⟩ := Q8.out.dcells
  go_still_tail 11, (by kernel_rfl)
  change wpList _ _ _ _ _ w8.drew
  go_upto_region 21 with (first
    | (go_at_call 23; refine (Q8.out.drew.vUnlock (a := 1) (t := 2) (by decide) (by decide) (max (10 + periodI l 8) now)).mono ?_; rw [show unlE 1 2 = 0 from rfl]; rintro e w9 ⟨rfl, hp⟩; have Q9 := Lib.hid (show Pvb p g vb w1.heap.size (prS6 true false l n now) prA (prM6 true false l n now) _ w1 w9 from hp); clear hp)
    | fail)
  obtain ⟨cF0, cF1, -⟩ := Q9.out.cells
  go_wp2_with (first
    | (go_at_call 30; with_reducible refine (Q9.out.vLocked (a := 1) (by decide)).mono ?_; rw [HE.out.2.2.1]; rintro e w10 ⟨rfl, hp⟩; have Q10 := Lib.hid hp; obtain ⟨cF10a, cF10b, -⟩ := Q10.out.cells; clear hp)
    | (go_at_call 34; with_reducible refine (Q10.out.vTransfer (a := 1) (by decide) 0 1000).mono ?_; rw [HE.out.2.2.2]; rintro e w11 ⟨rfl, hp⟩; have Q11 := Lib.hid hp; obtain ⟨cF11a, cF11b, -⟩ := Q11.out.cells; clear hp)
    | (go_at_call 26; refine (law11_known _).mono ?_; rintro e w12 ⟨rfl, hp⟩; have Q12 := Lib.hid (Q11.out.below hp); clear hp)
    | fail)
  exact bodyPost_ret (v := .bool true) (by simp [results, Tryz.results6, go_sem]) rfl ⟨rfl, H1.out.trans (Q12.out.bl.mono H1.out.size)⟩
set_option maxRecDepth 100000 in
set_option maxHeartbeats 8000000 in
attribute [local go_sem ↓] loadSt_V_hide loadSt_W_hide loadSt_T_hide in
theorem votingPriors_ftx (l now n : Int) (w : World) (c1 : ¬ l < 0) (c2 : ¬ l > 6) (c3 : ¬ now < 0) (c4 : ¬ now > 600) (c5 : ¬ n < 1) (c6 : ¬ n > 1000) : Calls Tryz.prog 6 #[.int .i64 l, .bool false, .bool true, .int .i64 now, .int .i64 n] w fun e w' => e = .returned (.bool true) ∧ Below w.heap.size w w' := by
  obtain ⟨w1, hw1⟩ : ∃ w1, w1 = w.alloc (.cells #[.int .i64 0, .int .i64 1000] 3) := ⟨_, rfl⟩
  have hrd : RdI w1 (.slice (some ⟨w.heap.size, 0, none⟩) 2 2) [0, 1000] := by rw [hw1]; exact RdI.lit w 3 [0, 1000] 2 rfl
  have hb1 : Below w.heap.size w w1 := by rw [hw1]; exact (Below.refl _ w).alloc (Nat.le_refl _) _
  have hbg := begin1 _ _ w1 hrd (by simp) (by intro x hx; simp at hx; omega)
  have HB := Lib.hid hbg
  have H1 := Lib.hid hb1
  have HW := Lib.hid hw1
  have HE := Lib.hid (pr_ok (y := false) (q := true) (l := l) (n := n) (now := now) (by omega) (by omega) (by omega) (by omega) (by omega) (by omega))
  have HL := Lib.hid (HE.out.2.1.trans (if_neg (fun h => absurd h.1 (by decide))))
  have HP := Lib.hid (ref_Period l 8 · (by omega) (by omega) (by omega) (by omega))
  obtain ⟨pb0, pb1⟩ := period_bd (l := l) (by omega) (by omega)
  have hmax2 := vw_max2
  clear hrd hb1 hbg hw1
  go_enter Tryz.func6, Tryz.ntmps6
  go_upto_region 4 with (first
    | (go_at_call 29; rw [← HW.out]; refine HB.out.mono ?_; rintro e w2 ⟨p, g, vb, rfl, hp⟩; have Q2 := Lib.hid (Pv1.b hp); clear hp)
    | fail)
  obtain ⟨C1_0, C1_1, -⟩ := Q2.out.cells
  go_upto_region 7 with (first
    | (go_at_call 17; refine (Q2.out.vOpen 0 2).mono ?_; rintro e w3 ⟨rfl, hp⟩; have Q3 := Lib.hid (show Pvb p g vb w1.heap.size prS1 prA [] _ w1 w3 from hp); clear hp)
    | fail)
  obtain ⟨C2_0, C2_1, -⟩ := Q3.out.dcells
  go_still_tail 12, (by kernel_rfl)
  change wpList _ _ _ _ _ w3.drew
  go_upto_region 8 with (first
    | (go_at_call 19; refine (Q3.out.drew.vVote (a := 1) (r := 0) (by decide) (by decide) (prX false l n)).mono ?_; rw [HE.out.1.1]; rintro e w4 ⟨rfl, hp⟩; have Q4 := Lib.hid (show Pvb p g vb w1.heap.size (prS2 false l n) prA (prM2 false l n) _ w1 w4 from hp); clear hp)
    | fail)
  obtain ⟨C3_0, C3_1, -⟩ := Q4.out.cells
  go_upto_region 12 with (first
    | (go_at_call 18; refine (Q4.out.vClose 0 (prSt true) 10).mono ?_; rw [HE.out.1.2.1]; rintro e w5 ⟨rfl, hp⟩; have Q5 := Lib.hid (show Pvb p g vb w1.heap.size (prS3 false true l n) prA _ _ w1 w5 from hp); clear hp)
    | fail)
  obtain ⟨C4_0, C4_1, -⟩ := Q5.out.cells
  go_upto_region 13 with (first
    | (go_at_call 20; refine (Q5.out.vUnvote (a := 1) (r := 0) (by decide) (by decide) now).mono ?_; rw [HE.out.1.2.2]; rintro e w6 ⟨rfl, hp⟩; have Q6 := Lib.hid (show Pvb p g vb w1.heap.size (prS4 false true l n now) prA _ _ w1 w6 from hp); clear hp)
    | fail)
  go_upto_region 14 with (first
    | (go_at_call 33; refine (HP.out _).mono ?_; rintro e w' ⟨rfl, rfl⟩)
    | fail)
  obtain ⟨C5_0, C5_1, -⟩ := Q6.out.dcells
  go_still_tail 9, (by kernel_rfl)
  change wpList _ _ _ _ _ w6.drew
  go_upto_region 15 with (first
    | (go_at_call 23; refine (Q6.out.drew.vUnlock (a := 1) (t := 2) (by decide) (by decide) now).mono ?_; rw [show unlE 1 2 = 0 from rfl]; rintro e w7 ⟨rfl, hp⟩; have Q7 := Lib.hid (show Pvb p g vb w1.heap.size (prS5 false true l n now) prA (prM5 false true l n now) _ w1 w7 from hp); clear hp)
    | fail)
  obtain ⟨C6_0, C6_1, -⟩ := Q7.out.cells
  go_upto_region 20 with (first
    | (go_at_call 30; refine (Q7.out.vLocked (a := 1) (by decide)).mono ?_; rw [HL.out]; rintro e w8 ⟨rfl, hp⟩; have Q8 := Lib.hid hp; clear hp)
    | fail)
  obtain ⟨C7_0, C7_1, -⟩ := Q8.out.dcells
  go_still_tail 11, (by kernel_rfl)
  change wpList _ _ _ _ _ w8.drew
  go_upto_region 21 with (first
    | (go_at_call 23; refine (Q8.out.drew.vUnlock (a := 1) (t := 2) (by decide) (by decide) (max (10 + periodI l 8) now)).mono ?_; rw [show unlE 1 2 = 0 from rfl]; rintro e w9 ⟨rfl, hp⟩; have Q9 := Lib.hid (show Pvb p g vb w1.heap.size (prS6 false true l n now) prA (prM6 false true l n now) _ w1 w9 from hp); clear hp)
    | fail)
  obtain ⟨cF0, cF1, -⟩ := Q9.out.cells
  go_wp2_with (first
    | (go_at_call 30; with_reducible refine (Q9.out.vLocked (a := 1) (by decide)).mono ?_; rw [HE.out.2.2.1]; rintro e w10 ⟨rfl, hp⟩; have Q10 := Lib.hid hp; obtain ⟨cF10a, cF10b, -⟩ := Q10.out.cells; clear hp)
    | (go_at_call 34; with_reducible refine (Q10.out.vTransfer (a := 1) (by decide) 0 1000).mono ?_; rw [HE.out.2.2.2]; rintro e w11 ⟨rfl, hp⟩; have Q11 := Lib.hid hp; obtain ⟨cF11a, cF11b, -⟩ := Q11.out.cells; clear hp)
    | (go_at_call 26; refine (law11_known _).mono ?_; rintro e w12 ⟨rfl, hp⟩; have Q12 := Lib.hid (Q11.out.below hp); clear hp)
    | fail)
  exact bodyPost_ret (v := .bool true) (by simp [results, Tryz.results6, go_sem]) rfl ⟨rfl, H1.out.trans (Q12.out.bl.mono H1.out.size)⟩
set_option maxRecDepth 100000 in
set_option maxHeartbeats 8000000 in
attribute [local go_sem ↓] loadSt_V_hide loadSt_W_hide loadSt_T_hide in
theorem votingPriors_ffp (l now n : Int) (w : World) (c1 : ¬ l < 0) (c2 : ¬ l > 6) (c3 : ¬ now < 0) (c4 : ¬ now > 600) (c5 : ¬ n < 1) (c6 : ¬ n > 1000) (hn : now < 10 + periodI l 8) : Calls Tryz.prog 6 #[.int .i64 l, .bool false, .bool false, .int .i64 now, .int .i64 n] w fun e w' => e = .returned (.bool true) ∧ Below w.heap.size w w' := by
  obtain ⟨w1, hw1⟩ : ∃ w1, w1 = w.alloc (.cells #[.int .i64 0, .int .i64 1000] 3) := ⟨_, rfl⟩
  have hrd : RdI w1 (.slice (some ⟨w.heap.size, 0, none⟩) 2 2) [0, 1000] := by rw [hw1]; exact RdI.lit w 3 [0, 1000] 2 rfl
  have hb1 : Below w.heap.size w w1 := by rw [hw1]; exact (Below.refl _ w).alloc (Nat.le_refl _) _
  have hbg := begin1 _ _ w1 hrd (by simp) (by intro x hx; simp at hx; omega)
  have HB := Lib.hid hbg
  have H1 := Lib.hid hb1
  have HW := Lib.hid hw1
  have HE := Lib.hid (pr_ok (y := false) (q := false) (l := l) (n := n) (now := now) (by omega) (by omega) (by omega) (by omega) (by omega) (by omega))
  have HL := Lib.hid (HE.out.2.1.trans (if_pos ⟨rfl, show now < prU l from hn⟩))
  have HP := Lib.hid (ref_Period l 8 · (by omega) (by omega) (by omega) (by omega))
  obtain ⟨pb0, pb1⟩ := period_bd (l := l) (by omega) (by omega)
  have hmax2 := vw_max2
  clear hrd hb1 hbg hw1
  go_enter Tryz.func6, Tryz.ntmps6
  go_upto_region 4 with (first
    | (go_at_call 29; rw [← HW.out]; refine HB.out.mono ?_; rintro e w2 ⟨p, g, vb, rfl, hp⟩; have Q2 := Lib.hid (Pv1.b hp); clear hp)
    | fail)
  obtain ⟨C1_0, C1_1, -⟩ := Q2.out.cells
  go_upto_region 7 with (first
    | (go_at_call 17; refine (Q2.out.vOpen 0 2).mono ?_; rintro e w3 ⟨rfl, hp⟩; have Q3 := Lib.hid (show Pvb p g vb w1.heap.size prS1 prA [] _ w1 w3 from hp); clear hp)
    | fail)
  obtain ⟨C2_0, C2_1, -⟩ := Q3.out.dcells
  go_still_tail 12, (by kernel_rfl)
  change wpList _ _ _ _ _ w3.drew
  go_upto_region 8 with (first
    | (go_at_call 19; refine (Q3.out.drew.vVote (a := 1) (r := 0) (by decide) (by decide) (prX false l n)).mono ?_; rw [HE.out.1.1]; rintro e w4 ⟨rfl, hp⟩; have Q4 := Lib.hid (show Pvb p g vb w1.heap.size (prS2 false l n) prA (prM2 false l n) _ w1 w4 from hp); clear hp)
    | fail)
  obtain ⟨C3_0, C3_1, -⟩ := Q4.out.cells
  go_upto_region 12 with (first
    | (go_at_call 18; refine (Q4.out.vClose 0 (prSt false) 10).mono ?_; rw [HE.out.1.2.1]; rintro e w5 ⟨rfl, hp⟩; have Q5 := Lib.hid (show Pvb p g vb w1.heap.size (prS3 false false l n) prA _ _ w1 w5 from hp); clear hp)
    | fail)
  obtain ⟨C4_0, C4_1, -⟩ := Q5.out.cells
  go_upto_region 13 with (first
    | (go_at_call 20; refine (Q5.out.vUnvote (a := 1) (r := 0) (by decide) (by decide) now).mono ?_; rw [HE.out.1.2.2]; rintro e w6 ⟨rfl, hp⟩; have Q6 := Lib.hid (show Pvb p g vb w1.heap.size (prS4 false false l n now) prA _ _ w1 w6 from hp); clear hp)
    | fail)
  go_upto_region 14 with (first
    | (go_at_call 33; refine (HP.out _).mono ?_; rintro e w' ⟨rfl, rfl⟩)
    | fail)
  obtain ⟨C5_0, C5_1, -⟩ := Q6.out.dcells
  go_still_tail 9, (by kernel_rfl)
  change wpList _ _ _ _ _ w6.drew
  go_upto_region 15 with (first
    | (go_at_call 23; refine (Q6.out.drew.vUnlock (a := 1) (t := 2) (by decide) (by decide) now).mono ?_; rw [show unlE 1 2 = 0 from rfl]; rintro e w7 ⟨rfl, hp⟩; have Q7 := Lib.hid (show Pvb p g vb w1.heap.size (prS5 false false l n now) prA (prM5 false false l n now) _ w1 w7 from hp); clear hp)
    | fail)
  obtain ⟨C6_0, C6_1, -⟩ := Q7.out.cells
  go_upto_region 20 with (first
    | (go_at_call 30; refine (Q7.out.vLocked (a := 1) (by decide)).mono ?_; rw [HL.out]; rintro e w8 ⟨rfl, hp⟩; have Q8 := Lib.hid hp; clear hp)
    | fail)
  obtain ⟨C7_0, C7_1, -⟩ := Q8.out.dcells
  go_still_tail 11, (by kernel_rfl)
  change wpList _ _ _ _ _ w8.drew
  go_upto_region 21 with (first
    | (go_at_call 23; refine (Q8.out.drew.vUnlock (a := 1) (t := 2) (by decide) (by decide) (max (10 + periodI l 8) now)).mono ?_; rw [show unlE 1 2 = 0 from rfl]; rintro e w9 ⟨rfl, hp⟩; have Q9 := Lib.hid (show Pvb p g vb w1.heap.size (prS6 false false l n now) prA (prM6 false false l n now) _ w1 w9 from hp); clear hp)
    | fail)
  obtain ⟨cF0, cF1, -⟩ := Q9.out.cells
  go_wp2_with (first
    | (go_at_call 30; with_reducible refine (Q9.out.vLocked (a := 1) (by decide)).mono ?_; rw [HE.out.2.2.1]; rintro e w10 ⟨rfl, hp⟩; have Q10 := Lib.hid hp; obtain ⟨cF10a, cF10b, -⟩ := Q10.out.cells; clear hp)
    | (go_at_call 34; with_reducible refine (Q10.out.vTransfer (a := 1) (by decide) 0 1000).mono ?_; rw [HE.out.2.2.2]; rintro e w11 ⟨rfl, hp⟩; have Q11 := Lib.hid hp; obtain ⟨cF11a, cF11b, -⟩ := Q11.out.cells; clear hp)
    | (go_at_call 26; refine (law11_known _).mono ?_; rintro e w12 ⟨rfl, hp⟩; have Q12 := Lib.hid (Q11.out.below hp); clear hp)
    | fail)
  exact bodyPost_ret (v := .bool true) (by simp [results, Tryz.results6, go_sem]) rfl ⟨rfl, H1.out.trans (Q12.out.bl.mono H1.out.size)⟩
set_option maxRecDepth 100000 in
set_option maxHeartbeats 8000000 in
attribute [local go_sem ↓] loadSt_V_hide loadSt_W_hide loadSt_T_hide in
theorem votingPriors_ffn (l now n : Int) (w : World) (c1 : ¬ l < 0) (c2 : ¬ l > 6) (c3 : ¬ now < 0) (c4 : ¬ now > 600) (c5 : ¬ n < 1) (c6 : ¬ n > 1000) (hn : ¬ now < 10 + periodI l 8) : Calls Tryz.prog 6 #[.int .i64 l, .bool false, .bool false, .int .i64 now, .int .i64 n] w fun e w' => e = .returned (.bool true) ∧ Below w.heap.size w w' := by
  obtain ⟨w1, hw1⟩ : ∃ w1, w1 = w.alloc (.cells #[.int .i64 0, .int .i64 1000] 3) := ⟨_, rfl⟩
  have hrd : RdI w1 (.slice (some ⟨w.heap.size, 0, none⟩) 2 2) [0, 1000] := by rw [hw1]; exact RdI.lit w 3 [0, 1000] 2 rfl
  have hb1 : Below w.heap.size w w1 := by rw [hw1]; exact (Below.refl _ w).alloc (Nat.le_refl _) _
  have hbg := begin1 _ _ w1 hrd (by simp) (by intro x hx; simp at hx; omega)
  have HB := Lib.hid hbg
  have H1 := Lib.hid hb1
  have HW := Lib.hid hw1
  have HE := Lib.hid (pr_ok (y := false) (q := false) (l := l) (n := n) (now := now) (by omega) (by omega) (by omega) (by omega) (by omega) (by omega))
  have HL := Lib.hid (HE.out.2.1.trans (if_neg (fun h => hn h.2)))
  have HP := Lib.hid (ref_Period l 8 · (by omega) (by omega) (by omega) (by omega))
  obtain ⟨pb0, pb1⟩ := period_bd (l := l) (by omega) (by omega)
  have hmax2 := vw_max2
  clear hrd hb1 hbg hw1
  go_enter Tryz.func6, Tryz.ntmps6
  go_upto_region 4 with (first
    | (go_at_call 29; rw [← HW.out]; refine HB.out.mono ?_; rintro e w2 ⟨p, g, vb, rfl, hp⟩; have Q2 := Lib.hid (Pv1.b hp); clear hp)
    | fail)
  obtain ⟨C1_0, C1_1, -⟩ := Q2.out.cells
  go_upto_region 7 with (first
    | (go_at_call 17; refine (Q2.out.vOpen 0 2).mono ?_; rintro e w3 ⟨rfl, hp⟩; have Q3 := Lib.hid (show Pvb p g vb w1.heap.size prS1 prA [] _ w1 w3 from hp); clear hp)
    | fail)
  obtain ⟨C2_0, C2_1, -⟩ := Q3.out.dcells
  go_still_tail 12, (by kernel_rfl)
  change wpList _ _ _ _ _ w3.drew
  go_upto_region 8 with (first
    | (go_at_call 19; refine (Q3.out.drew.vVote (a := 1) (r := 0) (by decide) (by decide) (prX false l n)).mono ?_; rw [HE.out.1.1]; rintro e w4 ⟨rfl, hp⟩; have Q4 := Lib.hid (show Pvb p g vb w1.heap.size (prS2 false l n) prA (prM2 false l n) _ w1 w4 from hp); clear hp)
    | fail)
  obtain ⟨C3_0, C3_1, -⟩ := Q4.out.cells
  go_upto_region 12 with (first
    | (go_at_call 18; refine (Q4.out.vClose 0 (prSt false) 10).mono ?_; rw [HE.out.1.2.1]; rintro e w5 ⟨rfl, hp⟩; have Q5 := Lib.hid (show Pvb p g vb w1.heap.size (prS3 false false l n) prA _ _ w1 w5 from hp); clear hp)
    | fail)
  obtain ⟨C4_0, C4_1, -⟩ := Q5.out.cells
  go_upto_region 13 with (first
    | (go_at_call 20; refine (Q5.out.vUnvote (a := 1) (r := 0) (by decide) (by decide) now).mono ?_; rw [HE.out.1.2.2]; rintro e w6 ⟨rfl, hp⟩; have Q6 := Lib.hid (show Pvb p g vb w1.heap.size (prS4 false false l n now) prA _ _ w1 w6 from hp); clear hp)
    | fail)
  go_upto_region 14 with (first
    | (go_at_call 33; refine (HP.out _).mono ?_; rintro e w' ⟨rfl, rfl⟩)
    | fail)
  obtain ⟨C5_0, C5_1, -⟩ := Q6.out.dcells
  go_still_tail 9, (by kernel_rfl)
  change wpList _ _ _ _ _ w6.drew
  go_upto_region 15 with (first
    | (go_at_call 23; refine (Q6.out.drew.vUnlock (a := 1) (t := 2) (by decide) (by decide) now).mono ?_; rw [show unlE 1 2 = 0 from rfl]; rintro e w7 ⟨rfl, hp⟩; have Q7 := Lib.hid (show Pvb p g vb w1.heap.size (prS5 false false l n now) prA (prM5 false false l n now) _ w1 w7 from hp); clear hp)
    | fail)
  obtain ⟨C6_0, C6_1, -⟩ := Q7.out.cells
  go_upto_region 20 with (first
    | (go_at_call 30; refine (Q7.out.vLocked (a := 1) (by decide)).mono ?_; rw [HL.out]; rintro e w8 ⟨rfl, hp⟩; have Q8 := Lib.hid hp; clear hp)
    | fail)
  obtain ⟨C7_0, C7_1, -⟩ := Q8.out.dcells
  go_still_tail 11, (by kernel_rfl)
  change wpList _ _ _ _ _ w8.drew
  go_upto_region 21 with (first
    | (go_at_call 23; refine (Q8.out.drew.vUnlock (a := 1) (t := 2) (by decide) (by decide) (max (10 + periodI l 8) now)).mono ?_; rw [show unlE 1 2 = 0 from rfl]; rintro e w9 ⟨rfl, hp⟩; have Q9 := Lib.hid (show Pvb p g vb w1.heap.size (prS6 false false l n now) prA (prM6 false false l n now) _ w1 w9 from hp); clear hp)
    | fail)
  obtain ⟨cF0, cF1, -⟩ := Q9.out.cells
  go_wp2_with (first
    | (go_at_call 30; with_reducible refine (Q9.out.vLocked (a := 1) (by decide)).mono ?_; rw [HE.out.2.2.1]; rintro e w10 ⟨rfl, hp⟩; have Q10 := Lib.hid hp; obtain ⟨cF10a, cF10b, -⟩ := Q10.out.cells; clear hp)
    | (go_at_call 34; with_reducible refine (Q10.out.vTransfer (a := 1) (by decide) 0 1000).mono ?_; rw [HE.out.2.2.2]; rintro e w11 ⟨rfl, hp⟩; have Q11 := Lib.hid hp; obtain ⟨cF11a, cF11b, -⟩ := Q11.out.cells; clear hp)
    | (go_at_call 26; refine (law11_known _).mono ?_; rintro e w12 ⟨rfl, hp⟩; have Q12 := Lib.hid (Q11.out.below hp); clear hp)
    | fail)
  exact bodyPost_ret (v := .bool true) (by simp [results, Tryz.results6, go_sem]) rfl ⟨rfl, H1.out.trans (Q12.out.bl.mono H1.out.size)⟩
theorem votingPriors_walk (l : Int) (y q : Bool) (now n : Int) (w : World) (wf0 : (Lit.int .i64 l).wf = true) (wf1 : (Lit.int .i64 now).wf = true) (wf2 : (Lit.int .i64 n).wf = true) : Calls Tryz.prog 6 #[.int .i64 l, .bool y, .bool q, .int .i64 now, .int .i64 n] w fun e w' => e = .returned (.bool true) ∧ Below w.heap.size w w' := by
  by_cases hin : (¬ l < 0) ∧ (¬ l > 6) ∧ (¬ now < 0) ∧ (¬ now > 600) ∧ (¬ n < 1) ∧ (¬ n > 1000)
  · obtain ⟨c1, c2, c3, c4, c5, c6⟩ := hin
    by_cases hn : now < 10 + periodI l 8
    · cases y <;> cases q
      · exact votingPriors_ffp l now n w c1 c2 c3 c4 c5 c6 hn
      · exact votingPriors_ftx l now n w c1 c2 c3 c4 c5 c6
      · exact votingPriors_tfx l now n w c1 c2 c3 c4 c5 c6
      · exact votingPriors_ttp l now n w c1 c2 c3 c4 c5 c6 hn
    · cases y <;> cases q
      · exact votingPriors_ffn l now n w c1 c2 c3 c4 c5 c6 hn
      · exact votingPriors_ftx l now n w c1 c2 c3 c4 c5 c6
      · exact votingPriors_tfx l now n w c1 c2 c3 c4 c5 c6
      · exact votingPriors_ttn l now n w c1 c2 c3 c4 c5 c6 hn
  · have hout : (l < 0) ∨ (¬ l < 0 ∧ l > 6) ∨ (¬ l < 0 ∧ ¬ l > 6 ∧ now < 0) ∨ (¬ l < 0 ∧ ¬ l > 6 ∧ ¬ now < 0 ∧ now > 600) ∨ (¬ l < 0 ∧ ¬ l > 6 ∧ ¬ now < 0 ∧ ¬ now > 600 ∧ n < 1) ∨ (¬ l < 0 ∧ ¬ l > 6 ∧ ¬ now < 0 ∧ ¬ now > 600 ∧ ¬ n < 1 ∧ n > 1000) := by omega
    rcases hout with h | ⟨h0, h⟩ | ⟨h0, h1, h⟩ | ⟨h0, h1, h2, h⟩ | ⟨h0, h1, h2, h3, h⟩ | ⟨h0, h1, h2, h3, h4, h⟩
    all_goals
      go_enter Tryz.func6, Tryz.ntmps6
      go_wp2
      exact bodyPost_ret (v := .bool true) (by simp [results, Tryz.results6, go_sem]) rfl ⟨rfl, Below.refl _ w⟩
end Go.Proofs.YtlnjcfgihklppaaGreat

