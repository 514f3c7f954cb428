/-
  The law VotingLends, walked.
-/
import Derived.Test.YtlnjcfgihklppaaGreatVle
namespace Go.Proofs.YtlnjcfgihklppaaGreat
open Go.RowKit Go.Maps Go.Shelf
set_option linter.unusedVariables false
set_option linter.unusedSimpArgs false

set_option maxRecDepth 100000 in
set_option maxHeartbeats 8000000 in
attribute [local go_sem ↓] loadSt_V_hide loadSt_W_hide loadSt_T_hide in
theorem votingLends_e (who t n : Int) (w : World) (c1 : ¬ who < 0) (c2 : ¬ who > 3) (c5 : ¬ t < 0) (c6 : ¬ t ≥ 4) (c7 : ¬ n < 0) (c8 : ¬ n > 100) (wf0 : (Lit.int .i64 who).wf = true) (wf2 : (Lit.int .i64 t).wf = true) : Calls Tryz.prog 7 #[.int .i64 who, .int .i64 who, .int .i64 t, .int .i64 n] w fun e w' => e = .returned (.bool true) ∧ Below w.heap.size w w' := by
  obtain ⟨w1, hw1⟩ : ∃ w1, w1 = w.alloc (.cells #[.int .i64 100, .int .i64 100, .int .i64 100, .int .i64 100] 3) := ⟨_, rfl⟩
  have hrd : RdI w1 (.slice (some ⟨w.heap.size, 0, none⟩) 4 4) [100, 100, 100, 100] := by rw [hw1]; exact RdI.lit w 3 [100, 100, 100, 100] 4 rfl
  have hb1 : Below w.heap.size w w1 := by rw [hw1]; exact (Below.refl _ w).alloc (Nat.le_refl _) _
  have hbg := begin1 _ _ w1 hrd (by simp) (by intro x hx; simp at hx; omega)
  have HB := Lib.hid hbg
  have H1 := Lib.hid hb1
  have HW := Lib.hid hw1
  have HE := Lib.hid (delE_1 (S := leS2 t) (A := leA) (t := t) (l := 3) (n := n) (show who = who from rfl))
  have HS := Lib.hid (delS_no (S := leS2 t) (A := leA) (a := who) (t := t) (who := who) (l := 3) (n := n) (by rw [HE.out]; decide))
  have HWF := Lib.hid (And.intro wf0 wf2)
  have WT : IntKind.i64.wrap (t + 1) = t + 1 := IntWalk.i64_in _ (by omega)
  clear wf0 wf2
  clear hrd hb1 hbg hw1
  go_enter Tryz.func7, Tryz.ntmps7
  go_upto_region 4 with (first
    | (go_at_call 29; rw [← HW.out]; refine HB.out.mono ?_; rintro e w2 ⟨p, g, vb, rfl, hp⟩; have Q2 := Lib.hid (Pv1.b hp); clear hp)
    | fail)
  obtain ⟨C1_0, C1_1, -⟩ := Q2.out.cells
  go_upto_region 7 with (first
    | (go_at_call 17; refine (Q2.out.vOpen 0 t).mono ?_; rintro e w3 ⟨rfl, hp⟩; have Q3 := Lib.hid (show Pvb p g vb w1.heap.size (leS1 t) leA [] _ w1 w3 from hp); clear hp)
    | fail)
  obtain ⟨C2_0, C2_1, -⟩ := Q3.out.cells
  go_upto_region 8 with (first
    | (go_at_call 17; refine (Q3.out.vOpen 1 ((t + 1) % 4)).mono ?_; rintro e w4 ⟨rfl, hp⟩; have Q4 := Lib.hid (show Pvb p g vb w1.heap.size (leS2 t) leA [] _ w1 w4 from hp); clear hp)
    | fail)
  go_upto_region 9 with (first
    | (refine wpl_allocS (s := balS) rfl rfl rfl ?_)
    | (refine wpl_storeS (s := balS) (t := leX n) (b := w4.heap.size) _ _ rfl rfl rfl rfl rfl (World.alloc_heap_new w4 _) (zeroS balS) ?_; rw [newS])
    | fail)
  obtain ⟨w5, hw5⟩ : ∃ w5, w5 = w4.alloc (balS.obj (leX n)) := ⟨_, rfl⟩
  have Q5 := Lib.hid (show Pvb p g vb w1.heap.size _ _ _ _ w1 w5 from hw5 ▸ Q4.out.bal (leX n))
  rw [← hw5]
  clear hw5
  obtain ⟨C3_0, C3_1, -⟩ := Q5.out.dcells
  go_still_tail 12, (by kernel_rfl)
  change wpList _ _ _ _ _ w5.drew
  go_upto_region 10 with (first
    | (go_at_call 21; refine (Q5.out.drew.vDelegate (a := who) (t := t) (who := who) HWF.out.1 HWF.out.2 3 n).mono ?_; rw [HE.out]; rintro e w6 ⟨rfl, hp⟩; have Q6 := Lib.hid hp; clear hp)
    | fail)
  obtain ⟨cF0, cF1, -⟩ := Q6.out.cells
  go_wp2_with (first
    | (go_at_call 26; refine (law11_known _).mono ?_; rintro e w7 ⟨rfl, hp⟩; have Q7 := Lib.hid (Q6.out.below hp); clear hp)
    | fail)
  exact bodyPost_ret (v := .bool true) (by simp [results, Tryz.results7, go_sem]) rfl ⟨rfl, H1.out.trans (Q7.out.bl.mono H1.out.size)⟩
set_option maxRecDepth 100000 in
set_option maxHeartbeats 8000000 in
attribute [local go_sem ↓] loadSt_V_hide loadSt_W_hide loadSt_T_hide in
theorem votingLends_n (who b t n : Int) (w : World) (c1 : ¬ who < 0) (c2 : ¬ who > 3) (c3 : ¬ b < 0) (c4 : ¬ b > 3) (c5 : ¬ t < 0) (c6 : ¬ t ≥ 4) (c7 : ¬ n < 0) (c8 : ¬ n > 100) (wf0 : (Lit.int .i64 who).wf = true) (wf2 : (Lit.int .i64 t).wf = true) (he : ¬ who = b) : Calls Tryz.prog 7 #[.int .i64 who, .int .i64 b, .int .i64 t, .int .i64 n] w fun e w' => e = .returned (.bool true) ∧ Below w.heap.size w w' := by
  obtain ⟨w1, hw1⟩ : ∃ w1, w1 = w.alloc (.cells #[.int .i64 100, .int .i64 100, .int .i64 100, .int .i64 100] 3) := ⟨_, rfl⟩
  have hrd : RdI w1 (.slice (some ⟨w.heap.size, 0, none⟩) 4 4) [100, 100, 100, 100] := by rw [hw1]; exact RdI.lit w 3 [100, 100, 100, 100] 4 rfl
  have hb1 : Below w.heap.size w w1 := by rw [hw1]; exact (Below.refl _ w).alloc (Nat.le_refl _) _
  have hbg := begin1 _ _ w1 hrd (by simp) (by intro x hx; simp at hx; omega)
  have HB := Lib.hid hbg
  have H1 := Lib.hid hb1
  have HW := Lib.hid hw1
  have HE := Lib.hid (le_ok (who := who) (b := b) (t := t) (n := n) (by omega) (by omega) (by omega) (by omega) (fun e => he e.symm))
  have HWF := Lib.hid (And.intro wf0 wf2)
  have HN5 := Lib.hid (And.intro (voteS_no (S := leS3 who b t n) (A := leA) (a := who) (r := 0) (x := leX n) (by rw [HE.out.2.1]; decide)) (And.intro (voteM_no (S := leS3 who b t n) (A := leA) (M := delM (leS2 t) leA [] who t b 3 n) (a := who) (r := 0) (x := leX n) (by rw [HE.out.2.1]; decide)) (delS_no (S := leS4 who b t n) (A := leA) (a := who) (t := t) (who := b) (l := 3) (n := n) (by rw [HE.out.2.2.2.1]; decide))))
  have WT : IntKind.i64.wrap (t + 1) = t + 1 := IntWalk.i64_in _ (by omega)
  clear wf0 wf2
  clear hrd hb1 hbg hw1
  go_enter Tryz.func7, Tryz.ntmps7
  go_upto_region 4 with (first
    | (go_at_call 29; rw [← HW.out]; refine HB.out.mono ?_; rintro e w2 ⟨p, g, vb, rfl, hp⟩; have Q2 := Lib.hid (Pv1.b hp); clear hp)
    | fail)
  obtain ⟨C1_0, C1_1, -⟩ := Q2.out.cells
  go_upto_region 7 with (first
    | (go_at_call 17; refine (Q2.out.vOpen 0 t).mono ?_; rintro e w3 ⟨rfl, hp⟩; have Q3 := Lib.hid (show Pvb p g vb w1.heap.size (leS1 t) leA [] _ w1 w3 from hp); clear hp)
    | fail)
  obtain ⟨C2_0, C2_1, -⟩ := Q3.out.cells
  go_upto_region 8 with (first
    | (go_at_call 17; refine (Q3.out.vOpen 1 ((t + 1) % 4)).mono ?_; rintro e w4 ⟨rfl, hp⟩; have Q4 := Lib.hid (show Pvb p g vb w1.heap.size (leS2 t) leA [] _ w1 w4 from hp); clear hp)
    | fail)
  go_upto_region 9 with (first
    | (refine wpl_allocS (s := balS) rfl rfl rfl ?_)
    | (refine wpl_storeS (s := balS) (t := leX n) (b := w4.heap.size) _ _ rfl rfl rfl rfl rfl (World.alloc_heap_new w4 _) (zeroS balS) ?_; rw [newS])
    | fail)
  obtain ⟨w5, hw5⟩ : ∃ w5, w5 = w4.alloc (balS.obj (leX n)) := ⟨_, rfl⟩
  have Q5 := Lib.hid (show Pvb p g vb w1.heap.size _ _ _ _ w1 w5 from hw5 ▸ Q4.out.bal (leX n))
  rw [← hw5]
  clear hw5
  obtain ⟨C3_0, C3_1, -⟩ := Q5.out.dcells
  go_still_tail 12, (by kernel_rfl)
  change wpList _ _ _ _ _ w5.drew
  go_upto_region 12 with (first
    | (go_at_call 21; refine (Q5.out.drew.vDelegate (a := who) (t := t) (who := b) HWF.out.1 HWF.out.2 3 n).mono ?_; rw [HE.out.1]; rintro e w6 ⟨rfl, hp⟩; have Q6 := Lib.hid (show Pvb p g vb w1.heap.size (leS3 who b t n) leA (delM (leS2 t) leA [] who t b 3 n) _ w1 w6 from hp); clear hp)
    | fail)
  have hlB1 := Q6.out.drew.loadB (b := w4.heap.size) (t := leX n) (by simp)
  obtain ⟨C4_0, C4_1, -⟩ := Q6.out.dcells
  go_still_tail 10, (by kernel_rfl)
  change wpList _ _ _ _ _ w6.drew
  go_upto_region 13 with (first
    | (go_at_call 19; refine (Q6.out.drew.vVote (a := who) (r := 0) HWF.out.1 (by decide) (leX n)).mono ?_; rw [HE.out.2.1]; rw [HN5.out.1]; rintro e w7 ⟨rfl, hp⟩; have Q7 := Lib.hid (show Pvb p g vb w1.heap.size (leS3 who b t n) leA _ _ w1 w7 from hp); clear hp)
    | fail)
  have hlB2 := Q7.out.drew.loadB (b := w4.heap.size) (t := leX n) (by simp)
  obtain ⟨C5_0, C5_1, -⟩ := Q7.out.dcells
  go_still_tail 10, (by kernel_rfl)
  change wpList _ _ _ _ _ w7.drew
  go_upto_region 14 with (first
    | (go_at_call 19; refine (Q7.out.drew.vVote (a := who) (r := 1) HWF.out.1 (by decide) (leX n)).mono ?_; rw [HE.out.2.2.1]; rintro e w8 ⟨rfl, hp⟩; have Q8 := Lib.hid (show Pvb p g vb w1.heap.size (leS4 who b t n) leA _ _ w1 w8 from hp); clear hp)
    | fail)
  obtain ⟨C6_0, C6_1, -⟩ := Q8.out.dcells
  go_still_tail 12, (by kernel_rfl)
  change wpList _ _ _ _ _ w8.drew
  go_upto_region 15 with (first
    | (go_at_call 21; refine (Q8.out.drew.vDelegate (a := who) (t := t) (who := b) HWF.out.1 HWF.out.2 3 n).mono ?_; rw [HE.out.2.2.2.1]; rw [HN5.out.2.2]; rintro e w9 ⟨rfl, hp⟩; have Q9 := Lib.hid (show Pvb p g vb w1.heap.size (leS4 who b t n) leA _ _ w1 w9 from hp); clear hp)
    | fail)
  obtain ⟨C7_0, C7_1, -⟩ := Q9.out.cells
  go_upto_region 16 with (first
    | (go_at_call 22; refine (Q9.out.vUndelegate (a := who) (t := t) HWF.out.1 HWF.out.2 5).mono ?_; rw [HE.out.2.2.2.2.1]; rintro e w10 ⟨rfl, hp⟩; have Q10 := Lib.hid (show Pvb p g vb w1.heap.size (leS5 who b t n) leA _ _ w1 w10 from hp); clear hp)
    | fail)
  have hlB3 := Q10.out.drew.loadB (b := w4.heap.size) (t := leX n) (by simp)
  obtain ⟨C8_0, C8_1, -⟩ := Q10.out.dcells
  go_still_tail 10, (by kernel_rfl)
  change wpList _ _ _ _ _ w10.drew
  go_upto_region 17 with (first
    | (go_at_call 19; refine (Q10.out.drew.vVote (a := who) (r := 0) HWF.out.1 (by decide) (leX n)).mono ?_; rw [HE.out.2.2.2.2.2.1]; rintro e w11 ⟨rfl, hp⟩; have Q11 := Lib.hid (show Pvb p g vb w1.heap.size (leS6 who b t n) leA _ _ w1 w11 from hp); clear hp)
    | fail)
  obtain ⟨C9_0, C9_1, -⟩ := Q11.out.dcells
  go_still_tail 12, (by kernel_rfl)
  change wpList _ _ _ _ _ w11.drew
  go_upto_region 18 with (first
    | (go_at_call 21; refine (Q11.out.drew.vDelegate (a := who) (t := t) (who := b) HWF.out.1 HWF.out.2 3 n).mono ?_; rw [HE.out.2.2.2.2.2.2]; rintro e w12 ⟨rfl, hp⟩; have Q12 := Lib.hid hp; clear hp)
    | fail)
  obtain ⟨cF0, cF1, -⟩ := Q12.out.cells
  go_wp2_with (first
    | (go_at_call 26; refine (law11_known _).mono ?_; rintro e w13 ⟨rfl, hp⟩; have Q13 := Lib.hid (Q12.out.below hp); clear hp)
    | fail)
  exact bodyPost_ret (v := .bool true) (by simp [results, Tryz.results7, go_sem]) rfl ⟨rfl, H1.out.trans (Q13.out.bl.mono H1.out.size)⟩
set_option maxRecDepth 100000 in
set_option maxHeartbeats 8000000 in
theorem votingLends_walk (who b t n : Int) (w : World) (wf0 : (Lit.int .i64 who).wf = true) (wf1 : (Lit.int .i64 b).wf = true) (wf2 : (Lit.int .i64 t).wf = true) (wf3 : (Lit.int .i64 n).wf = true) : Calls Tryz.prog 7 #[.int .i64 who, .int .i64 b, .int .i64 t, .int .i64 n] w fun e w' => e = .returned (.bool true) ∧ Below w.heap.size w w' := by
  by_cases hin : (¬ who < 0) ∧ (¬ who > 3) ∧ (¬ b < 0) ∧ (¬ b > 3) ∧ (¬ t < 0) ∧ (¬ t ≥ 4) ∧ (¬ n < 0) ∧ (¬ n > 100)
  · obtain ⟨c1, c2, c3, c4, c5, c6, c7, c8⟩ := hin
    by_cases he : who = b
    · subst he
      exact votingLends_e who t n w c1 c2 c5 c6 c7 c8 wf0 wf2
    · exact votingLends_n who b t n w c1 c2 c3 c4 c5 c6 c7 c8 wf0 wf2 he
  · have hout : (who < 0) ∨ (¬ who < 0 ∧ who > 3) ∨ (¬ who < 0 ∧ ¬ who > 3 ∧ b < 0) ∨ (¬ who < 0 ∧ ¬ who > 3 ∧ ¬ b < 0 ∧ b > 3) ∨ (¬ who < 0 ∧ ¬ who > 3 ∧ ¬ b < 0 ∧ ¬ b > 3 ∧ t < 0) ∨ (¬ who < 0 ∧ ¬ who > 3 ∧ ¬ b < 0 ∧ ¬ b > 3 ∧ ¬ t < 0 ∧ t ≥ 4) ∨ (¬ who < 0 ∧ ¬ who > 3 ∧ ¬ b < 0 ∧ ¬ b > 3 ∧ ¬ t < 0 ∧ ¬ t ≥ 4 ∧ n < 0) ∨ (¬ who < 0 ∧ ¬ who > 3 ∧ ¬ b < 0 ∧ ¬ b > 3 ∧ ¬ t < 0 ∧ ¬ t ≥ 4 ∧ ¬ n < 0 ∧ n > 100) := by omega
    clear wf0 wf1 wf2 wf3
    rcases hout with h | ⟨h0, h⟩ | ⟨h0, h1, h⟩ | ⟨h0, h1, h2, h⟩ | ⟨h0, h1, h2, h3, h⟩ | ⟨h0, h1, h2, h3, h4, h⟩ | ⟨h0, h1, h2, h3, h4, h5, h⟩ | ⟨h0, h1, h2, h3, h4, h5, h6, h⟩
    all_goals
      go_enter Tryz.func7, Tryz.ntmps7
      go_wp2
      exact bodyPost_ret (v := .bool true) (by simp [results, Tryz.results7, go_sem]) rfl ⟨rfl, Below.refl _ w⟩
end Go.Proofs.YtlnjcfgihklppaaGreat

