/-
  The law VotingSplits, walked.
-/
import Derived.Test.YtlnjcfgihklppaaGreatVsp
namespace Go.Proofs.YtlnjcfgihklppaaGreat
open Go.RowKit Go.Maps Go.Shelf
set_option linter.unusedVariables false
set_option linter.unusedSimpArgs false

set_option maxRecDepth 100000 in
set_option maxHeartbeats 8000000 in
attribute [local go_sem ↓] loadSt_V_hide loadSt_W_hide loadSt_T_hide in
theorem votingSplits_walk (a : Int) (n : Int) (s : Int) (m : Int) (l : Int) (w : World) (wf0 : (Lit.int .i64 a).wf = true) (wf1 : (Lit.int .i64 n).wf = true) (wf2 : (Lit.int .i64 s).wf = true) (wf3 : (Lit.int .i64 m).wf = true) (wf4 : (Lit.int .i64 l).wf = true) : Calls Tryz.prog 9 #[.int .i64 a, .int .i64 n, .int .i64 s, .int .i64 m, .int .i64 l] w fun e w' => e = .returned (.bool true) ∧ Below w.heap.size w w' := by
  by_cases hin : (¬ a < 0) ∧ (¬ a > 300) ∧ (¬ n < 0) ∧ (¬ n > 300) ∧ (¬ s < 0) ∧ (¬ s > 300) ∧ (¬ m < 0) ∧ (¬ m > 1000) ∧ (¬ l < 0) ∧ (¬ l > 6)
  · obtain ⟨c1, c2, c3, c4, c5, c6, c7, c8, c9, c10⟩ := hin
    obtain ⟨w1, hw1⟩ : ∃ w1, w1 = w.alloc (.cells #[.int .i64 0, .int .i64 1000, .int .i64 1000] 3) := ⟨_, rfl⟩
    have hrd : RdI w1 (.slice (some ⟨w.heap.size, 0, none⟩) 3 3) [0, 1000, 1000] := by rw [hw1]; exact RdI.lit w 3 [0, 1000, 1000] 3 rfl
    have hb1 : Below w.heap.size w w1 := by rw [hw1]; exact (Below.refl _ w).alloc (Nat.le_refl _) _
    have hbg := begin1 _ _ w1 hrd (by simp) (by intro x hx; simp at hx; omega)
    have HB := Lib.hid hbg
    have H1 := Lib.hid hb1
    have HW := Lib.hid hw1
    have HE := Lib.hid (sp_ok (a := a) (n := n) (s := s) (m := m) (l := l) (by omega) (by omega) (by omega) (by omega) (by omega) (by omega) (by omega) (by omega) (by omega) (by omega))
    have HV := Lib.hid (ref_Votes m l · (by omega) (by omega) (by omega) (by omega))
    have HVb := votesI_bd (n := m) (l := l) (b := 1000) (by omega) (by omega) (by omega) (by omega) (by omega)
    obtain ⟨v, hv⟩ : ∃ v, v = votesI m l := ⟨_, rfl⟩
    rw [← hv] at HE HV HVb
    have TA : a.tdiv 10 = a / 10 := Int.tdiv_eq_ediv_of_nonneg (by omega)
    have TN : n.tdiv 10 = n / 10 := Int.tdiv_eq_ediv_of_nonneg (by omega)
    clear hv
    clear hrd hb1 hbg hw1 wf0 wf1 wf2 wf3 wf4
    go_enter Tryz.func9, Tryz.ntmps9
    go_upto_region 4 with (first
      | (go_at_call 29; rw [← HW.out]; refine HB.out.mono ?_; rintro e w2 ⟨p, g, vb, rfl, hp⟩; have Q2 := Lib.hid (Pv1.b hp); clear hp)
      | fail)
    obtain ⟨C1_0, C1_1, -⟩ := Q2.out.cells
    go_upto_region 7 with (first
      | (go_at_call 17; refine (Q2.out.vOpen 0 0).mono ?_; rintro e w3 ⟨rfl, hp⟩; have Q3 := Lib.hid (show Pvb p g vb w1.heap.size spS1 spA [] _ w1 w3 from hp); clear hp)
      | fail)
    obtain ⟨C2_0, C2_1, -⟩ := Q3.out.dcells
    go_still_tail 12, (by kernel_rfl)
    change wpList _ _ _ _ _ w3.drew
    go_upto_region 8 with (first
      | (go_at_call 19; refine (Q3.out.drew.vVote (a := 1) (r := 0) (by decide) (by decide) (spX a n s)).mono ?_; rw [HE.out.1]; rintro e w4 ⟨rfl, hp⟩; have Q4 := Lib.hid (show Pvb p g vb w1.heap.size (spS2 a n s) spA _ _ w1 w4 from hp); clear hp)
      | fail)
    obtain ⟨C3_0, C3_1, -⟩ := Q4.out.dcells
    go_still_tail 10, (by kernel_rfl)
    change wpList _ _ _ _ _ w4.drew
    go_upto_region 9 with (first
      | (go_at_call 21; refine (Q4.out.drew.vDelegate (a := 2) (t := 0) (who := 1) (by decide) (by decide) l m).mono ?_; rw [HE.out.2.1]; rintro e w5 ⟨rfl, hp⟩; have Q5 := Lib.hid (show Pvb p g vb w1.heap.size (spS3 a n s m l) spA _ _ w1 w5 from hp); clear hp)
      | fail)
    obtain ⟨C4_0, C4_1, -⟩ := Q5.out.cells
    go_upto_region 10 with (first
      | (go_at_call 24; refine (Q5.out.vTally 0).mono ?_; rw [HE.out.2.2.2.1]; rintro e w6 ⟨rfl, hp⟩; have Q6 := Lib.hid hp; clear hp)
      | (refine wpl_allocS (s := tlyS) rfl rfl rfl ?_)
      | (refine wpl_storeS (s := tlyS) (t := ⟨a / 10, n / 10, a + s⟩) (b := w6.heap.size) _ _ rfl rfl rfl rfl rfl (World.alloc_heap_new w6 _) (zeroS tlyS) ?_; rw [newS])
      | fail)
    obtain ⟨w7, hw7⟩ : ∃ w7, w7 = w6.alloc (tlyS.obj ⟨a / 10, n / 10, a + s⟩) := ⟨_, rfl⟩
    have Q7 := Lib.hid (show Pvb p g vb w1.heap.size _ _ _ _ w1 w7 from hw7 ▸ Q6.out.tly ⟨a / 10, n / 10, a + s⟩)
    rw [← hw7]
    clear hw7
    obtain ⟨C5_0, C5_1, -⟩ := Q7.out.dcells
    go_still_tail 10, (by kernel_rfl)
    change wpList _ _ _ _ _ w7.drew
    go_upto_region 11 with (first
      | (go_at_call 19; refine (Q7.out.drew.vVote (a := 1) (r := 0) (by decide) (by decide) (spY a)).mono ?_; rw [HE.out.2.2.1]; rintro e w8 ⟨rfl, hp⟩; have Q8 := Lib.hid (show Pvb p g vb w1.heap.size (spS4 a n s m l) spA _ _ w1 w8 from hp); clear hp)
      | fail)
    obtain ⟨cF0, cF1, -⟩ := Q8.out.cells
    have hl := Q8.out.loadT (b := w6.heap.size) (t := ⟨a / 10, n / 10, a + s⟩) (by simp)
    go_wp2_with (first
      | (go_at_call 24; with_reducible refine (Q8.out.vTally 0).mono ?_; rw [HE.out.2.2.2.2]; rintro e w9 ⟨rfl, hp⟩; have Q9 := Lib.hid hp; obtain ⟨cF9a, cF9b, -⟩ := Q9.out.cells; clear hp)
      | (go_at_call 31; refine (HV.out _).mono ?_; rintro e w' ⟨rfl, rfl⟩)
      | (go_at_call 26; refine (law11_known _).mono ?_; rintro e w10 ⟨rfl, hp⟩; have Q10 := Lib.hid (Q9.out.below hp); clear hp)
      | fail)
    exact bodyPost_ret (v := .bool true) (by simp [results, Tryz.results9, go_sem]) rfl ⟨rfl, H1.out.trans (Q10.out.bl.mono H1.out.size)⟩
  · have hout : (a < 0) ∨ (¬ a < 0 ∧ a > 300) ∨ (¬ a < 0 ∧ ¬ a > 300 ∧ n < 0) ∨ (¬ a < 0 ∧ ¬ a > 300 ∧ ¬ n < 0 ∧ n > 300) ∨ (¬ a < 0 ∧ ¬ a > 300 ∧ ¬ n < 0 ∧ ¬ n > 300 ∧ s < 0) ∨ (¬ a < 0 ∧ ¬ a > 300 ∧ ¬ n < 0 ∧ ¬ n > 300 ∧ ¬ s < 0 ∧ s > 300) ∨ (¬ a < 0 ∧ ¬ a > 300 ∧ ¬ n < 0 ∧ ¬ n > 300 ∧ ¬ s < 0 ∧ ¬ s > 300 ∧ m < 0) ∨ (¬ a < 0 ∧ ¬ a > 300 ∧ ¬ n < 0 ∧ ¬ n > 300 ∧ ¬ s < 0 ∧ ¬ s > 300 ∧ ¬ m < 0 ∧ m > 1000) ∨ (¬ a < 0 ∧ ¬ a > 300 ∧ ¬ n < 0 ∧ ¬ n > 300 ∧ ¬ s < 0 ∧ ¬ s > 300 ∧ ¬ m < 0 ∧ ¬ m > 1000 ∧ l < 0) ∨ (¬ a < 0 ∧ ¬ a > 300 ∧ ¬ n < 0 ∧ ¬ n > 300 ∧ ¬ s < 0 ∧ ¬ s > 300 ∧ ¬ m < 0 ∧ ¬ m > 1000 ∧ ¬ l < 0 ∧ l > 6) := by omega
    rcases hout with h | ⟨h0, h⟩ | ⟨h0, h1, h⟩ | ⟨h0, h1, h2, h⟩ | ⟨h0, h1, h2, h3, h⟩ | ⟨h0, h1, h2, h3, h4, h⟩ | ⟨h0, h1, h2, h3, h4, h5, h⟩ | ⟨h0, h1, h2, h3, h4, h5, h6, h⟩ | ⟨h0, h1, h2, h3, h4, h5, h6, h7, h⟩ | ⟨h0, h1, h2, h3, h4, h5, h6, h7, h8, h⟩
    all_goals
      go_enter Tryz.func9, Tryz.ntmps9
      go_wp2
      exact bodyPost_ret (v := .bool true) (by simp [results, Tryz.results9, go_sem]) rfl ⟨rfl, Below.refl _ w⟩
end Go.Proofs.YtlnjcfgihklppaaGreat
