/-
  The law VotingFunds, walked.
-/
import Derived.Test.YtlnjcfgihklppaaGreatVfu
namespace Go.Proofs.YtlnjcfgihklppaaGreat
open Go.RowKit Go.Maps Go.Shelf
set_option linter.unusedVariables false
set_option linter.unusedSimpArgs false

set_option maxRecDepth 100000 in
set_option maxHeartbeats 8000000 in
theorem votingFunds_walk (f n : Int) (w : World) (wf1 : (Lit.int .i64 f).wf = true) (wf2 : (Lit.int .i64 n).wf = true) : Calls Tryz.prog 12 #[.int .i64 f, .int .i64 n] w fun e w' => e = .returned (.bool true) ∧ Below w.heap.size w w' := by
  by_cases hin : (0 ≤ f ∧ f ≤ 1048576) ∧ (0 ≤ n ∧ n ≤ 2097152)
  · obtain ⟨⟨f0, f1⟩, n0, n1⟩ := hin
    have c1 : ¬ f < 0 := by omega
    have c2 : ¬ f > 1048576 := by omega
    have c3 : ¬ n < 0 := by omega
    have c4 : ¬ n > 2097152 := by omega
    obtain ⟨w1, hw1⟩ : ∃ w1, w1 = w.alloc (.cells #[.int .i64 0, .int .i64 f, .int .i64 f] 3) := ⟨_, rfl⟩
    have hrd : RdI w1 (.slice (some ⟨w.heap.size, 0, none⟩) 3 3) [0, f, f] := by rw [hw1]; exact RdI.lit w 3 [0, f, f] 3 rfl
    have hb1 : Below w.heap.size w w1 := by rw [hw1]; exact (Below.refl _ w).alloc (Nat.le_refl _) _
    have hbg := begin1 _ _ w1 hrd (by simp) (by intro x hx; simp at hx; omega)
    have HB := Lib.hid hbg
    have H1 := Lib.hid hb1
    have HW := Lib.hid hw1
    clear hrd hb1 hbg hw1
    by_cases hc : n > f
    · have HE := Lib.hid (fu_no f0 (by omega) n1)
      have HN := Lib.hid (And.intro (voteS_no (S := fuS1) (A := fuA f) (a := 1) (r := 0) (x := fuX n) (by rw [HE.out.1]; decide)) (And.intro (voteM_no (M := []) (S := fuS1) (A := fuA f) (a := 1) (r := 0) (x := fuX n) (by rw [HE.out.1]; decide)) (And.intro (delS_no (S := fuS1) (A := fuA f) (a := 2) (t := 0) (who := 1) (l := 6) (n := n) (by rw [HE.out.2]; decide)) (delM_no (M := []) (S := fuS1) (A := fuA f) (a := 2) (t := 0) (who := 1) (l := 6) (n := n) (by rw [HE.out.2]; decide)))))
      have HT := Lib.hid (show tallyOf fuS1 0 = ⟨0, 0, 0⟩ ∧ lockedOf [] 1 = 0 ∧ lockedOf [] 2 = 0 from ⟨rfl, rfl, rfl⟩)
      clear f0 f1 n0 n1 wf1 wf2
      go_enter Tryz.func12, Tryz.ntmps12
      go_upto_region 4 with (first
        | (go_at_call 29; rw [← HW.out]; refine HB.out.mono ?_; rintro e w2 ⟨p, g, vb, rfl, hp⟩; have Q2 := Lib.hid hp; clear hp)
        | fail)
      obtain ⟨c0, c1, -⟩ := Q2.out.cells
      go_upto_region 7 with (first
        | (go_at_call 17; refine (Q2.out.vOpen 0 0).mono ?_; rintro e w3 ⟨rfl, hp⟩; have Q3 := Lib.hid (show Pv1 p g vb w1.heap.size fuS1 (fuA f) [] w1 w3 from hp); clear hp)
        | fail)
      obtain ⟨d0, d1, -⟩ := Q3.out.dcells
      go_still_tail 10, (by kernel_rfl)
      change wpList _ _ _ _ _ w3.drew
      go_upto_region 8 with (first
        | (go_at_call 19; refine (Q3.out.drew.vVote (a := 1) (r := 0) (by decide) (by decide) (fuX n)).mono ?_; rw [HE.out.1, HN.out.1, HN.out.2.1]; rintro e w4 ⟨rfl, hp⟩; have Q4 := Lib.hid hp; clear hp)
        | fail)
      obtain ⟨f0, f1, -⟩ := Q4.out.dcells
      go_still_tail 9, (by kernel_rfl)
      change wpList _ _ _ _ _ w4.drew
      go_upto_region 9 with (first
        | (go_at_call 21; refine (Q4.out.drew.vDelegate (a := 2) (t := 0) (who := 1) (by decide) (by decide) 6 n).mono ?_; rw [HE.out.2, HN.out.2.2.1, HN.out.2.2.2]; rintro e w5 ⟨rfl, hp⟩; have Q5 := Lib.hid hp; clear hp)
        | fail)
      go_upto_region 10 with fail
      have Q6 := Lib.hid Q5.out.drew
      obtain ⟨g0, g1, -⟩ := Q6.out.cells
      go_region_held3 (fun W => W.cell? ⟨p, 0, none⟩ = some (.pointer (some ⟨g, 0, none⟩)) ∧ W.cell? ⟨p, 1, none⟩ = some (.pointer (some ⟨vb, 0, none⟩))) (first | exact ⟨Q6.out.cells.1, Q6.out.cells.2.1⟩ | exact ⟨Q7.out.cells.1, Q7.out.cells.2.1⟩ | exact ⟨Q8.out.cells.1, Q8.out.cells.2.1⟩ | exact ⟨Q9.out.cells.1, Q9.out.cells.2.1⟩ | exact ⟨Q10.out.cells.1, Q10.out.cells.2.1⟩) (first
        | (go_at_call 24; refine (Q6.out.vTally 0).mono ?_; rw [HT.out.1]; rintro e w7 ⟨rfl, hp⟩; have Q7 := Lib.hid hp; clear hp)
        | (go_at_call 30; with_reducible refine (Q7.out.vLocked (a := 1) (by decide)).mono ?_; rw [HT.out.2.1]; rintro e w8 ⟨rfl, hp⟩; have Q8 := Lib.hid hp; clear hp)
        | (go_at_call 30; with_reducible refine (Q8.out.vLocked (a := 2) (by decide)).mono ?_; rw [HT.out.2.2]; rintro e w9 ⟨rfl, hp⟩; have Q9 := Lib.hid hp; clear hp)
        | (go_at_call 26; refine (law11_known _).mono ?_; rintro e w10 ⟨rfl, hp⟩; have Q10 := Lib.hid (Q9.out.below hp); clear hp)
        | fail)
      all_goals
        go_wp2_with fail
        exact bodyPost_ret (v := .bool true) (by simp [results, Tryz.results12, go_sem]) rfl ⟨rfl, H1.out.trans (Q10.out.bl.mono H1.out.size)⟩
    · have HE := Lib.hid (fu_yes n0 (by omega) f1)
      clear wf1 wf2
      go_enter Tryz.func12, Tryz.ntmps12
      go_upto_region 4 with (first
        | (go_at_call 29; rw [← HW.out]; refine HB.out.mono ?_; rintro e w2 ⟨p, g, vb, rfl, hp⟩; have Q2 := Lib.hid hp; clear hp)
        | fail)
      obtain ⟨c0, c1, -⟩ := Q2.out.cells
      go_upto_region 7 with (first
        | (go_at_call 17; refine (Q2.out.vOpen 0 0).mono ?_; rintro e w3 ⟨rfl, hp⟩; have Q3 := Lib.hid (show Pv1 p g vb w1.heap.size fuS1 (fuA f) [] w1 w3 from hp); clear hp)
        | fail)
      obtain ⟨d0, d1, -⟩ := Q3.out.dcells
      go_still_tail 10, (by kernel_rfl)
      change wpList _ _ _ _ _ w3.drew
      go_upto_region 8 with (first
        | (go_at_call 19; refine (Q3.out.drew.vVote (a := 1) (r := 0) (by decide) (by decide) (fuX n)).mono ?_; rw [HE.out.1]; rintro e w4 ⟨rfl, hp⟩; have Q4 := Lib.hid (show Pv1 p g vb w1.heap.size (fuS2 f n) (fuA f) (fuM2 f n) w1 w4 from hp); clear hp)
        | fail)
      obtain ⟨f0, f1, -⟩ := Q4.out.dcells
      go_still_tail 9, (by kernel_rfl)
      change wpList _ _ _ _ _ w4.drew
      go_upto_region 9 with (first
        | (go_at_call 21; refine (Q4.out.drew.vDelegate (a := 2) (t := 0) (who := 1) (by decide) (by decide) 6 n).mono ?_; rw [HE.out.2.1]; rintro e w5 ⟨rfl, hp⟩; have Q5 := Lib.hid (show Pv1 p g vb w1.heap.size (fuS3 f n) (fuA f) (fuM3 f n) w1 w5 from hp); clear hp)
        | fail)
      go_upto_region 11 with fail
      obtain ⟨g0, g1, -⟩ := Q5.out.cells
      go_wp2_with (first
        | (go_at_call 24; refine (Q5.out.vTally 0).mono ?_; rw [HE.out.2.2.1]; rintro e w7 ⟨rfl, hp⟩; have Q7 := Lib.hid hp; obtain ⟨k0, k1, -⟩ := Q7.out.cells; clear hp)
        | (go_at_call 30; with_reducible refine (Q7.out.vLocked (a := 1) (by decide)).mono ?_; rw [HE.out.2.2.2.1]; rintro e w8 ⟨rfl, hp⟩; have Q8 := Lib.hid hp; obtain ⟨l0, l1, -⟩ := Q8.out.cells; clear hp)
        | (go_at_call 30; with_reducible refine (Q8.out.vLocked (a := 2) (by decide)).mono ?_; rw [HE.out.2.2.2.2]; rintro e w9 ⟨rfl, hp⟩; have Q9 := Lib.hid hp; clear hp)
        | (go_at_call 26; refine (law11_known _).mono ?_; rintro e w10 ⟨rfl, hp⟩; have Q10 := Lib.hid (Q9.out.below hp); clear hp)
        | fail)
      exact bodyPost_ret (v := .bool true) (by simp [results, Tryz.results12, go_sem]) rfl ⟨rfl, H1.out.trans (Q10.out.bl.mono H1.out.size)⟩
  · have hout : f < 0 ∨ (¬ f < 0 ∧ f > 1048576) ∨ (¬ f < 0 ∧ ¬ f > 1048576 ∧ n < 0) ∨ (¬ f < 0 ∧ ¬ f > 1048576 ∧ ¬ n < 0 ∧ n > 2097152) := by omega
    rcases hout with h | ⟨h1, h⟩ | ⟨h1, h2, h⟩ | ⟨h1, h2, h3, h⟩
    all_goals
      go_enter Tryz.func12, Tryz.ntmps12
      go_wp2
      exact bodyPost_ret (v := .bool true) (by simp [results, Tryz.results12, go_sem]) rfl ⟨rfl, Below.refl _ w⟩
end Go.Proofs.YtlnjcfgihklppaaGreat
