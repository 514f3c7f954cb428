/-
  ScriptRows: bytes as rows, and as the reference tells them.
-/
import Derived.Test.YteioacpfphigjaaGreatDoorScQ
import Derived.Test.YteioacpfphigjaaGreatDoorMgj
namespace Go.Proofs.YteioacpfphigjaaGreatDoor
open Go.RowKit Go.Maps Go.Shelf
set_option linter.unusedVariables false
set_option linter.unusedSimpArgs false

theorem rowsF_lt : ∀ (k : Nat) (l : List Nat), (∀ b ∈ l, b < 256) → ∀ q ∈ rowsF k l, ∀ b ∈ q, b < 256
  | 0, l => by simp [rowsF]
  | k + 1, l => by
    intro hb
    simp only [rowsF]
    cases h : cutL l with
    | none => simp
    | some x =>
      obtain ⟨n, s⟩ := x
      intro q hq
      rcases List.mem_cons.1 hq with rfl | hq
      · obtain ⟨a, m, e, -⟩ := cutL_some h
        intro b hm
        rw [e] at hm
        exact hb b (List.mem_of_mem_drop (List.mem_of_mem_take hm))
      · exact rowsF_lt k (l.drop s) (fun b hm => hb b (List.mem_of_mem_drop hm)) q hq
set_option maxHeartbeats 4000000 in
set_option maxRecDepth 100000 in
theorem scriptRows_walk (v : Value) (l : List Nat) (w : World) (h : RdB w v l) (hb : ∀ b ∈ l, b < 256) :
    Calls Tryz.prog 4 #[v] w fun e w' => e = .returned (.bool true) ∧ Below w.heap.size w w' := by
  have HR := Lib.hid h
  obtain ⟨ao, cap, rfl⟩ := h.lenOf
  clear h
  by_cases h3 : l.length ≤ 3000
  · have d1 : decide ((3000 : Int) < (l.length : Int)) = false := by simp; omega
    obtain ⟨R, hRR⟩ : ∃ R, R = rowsOf l := ⟨_, rfl⟩
    have hql : ∀ q ∈ R, ∀ b ∈ q, b < 256 := by rw [hRR]; exact rowsF_lt _ l hb
    have HB := Lib.hid hb
    have HL := Lib.hid h3
    have HQ := Lib.hid hql
    have hR3 : R.length ≤ 3000 := by rw [hRR]; exact Nat.le_trans (rowsOf_le l) h3
    have HRR := Lib.hid hRR
    clear hb h3 hql hRR
    go_enter Tryz.func4, Tryz.ntmps4
    go_wp2_with (first
      | (go_at_call 18; refine (law15_rows _ l _ HR.out HB.out (by have := HL.out; omega)).mono ?_; rintro e w1 ⟨v1, rfl, hr1, hb1⟩; rw [← HRR.out] at hr1; have H1 := Lib.hid (And.intro hr1 hb1); obtain ⟨ao1, cap1, rfl⟩ := hr1.lenOf; clear hr1 hb1)
      | (go_at_call 19; refine (ref15_Rows _ l _ (HR.out.below H1.out.2) HB.out (by have := HL.out; omega)).mono ?_; rintro e w2 ⟨v2, q2, rfl, hr2, hb2⟩; rw [← HRR.out] at hr2; have H2 := Lib.hid (And.intro hr2 hb2); obtain ⟨ao2, cap2, rfl⟩ := hr2.lenOf; clear hr2 hb2)
      | fail)
    have hw2 := H1.out.2.trans (H2.out.2.mono H1.out.2.size)
    have HW2 := Lib.hid hw2
    clear hw2
    go_loopw [7] (fun i wr => ∃ j : Nat, j ≤ R.length ∧ i = .int .i64 j ∧ Below w2.heap.size w2 wr) (fun i _ => R.length - (intOf i).toNat)
    case atStart => exact ⟨0, Nat.zero_le _, rfl, Below.refl _ _⟩
    case round =>
      obtain ⟨j, hj, rfl, hb⟩ := hrel
      by_cases hlt : j < R.length
      · obtain ⟨bm, om, aom, cpm, rfl, -, hcm, hbm, hcM, hrM⟩ := H1.out.1.at hlt
        obtain ⟨bl, ol, aol, cpl, rfl, -, hcl', hbl, hcL, hrL⟩ := H2.out.1.at hlt
        have hcM' := (hb.cell (p := ⟨bm, om + j, none⟩) (Nat.lt_of_lt_of_le hbm H2.out.2.size)).trans ((H2.out.2.cell (p := ⟨bm, om + j, none⟩) hbm).trans hcM)
        have hcL' := (hb.cell (p := ⟨bl, ol + j, none⟩) hbl).trans hcL
        obtain ⟨q, hq⟩ : ∃ q, q = R.getD j [] := ⟨_, rfl⟩
        have hqb : ∀ b ∈ q, b < 256 := by
          rw [hq, List.getD_eq_getElem?_getD, List.getElem?_eq_getElem hlt]; exact HQ.out _ (List.getElem_mem hlt)
        rw [← hq] at hcM' hcL' hrM hrL
        have hst1 := fun n => run_str (hrM.below (below_drewN (H2.out.2.trans (hb.mono H2.out.2.size)) n)) hqb
        have hst2 := fun n => run_str (hrL.below (below_drewN hb n)) hqb
        have hone1 : (Value.slice aom q.length cpm).oneCell' = true := rfl
        have hone2 : (Value.slice aol q.length cpl).oneCell' = true := rfl
        have heq : ((strN q).toList == (strN q).toList) = true := by simp
        have HBq := Lib.hid hb
        clear hcM hcL hq hb hrM hrL hqb
        go_wp2_with fail
        go_quiet (fail)
        all_goals (go_wp2_with fail; exact ⟨⟨j + 1, by omega, by go_num, below_drewN HBq.out _⟩, by simp [intOf]; omega⟩)
      · obtain rfl : j = R.length := by omega
        have HBq := Lib.hid hb
        clear hlt hb
        go_wp2_with (first | (go_at_call 20; refine (law15_known _).mono ?_; rintro e w9 ⟨rfl, hb9⟩; have H9 := Lib.hid hb9; clear hb9) | fail)
        have h1 := HW2.out.trans (HBq.out.mono HW2.out.size)
        exact bodyPost_ret (v := .bool true) (by simp [results, Tryz.results4, go_sem]) rfl ⟨rfl, h1.trans (H9.out.mono h1.size)⟩
  · have d1 : decide ((3000 : Int) < (l.length : Int)) = true := by simp; omega
    clear hb h3
    go_enter Tryz.func4, Tryz.ntmps4
    go_wp2_with fail
    exact bodyPost_ret (v := .bool true) (by simp [results, Tryz.results4, go_sem]) rfl ⟨rfl, Below.refl _ _⟩
end Go.Proofs.YteioacpfphigjaaGreatDoor
