/-
  The law ReferFull, walked. Printed by mk12.py.
-/
import Derived.Test.YtpkamfbjgdmmoaaGreatFu1
import Derived.Test.YtpkamfbjgdmmoaaGreatMgn
import Derived.BigRegion
import Derived.RegionTactic
import Derived.Deep.RegionHeld3
namespace Go.Proofs.YtpkamfbjgdmmoaaGreat
open Go.RowKit Go.Maps Go.Shelf
set_option linter.unusedVariables false
set_option linter.unusedSimpArgs false

set_option maxRecDepth 100000 in
set_option maxHeartbeats 8000000 in
theorem full_walk (n : Nat) (w : World) (hn : n ≤ 20) : Calls Tryz.prog 7 #[.int .i64 n] w fun e w' => e = .returned (.bool true) ∧ Below w.heap.size w w' := by
  have HPL := Lib.hid (law12_plain w)
  have HB := Lib.hid (begin12 (t := trkP) k12_newB)
  have g1 : ¬ (n : Int) < 0 := by omega
  have g2 : ¬ (n : Int) > 20 := by omega
  go_enter Tryz.func7, Tryz.ntmps7
  have mixed : Tryz.prog.follows .mixedOrders = true := by kernel_rfl
  go_upto_region 6 with (first
    | (go_at_call 12; refine HPL.out.mono ?_; rintro e w1 ⟨rfl, hb⟩; have H1 := Lib.hid hb; clear hb)
    | (go_at_call 13; refine (HB.out w1).mono ?_; rintro e w2 ⟨p, g, vb, r, rfl, hp⟩; have Q2 := Lib.hid hp; clear hp)
    | fail)
  obtain ⟨WB, hWB⟩ : ∃ WB, WB = w1.alloc (.cells (trkR.f trkP).toArray 26) := ⟨_, rfl⟩
  have H4 := Lib.hid (show Below w.heap.size w WB by rw [hWB]; exact H1.out.alloc H1.out.size _)
  rw [← hWB] at Q2
  clear hWB
  clear g1 g2
  go_wp2_with fail
  go_loopw [4] (fun i wr => ∃ k : Nat, k ≤ n ∧ i = .int .i64 k ∧ Pq p r g vb kT (fuS k) WB wr) (fun i _ => n - (intOf i).toNat)
  case atStart => exact ⟨0, by omega, rfl, Q2.out⟩
  case round =>
    obtain ⟨k, hk, rfl, hp⟩ := hrel
    have Q5 := Lib.hid hp
    clear hp
    by_cases hlt : k < n
    · have c1 : (k : Int) < n := by omega
      have hf := fu_sub k (by omega)
      have WK : IntKind.i64.wrap ((k : Int) + 1) = ((k + 1 : Nat) : Int) := by rw [IntWalk.i64_in _ (by omega)]; omega
      by_cases h12 : k < 12
      · have c2 : ¬ (k : Int) ≥ 12 := by omega
        rw [if_pos h12, if_pos h12] at hf
        have HF := Lib.hid hf
        clear hf
        go_upto_region 9 with fail
        have D5 := Lib.hid Q5.out.dcells
        go_region_held3 (fun W => W.cell? ⟨p, 0, none⟩ = some (.pointer (some ⟨g, 0, none⟩)) ∧ W.cell? ⟨p, 1, none⟩ = some (.pointer (some ⟨vb, 0, none⟩)) ∧ W.cell? ⟨p, 2, none⟩ = some (.pointer (some ⟨r, 0, none⟩))) (first | exact D5.out | exact C6.out) (first
          | (go_at_call 14; refine (Q5.out.drew.Submit HF.out.1 (by decide) 0 hsh0 0 (k : Int)).mono ?_; rw [HF.out.2.1]; rw [HF.out.2.2]; rintro e w6 ⟨rfl, hp⟩; have Q6 := Lib.hid (show Pq p r g vb kT (fuS (k + 1)) _ _ from hp); have C6 := Lib.hid hp.cells; clear hp)
          | fail)
        go_wp2_with fail
        go_roundw
        case rel => exact ⟨k + 1, by omega, by first | rfl | exact congrArg _ WK | go_num, Q6.out⟩
        case measure => simp [intOf]; omega
      · have c2 : (k : Int) ≥ 12 := by omega
        rw [if_neg h12, if_neg h12] at hf
        have HF := Lib.hid hf
        clear hf
        go_upto_region 9 with fail
        have D5 := Lib.hid Q5.out.dcells
        go_region_held3 (fun W => W.cell? ⟨p, 0, none⟩ = some (.pointer (some ⟨g, 0, none⟩)) ∧ W.cell? ⟨p, 1, none⟩ = some (.pointer (some ⟨vb, 0, none⟩)) ∧ W.cell? ⟨p, 2, none⟩ = some (.pointer (some ⟨r, 0, none⟩))) (first | exact D5.out | exact C6.out) (first
          | (go_at_call 14; refine (Q5.out.drew.Submit HF.out.1 (by decide) 0 hsh0 0 (k : Int)).mono ?_; rw [HF.out.2.1]; rw [HF.out.2.2]; rintro e w6 ⟨rfl, hp⟩; have Q6 := Lib.hid (show Pq p r g vb kT (fuS (k + 1)) _ _ from hp); have C6 := Lib.hid hp.cells; clear hp)
          | fail)
        go_wp2_with fail
        go_roundw
        case rel => exact ⟨k + 1, by omega, by first | rfl | exact congrArg _ WK | go_num, Q6.out⟩
        case measure => simp [intOf]; omega
    · obtain rfl : k = n := by omega
      have c1 : ¬ (k : Int) < k := by omega
      by_cases h12 : k < 12
      · have c2 : ¬ (k : Int) ≥ 12 := by omega
        have HF2 := Lib.hid (fu_end k h12)
        obtain ⟨f0, f1, f2⟩ := Q5.out.cells
        go_upto_region 18 with (first
          | (go_at_call 27; refine (Q5.out.Transfer (by decide) 3 995).mono ?_; rintro e w6 ⟨rfl, hp⟩; have Q6 := Lib.hid (show Pq p r g vb kT (fuT k) WB _ from hp); clear hp)
          | fail)
        clear f0 f1 f2
        go_upto_region 18 with fail
        have D6 := Lib.hid Q6.out.dcells
        go_region_held3 (fun W => W.cell? ⟨p, 0, none⟩ = some (.pointer (some ⟨g, 0, none⟩)) ∧ W.cell? ⟨p, 1, none⟩ = some (.pointer (some ⟨vb, 0, none⟩)) ∧ W.cell? ⟨p, 2, none⟩ = some (.pointer (some ⟨r, 0, none⟩))) (first | exact D6.out | exact C7.out) (first
          | (go_at_call 14; refine (Q6.out.drew.Submit HF2.out.1 (by decide) 0 hsh0 0 0).mono ?_; rw [HF2.out.2.1]; rw [HF2.out.2.2.1]; rintro e w7 ⟨rfl, hp⟩; have Q7 := Lib.hid (show Pq p r g vb kT ((fuT k).sub kT 2 0 hsh0 0 0) _ _ from hp); have C7 := Lib.hid hp.cells; clear hp)
          | fail)
        go_upto_region 19 with fail
        obtain ⟨f0, f1, f2⟩ := Q7.out.cells
        go_upto_region 20 with (first
          | (go_at_call 18; refine (Q7.out.All HF2.out.2.2.2 (by omega)).mono ?_; rintro e w8 ⟨ao, cp, rfl, ho, hb⟩; have Q8 := Lib.hid (Q7.out.below hb); clear ho hb)
          | fail)
        go_wp2_with (first
          | (go_at_call 20; refine (law12_known _).mono ?_; rintro e wk ⟨rfl, hp⟩; have QK := Lib.hid (Q8.out.below hp); clear hp)
          | fail)
        exact bodyPost_ret (v := .bool true) (by simp [results, Tryz.results7, go_sem]) rfl ⟨rfl, H4.out.trans (QK.out.old.mono H4.out.size)⟩
      · have c2 : (k : Int) ≥ 12 := by omega
        go_wp2_with (first
          | (go_at_call 20; refine (law12_known _).mono ?_; rintro e wk ⟨rfl, hp⟩; have QK := Lib.hid (Q5.out.below hp); clear hp)
          | fail)
        exact bodyPost_ret (v := .bool true) (by simp [results, Tryz.results7, go_sem]) rfl ⟨rfl, H4.out.trans (QK.out.old.mono H4.out.size)⟩
set_option maxRecDepth 100000 in
set_option maxHeartbeats 8000000 in
theorem referFull_walk (a : Int) (w : World) (wa : (Lit.int .i64 a).wf = true) : Calls Tryz.prog 7 #[.int .i64 a] w fun e w' => e = .returned (.bool true) ∧ Below w.heap.size w w' := by
  by_cases hin : 0 ≤ a ∧ a ≤ 20
  · obtain ⟨l, rfl⟩ : ∃ l : Nat, a = l := ⟨a.toNat, by omega⟩
    exact full_walk l w (by omega)
  · have hout : (a < 0) ∨ (¬ a < 0 ∧ a > 20) := by omega
    rcases hout with h | ⟨h0, h⟩
    all_goals
      go_enter Tryz.func7, Tryz.ntmps7
      go_wp2
      exact bodyPost_ret (v := .bool true) (by simp [results, Tryz.results7, go_sem]) rfl ⟨rfl, Below.refl _ w⟩
end Go.Proofs.YtpkamfbjgdmmoaaGreat
