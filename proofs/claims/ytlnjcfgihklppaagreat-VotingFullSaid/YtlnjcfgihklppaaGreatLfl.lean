/-
  The law VotingFull, walked.
-/
import Derived.Test.YtlnjcfgihklppaaGreatCsv
namespace Go.Proofs.YtlnjcfgihklppaaGreat
open Go.RowKit Go.Maps Go.Shelf
set_option linter.unusedVariables false
set_option linter.unusedSimpArgs false

set_option maxRecDepth 100000 in
set_option maxHeartbeats 8000000 in
attribute [local go_sem ↓] loadSt_V_hide loadSt_W_hide loadSt_T_hide in
theorem votingFull_walk (n : Int) (q : Int) (w : World) (wf0 : (Lit.int .i64 n).wf = true) (wf1 : (Lit.int .i64 q).wf = true) : Calls Tryz.prog 8 #[.int .i64 n, .int .i64 q] w fun e w' => e = .returned (.bool true) ∧ Below w.heap.size w w' := by
  by_cases hin : (¬ n < 0) ∧ (¬ n > 12) ∧ (¬ q < 0) ∧ (¬ q ≥ 12)
  · obtain ⟨c1, c2, c3, c4⟩ := hin
    obtain ⟨w1, hw1⟩ : ∃ w1, w1 = w.alloc (.cells #[.int .i64 0, .int .i64 100] 3) := ⟨_, rfl⟩
    have hrd : RdI w1 (.slice (some ⟨w.heap.size, 0, none⟩) 2 2) [0, 100] := by rw [hw1]; exact RdI.lit w 3 [0, 100] 2 rfl
    have hb1 : Below w.heap.size w w1 := by rw [hw1]; exact (Below.refl _ w).alloc (Nat.le_refl _) _
    have hbg := begin1 _ _ w1 hrd (by simp) (by intro x hx; simp at hx; omega)
    have HB := Lib.hid hbg
    have H1 := Lib.hid hb1
    have HW := Lib.hid hw1
    obtain ⟨N0, rfl⟩ : ∃ N0 : Nat, n = N0 := ⟨n.toNat, by omega⟩
    obtain ⟨K0, rfl⟩ : ∃ K0 : Nat, q = K0 := ⟨q.toNat, by omega⟩
    have HNK := Lib.hid (show N0 < 13 ∧ K0 < 12 by omega)
    have hmin2 := vw_min2
    clear hrd hb1 hbg hw1 wf0 wf1
    go_enter Tryz.func8, Tryz.ntmps8
    go_upto_region 4 with (first
      | (go_at_call 29; rw [← HW.out]; refine HB.out.mono ?_; rintro e w2 ⟨p, g, vb, rfl, hp⟩; have Q2 := Lib.hid (Pv1.b hp); clear hp)
      | fail)
    go_upto_region 7 with (first
      | (refine wpl_allocS (s := balS) rfl rfl rfl ?_)
      | (refine wpl_storeS (s := balS) (t := flX) (b := w2.heap.size) _ _ rfl rfl rfl rfl rfl (World.alloc_heap_new w2 _) (zeroS balS) ?_; rw [newS])
      | fail)
    obtain ⟨w3, hw3⟩ : ∃ w3, w3 = w2.alloc (balS.obj flX) := ⟨_, rfl⟩
    obtain ⟨xb, hxb⟩ : ∃ xb, xb = w2.heap.size := ⟨_, rfl⟩
    have Q3 := Lib.hid (show Pvb p g vb w1.heap.size Vs.zero flA [] [(xb, balS.f flX)] w1 w3 from hw3 ▸ hxb ▸ Q2.out.bal flX)
    rw [← hw3, ← hxb]
    clear hw3 hxb c1 c2 c3 c4
    go_wp2_with fail
    go_loopw [7] (fun i wr => ∃ k : Nat, k ≤ N0 ∧ i = .int .i64 k ∧ Pvb p g vb w1.heap.size (flS k) flA (flM k) [(xb, balS.f flX)] w1 wr) (fun i _ => N0 - (intOf i).toNat)
    case atStart => exact ⟨0, by omega, rfl, Q3.out⟩
    case round =>
      obtain ⟨k, hk, rfl, hld⟩ := hrel
      have HS := Lib.hid hld
      obtain ⟨d0, d1, -⟩ := HS.out.cells
      have HKN := Lib.hid hk
      by_cases hlt : k < N0
      · clear hld hk
        have hki : (k : Int) < N0 := by omega
        have hkB : (k : Int) < 13 := by have := HNK.out.1; omega
        have hkw : (Lit.int .i64 (k : Int)).wf = true := wfS (by omega) (by have := HNK.out.1; omega)
        have HWF := Lib.hid hkw
        have HLT := Lib.hid hlt
        have hE := fl_E k (by have := HNK.out.1; omega)
        clear hlt hkw
        go_upto_region 11 with (first
          | (go_at_call 17; refine (HS.out.vOpen k 1).mono ?_; rintro e4 w4 ⟨rfl, hp⟩; have Q4 := Lib.hid hp; clear hp)
          | fail)
        obtain ⟨e0, e1, -⟩ := Q4.out.dcells
        have hlB := Q4.out.drew.loadB (b := xb) (t := flX) (by simp)
        go_still_tail 10, (by kernel_rfl)
        change wpList _ _ _ _ _ w4.drew
        by_cases h6 : k < 6
        · rw [if_pos h6] at hE
          have HE := Lib.hid hE
          have hk6 : (k : Int) < 6 := by omega
          clear hE h6
          go_wp2_with (first
            | (go_at_call 19; refine (Q4.out.drew.vVote (a := 1) (r := k) (by decide) HWF.out flX).mono ?_; rw [HE.out]; rintro e5 w5 ⟨rfl, hp⟩; have H5 := Lib.hid (show Pvb p g vb w1.heap.size (flS (k + 1)) flA (flM (k + 1)) [(xb, balS.f flX)] w1 w5 from hp); clear hp)
            | fail)
          go_roundw
          case rel => exact ⟨k + 1, by have := HLT.out; omega, by go_num, H5.out⟩
          case measure => have := HLT.out; simp [intOf]; omega
        · rw [if_neg h6] at hE
          have HE := Lib.hid hE
          have hk6 : ¬ (k : Int) < 6 := by omega
          clear hE h6
          go_wp2_with (first
            | (go_at_call 19; refine (Q4.out.drew.vVote (a := 1) (r := k) (by decide) HWF.out flX).mono ?_; rw [HE.out]; rintro e5 w5 ⟨rfl, hp⟩; have H5 := Lib.hid (show Pvb p g vb w1.heap.size (flS (k + 1)) flA (flM (k + 1)) [(xb, balS.f flX)] w1 w5 from hp); clear hp)
            | fail)
          go_roundw
          case rel => exact ⟨k + 1, by have := HLT.out; omega, by go_num, H5.out⟩
          case measure => have := HLT.out; simp [intOf]; omega
      · have hk3 : k = N0 := by omega
        subst hk3
        clear hld hk hlt
        go_upto_region 14 with fail
        have Q5 := Lib.hid HS.out.drew
        obtain ⟨e0, e1, -⟩ := Q5.out.cells
        have hlB := Q5.out.loadB (b := xb) (t := flX) (by simp)
        by_cases hag : K0 < k ∧ K0 < 6
        · have hlt : (K0 : Int) < min (k : Int) 6 := by omega
          have HE := Lib.hid (fl_again k HNK.out.1 K0 HNK.out.2 hag.1 hag.2)
          have hlen := fl_lenA k HNK.out.1 K0 HNK.out.2 hag.1 hag.2
          have HWF := Lib.hid (show (Lit.int .i64 (K0 : Int)).wf = true from wfS (by omega) (by have := HNK.out.2; omega))
          obtain ⟨S9, hS9⟩ : ∃ S9, S9 = voteS (flS k) flA 1 K0 flX := ⟨_, rfl⟩
          rw [← hS9] at hlen
          have HL := Lib.hid (And.intro hS9 hlen)
          clear hag hlen hS9
          go_region_held3 (fun W => W.cell? ⟨p, 0, none⟩ = some (.pointer (some ⟨g, 0, none⟩)) ∧ W.cell? ⟨p, 1, none⟩ = some (.pointer (some ⟨vb, 0, none⟩)) ∧ (loadSt_V (.pointer (some ⟨xb, 0, none⟩))).run Tryz.prog W = .ok (.agg #[.int .i64 flX.k, .bool flX.aye, .int .i64 flX.l, .int .i64 flX.a, .int .i64 flX.n, .int .i64 flX.s]) W) (first | exact ⟨Q5.out.cells.1, Q5.out.cells.2.1, Q5.out.loadB (b := xb) (t := flX) (by simp)⟩ | exact ⟨Q6.out.cells.1, Q6.out.cells.2.1, Q6.out.loadB (b := xb) (t := flX) (by simp)⟩) (first
            | (go_at_call 19; refine (Q5.out.vVote (a := 1) (r := K0) (by decide) HWF.out flX).mono ?_; rw [HE.out, ← HL.out.1]; rintro e6 w6 ⟨rfl, hp⟩; have Q6 := Lib.hid hp; clear hp)
            | fail)
          all_goals
            go_upto_region 16 with fail
            obtain ⟨g0, g1, -⟩ := Q6.out.cells
            obtain ⟨bl, hbl⟩ : ∃ bl, bl = ballots S9 1 1 := ⟨_, rfl⟩
            have hln : ((bl.length : Nat) : Int) = min (k : Int) 6 := by rw [hbl, HL.out.2]; omega
            have HBL := Lib.hid hbl
            have HLX := Lib.hid (show (ballots S9 1 1).length ≤ 100 by rw [HL.out.2]; omega)
            clear hbl
            go_upto_region 17 with (first
              | (go_at_call 16; refine (Q6.out.casts (a := 1) (by decide) 1 HLX.out).mono ?_; rw [← HBL.out]; rintro e7 w7 ⟨ao, cap, rfl, ho, hp⟩; have Q7 := Lib.hid hp; clear hp ho)
              | fail)
            go_wp2_with (first
              | (go_at_call 26; refine (law11_known _).mono ?_; rintro e8 w8 ⟨rfl, hp⟩; have Q8 := Lib.hid (Q7.out.below hp); clear hp)
              | fail)
            exact bodyPost_ret (v := .bool true) (by simp [results, Tryz.results8, go_sem]) rfl ⟨rfl, H1.out.trans (Q8.out.bl.mono H1.out.size)⟩
        · have hlt : ¬ (K0 : Int) < min (k : Int) 6 := by omega
          have hlen := fl_len k HNK.out.1
          have HL := Lib.hid hlen
          clear hag hlen
          go_quiet (fail)
          all_goals
            go_upto_region 16 with fail
            obtain ⟨bl, hbl⟩ : ∃ bl, bl = ballots (flS k) 1 1 := ⟨_, rfl⟩
            have hln : ((bl.length : Nat) : Int) = min (k : Int) 6 := by rw [hbl, HL.out]; omega
            have HBL := Lib.hid hbl
            have HLX := Lib.hid (show (ballots (flS k) 1 1).length ≤ 100 by rw [HL.out]; omega)
            clear hbl
            go_upto_region 17 with (first
              | (go_at_call 16; refine ((HS.out.below (below_dn (Below.refl _ wr) _)).casts (a := 1) (by decide) 1 HLX.out).mono ?_; rw [← HBL.out]; rintro e7 w7 ⟨ao, cap, rfl, ho, hp⟩; have Q7 := Lib.hid hp; clear hp ho)
              | fail)
            go_wp2_with (first
              | (go_at_call 26; refine (law11_known _).mono ?_; rintro e8 w8 ⟨rfl, hp⟩; have Q8 := Lib.hid (Q7.out.below hp); clear hp)
              | fail)
            exact bodyPost_ret (v := .bool true) (by simp [results, Tryz.results8, go_sem]) rfl ⟨rfl, H1.out.trans (Q8.out.bl.mono H1.out.size)⟩
  · have hout : (n < 0) ∨ (¬ n < 0 ∧ n > 12) ∨ (¬ n < 0 ∧ ¬ n > 12 ∧ q < 0) ∨ (¬ n < 0 ∧ ¬ n > 12 ∧ ¬ q < 0 ∧ q ≥ 12) := by omega
    rcases hout with h | ⟨h0, h⟩ | ⟨h0, h1, h⟩ | ⟨h0, h1, h2, h⟩
    all_goals
      go_enter Tryz.func8, Tryz.ntmps8
      go_wp2
      exact bodyPost_ret (v := .bool true) (by simp [results, Tryz.results8, go_sem]) rfl ⟨rfl, Below.refl _ w⟩
end Go.Proofs.YtlnjcfgihklppaaGreat
