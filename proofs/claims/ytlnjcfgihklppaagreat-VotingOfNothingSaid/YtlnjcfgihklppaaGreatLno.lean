/-
  The law VotingOfNothing, walked.
-/
import Derived.Test.YtlnjcfgihklppaaGreatVno
namespace Go.Proofs.YtlnjcfgihklppaaGreat
open Go.RowKit Go.Maps Go.Shelf
set_option linter.unusedVariables false
set_option linter.unusedSimpArgs false

set_option maxRecDepth 100000 in
set_option maxHeartbeats 8000000 in
attribute [local go_sem ↓] loadSt_V_hide in
theorem votingOfNothing_walk (kd wh rf tk stt tt lv nn xk : Int) (xy : Bool) (xl xa xn xs : Int) (w : World) : Calls Tryz.prog 3 #[.agg #[.int .i64 kd, .int .i64 wh, .int .i64 rf, .int .i64 tk, .int .i64 stt, .int .i64 tt, .int .i64 lv, .int .i64 nn, .int .i64 xk, .bool xy, .int .i64 xl, .int .i64 xa, .int .i64 xn, .int .i64 xs]] w fun e w' => e = .returned (.bool true) ∧ Below w.heap.size w w' := by
  go_enter Tryz.func3, Tryz.ntmps3
  go_upto_region 2 with fail
  obtain ⟨wb, hwb⟩ : ∃ wb, wb = w.alloc (.cells #[.int .i64 kd, .int .i64 wh, .int .i64 rf, .int .i64 tk, .int .i64 stt, .int .i64 tt, .int .i64 lv, .int .i64 nn, .int .i64 xk, .bool xy, .int .i64 xl, .int .i64 xa, .int .i64 xn, .int .i64 xs] 25) := ⟨_, rfl⟩
  obtain ⟨bx, hbx⟩ : ∃ bx, bx = w.heap.size := ⟨_, rfl⟩
  have hb0 : Below w.heap.size w wb := by rw [hwb]; exact (Below.refl _ w).alloc (Nat.le_refl _) _
  have hlt : bx < wb.heap.size := by rw [hwb, hbx]; simp
  have hr : wb.heap[bx]? = some (.cells #[.int .i64 kd, .int .i64 wh, .int .i64 rf, .int .i64 tk, .int .i64 stt, .int .i64 tt, .int .i64 lv, .int .i64 nn, .int .i64 xk, .bool xy, .int .i64 xl, .int .i64 xa, .int .i64 xn, .int .i64 xs] 25 (0, 0)) := by rw [hwb, hbx]; exact World.alloc_heap_new _ _
  rw [← hwb, ← hbx]
  have SK := Lib.hid (show ∀ W, Below wb.heap.size wb W → W.cell? ⟨bx, 1, none⟩ = some (.int .i64 wh) ∧ W.cell? ⟨bx, 2, none⟩ = some (.int .i64 rf) ∧ W.cell? ⟨bx, 3, none⟩ = some (.int .i64 tk) ∧ W.cell? ⟨bx, 4, none⟩ = some (.int .i64 stt) ∧ W.cell? ⟨bx, 5, none⟩ = some (.int .i64 tt) ∧ W.cell? ⟨bx, 6, none⟩ = some (.int .i64 lv) ∧ W.cell? ⟨bx, 7, none⟩ = some (.int .i64 nn) ∧ (loadSt_V (.pointer (some ⟨bx, 8, none⟩))).run Tryz.prog W = .ok (.agg #[.int .i64 xk, .bool xy, .int .i64 xl, .int .i64 xa, .int .i64 xn, .int .i64 xs]) W from fun W hb => by
    have hk : W.heap[bx]? = some (.cells #[.int .i64 kd, .int .i64 wh, .int .i64 rf, .int .i64 tk, .int .i64 stt, .int .i64 tt, .int .i64 lv, .int .i64 nn, .int .i64 xk, .bool xy, .int .i64 xl, .int .i64 xa, .int .i64 xn, .int .i64 xs] 25 (0, 0)) := (hb.block bx hlt).trans hr
    have hra : W.rangeAt bx 8 (balS.f ⟨xk, xy, xl, xa, xn, xs⟩) := fun j u hj => by
      have hj6 : j < 6 := (List.getElem?_eq_some_iff.1 hj).1
      have e : j = 0 ∨ j = 1 ∨ j = 2 ∨ j = 3 ∨ j = 4 ∨ j = 5 := by omega
      rw [World.cell?, hk]
      rcases e with rfl | rfl | rfl | rfl | rfl | rfl <;> exact hj
    exact ⟨by rw [World.cell?, hk]; rfl, by rw [World.cell?, hk]; rfl, by rw [World.cell?, hk]; rfl, by rw [World.cell?, hk]; rfl, by rw [World.cell?, hk]; rfl, by rw [World.cell?, hk]; rfl, by rw [World.cell?, hk]; rfl, run_loadS (s := balS) hra⟩)
  have HB0 := Lib.hid (show Below bx w wb from hbx ▸ hb0)
  have HBX := Lib.hid hbx
  clear hr hlt hb0 hwb hbx
  obtain ⟨w1, hw1⟩ : ∃ w1, w1 = wb.alloc (.cells #[.int .i64 5] 3) := ⟨_, rfl⟩
  have hrd : RdI w1 (.slice (some ⟨wb.heap.size, 0, none⟩) 1 1) [5] := by rw [hw1]; exact RdI.lit wb 3 [5] 1 rfl
  have hb1 : Below wb.heap.size wb w1 := by rw [hw1]; exact (Below.refl _ wb).alloc (Nat.le_refl _) _
  have HN := Lib.hid (ledger_New_ok hrd (by simp [maxLen]) (newOk_24 (by simp) (by intro n hn; simp at hn; omega)))
  have HW := Lib.hid hw1
  have B1 := Lib.hid hb1
  clear hrd hw1 hb1
  go_upto_region 3 with (first
    | (go_at_call 13; rw [← HW.out]; refine HN.out.mono ?_; rintro e w2 ⟨g, gl, rfl, -, hb⟩; have B2 := Lib.hid (B1.out.trans (hb.mono B1.out.size)); clear hb)
    | fail)
  obtain ⟨c2_0, c2_1, c2_2, c2_3, c2_4, c2_5, c2_6, c2_7⟩ := SK.out _ B2.out
  go_upto_region 4 with (first
    | (go_at_call 14; refine (nil_Delegating wh tk _).mono ?_; rintro e w3 ⟨rfl, hb⟩; have B3 := Lib.hid (B2.out.trans (hb.mono B2.out.size)); clear hb)
    | fail)
  obtain ⟨c3_0, c3_1, c3_2, c3_3, c3_4, c3_5, c3_6, c3_7⟩ := SK.out _ B3.out
  go_upto_region 5 with (first
    | (go_at_call 15; refine (nil_Prior wh tk _).mono ?_; rintro e w4 ⟨rfl, hb⟩; have B4 := Lib.hid (B3.out.trans (hb.mono B3.out.size)); clear hb)
    | fail)
  obtain ⟨c4_0, c4_1, c4_2, c4_3, c4_4, c4_5, c4_6, c4_7⟩ := SK.out _ B4.out
  go_upto_region 6 with (first
    | (go_at_call 16; refine (nil_casts wh tk _).mono ?_; rintro e w5 ⟨ao, cap, rfl, hb⟩; have B5 := Lib.hid (B4.out.trans (hb.mono B4.out.size)); clear hb)
    | fail)
  have B6 := Lib.hid (B5.out.drew)
  obtain ⟨c6_0, c6_1, c6_2, c6_3, c6_4, c6_5, c6_6, c6_7⟩ := SK.out _ B6.out
  go_region_held3 (fun W => W.cell? ⟨bx, 1, none⟩ = some (.int .i64 wh) ∧ W.cell? ⟨bx, 2, none⟩ = some (.int .i64 rf) ∧ W.cell? ⟨bx, 3, none⟩ = some (.int .i64 tk) ∧ W.cell? ⟨bx, 4, none⟩ = some (.int .i64 stt) ∧ W.cell? ⟨bx, 5, none⟩ = some (.int .i64 tt) ∧ W.cell? ⟨bx, 6, none⟩ = some (.int .i64 lv) ∧ W.cell? ⟨bx, 7, none⟩ = some (.int .i64 nn) ∧ (loadSt_V (.pointer (some ⟨bx, 8, none⟩))).run Tryz.prog W = .ok (.agg #[.int .i64 xk, .bool xy, .int .i64 xl, .int .i64 xa, .int .i64 xn, .int .i64 xs]) W) (first | exact SK.out _ B6.out | exact SK.out _ B7.out | exact SK.out _ B8.out | exact SK.out _ B9.out | exact SK.out _ B10.out | exact SK.out _ B11.out | exact SK.out _ B12.out | exact SK.out _ B13.out | exact SK.out _ (B13.out.alloc B13.out.size _)) (first
    | (go_at_call 17; refine (nil_Open rf tk _).mono ?_; rintro e w7 ⟨rfl, hb⟩; have B7 := Lib.hid (B6.out.trans (hb.mono B6.out.size)); clear hb)
    | (go_at_call 18; refine (nil_Close rf stt 0 _).mono ?_; rintro e w8 ⟨rfl, hb⟩; have B8 := Lib.hid (B7.out.trans (hb.mono B7.out.size)); clear hb)
    | (go_at_call 19; refine (nil_Vote (some ⟨g, 0, none⟩) wh rf xk xl xa xn xs xy _).mono ?_; rintro e w9 ⟨rfl, hb⟩; have B9 := Lib.hid (B8.out.trans (hb.mono B8.out.size)); clear hb)
    | (go_at_call 20; refine (nil_Unvote wh rf 0 _).mono ?_; rintro e w10 ⟨rfl, hb⟩; have B10 := Lib.hid (B9.out.trans (hb.mono B9.out.size)); clear hb)
    | (go_at_call 21; refine (nil_Delegate (some ⟨g, 0, none⟩) wh tk tt lv nn _).mono ?_; rintro e w11 ⟨rfl, hb⟩; have B11 := Lib.hid (B10.out.trans (hb.mono B10.out.size)); clear hb)
    | (go_at_call 22; refine (nil_Undelegate wh tk 0 _).mono ?_; rintro e w12 ⟨rfl, hb⟩; have B12 := Lib.hid (B11.out.trans (hb.mono B11.out.size)); clear hb)
    | (go_at_call 23; refine (nil_Unlock (some ⟨g, 0, none⟩) wh tk 0 _).mono ?_; rintro e w13 ⟨rfl, hb⟩; have B13 := Lib.hid (B12.out.trans (hb.mono B12.out.size)); clear hb)
    | fail)
  all_goals
    obtain ⟨w14, hw14⟩ : ∃ w14, w14 = w13.alloc (.cells #[.int .i64 1, .int .i64 1, .int .i64 1, .int .i64 1, .int .i64 1, .int .i64 1, .int .i64 1] 28) := ⟨_, rfl⟩
    obtain ⟨eb, heb⟩ : ∃ eb, eb = w13.heap.size := ⟨_, rfl⟩
    have B14 := Lib.hid (show Below wb.heap.size wb w14 by rw [hw14]; exact B13.out.alloc B13.out.size _)
    have he : w14.heap[eb]? = some (.cells #[.int .i64 1, .int .i64 1, .int .i64 1, .int .i64 1, .int .i64 1, .int .i64 1, .int .i64 1] 28 (0, 0)) := by rw [hw14, heb]; exact World.alloc_heap_new _ _
    rw [← hw14, ← heb]
    have HEB := Lib.hid he
    clear hw14 heb he
    go_wp2_with fail
    go_loopw [15] (fun i wr => ∃ k : Nat, k ≤ 7 ∧ i = .int .i64 k ∧ wr = w14) (fun i _ => 7 - (intOf i).toNat)
    case atStart => exact ⟨0, by omega, rfl, rfl⟩
    case round =>
      obtain ⟨k, hk, rfl, hwr⟩ := hrel
      subst hwr
      by_cases hlt : k < 7
      · have e : k = 0 ∨ k = 1 ∨ k = 2 ∨ k = 3 ∨ k = 4 ∨ k = 5 ∨ k = 6 := by omega
        have ce : ∀ j, j < 7 → wr.cell? ⟨eb, j, none⟩ = some (.int .i64 1) := fun j hj => by
          have ej : j = 0 ∨ j = 1 ∨ j = 2 ∨ j = 3 ∨ j = 4 ∨ j = 5 ∨ j = 6 := by omega
          rw [World.cell?, HEB.out]
          rcases ej with rfl | rfl | rfl | rfl | rfl | rfl | rfl <;> rfl
        have ce0 := ce 0 (by omega)
        have ce1 := ce 1 (by omega)
        have ce2 := ce 2 (by omega)
        have ce3 := ce 3 (by omega)
        have ce4 := ce 4 (by omega)
        have ce5 := ce 5 (by omega)
        have ce6 := ce 6 (by omega)
        clear hk hlt ce
        rcases e with rfl | rfl | rfl | rfl | rfl | rfl | rfl
        all_goals
          go_wp2_with fail
          go_roundw
        case rel => exact ⟨1, by omega, by go_num, by first | rfl | trivial⟩
        case measure => simp [intOf]
        case rel => exact ⟨2, by omega, by go_num, by first | rfl | trivial⟩
        case measure => simp [intOf]
        case rel => exact ⟨3, by omega, by go_num, by first | rfl | trivial⟩
        case measure => simp [intOf]
        case rel => exact ⟨4, by omega, by go_num, by first | rfl | trivial⟩
        case measure => simp [intOf]
        case rel => exact ⟨5, by omega, by go_num, by first | rfl | trivial⟩
        case measure => simp [intOf]
        case rel => exact ⟨6, by omega, by go_num, by first | rfl | trivial⟩
        case measure => simp [intOf]
        case rel => exact ⟨7, by omega, by go_num, by first | rfl | trivial⟩
        case measure => simp [intOf]
      · obtain rfl : k = 7 := by omega
        clear hk hlt
        obtain ⟨z0, z1, z2, z3, z4, z5, z6, z7⟩ := SK.out _ B14.out
        go_wp2_with (first
          | (go_at_call 24; refine (nil_Tally rf _).mono ?_; rintro e w15 ⟨rfl, hb⟩; have B15 := Lib.hid (B14.out.trans (hb.mono B14.out.size)); obtain ⟨y0, y1, y2, y3, y4, y5, y6, y7⟩ := SK.out _ B15.out; clear hb)
          | (go_at_call 25; refine (nil_Got wh tk _).mono ?_; rintro e w16 ⟨rfl, hb⟩; have B16 := Lib.hid (B15.out.trans (hb.mono B15.out.size)); clear hb)
          | (go_at_call 26; refine (law11_known _).mono ?_; rintro e w17 ⟨rfl, hb⟩; have B17 := Lib.hid (B16.out.trans (hb.mono B16.out.size)); clear hb)
          | fail)
        exact bodyPost_ret (v := .bool true) (by simp [results, Tryz.results3, go_sem]) rfl ⟨rfl, by have h := HB0.out; have hx := HBX.out; rw [hx] at h; exact h.trans (B17.out.mono h.size)⟩
end Go.Proofs.YtlnjcfgihklppaaGreat

