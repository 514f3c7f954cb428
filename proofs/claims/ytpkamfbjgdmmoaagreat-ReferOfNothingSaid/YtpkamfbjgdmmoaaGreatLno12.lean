/-
  The law ReferOfNothing, walked. Printed by mk12.py.
-/
import Derived.Test.YtpkamfbjgdmmoaaGreatMn
import Derived.BigRegion
import Derived.RegionTactic
import Derived.Deep.RegionHeld3
namespace Go.Proofs.YtpkamfbjgdmmoaaGreat
open Go.RowKit Go.Maps Go.Shelf
set_option linter.unusedVariables false
set_option linter.unusedSimpArgs false

theorem all_nil12 (w : World) :
    Calls Tryz.prog 18 #[.pointer none] w fun e w' => ∃ v, e = .returned (.tuple #[v, .bool true]) ∧ OwnR refP w.heap.size v (rowR 0 []) w' ∧ Below w.heap.size w w' :=
  law12_allW _ [] w (fun w' hb => refer_All_nil w') (by simp)
set_option maxRecDepth 100000 in
set_option maxHeartbeats 8000000 in
attribute [local go_sem ↓] loadSt_R_hide in
theorem referOfNothing_walk (kd wh tk rf nn xk : Int) (xy : Bool) (xl xa xn xs : Int) (w : World) (u0 : (Lit.int .i64 kd).wf = true) (u1 : (Lit.int .i64 wh).wf = true) (u2 : (Lit.int .i64 tk).wf = true) (u3 : (Lit.int .i64 rf).wf = true) (u4 : (Lit.int .i64 nn).wf = true) (u5 : (Lit.int .i64 xk).wf = true) (u7 : (Lit.int .i64 xl).wf = true) (u8 : (Lit.int .i64 xa).wf = true) (u9 : (Lit.int .i64 xn).wf = true) (u10 : (Lit.int .i64 xs).wf = true) : Calls Tryz.prog 8 #[.agg #[.int .i64 kd, .int .i64 wh, .int .i64 tk, .int .i64 rf, .int .i64 nn, .int .i64 xk, .bool xy, .int .i64 xl, .int .i64 xa, .int .i64 xn, .int .i64 xs]] w fun e w' => e = .returned (.bool true) ∧ Below w.heap.size w w' := by
  clear u0 u1 u2 u3 u4 u5 u7 u8 u9 u10
  go_enter Tryz.func8, Tryz.ntmps8
  go_upto_region 2 with fail
  obtain ⟨wb, hwb⟩ : ∃ wb, wb = w.alloc (.cells #[.int .i64 kd, .int .i64 wh, .int .i64 tk, .int .i64 rf, .int .i64 nn, .int .i64 xk, .bool xy, .int .i64 xl, .int .i64 xa, .int .i64 xn, .int .i64 xs] 74) := ⟨_, rfl⟩
  obtain ⟨bx, hbx⟩ : ∃ bx, bx = w.heap.size := ⟨_, rfl⟩
  have hb0 : Below w.heap.size w wb := by rw [hwb]; exact (Below.refl _ w).alloc (Nat.le_refl _) _
  have hlt : bx < wb.heap.size := by rw [hwb, hbx]; simp
  have hr : wb.heap[bx]? = some (.cells #[.int .i64 kd, .int .i64 wh, .int .i64 tk, .int .i64 rf, .int .i64 nn, .int .i64 xk, .bool xy, .int .i64 xl, .int .i64 xa, .int .i64 xn, .int .i64 xs] 74 (0, 0)) := by rw [hwb, hbx]; exact World.alloc_heap_new _ _
  rw [← hwb, ← hbx]
  have SK := Lib.hid (show ∀ W, Below wb.heap.size wb W → W.cell? ⟨bx, 1, none⟩ = some (.int .i64 wh) ∧ W.cell? ⟨bx, 2, none⟩ = some (.int .i64 tk) ∧ W.cell? ⟨bx, 3, none⟩ = some (.int .i64 rf) ∧ W.cell? ⟨bx, 4, none⟩ = some (.int .i64 nn) from fun W hb => by
    have hk : W.heap[bx]? = some (.cells #[.int .i64 kd, .int .i64 wh, .int .i64 tk, .int .i64 rf, .int .i64 nn, .int .i64 xk, .bool xy, .int .i64 xl, .int .i64 xa, .int .i64 xn, .int .i64 xs] 74 (0, 0)) := (hb.block bx hlt).trans hr
    exact ⟨by rw [World.cell?, hk]; rfl, by rw [World.cell?, hk]; rfl, by rw [World.cell?, hk]; rfl, by rw [World.cell?, hk]; rfl⟩)
  have HB0 := Lib.hid (show w.heap.size ≤ wb.heap.size ∧ Below w.heap.size w wb from ⟨hb0.size, hb0⟩)
  clear hr hlt hb0 hwb hbx
  obtain ⟨w1, hw1⟩ : ∃ w1, w1 = wb.alloc (.cells #[.int .i64 50] 3) := ⟨_, rfl⟩
  have hrd : RdI w1 (.slice (some ⟨wb.heap.size, 0, none⟩) 1 1) [50] := by rw [hw1]; exact RdI.lit wb 3 [50] 1 rfl
  have hb1 : Below wb.heap.size wb w1 := by rw [hw1]; exact (Below.refl _ wb).alloc (Nat.le_refl _) _
  have HN := Lib.hid (ledger_New_ok hrd (by simp [maxLen]) (newOk_12 (by simp) (by intro n hn; simp at hn; omega)))
  have HW := Lib.hid hw1
  have B1 := Lib.hid hb1
  clear hrd hw1 hb1
  go_upto_region 3 with (first
    | (go_at_call 28; rw [← HW.out]; refine HN.out.mono ?_; rintro e w2 ⟨g, gl, rfl, -, hb⟩; have B2 := Lib.hid (B1.out.trans (hb.mono B1.out.size)); clear hb)
    | fail)
  go_upto_region 4 with (first
    | (go_at_call 29; refine (voting_NewV w2).mono ?_; rintro e w3 ⟨vb, gv, gd, gw, gp, FV, FD, FW, FQ, rfl, -, hb⟩; have B3 := Lib.hid (B2.out.trans (hb.mono B2.out.size)); clear hb)
    | fail)
  obtain ⟨c1, c2, c3, c4⟩ := SK.out _ B3.out
  go_upto_region 5 with (first
    | (go_at_call 14; refine (refer_Submit_nil _ _ wh tk hsh0 nn 0 _).mono ?_; rintro e w4 ⟨rfl, hb⟩; have B4 := Lib.hid (B3.out.trans (hb.mono B3.out.size)); clear hb)
    | fail)
  obtain ⟨c1, c2, c3, c4⟩ := SK.out _ B4.out
  go_upto_region 6 with (first
    | (go_at_call 26; refine (refer_Cancel_nil _ rf 0 _).mono ?_; rintro e w' ⟨rfl, hw⟩; rw [hw]; clear hw w')
    | fail)
  go_upto_region 7 with (first
    | (go_at_call 24; refine (refer_Kill_nil _ _ rf 0 _).mono ?_; rintro e w' ⟨rfl, hw⟩; rw [hw]; clear hw w')
    | fail)
  go_upto_region 8 with (first
    | (go_at_call 21; refine (refer_Get_nil rf _).mono ?_; rintro e w5 ⟨rfl, hb⟩; have B5 := Lib.hid (B4.out.trans (hb.mono B4.out.size)); clear hb)
    | (refine wpl_allocS (s := rfS) rfl rfl rfl ?_)
    | (refine wpl_storeS (s := rfS) (t := rfS.zero) (b := w5.heap.size) _ _ rfl rfl rfl rfl rfl (World.alloc_heap_new w5 _) (zeroS rfS) ?_; rw [newS])
    | fail)
  obtain ⟨w6, hw6⟩ : ∃ w6, w6 = w5.alloc (rfS.obj rfS.zero) := ⟨_, rfl⟩
  have B6 := Lib.hid (show Below wb.heap.size wb w6 by rw [hw6]; exact B5.out.alloc B5.out.size _)
  rw [← hw6]
  clear hw6
  obtain ⟨c1, c2, c3, c4⟩ := SK.out _ B6.out
  go_upto_region 9 with (first
    | (go_at_call 30; refine (refer_Track_nil tk _).mono ?_; rintro e w7 ⟨rfl, hb⟩; have B7 := Lib.hid (B6.out.trans (hb.mono B6.out.size)); clear hb)
    | (refine wpl_allocR (r := trkR) (ty := 26) rfl rfl rfl ?_; intro C hC)
    | (refine wpl_storeR (r := trkR) (ty := 26) (t := trk0) (C := C) _ _ rfl rfl rfl rfl rfl (World.alloc_heap_new w7 _) hC ?_; rw [World.setRow_alloc_new])
    | fail)
  clear hC C
  obtain ⟨w8, hw8⟩ : ∃ w8, w8 = w7.alloc (.cells (trkR.f trk0).toArray 26) := ⟨_, rfl⟩
  have B8 := Lib.hid (show Below wb.heap.size wb w8 by rw [hw8]; exact B7.out.alloc B7.out.size _)
  rw [← hw8]
  clear hw8
  go_upto_region 10 with (first
    | (go_at_call 18; refine (all_nil12 _).mono ?_; rintro e w9 ⟨v, rfl, ho, hb⟩; obtain ⟨ao, cp, hv⟩ := ho.lenOf; replace hv : v = .slice ao 0 cp := hv; subst hv; have B9 := Lib.hid (B8.out.trans (hb.mono B8.out.size)); clear ho hb)
    | fail)
  obtain ⟨c1, c2, c3, c4⟩ := SK.out _ B9.out
  go_wp2_with (first
    | (go_at_call 15; refine (refer_Deposit_nil _ wh rf _).mono ?_; rintro e w' ⟨rfl, hw⟩; rw [hw]; clear hw w')
    | (go_at_call 23; refine (refer_Refund_nil _ wh rf _).mono ?_; rintro e w' ⟨rfl, hw⟩; rw [hw]; clear hw w')
    | (go_at_call 17; refine (refer_Service_nil _ _ 1 _).mono ?_; rintro e w10 ⟨rfl, hb⟩; have B10 := Lib.hid (B9.out.trans (hb.mono B9.out.size)); clear hb)
    | (go_at_call 20; refine (law12_known _).mono ?_; rintro e w11 ⟨rfl, hb⟩; have B11 := Lib.hid (B10.out.trans (hb.mono B10.out.size)); clear hb)
    | fail)
  exact bodyPost_ret (v := .bool true) (by simp [results, Tryz.results8, go_sem]) rfl ⟨rfl, HB0.out.2.trans (B11.out.mono HB0.out.1)⟩
end Go.Proofs.YtpkamfbjgdmmoaaGreat
