/-
  The law PreOfNothing. Printed by mkl8.py.
-/
import Derived.Test.YtcfcfijmfgnpfaaGreatDoorMgn
namespace Go.Proofs.YtcfcfijmfgnpfaaGreatDoor
open Go.RowKit Go.Maps Go.Shelf
set_option linter.unusedVariables false
set_option linter.unusedSimpArgs false

theorem eqz_H (w : World) : (eqHash (.agg (hshR.f dg0).toArray) (.agg #[.int .u8 0, .int .u8 0, .int .u8 0, .int .u8 0, .int .u8 0, .int .u8 0, .int .u8 0, .int .u8 0, .int .u8 0, .int .u8 0, .int .u8 0, .int .u8 0, .int .u8 0, .int .u8 0, .int .u8 0, .int .u8 0, .int .u8 0, .int .u8 0, .int .u8 0, .int .u8 0, .int .u8 0, .int .u8 0, .int .u8 0, .int .u8 0, .int .u8 0, .int .u8 0, .int .u8 0, .int .u8 0, .int .u8 0, .int .u8 0, .int .u8 0, .int .u8 0])).run Tryz.prog w = .ok (.bool true) w := by
  rw [zero32d]
  refine (run_eql_hash w dg0.s dg0.s dg0.len dg0.len).trans ?_
  simp
theorem eqz_D (w : World) : (eqHash (dv dg0) (.agg #[.int .u8 0, .int .u8 0, .int .u8 0, .int .u8 0, .int .u8 0, .int .u8 0, .int .u8 0, .int .u8 0, .int .u8 0, .int .u8 0, .int .u8 0, .int .u8 0, .int .u8 0, .int .u8 0, .int .u8 0, .int .u8 0, .int .u8 0, .int .u8 0, .int .u8 0, .int .u8 0, .int .u8 0, .int .u8 0, .int .u8 0, .int .u8 0, .int .u8 0, .int .u8 0, .int .u8 0, .int .u8 0, .int .u8 0, .int .u8 0, .int .u8 0, .int .u8 0])).run Tryz.prog w = .ok (.bool true) w := eqz_H w
theorem newOk_50 : newOk [50, 50] := by
  refine ⟨by simp, fun k hk => ?_, by decide +kernel⟩
  match k, hk with
  | 0, _ => decide
  | 1, _ => decide
theorem held_50 : (accOf (accL [50, 50]) 0).2 = 0 := by decide +kernel
set_option maxRecDepth 100000 in
set_option maxHeartbeats 8000000 in
attribute [local go_sem ↓] eq_hash ldH_hide in
theorem preOfNothing_walk (v : Value) (c : Cl) (d : Nat) (who : Int) (w : World) (hG : Glob w) (hrd : RdC w d v c) (hlen : LenC c) (hwf : (Lit.int .i64 who).wf = true) :
    Calls Tryz.prog 8 #[v, .int .i64 who] w fun e w' => e = .returned (.bool true) ∧ Below w.heap.size w w' := by
  obtain ⟨d', ao, cap, -, rfl, -⟩ := hrd.open
  obtain ⟨k, hk⟩ : ∃ k, k = c.k := ⟨_, rfl⟩
  obtain ⟨t, ht⟩ : ∃ t, t = c.t := ⟨_, rfl⟩
  obtain ⟨n, hn⟩ : ∃ n, n = c.n := ⟨_, rfl⟩
  obtain ⟨m, hm⟩ : ∃ m, m = c.kids.length := ⟨_, rfl⟩
  rw [← hk, ← ht, ← hn, ← hm] at hrd ⊢
  obtain ⟨cb, hcb⟩ : ∃ b, b = w.heap.size := ⟨_, rfl⟩
  obtain ⟨W, hW⟩ : ∃ W, W = w.alloc (.cells #[.int .i64 k, .int .i64 t, .int .i64 n, .slice ao m cap] 45) := ⟨_, rfl⟩
  have hB : Below w.heap.size w W := by rw [hW]; exact (Below.refl _ w).alloc (Nat.le_refl _) _
  have hcr : W.rangeAt cb 0 [.int .i64 k, .int .i64 t, .int .i64 n, .slice ao m cap] := by rw [hW, hcb]; exact rangeAt_new _
  have hrW : RdC W d (.agg #[.int .i64 k, .int .i64 t, .int .i64 n, .slice ao m cap]) c := RdC.below hB hrd
  have hGW := hG.below hB hG.lt
  have hsW : W.heap.size = cb + 1 := by rw [hW, hcb]; simp
  have HW := Lib.hid (And.intro hW (And.intro hcb (And.intro hB hsW)))
  have HR := Lib.hid (And.intro hcr (And.intro hrW (And.intro hGW (And.intro hlen hwf))))
  clear hk ht hn hm hcb hW hB hcr hsW hrW hGW hG hrd hlen hwf
  go_enter Tryz.func8, Tryz.ntmps8
  go_upto_region 1 with fail
  rw [← HW.out.1, ← HW.out.2.1]
  have eqz := eqz_H
  have eqz' := eqz_D
  go_wp2_with (first
      | (go_at_call 34; refine (law_size d c _ W HR.out.2.1 HR.out.2.2.2.1).mono ?_; rintro e w1 ⟨⟨r, rfl⟩, hb⟩; have H1 := Lib.hid (And.intro hb (rangeAt_block HR.out.1 (hb.block cb (by have := HW.out.2.2.2; omega)))); clear hb; have hbw1 : Below w.heap.size w w1 := HW.out.2.2.1.trans (H1.out.1.mono HW.out.2.2.1.size); have hrw1 : RdC w1 d (.agg #[.int .i64 k, .int .i64 t, .int .i64 n, .slice ao m cap]) c := RdC.below H1.out.1 HR.out.2.1; have HB1 := Lib.hid (And.intro hbw1 hrw1); clear hbw1 hrw1; obtain ⟨wz, hz⟩ : ∃ wz, wz = w1.alloc (.cells #[.int .i64 50, .int .i64 50] 3) := ⟨_, rfl⟩; have hrz : RdI wz (.slice (some ⟨w1.heap.size, 0, none⟩) 2 2) [50, 50] := by { rw [hz]; exact RdI.lit w1 3 [50, 50] 2 rfl }; have hbz : Below w1.heap.size w1 wz := by { rw [hz]; exact (Below.refl _ w1).alloc (Nat.le_refl _) _ }; have HZ := Lib.hid (And.intro hz (And.intro hrz hbz)); clear hz hrz hbz; by_cases h300 : 300 ≤ r)
      | (go_at_call 11; rw [← HZ.out.1]; refine (ledger_New_ok HZ.out.2.1 (by decide) newOk_50).mono ?_; rintro e w2 ⟨g, gl, rfl, hl, hb⟩; have hb0 : Below w1.heap.size w1 w2 := HZ.out.2.2.trans (hb.mono HZ.out.2.2.size); have H2 := Lib.hid (And.intro hl (And.intro hb0 (rangeAt_block H1.out.2 (hb0.block cb (by have := HW.out.2.2.2; have := H1.out.1.size; omega))))); clear hl hb hb0)
      | (refine wpl_loadC _ rfl rfl rfl (by first | exact H2.out.2.2 | exact HR.out.1) rfl ?_)
      | (go_at_call 16; refine (pre_Note_nil _ (RdC.below H2.out.2.1 HB1.out.2) who).mono ?_; rintro e w3 ⟨rfl, hb⟩; have H3 := Lib.hid hb; clear hb)
      | (refine wpl_allocR (r := hshR) rfl rfl rfl ?_; intro C hC)
      | (refine wpl_storeR (r := hshR) (t := dg0) (C := C) (b := w3.heap.size) _ _ rfl rfl rfl rfl rfl (World.alloc_heap_new _ _) hC ?_; rw [World.setRow_alloc_new]; obtain ⟨hb, hhb⟩ : ∃ b, b = w3.heap.size := ⟨_, rfl⟩; obtain ⟨w4, hw4⟩ : ∃ W, W = w3.alloc (.cells (hshR.f dg0).toArray hshR.T) := ⟨_, rfl⟩; rw [← hw4, ← hhb]; have hbx : w4.rangeAt hb 0 (Bs dg0.s) := by { rw [hw4, hhb]; exact hashBox }; have hb4 : Below w2.heap.size w2 w4 := by { rw [hw4]; exact H3.out.alloc H3.out.size _ }; have H4 := Lib.hid (And.intro hb4 hbx); clear hb4 hbx hw4 hhb)
      | (refine wpl_loadR (r := hshR) (t := dg0) _ rfl rfl rfl (by first | exact H10.out.2 | exact H9.out.2 | exact H8.out.2 | exact H7.out.2 | exact H6.out.2 | exact H5.out.2 | exact H4.out.2) ?_)
      | (go_at_call 20; refine (pre_Want_nil dg0 _).mono ?_; rintro e w5 ⟨rfl, hb⟩; have H5 := Lib.hid (And.intro (H4.out.1.trans (hb.mono H4.out.1.size)) (rangeAt_block H4.out.2 (hb.block _ (hash_lt H4.out.2)))); clear hb)
      | (go_at_call 22; refine (pre_Unwant_nil dg0 _).mono ?_; rintro e w6 ⟨rfl, hb⟩; have H6 := Lib.hid (And.intro (H5.out.1.trans (hb.mono H5.out.1.size)) (rangeAt_block H5.out.2 (hb.block _ (hash_lt H5.out.2)))); clear hb)
      | (go_at_call 24; refine (pre_Get_nil dg0 _).mono ?_; rintro e w7 ⟨rfl, hb⟩; have H7 := Lib.hid (And.intro (H6.out.1.trans (hb.mono H6.out.1.size)) (rangeAt_block H6.out.2 (hb.block _ (hash_lt H6.out.2)))); clear hb)
      | (refine wpl_storeD (vs := zero4) _ _ rfl rfl rfl rfl (World.alloc_heap_new w7 _) rfl rfl (ones4D 0 0 0 none 0 0) ?_; obtain ⟨w8, hw8⟩ : ∃ W, W = (w7.alloc (.cells zero4 45)).setRow w7.heap.size zero4 := ⟨_, rfl⟩; have hb : Below w7.heap.size w7 w8 := by { rw [hw8]; exact setRow_below ((Below.refl _ w7).alloc (Nat.le_refl _) _) (Nat.le_refl _) }; rw [← hw8]; have H8 := Lib.hid (And.intro (H7.out.1.trans (hb.mono H7.out.1.size)) (rangeAt_block H7.out.2 (hb.block _ (hash_lt H7.out.2)))); clear hb hw8)
      | (go_at_call 29; refine (law8_items_nil _).mono ?_; rintro e w9 ⟨v9, rfl, ho, hb⟩; obtain ⟨ao9, cp9, rfl⟩ := ho.lenOf; have H9 := Lib.hid (And.intro (H8.out.1.trans (hb.mono H8.out.1.size)) (rangeAt_block H8.out.2 (hb.block _ (hash_lt H8.out.2)))); have l9 := run_ldH H9.out.2; clear hb ho)
      | (go_at_call 18; refine (pre_Unnote_nil _ dg0 who _).mono ?_; rintro e w10 ⟨rfl, hb⟩; have H10 := Lib.hid (And.intro (H9.out.1.trans (hb.mono H9.out.1.size)) (rangeAt_block H9.out.2 (hb.block _ (hash_lt H9.out.2)))); have l10 := run_ldH H10.out.2; clear hb)
      | (go_at_call 26; refine (pre_Wanted_nil dg0 _).mono ?_; rintro e w11 ⟨rfl, hb⟩; have H11 := Lib.hid (H10.out.1.trans (hb.mono H10.out.1.size)); clear hb)
      | (go_at_call 32; refine (ledger_Held (H2.out.1.below H11.out) 0).mono ?_; rw [held_50]; rintro e w' ⟨rfl, hw'⟩; rw [hw']; clear hw' w')
      | (go_at_call 14; refine (law8_known _ ((HR.out.2.2.1.below (H1.out.1.trans ((H2.out.2.1.trans (H11.out.mono H2.out.2.1.size)).mono H1.out.1.size)) HR.out.2.2.1.lt))).mono ?_; rintro e w12 ⟨rfl, hb⟩; have H12 := Lib.hid hb; clear hb)
      | fail)
  · exact bodyPost_ret (v := .bool true) (by simp [results, Tryz.results8, go_sem]) rfl ⟨rfl, HB1.out.1⟩
  · have hb1 : Below w.heap.size w w11 := HB1.out.1.trans ((H2.out.2.1.trans (H11.out.mono H2.out.2.1.size)).mono HB1.out.1.size)
    exact bodyPost_ret (v := .bool true) (by simp [results, Tryz.results8, go_sem]) rfl ⟨rfl, hb1.trans (H12.out.mono hb1.size)⟩
end Go.Proofs.YtcfcfijmfgnpfaaGreatDoor
