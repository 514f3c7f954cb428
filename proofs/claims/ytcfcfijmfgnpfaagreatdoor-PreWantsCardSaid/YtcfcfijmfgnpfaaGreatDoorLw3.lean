/-
  The law PreWants. Printed by mkl8.py.
-/
import Derived.Test.YtcfcfijmfgnpfaaGreatDoorPj2
namespace Go.Proofs.YtcfcfijmfgnpfaaGreatDoor
open Go.RowKit Go.Maps Go.Shelf
set_option linter.unusedVariables false
set_option linter.unusedSimpArgs false

theorem newOk_55 : newOk [0, 50, 50] := by
  refine ⟨by simp, fun k hk => ?_, by decide +kernel⟩
  match k, hk with
  | 0, _ => decide
  | 1, _ => decide
  | 2, _ => decide
theorem spendE_55 : spendE (accL [0, 50, 50]) [] 1 5 false = 0 := by decide +kernel
theorem noteE_55 {c : Cl} (h : okC 3 c = true) : noteE (accL [0, 50, 50]) [] [] 1 c = 0 := by
  unfold noteE
  rw [if_neg (by rw [h]; decide), if_neg (by rw [show dget ([] : Pm) (dgOf c) = none from rfl]; decide), if_neg (by decide)]
  exact spendE_55
set_option maxRecDepth 100000 in
set_option maxHeartbeats 8000000 in
attribute [local go_sem ↓] load_c ldH_hide eq_hash in
theorem preWants_walk (v : Value) (c : Cl) (d : Nat) (n m : Int) (w : World) (hG : Glob w) (hrd : RdC w d v c) (hlen : LenC c) (wn : (Lit.int .i64 n).wf = true) (wm : (Lit.int .i64 m).wf = true) :
    Calls Tryz.prog 5 #[v, .int .i64 n, .int .i64 m] w fun e w' => e = .returned (.bool true) ∧ Below w.heap.size w w' := by
  obtain ⟨d', ao, cap, -, rfl, -⟩ := hrd.open
  obtain ⟨k, hk⟩ : ∃ k, k = c.k := ⟨_, rfl⟩
  obtain ⟨t, ht⟩ : ∃ t, t = c.t := ⟨_, rfl⟩
  obtain ⟨z, hn⟩ : ∃ n, n = c.n := ⟨_, rfl⟩
  obtain ⟨kl, hm⟩ : ∃ m, m = c.kids.length := ⟨_, rfl⟩
  rw [← hk, ← ht, ← hn, ← hm] at hrd ⊢
  obtain ⟨cb, hcb⟩ : ∃ b, b = w.heap.size := ⟨_, rfl⟩
  obtain ⟨W, hW⟩ : ∃ W, W = w.alloc (.cells #[.int .i64 k, .int .i64 t, .int .i64 z, .slice ao kl cap] 45) := ⟨_, rfl⟩
  have hB : Below w.heap.size w W := by rw [hW]; exact (Below.refl _ w).alloc (Nat.le_refl _) _
  have hcr : W.rangeAt cb 0 [.int .i64 k, .int .i64 t, .int .i64 z, .slice ao kl cap] := by rw [hW, hcb]; exact rangeAt_new _
  have hrW : RdC W d (.agg #[.int .i64 k, .int .i64 t, .int .i64 z, .slice ao kl cap]) c := RdC.below hB hrd
  have hsW : W.heap.size = cb + 1 := by rw [hW, hcb]; simp
  have HW := Lib.hid (And.intro hW (And.intro hcb (And.intro hB hsW)))
  have HR := Lib.hid (And.intro hcr (And.intro hrW (And.intro hG hlen)))
  have HRD := Lib.hid hrd
  clear hk ht hn hm hcb hW hB hcr hsW hrW hG hrd hlen
  have hw1 : (Lit.int .i64 1).wf = true := by decide
  obtain ⟨q, hq⟩ : ∃ q, q = okC 3 c := ⟨_, rfl⟩
  have ref_IsCall := fun w1 (h : RdC w1 d (.agg #[.int .i64 k, .int .i64 t, .int .i64 z, .slice ao kl cap]) c) => ref_IsCall d c _ w1 h
  rw [← hq] at ref_IsCall
  have HI := Lib.hid ref_IsCall
  have HQ := Lib.hid hq
  clear ref_IsCall hq
  by_cases hbad : q = false ∨ n < 0 ∨ 9 < n ∨ m < 0 ∨ 9 < m
  · have hex : q = false ∨ (q = true ∧ n < 0) ∨ (q = true ∧ ¬ n < 0 ∧ 9 < n) ∨ (q = true ∧ ¬ n < 0 ∧ ¬ 9 < n ∧ m < 0) ∨ (q = true ∧ ¬ n < 0 ∧ ¬ 9 < n ∧ ¬ m < 0 ∧ 9 < m) := by
      cases q
      · exact .inl rfl
      · simp at hbad ⊢; omega
    clear hbad
    go_enter Tryz.func5, Tryz.ntmps5
    go_upto_region 1 with fail
    rw [← HW.out.1, ← HW.out.2.1]
    rcases hex with rfl | ⟨rfl, h⟩ | ⟨rfl, h1, h⟩ | ⟨rfl, h1, h2, h⟩ | ⟨rfl, h1, h2, h3, h⟩
    all_goals
      go_wp2_with (first
        | (go_at_call 34; refine (law_size d c _ W HR.out.2.1 HR.out.2.2.2).mono ?_; rintro e w1 ⟨⟨r, rfl⟩, hb⟩; have H1 := Lib.hid (And.intro (HW.out.2.2.1.trans (hb.mono HW.out.2.2.1.size)) (And.intro (rangeAt_block HR.out.1 (hb.block cb (by have := HW.out.2.2.2; omega))) (RdC.below hb HR.out.2.1))); clear hb; have l1 := run_loadCG H1.out.2.1 rfl; by_cases h300 : 300 ≤ r)
        | (refine wpl_loadC _ rfl rfl rfl (by first | exact H1.out.2.1 | exact HR.out.1) rfl ?_)
        | (go_at_call 35; refine (HI.out w1 H1.out.2.2).mono ?_; rintro e w2 ⟨rfl, hb⟩; have H2 := Lib.hid (H1.out.1.trans (hb.mono H1.out.1.size)); clear hb)
        | fail)
      all_goals first
        | exact bodyPost_ret (v := .bool true) (by simp [results, Tryz.results5, go_sem]) rfl ⟨rfl, H2.out⟩
        | exact bodyPost_ret (v := .bool true) (by simp [results, Tryz.results5, go_sem]) rfl ⟨rfl, H1.out.1⟩
  have hq1 : q = true := by cases q; exact absurd (.inl rfl) hbad; rfl
  subst hq1
  obtain ⟨n, rfl⟩ : ∃ m : Nat, n = m := ⟨n.toNat, by omega⟩
  obtain ⟨m, rfl⟩ : ∃ k : Nat, m = k := ⟨m.toNat, by omega⟩
  have n0 : ¬ (n : Int) < 0 := by omega
  have n9 : ¬ 9 < (n : Int) := by omega
  have m0 : ¬ (m : Int) < 0 := by omega
  have m9 : ¬ 9 < (m : Int) := by omega
  clear hbad
  have hE := noteE_55 HQ.out.symm
  obtain ⟨dd, hdd⟩ : ∃ d, d = dgOf c := ⟨_, rfl⟩
  have HE := Lib.hid (And.intro hE hdd)
  clear hE hdd
  go_enter Tryz.func5, Tryz.ntmps5
  go_upto_region 1 with fail
  rw [← HW.out.1, ← HW.out.2.1]
  go_wp2_with (first
        | (go_at_call 34; refine (law_size d c _ W HR.out.2.1 HR.out.2.2.2).mono ?_; rintro e w1 ⟨⟨r, rfl⟩, hb⟩; have H1 := Lib.hid (And.intro (HW.out.2.2.1.trans (hb.mono HW.out.2.2.1.size)) (And.intro (rangeAt_block HR.out.1 (hb.block cb (by have := HW.out.2.2.2; omega))) (RdC.below hb HR.out.2.1))); clear hb; have l1 := run_loadCG H1.out.2.1 rfl; by_cases h300 : 300 ≤ r)
        | (go_at_call 35; refine (HI.out w1 H1.out.2.2).mono ?_; rintro e w2 ⟨rfl, hb⟩; have H2 := Lib.hid (And.intro (H1.out.1.trans (hb.mono H1.out.1.size)) (And.intro (rangeAt_block H1.out.2.1 (hb.block cb (World.block_lt_of_cell? _ ⟨cb, 0, none⟩ (by have q := H1.out.2.1 0 _ rfl; exact q)))) (RdC.below hb H1.out.2.2))); obtain ⟨wz, hz⟩ : ∃ wz, wz = w2.alloc (.cells #[.int .i64 0, .int .i64 50, .int .i64 50] 3) := ⟨_, rfl⟩; have hrz : RdI wz (.slice (some ⟨w2.heap.size, 0, none⟩) 3 3) [0, 50, 50] := by { rw [hz]; exact RdI.lit w2 3 [0, 50, 50] 3 rfl }; have hbz : Below w2.heap.size w2 wz := by { rw [hz]; exact (Below.refl _ w2).alloc (Nat.le_refl _) _ }; have HZ := Lib.hid (And.intro hz (And.intro hrz hbz)); clear hb hz hrz hbz)
        | (go_at_call 11; rw [← HZ.out.1]; refine (ledger_New_ok HZ.out.2.1 (by decide) newOk_55).mono ?_; rintro e w3 ⟨g, gl, rfl, hl, hb⟩; have H3 := Lib.hid (And.intro hl hb); clear hl hb)
        | (go_at_call 13; refine (pre_New w3).mono ?_; rintro e w' ⟨rfl, hw'⟩; have hp := P8.beginB (bs := [(cb, [.int .i64 k, .int .i64 t, .int .i64 z, .slice ao kl cap])]) (H2.out.1.trans (HZ.out.2.2.mono H2.out.1.size)) (by { intro b hm; rw [List.mem_singleton.1 hm]; have q := H2.out.2.1 0 _ rfl; have hl := World.block_lt_of_cell? _ ⟨cb, 0, none⟩ q; exact ⟨rangeAt_block H2.out.2.1 (HZ.out.2.2.block _ hl), Nat.lt_of_lt_of_le hl HZ.out.2.2.size, by have := HW.out.2.1; show w.heap.size ≤ cb; omega⟩ }) H3.out.1 H3.out.2; have hb4 : Below w2.heap.size w2 w' := by { rw [hw']; exact (HZ.out.2.2.trans (H3.out.2.mono HZ.out.2.2.size)).alloc (HZ.out.2.2.trans (H3.out.2.mono HZ.out.2.2.size)).size _ }; rw [← hw'] at hp; obtain ⟨pb, hpb⟩ : ∃ b, b = w3.heap.size := ⟨_, rfl⟩; rw [← hpb] at hp; rw [← hpb]; have H4 := Lib.hid (And.intro hp (And.intro hb4 (rangeAt_block H2.out.2.1 (hb4.block cb (World.block_lt_of_cell? _ ⟨cb, 0, none⟩ (by have q := H2.out.2.1 0 _ rfl; exact q)))))); clear hp hb4 hw' hpb)
        | (go_at_call 16; refine (H4.out.1.note HR.out.2.2.1 (RdC.below H4.out.2.1 H2.out.2.2) hw1).mono ?_; unfold noteH noteA noteP; rw [HE.out.1, if_pos rfl, if_pos rfl, if_pos rfl, ← HE.out.2]; rintro e w5 ⟨rfl, hp⟩; have H5 := Lib.hid hp; clear hp)
        | (refine wpl_allocR (r := hshR) rfl rfl rfl ?_; intro C hC)
        | (refine wpl_storeR (r := hshR) (t := dd) (C := C) (b := w5.heap.size) _ _ rfl rfl rfl rfl rfl (World.alloc_heap_new _ _) hC ?_; rw [World.setRow_alloc_new]; obtain ⟨hb, hhb⟩ : ∃ b, b = w5.heap.size := ⟨_, rfl⟩; have hp := H5.out.hash dd; obtain ⟨w6, hw6⟩ : ∃ W, W = w5.alloc (.cells (hshR.f dd).toArray hshR.T) := ⟨_, rfl⟩; rw [show w5.alloc (.cells (Bs dd.s).toArray 41) = w6 from hw6.symm, ← hhb] at hp; rw [← hw6, ← hhb]; have H6 := Lib.hid hp; clear hp hw6 hhb)
        | (refine wpl_loadC _ rfl rfl rfl (by first | exact H4.out.2.2 | exact H1.out.2.1 | exact HR.out.1) rfl ?_)
        | fail)
  · exact bodyPost_ret (v := .bool true) (by simp [results, Tryz.results5, go_sem]) rfl ⟨rfl, H1.out.1⟩
  go_loopw [12] (fun i wr => ∃ (j : Nat) (U : Um), j ≤ n ∧ i = .int .i64 j ∧ wantN U dd = j ∧ U.length ≤ j ∧ P8 g pb (reserveA (accL [0, 50, 50]) [] 1 5) [] (dput [] dd (1, c)) U [(hb, Bs dd.s), (cb, [.int .i64 k, .int .i64 t, .int .i64 z, .slice ao kl cap])] w wr) (fun i _ => n - (intOf i).toNat)
  case atStart => exact ⟨0, [], Nat.zero_le _, rfl, rfl, Nat.le_refl _, H6.out⟩
  case round =>
    obtain ⟨j, U, hj, rfl, hU, hUl, hp⟩ := hrel
    have HP := Lib.hid (And.intro hp (And.intro hU hUl))
    clear hp hU hUl H6 H5 H4
    by_cases hlt : j < n
    · have hlt' : (j : Int) < n := by omega
      have j9 : (j : Int) ≤ 9 := by omega
      have HLT := Lib.hid hlt
      clear hj hlt
      go_wp2_with (first
        | (refine wpl_loadR (r := hshR) (t := dd) _ rfl rfl rfl (HP.out.1.box List.mem_cons_self) ?_)
        | (go_at_call 20; refine (HP.out.1.want dd (by have := HP.out.2.2; omega) (by rw [HP.out.2.1]; omega) (by rw [HP.out.2.1]; omega)).mono ?_; rintro e w7 ⟨rfl, hp⟩; have H7 := Lib.hid hp; clear hp)
        | fail)
      go_roundw
      case rel => exact ⟨j + 1, wantU U dd, HLT.out, by go_num, by rw [wantN_want HP.out.1.srtU, if_pos rfl, HP.out.2.1]; omega, by have := len_want U HP.out.1.srtU dd; have := HP.out.2.2; omega, H7.out⟩
      case measure => simp [intOf]; have := HLT.out; omega
    · have hnj : ¬ (j : Int) < n := by omega
      obtain rfl : j = n := by omega
      clear hlt hj
      go_wp2
      go_loopw [13] (fun i wr => ∃ (p : Nat) (U : Um), p ≤ m ∧ i = .int .i64 p ∧ wantN U dd = max 0 ((j : Int) - p) ∧ U.length ≤ j + p ∧ P8 g pb (reserveA (accL [0, 50, 50]) [] 1 5) [] (dput [] dd (1, c)) U [(hb, Bs dd.s), (cb, [.int .i64 k, .int .i64 t, .int .i64 z, .slice ao kl cap])] w wr) (fun i _ => m - (intOf i).toNat)
      case atStart => exact ⟨0, U, Nat.zero_le _, rfl, by rw [HP.out.2.1]; omega, HP.out.2.2, HP.out.1⟩
      case round =>
        obtain ⟨p, V, hpm, rfl, hV, hVl, hp⟩ := hrel
        have HV := Lib.hid (And.intro hp (And.intro hV hVl))
        clear hp hV hVl HP
        by_cases hlt : p < m
        · have hlt' : (p : Int) < m := by omega
          have p9 : (p : Int) ≤ 9 := by omega
          have HLT := Lib.hid hlt
          clear hpm hlt
          go_wp2_with (first
            | (refine wpl_loadR (r := hshR) (t := dd) _ rfl rfl rfl (HV.out.1.box List.mem_cons_self) ?_)
            | (go_at_call 22; refine (HV.out.1.unwant dd (by have := HV.out.2.2; omega) (by rw [HV.out.2.1]; omega) (by rw [HV.out.2.1]; omega)).mono ?_; rintro e w7 ⟨rfl, hp⟩; have H7 := Lib.hid hp; clear hp)
            | fail)
          go_roundw
          case rel => exact ⟨p + 1, unwantU V dd, HLT.out, by go_num, by rw [wantN_unwant HV.out.1.srtU _ _ (by rw [HV.out.2.1]; omega), if_pos rfl, HV.out.2.1]; omega, by have := len_unwant V HV.out.1.srtU dd; have := HV.out.2.2; omega, H7.out⟩
          case measure => simp [intOf]; have := HLT.out; omega
        · have hnp : ¬ (p : Int) < m := by omega
          obtain rfl : p = m := by omega
          clear hlt hpm
          obtain ⟨left, hleft⟩ : ∃ x : Int, x = max 0 ((j : Int) - p) := ⟨_, rfl⟩
          have wsub : IntKind.i64.wrap ((j : Int) - p) = (j : Int) - p := IntWalk.i64_in _ (by omega)
          have hl9 : left ≤ 9 ∧ 0 ≤ left := by omega
          have hVl := HV.out.2.1
          rw [← hleft] at hVl
          have HL := Lib.hid (And.intro hleft (And.intro hl9 hVl))
          have hg0 : dget (dput ([] : Pm) dd (1, c)) dd = some (1, c) := by rw [SrtD.nil.get_put, if_pos rfl]
          clear hVl
          by_cases h0 : left = 0
          · have e2 : unnE (dput [] dd (1, c)) V 2 dd = 8 := by unfold unnE; rw [hg0]; simp
            have e1 : unnE (dput [] dd (1, c)) V 1 dd = 0 := by unfold unnE; rw [hg0]; simp [HL.out.2.2, h0]
            have g0 : dget (ddel (dput ([] : Pm) dd (1, c)) dd) dd = none := by rw [(SrtD.nil.put dd _).get_del, if_pos rfl]
            have HE2 := Lib.hid (And.intro e2 (And.intro e1 g0))
            subst h0
            clear e2 e1 g0 hg0 hleft
            have tok1 : True := trivial
            go_upto_region 20 with (first
              | (refine wpl_loadR (r := hshR) (t := dd) _ rfl rfl rfl (by first | exact H9.out.box List.mem_cons_self | exact H8.out.box List.mem_cons_self | exact HV.out.1.box List.mem_cons_self) ?_)
              | (go_at_call 18; have _t := tok1; refine (HV.out.1.unnote dd 2).mono ?_; unfold unnA unnP; rw [HE2.out.1, if_neg (by decide), if_neg (by decide)]; rintro e w8 ⟨rfl, hp⟩; have H8 := Lib.hid hp; clear hp tok1)
              | (go_at_call 18; refine (H8.out.unnote dd 1).mono ?_; unfold unnA unnP; rw [HE2.out.2.1, if_pos rfl, if_pos rfl]; rintro e w9 ⟨rfl, hp⟩; have H9 := Lib.hid hp; clear hp)
              | (go_at_call 24; refine (H9.out.get dd).mono ?_; rintro e wx ⟨(⟨-, rfl⟩ | ⟨q, y, hq, -⟩), hp, -⟩; rotate_left; exact absurd (HE2.out.2.2.symm.trans hq) (by simp); have HX := Lib.hid hp; clear hp)
              | (refine wpl_storeD (vs := zero4) _ _ rfl rfl rfl rfl (World.alloc_heap_new wx _) rfl rfl (ones4D 0 0 0 none 0 0) ?_; obtain ⟨wy, hwy⟩ : ∃ W, W = (wx.alloc (.cells zero4 45)).setRow wx.heap.size zero4 := ⟨_, rfl⟩; have hb : Below wx.heap.size wx wy := by { rw [hwy]; exact setRow_below ((Below.refl _ wx).alloc (Nat.le_refl _) _) (Nat.le_refl _) }; rw [← hwy]; have HY := Lib.hid (HX.out.below hb); clear hb hwy)
              | fail)
            rw [← HL.out.1]
            have hu := Tryz.underlying41
            have hsz := infoHD dd
            have eqh : ∀ w, (eqHash (.agg (Bs dd.s).toArray) (.agg (Bs dd.s).toArray)).run Tryz.prog w = .ok (.bool true) w := fun w => (eqH_D dd dd w).trans (by simp)
            have RG := guardH8
            have KY := Lib.hid (And.intro (HY.out.drew.box List.mem_cons_self) (run_loadCG (HY.out.drew.box (List.mem_cons_of_mem _ List.mem_cons_self)) rfl))
            refine wp_region_noPanic ?_
            refine wp_region_held_drew (S := (fun w' => w'.rangeAt hb 0 (Bs dd.s) ∧ (loadC (.pointer (some ⟨cb, 0, none⟩))).run Tryz.prog w' = .ok (.agg #[.int .i64 k, .int .i64 t, .int .i64 z, .slice ao kl cap]) w')) (by kernel_rfl) KY.out (fun hHeld => ?_)
            refine wpAnyH_take (i := 0) (oi := Oper.mk _ _ _ _ _ _) (v := ?_) rfl (by kernel_rfl) (by kernel_rfl) (by kernel_rfl) (fun _ _ _ h => h) (Or.inl ⟨by rfl, ?_⟩) (by assumption) ?_
            rotate_left
            · (intro w hSw; (try dsimp only at hSw); go_simp; try with_reducible rfl)
            try simp only [Act.put, List.setIfInBounds_toArray, List.set_cons_zero, List.set_cons_succ]
            refine wpAnyH_take (i := 1) (oi := Oper.mk _ _ _ _ _ _) (v := ?_) rfl (by kernel_rfl) (by kernel_rfl) (by kernel_rfl) (fun _ _ _ h => h) (Or.inl ⟨by rfl, ?_⟩) (by assumption) ?_
            rotate_left
            · (intro w hSw; (try dsimp only at hSw); go_simp; try with_reducible rfl)
            try simp only [Act.put, List.setIfInBounds_toArray, List.set_cons_zero, List.set_cons_succ]
            refine wpAnyH_take (i := 2) (oi := Oper.mk _ _ _ _ _ _) (v := ?_) rfl (by kernel_rfl) (by kernel_rfl) (by kernel_rfl) (fun _ _ _ h => h) (Or.inl ⟨by rfl, ?_⟩) (by assumption) ?_
            rotate_left
            · (intro w hSw; (try dsimp only at hSw); go_simp; try with_reducible rfl)
            try simp only [Act.put, List.setIfInBounds_toArray, List.set_cons_zero, List.set_cons_succ]
            refine wpAnyH_take (i := 3) (oi := Oper.mk _ _ _ _ _ _) (v := _) rfl (by kernel_rfl) (by kernel_rfl) (by kernel_rfl) (fun _ _ _ h => h) (yieldsIf_load_mid (by rfl) _ _ rfl _ _ rfl _ _ (fun w hSw => hSw.1) hu rfl hsz) (by assumption) ?_
            try simp only [Act.put, List.setIfInBounds_toArray, List.set_cons_zero, List.set_cons_succ]
            refine wpAnyH_take (i := 4) (oi := Oper.mk _ _ _ _ _ _) (v := ?_) rfl (by kernel_rfl) (by kernel_rfl) (by kernel_rfl) (fun _ _ _ h => h) (Or.inl ⟨by rfl, ?_⟩) (by assumption) ?_
            rotate_left
            · (intro w hSw; (try dsimp only at hSw); go_simp; try with_reducible rfl)
            try simp only [Act.put, List.setIfInBounds_toArray, List.set_cons_zero, List.set_cons_succ]
            refine wpAnyH_ready (rs := [5]) (by kernel_rfl) (by simp) ?_
            refine AllReadyH.cons (o := Oper.mk _ _ _ _ _ _) rfl (fun K hK => ?_) AllReadyH.nil
            go_simp
            go_at_call 15
            refine (ref7_Sum d c _ wy.drew (RdC.below HY.out.drew.bl HRD.out)).mono ?_
            rw [← HE.out.2]
            rintro e wA ⟨rfl, hb⟩
            have HA := Lib.hid (HY.out.drew.below hb)
            have KA := Lib.hid (And.intro (HA.out.box List.mem_cons_self) (run_loadCG (HA.out.box (List.mem_cons_of_mem _ List.mem_cons_self)) rfl))
            clear hb
            try go_wp2_with fail
            refine hK.out _ _ KA.out (fun hHeld2 => ?_)
            clear hK K
            try simp only [Act.put, List.setIfInBounds_toArray, List.set_cons_zero, List.set_cons_succ]
            refine wpAnyH_take (i := 6) (oi := Oper.mk _ _ _ _ _ _) (v := ?_) rfl (by kernel_rfl) (by kernel_rfl) (by kernel_rfl) (fun _ _ _ h => h) (Or.inl ⟨by rfl, ?_⟩) (by assumption) ?_
            rotate_left
            · (intro w hSw; (try dsimp only at hSw); go_simp; try with_reducible rfl)
            try simp only [Act.put, List.setIfInBounds_toArray, List.set_cons_zero, List.set_cons_succ]
            refine wpAnyH_take (i := 7) (oi := Oper.mk _ _ _ _ _ _) (v := ?_) rfl (by kernel_rfl) (by kernel_rfl) (by kernel_rfl) (fun _ _ _ h => h) (Or.inl ⟨by rfl, ?_⟩) (by assumption) ?_
            rotate_left
            · (intro w hSw; (try dsimp only at hSw); go_simp; try with_reducible rfl)
            try simp only [Act.put, List.setIfInBounds_toArray, List.set_cons_zero, List.set_cons_succ]
            refine wpAnyH_take (i := 8) (oi := Oper.mk _ _ _ _ _ _) (v := ?_) rfl (by kernel_rfl) (by kernel_rfl) (by kernel_rfl) (fun _ _ _ h => h) (Or.inl ⟨by rfl, ?_⟩) (by assumption) ?_
            rotate_left
            · (intro w hSw; (try dsimp only at hSw); go_simp; try with_reducible rfl)
            try simp only [Act.put, List.setIfInBounds_toArray, List.set_cons_zero, List.set_cons_succ]
            refine wpAnyH_take (i := 9) (oi := Oper.mk _ _ _ _ _ _) (v := ?_) rfl (by kernel_rfl) (by kernel_rfl) (by kernel_rfl) (fun _ _ _ h => h) (Or.inl ⟨by rfl, ?_⟩) (by assumption) ?_
            rotate_left
            · (intro w hSw; (try dsimp only at hSw); go_simp; try with_reducible rfl)
            try simp only [Act.put, List.setIfInBounds_toArray, List.set_cons_zero, List.set_cons_succ]
            refine wpAnyH_take (i := 10) (oi := Oper.mk _ _ _ _ _ _) (v := _) rfl (by kernel_rfl) (by kernel_rfl) (by kernel_rfl) (fun _ _ _ h => h) (yieldsIf_load_mid (by rfl) _ _ rfl _ _ rfl _ _ (fun w hSw => hSw.1) hu rfl hsz) (by assumption) ?_
            try simp only [Act.put, List.setIfInBounds_toArray, List.set_cons_zero, List.set_cons_succ]
            refine wpAnyH_take (i := 12) (oi := Oper.mk _ _ _ _ _ _) (v := ?_) rfl (by kernel_rfl) (by kernel_rfl) (by kernel_rfl) (fun _ _ _ h => h) (Or.inl ⟨by rfl, ?_⟩) (by assumption) ?_
            rotate_left
            · (intro w hSw; (try dsimp only at hSw); go_simp; try with_reducible rfl)
            try simp only [Act.put, List.setIfInBounds_toArray, List.set_cons_zero, List.set_cons_succ]
            refine wpAnyH_ready (rs := [11]) (by kernel_rfl) (by simp) ?_
            refine AllReadyH.cons (o := Oper.mk _ _ _ _ _ _) rfl (fun K hK => ?_) AllReadyH.nil
            go_simp
            go_at_call 26
            refine (HA.out.wanted dd).mono ?_
            rw [HL.out.2.2]
            rintro e wB ⟨rfl, hp, -⟩
            have HB := Lib.hid hp
            have KB := Lib.hid (And.intro (hp.box List.mem_cons_self) (run_loadCG (hp.box (List.mem_cons_of_mem _ List.mem_cons_self)) rfl))
            clear hp
            try go_wp2_with fail
            refine hK.out _ _ KB.out (fun hHeld2 => ?_)
            clear hK K
            try simp only [Act.put, List.setIfInBounds_toArray, List.set_cons_zero, List.set_cons_succ]
            refine wpAnyH_take (i := 13) (oi := Oper.mk _ _ _ _ _ _) (v := ?_) rfl (by kernel_rfl) (by kernel_rfl) (by kernel_rfl) (fun _ _ _ h => h) (Or.inl ⟨by rfl, ?_⟩) (by assumption) ?_
            rotate_left
            · (intro w hSw; (try dsimp only at hSw); go_simp; try with_reducible rfl)
            try simp only [Act.put, List.setIfInBounds_toArray, List.set_cons_zero, List.set_cons_succ]
            refine wpAnyH_take (i := 14) (oi := Oper.mk _ _ _ _ _ _) (v := ?_) rfl (by kernel_rfl) (by kernel_rfl) (by kernel_rfl) (fun _ _ _ h => h) (Or.inl ⟨by rfl, ?_⟩) (by assumption) ?_
            rotate_left
            · (intro w hSw; (try dsimp only at hSw); go_simp; try with_reducible rfl)
            try simp only [Act.put, List.setIfInBounds_toArray, List.set_cons_zero, List.set_cons_succ]
            refine wpAnyH_take (i := 15) (oi := Oper.mk _ _ _ _ _ _) (v := ?_) rfl (by kernel_rfl) (by kernel_rfl) (by kernel_rfl) (fun _ _ _ h => h) (Or.inl ⟨by rfl, ?_⟩) (by assumption) ?_
            rotate_left
            · (intro w hSw; (try dsimp only at hSw); go_simp; try with_reducible rfl)
            try simp only [Act.put, List.setIfInBounds_toArray, List.set_cons_zero, List.set_cons_succ]
            refine wpAnyH_take (i := 16) (oi := Oper.mk _ _ _ _ _ _) (v := ?_) rfl (by kernel_rfl) (by kernel_rfl) (by kernel_rfl) (fun _ _ _ h => h) (Or.inl ⟨by rfl, ?_⟩) (by assumption) ?_
            rotate_left
            · (intro w hSw; (try dsimp only at hSw); go_simp; try with_reducible rfl)
            try simp only [Act.put, List.setIfInBounds_toArray, List.set_cons_zero, List.set_cons_succ]
            refine wpAnyH_take (i := 17) (oi := Oper.mk _ _ _ _ _ _) (v := ?_) rfl (by kernel_rfl) (by kernel_rfl) (by kernel_rfl) (fun _ _ _ h => h) (Or.inl ⟨by rfl, ?_⟩) (by assumption) ?_
            rotate_left
            · (intro w hSw; (try dsimp only at hSw); go_simp; try with_reducible rfl)
            try simp only [Act.put, List.setIfInBounds_toArray, List.set_cons_zero, List.set_cons_succ]
            refine wpAnyH_take (i := 18) (oi := Oper.mk _ _ _ _ _ _) (v := ?_) rfl (by kernel_rfl) (by kernel_rfl) (by kernel_rfl) (fun _ _ _ h => h) (Or.inl ⟨by rfl, ?_⟩) (by assumption) ?_
            rotate_left
            · (intro w hSw; (try dsimp only at hSw); go_simp; try with_reducible rfl)
            try simp only [Act.put, List.setIfInBounds_toArray, List.set_cons_zero, List.set_cons_succ]
            refine wpAnyH_take (i := 19) (oi := Oper.mk _ _ _ _ _ _) (v := ?_) rfl (by kernel_rfl) (by kernel_rfl) (by kernel_rfl) (fun _ _ _ h => h) (Or.inl ⟨by rfl, ?_⟩) (by assumption) ?_
            rotate_left
            · (intro w hSw; (try dsimp only at hSw); go_simp; try with_reducible rfl)
            try simp only [Act.put, List.setIfInBounds_toArray, List.set_cons_zero, List.set_cons_succ]
            refine wpAnyH_take (i := 20) (oi := Oper.mk _ _ _ _ _ _) (v := ?_) rfl (by kernel_rfl) (by kernel_rfl) (by kernel_rfl) (fun _ _ _ h => h) (Or.inl ⟨by rfl, ?_⟩) (by assumption) ?_
            rotate_left
            · (intro w hSw; (try dsimp only at hSw); go_simp; try with_reducible rfl)
            try simp only [Act.put, List.setIfInBounds_toArray, List.set_cons_zero, List.set_cons_succ]
            refine wpAnyH_take (i := 21) (oi := Oper.mk _ _ _ _ _ _) (v := ?_) rfl (by kernel_rfl) (by kernel_rfl) (by kernel_rfl) (fun _ _ _ h => h) (Or.inl ⟨by rfl, ?_⟩) (by assumption) ?_
            rotate_left
            · (intro w hSw; (try dsimp only at hSw); go_simp; try with_reducible rfl)
            try simp only [Act.put, List.setIfInBounds_toArray, List.set_cons_zero, List.set_cons_succ]
            refine wpAnyH_take (i := 22) (oi := Oper.mk _ _ _ _ _ _) (v := ?_) rfl (by kernel_rfl) (by kernel_rfl) (by kernel_rfl) (fun _ _ _ h => h) (Or.inl ⟨by rfl, ?_⟩) (by assumption) ?_
            rotate_left
            · (intro w hSw; (try dsimp only at hSw); go_simp; try with_reducible rfl)
            try simp only [Act.put, List.setIfInBounds_toArray, List.set_cons_zero, List.set_cons_succ]
            refine wpAnyH_take (i := 23) (oi := Oper.mk _ _ _ _ _ _) (v := ?_) rfl (by kernel_rfl) (by kernel_rfl) (by kernel_rfl) (fun _ _ _ h => h) (Or.inl ⟨by rfl, ?_⟩) (by assumption) ?_
            rotate_left
            · (intro w hSw; (try dsimp only at hSw); go_simp; try with_reducible rfl)
            try simp only [Act.put, List.setIfInBounds_toArray, List.set_cons_zero, List.set_cons_succ]
            refine wpAnyH_take (i := 24) (oi := Oper.mk _ _ _ _ _ _) (v := ?_) rfl (by kernel_rfl) (by kernel_rfl) (by kernel_rfl) (fun _ _ _ h => h) (Or.inl ⟨by rfl, ?_⟩) (by assumption) ?_
            rotate_left
            · (intro w hSw; (try dsimp only at hSw); go_simp; try with_reducible rfl)
            try simp only [Act.put, List.setIfInBounds_toArray, List.set_cons_zero, List.set_cons_succ]
            refine wpAnyH_take (i := 25) (oi := Oper.mk _ _ _ _ _ _) (v := ?_) rfl (by kernel_rfl) (by kernel_rfl) (by kernel_rfl) (fun _ _ _ h => h) (Or.inl ⟨by rfl, ?_⟩) (by assumption) ?_
            rotate_left
            · (intro w hSw; (try dsimp only at hSw); go_simp; try with_reducible rfl)
            try simp only [Act.put, List.setIfInBounds_toArray, List.set_cons_zero, List.set_cons_succ]
            refine wpAnyH_take (i := 26) (oi := Oper.mk _ _ _ _ _ _) (v := ?_) rfl (by kernel_rfl) (by kernel_rfl) (by kernel_rfl) (fun _ _ _ h => h) (Or.inl ⟨by rfl, ?_⟩) (by assumption) ?_
            rotate_left
            · (intro w hSw; (try dsimp only at hSw); go_simp; try with_reducible rfl)
            try simp only [Act.put, List.setIfInBounds_toArray, List.set_cons_zero, List.set_cons_succ]
            refine wpAnyH_take (i := 27) (oi := Oper.mk _ _ _ _ _ _) (v := ?_) rfl (by kernel_rfl) (by kernel_rfl) (by kernel_rfl) (fun _ _ _ h => h) (Or.inl ⟨by rfl, ?_⟩) (by assumption) ?_
            rotate_left
            · (intro w hSw; (try dsimp only at hSw); go_simp; try with_reducible rfl)
            try simp only [Act.put, List.setIfInBounds_toArray, List.set_cons_zero, List.set_cons_succ]
            refine wpAnyH_take (i := 28) (oi := Oper.mk _ _ _ _ _ _) (v := ?_) rfl (by kernel_rfl) (by kernel_rfl) (by kernel_rfl) (fun _ _ _ h => h) (Or.inl ⟨by rfl, ?_⟩) (by assumption) ?_
            rotate_left
            · (intro w hSw; (try dsimp only at hSw); go_simp; try with_reducible rfl)
            try simp only [Act.put, List.setIfInBounds_toArray, List.set_cons_zero, List.set_cons_succ]
            refine wpAnyH_take (i := 29) (oi := Oper.mk _ _ _ _ _ _) (v := ?_) rfl (by kernel_rfl) (by kernel_rfl) (by kernel_rfl) (fun _ _ _ h => h) (Or.inl ⟨by rfl, ?_⟩) (by assumption) ?_
            rotate_left
            · (intro w hSw; (try dsimp only at hSw); go_simp; try with_reducible rfl)
            try simp only [Act.put, List.setIfInBounds_toArray, List.set_cons_zero, List.set_cons_succ]
            refine wpAnyH_take (i := 30) (oi := Oper.mk _ _ _ _ _ _) (v := ?_) rfl (by kernel_rfl) (by kernel_rfl) (by kernel_rfl) (fun _ _ _ h => h) (Or.inl ⟨by rfl, ?_⟩) (by assumption) ?_
            rotate_left
            · (intro w hSw; (try dsimp only at hSw); go_simp; try with_reducible rfl)
            try simp only [Act.put, List.setIfInBounds_toArray, List.set_cons_zero, List.set_cons_succ]
            refine wpAnyH_take (i := 31) (oi := Oper.mk _ _ _ _ _ _) (v := ?_) rfl (by kernel_rfl) (by kernel_rfl) (by kernel_rfl) (fun _ _ _ h => h) (Or.inl ⟨by rfl, ?_⟩) (by assumption) ?_
            rotate_left
            · (intro w hSw; (try dsimp only at hSw); go_simp; try with_reducible rfl)
            try simp only [Act.put, List.setIfInBounds_toArray, List.set_cons_zero, List.set_cons_succ]
            refine wpAnyH_take (i := 32) (oi := Oper.mk _ _ _ _ _ _) (v := ?_) rfl (by kernel_rfl) (by kernel_rfl) (by kernel_rfl) (fun _ _ _ h => h) (Or.inl ⟨by rfl, ?_⟩) (by assumption) ?_
            rotate_left
            · (intro w hSw; (try dsimp only at hSw); go_simp; try with_reducible rfl)
            try simp only [Act.put, List.setIfInBounds_toArray, List.set_cons_zero, List.set_cons_succ]
            refine wpAnyH_take (i := 33) (oi := Oper.mk _ _ _ _ _ _) (v := ?_) rfl (by kernel_rfl) (by kernel_rfl) (by kernel_rfl) (fun _ _ _ h => h) (Or.inl ⟨by rfl, ?_⟩) (by assumption) ?_
            rotate_left
            · (intro w hSw; (try dsimp only at hSw); go_simp; try with_reducible rfl)
            try simp only [Act.put, List.setIfInBounds_toArray, List.set_cons_zero, List.set_cons_succ]
            refine wpAnyH_take (i := 34) (oi := Oper.mk _ _ _ _ _ _) (v := ?_) rfl (by kernel_rfl) (by kernel_rfl) (by kernel_rfl) (fun _ _ _ h => h) (Or.inl ⟨by rfl, ?_⟩) (by assumption) ?_
            rotate_left
            · (intro w hSw; (try dsimp only at hSw); go_simp; try with_reducible rfl)
            try simp only [Act.put, List.setIfInBounds_toArray, List.set_cons_zero, List.set_cons_succ]
            refine wpAnyH_take (i := 35) (oi := Oper.mk _ _ _ _ _ _) (v := ?_) rfl (by kernel_rfl) (by kernel_rfl) (by kernel_rfl) (fun _ _ _ h => h) (Or.inl ⟨by rfl, ?_⟩) (by assumption) ?_
            rotate_left
            · (intro w hSw; (try dsimp only at hSw); go_simp; try with_reducible rfl)
            try simp only [Act.put, List.setIfInBounds_toArray, List.set_cons_zero, List.set_cons_succ]
            refine wpAnyH_take (i := 36) (oi := Oper.mk _ _ _ _ _ _) (v := undef) rfl (by kernel_rfl) (by kernel_rfl) (by kernel_rfl) (fun _ _ _ h => h) (Or.inr ⟨by rfl, rfl⟩) (by assumption) ?_
            try simp only [Act.put, List.setIfInBounds_toArray, List.set_cons_zero, List.set_cons_succ]
            refine wpAnyH_take (i := 37) (oi := Oper.mk _ _ _ _ _ _) (v := undef) rfl (by kernel_rfl) (by kernel_rfl) (by kernel_rfl) (fun _ _ _ h => h) (Or.inr ⟨by rfl, rfl⟩) (by assumption) ?_
            try simp only [Act.put, List.setIfInBounds_toArray, List.set_cons_zero, List.set_cons_succ]
            refine wpAnyH_take (i := 38) (oi := Oper.mk _ _ _ _ _ _) (v := ?_) rfl (by kernel_rfl) (by kernel_rfl) (by kernel_rfl) (fun _ _ _ h => h) (Or.inl ⟨by rfl, ?_⟩) (by assumption) ?_
            rotate_left
            · (intro w hSw; (try dsimp only at hSw); go_simp; try with_reducible rfl)
            try simp only [Act.put, List.setIfInBounds_toArray, List.set_cons_zero, List.set_cons_succ]
            refine wpAnyH_take (i := 39) (oi := Oper.mk _ _ _ _ _ _) (v := ?_) rfl (by kernel_rfl) (by kernel_rfl) (by kernel_rfl) (fun _ _ _ h => h) (Or.inl ⟨by rfl, ?_⟩) (by assumption) ?_
            rotate_left
            · (intro w hSw; (try dsimp only at hSw); go_simp; try with_reducible rfl)
            try simp only [Act.put, List.setIfInBounds_toArray, List.set_cons_zero, List.set_cons_succ]
            refine wpAnyH_take (i := 40) (oi := Oper.mk _ _ _ _ _ _) (v := ?_) rfl (by kernel_rfl) (by kernel_rfl) (by kernel_rfl) (fun _ _ _ h => h) (Or.inl ⟨by rfl, ?_⟩) (by assumption) ?_
            rotate_left
            · (intro w hSw; (try dsimp only at hSw); go_simp; try with_reducible rfl)
            try simp only [Act.put, List.setIfInBounds_toArray, List.set_cons_zero, List.set_cons_succ]
            refine wpAnyH_ready (rs := [41]) (by kernel_rfl) (by simp) ?_
            refine AllReadyH.cons (o := Oper.mk _ _ _ _ _ _) rfl (fun K hK => ?_) AllReadyH.nil
            go_simp
            go_at_call 14
            refine (law8_known wB (HR.out.2.2.1.below HB.out.bl HR.out.2.2.1.lt)).mono ?_
            rintro e wC ⟨rfl, hb⟩
            have HC := Lib.hid (HB.out.below hb)
            have KC := Lib.hid (And.intro (HC.out.box List.mem_cons_self) (run_loadCG (HC.out.box (List.mem_cons_of_mem _ List.mem_cons_self)) rfl))
            clear hb
            try go_wp2_with fail
            refine hK.out _ _ KC.out (fun hHeld2 => ?_)
            clear hK K
            try simp only [Act.put, List.setIfInBounds_toArray, List.set_cons_zero, List.set_cons_succ]
            refine wpAnyH_take (i := 42) (oi := Oper.mk _ _ _ _ _ _) (v := ?_) rfl (by kernel_rfl) (by kernel_rfl) (by kernel_rfl) (fun _ _ _ h => h) (Or.inl ⟨by rfl, ?_⟩) (by assumption) ?_
            rotate_left
            · (intro w hSw; (try dsimp only at hSw); go_simp; try with_reducible rfl)
            try simp only [Act.put, List.setIfInBounds_toArray, List.set_cons_zero, List.set_cons_succ]
            refine wpAnyH_take (i := 43) (oi := Oper.mk _ _ _ _ _ _) (v := ?_) rfl (by kernel_rfl) (by kernel_rfl) (by kernel_rfl) (fun _ _ _ h => h) (Or.inl ⟨by rfl, ?_⟩) (by assumption) ?_
            rotate_left
            · (intro w hSw; (try dsimp only at hSw); go_simp; try with_reducible rfl)
            try simp only [Act.put, List.setIfInBounds_toArray, List.set_cons_zero, List.set_cons_succ]
            refine wpAnyH_done (by kernel_rfl) ?_ _
            refine NoPanic.normal ?_
            go_wp2_with fail
            exact bodyPost_ret (v := .bool true) (by simp [results, Tryz.results5, go_sem]) rfl ⟨rfl, HC.out.bl⟩
          · have e2 : unnE (dput [] dd (1, c)) V 2 dd = 8 := by unfold unnE; rw [hg0]; simp
            have e1 : unnE (dput [] dd (1, c)) V 1 dd = 9 := by unfold unnE; rw [hg0]; simp [HL.out.2.2]; omega
            have HE2 := Lib.hid (And.intro e2 (And.intro e1 hg0))
            have hl0 : (left == 0) = false := by simpa using h0
            have hl1 : left > 0 := by omega
            clear e2 e1 hg0 hleft h0
            have tok1 : True := trivial
            go_upto_region 20 with (first
              | (refine wpl_loadR (r := hshR) (t := dd) _ rfl rfl rfl (by first | exact H9.out.box List.mem_cons_self | exact H8.out.box List.mem_cons_self | exact HV.out.1.box List.mem_cons_self) ?_)
              | (go_at_call 18; have _t := tok1; refine (HV.out.1.unnote dd 2).mono ?_; unfold unnA unnP; rw [HE2.out.1, if_neg (by decide), if_neg (by decide)]; rintro e w8 ⟨rfl, hp⟩; have H8 := Lib.hid hp; clear hp tok1)
              | (go_at_call 18; refine (H8.out.unnote dd 1).mono ?_; unfold unnA unnP; rw [HE2.out.2.1, if_neg (by decide), if_neg (by decide)]; rintro e w9 ⟨rfl, hp⟩; have H9 := Lib.hid hp; clear hp)
              | (go_at_call 24; refine (H9.out.get dd).mono ?_; rintro e wx ⟨(⟨hn, -⟩ | ⟨q, ⟨y1, y2, y3, y4, y5, y6⟩, hq, rfl, -⟩), hp, -⟩; exact absurd (HE2.out.2.2.symm.trans hn) (by simp); have HX := Lib.hid hp; clear hp)
              | (refine wpl_storeD (vs := #[.int .i64 y1, .int .i64 y2, .int .i64 y3, .slice y4 y5 y6]) _ _ rfl rfl rfl rfl (World.alloc_heap_new wx _) rfl rfl (ones4D y1 y2 y3 _ _ _) ?_; obtain ⟨wy, hwy⟩ : ∃ W, W = (wx.alloc (.cells zero4 45)).setRow wx.heap.size #[.int .i64 y1, .int .i64 y2, .int .i64 y3, .slice y4 y5 y6] := ⟨_, rfl⟩; have hb : Below wx.heap.size wx wy := by { rw [hwy]; exact setRow_below ((Below.refl _ wx).alloc (Nat.le_refl _) _) (Nat.le_refl _) }; rw [← hwy]; have HY := Lib.hid (HX.out.below hb); clear hb hwy)
              | fail)
            rw [← HL.out.1]
            have hu := Tryz.underlying41
            have hsz := infoHD dd
            have eqh : ∀ w, (eqHash (.agg (Bs dd.s).toArray) (.agg (Bs dd.s).toArray)).run Tryz.prog w = .ok (.bool true) w := fun w => (eqH_D dd dd w).trans (by simp)
            have RG := guardH8
            have KY := Lib.hid (And.intro (HY.out.drew.box List.mem_cons_self) (run_loadCG (HY.out.drew.box (List.mem_cons_of_mem _ List.mem_cons_self)) rfl))
            refine wp_region_noPanic ?_
            refine wp_region_held_drew (S := (fun w' => w'.rangeAt hb 0 (Bs dd.s) ∧ (loadC (.pointer (some ⟨cb, 0, none⟩))).run Tryz.prog w' = .ok (.agg #[.int .i64 k, .int .i64 t, .int .i64 z, .slice ao kl cap]) w')) (by kernel_rfl) KY.out (fun hHeld => ?_)
            refine wpAnyH_take (i := 0) (oi := Oper.mk _ _ _ _ _ _) (v := ?_) rfl (by kernel_rfl) (by kernel_rfl) (by kernel_rfl) (fun _ _ _ h => h) (Or.inl ⟨by rfl, ?_⟩) (by assumption) ?_
            rotate_left
            · (intro w hSw; (try dsimp only at hSw); go_simp; try with_reducible rfl)
            try simp only [Act.put, List.setIfInBounds_toArray, List.set_cons_zero, List.set_cons_succ]
            refine wpAnyH_take (i := 1) (oi := Oper.mk _ _ _ _ _ _) (v := ?_) rfl (by kernel_rfl) (by kernel_rfl) (by kernel_rfl) (fun _ _ _ h => h) (Or.inl ⟨by rfl, ?_⟩) (by assumption) ?_
            rotate_left
            · (intro w hSw; (try dsimp only at hSw); go_simp; try with_reducible rfl)
            try simp only [Act.put, List.setIfInBounds_toArray, List.set_cons_zero, List.set_cons_succ]
            refine wpAnyH_take (i := 2) (oi := Oper.mk _ _ _ _ _ _) (v := ?_) rfl (by kernel_rfl) (by kernel_rfl) (by kernel_rfl) (fun _ _ _ h => h) (Or.inl ⟨by rfl, ?_⟩) (by assumption) ?_
            rotate_left
            · (intro w hSw; (try dsimp only at hSw); go_simp; try with_reducible rfl)
            try simp only [Act.put, List.setIfInBounds_toArray, List.set_cons_zero, List.set_cons_succ]
            refine wpAnyH_take (i := 3) (oi := Oper.mk _ _ _ _ _ _) (v := _) rfl (by kernel_rfl) (by kernel_rfl) (by kernel_rfl) (fun _ _ _ h => h) (yieldsIf_load_mid (by rfl) _ _ rfl _ _ rfl _ _ (fun w hSw => hSw.1) hu rfl hsz) (by assumption) ?_
            try simp only [Act.put, List.setIfInBounds_toArray, List.set_cons_zero, List.set_cons_succ]
            refine wpAnyH_take (i := 4) (oi := Oper.mk _ _ _ _ _ _) (v := ?_) rfl (by kernel_rfl) (by kernel_rfl) (by kernel_rfl) (fun _ _ _ h => h) (Or.inl ⟨by rfl, ?_⟩) (by assumption) ?_
            rotate_left
            · (intro w hSw; (try dsimp only at hSw); go_simp; try with_reducible rfl)
            try simp only [Act.put, List.setIfInBounds_toArray, List.set_cons_zero, List.set_cons_succ]
            refine wpAnyH_ready (rs := [5]) (by kernel_rfl) (by simp) ?_
            refine AllReadyH.cons (o := Oper.mk _ _ _ _ _ _) rfl (fun K hK => ?_) AllReadyH.nil
            go_simp
            go_at_call 15
            refine (ref7_Sum d c _ wy.drew (RdC.below HY.out.drew.bl HRD.out)).mono ?_
            rw [← HE.out.2]
            rintro e wA ⟨rfl, hb⟩
            have HA := Lib.hid (HY.out.drew.below hb)
            have KA := Lib.hid (And.intro (HA.out.box List.mem_cons_self) (run_loadCG (HA.out.box (List.mem_cons_of_mem _ List.mem_cons_self)) rfl))
            clear hb
            try go_wp2_with fail
            refine hK.out _ _ KA.out (fun hHeld2 => ?_)
            clear hK K
            try simp only [Act.put, List.setIfInBounds_toArray, List.set_cons_zero, List.set_cons_succ]
            refine wpAnyH_take (i := 6) (oi := Oper.mk _ _ _ _ _ _) (v := ?_) rfl (by kernel_rfl) (by kernel_rfl) (by kernel_rfl) (fun _ _ _ h => h) (Or.inl ⟨by rfl, ?_⟩) (by assumption) ?_
            rotate_left
            · (intro w hSw; (try dsimp only at hSw); go_simp; try with_reducible rfl)
            try simp only [Act.put, List.setIfInBounds_toArray, List.set_cons_zero, List.set_cons_succ]
            refine wpAnyH_take (i := 7) (oi := Oper.mk _ _ _ _ _ _) (v := ?_) rfl (by kernel_rfl) (by kernel_rfl) (by kernel_rfl) (fun _ _ _ h => h) (Or.inl ⟨by rfl, ?_⟩) (by assumption) ?_
            rotate_left
            · (intro w hSw; (try dsimp only at hSw); go_simp; try with_reducible rfl)
            try simp only [Act.put, List.setIfInBounds_toArray, List.set_cons_zero, List.set_cons_succ]
            refine wpAnyH_take (i := 8) (oi := Oper.mk _ _ _ _ _ _) (v := ?_) rfl (by kernel_rfl) (by kernel_rfl) (by kernel_rfl) (fun _ _ _ h => h) (Or.inl ⟨by rfl, ?_⟩) (by assumption) ?_
            rotate_left
            · (intro w hSw; (try dsimp only at hSw); go_simp; try with_reducible rfl)
            try simp only [Act.put, List.setIfInBounds_toArray, List.set_cons_zero, List.set_cons_succ]
            refine wpAnyH_take (i := 9) (oi := Oper.mk _ _ _ _ _ _) (v := ?_) rfl (by kernel_rfl) (by kernel_rfl) (by kernel_rfl) (fun _ _ _ h => h) (Or.inl ⟨by rfl, ?_⟩) (by assumption) ?_
            rotate_left
            · (intro w hSw; (try dsimp only at hSw); go_simp; try with_reducible rfl)
            try simp only [Act.put, List.setIfInBounds_toArray, List.set_cons_zero, List.set_cons_succ]
            refine wpAnyH_take (i := 10) (oi := Oper.mk _ _ _ _ _ _) (v := _) rfl (by kernel_rfl) (by kernel_rfl) (by kernel_rfl) (fun _ _ _ h => h) (yieldsIf_load_mid (by rfl) _ _ rfl _ _ rfl _ _ (fun w hSw => hSw.1) hu rfl hsz) (by assumption) ?_
            try simp only [Act.put, List.setIfInBounds_toArray, List.set_cons_zero, List.set_cons_succ]
            refine wpAnyH_take (i := 12) (oi := Oper.mk _ _ _ _ _ _) (v := ?_) rfl (by kernel_rfl) (by kernel_rfl) (by kernel_rfl) (fun _ _ _ h => h) (Or.inl ⟨by rfl, ?_⟩) (by assumption) ?_
            rotate_left
            · (intro w hSw; (try dsimp only at hSw); go_simp; try with_reducible rfl)
            try simp only [Act.put, List.setIfInBounds_toArray, List.set_cons_zero, List.set_cons_succ]
            refine wpAnyH_ready (rs := [11]) (by kernel_rfl) (by simp) ?_
            refine AllReadyH.cons (o := Oper.mk _ _ _ _ _ _) rfl (fun K hK => ?_) AllReadyH.nil
            go_simp
            go_at_call 26
            refine (HA.out.wanted dd).mono ?_
            rw [HL.out.2.2]
            rintro e wB ⟨rfl, hp, -⟩
            have HB := Lib.hid hp
            have KB := Lib.hid (And.intro (hp.box List.mem_cons_self) (run_loadCG (hp.box (List.mem_cons_of_mem _ List.mem_cons_self)) rfl))
            clear hp
            try go_wp2_with fail
            refine hK.out _ _ KB.out (fun hHeld2 => ?_)
            clear hK K
            try simp only [Act.put, List.setIfInBounds_toArray, List.set_cons_zero, List.set_cons_succ]
            refine wpAnyH_take (i := 13) (oi := Oper.mk _ _ _ _ _ _) (v := ?_) rfl (by kernel_rfl) (by kernel_rfl) (by kernel_rfl) (fun _ _ _ h => h) (Or.inl ⟨by rfl, ?_⟩) (by assumption) ?_
            rotate_left
            · (intro w hSw; (try dsimp only at hSw); go_simp; try with_reducible rfl)
            try simp only [Act.put, List.setIfInBounds_toArray, List.set_cons_zero, List.set_cons_succ]
            refine wpAnyH_take (i := 14) (oi := Oper.mk _ _ _ _ _ _) (v := ?_) rfl (by kernel_rfl) (by kernel_rfl) (by kernel_rfl) (fun _ _ _ h => h) (Or.inl ⟨by rfl, ?_⟩) (by assumption) ?_
            rotate_left
            · (intro w hSw; (try dsimp only at hSw); go_simp; try with_reducible rfl)
            try simp only [Act.put, List.setIfInBounds_toArray, List.set_cons_zero, List.set_cons_succ]
            refine wpAnyH_take (i := 15) (oi := Oper.mk _ _ _ _ _ _) (v := ?_) rfl (by kernel_rfl) (by kernel_rfl) (by kernel_rfl) (fun _ _ _ h => h) (Or.inl ⟨by rfl, ?_⟩) (by assumption) ?_
            rotate_left
            · (intro w hSw; (try dsimp only at hSw); go_simp; try with_reducible rfl)
            try simp only [Act.put, List.setIfInBounds_toArray, List.set_cons_zero, List.set_cons_succ]
            refine wpAnyH_take (i := 16) (oi := Oper.mk _ _ _ _ _ _) (v := ?_) rfl (by kernel_rfl) (by kernel_rfl) (by kernel_rfl) (fun _ _ _ h => h) (Or.inl ⟨by rfl, ?_⟩) (by assumption) ?_
            rotate_left
            · (intro w hSw; (try dsimp only at hSw); go_simp; try with_reducible rfl)
            try simp only [Act.put, List.setIfInBounds_toArray, List.set_cons_zero, List.set_cons_succ]
            refine wpAnyH_take (i := 17) (oi := Oper.mk _ _ _ _ _ _) (v := ?_) rfl (by kernel_rfl) (by kernel_rfl) (by kernel_rfl) (fun _ _ _ h => h) (Or.inl ⟨by rfl, ?_⟩) (by assumption) ?_
            rotate_left
            · (intro w hSw; (try dsimp only at hSw); go_simp; try with_reducible rfl)
            try simp only [Act.put, List.setIfInBounds_toArray, List.set_cons_zero, List.set_cons_succ]
            refine wpAnyH_take (i := 18) (oi := Oper.mk _ _ _ _ _ _) (v := ?_) rfl (by kernel_rfl) (by kernel_rfl) (by kernel_rfl) (fun _ _ _ h => h) (Or.inl ⟨by rfl, ?_⟩) (by assumption) ?_
            rotate_left
            · (intro w hSw; (try dsimp only at hSw); go_simp; try with_reducible rfl)
            try simp only [Act.put, List.setIfInBounds_toArray, List.set_cons_zero, List.set_cons_succ]
            refine wpAnyH_take (i := 19) (oi := Oper.mk _ _ _ _ _ _) (v := ?_) rfl (by kernel_rfl) (by kernel_rfl) (by kernel_rfl) (fun _ _ _ h => h) (Or.inl ⟨by rfl, ?_⟩) (by assumption) ?_
            rotate_left
            · (intro w hSw; (try dsimp only at hSw); go_simp; try with_reducible rfl)
            try simp only [Act.put, List.setIfInBounds_toArray, List.set_cons_zero, List.set_cons_succ]
            refine wpAnyH_take (i := 20) (oi := Oper.mk _ _ _ _ _ _) (v := ?_) rfl (by kernel_rfl) (by kernel_rfl) (by kernel_rfl) (fun _ _ _ h => h) (Or.inl ⟨by rfl, ?_⟩) (by assumption) ?_
            rotate_left
            · (intro w hSw; (try dsimp only at hSw); go_simp; try with_reducible rfl)
            try simp only [Act.put, List.setIfInBounds_toArray, List.set_cons_zero, List.set_cons_succ]
            refine wpAnyH_take (i := 21) (oi := Oper.mk _ _ _ _ _ _) (v := ?_) rfl (by kernel_rfl) (by kernel_rfl) (by kernel_rfl) (fun _ _ _ h => h) (Or.inl ⟨by rfl, ?_⟩) (by assumption) ?_
            rotate_left
            · (intro w hSw; (try dsimp only at hSw); go_simp; try with_reducible rfl)
            try simp only [Act.put, List.setIfInBounds_toArray, List.set_cons_zero, List.set_cons_succ]
            refine wpAnyH_take (i := 22) (oi := Oper.mk _ _ _ _ _ _) (v := ?_) rfl (by kernel_rfl) (by kernel_rfl) (by kernel_rfl) (fun _ _ _ h => h) (Or.inl ⟨by rfl, ?_⟩) (by assumption) ?_
            rotate_left
            · (intro w hSw; (try dsimp only at hSw); go_simp; try with_reducible rfl)
            try simp only [Act.put, List.setIfInBounds_toArray, List.set_cons_zero, List.set_cons_succ]
            refine wpAnyH_take (i := 23) (oi := Oper.mk _ _ _ _ _ _) (v := ?_) rfl (by kernel_rfl) (by kernel_rfl) (by kernel_rfl) (fun _ _ _ h => h) (Or.inl ⟨by rfl, ?_⟩) (by assumption) ?_
            rotate_left
            · (intro w hSw; (try dsimp only at hSw); go_simp; try with_reducible rfl)
            try simp only [Act.put, List.setIfInBounds_toArray, List.set_cons_zero, List.set_cons_succ]
            refine wpAnyH_take (i := 24) (oi := Oper.mk _ _ _ _ _ _) (v := ?_) rfl (by kernel_rfl) (by kernel_rfl) (by kernel_rfl) (fun _ _ _ h => h) (Or.inl ⟨by rfl, ?_⟩) (by assumption) ?_
            rotate_left
            · (intro w hSw; (try dsimp only at hSw); go_simp; try with_reducible rfl)
            try simp only [Act.put, List.setIfInBounds_toArray, List.set_cons_zero, List.set_cons_succ]
            refine wpAnyH_take (i := 25) (oi := Oper.mk _ _ _ _ _ _) (v := ?_) rfl (by kernel_rfl) (by kernel_rfl) (by kernel_rfl) (fun _ _ _ h => h) (Or.inl ⟨by rfl, ?_⟩) (by assumption) ?_
            rotate_left
            · (intro w hSw; (try dsimp only at hSw); go_simp; try with_reducible rfl)
            try simp only [Act.put, List.setIfInBounds_toArray, List.set_cons_zero, List.set_cons_succ]
            refine wpAnyH_take (i := 26) (oi := Oper.mk _ _ _ _ _ _) (v := ?_) rfl (by kernel_rfl) (by kernel_rfl) (by kernel_rfl) (fun _ _ _ h => h) (Or.inl ⟨by rfl, ?_⟩) (by assumption) ?_
            rotate_left
            · (intro w hSw; (try dsimp only at hSw); go_simp; try with_reducible rfl)
            try simp only [Act.put, List.setIfInBounds_toArray, List.set_cons_zero, List.set_cons_succ]
            refine wpAnyH_take (i := 27) (oi := Oper.mk _ _ _ _ _ _) (v := ?_) rfl (by kernel_rfl) (by kernel_rfl) (by kernel_rfl) (fun _ _ _ h => h) (Or.inl ⟨by rfl, ?_⟩) (by assumption) ?_
            rotate_left
            · (intro w hSw; (try dsimp only at hSw); go_simp; try with_reducible rfl)
            try simp only [Act.put, List.setIfInBounds_toArray, List.set_cons_zero, List.set_cons_succ]
            refine wpAnyH_take (i := 28) (oi := Oper.mk _ _ _ _ _ _) (v := ?_) rfl (by kernel_rfl) (by kernel_rfl) (by kernel_rfl) (fun _ _ _ h => h) (Or.inl ⟨by rfl, ?_⟩) (by assumption) ?_
            rotate_left
            · (intro w hSw; (try dsimp only at hSw); go_simp; try with_reducible rfl)
            try simp only [Act.put, List.setIfInBounds_toArray, List.set_cons_zero, List.set_cons_succ]
            refine wpAnyH_take (i := 29) (oi := Oper.mk _ _ _ _ _ _) (v := ?_) rfl (by kernel_rfl) (by kernel_rfl) (by kernel_rfl) (fun _ _ _ h => h) (Or.inl ⟨by rfl, ?_⟩) (by assumption) ?_
            rotate_left
            · (intro w hSw; (try dsimp only at hSw); go_simp; try with_reducible rfl)
            try simp only [Act.put, List.setIfInBounds_toArray, List.set_cons_zero, List.set_cons_succ]
            refine wpAnyH_take (i := 30) (oi := Oper.mk _ _ _ _ _ _) (v := ?_) rfl (by kernel_rfl) (by kernel_rfl) (by kernel_rfl) (fun _ _ _ h => h) (Or.inl ⟨by rfl, ?_⟩) (by assumption) ?_
            rotate_left
            · (intro w hSw; (try dsimp only at hSw); go_simp; try with_reducible rfl)
            try simp only [Act.put, List.setIfInBounds_toArray, List.set_cons_zero, List.set_cons_succ]
            refine wpAnyH_take (i := 31) (oi := Oper.mk _ _ _ _ _ _) (v := ?_) rfl (by kernel_rfl) (by kernel_rfl) (by kernel_rfl) (fun _ _ _ h => h) (Or.inl ⟨by rfl, ?_⟩) (by assumption) ?_
            rotate_left
            · (intro w hSw; (try dsimp only at hSw); go_simp; try with_reducible rfl)
            try simp only [Act.put, List.setIfInBounds_toArray, List.set_cons_zero, List.set_cons_succ]
            refine wpAnyH_take (i := 32) (oi := Oper.mk _ _ _ _ _ _) (v := ?_) rfl (by kernel_rfl) (by kernel_rfl) (by kernel_rfl) (fun _ _ _ h => h) (Or.inl ⟨by rfl, ?_⟩) (by assumption) ?_
            rotate_left
            · (intro w hSw; (try dsimp only at hSw); go_simp; try with_reducible rfl)
            try simp only [Act.put, List.setIfInBounds_toArray, List.set_cons_zero, List.set_cons_succ]
            refine wpAnyH_take (i := 33) (oi := Oper.mk _ _ _ _ _ _) (v := ?_) rfl (by kernel_rfl) (by kernel_rfl) (by kernel_rfl) (fun _ _ _ h => h) (Or.inl ⟨by rfl, ?_⟩) (by assumption) ?_
            rotate_left
            · (intro w hSw; (try dsimp only at hSw); go_simp; try with_reducible rfl)
            try simp only [Act.put, List.setIfInBounds_toArray, List.set_cons_zero, List.set_cons_succ]
            refine wpAnyH_take (i := 34) (oi := Oper.mk _ _ _ _ _ _) (v := ?_) rfl (by kernel_rfl) (by kernel_rfl) (by kernel_rfl) (fun _ _ _ h => h) (Or.inl ⟨by rfl, ?_⟩) (by assumption) ?_
            rotate_left
            · (intro w hSw; (try dsimp only at hSw); go_simp; try with_reducible rfl)
            try simp only [Act.put, List.setIfInBounds_toArray, List.set_cons_zero, List.set_cons_succ]
            refine wpAnyH_take (i := 35) (oi := Oper.mk _ _ _ _ _ _) (v := ?_) rfl (by kernel_rfl) (by kernel_rfl) (by kernel_rfl) (fun _ _ _ h => h) (Or.inl ⟨by rfl, ?_⟩) (by assumption) ?_
            rotate_left
            · (intro w hSw; (try dsimp only at hSw); go_simp; try with_reducible rfl)
            try simp only [Act.put, List.setIfInBounds_toArray, List.set_cons_zero, List.set_cons_succ]
            refine wpAnyH_take (i := 36) (oi := Oper.mk _ _ _ _ _ _) (v := ?_) rfl (by kernel_rfl) (by kernel_rfl) (by kernel_rfl) (fun _ _ _ h => h) (Or.inl ⟨by rfl, ?_⟩) (by assumption) ?_
            rotate_left
            · (intro w hSw; (try dsimp only at hSw); go_simp; try with_reducible rfl)
            try simp only [Act.put, List.setIfInBounds_toArray, List.set_cons_zero, List.set_cons_succ]
            refine wpAnyH_take (i := 37) (oi := Oper.mk _ _ _ _ _ _) (v := ?_) rfl (by kernel_rfl) (by kernel_rfl) (by kernel_rfl) (fun _ _ _ h => h) (Or.inl ⟨by rfl, ?_⟩) (by assumption) ?_
            rotate_left
            · (intro w hSw; (try dsimp only at hSw); go_simp; try with_reducible rfl)
            try simp only [Act.put, List.setIfInBounds_toArray, List.set_cons_zero, List.set_cons_succ]
            refine wpAnyH_take (i := 38) (oi := Oper.mk _ _ _ _ _ _) (v := ?_) rfl (by kernel_rfl) (by kernel_rfl) (by kernel_rfl) (fun _ _ _ h => h) (Or.inl ⟨by rfl, ?_⟩) (by assumption) ?_
            rotate_left
            · (intro w hSw; (try dsimp only at hSw); go_simp; try with_reducible rfl)
            try simp only [Act.put, List.setIfInBounds_toArray, List.set_cons_zero, List.set_cons_succ]
            refine wpAnyH_take (i := 39) (oi := Oper.mk _ _ _ _ _ _) (v := ?_) rfl (by kernel_rfl) (by kernel_rfl) (by kernel_rfl) (fun _ _ _ h => h) (Or.inl ⟨by rfl, ?_⟩) (by assumption) ?_
            rotate_left
            · (intro w hSw; (try dsimp only at hSw); go_simp; try with_reducible rfl)
            try simp only [Act.put, List.setIfInBounds_toArray, List.set_cons_zero, List.set_cons_succ]
            refine wpAnyH_take (i := 40) (oi := Oper.mk _ _ _ _ _ _) (v := ?_) rfl (by kernel_rfl) (by kernel_rfl) (by kernel_rfl) (fun _ _ _ h => h) (Or.inl ⟨by rfl, ?_⟩) (by assumption) ?_
            rotate_left
            · (intro w hSw; (try dsimp only at hSw); go_simp; try with_reducible rfl)
            try simp only [Act.put, List.setIfInBounds_toArray, List.set_cons_zero, List.set_cons_succ]
            refine wpAnyH_ready (rs := [41]) (by kernel_rfl) (by simp) ?_
            refine AllReadyH.cons (o := Oper.mk _ _ _ _ _ _) rfl (fun K hK => ?_) AllReadyH.nil
            go_simp
            go_at_call 14
            refine (law8_known wB (HR.out.2.2.1.below HB.out.bl HR.out.2.2.1.lt)).mono ?_
            rintro e wC ⟨rfl, hb⟩
            have HC := Lib.hid (HB.out.below hb)
            have KC := Lib.hid (And.intro (HC.out.box List.mem_cons_self) (run_loadCG (HC.out.box (List.mem_cons_of_mem _ List.mem_cons_self)) rfl))
            clear hb
            try go_wp2_with fail
            refine hK.out _ _ KC.out (fun hHeld2 => ?_)
            clear hK K
            try simp only [Act.put, List.setIfInBounds_toArray, List.set_cons_zero, List.set_cons_succ]
            refine wpAnyH_take (i := 42) (oi := Oper.mk _ _ _ _ _ _) (v := ?_) rfl (by kernel_rfl) (by kernel_rfl) (by kernel_rfl) (fun _ _ _ h => h) (Or.inl ⟨by rfl, ?_⟩) (by assumption) ?_
            rotate_left
            · (intro w hSw; (try dsimp only at hSw); go_simp; try with_reducible rfl)
            try simp only [Act.put, List.setIfInBounds_toArray, List.set_cons_zero, List.set_cons_succ]
            refine wpAnyH_take (i := 43) (oi := Oper.mk _ _ _ _ _ _) (v := ?_) rfl (by kernel_rfl) (by kernel_rfl) (by kernel_rfl) (fun _ _ _ h => h) (Or.inl ⟨by rfl, ?_⟩) (by assumption) ?_
            rotate_left
            · (intro w hSw; (try dsimp only at hSw); go_simp; try with_reducible rfl)
            try simp only [Act.put, List.setIfInBounds_toArray, List.set_cons_zero, List.set_cons_succ]
            refine wpAnyH_done (by kernel_rfl) ?_ _
            refine NoPanic.normal ?_
            go_wp2_with fail
            exact bodyPost_ret (v := .bool true) (by simp [results, Tryz.results5, go_sem]) rfl ⟨rfl, HC.out.bl⟩
end Go.Proofs.YtcfcfijmfgnpfaaGreatDoor
