/-
  IsExt of any extrinsic, walked. Printed by mkisx.py.
-/
import Derived.Test.YtbndegkgpoemnaaIsx0
namespace Go.Proofs.Ytbndegkgpoemnaa
open Go.RowKit
set_option linter.unusedVariables false
set_option linter.unusedSimpArgs false

attribute [local go_sem ↓] load_e store_e alloc_e build_e load_v load_c store_h store_v store_c build_h build_v build_c
set_option maxHeartbeats 8000000 in
set_option maxRecDepth 100000 in
theorem code_IsExtK (k who to' n r tr lv : Int) (hk : k = 1 ∨ k = 2 ∨ k = 3 ∨ k = 4 ∨ k = 5 ∨ k = 6 ∨ k = 7 ∨ k = 8 ∨ k = 9 ∨ k = 10 ∨ k = 11) (e : Ex) (he : e.hd = [k, who, to', n, r, tr, lv]) (cOk vOk : Bool) (w : World)
    (hc : ∀ W, Below w.heap.size w W → Calls Try.prog 24 #[.agg #[.int .i64 e.ck, .int .i64 e.ct, .int .i64 e.cn, .slice e.ca e.m e.cc]] W fun x w' => x = .returned (.bool cOk) ∧ Below W.heap.size W w')
    (hv : ∀ W, Calls Try.prog 45 #[.agg (vtc e.vote).toArray] W fun x w' => x = .returned (.bool vOk) ∧ Below W.heap.size W w') :
    Calls Try.prog 16 #[.agg (ec e).toArray] w fun x w' => x = .returned (.bool (fieldsOk k to' n r tr lv cOk vOk && (decide (0 ≤ who ∧ who < 10) && extEq (exWith (wiped k who to' n r tr lv e) (((wiped k who to' n r tr lv e).hd.set 0 0).set 1 0) (by simp [(wiped k who to' n r tr lv e).h7])) exZero))) ∧ Below w.heap.size w w' := by
  obtain ⟨wp, hwp⟩ : ∃ wp, wp = wiped k who to' n r tr lv e := ⟨_, rfl⟩
  rw [← hwp]
  have HWP := Lib.hid hwp
  clear hwp
  obtain ⟨v, hvv⟩ : ∃ v, v = exWith wp ((wp.hd.set 0 0).set 1 0) (by simp [wp.h7]) := ⟨_, rfl⟩
  rw [← hvv]
  obtain ⟨q2, hq2⟩ : ∃ q, q = decide (0 ≤ who ∧ who < 10) := ⟨_, rfl⟩
  obtain ⟨q3, hq3⟩ : ∃ q, q = extEq v exZero := ⟨_, rfl⟩
  rw [← hq2, ← hq3]
  have HVV := Lib.hid hvv
  have HQ2 := Lib.hid hq2
  have HQ3 := Lib.hid hq3
  clear hvv hq2 hq3
  obtain ⟨qa, hqa⟩ : ∃ q, q = decide (0 ≤ to' ∧ to' < 10) := ⟨_, rfl⟩
  obtain ⟨qb, hqb⟩ : ∃ q, q = decide (0 ≤ n ∧ n ≤ 1073741824) := ⟨_, rfl⟩
  obtain ⟨qt, hqt⟩ : ∃ q, q = decide (0 ≤ tr ∧ tr < 4) := ⟨_, rfl⟩
  obtain ⟨qr, hqr⟩ : ∃ q, q = decide (0 ≤ r ∧ r < 12) := ⟨_, rfl⟩
  obtain ⟨qp, hqp⟩ : ∃ q, q = decide (0 ≤ n ∧ n ≤ 1000) := ⟨_, rfl⟩
  obtain ⟨ql, hql⟩ : ∃ q, q = decide (0 ≤ lv ∧ lv ≤ 6) := ⟨_, rfl⟩
  have hfo0 : fieldsOk k to' n r tr lv cOk vOk = (if k = 1 then qa && qb else if k = 2 then cOk else if k = 3 then true else if k = 4 then qt && qp else if k = 7 then qr && vOk else if k = 9 then qt && (qa && (ql && qb)) else if k = 10 ∨ k = 11 then qt else qr) := by rw [hqa, hqb, hqt, hqr, hqp, hql]; rfl
  have HQA := Lib.hid hqa
  have HQB := Lib.hid hqb
  have HQT := Lib.hid hqt
  have HQR := Lib.hid hqr
  have HQP := Lib.hid hqp
  have HQL := Lib.hid hql
  obtain ⟨fo, hfo⟩ : ∃ q, q = fieldsOk k to' n r tr lv cOk vOk := ⟨_, rfl⟩
  rw [← hfo]
  rw [hfo0] at hfo
  have HFO := Lib.hid hfo
  clear hqa hqb hqt hqr hqp hql hfo0 hfo
  obtain ⟨W, hW⟩ : ∃ W, W = w.alloc (.cells (ec e).toArray 30) := ⟨_, rfl⟩
  have h1 := World.alloc_heap_new w (.cells (ec e).toArray 30)
  rw [← hW] at h1
  have h2 := (Below.heap_alloc W (.cells (ec exZero).toArray 30) w.heap.size (by rw [hW]; simp)).trans h1
  have h3 := World.alloc_heap_new W (.cells (ec exZero).toArray 30)
  have hs : W.heap.size = w.heap.size + 1 := by rw [hW]; simp
  rw [hs] at h3
  have RA := run_allocE
  have LE1 := run_loadE h1
  have LE2 := run_loadE h2
  have LE3 := run_loadE (w := W.drew) h1
  have LE4 := run_loadE (w := (W.alloc (.cells (ec exZero).toArray 30)).drew) h2
  have SE1 := run_storeE (e := e) h3
  have SE2 := run_storeE (w := (W.alloc (.cells (ec exZero).toArray 30)).drew) (e := e) h3
  have P0 := Lib.hid (pairE_new hW (ec exZero).toArray)
  have HK := Lib.hid hk
  have HE := Lib.hid he
  have HC := Lib.hid hc
  have HV := Lib.hid hv
  clear hk he hc hv
  go_enter Try.func16, Try.ntmps16
  go_upto_region 1 with fail
  rw [← hW]
  clear hW h1 h2 h3
  go_cut [3, 4] (fun p3 p4 wx => p3 = .bool true ∧ ∃ b1, p4 = .pointer (some ⟨b1, 0, none⟩) ∧ PairE w w.heap.size b1 e e wx)
  case first =>
    go_region
    all_goals go_wp2_with fail
    all_goals go_meet
    all_goals exact ⟨rfl, _, rfl, P0.out⟩
  case rest =>
    obtain ⟨rfl, b1, rfl, hp⟩ := hcut
    clear LE1 LE2 LE3 LE4 SE1 SE2 RA P0 hs
    have C0 : wc.cell? ⟨w.heap.size, 0, none⟩ = some (.int .i64 k) := by rw [hp.cell (by omega), HE.out]; rfl
    have C2 : wc.cell? ⟨w.heap.size, 2, none⟩ = some (.int .i64 to') := by rw [hp.cell (by omega), HE.out]; rfl
    have C3 : wc.cell? ⟨w.heap.size, 3, none⟩ = some (.int .i64 n) := by rw [hp.cell (by omega), HE.out]; rfl
    have C4 : wc.cell? ⟨w.heap.size, 4, none⟩ = some (.int .i64 r) := by rw [hp.cell (by omega), HE.out]; rfl
    have C5 : wc.cell? ⟨w.heap.size, 5, none⟩ = some (.int .i64 tr) := by rw [hp.cell (by omega), HE.out]; rfl
    have C6 : wc.cell? ⟨w.heap.size, 6, none⟩ = some (.int .i64 lv) := by rw [hp.cell (by omega), HE.out]; rfl
    have LV := run_loadV hp.c0
    have LC := run_loadC hp.c0
    have BH := run_buildH
    have BV := run_buildV
    have BC := run_buildC
    have HP := Lib.hid hp
    clear hp
    have D2 : wc.cell? ⟨b1, 2, none⟩ = some (.int .i64 to') := by rw [HP.out.cell1 (by omega), HE.out]; rfl
    have D3 : wc.cell? ⟨b1, 3, none⟩ = some (.int .i64 n) := by rw [HP.out.cell1 (by omega), HE.out]; rfl
    have D4 : wc.cell? ⟨b1, 4, none⟩ = some (.int .i64 r) := by rw [HP.out.cell1 (by omega), HE.out]; rfl
    have D5 : wc.cell? ⟨b1, 5, none⟩ = some (.int .i64 tr) := by rw [HP.out.cell1 (by omega), HE.out]; rfl
    have D6 : wc.cell? ⟨b1, 6, none⟩ = some (.int .i64 lv) := by rw [HP.out.cell1 (by omega), HE.out]; rfl
    have F2 := HP.out.frozen 2
    have F3 := HP.out.frozen 3
    have F4 := HP.out.frozen 4
    have F5 := HP.out.frozen 5
    have F6 := HP.out.frozen 6
    go_upto_block 0 with fail
    go_cut [3] (fun p3 wx => p3 = .bool fo ∧ PairE w w.heap.size b1 e wp wx)
    case first =>
      obtain ⟨hd, h7, sm, h32, vt, ck, ct, cn, ca, cc, m⟩ := e
      obtain rfl : hd = [k, who, to', n, r, tr, lv] := HE.out
      have hk := HK.out
      clear HK HE
      obtain rfl := HWP.out
      clear HWP
      rcases hk with rfl | rfl | rfl | rfl | rfl | rfl | rfl | rfl | rfl | rfl | rfl
      · -- kind 1
        cases qa <;> cases qb
        all_goals
          go_wp2_with (first | (go_at_call 40; refine (bound_Account to' _).mono ?_; rintro x w' ⟨rfl, hh⟩; rw [← HQA.out, hh]; clear hh w') | (go_at_call 41; refine (bound_Balance n _).mono ?_; rintro x w' ⟨rfl, hh⟩; rw [← HQB.out, hh]; clear hh w') | fail)
          all_goals go_meet
          all_goals first | exact ⟨by rw [HFO.out]; rfl, ((HP.out.set (i := 2) (x := 0) (by omega)).set (i := 3) (x := 0) (by omega))⟩
      · -- kind 2
        go_wp2_with (first | (go_at_call 24; refine (HC.out wc HP.out.old).mono ?_; rintro x w' ⟨rfl, hb⟩; have hp' := HP.out.below hb; have ST := run_storeC hp'.c1; have HP' := Lib.hid hp'; clear hb hp') | fail)
        all_goals go_meet
        all_goals first | exact ⟨by rw [HFO.out]; rfl, HP'.out.setC⟩ | exact ⟨by rw [HFO.out]; rfl, HP.out.setC⟩
      · -- kind 3
        have ST0 := run_storeH HP.out.c1
        go_wp2_with fail
        all_goals go_meet
        all_goals first | exact ⟨by rw [HFO.out]; rfl, HP.out.setH⟩
      · -- kind 4
        have ST0 := run_storeH ((HP.out.set (i := 5) (x := 0) (by omega)).set (i := 3) (x := 0) (by omega)).c1
        cases qt <;> cases qp
        all_goals
          go_wp2_with (first | (go_at_call 42; refine (code_isTrack tr _).mono ?_; rintro x w' ⟨rfl, hh⟩; rw [← HQT.out, hh]; clear hh w') | (go_at_call 43; refine (bound_Within n 0 1000 _).mono ?_; rintro x w' ⟨rfl, hh⟩; rw [← HQP.out, hh]; clear hh w') | fail)
          all_goals go_meet
          all_goals first | exact ⟨by rw [HFO.out]; rfl, ((HP.out.set (i := 5) (x := 0) (by omega)).set (i := 3) (x := 0) (by omega)).setH⟩
      · -- kind 5
        go_wp2_with (first | (go_at_call 44; refine (code_isRef r _).mono ?_; rintro x w' ⟨rfl, hh⟩; rw [← HQR.out, hh]; clear hh w') | fail)
        all_goals go_meet
        all_goals first | exact ⟨by rw [HFO.out]; rfl, (HP.out.set (i := 4) (x := 0) (by omega))⟩
      · -- kind 6
        go_wp2_with (first | (go_at_call 44; refine (code_isRef r _).mono ?_; rintro x w' ⟨rfl, hh⟩; rw [← HQR.out, hh]; clear hh w') | fail)
        all_goals go_meet
        all_goals first | exact ⟨by rw [HFO.out]; rfl, (HP.out.set (i := 4) (x := 0) (by omega))⟩
      · -- kind 7
        have ST0 := run_storeV (HP.out.set (i := 4) (x := 0) (by omega)).c1
        cases qr
        all_goals
          go_wp2_with (first | (go_at_call 44; refine (code_isRef r _).mono ?_; rintro x w' ⟨rfl, hh⟩; rw [← HQR.out, hh]; clear hh w') | (go_at_call 45; refine (HV.out _).mono ?_; rintro x w' ⟨rfl, hb⟩; have hp' := HP.out.below hb; have D4' : w'.cell? ⟨b1, 4, none⟩ = some (.int .i64 r) := hp'.cell1 (i := 4) (by omega); have F4' := hp'.frozen 4; have ST := run_storeV (hp'.set (i := 4) (x := 0) (by omega)).c1; have HP' := Lib.hid hp'; clear hb hp') | fail)
          all_goals go_meet
          all_goals first | exact ⟨by rw [HFO.out]; rfl, (HP'.out.set (i := 4) (x := 0) (by omega)).setV⟩ | exact ⟨by rw [HFO.out]; rfl, (HP.out.set (i := 4) (x := 0) (by omega)).setV⟩
      · -- kind 8
        go_wp2_with (first | (go_at_call 44; refine (code_isRef r _).mono ?_; rintro x w' ⟨rfl, hh⟩; rw [← HQR.out, hh]; clear hh w') | fail)
        all_goals go_meet
        all_goals first | exact ⟨by rw [HFO.out]; rfl, (HP.out.set (i := 4) (x := 0) (by omega))⟩
      · -- kind 9
        cases qt <;> cases qa <;> cases ql <;> cases qb
        all_goals
          go_wp2_with (first | (go_at_call 42; refine (code_isTrack tr _).mono ?_; rintro x w' ⟨rfl, hh⟩; rw [← HQT.out, hh]; clear hh w') | (go_at_call 40; refine (bound_Account to' _).mono ?_; rintro x w' ⟨rfl, hh⟩; rw [← HQA.out, hh]; clear hh w') | (go_at_call 43; refine (bound_Within lv 0 6 _).mono ?_; rintro x w' ⟨rfl, hh⟩; rw [← HQL.out, hh]; clear hh w') | (go_at_call 41; refine (bound_Balance n _).mono ?_; rintro x w' ⟨rfl, hh⟩; rw [← HQB.out, hh]; clear hh w') | fail)
          all_goals go_meet
          all_goals first | exact ⟨by rw [HFO.out]; rfl, ((((HP.out.set (i := 5) (x := 0) (by omega)).set (i := 2) (x := 0) (by omega)).set (i := 6) (x := 0) (by omega)).set (i := 3) (x := 0) (by omega))⟩
      · -- kind 10
        go_wp2_with (first | (go_at_call 42; refine (code_isTrack tr _).mono ?_; rintro x w' ⟨rfl, hh⟩; rw [← HQT.out, hh]; clear hh w') | fail)
        all_goals go_meet
        all_goals first | exact ⟨by rw [HFO.out]; rfl, (HP.out.set (i := 5) (x := 0) (by omega))⟩
      · -- kind 11
        go_wp2_with (first | (go_at_call 42; refine (code_isTrack tr _).mono ?_; rintro x w' ⟨rfl, hh⟩; rw [← HQT.out, hh]; clear hh w') | fail)
        all_goals go_meet
        all_goals first | exact ⟨by rw [HFO.out]; rfl, (HP.out.set (i := 5) (x := 0) (by omega))⟩
    case rest =>
      obtain ⟨rfl, hp⟩ := hcut
      clear C0 C2 C3 C4 C5 C6 LV LC BH BV BC D2 D3 D4 D5 D6 F2 F3 F4 F5 F6 HP
      have D0 : wc.cell? ⟨b1, 0, none⟩ = some (.int .i64 (wp.hd.getD 0 0)) := hp.cell1 (by omega)
      have D1 : wc.cell? ⟨b1, 1, none⟩ = some (.int .i64 (wp.hd.getD 1 0)) := hp.cell1 (by omega)
      have F0 := hp.frozen 0
      have F1 := hp.frozen 1
      have HP := Lib.hid hp
      clear hp
      go_upto_region 30 with fail
      go_cut [] (fun wx => PairE w w.heap.size b1 e v wx)
      case first =>
        go_wp2_with fail
        all_goals go_meet
        all_goals rw [HVV.out]
        all_goals first
          | exact (HP.out.set (i := 0) (x := 0) (by omega)).set (i := 1) (x := 0) (by omega)
          | exact ((HP.out.set (i := 0) (x := 0) (by omega)).set (i := 1) (x := 0) (by omega)).drew
      case rest =>
        have hp := hcut
        clear hcut D0 D1 F0 F1 HP
        have C1 : wc.cell? ⟨w.heap.size, 1, none⟩ = some (.int .i64 who) := by rw [hp.cell (by omega), HE.out]; rfl
        have LE := run_loadE hp.c1
        have BE := run_buildE wc
        have HP := Lib.hid hp
        clear hp
        cases fo <;> cases q2
        all_goals
          go_wp2_with (first
            | (go_at_call 40; refine (bound_Account who _).mono ?_; rintro x w' ⟨rfl, hh⟩; rw [← HQ2.out, hh]; clear hh w')
            | (go_at_call 18; refine (code_SameExt0 v exZero rfl _).mono ?_; rintro x w5 ⟨rfl, hb⟩; rw [← HQ3.out]; have B5 := Lib.hid hb; clear hb)
            | fail)
        all_goals first
          | exact bodyPost_ret (v := .bool false) (by simp [results, Try.results16, go_sem]) rfl ⟨rfl, HP.out.old⟩
          | exact bodyPost_ret (v := .bool q3) (by simp [results, Try.results16, go_sem]) rfl ⟨rfl, HP.out.old.trans (B5.out.mono HP.out.old.size)⟩
end Go.Proofs.Ytbndegkgpoemnaa
