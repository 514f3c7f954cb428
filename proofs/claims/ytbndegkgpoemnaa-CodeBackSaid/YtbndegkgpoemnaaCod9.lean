/-
  IsExt, walked: an unlock and a transfer. Printed by mkcod9.py.
-/
import Derived.Test.YtbndegkgpoemnaaCod8
import Derived.Deep.DeepCutAuto
namespace Go.Proofs.Ytbndegkgpoemnaa
open Go.RowKit
set_option linter.unusedVariables false
set_option linter.unusedSimpArgs false

attribute [local go_sem ↓] load_e store_e alloc_e build_e
set_option maxHeartbeats 4000000 in
set_option maxRecDepth 100000 in
theorem code_IsExt11 (e : Ex) (r : Int) (who n to' tr lv : Int) (he : e.hd = [11, who, to', n, r, tr, lv]) (w : World) :
    Calls Try.prog 16 #[.agg (ec e).toArray] w fun x w' => x = .returned (.bool (decide (0 ≤ tr ∧ tr < 4) && (decide (0 ≤ who ∧ who < 10) && extEq (exWith e [0, 0, to', n, r, 0, lv] rfl) exZero))) ∧ Below w.heap.size w w' := by
  obtain ⟨W, hW⟩ : ∃ W, W = w.alloc (.cells (ec e).toArray 30) := ⟨_, rfl⟩
  have h1 := World.alloc_heap_new w (.cells (ec e).toArray 30)
  rw [← hW] at h1
  have h2 := (Below.heap_alloc W (.cells (ec exZero).toArray 30) w.heap.size (by rw [hW]; simp)).trans h1
  have h3 := World.alloc_heap_new W (.cells (ec exZero).toArray 30)
  have hs : W.heap.size = w.heap.size + 1 := by rw [hW]; simp
  rw [hs] at h3
  have RA := run_allocE
  have LE1 := run_loadE h1
  have LE2 := run_loadE h2
  have LE3 := run_loadE (w := W.drew) h1
  have LE4 := run_loadE (w := (W.alloc (.cells (ec exZero).toArray 30)).drew) h2
  have SE1 := run_storeE (e := e) h3
  have SE2 := run_storeE (w := (W.alloc (.cells (ec exZero).toArray 30)).drew) (e := e) h3
  have P0 := Lib.hid (pairE_new hW (ec exZero).toArray)
  go_enter Try.func16, Try.ntmps16
  go_upto_region 1 with fail
  rw [← hW]
  clear hW h1 h2 h3
  go_cut [3, 4] (fun p3 p4 wx => p3 = .bool true ∧ ∃ b1, p4 = .pointer (some ⟨b1, 0, none⟩) ∧ PairE w w.heap.size b1 e e wx)
  case first =>
    go_region
    all_goals go_wp2_with fail
    all_goals go_meet
    all_goals exact ⟨rfl, _, rfl, P0.out⟩
  case rest =>
    obtain ⟨rfl, b1, rfl, hp⟩ := hcut
    clear LE1 LE2 LE3 LE4 SE1 SE2 RA P0 hs
    have C0 : wc.cell? ⟨w.heap.size, 0, none⟩ = some (.int .i64 11) := by rw [hp.cell (by omega), he]; rfl
    have C4 : wc.cell? ⟨w.heap.size, 5, none⟩ = some (.int .i64 tr) := by rw [hp.cell (by omega), he]; rfl
    have HP := Lib.hid hp
    have HE := Lib.hid he
    clear hp he
    obtain ⟨q1, hq1⟩ : ∃ q, q = decide (0 ≤ tr ∧ tr < 4) := ⟨_, rfl⟩
    have HQ1 := Lib.hid hq1
    clear hq1
    have D4 : wc.cell? ⟨b1, 5, none⟩ = some (.int .i64 tr) := by rw [HP.out.cell1 (by omega), HE.out]; rfl
    have F4 := HP.out.frozen 5
    go_upto_region 30 with (first | (go_at_call 42; refine (code_isTrack tr _).mono ?_; rintro x w' ⟨rfl, hh⟩; rw [← HQ1.out, hh]; clear hh w') | fail)
    obtain ⟨W2, hW2⟩ : ∃ W2, W2 = wc.setCell ⟨b1, 5, none⟩ (.int .i64 0) := ⟨_, rfl⟩
    have hp2 := HP.out.set (i := 5) (x := 0) (by omega)
    rw [← hW2] at hp2 ⊢
    obtain ⟨u, hu⟩ : ∃ u, u = exWith e (e.hd.set 5 0) (by simp [e.h7]) := ⟨_, rfl⟩
    rw [← hu] at hp2
    clear hW2 C0 C4 D4 F4 HP
    have D0 : W2.cell? ⟨b1, 0, none⟩ = some (.int .i64 (u.hd.getD 0 0)) := hp2.cell1 (by omega)
    have D1 : W2.cell? ⟨b1, 1, none⟩ = some (.int .i64 (u.hd.getD 1 0)) := hp2.cell1 (by omega)
    have F0 := hp2.frozen 0
    have F1 := hp2.frozen 1
    have HP2 := Lib.hid hp2
    have HU := Lib.hid hu
    clear hp2 hu
    go_cut [] (fun wx => PairE w w.heap.size b1 e (exWith u ((u.hd.set 0 0).set 1 0) (by simp [u.h7])) wx)
    case first =>
      go_wp2_with fail
      all_goals go_meet
      all_goals first
        | exact (HP2.out.set (i := 0) (x := 0) (by omega)).set (i := 1) (x := 0) (by omega)
        | exact ((HP2.out.set (i := 0) (x := 0) (by omega)).set (i := 1) (x := 0) (by omega)).drew
    case rest =>
      have hp := hcut
      clear hcut D0 D1 F0 F1 HP2
      obtain ⟨v, hv⟩ : ∃ v, v = exWith u ((u.hd.set 0 0).set 1 0) (by simp [u.h7]) := ⟨_, rfl⟩
      rw [← hv] at hp
      have C1 : wc.cell? ⟨w.heap.size, 1, none⟩ = some (.int .i64 who) := by rw [hp.cell (by omega), HE.out]; rfl
      have LE := run_loadE hp.c1
      have BE := run_buildE wc
      have HP := Lib.hid hp
      have HV := Lib.hid hv
      clear hp hv
      obtain ⟨q2, hq2⟩ : ∃ q, q = decide (0 ≤ who ∧ who < 10) := ⟨_, rfl⟩
      have HQ2 := Lib.hid hq2
      obtain ⟨q3, hq3⟩ : ∃ q, q = extEq v exZero := ⟨_, rfl⟩
      have HQ3 := Lib.hid hq3
      clear hq2 hq3
      have HX : v = exWith e [0, 0, to', n, r, 0, lv] rfl := by rw [HV.out, HU.out]; unfold exWith; simp [HE.out]
      have hr : (decide (0 ≤ tr ∧ tr < 4) && (decide (0 ≤ who ∧ who < 10) && extEq (exWith e [0, 0, to', n, r, 0, lv] rfl) exZero)) = (q1 && (q2 && q3)) := by rw [← HX, ← HQ1.out, ← HQ2.out, ← HQ3.out]
      have HR := Lib.hid hr
      clear HX hr
      cases q1 <;> cases q2
      all_goals
        go_wp2_with (first
          | (go_at_call 40; refine (bound_Account who _).mono ?_; rintro x w' ⟨rfl, hh⟩; rw [← HQ2.out, hh]; clear hh w')
          | (go_at_call 18; refine (code_SameExt0 v exZero rfl _).mono ?_; rintro x w5 ⟨rfl, hb⟩; rw [← HQ3.out]; have B5 := Lib.hid hb; clear hb)
          | fail)
      all_goals first
        | exact bodyPost_ret (v := .bool false) (by simp [results, Try.results16, go_sem]) rfl ⟨by rw [HR.out]; rfl, HP.out.old⟩
        | exact bodyPost_ret (v := .bool q3) (by simp [results, Try.results16, go_sem]) rfl ⟨by rw [HR.out]; rfl, HP.out.old.trans (B5.out.mono HP.out.old.size)⟩
set_option maxHeartbeats 4000000 in
set_option maxRecDepth 100000 in
theorem code_IsExt1 (e : Ex) (r : Int) (who n to' tr lv : Int) (he : e.hd = [1, who, to', n, r, tr, lv]) (w : World) :
    Calls Try.prog 16 #[.agg (ec e).toArray] w fun x w' => x = .returned (.bool ((decide (0 ≤ to' ∧ to' < 10) && decide (0 ≤ n ∧ n ≤ 1073741824)) && (decide (0 ≤ who ∧ who < 10) && extEq (exWith e [0, 0, 0, 0, r, tr, lv] rfl) exZero))) ∧ Below w.heap.size w w' := by
  obtain ⟨W, hW⟩ : ∃ W, W = w.alloc (.cells (ec e).toArray 30) := ⟨_, rfl⟩
  have h1 := World.alloc_heap_new w (.cells (ec e).toArray 30)
  rw [← hW] at h1
  have h2 := (Below.heap_alloc W (.cells (ec exZero).toArray 30) w.heap.size (by rw [hW]; simp)).trans h1
  have h3 := World.alloc_heap_new W (.cells (ec exZero).toArray 30)
  have hs : W.heap.size = w.heap.size + 1 := by rw [hW]; simp
  rw [hs] at h3
  have RA := run_allocE
  have LE1 := run_loadE h1
  have LE2 := run_loadE h2
  have LE3 := run_loadE (w := W.drew) h1
  have LE4 := run_loadE (w := (W.alloc (.cells (ec exZero).toArray 30)).drew) h2
  have SE1 := run_storeE (e := e) h3
  have SE2 := run_storeE (w := (W.alloc (.cells (ec exZero).toArray 30)).drew) (e := e) h3
  have P0 := Lib.hid (pairE_new hW (ec exZero).toArray)
  go_enter Try.func16, Try.ntmps16
  go_upto_region 1 with fail
  rw [← hW]
  clear hW h1 h2 h3
  go_cut [3, 4] (fun p3 p4 wx => p3 = .bool true ∧ ∃ b1, p4 = .pointer (some ⟨b1, 0, none⟩) ∧ PairE w w.heap.size b1 e e wx)
  case first =>
    go_region
    all_goals go_wp2_with fail
    all_goals go_meet
    all_goals exact ⟨rfl, _, rfl, P0.out⟩
  case rest =>
    obtain ⟨rfl, b1, rfl, hp⟩ := hcut
    clear LE1 LE2 LE3 LE4 SE1 SE2 RA P0 hs
    have C0 : wc.cell? ⟨w.heap.size, 0, none⟩ = some (.int .i64 1) := by rw [hp.cell (by omega), he]; rfl
    have C2 : wc.cell? ⟨w.heap.size, 2, none⟩ = some (.int .i64 to') := by rw [hp.cell (by omega), he]; rfl
    have C3 : wc.cell? ⟨w.heap.size, 3, none⟩ = some (.int .i64 n) := by rw [hp.cell (by omega), he]; rfl
    have HP := Lib.hid hp
    have HE := Lib.hid he
    clear hp he
    obtain ⟨qa, hqa⟩ : ∃ q, q = decide (0 ≤ to' ∧ to' < 10) := ⟨_, rfl⟩
    obtain ⟨qb, hqb⟩ : ∃ q, q = decide (0 ≤ n ∧ n ≤ 1073741824) := ⟨_, rfl⟩
    have HQA := Lib.hid hqa
    have HQB := Lib.hid hqb
    clear hqa hqb
    have D2 : wc.cell? ⟨b1, 2, none⟩ = some (.int .i64 to') := by rw [HP.out.cell1 (by omega), HE.out]; rfl
    have D3 : wc.cell? ⟨b1, 3, none⟩ = some (.int .i64 n) := by rw [HP.out.cell1 (by omega), HE.out]; rfl
    have F2 := HP.out.frozen 2
    have F3 := HP.out.frozen 3
    cases qa <;> cases qb
    all_goals go_upto_region 30 with (first | (go_at_call 40; refine (bound_Account to' _).mono ?_; rintro x w' ⟨rfl, hh⟩; rw [← HQA.out, hh]; clear hh w') | (go_at_call 41; refine (bound_Balance n _).mono ?_; rintro x w' ⟨rfl, hh⟩; rw [← HQB.out, hh]; clear hh w') | fail)
    ·
      obtain ⟨W2, hW2⟩ : ∃ W2, W2 = (wc.setCell ⟨b1, 2, none⟩ (.int .i64 0)).setCell ⟨b1, 3, none⟩ (.int .i64 0) := ⟨_, rfl⟩
      have hp2 := (HP.out.set (i := 2) (x := 0) (by omega)).set (i := 3) (x := 0) (by omega)
      rw [← hW2] at hp2 ⊢
      obtain ⟨u, hu⟩ : ∃ u, u = exWith e ((e.hd.set 2 0).set 3 0) (by simp [e.h7]) := ⟨_, rfl⟩
      replace hp2 : PairE w w.heap.size b1 e u W2 := by rw [hu]; exact hp2
      clear hW2 C0 C2 C3 D2 D3 F2 F3 HP
      have D0 : W2.cell? ⟨b1, 0, none⟩ = some (.int .i64 (u.hd.getD 0 0)) := hp2.cell1 (by omega)
      have D1 : W2.cell? ⟨b1, 1, none⟩ = some (.int .i64 (u.hd.getD 1 0)) := hp2.cell1 (by omega)
      have F0 := hp2.frozen 0
      have F1 := hp2.frozen 1
      have HP2 := Lib.hid hp2
      have HU := Lib.hid hu
      clear hp2 hu
      go_cut [] (fun wx => PairE w w.heap.size b1 e (exWith u ((u.hd.set 0 0).set 1 0) (by simp [u.h7])) wx)
      case first =>
        go_wp2_with fail
        all_goals go_meet
        all_goals first
          | exact (HP2.out.set (i := 0) (x := 0) (by omega)).set (i := 1) (x := 0) (by omega)
          | exact ((HP2.out.set (i := 0) (x := 0) (by omega)).set (i := 1) (x := 0) (by omega)).drew
      case rest =>
        have hp := hcut
        clear hcut D0 D1 F0 F1 HP2
        obtain ⟨v, hv⟩ : ∃ v, v = exWith u ((u.hd.set 0 0).set 1 0) (by simp [u.h7]) := ⟨_, rfl⟩
        rw [← hv] at hp
        have C1 : wc.cell? ⟨w.heap.size, 1, none⟩ = some (.int .i64 who) := by rw [hp.cell (by omega), HE.out]; rfl
        have LE := run_loadE hp.c1
        have BE := run_buildE wc
        have HP := Lib.hid hp
        have HV := Lib.hid hv
        clear hp hv
        obtain ⟨q2, hq2⟩ : ∃ q, q = decide (0 ≤ who ∧ who < 10) := ⟨_, rfl⟩
        have HQ2 := Lib.hid hq2
        obtain ⟨q3, hq3⟩ : ∃ q, q = extEq v exZero := ⟨_, rfl⟩
        have HQ3 := Lib.hid hq3
        clear hq2 hq3
        have HX : v = exWith e [0, 0, 0, 0, r, tr, lv] rfl := by rw [HV.out, HU.out]; unfold exWith; simp [HE.out]
        have hr : ((decide (0 ≤ to' ∧ to' < 10) && decide (0 ≤ n ∧ n ≤ 1073741824)) && (decide (0 ≤ who ∧ who < 10) && extEq (exWith e [0, 0, 0, 0, r, tr, lv] rfl) exZero)) = ((false && false) && (q2 && q3)) := by rw [← HX, ← HQA.out, ← HQB.out, ← HQ2.out, ← HQ3.out]
        have HR := Lib.hid hr
        clear HX hr
        cases q2
        all_goals
          go_wp2_with (first
            | (go_at_call 40; refine (bound_Account who _).mono ?_; rintro x w' ⟨rfl, hh⟩; rw [← HQ2.out, hh]; clear hh w')
            | (go_at_call 18; refine (code_SameExt0 v exZero rfl _).mono ?_; rintro x w5 ⟨rfl, hb⟩; rw [← HQ3.out]; have B5 := Lib.hid hb; clear hb)
            | fail)
        all_goals first
          | exact bodyPost_ret (v := .bool false) (by simp [results, Try.results16, go_sem]) rfl ⟨by rw [HR.out]; rfl, HP.out.old⟩
          | exact bodyPost_ret (v := .bool q3) (by simp [results, Try.results16, go_sem]) rfl ⟨by rw [HR.out]; rfl, HP.out.old.trans (B5.out.mono HP.out.old.size)⟩
    ·
      obtain ⟨W2, hW2⟩ : ∃ W2, W2 = (wc.setCell ⟨b1, 2, none⟩ (.int .i64 0)).setCell ⟨b1, 3, none⟩ (.int .i64 0) := ⟨_, rfl⟩
      have hp2 := (HP.out.set (i := 2) (x := 0) (by omega)).set (i := 3) (x := 0) (by omega)
      rw [← hW2] at hp2 ⊢
      obtain ⟨u, hu⟩ : ∃ u, u = exWith e ((e.hd.set 2 0).set 3 0) (by simp [e.h7]) := ⟨_, rfl⟩
      replace hp2 : PairE w w.heap.size b1 e u W2 := by rw [hu]; exact hp2
      clear hW2 C0 C2 C3 D2 D3 F2 F3 HP
      have D0 : W2.cell? ⟨b1, 0, none⟩ = some (.int .i64 (u.hd.getD 0 0)) := hp2.cell1 (by omega)
      have D1 : W2.cell? ⟨b1, 1, none⟩ = some (.int .i64 (u.hd.getD 1 0)) := hp2.cell1 (by omega)
      have F0 := hp2.frozen 0
      have F1 := hp2.frozen 1
      have HP2 := Lib.hid hp2
      have HU := Lib.hid hu
      clear hp2 hu
      go_cut [] (fun wx => PairE w w.heap.size b1 e (exWith u ((u.hd.set 0 0).set 1 0) (by simp [u.h7])) wx)
      case first =>
        go_wp2_with fail
        all_goals go_meet
        all_goals first
          | exact (HP2.out.set (i := 0) (x := 0) (by omega)).set (i := 1) (x := 0) (by omega)
          | exact ((HP2.out.set (i := 0) (x := 0) (by omega)).set (i := 1) (x := 0) (by omega)).drew
      case rest =>
        have hp := hcut
        clear hcut D0 D1 F0 F1 HP2
        obtain ⟨v, hv⟩ : ∃ v, v = exWith u ((u.hd.set 0 0).set 1 0) (by simp [u.h7]) := ⟨_, rfl⟩
        rw [← hv] at hp
        have C1 : wc.cell? ⟨w.heap.size, 1, none⟩ = some (.int .i64 who) := by rw [hp.cell (by omega), HE.out]; rfl
        have LE := run_loadE hp.c1
        have BE := run_buildE wc
        have HP := Lib.hid hp
        have HV := Lib.hid hv
        clear hp hv
        obtain ⟨q2, hq2⟩ : ∃ q, q = decide (0 ≤ who ∧ who < 10) := ⟨_, rfl⟩
        have HQ2 := Lib.hid hq2
        obtain ⟨q3, hq3⟩ : ∃ q, q = extEq v exZero := ⟨_, rfl⟩
        have HQ3 := Lib.hid hq3
        clear hq2 hq3
        have HX : v = exWith e [0, 0, 0, 0, r, tr, lv] rfl := by rw [HV.out, HU.out]; unfold exWith; simp [HE.out]
        have hr : ((decide (0 ≤ to' ∧ to' < 10) && decide (0 ≤ n ∧ n ≤ 1073741824)) && (decide (0 ≤ who ∧ who < 10) && extEq (exWith e [0, 0, 0, 0, r, tr, lv] rfl) exZero)) = ((false && true) && (q2 && q3)) := by rw [← HX, ← HQA.out, ← HQB.out, ← HQ2.out, ← HQ3.out]
        have HR := Lib.hid hr
        clear HX hr
        cases q2
        all_goals
          go_wp2_with (first
            | (go_at_call 40; refine (bound_Account who _).mono ?_; rintro x w' ⟨rfl, hh⟩; rw [← HQ2.out, hh]; clear hh w')
            | (go_at_call 18; refine (code_SameExt0 v exZero rfl _).mono ?_; rintro x w5 ⟨rfl, hb⟩; rw [← HQ3.out]; have B5 := Lib.hid hb; clear hb)
            | fail)
        all_goals first
          | exact bodyPost_ret (v := .bool false) (by simp [results, Try.results16, go_sem]) rfl ⟨by rw [HR.out]; rfl, HP.out.old⟩
          | exact bodyPost_ret (v := .bool q3) (by simp [results, Try.results16, go_sem]) rfl ⟨by rw [HR.out]; rfl, HP.out.old.trans (B5.out.mono HP.out.old.size)⟩
    ·
      obtain ⟨W2, hW2⟩ : ∃ W2, W2 = (wc.setCell ⟨b1, 2, none⟩ (.int .i64 0)).setCell ⟨b1, 3, none⟩ (.int .i64 0) := ⟨_, rfl⟩
      have hp2 := (HP.out.set (i := 2) (x := 0) (by omega)).set (i := 3) (x := 0) (by omega)
      rw [← hW2] at hp2 ⊢
      obtain ⟨u, hu⟩ : ∃ u, u = exWith e ((e.hd.set 2 0).set 3 0) (by simp [e.h7]) := ⟨_, rfl⟩
      replace hp2 : PairE w w.heap.size b1 e u W2 := by rw [hu]; exact hp2
      clear hW2 C0 C2 C3 D2 D3 F2 F3 HP
      have D0 : W2.cell? ⟨b1, 0, none⟩ = some (.int .i64 (u.hd.getD 0 0)) := hp2.cell1 (by omega)
      have D1 : W2.cell? ⟨b1, 1, none⟩ = some (.int .i64 (u.hd.getD 1 0)) := hp2.cell1 (by omega)
      have F0 := hp2.frozen 0
      have F1 := hp2.frozen 1
      have HP2 := Lib.hid hp2
      have HU := Lib.hid hu
      clear hp2 hu
      go_cut [] (fun wx => PairE w w.heap.size b1 e (exWith u ((u.hd.set 0 0).set 1 0) (by simp [u.h7])) wx)
      case first =>
        go_wp2_with fail
        all_goals go_meet
        all_goals first
          | exact (HP2.out.set (i := 0) (x := 0) (by omega)).set (i := 1) (x := 0) (by omega)
          | exact ((HP2.out.set (i := 0) (x := 0) (by omega)).set (i := 1) (x := 0) (by omega)).drew
      case rest =>
        have hp := hcut
        clear hcut D0 D1 F0 F1 HP2
        obtain ⟨v, hv⟩ : ∃ v, v = exWith u ((u.hd.set 0 0).set 1 0) (by simp [u.h7]) := ⟨_, rfl⟩
        rw [← hv] at hp
        have C1 : wc.cell? ⟨w.heap.size, 1, none⟩ = some (.int .i64 who) := by rw [hp.cell (by omega), HE.out]; rfl
        have LE := run_loadE hp.c1
        have BE := run_buildE wc
        have HP := Lib.hid hp
        have HV := Lib.hid hv
        clear hp hv
        obtain ⟨q2, hq2⟩ : ∃ q, q = decide (0 ≤ who ∧ who < 10) := ⟨_, rfl⟩
        have HQ2 := Lib.hid hq2
        obtain ⟨q3, hq3⟩ : ∃ q, q = extEq v exZero := ⟨_, rfl⟩
        have HQ3 := Lib.hid hq3
        clear hq2 hq3
        have HX : v = exWith e [0, 0, 0, 0, r, tr, lv] rfl := by rw [HV.out, HU.out]; unfold exWith; simp [HE.out]
        have hr : ((decide (0 ≤ to' ∧ to' < 10) && decide (0 ≤ n ∧ n ≤ 1073741824)) && (decide (0 ≤ who ∧ who < 10) && extEq (exWith e [0, 0, 0, 0, r, tr, lv] rfl) exZero)) = ((true && false) && (q2 && q3)) := by rw [← HX, ← HQA.out, ← HQB.out, ← HQ2.out, ← HQ3.out]
        have HR := Lib.hid hr
        clear HX hr
        cases q2
        all_goals
          go_wp2_with (first
            | (go_at_call 40; refine (bound_Account who _).mono ?_; rintro x w' ⟨rfl, hh⟩; rw [← HQ2.out, hh]; clear hh w')
            | (go_at_call 18; refine (code_SameExt0 v exZero rfl _).mono ?_; rintro x w5 ⟨rfl, hb⟩; rw [← HQ3.out]; have B5 := Lib.hid hb; clear hb)
            | fail)
        all_goals first
          | exact bodyPost_ret (v := .bool false) (by simp [results, Try.results16, go_sem]) rfl ⟨by rw [HR.out]; rfl, HP.out.old⟩
          | exact bodyPost_ret (v := .bool q3) (by simp [results, Try.results16, go_sem]) rfl ⟨by rw [HR.out]; rfl, HP.out.old.trans (B5.out.mono HP.out.old.size)⟩
    ·
      obtain ⟨W2, hW2⟩ : ∃ W2, W2 = (wc.setCell ⟨b1, 2, none⟩ (.int .i64 0)).setCell ⟨b1, 3, none⟩ (.int .i64 0) := ⟨_, rfl⟩
      have hp2 := (HP.out.set (i := 2) (x := 0) (by omega)).set (i := 3) (x := 0) (by omega)
      rw [← hW2] at hp2 ⊢
      obtain ⟨u, hu⟩ : ∃ u, u = exWith e ((e.hd.set 2 0).set 3 0) (by simp [e.h7]) := ⟨_, rfl⟩
      replace hp2 : PairE w w.heap.size b1 e u W2 := by rw [hu]; exact hp2
      clear hW2 C0 C2 C3 D2 D3 F2 F3 HP
      have D0 : W2.cell? ⟨b1, 0, none⟩ = some (.int .i64 (u.hd.getD 0 0)) := hp2.cell1 (by omega)
      have D1 : W2.cell? ⟨b1, 1, none⟩ = some (.int .i64 (u.hd.getD 1 0)) := hp2.cell1 (by omega)
      have F0 := hp2.frozen 0
      have F1 := hp2.frozen 1
      have HP2 := Lib.hid hp2
      have HU := Lib.hid hu
      clear hp2 hu
      go_cut [] (fun wx => PairE w w.heap.size b1 e (exWith u ((u.hd.set 0 0).set 1 0) (by simp [u.h7])) wx)
      case first =>
        go_wp2_with fail
        all_goals go_meet
        all_goals first
          | exact (HP2.out.set (i := 0) (x := 0) (by omega)).set (i := 1) (x := 0) (by omega)
          | exact ((HP2.out.set (i := 0) (x := 0) (by omega)).set (i := 1) (x := 0) (by omega)).drew
      case rest =>
        have hp := hcut
        clear hcut D0 D1 F0 F1 HP2
        obtain ⟨v, hv⟩ : ∃ v, v = exWith u ((u.hd.set 0 0).set 1 0) (by simp [u.h7]) := ⟨_, rfl⟩
        rw [← hv] at hp
        have C1 : wc.cell? ⟨w.heap.size, 1, none⟩ = some (.int .i64 who) := by rw [hp.cell (by omega), HE.out]; rfl
        have LE := run_loadE hp.c1
        have BE := run_buildE wc
        have HP := Lib.hid hp
        have HV := Lib.hid hv
        clear hp hv
        obtain ⟨q2, hq2⟩ : ∃ q, q = decide (0 ≤ who ∧ who < 10) := ⟨_, rfl⟩
        have HQ2 := Lib.hid hq2
        obtain ⟨q3, hq3⟩ : ∃ q, q = extEq v exZero := ⟨_, rfl⟩
        have HQ3 := Lib.hid hq3
        clear hq2 hq3
        have HX : v = exWith e [0, 0, 0, 0, r, tr, lv] rfl := by rw [HV.out, HU.out]; unfold exWith; simp [HE.out]
        have hr : ((decide (0 ≤ to' ∧ to' < 10) && decide (0 ≤ n ∧ n ≤ 1073741824)) && (decide (0 ≤ who ∧ who < 10) && extEq (exWith e [0, 0, 0, 0, r, tr, lv] rfl) exZero)) = ((true && true) && (q2 && q3)) := by rw [← HX, ← HQA.out, ← HQB.out, ← HQ2.out, ← HQ3.out]
        have HR := Lib.hid hr
        clear HX hr
        cases q2
        all_goals
          go_wp2_with (first
            | (go_at_call 40; refine (bound_Account who _).mono ?_; rintro x w' ⟨rfl, hh⟩; rw [← HQ2.out, hh]; clear hh w')
            | (go_at_call 18; refine (code_SameExt0 v exZero rfl _).mono ?_; rintro x w5 ⟨rfl, hb⟩; rw [← HQ3.out]; have B5 := Lib.hid hb; clear hb)
            | fail)
        all_goals first
          | exact bodyPost_ret (v := .bool false) (by simp [results, Try.results16, go_sem]) rfl ⟨by rw [HR.out]; rfl, HP.out.old⟩
          | exact bodyPost_ret (v := .bool q3) (by simp [results, Try.results16, go_sem]) rfl ⟨by rw [HR.out]; rfl, HP.out.old.trans (B5.out.mono HP.out.old.size)⟩
end Go.Proofs.Ytbndegkgpoemnaa
