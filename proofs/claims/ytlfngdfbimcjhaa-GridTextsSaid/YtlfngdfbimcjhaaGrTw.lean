/-
  The law GridTexts, walked.
-/
import Derived.Test.YtlfngdfbimcjhaaGrTx
import Derived.Test.YtlfngdfbimcjhaaGrK
import Derived.StillTailTactics
import Derived.BigRegion
import Derived.RegionTactic
import Derived.Deep.QuietTactic
namespace Go.Proofs.Ytlfngdfbimcjhaa
open Go.RowKit Go.Maps Go.Shelf
set_option linter.unusedVariables false
set_option linter.unusedSimpArgs false
set_option linter.constructorNameAsVariable false

set_option maxHeartbeats 8000000 in
set_option maxRecDepth 100000 in
theorem gridTexts_walk (v : Value) (l : List Int) (v2 : Value) (t : List ByteArray) (w : World) (hr : RdI w v l) (hb : ∀ n ∈ l, (Lit.int .i64 n).wf = true) (hm : l.length ≤ maxLen) (hr2 : RdStr w v2 t) (hs2 : ∀ s ∈ t, s.size ≤ maxLen) (hm2 : t.length ≤ maxLen) :
    Calls Try.prog 7 #[v, v2] w fun e w' => e = .returned (.bool true) ∧ Below w.heap.size w w' := by
  obtain ⟨ao, cap, rfl⟩ := hr.lenOf
  have hr2' := hr2
  obtain ⟨ao2, cap2, rfl, -⟩ := hr2'
  obtain ⟨L, hL⟩ : ∃ L, L = l.length := ⟨_, rfl⟩
  obtain ⟨T, hT⟩ : ∃ T, T = t.length := ⟨_, rfl⟩
  rw [← hL] at hr ⊢
  rw [← hT] at hr2 ⊢
  have hmm := @run_makeMap Try.prog
  have HR := Lib.hid (And.intro hr (And.intro hb hL))
  have HR2 := Lib.hid (And.intro hr2 hT)
  clear hr hb hm hr2 hs2 hm2 hL hT
  go_enter Try.func7, Try.ntmps7
  by_cases c0 : (60 : Int) < (L : Int)
  · go_wp2_with fail
    exact bodyPost_ret (v := .bool true) (by simp [results, Try.results7, go_sem]) rfl ⟨rfl, Below.refl _ _⟩
  by_cases c1 : (T : Int) < (L : Int)
  · go_wp2_with fail
    exact bodyPost_ret (v := .bool true) (by simp [results, Try.results7, go_sem]) rfl ⟨rfl, Below.refl _ _⟩
  obtain ⟨g, hg⟩ : ∃ g, g = w.heap.size := ⟨_, rfl⟩
  go_wp2_with (first
    | (go_at_call 23; refine (grid_New_S w).mono ?_; rintro e w1 ⟨rfl, rfl⟩)
    | fail)
  obtain ⟨w1, hw1⟩ : ∃ w1, w1 = (w.alloc (.cells #[.map none, .map none, .int .i64 0] 79)).alloc (.map #[] 0) := ⟨_, rfl⟩
  obtain ⟨mb, hmb⟩ : ∃ mb, mb = w.heap.size + 1 := ⟨_, rfl⟩
  have hX := TxAt.start hg hmb (Nat.le_refl _) hw1
  rw [← hw1, ← hmb, ← hg]
  have H1 := Lib.hid hX
  have HG := Lib.hid hg
  have MM := Lib.hid hmm
  clear hX hmb hg hw1 hmm
  go_loopw [7] (fun i wr => ∃ (k : Nat) (M : Cls ByteArray) (W : List (Int × ByteArray)), k ≤ L ∧ i = .int .i64 k ∧ M.length ≤ k ∧ TxAt w.heap.size g mb M W wr ∧ Below w.heap.size w wr ∧ ∀ j, j < k → (sget W (l.getD j 0)).isSome = true) (fun i _ => L - (intOf i).toNat)
  case atStart => exact ⟨0, [], [], by omega, rfl, Nat.le_refl _, H1.out.1, H1.out.2, fun j hj => by omega⟩
  case round =>
    obtain ⟨k, M, W, hk, rfl, hlM, hX, hbl, hse⟩ := hrel
    have HS := Lib.hid hse
    have HX := Lib.hid (And.intro hX hbl)
    clear hse
    by_cases hlt : k < L
    · have hlt' : (k : Int) < L := by omega
      have hkl : k < l.length := by rw [← HR.out.2.2]; exact hlt
      have hkt : k < t.length := by have := HR2.out.2; omega
      have hltT : (k : Int) < T := by omega
      obtain ⟨a, rfl, ca0⟩ := HR.out.1.at hkl
      obtain ⟨x, hx⟩ : ∃ x, x = l.getD k 0 := ⟨_, rfl⟩
      rw [← hx] at ca0
      have hxw : (Lit.int .i64 x).wf = true := by rw [hx, show l.getD k 0 = l[k] by simp [hkl]]; exact HR.out.2.1 _ (List.getElem_mem _)
      have hRS := HR2.out.1
      obtain ⟨ao2', cap2', e1, hrd⟩ := hRS
      injection e1 with e1 e2 e3
      subst e1
      obtain ⟨a2, rfl, cs0⟩ := hrd k hkt
      obtain ⟨s, hs⟩ : ∃ s, s = t[k] := ⟨_, rfl⟩
      rw [← hs] at cs0
      have hcx : ∀ w2, Below w.heap.size w w2 → w2.cell? (a.add k) = some (.int .i64 x) := fun w2 h2 => by rw [h2.cell (cell_blockI ca0)]; exact ca0
      have hcs : ∀ w2, Below w.heap.size w w2 → w2.cell? (a2.add k) = some (.string s) := fun w2 h2 => by rw [h2.cell (cell_blockI cs0)]; exact cs0
      have ca := hcx wr hbl
      have cs := hcs wr hbl
      have HC2 := Lib.hid (And.intro hcx hcs)
      have HX2 := Lib.hid (And.intro hx hxw)
      have HLM := Lib.hid (show M.length ≤ 60 by omega)
      have HLK := Lib.hid hlM
      clear hrd e2 e3 hx hxw hs hX hbl hkl hkt hlM hcx hcs ca0 cs0
      by_cases hlong : (100 : Int) < (s.size : Int)
      · go_wp2_with fail
        exact bodyPost_ret (v := .bool true) (by simp [results, Try.results7, go_sem]) rfl ⟨rfl, HX.out.2⟩
      go_upto_region 12 with fail
      obtain ⟨z, hz⟩ : ∃ z, z = n7 x := ⟨_, rfl⟩
      have hbz : bits .and .i64 (IntKind.i64.wrap (-x)) 7 = z := by rw [hz]; exact bits_n7 x
      have HZ := Lib.hid hz
      clear hz
      go_still_tail 15, (by kernel_rfl)
      change wpList _ _ _ _ _ wr.drew
      go_wp2_with (first
        | (go_at_call 24; rw [HZ.out]; refine (grid_Set_Tx (HX.out.1.below (Below.refl _ wr).drew) HX.out.2.size (by have := HLM.out; omega) HX2.out.2 s).mono ?_; rintro e w2 ⟨rfl, hb2, hg2, hm2⟩; have hc2 := HX.out.2.trans (show Below w.heap.size wr w2 from ⟨hb2.os, hb2.tape, hb2.output, hb2.size, hb2.block⟩); obtain ⟨w3, hr3, hx3, hb3⟩ := TxAt.store_drew HX2.out.2 s HX.out.1.tx hg2 hm2 HX.out.1.lo (by have := HX.out.1.tx.len; have := HLM.out; omega); have ca2 : w2.cell? (a.add k) = some (.int .i64 x) := HC2.out.1 w2 hc2; have cs2 : w2.cell? (a2.add k) = some (.string s) := HC2.out.2 w2 hc2; rw [← HZ.out]; have H3 := Lib.hid (And.intro hr3 (And.intro hx3 (hc2.trans hb3))); clear hb2 hg2 hm2 hc2 hr3 hx3 hb3)
        | fail)
      go_still_tail 9, (by kernel_rfl)
      change wpList _ _ _ _ _ w2.drew
      go_wp2_with (first
        | (at_mapUpdate; refine wpl_upd rfl _ _ _ _ rfl rfl rfl rfl H3.out.1 ?_)
        | fail)
      go_roundw
      case rel =>
        refine ⟨k + 1, _, _, by omega, by go_num, ?_, H3.out.2.1, H3.out.2.2, fun j hj => Tx.some_put HX.out.1.tx.srtW ?_⟩
        · have h1 := HX.out.1.tx.srt.length_put x (n7 x) s
          have h2 := HLK.out
          rw [h1]; split <;> omega
        · by_cases e : j = k
          · subst e; exact .inr HX2.out.1.symm
          · exact .inl (HS.out j (by omega))
      case measure => simp [intOf]; omega
    · have hge : ¬ (k : Int) < L := by omega
      have hkL : k = L := by omega
      have HLM := Lib.hid (show M.length ≤ 60 by omega)
      have hse := HS.out
      rw [hkL] at hse
      have HSE := Lib.hid hse
      clear hse hX hbl hlM hk HS
      go_wp2_with fail
      go_loopw [8] (fun i wr2 => ∃ k2 : Nat, k2 ≤ L ∧ i = .int .i64 k2 ∧ TxAt w.heap.size g mb M W wr2 ∧ Below w.heap.size w wr2) (fun i _ => L - (intOf i).toNat)
      case atStart => exact ⟨0, by omega, rfl, HX.out⟩
      case round =>
        obtain ⟨k2, hk2, rfl, hX2, hbl2⟩ := hrel
        have HY := Lib.hid (And.intro hX2 hbl2)
        by_cases hlt2 : k2 < L
        · have hlt2' : (k2 : Int) < L := by omega
          have hkl : k2 < l.length := by rw [← HR.out.2.2]; exact hlt2
          obtain ⟨a, rfl, ca0⟩ := HR.out.1.at hkl
          obtain ⟨x, hx⟩ : ∃ x, x = l.getD k2 0 := ⟨_, rfl⟩
          rw [← hx] at ca0
          have hxw : (Lit.int .i64 x).wf = true := by rw [hx, show l.getD k2 0 = l[k2] by simp [hkl]]; exact HR.out.2.1 _ (List.getElem_mem _)
          obtain ⟨sv, hsv⟩ := Option.isSome_iff_exists.1 (HSE.out k2 hlt2)
          rw [← hx] at hsv
          have ca : _root_.Go.World.cell? _ (a.add k2) = some (.int .i64 x) := (by rw [hbl2.cell (cell_blockI ca0)]; exact ca0)
          have hlk := fun w2 (h2 : TxAt w.heap.size g mb M W w2) => h2.look hxw hsv
          have hgt := fun w2 (h2 : TxAt w.heap.size g mb M W w2) => grid_Get_Tx h2 hxw hsv
          obtain ⟨z, hz⟩ : ∃ z, z = n7 x := ⟨_, rfl⟩
          have hbz : bits .and .i64 (IntKind.i64.wrap (-x)) 7 = z := by rw [hz]; exact bits_n7 x
          rw [← hz] at hgt
          have HGT := Lib.hid hgt
          have HLK := Lib.hid hlk
          clear hgt hlk hz hsv hxw hx ca0 hX2 hbl2 hkl
          go_upto_region 17 with fail
          refine wp_region_still_tail 16 (by kernel_rfl) (by kernel_rfl) ?_
          simp only [List.take_succ_cons, List.take_zero, List.drop_succ_cons, List.drop_zero]
          repeat still_step
          still_call (HGT.out _ (HY.out.1.below ⟨rfl, rfl, rfl, Nat.le_refl _, fun _ _ => rfl⟩))
          repeat still_step
          refine wpStill_nil ?_
          change wpList _ _ _ _ _ wr.drew
          go_wp2_with (first
            | (at_lookup; refine wpl_lookG (by rfl) _ _ _ _ rfl rfl rfl (HLK.out _ (HY.out.1.below ⟨rfl, rfl, rfl, Nat.le_refl _, fun _ _ => rfl⟩)) ?_)
            | fail)
          go_roundw
          case rel => exact ⟨k2 + 1, by omega, by go_num, HY.out.1.below ⟨rfl, rfl, rfl, Nat.le_refl _, fun _ _ => rfl⟩, HY.out.2.trans ⟨rfl, rfl, rfl, Nat.le_refl _, fun _ _ => rfl⟩⟩
          case measure => simp [intOf]; omega
        · have hge2 : ¬ (k2 : Int) < L := by omega
          have HLN := Lib.hid (fun ty => hX2.len ty)
          clear hX2 hbl2 hk2 hlt2
          have tok1 : True := trivial
          go_wp2_with (first
            | (go_at_call 25; refine (grid_Get_no HY.out.1).mono ?_; rintro e w4 ⟨rfl, rfl⟩)
            | (go_at_call 26; refine (grid_Len_Tx HY.out.1).mono ?_; rintro e w4 ⟨rfl, rfl⟩)
            | (at_len; refine wpl_len rfl _ _ rfl rfl (HLN.out _) ?_)
            | (go_at_call 15; refine (law_known _).mono ?_; rintro e w9 ⟨rfl, hb⟩; have H9 := Lib.hid (HY.out.2.trans (hb.mono HY.out.2.size)); clear hb)
            | fail)
          go_ret
          exact ⟨rfl, H9.out⟩
end Go.Proofs.Ytlfngdfbimcjhaa
