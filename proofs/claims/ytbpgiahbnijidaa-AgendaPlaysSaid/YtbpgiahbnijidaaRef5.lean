/-
  The reference's Put, walked.
-/
import Derived.Test.YtbpgiahbnijidaaRef4
namespace Go.Proofs.Ytbpgiahbnijidaa
open Go.RowKit Go.Shelf
set_option linter.unusedVariables false
set_option linter.unusedSimpArgs false

theorem LeftR.back {B yb : Nat} {v : Value} {E : List Tk} {w wc W : World} (hb : Below w.heap.size w wc) (h : LeftR B yb v E wc W) : LeftR B yb v E w W := by
  obtain ⟨v', hA, ho, hf⟩ := h
  exact ⟨v', hA, (Only.of_later hb).trans ho (fun j h => h.elim), fun k hk => (hf k hk).imp id (fun h => Nat.le_trans hb.size h)⟩
theorem rdT_one {W : World} {b : Nat} {t : Tk} (h : W.heap[b]? = some (.cells (tc t).toArray 32 (0, 0))) : RdT W (.slice (some ⟨b, 0, none⟩) 1 1) [t] := RdT_one h (Nat.le_refl 1)
attribute [local go_sem ↓] loadAt_task buildSlice_none buildSlice_task
set_option maxHeartbeats 8000000 in
set_option maxRecDepth 100000 in
theorem ref_Put (B yb : Nat) (v : Value) (ts : List Tk) (t : Tk) (w : World) (hA : RefA B yb v ts w) (hl : ts.length ≤ 12) (hB : B ≤ w.heap.size) :
    Calls Try.prog 13 #[.pointer (some ⟨yb, 0, none⟩), .agg (tc t).toArray] w fun e w' => e = .returned (.int .i64 (putE ts t)) ∧ LeftR B yb v (putL ts t) w w' := by
  obtain ⟨ao, cap, rfl⟩ := hA.own.reads.lenOf
  obtain ⟨n, hn⟩ : ∃ n, n = ts.length := ⟨_, rfl⟩
  obtain ⟨tb, htb⟩ : ∃ tb, tb = w.heap.size := ⟨_, rfl⟩
  obtain ⟨wz, hwz⟩ : ∃ wz, wz = w.alloc (.cells (tc t).toArray 32) := ⟨_, rfl⟩
  have hb1 : Below w.heap.size w wz := by rw [hwz]; exact (Below.refl _ _).alloc (Nat.le_refl _) _
  have ht1 : wz.heap[tb]? = some (.cells (tc t).toArray 32 (0, 0)) := by rw [hwz, htb]; exact heap_alloc_new w _
  have hzs : tb < wz.heap.size := by rw [hwz, htb]; simp
  have cN : wz.cell? ⟨tb, 0, none⟩ = some (.int .i64 t.name) := by rw [World.cell?, ht1]; rfl
  have cD : wz.cell? ⟨tb, 1, none⟩ = some (.int .i64 t.due) := by rw [World.cell?, ht1]; rfl
  have cP : wz.cell? ⟨tb, 2, none⟩ = some (.int .i64 t.prio) := by rw [World.cell?, ht1]; rfl
  rw [← hn] at hA hl ⊢
  have hn12 : (n : Int) ≤ 12 := by omega
  have bad : BadT t → putE ts t = 1 ∧ putL ts t = ts := fun h => by
    have e : putE ts t = 1 := by unfold putE; rw [if_pos h]
    exact ⟨e, by unfold putL; rw [e]; rfl⟩
  have HBAD := Lib.hid bad
  have HA := Lib.hid hA
  have HAZ := Lib.hid (hA.later hb1)
  have HB1 := Lib.hid hb1
  have HT1 := Lib.hid ht1
  have HN := Lib.hid hn
  have HBB := Lib.hid hB
  have HTB := Lib.hid htb
  clear hA hb1 ht1 hn hB bad
  go_enter Try.func13, Try.ntmps13
  go_upto_region 1 with fail
  rw [← hwz, ← htb]
  clear hwz htb
  by_cases c0 : t.name < 0
  · have E := Lib.hid (HBAD.out (.inl c0))
    go_wp2
    refine bodyPost_ret (v := .int .i64 1) (by simp [results, Try.results13, go_sem]) rfl ⟨by rw [E.out.1], by rw [E.out.2]; exact LeftR.same HA.out HB1.out⟩
  by_cases c1 : t.due < 0
  · have E := Lib.hid (HBAD.out (.inr (.inl c1)))
    go_wp2
    refine bodyPost_ret (v := .int .i64 1) (by simp [results, Try.results13, go_sem]) rfl ⟨by rw [E.out.1], by rw [E.out.2]; exact LeftR.same HA.out HB1.out⟩
  by_cases c2 : t.prio < 0
  · have E := Lib.hid (HBAD.out (.inr (.inr c2)))
    go_wp2
    refine bodyPost_ret (v := .int .i64 1) (by simp [results, Try.results13, go_sem]) rfl ⟨by rw [E.out.1], by rw [E.out.2]; exact LeftR.same HA.out HB1.out⟩
  have HGD := Lib.hid (show ¬ BadT t by unfold BadT; omega)
  obtain ⟨nm, hnm⟩ : ∃ nm, nm = t.name := ⟨_, rfl⟩
  rw [← hnm] at cN
  have HNM := Lib.hid hnm
  go_wp2_with fail
  clear c0 c1 c2 cN cD cP hnm HBAD
  go_loopw [5] (fun i wr => ∃ (k : Nat), k ≤ n ∧ i = .int .i64 k ∧ Below wz.heap.size wz wr ∧ ∀ u ∈ ts.take k, u.name ≠ nm) (fun i _ => n - (intOf i).toNat)
  case atStart => exact ⟨0, by omega, rfl, Below.refl _ _, by simp⟩
  case round =>
    obtain ⟨k, hk, rfl, hb, hno⟩ := hrel
    have hAr := HAZ.out.later hb
    have cY := hAr.at_.cell
    have cT : wr.cell? ⟨tb, 0, none⟩ = some (.int .i64 nm) := by rw [World.cell?, (hb.block tb hzs).trans HT1.out, HNM.out]; rfl
    have HB := Lib.hid hb
    have HNO := Lib.hid hno
    have HAR := Lib.hid hAr
    clear hb hno hAr
    by_cases hlt : k < n
    · have hlt' : (k : Int) < n := by omega
      have hkl : k < ts.length := by rw [← HN.out]; exact hlt
      obtain ⟨b, off, rfl, hrg, -⟩ := HAR.out.own.reads.at hkl
      obtain ⟨q, hq⟩ : ∃ q, q = (ts[k]).name := ⟨_, rfl⟩
      have cQ : wr.cell? ⟨b, off + k * 36, none⟩ = some (.int .i64 q) := by have := hrg 0 (.int .i64 q) (by simp [tc, hq]); simpa using this
      have HQ := Lib.hid hq
      clear hrg hq
      by_cases he : q = nm
      · have ge : (q == nm) = true := by simp [he]
        have hE : putE ts t = 5 := by
          unfold putE
          have hp : (ts.take k ++ [ts[k]]) <+: ts := by rw [← List.take_succ_eq_append_getElem hkl]; exact List.take_prefix _ _
          rw [if_neg HGD.out, idxN_at hp (by rw [← HQ.out, he, HNM.out]) (by rw [← HNM.out]; exact HNO.out), if_pos (by omega)]
        have hL : putL ts t = ts := by unfold putL; rw [hE]; rfl
        have E1 := Lib.hid hE
        have E2 := Lib.hid hL
        clear hE hL he
        go_wp2_with fail
        go_region
        go_wp2_with fail
        refine bodyPost_ret (v := .int .i64 5) (by simp [results, Try.results13, go_sem]) rfl ⟨by rw [E1.out], by rw [E2.out]; exact LeftR.same HA.out (HB1.out.trans (HB.out.drew.mono HB1.out.size))⟩
      · have ge : (q == nm) = false := by simp [he]
        have hno2 : ∀ u ∈ ts.take (k + 1), u.name ≠ nm := by
          intro u hu
          rw [List.take_succ_eq_append_getElem hkl] at hu
          rcases List.mem_append.1 hu with h | h
          · exact HNO.out u h
          · rw [List.mem_singleton] at h; rw [h, ← HQ.out]; exact he
        have HN2 := Lib.hid hno2
        clear hno2 he
        go_wp2_with fail
        go_region
        go_wp2_with fail
        exact ⟨⟨k + 1, by omega, by go_num, HB.out.drew, HN2.out⟩, by simp [intOf]; omega⟩
    · have hkn : k = n := by omega
      have hno3 : ∀ u ∈ ts, u.name ≠ t.name := fun u hu => by
        have h := HNO.out
        rw [hkn, HN.out, List.take_length] at h
        rw [← HNM.out]; exact h u hu
      have hge : ¬ (k : Int) < n := by omega
      clear hlt hkn
      by_cases c4 : (12 : Int) ≤ n
      · have hE : putE ts t = 3 := by
          unfold putE
          rw [if_neg HGD.out, idxN_none hno3, if_neg (by decide), if_pos (by have := HN.out; omega)]
        have hL : putL ts t = ts := by unfold putL; rw [hE]; rfl
        have E1 := Lib.hid hE
        have E2 := Lib.hid hL
        clear hE hL hno3
        go_wp2_with fail
        refine bodyPost_ret (v := .int .i64 3) (by simp [results, Try.results13, go_sem]) rfl ⟨by rw [E1.out], by rw [E2.out]; exact LeftR.same HA.out (HB1.out.trans (HB.out.mono HB1.out.size))⟩
      · have hE : putE ts t = 0 := by
          unfold putE
          rw [if_neg HGD.out, idxN_none hno3, if_neg (by decide), if_neg (by have := HN.out; omega)]
        have hL : putL ts t = insP ts t := by unfold putL; rw [if_pos hE]
        have E1 := Lib.hid hE
        have E2 := Lib.hid hL
        clear hE hL hno3
        obtain ⟨wq, hwq⟩ : ∃ wq, wq = wr := ⟨_, rfl⟩
        subst hwq
        go_wp2_with fail
        clear hge
        go_loopw [6] (fun i wr => ∃ (k : Nat), k ≤ n ∧ i = .int .i64 k ∧ Below wz.heap.size wz wr ∧ ∀ j (hj : j < ts.length), j < k → cmpT ts[j] t < 0) (fun i _ => n - (intOf i).toNat)
        case atStart => exact ⟨0, by omega, rfl, HB.out, fun j _ h => by omega⟩
        case round =>
          clear HB HAR HNO cY cT hk
          obtain ⟨k2, hk, rfl, hb, hall⟩ := hrel
          have hAr := HAZ.out.later hb
          have cY := hAr.at_.cell
          have LT := run_loadTask_at (rangeAt_box ((hb.block tb hzs).trans HT1.out))
          have LT1 := run_loadTask_at (rangeAt_drew (rangeAt_box ((hb.block tb hzs).trans HT1.out)))
          have HB := Lib.hid hb
          have HALL := Lib.hid hall
          have HAR := Lib.hid hAr
          clear hb hall hAr
          go_upto_region 11 with fail
          go_cut [64] (fun q wx => q = .bool (aheadAt ts t k2) ∧ Below wr.heap.size wr wx)
          case first =>
            by_cases hlt : k2 < n
            · have hlt' : (k2 : Int) < n := by omega
              have hkl : k2 < ts.length := by rw [← HN.out]; exact hlt
              obtain ⟨b, off, rfl, hrg, -⟩ := HAR.out.own.reads.at hkl
              obtain ⟨x, hx⟩ : ∃ x, x = ts[k2] := ⟨_, rfl⟩
              have hq := aheadAt_in (t := t) hkl
              rw [← hx] at hrg hq
              have LX := run_loadTask_at hrg
              have LX1 := run_loadTask_at (rangeAt_drew hrg)
              have HQ := Lib.hid hq
              clear hrg hq hx
              have GK : decide ((k2 : Int) < (n : Int)) = true := by simp; omega
              go_still_tail 16, (by kernel_rfl)
              change wpList _ _ _ _ _ wr.drew
              go_wp2_with (first
                | (go_at_call 27; refine (ref_ahead x t _).mono ?_; rw [← HQ.out]; rintro e w2 ⟨rfl, hb2⟩; have HB2 := Lib.hid hb2; clear hb2)
                | fail)
              go_meet
              exact ⟨rfl, (Below.refl _ wr).drew.trans HB2.out⟩
            · have hge : ¬ (k2 : Int) < n := by omega
              have hq := aheadAt_out (t := t) (show ¬ k2 < ts.length by rw [← HN.out]; exact hlt)
              have HQ := Lib.hid hq
              clear hq
              have GK : decide ((k2 : Int) < (n : Int)) = false := by simp; omega
              go_region
              all_goals go_wp2_with fail
              all_goals go_meet
              all_goals exact ⟨by rw [HQ.out], (Below.refl _ _).drew⟩
          case rest =>
            obtain ⟨rfl, hb2⟩ := hcut
            have HB2 := Lib.hid hb2
            clear hb2 LT LT1
            obtain ⟨q, hq⟩ : ∃ q, q = aheadAt ts t k2 := ⟨_, rfl⟩
            rw [← hq]
            cases q with
            | true =>
              have hc := hq.symm
              clear hq
              have hlt : k2 < n := by
                by_cases h : k2 < n
                · exact h
                · rw [aheadAt_out (by rw [← HN.out]; exact h)] at hc; cases hc
              have hkl : k2 < ts.length := by rw [← HN.out]; exact hlt
              have hax : cmpT ts[k2] t < 0 := by rw [aheadAt_in hkl] at hc; simpa using hc
              have hall2 : ∀ j (hj : j < ts.length), j < k2 + 1 → cmpT ts[j] t < 0 := fun j hj h => by
                by_cases e : j = k2
                · subst e; exact hax
                · exact HALL.out j hj (by omega)
              have HA2 := Lib.hid hall2
              clear hax hall2 hkl hc
              go_wp2_with fail
              go_roundw
              case rel => exact ⟨k2 + 1, by omega, by go_num, HB.out.trans (HB2.out.mono HB.out.size), HA2.out⟩
              case measure => simp [intOf]; omega
            | false =>
              have hc : ¬ aheadAt ts t k2 = true := by rw [← hq]; simp
              clear hq
              have hE : insP ts t = ts.take k2 ++ t :: ts.drop k2 := insP_at (by rw [← HN.out]; exact hk) HALL.out (fun h h2 => hc (by rw [aheadAt_in h]; simpa using h2))
              have E3 := Lib.hid hE
              clear hE hc
              obtain ⟨wd, hwd⟩ : ∃ wd, wd = wc := ⟨_, rfl⟩
              subst hwd
              have hcB : Below wz.heap.size wz wd := HB.out.trans (HB2.out.mono HB.out.size)
              have hAc := HAZ.out.later hcB
              have hTc := (hcB.block tb hzs).trans HT1.out
              have hwc : Below w.heap.size w wd := HB1.out.trans (hcB.mono HB1.out.size)
              have hBc : B ≤ wd.heap.size := Nat.le_trans HBB.out (hwc.size)
              have RBN := run_buildNone
              have RBT := run_buildTask t
              have hlk : (ts.take k2).length = k2 := by rw [List.length_take]; have := HN.out; omega
              have hld : (ts.drop k2).length = n - k2 := by rw [List.length_drop]; have := HN.out; omega
              have bA : Below wd.heap.size wd (wd.alloc (.cells #[] 32)).drew := ((Below.refl _ wd).alloc (Nat.le_refl _) _).drew
              have bC : Below wd.heap.size wd (wd.alloc (.cells (tc t).toArray 32)).drew := ((Below.refl _ wd).alloc (Nat.le_refl _) _).drew
              have bAC : Below wd.heap.size wd ((wd.alloc (.cells #[] 32)).alloc (.cells (tc t).toArray 32)).drew := (((Below.refl _ wd).alloc (Nat.le_refl _) _).alloc (by simp) _).drew
              have bCA : Below wd.heap.size wd ((wd.alloc (.cells (tc t).toArray 32)).alloc (.cells #[] 32)).drew := (((Below.refl _ wd).alloc (Nat.le_refl _) _).alloc (by simp) _).drew
              have oA : OwnT wd.heap.size (.slice (some ⟨wd.heap.size, 0, none⟩) 0 0) [] (wd.alloc (.cells #[] 32)).drew := ownT_none (World.alloc_heap_new wd (.cells #[] 32)) (Nat.le_refl _)
              have oAC : OwnT wd.heap.size (.slice (some ⟨wd.heap.size, 0, none⟩) 0 0) [] ((wd.alloc (.cells #[] 32)).alloc (.cells (tc t).toArray 32)).drew := ownT_none ((Below.heap_alloc _ _ _ (by simp)).trans (World.alloc_heap_new wd (.cells #[] 32))) (Nat.le_refl _)
              have oCA : OwnT wd.heap.size (.slice (some ⟨wd.heap.size + 1, 0, none⟩) 0 0) [] ((wd.alloc (.cells (tc t).toArray 32)).alloc (.cells #[] 32)).drew := ownT_none (by have h := World.alloc_heap_new (wd.alloc (.cells (tc t).toArray 32)) (.cells #[] 32); rw [World.size_alloc] at h; exact h) (by omega)
              have tAC : ((wd.alloc (.cells #[] 32)).alloc (.cells (tc t).toArray 32)).drew.heap[wd.heap.size + 1]? = some (.cells (tc t).toArray 32 (0, 0)) := by have h := World.alloc_heap_new (wd.alloc (.cells #[] 32)) (.cells (tc t).toArray 32); rw [World.size_alloc] at h; exact h
              have tCA : ((wd.alloc (.cells (tc t).toArray 32)).alloc (.cells #[] 32)).drew.heap[wd.heap.size]? = some (.cells (tc t).toArray 32 (0, 0)) := (Below.heap_alloc _ _ _ (by simp)).trans (World.alloc_heap_new wd (.cells (tc t).toArray 32))
              have LT0 := run_loadTask_at (rangeAt_drew (rangeAt_box hTc))
              have LTA := run_loadTask_at (rangeAt_box ((bA.block tb (by have := hcB.size; omega)).trans hTc))
              have htbc : tb < wd.heap.size := by have := hcB.size; omega
              have HTC := Lib.hid hTc
              have BA := Lib.hid bA
              have BC := Lib.hid bC
              have BAC := Lib.hid bAC
              have BCA := Lib.hid bCA
              have OA := Lib.hid oA
              have OAC := Lib.hid oAC
              have OCA := Lib.hid oCA
              have TAC := Lib.hid tAC
              have TCA := Lib.hid tCA
              have HAC := Lib.hid hAc
              have HWC := Lib.hid hwc
              have HBC := Lib.hid hBc
              have HLK := Lib.hid hlk
              have HLD := Lib.hid hld
              have L1 := Lib.hid (show ([] : List Tk).length + (ts.take k2).length ≤ 1000000 by rw [hlk]; simp; omega)
              have L2 := Lib.hid (show (([] : List Tk) ++ ts.take k2).length + [t].length ≤ 1000000 by rw [List.nil_append, hlk]; simp; omega)
              have L3 := Lib.hid (show (([] : List Tk) ++ ts.take k2 ++ [t]).length + (ts.drop k2).length ≤ 1000000 by rw [List.nil_append, List.length_append, hlk, hld]; simp; omega)
              clear hcB hAc hTc hwc hBc hlk hld bA bC bAC bCA oA oAC oCA tAC tCA cY HB HB2 HAR HALL
              rcases HAC.out.own.2 with ⟨hv, h0⟩ | ⟨g, cap', cur, hv, hBg, -, hnc, -⟩
              · have hn0 : n = 0 := by rw [HN.out]; exact h0
                injection hv with e1 e2 e3
                subst e1 e3
                have hk0 : k2 = 0 := by omega
                have ht0 : ts = [] := List.eq_nil_of_length_eq_zero (by rw [← HN.out]; exact hn0)
                clear e2 h0
                subst hk0 hn0
                have HR1 := Lib.hid (show RdT wd (.slice none 0 0) (ts.take 0) from .inl ⟨rfl, rfl⟩)
                have HRD := Lib.hid (show RdT wd (.slice none 0 0) (ts.drop 0) from .inl ⟨rfl, by rw [ht0]; rfl⟩)
                clear ht0
                have cY0 := HAC.out.at_.cell
                have cYA : (wd.alloc (.cells #[] 32)).cell? ⟨yb, 0, none⟩ = some (.slice none 0 0) := (HAC.out.later BA.out).at_.cell
                have cYC : (wd.alloc (.cells (tc t).toArray 32)).cell? ⟨yb, 0, none⟩ = some (.slice none 0 0) := (HAC.out.later BC.out).at_.cell
                have cYAC : ((wd.alloc (.cells #[] 32)).alloc (.cells (tc t).toArray 32)).cell? ⟨yb, 0, none⟩ = some (.slice none 0 0) := (HAC.out.later BAC.out).at_.cell
                have cYCA : ((wd.alloc (.cells (tc t).toArray 32)).alloc (.cells #[] 32)).cell? ⟨yb, 0, none⟩ = some (.slice none 0 0) := (HAC.out.later BCA.out).at_.cell
                go_upto_region 13 with fail
                go_cut [7] (fun q wx => OwnT wd.heap.size q ([] ++ ts.take 0 ++ [t]) wx ∧ Below wd.heap.size wd wx)
                case first =>
                  go_region_law (first
                    | (refine step_app_T rfl _ _ rfl wd.heap.size (.slice (some ⟨wd.heap.size, 0, none⟩) 0 0) (.slice none 0 0) [] (ts.take 0) (by simp [Act.eval, Act.put]) (by simp [Act.eval, Act.put]) OA.out (HR1.out.below BA.out) L1.out BA.out.size ?_; intro v1 w2 ho1 hg1 hf1; have hb2 := BA.out.grown hg1 BA.out.size (fun k hk => by have e : wd.heap.size = k := (by simpa [Value.ownBlock] using hk); omega); have LT2 := run_loadTask_at (rangeAt_box ((hb2.block tb htbc).trans HTC.out)); have HT2 := Lib.hid (rdT_one (World.alloc_heap_new w2 (.cells (tc t).toArray 32))); have HB2x := Lib.hid (hb2.alloc hb2.size (.cells (tc t).toArray 32)); have HO2x := Lib.hid (ho1.of (w' := w2.alloc (.cells (tc t).toArray 32)) (Nat.le_refl _) (fun k hk => Below.heap_alloc _ _ _ (ho1.block hk).2)); have HO2 := Lib.hid ho1; have HB2 := Lib.hid hb2; have HS2 := Lib.hid hb2.size; clear ho1 hg1 hf1 hb2)
                    | (refine step_app_T rfl _ _ rfl wd.heap.size (.slice (some ⟨wd.heap.size, 0, none⟩) 0 0) (.slice none 0 0) [] (ts.take 0) (by simp [Act.eval, Act.put]) (by simp [Act.eval, Act.put]) OAC.out (HR1.out.below BAC.out) L1.out BAC.out.size ?_; intro v1 w2 ho1 hg1 hf1; have hb2 := BAC.out.grown hg1 BAC.out.size (fun k hk => by have e : wd.heap.size = k := (by simpa [Value.ownBlock] using hk); omega); have HT3 := Lib.hid (rdT_one ((hg1.block (wd.heap.size + 1) (by simp) (by simp [Value.ownBlock])).trans TAC.out)); have HO2 := Lib.hid ho1; have HB2 := Lib.hid hb2; have HS2 := Lib.hid hb2.size; clear ho1 hg1 hf1 hb2)
                    | (refine step_app_T rfl _ _ rfl wd.heap.size (.slice (some ⟨wd.heap.size + 1, 0, none⟩) 0 0) (.slice none 0 0) [] (ts.take 0) (by simp [Act.eval, Act.put]) (by simp [Act.eval, Act.put]) OCA.out (HR1.out.below BCA.out) L1.out BCA.out.size ?_; intro v1 w2 ho1 hg1 hf1; have hb2 := BCA.out.grown hg1 BCA.out.size (fun k hk => by have e : wd.heap.size + 1 = k := (by simpa [Value.ownBlock] using hk); omega); have HT4 := Lib.hid (rdT_one ((hg1.block wd.heap.size (by simp; omega) (by simp [Value.ownBlock])).trans TCA.out)); have HO2 := Lib.hid ho1; have HB2 := Lib.hid hb2; have HS2 := Lib.hid hb2.size; clear ho1 hg1 hf1 hb2)
                    | (refine step_app_T rfl _ _ rfl wd.heap.size v1 (.slice (some ⟨w2.heap.size, 0, none⟩) 1 1) ([] ++ ts.take 0) [t] (by simp [Act.eval, Act.put]) (by simp [Act.eval, Act.put]) HO2x.out HT2.out L2.out HB2x.out.size ?_; intro v2 w3 ho2 hg2 hf2; have hb3 := HB2x.out.grown hg2 HB2x.out.size (fun k hk => (HO2x.out.block hk).1); have HO3 := Lib.hid ho2; have HB3 := Lib.hid hb3; clear ho2 hg2 hf2 hb3)
                    | (refine step_app_T rfl _ _ rfl wd.heap.size v1 (.slice (some ⟨wd.heap.size + 1, 0, none⟩) 1 1) ([] ++ ts.take 0) [t] (by simp [Act.eval, Act.put]) (by simp [Act.eval, Act.put]) HO2.out HT3.out L2.out HB2.out.size ?_; intro v2 w3 ho2 hg2 hf2; have hb3 := HB2.out.grown hg2 HB2.out.size (fun k hk => (HO2.out.block hk).1); have HO3 := Lib.hid ho2; have HB3 := Lib.hid hb3; clear ho2 hg2 hf2 hb3)
                    | (refine step_app_T rfl _ _ rfl wd.heap.size v1 (.slice (some ⟨wd.heap.size, 0, none⟩) 1 1) ([] ++ ts.take 0) [t] (by simp [Act.eval, Act.put]) (by simp [Act.eval, Act.put]) HO2.out HT4.out L2.out HB2.out.size ?_; intro v2 w3 ho2 hg2 hf2; have hb3 := HB2.out.grown hg2 HB2.out.size (fun k hk => (HO2.out.block hk).1); have HO3 := Lib.hid ho2; have HB3 := Lib.hid hb3; clear ho2 hg2 hf2 hb3)
                    | fail)
                  all_goals go_wp2_with fail
                  all_goals go_meet
                  all_goals exact ⟨HO3.out, HB3.out⟩
                case rest =>
                  obtain ⟨hO, hB⟩ := hcut
                  obtain ⟨a7, c7, hv7⟩ := hO.reads.lenOf
                  obtain ⟨m7, hm7⟩ : ∃ m7, m7 = (([] : List Tk) ++ ts.take 0 ++ [t]).length := ⟨_, rfl⟩
                  rw [← hm7] at hv7
                  subst hv7
                  have cY7 : wc.cell? ⟨yb, 0, none⟩ = some (.slice none 0 0) := (HAC.out.later hB).at_.cell
                  have HO7 := Lib.hid hO
                  have HB7 := Lib.hid hB
                  have HR7 := Lib.hid (HRD.out.below hB)
                  have HS7 := Lib.hid hB.size
                  clear hO hB hm7
                  go_wp2_with (first
                    | (at_builtin; refine wp_app_T_at (B := wd.heap.size) (v := .slice a7 m7 c7) (u := (.slice none 0 0)) (xs := [] ++ ts.take 0 ++ [t]) (ys := ts.drop 0) rfl rfl rfl rfl HO7.out HR7.out L3.out HS7.out ?_; intro v4 w4 ho4 hb4 hs4 hg4 hn4 hf4; obtain ⟨a4, c4, hv4⟩ := ho4.reads.lenOf; obtain ⟨m4, hm4⟩ : ∃ m4, m4 = (([] : List Tk) ++ ts.take 0 ++ [t] ++ ts.drop 0).length := ⟨_, rfl⟩; rw [← hm4] at hv4; subst hv4; have hb5 := HB7.out.trans hb4; have hE := ref_end1 HAC.out HBC.out hb5 ho4; have cY8 : w4.cell? ⟨yb, 0, none⟩ = some (.slice none 0 0) := (HAC.out.later hb5).at_.cell; have fY8 := (HAC.out.later hb5).at_.frozen; have HE := Lib.hid hE; clear ho4 hb4 hs4 hg4 hn4 hf4 hE hb5 hm4)
                    | fail)
                  have hfin := LeftR.back HWC.out HE.out
                  rw [show ([] : List Tk) ++ ts.take 0 ++ [t] ++ ts.drop 0 = insP ts t by rw [E3.out]; simp] at hfin
                  exact bodyPost_ret (v := .int .i64 0) (by simp [results, Try.results13, go_sem]) rfl ⟨by rw [E1.out], by rw [E2.out]; exact hfin⟩
              · injection hv with e1 e2 e3
                subst e1 e3
                clear e2
                have hnc' : n ≤ cap := by rw [HN.out]; exact hnc
                have hkc : (k2 : Int) ≤ (cap : Int) := by omega
                have hkt : k2 ≤ ts.length := by rw [← HN.out]; exact hk
                have HR1 := Lib.hid (rdT_take HAC.out.own hkt)
                have cY0 := HAC.out.at_.cell
                have cYA : (wd.alloc (.cells #[] 32)).cell? ⟨yb, 0, none⟩ = some (.slice (some ⟨g, 0, none⟩) n cap) := (HAC.out.later BA.out).at_.cell
                have cYC : (wd.alloc (.cells (tc t).toArray 32)).cell? ⟨yb, 0, none⟩ = some (.slice (some ⟨g, 0, none⟩) n cap) := (HAC.out.later BC.out).at_.cell
                have cYAC : ((wd.alloc (.cells #[] 32)).alloc (.cells (tc t).toArray 32)).cell? ⟨yb, 0, none⟩ = some (.slice (some ⟨g, 0, none⟩) n cap) := (HAC.out.later BAC.out).at_.cell
                have cYCA : ((wd.alloc (.cells (tc t).toArray 32)).alloc (.cells #[] 32)).cell? ⟨yb, 0, none⟩ = some (.slice (some ⟨g, 0, none⟩) n cap) := (HAC.out.later BCA.out).at_.cell
                have hRD := rdT_drop HAC.out.own hkt
                clear hnc hkt
                by_cases hkc2 : cap = k2
                · have hdr : ts.drop k2 = [] := List.eq_nil_of_length_eq_zero (by rw [HLD.out]; omega)
                  have HRD := Lib.hid (show RdT wd (.slice (some ⟨g, 0, none⟩) 0 0) (ts.drop k2) from .inr ⟨g, 0, 0, by rw [hdr]; rfl, by rw [hdr]; simp, by rw [hdr]; intro j u hj; simp [Tc] at hj⟩)
                  clear hRD hdr
                  subst hkc2
                  go_upto_region 13 with fail
                  go_cut [7] (fun q wx => OwnT wd.heap.size q ([] ++ ts.take cap ++ [t]) wx ∧ Below wd.heap.size wd wx)
                  case first =>
                    go_region_law (first
                      | (refine step_app_T rfl _ _ rfl wd.heap.size (.slice (some ⟨wd.heap.size, 0, none⟩) 0 0) (.slice (some ⟨g, 0, none⟩) cap cap) [] (ts.take cap) (by simp [Act.eval, Act.put]) (by simp [Act.eval, Act.put]) OA.out (HR1.out.below BA.out) L1.out BA.out.size ?_; intro v1 w2 ho1 hg1 hf1; have hb2 := BA.out.grown hg1 BA.out.size (fun k hk => by have e : wd.heap.size = k := (by simpa [Value.ownBlock] using hk); omega); have LT2 := run_loadTask_at (rangeAt_box ((hb2.block tb htbc).trans HTC.out)); have HT2 := Lib.hid (rdT_one (World.alloc_heap_new w2 (.cells (tc t).toArray 32))); have HB2x := Lib.hid (hb2.alloc hb2.size (.cells (tc t).toArray 32)); have HO2x := Lib.hid (ho1.of (w' := w2.alloc (.cells (tc t).toArray 32)) (Nat.le_refl _) (fun k hk => Below.heap_alloc _ _ _ (ho1.block hk).2)); have HO2 := Lib.hid ho1; have HB2 := Lib.hid hb2; have HS2 := Lib.hid hb2.size; clear ho1 hg1 hf1 hb2)
                      | (refine step_app_T rfl _ _ rfl wd.heap.size (.slice (some ⟨wd.heap.size, 0, none⟩) 0 0) (.slice (some ⟨g, 0, none⟩) cap cap) [] (ts.take cap) (by simp [Act.eval, Act.put]) (by simp [Act.eval, Act.put]) OAC.out (HR1.out.below BAC.out) L1.out BAC.out.size ?_; intro v1 w2 ho1 hg1 hf1; have hb2 := BAC.out.grown hg1 BAC.out.size (fun k hk => by have e : wd.heap.size = k := (by simpa [Value.ownBlock] using hk); omega); have HT3 := Lib.hid (rdT_one ((hg1.block (wd.heap.size + 1) (by simp) (by simp [Value.ownBlock])).trans TAC.out)); have HO2 := Lib.hid ho1; have HB2 := Lib.hid hb2; have HS2 := Lib.hid hb2.size; clear ho1 hg1 hf1 hb2)
                      | (refine step_app_T rfl _ _ rfl wd.heap.size (.slice (some ⟨wd.heap.size + 1, 0, none⟩) 0 0) (.slice (some ⟨g, 0, none⟩) cap cap) [] (ts.take cap) (by simp [Act.eval, Act.put]) (by simp [Act.eval, Act.put]) OCA.out (HR1.out.below BCA.out) L1.out BCA.out.size ?_; intro v1 w2 ho1 hg1 hf1; have hb2 := BCA.out.grown hg1 BCA.out.size (fun k hk => by have e : wd.heap.size + 1 = k := (by simpa [Value.ownBlock] using hk); omega); have HT4 := Lib.hid (rdT_one ((hg1.block wd.heap.size (by simp; omega) (by simp [Value.ownBlock])).trans TCA.out)); have HO2 := Lib.hid ho1; have HB2 := Lib.hid hb2; have HS2 := Lib.hid hb2.size; clear ho1 hg1 hf1 hb2)
                      | (refine step_app_T rfl _ _ rfl wd.heap.size v1 (.slice (some ⟨w2.heap.size, 0, none⟩) 1 1) ([] ++ ts.take cap) [t] (by simp [Act.eval, Act.put]) (by simp [Act.eval, Act.put]) HO2x.out HT2.out L2.out HB2x.out.size ?_; intro v2 w3 ho2 hg2 hf2; have hb3 := HB2x.out.grown hg2 HB2x.out.size (fun k hk => (HO2x.out.block hk).1); have HO3 := Lib.hid ho2; have HB3 := Lib.hid hb3; clear ho2 hg2 hf2 hb3)
                      | (refine step_app_T rfl _ _ rfl wd.heap.size v1 (.slice (some ⟨wd.heap.size + 1, 0, none⟩) 1 1) ([] ++ ts.take cap) [t] (by simp [Act.eval, Act.put]) (by simp [Act.eval, Act.put]) HO2.out HT3.out L2.out HB2.out.size ?_; intro v2 w3 ho2 hg2 hf2; have hb3 := HB2.out.grown hg2 HB2.out.size (fun k hk => (HO2.out.block hk).1); have HO3 := Lib.hid ho2; have HB3 := Lib.hid hb3; clear ho2 hg2 hf2 hb3)
                      | (refine step_app_T rfl _ _ rfl wd.heap.size v1 (.slice (some ⟨wd.heap.size, 0, none⟩) 1 1) ([] ++ ts.take cap) [t] (by simp [Act.eval, Act.put]) (by simp [Act.eval, Act.put]) HO2.out HT4.out L2.out HB2.out.size ?_; intro v2 w3 ho2 hg2 hf2; have hb3 := HB2.out.grown hg2 HB2.out.size (fun k hk => (HO2.out.block hk).1); have HO3 := Lib.hid ho2; have HB3 := Lib.hid hb3; clear ho2 hg2 hf2 hb3)
                      | fail)
                    all_goals go_wp2_with fail
                    all_goals go_meet
                    all_goals exact ⟨HO3.out, HB3.out⟩
                  case rest =>
                    obtain ⟨hO, hB⟩ := hcut
                    obtain ⟨a7, c7, hv7⟩ := hO.reads.lenOf
                    obtain ⟨m7, hm7⟩ : ∃ m7, m7 = (([] : List Tk) ++ ts.take cap ++ [t]).length := ⟨_, rfl⟩
                    rw [← hm7] at hv7
                    subst hv7
                    have cY7 : wc.cell? ⟨yb, 0, none⟩ = some (.slice (some ⟨g, 0, none⟩) n cap) := (HAC.out.later hB).at_.cell
                    have HO7 := Lib.hid hO
                    have HB7 := Lib.hid hB
                    have HR7 := Lib.hid (HRD.out.below hB)
                    have HS7 := Lib.hid hB.size
                    clear hO hB hm7
                    go_wp2_with (first
                      | (at_builtin; refine wp_app_T_at (B := wd.heap.size) (v := .slice a7 m7 c7) (u := (.slice (some ⟨g, 0, none⟩) 0 0)) (xs := [] ++ ts.take cap ++ [t]) (ys := ts.drop cap) rfl rfl rfl rfl HO7.out HR7.out L3.out HS7.out ?_; intro v4 w4 ho4 hb4 hs4 hg4 hn4 hf4; obtain ⟨a4, c4, hv4⟩ := ho4.reads.lenOf; obtain ⟨m4, hm4⟩ : ∃ m4, m4 = (([] : List Tk) ++ ts.take cap ++ [t] ++ ts.drop cap).length := ⟨_, rfl⟩; rw [← hm4] at hv4; subst hv4; have hb5 := HB7.out.trans hb4; have hE := ref_end1 HAC.out HBC.out hb5 ho4; have cY8 : w4.cell? ⟨yb, 0, none⟩ = some (.slice (some ⟨g, 0, none⟩) n cap) := (HAC.out.later hb5).at_.cell; have fY8 := (HAC.out.later hb5).at_.frozen; have HE := Lib.hid hE; clear ho4 hb4 hs4 hg4 hn4 hf4 hE hb5 hm4)
                      | fail)
                    have hfin := LeftR.back HWC.out HE.out
                    rw [show ([] : List Tk) ++ ts.take cap ++ [t] ++ ts.drop cap = insP ts t by rw [E3.out]; simp] at hfin
                    exact bodyPost_ret (v := .int .i64 0) (by simp [results, Try.results13, go_sem]) rfl ⟨by rw [E1.out], by rw [E2.out]; exact hfin⟩
                · have hkf : (cap = k2) = False := by simp [hkc2]
                  have HRD := Lib.hid hRD
                  clear hRD
                  go_upto_region 13 with fail
                  go_cut [7] (fun q wx => OwnT wd.heap.size q ([] ++ ts.take k2 ++ [t]) wx ∧ Below wd.heap.size wd wx)
                  case first =>
                    go_region_law (first
                      | (refine step_app_T rfl _ _ rfl wd.heap.size (.slice (some ⟨wd.heap.size, 0, none⟩) 0 0) (.slice (some ⟨g, 0, none⟩) k2 cap) [] (ts.take k2) (by simp [Act.eval, Act.put]) (by simp [Act.eval, Act.put]) OA.out (HR1.out.below BA.out) L1.out BA.out.size ?_; intro v1 w2 ho1 hg1 hf1; have hb2 := BA.out.grown hg1 BA.out.size (fun k hk => by have e : wd.heap.size = k := (by simpa [Value.ownBlock] using hk); omega); have LT2 := run_loadTask_at (rangeAt_box ((hb2.block tb htbc).trans HTC.out)); have HT2 := Lib.hid (rdT_one (World.alloc_heap_new w2 (.cells (tc t).toArray 32))); have HB2x := Lib.hid (hb2.alloc hb2.size (.cells (tc t).toArray 32)); have HO2x := Lib.hid (ho1.of (w' := w2.alloc (.cells (tc t).toArray 32)) (Nat.le_refl _) (fun k hk => Below.heap_alloc _ _ _ (ho1.block hk).2)); have HO2 := Lib.hid ho1; have HB2 := Lib.hid hb2; have HS2 := Lib.hid hb2.size; clear ho1 hg1 hf1 hb2)
                      | (refine step_app_T rfl _ _ rfl wd.heap.size (.slice (some ⟨wd.heap.size, 0, none⟩) 0 0) (.slice (some ⟨g, 0, none⟩) k2 cap) [] (ts.take k2) (by simp [Act.eval, Act.put]) (by simp [Act.eval, Act.put]) OAC.out (HR1.out.below BAC.out) L1.out BAC.out.size ?_; intro v1 w2 ho1 hg1 hf1; have hb2 := BAC.out.grown hg1 BAC.out.size (fun k hk => by have e : wd.heap.size = k := (by simpa [Value.ownBlock] using hk); omega); have HT3 := Lib.hid (rdT_one ((hg1.block (wd.heap.size + 1) (by simp) (by simp [Value.ownBlock])).trans TAC.out)); have HO2 := Lib.hid ho1; have HB2 := Lib.hid hb2; have HS2 := Lib.hid hb2.size; clear ho1 hg1 hf1 hb2)
                      | (refine step_app_T rfl _ _ rfl wd.heap.size (.slice (some ⟨wd.heap.size + 1, 0, none⟩) 0 0) (.slice (some ⟨g, 0, none⟩) k2 cap) [] (ts.take k2) (by simp [Act.eval, Act.put]) (by simp [Act.eval, Act.put]) OCA.out (HR1.out.below BCA.out) L1.out BCA.out.size ?_; intro v1 w2 ho1 hg1 hf1; have hb2 := BCA.out.grown hg1 BCA.out.size (fun k hk => by have e : wd.heap.size + 1 = k := (by simpa [Value.ownBlock] using hk); omega); have HT4 := Lib.hid (rdT_one ((hg1.block wd.heap.size (by simp; omega) (by simp [Value.ownBlock])).trans TCA.out)); have HO2 := Lib.hid ho1; have HB2 := Lib.hid hb2; have HS2 := Lib.hid hb2.size; clear ho1 hg1 hf1 hb2)
                      | (refine step_app_T rfl _ _ rfl wd.heap.size v1 (.slice (some ⟨w2.heap.size, 0, none⟩) 1 1) ([] ++ ts.take k2) [t] (by simp [Act.eval, Act.put]) (by simp [Act.eval, Act.put]) HO2x.out HT2.out L2.out HB2x.out.size ?_; intro v2 w3 ho2 hg2 hf2; have hb3 := HB2x.out.grown hg2 HB2x.out.size (fun k hk => (HO2x.out.block hk).1); have HO3 := Lib.hid ho2; have HB3 := Lib.hid hb3; clear ho2 hg2 hf2 hb3)
                      | (refine step_app_T rfl _ _ rfl wd.heap.size v1 (.slice (some ⟨wd.heap.size + 1, 0, none⟩) 1 1) ([] ++ ts.take k2) [t] (by simp [Act.eval, Act.put]) (by simp [Act.eval, Act.put]) HO2.out HT3.out L2.out HB2.out.size ?_; intro v2 w3 ho2 hg2 hf2; have hb3 := HB2.out.grown hg2 HB2.out.size (fun k hk => (HO2.out.block hk).1); have HO3 := Lib.hid ho2; have HB3 := Lib.hid hb3; clear ho2 hg2 hf2 hb3)
                      | (refine step_app_T rfl _ _ rfl wd.heap.size v1 (.slice (some ⟨wd.heap.size, 0, none⟩) 1 1) ([] ++ ts.take k2) [t] (by simp [Act.eval, Act.put]) (by simp [Act.eval, Act.put]) HO2.out HT4.out L2.out HB2.out.size ?_; intro v2 w3 ho2 hg2 hf2; have hb3 := HB2.out.grown hg2 HB2.out.size (fun k hk => (HO2.out.block hk).1); have HO3 := Lib.hid ho2; have HB3 := Lib.hid hb3; clear ho2 hg2 hf2 hb3)
                      | fail)
                    all_goals go_wp2_with fail
                    all_goals go_meet
                    all_goals exact ⟨HO3.out, HB3.out⟩
                  case rest =>
                    obtain ⟨hO, hB⟩ := hcut
                    obtain ⟨a7, c7, hv7⟩ := hO.reads.lenOf
                    obtain ⟨m7, hm7⟩ : ∃ m7, m7 = (([] : List Tk) ++ ts.take k2 ++ [t]).length := ⟨_, rfl⟩
                    rw [← hm7] at hv7
                    subst hv7
                    have cY7 : wc.cell? ⟨yb, 0, none⟩ = some (.slice (some ⟨g, 0, none⟩) n cap) := (HAC.out.later hB).at_.cell
                    have HO7 := Lib.hid hO
                    have HB7 := Lib.hid hB
                    have HR7 := Lib.hid (HRD.out.below hB)
                    have HS7 := Lib.hid hB.size
                    clear hO hB hm7
                    go_wp2_with (first
                      | (at_builtin; refine wp_app_T_at (B := wd.heap.size) (v := .slice a7 m7 c7) (u := (.slice (some ⟨g, k2 * 36, none⟩) (n - k2) (cap - k2))) (xs := [] ++ ts.take k2 ++ [t]) (ys := ts.drop k2) rfl rfl rfl rfl HO7.out HR7.out L3.out HS7.out ?_; intro v4 w4 ho4 hb4 hs4 hg4 hn4 hf4; obtain ⟨a4, c4, hv4⟩ := ho4.reads.lenOf; obtain ⟨m4, hm4⟩ : ∃ m4, m4 = (([] : List Tk) ++ ts.take k2 ++ [t] ++ ts.drop k2).length := ⟨_, rfl⟩; rw [← hm4] at hv4; subst hv4; have hb5 := HB7.out.trans hb4; have hE := ref_end1 HAC.out HBC.out hb5 ho4; have cY8 : w4.cell? ⟨yb, 0, none⟩ = some (.slice (some ⟨g, 0, none⟩) n cap) := (HAC.out.later hb5).at_.cell; have fY8 := (HAC.out.later hb5).at_.frozen; have HE := Lib.hid hE; clear ho4 hb4 hs4 hg4 hn4 hf4 hE hb5 hm4)
                      | fail)
                    have hfin := LeftR.back HWC.out HE.out
                    rw [show ([] : List Tk) ++ ts.take k2 ++ [t] ++ ts.drop k2 = insP ts t by rw [E3.out]; simp] at hfin
                    exact bodyPost_ret (v := .int .i64 0) (by simp [results, Try.results13, go_sem]) rfl ⟨by rw [E1.out], by rw [E2.out]; exact hfin⟩
end Go.Proofs.Ytbpgiahbnijidaa
