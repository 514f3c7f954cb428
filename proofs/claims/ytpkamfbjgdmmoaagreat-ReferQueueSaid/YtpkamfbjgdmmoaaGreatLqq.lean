/-
  The law ReferQueue, walked. Printed by mk12.py.
-/
import Derived.Test.YtpkamfbjgdmmoaaGreatQq2
import Derived.Test.YtpkamfbjgdmmoaaGreatMp
import Derived.BigRegion
import Derived.RegionTactic
import Derived.Deep.RegionHeld3
namespace Go.Proofs.YtpkamfbjgdmmoaaGreat
open Go.RowKit Go.Maps Go.Shelf
set_option linter.unusedVariables false
set_option linter.unusedSimpArgs false

theorem fold_trkT (t : Trk) : List.foldl (fun (cs : Array Value) (x : Value × Nat) => cs.setIfInBounds x.2 x.1) #[.int .i64 0, .int .i64 0, .int .i64 0, .int .i64 0, .int .i64 0, .int .i64 0, .int .i64 0, .int .i64 0, .int .i64 0, .int .i64 0, .int .i64 0, .int .i64 0, .int .i64 0, .int .i64 0, .int .i64 0, .int .i64 0, .int .i64 0, .int .i64 0] (trkR.f t).zipIdx = (trkR.f t).toArray := by kernel_rfl
theorem rowL_set {w : World} {b i : Nat} {v : Value} {L : List Value} {T : TypeId} (h : w.heap[b]? = some (.cells L.toArray T (0, 0))) : (w.setCell ⟨b, i, none⟩ v).heap[b]? = some (.cells (L.set i v).toArray T (0, 0)) := by
  simp [World.setCell, Array.getElem?_modify, h]
theorem bl_set {N b i : Nat} {v : Value} {w w' : World} (h : Below N w w') (hb : N ≤ b) : Below N w (w'.setCell ⟨b, i, none⟩ v) := h.trans ⟨rfl, rfl, rfl, by simp [World.setCell], fun k hk => Below.heap_setCell _ _ _ k (by show k ≠ b; omega)⟩
theorem all_row {B : Nat} {ao : Option Addr} {n cap : Nat} {R : List Rfm} {w : World} (h : OwnR refP B (.slice ao n cap) (rowR 0 R) w) {i : Nat} (hi : i < R.length) : ∃ b, ao = some ⟨b, 0, none⟩ ∧ B ≤ b ∧ b < w.heap.size ∧ w.rangeAt b (i * 45) (rfF (refAt R i)) := by
  have hl : i < (rowR 0 R).length := by rw [rowR_len]; exact hi
  obtain ⟨b, off, rfl, hr, hb⟩ := h.reads.at hl
  have hoff : off = 0 ∧ B ≤ b := by
    obtain ⟨-, h2⟩ := h
    rcases h2 with ⟨h2, -⟩ | ⟨g, c, cur, h2, hg, -⟩
    · cases h2
    · injection h2 with e1 e2 e3
      injection e1 with e1
      injection e1 with e1 e4
      subst e1
      exact ⟨e4, hg⟩
  obtain ⟨rfl, hB⟩ := hoff
  refine ⟨b, rfl, hB, hb, ?_⟩
  have e : refP.f (rowR 0 R)[i] = rfF (refAt R i) := by
    have hg : (rowR 0 R)[i]? = some (rowR 0 R)[i] := List.getElem?_eq_getElem hl
    rw [rowR_get, List.getElem?_eq_getElem hi] at hg
    simp only [Option.map_some, Option.some.injEq] at hg
    show rfF ((rowR 0 R)[i]).2 = _
    rw [← hg]
    unfold refAt
    rw [if_pos (by omega), Int.toNat_natCast, List.getElem?_eq_getElem hi, Option.getD_some]
  rw [e, Nat.zero_add] at hr
  exact hr
theorem rowf_at {w : World} {b o : Nat} {x : Rfm} (h : w.rangeAt b o (rfF x)) : w.cell? ⟨b, o + 1, none⟩ = some (.int .i64 x.tr) ∧ w.cell? ⟨b, o + 39, none⟩ = some (.int .i64 x.si) := by
  obtain ⟨c0, c1, c2, c3, c4, c5, c6, c7, c8, c9, -⟩ := rfF_cells x
  exact ⟨h 1 _ c1, h 39 _ c7⟩
def cntU (R : List Rfm) (m k : Nat) : Nat := ((List.range k).filter fun i => decide (i % 2 = m) && decide (0 ≤ (refAt R i).si)).length
theorem cntU_snoc (R : List Rfm) (m k : Nat) : cntU R m (k + 1) = cntU R m k + if k % 2 = m ∧ 0 ≤ (refAt R k).si then 1 else 0 := by
  unfold cntU
  rw [List.range_succ, List.filter_append, List.length_append]
  congr 1
  by_cases h1 : k % 2 = m <;> by_cases h2 : 0 ≤ (refAt R k).si <;> simp [h1, h2]
theorem cntU_le (R : List Rfm) (m k : Nat) : cntU R m k ≤ k := by
  unfold cntU
  exact Nat.le_trans (List.length_filter_le _ _) (by simp)
theorem and31 (x : Int) : ∃ z : Int, bits .and .i64 x 31 = z ∧ 0 ≤ z ∧ z ≤ 31 := by
  have h7 : (BitVec.ofInt 64 x &&& BitVec.ofInt 64 31).toNat ≤ 31 := by
    rw [BitVec.toNat_and]
    exact Nat.le_trans Nat.and_le_right (by decide)
  refine ⟨(BitVec.ofInt 64 x &&& BitVec.ofInt 64 31).toNat, ?_, by omega, by omega⟩
  show IntKind.i64.wrap ((BitVec.ofInt 64 x &&& BitVec.ofInt 64 31).toNat : Int) = _
  exact IntWalk.i64_in _ (by omega)
theorem and3 (x : Int) : ∃ z : Int, bits .and .i64 x 3 = z ∧ 0 ≤ z ∧ z ≤ 3 := by
  have h7 : (BitVec.ofInt 64 x &&& BitVec.ofInt 64 3).toNat ≤ 3 := by
    rw [BitVec.toNat_and]
    exact Nat.le_trans Nat.and_le_right (by decide)
  refine ⟨(BitVec.ofInt 64 x &&& BitVec.ofInt 64 3).toNat, ?_, by omega, by omega⟩
  show IntKind.i64.wrap ((BitVec.ofInt 64 x &&& BitVec.ofInt 64 3).toNat : Int) = _
  exact IntWalk.i64_in _ (by omega)
def cntQ (R : List Rfm) (k : Nat) : Nat := ((List.range k).filter fun i : Nat => decide (0 ≤ (refAt R i).si)).length
theorem cntQ_snoc (R : List Rfm) (k : Nat) : cntQ R (k + 1) = cntQ R k + if 0 ≤ (refAt R k).si then 1 else 0 := by
  unfold cntQ
  rw [List.range_succ, List.filter_append, List.length_append]
  congr 1
  by_cases h2 : 0 ≤ (refAt R k).si <;> simp [h2]
theorem cntQ_le (R : List Rfm) (k : Nat) : cntQ R k ≤ k := by
  unfold cntQ
  exact Nat.le_trans (List.length_filter_le _ _) (by simp)
theorem cntQ_all {R : List Rfm} {k : Nat} {C : List Int} (h : ∀ i : Nat, i < k → (refAt R i).si = if (i : Int) ∈ C then 2 else -1) : cntQ R k = ((List.range k).filter fun i : Nat => decide ((i : Int) ∈ C)).length := by
  unfold cntQ
  congr 1
  refine List.filter_congr (fun i hi => ?_)
  rw [h i (List.mem_range.1 hi)]
  by_cases q : (i : Int) ∈ C <;> simp [q]
set_option maxRecDepth 100000 in
set_option maxHeartbeats 8000000 in
attribute [local go_sem ↓] fieldTl_hide in
theorem queue_walk (v : Value) (l : List Int) (m : Int) (w : World) (hr : RdI w v l) (hl : l.length ≤ 8) (m1 : 1 ≤ m) (m4 : m ≤ 4) : Calls Tryz.prog 3 #[v, .int .i64 m] w fun e w' => e = .returned (.bool true) ∧ Below w.heap.size w w' := by
  obtain ⟨ao, cap, rfl⟩ := hr.lenOf
  obtain ⟨n, hn⟩ : ∃ n, n = l.length := ⟨_, rfl⟩
  rw [← hn] at hr hl ⊢
  have HPL := Lib.hid (law12_plain w)
  have HNB := Lib.hid (newB_m m1 m4)
  have HMM := Lib.hid (And.intro m1 m4)
  have HRD := Lib.hid (And.intro hr hn)
  have HLL := Lib.hid hl
  have g1 : ¬ (n : Int) > 8 := by omega
  have g2 : ¬ m < 1 := by omega
  have g3 : ¬ m > 4 := by omega
  clear hr hl m1 m4 hn
  go_enter Tryz.func3, Tryz.ntmps3
  have mixed : Tryz.prog.follows .mixedOrders = true := by kernel_rfl
  go_upto_region 4 with (first
    | (go_at_call 12; refine HPL.out.mono ?_; rintro e w1 ⟨rfl, hb⟩; have H1 := Lib.hid hb; clear hb)
    | (refine wpl_allocR (r := trkR) (ty := 26) rfl rfl rfl ?_; intro C hC)
    | (refine wpl_storeR (r := trkR) (ty := 26) (t := trkP) (C := C) _ _ rfl rfl rfl rfl rfl (World.alloc_heap_new w1 _) hC ?_; rw [World.setRow_alloc_new])
    | fail)
  clear hC C
  obtain ⟨tb, htb⟩ : ∃ tb, tb = w1.heap.size := ⟨_, rfl⟩
  obtain ⟨W3, hW3⟩ : ∃ W3, W3 = w1.alloc (.cells (trkR.f trkP).toArray 26) := ⟨_, rfl⟩
  have x3 : W3.heap[tb]? = some (.cells (trkR.f trkP).toArray 26 (0, 0)) := by rw [hW3, htb]; exact World.alloc_heap_new _ _
  have b3 : Below w.heap.size w W3 := by rw [hW3]; exact H1.out.alloc H1.out.size _
  have htw : w.heap.size ≤ tb := by rw [htb]; exact H1.out.size
  rw [← hW3, ← htb]
  clear hW3 htb
  have ct : ∀ i v, (trkR.f trkP)[i]? = some v → W3.cell? ⟨tb, i, none⟩ = some v ∧ W3.frozen? ⟨tb, i, none⟩ = false := fun i v hi => by
    refine ⟨?_, by rw [World.frozen?, x3]; rfl⟩
    have := (rangeAt_whole (T := 26) x3) i v hi
    rwa [Nat.zero_add] at this
  obtain ⟨t0, f0⟩ := ct 0 _ rfl
  have HX := Lib.hid (And.intro x3 (And.intro b3 htw))
  clear x3 b3 htw ct
  go_upto_region 5 with fail
  clear t0 f0
  obtain ⟨W4, hW4⟩ : ∃ W4, W4 = (W3.setCell ⟨tb, 0, none⟩ (.int .i64 m)) := ⟨_, rfl⟩
  have x4 : W4.heap[tb]? = some (.cells (trkR.f (trkM m)).toArray 26 (0, 0)) := by rw [hW4]; exact rowL_set (HX.out.1)
  have b4 : Below w.heap.size w W4 := by rw [hW4]; exact bl_set (HX.out.2.1) HX.out.2.2
  rw [← hW4]
  clear hW4
  obtain ⟨tt, htt⟩ : ∃ tt, tt = (trkM m) := ⟨_, rfl⟩
  have hbg : Calls Tryz.prog 13 #[.slice (some ⟨W4.heap.size, 0, none⟩) 1 1] (W4.alloc (.cells (trkR.f tt).toArray 26)) fun e w' => ∃ p g vb r, e = .returned (.pointer (some ⟨p, 0, none⟩)) ∧ Pq p r g vb (qT m) St12.zero (W4.alloc (.cells (trkR.f tt).toArray 26)) w' := by rw [htt]; exact begin12 HNB.out W4
  have HX4 := Lib.hid x4
  rw [← htt] at x4
  have hr4 := rangeAt_whole (T := 26) x4
  have HR4 := Lib.hid hr4
  have HB := Lib.hid hbg
  have B4 := Lib.hid b4
  clear hr4 hbg htt x4 b4
  have hsz : (trkR.f tt).length = 18 := trkR.len tt
  go_upto_region 8 with (first
    | (refine wpl_loadR (r := trkR) (t := tt) (b := tb) (k := 0) _ rfl rfl rfl HR4.out ?_)
    | (go_at_call 13; rw [fold_trkT]; refine HB.out.mono ?_; rintro e w2 ⟨p, g, vb, r, rfl, hp⟩; have Q2 := Lib.hid hp; clear hp)
    | fail)
  clear hsz
  obtain ⟨WB, hWB⟩ : ∃ WB, WB = W4.alloc (.cells (trkR.f tt).toArray 26) := ⟨_, rfl⟩
  have H4 := Lib.hid (show Below w.heap.size w WB by rw [hWB]; exact B4.out.alloc B4.out.size _)
  have HTB := Lib.hid (show tb < WB.heap.size ∧ WB.heap[tb]? = some (.cells (trkR.f (trkM m)).toArray 26 (0, 0)) by
    have hl := (Array.getElem?_eq_some_iff.1 HX4.out).1
    exact ⟨by rw [hWB, World.size_alloc]; omega, by rw [hWB]; exact (Below.heap_alloc _ _ _ hl).trans HX4.out⟩)
  rw [← hWB] at Q2
  clear hWB
  clear g1 g2 g3
  have HTP := Lib.hid (fun (W : World) (hb : Below WB.heap.size WB W) => show W.cell? ⟨tb, 2, none⟩ = some (.int .i64 2) from by
    have h1 := hb.block tb HTB.out.1
    rw [HTB.out.2] at h1
    have := (rangeAt_whole (T := 26) h1) 2 _ rfl
    rwa [Nat.zero_add] at this)
  go_wp2_with fail
  go_loopw [7] (fun i wr => ∃ (k : Nat) (s : St12), k ≤ n ∧ i = .int .i64 k ∧ QInv k s ∧ Pq p r g vb (qT m) s WB wr) (fun i _ => n - (intOf i).toNat)
  case atStart => exact ⟨0, St12.zero, by omega, rfl, QInv.zero, Q2.out⟩
  case round =>
    obtain ⟨k, s, hk, rfl, hqi, hp⟩ := hrel
    have Q5 := Lib.hid hp
    have HQI := Lib.hid hqi
    have hk8 : k ≤ 8 := by have := HLL.out; omega
    have hn8 : n ≤ 8 := HLL.out
    clear hp hqi
    by_cases hlt : k < n
    · have c1 : (k : Int) < n := by omega
      have WK : IntKind.i64.wrap ((k : Int) + 1) = ((k + 1 : Nat) : Int) := by rw [IntWalk.i64_in _ (by omega)]; omega
      obtain ⟨aa, rfl, hcell⟩ := HRD.out.1.at (i := k) (by rw [← HRD.out.2]; exact hlt)
      obtain ⟨xv, hxv⟩ : ∃ xv, xv = l.getD k 0 := ⟨_, rfl⟩
      rw [← hxv] at hcell
      have HARG := Lib.hid (fun (W : World) (hb : Below WB.heap.size WB W) => show W.cell? (aa.add k) = some (.int .i64 xv) from by
        have hb' : Below w.heap.size w W := H4.out.trans (hb.mono H4.out.size)
        rw [hb'.cell (cell_blockI hcell)]; exact hcell)
      obtain ⟨ma, hma, ma0, ma1⟩ := and31 xv
      obtain ⟨mk, hmk, mk0, mk1⟩ := and3 (k : Int)
      have W3 : IntKind.i64.wrap (3 + mk) = 3 + mk := IntWalk.i64_in _ (by omega)
      have hwk : (Lit.int .i64 (k : Int)).wf = true := wfS (by omega) (by omega)
      have hw3 : (Lit.int .i64 (3 + mk)).wf = true := wfS (by omega) (by omega)
      have hsub := HQI.out.sub (m := m) (by omega) HNB.out
      have hdep := HQI.out.dep (m := m) (by omega)
      have hvot := HQI.out.vote (by omega) ma0 ma1 (c := 3 + mk) (by omega) (by omega)
      have HK5 := Lib.hid (fun (W : World) (hp : Pq p r g vb (qT m) s WB W) => show Calls Tryz.prog 14 #[.pointer (some ⟨r, 0, none⟩), .pointer (some ⟨g, 0, none⟩), .pointer (some ⟨vb, 0, none⟩), .int .i64 1, .int .i64 0, .agg (hsB hsh0.l).toArray, .int .i64 0, .int .i64 0] W fun e w' => e = .returned (.tuple #[.int .i64 (k : Int), .int .i64 0]) ∧ Pq p r g vb (qT m) (qS1 k s) WB w' from by
        have := hp.Submit (HQI.out.rin (by omega) HNB.out) (a := 1) (by decide) 0 hsh0 0 0
        rw [hsub.2.1, hsub.1, hsub.2.2.2] at this
        exact this)
      have HK6 := Lib.hid (fun (W : World) (hp : Pq p r g vb (qT m) (qS1 k s) WB W) => show Calls Tryz.prog 15 #[.pointer (some ⟨r, 0, none⟩), .pointer (some ⟨g, 0, none⟩), .int .i64 2, .int .i64 (k : Int)] W fun e w' => e = .returned (.int .i64 0) ∧ Pq p r g vb (qT m) (qS2 k s) WB w' from by
        have hri := hsub.2.2.1
        rw [hsub.2.2.2] at hri
        have := hp.Deposit hri (a := 2) (ref := (k : Int)) (by decide) hwk
        rw [hdep.1, hdep.2] at this
        exact this)
      have HK7 := Lib.hid (fun (W : World) (hp : Pq p r g vb (qT m) (qS2 k s) WB W) => show Calls Tryz.prog 16 #[.pointer (some ⟨vb, 0, none⟩), .pointer (some ⟨g, 0, none⟩), .int .i64 (3 + mk), .int .i64 (k : Int), .agg #[.int .i64 1, .bool true, .int .i64 1, .int .i64 ma, .int .i64 0, .int .i64 0]] W fun e w' => ∃ ge s', (ge = (0 : Int) ∨ ge = 3) ∧ QInv (k + 1) s' ∧ e = .returned (.int .i64 ge) ∧ Pq p r g vb (qT m) s' WB w' from by
        have := hp.z.Vote ⟨hvot.1, hvot.2.1⟩ (a := 3 + mk) (ref := (k : Int)) hw3 hwk (qBal ma)
        exact this.mono fun e w' ⟨he, hq⟩ => ⟨_, _, hvot.2.2.1, hvot.2.2.2, he, hq.q⟩)
      clear hcell hxv ma0 ma1 mk0 mk1 hwk hw3 hsub hdep hvot hlt hn8 hk8
      go_upto_region 11 with fail
      have D5 := Lib.hid (show (fun (W : World) => W.cell? ⟨p, 0, none⟩ = some (.pointer (some ⟨g, 0, none⟩)) ∧ W.cell? ⟨p, 1, none⟩ = some (.pointer (some ⟨vb, 0, none⟩)) ∧ W.cell? ⟨p, 2, none⟩ = some (.pointer (some ⟨r, 0, none⟩))) _ from ⟨Q5.out.dcells.1, Q5.out.dcells.2.1, Q5.out.dcells.2.2⟩)
      go_region_held3 (fun (W : World) => W.cell? ⟨p, 0, none⟩ = some (.pointer (some ⟨g, 0, none⟩)) ∧ W.cell? ⟨p, 1, none⟩ = some (.pointer (some ⟨vb, 0, none⟩)) ∧ W.cell? ⟨p, 2, none⟩ = some (.pointer (some ⟨r, 0, none⟩))) (first | exact D5.out | exact C6.out) (first
        | (go_at_call 14; refine (HK5.out _ Q5.out.drew).mono ?_; rintro e w6 ⟨rfl, hp⟩; have Q6 := Lib.hid hp; have C6 := Lib.hid (show (fun (W : World) => W.cell? ⟨p, 0, none⟩ = some (.pointer (some ⟨g, 0, none⟩)) ∧ W.cell? ⟨p, 1, none⟩ = some (.pointer (some ⟨vb, 0, none⟩)) ∧ W.cell? ⟨p, 2, none⟩ = some (.pointer (some ⟨r, 0, none⟩))) _ from ⟨hp.cells.1, hp.cells.2.1, hp.cells.2.2⟩); clear hp)
        | fail)
      go_upto_region 12 with fail
      have D6 := Lib.hid (show (fun (W : World) => W.cell? ⟨p, 0, none⟩ = some (.pointer (some ⟨g, 0, none⟩)) ∧ W.cell? ⟨p, 1, none⟩ = some (.pointer (some ⟨vb, 0, none⟩)) ∧ W.cell? ⟨p, 2, none⟩ = some (.pointer (some ⟨r, 0, none⟩))) _ from ⟨Q6.out.dcells.1, Q6.out.dcells.2.1, Q6.out.dcells.2.2⟩)
      go_region_held3 (fun (W : World) => W.cell? ⟨p, 0, none⟩ = some (.pointer (some ⟨g, 0, none⟩)) ∧ W.cell? ⟨p, 1, none⟩ = some (.pointer (some ⟨vb, 0, none⟩)) ∧ W.cell? ⟨p, 2, none⟩ = some (.pointer (some ⟨r, 0, none⟩))) (first | exact D6.out | exact C7.out) (first
        | (go_at_call 15; (with_reducible refine (HK6.out _ Q6.out.drew).mono ?_); rintro e w7 ⟨rfl, hp⟩; have Q7 := Lib.hid hp; have C7 := Lib.hid (show (fun (W : World) => W.cell? ⟨p, 0, none⟩ = some (.pointer (some ⟨g, 0, none⟩)) ∧ W.cell? ⟨p, 1, none⟩ = some (.pointer (some ⟨vb, 0, none⟩)) ∧ W.cell? ⟨p, 2, none⟩ = some (.pointer (some ⟨r, 0, none⟩))) _ from ⟨hp.cells.1, hp.cells.2.1, hp.cells.2.2⟩); clear hp)
        | fail)
      go_upto_region 13 with fail
      have D7 := Lib.hid (show (fun (W : World) => W.cell? ⟨p, 0, none⟩ = some (.pointer (some ⟨g, 0, none⟩)) ∧ W.cell? ⟨p, 1, none⟩ = some (.pointer (some ⟨vb, 0, none⟩)) ∧ W.cell? ⟨p, 2, none⟩ = some (.pointer (some ⟨r, 0, none⟩)) ∧ W.cell? (aa.add k) = some (.int .i64 xv)) _ from ⟨Q7.out.dcells.1, Q7.out.dcells.2.1, Q7.out.dcells.2.2, HARG.out _ Q7.out.drew.old⟩)
      go_region_held3 (fun (W : World) => W.cell? ⟨p, 0, none⟩ = some (.pointer (some ⟨g, 0, none⟩)) ∧ W.cell? ⟨p, 1, none⟩ = some (.pointer (some ⟨vb, 0, none⟩)) ∧ W.cell? ⟨p, 2, none⟩ = some (.pointer (some ⟨r, 0, none⟩)) ∧ W.cell? (aa.add k) = some (.int .i64 xv)) (first | exact D7.out | exact C8.out) (first
        | (go_at_call 16; (with_reducible refine (HK7.out _ Q7.out.drew).mono ?_); rintro e w8 ⟨ge, s2, hge, hqi2, rfl, hp⟩; have HQ2 := Lib.hid hqi2; have HGE := Lib.hid hge; clear hqi2 hge; have Q8 := Lib.hid hp; have C8 := Lib.hid (show (fun (W : World) => W.cell? ⟨p, 0, none⟩ = some (.pointer (some ⟨g, 0, none⟩)) ∧ W.cell? ⟨p, 1, none⟩ = some (.pointer (some ⟨vb, 0, none⟩)) ∧ W.cell? ⟨p, 2, none⟩ = some (.pointer (some ⟨r, 0, none⟩)) ∧ W.cell? (aa.add k) = some (.int .i64 xv)) _ from ⟨hp.cells.1, hp.cells.2.1, hp.cells.2.2, HARG.out _ hp.old⟩); clear hp)
        | fail)
      rcases HGE.out with rfl | rfl
      all_goals
        clear HGE
        go_wp2_with fail
        go_roundw
        case rel => exact ⟨k + 1, s2, by have := HLL.out; omega, by first | rfl | exact congrArg _ WK | go_num, HQ2.out, Q8.out⟩
        case measure => simp [intOf]; omega
    · obtain rfl : k = n := by omega
      have c1 : ¬ (k : Int) < k := by omega
      have hs1 := HQI.out.srv1 (m := m) hk8
      have HS2 := Lib.hid (HQI.out.srv2 hk8 HMM.out.1)
      have HK5 := Lib.hid (fun (W : World) (hp : Pq p r g vb (qT m) s WB W) => show Calls Tryz.prog 17 #[.pointer (some ⟨r, 0, none⟩), .pointer (some ⟨g, 0, none⟩), .pointer (some ⟨vb, 0, none⟩), .int .i64 1] W fun e w' => ∃ v, e = .returned v ∧ Pq p r g vb (qT m) s WB w' ∧ OwnR evR W.heap.size v [] w' from by
        have := hp.Service (now := 1) (HQI.out.srv hk8 HNB.out (by omega) (by omega))
        rw [hs1.1, hs1.2] at this
        exact this)
      have HK6 := Lib.hid (fun (W : World) (hp : Pq p r g vb (qT m) s WB W) => show Calls Tryz.prog 17 #[.pointer (some ⟨r, 0, none⟩), .pointer (some ⟨g, 0, none⟩), .pointer (some ⟨vb, 0, none⟩), .int .i64 2] W fun e w' => ∃ v, e = .returned v ∧ Pq p r g vb (qT m) (s.srv (qT m) 2) WB w' ∧ OwnR evR W.heap.size v (s.evs (qT m) 2) w' from hp.Service (now := 2) (HQI.out.srv hk8 HNB.out (by omega) (by omega)))
      have W11 : IntKind.i64.wrap 1 = 1 := IntWalk.i64_in 1 (by omega)
      clear hs1 hn8
      go_upto_region 16 with fail
      have D5 := Lib.hid (show (fun (W : World) => W.cell? ⟨p, 0, none⟩ = some (.pointer (some ⟨g, 0, none⟩)) ∧ W.cell? ⟨p, 1, none⟩ = some (.pointer (some ⟨vb, 0, none⟩)) ∧ W.cell? ⟨p, 2, none⟩ = some (.pointer (some ⟨r, 0, none⟩)) ∧ W.cell? ⟨tb, 2, none⟩ = some (.int .i64 2)) _ from ⟨Q5.out.dcells.1, Q5.out.dcells.2.1, Q5.out.dcells.2.2, HTP.out _ Q5.out.drew.old⟩)
      go_region_held3 (fun (W : World) => W.cell? ⟨p, 0, none⟩ = some (.pointer (some ⟨g, 0, none⟩)) ∧ W.cell? ⟨p, 1, none⟩ = some (.pointer (some ⟨vb, 0, none⟩)) ∧ W.cell? ⟨p, 2, none⟩ = some (.pointer (some ⟨r, 0, none⟩)) ∧ W.cell? ⟨tb, 2, none⟩ = some (.int .i64 2)) (first | exact D5.out | exact C6.out) (first
        | (go_at_call 17; (with_reducible refine (HK5.out _ Q5.out.drew).mono ?_); rintro e w6 ⟨v6, rfl, hp, ho⟩; obtain ⟨ao6, cp6, hv6⟩ := ho.lenOf; replace hv6 : v6 = .slice ao6 0 cp6 := hv6; subst hv6; clear ho; have Q6 := Lib.hid hp; have C6 := Lib.hid (show (fun (W : World) => W.cell? ⟨p, 0, none⟩ = some (.pointer (some ⟨g, 0, none⟩)) ∧ W.cell? ⟨p, 1, none⟩ = some (.pointer (some ⟨vb, 0, none⟩)) ∧ W.cell? ⟨p, 2, none⟩ = some (.pointer (some ⟨r, 0, none⟩)) ∧ W.cell? ⟨tb, 2, none⟩ = some (.int .i64 2)) _ from ⟨hp.cells.1, hp.cells.2.1, hp.cells.2.2, HTP.out _ hp.old⟩); clear hp)
        | fail)
      go_upto_region 18 with fail
      go_upto_region 18 with fail
      have D6 := Lib.hid (show (fun (W : World) => W.cell? ⟨p, 0, none⟩ = some (.pointer (some ⟨g, 0, none⟩)) ∧ W.cell? ⟨p, 1, none⟩ = some (.pointer (some ⟨vb, 0, none⟩)) ∧ W.cell? ⟨p, 2, none⟩ = some (.pointer (some ⟨r, 0, none⟩)) ∧ W.cell? ⟨tb, 2, none⟩ = some (.int .i64 2)) _ from ⟨Q6.out.dcells.1, Q6.out.dcells.2.1, Q6.out.dcells.2.2, HTP.out _ Q6.out.drew.old⟩)
      go_region_held3 (fun (W : World) => W.cell? ⟨p, 0, none⟩ = some (.pointer (some ⟨g, 0, none⟩)) ∧ W.cell? ⟨p, 1, none⟩ = some (.pointer (some ⟨vb, 0, none⟩)) ∧ W.cell? ⟨p, 2, none⟩ = some (.pointer (some ⟨r, 0, none⟩)) ∧ W.cell? ⟨tb, 2, none⟩ = some (.int .i64 2)) (first | exact D6.out | exact C7.out) (first
        | (go_at_call 17; (with_reducible refine (HK6.out _ Q6.out.drew).mono ?_); rintro e w7 ⟨v7, rfl, hp, ho⟩; clear ho; have Q7 := Lib.hid hp; have C7 := Lib.hid (show (fun (W : World) => W.cell? ⟨p, 0, none⟩ = some (.pointer (some ⟨g, 0, none⟩)) ∧ W.cell? ⟨p, 1, none⟩ = some (.pointer (some ⟨vb, 0, none⟩)) ∧ W.cell? ⟨p, 2, none⟩ = some (.pointer (some ⟨r, 0, none⟩)) ∧ W.cell? ⟨tb, 2, none⟩ = some (.int .i64 2)) _ from ⟨hp.cells.1, hp.cells.2.1, hp.cells.2.2, HTP.out _ hp.old⟩); clear hp)
        | fail)
      go_upto_region 19 with fail
      obtain ⟨s2, hs2⟩ : ∃ s2, s2 = s.srv (qT m) 2 := ⟨_, rfl⟩
      have hq7 := Q7.out
      have hk2 := HS2.out
      rw [← hs2] at hq7 hk2
      have Q8 := Lib.hid hq7
      have HK2 := Lib.hid hk2
      clear hq7 hk2 hs2 HK5 HK6
      obtain ⟨f0, f1, f2⟩ := Q8.out.cells
      go_upto_region 20 with (first
        | (go_at_call 18; refine (Q8.out.All HK2.out.1 (by omega)).mono ?_; rintro e w8 ⟨xo, cp, rfl, ho, hb⟩; have Q9 := Lib.hid (Q8.out.below hb); have HO := Lib.hid ho; clear ho hb)
        | fail)
      clear f0 f1 f2
      go_upto_region 22 with fail
      obtain ⟨R, hR⟩ : ∃ R, R = s2.R := ⟨_, rfl⟩
      obtain ⟨C, hC⟩ : ∃ C, C = qC k m s.S := ⟨_, rfl⟩
      have ho8 := HO.out
      have hk2 := HK2.out
      rw [← hR] at ho8 hk2
      rw [← hC] at hk2
      have HOR := Lib.hid ho8
      have HSI := Lib.hid hk2.2.2
      have HRL := Lib.hid hk2.1
      have HCN := Lib.hid (show cntQ R k = min k m.toNat by rw [cntQ_all hk2.2.2, hC]; exact qC_count)
      have HORD := Lib.hid (fun (i j : Nat) (h1 : (i : Int) ∈ C) (h2 : j < k) (h3 : (j : Int) ∉ C) => show ltA (fun i => (tallyOf s.S i).a) i j by rw [hC] at h1 h3; exact qC_order h1 h2 h3)
      have HTL := Lib.hid (fun (W : World) (hp : Pq p r g vb (qT m) s2 WB W) (i : Int) => show Calls Tryz.prog 19 #[.pointer (some ⟨vb, 0, none⟩), .int .i64 i] W fun e w' => e = .returned (.agg #[.int .i64 (tallyOf s.S i).a, .int .i64 (tallyOf s.S i).n, .int .i64 (tallyOf s.S i).s]) ∧ Below W.heap.size W w' from by
        have := hp.z.Tally i
        rw [hk2.2.1] at this
        exact this)
      clear hR hC ho8 hk2 HO c1
      go_wp2_with fail
      go_loopw [14, 15] (fun nn i wr => ∃ j : Nat, j ≤ k ∧ nn = .int .i64 (cntQ R j : Int) ∧ i = .int .i64 j ∧ Below w8.heap.size w8 wr) (fun _ i _ => k - (intOf i).toNat)
      case atStart => exact ⟨0, by omega, rfl, rfl, Below.refl _ _⟩
      case round =>
        obtain ⟨j, hj, rfl, rfl, hbw⟩ := hrel
        have HBW := Lib.hid hbw
        by_cases hlt2 : j < k
        · have c2 : (j : Int) < k := by omega
          obtain ⟨bb, rfl, hB, hbl, hr0⟩ := all_row HOR.out (i := j) (by rw [HRL.out]; exact hlt2)
          have r39 := (rowf_at (rangeAt_block hr0 (hbw.block bb hbl))).2
          have hsi := HSI.out j hlt2
          have hsn := cntQ_snoc R j
          obtain ⟨si, hsi0⟩ : ∃ si, si = (refAt R j).si := ⟨_, rfl⟩
          rw [← hsi0] at r39 hsi hsn
          have WK : IntKind.i64.wrap ((j : Int) + 1) = ((j + 1 : Nat) : Int) := by rw [IntWalk.i64_in _ (by omega)]; omega
          have cle := cntQ_le R j
          obtain ⟨cn, hcn⟩ : ∃ cn, cn = cntQ R j := ⟨_, rfl⟩
          rw [← hcn] at hsn cle ⊢
          by_cases hmem : (j : Int) ∈ C
          · rw [if_pos hmem] at hsi
            rw [hsi] at r39 hsn
            rw [if_pos (by decide)] at hsn
            have WC : IntKind.i64.wrap ((cn : Int) + 1) = ((cn + 1 : Nat) : Int) := by rw [IntWalk.i64_in _ (by omega)]; omega
            have HS := Lib.hid (And.intro hsn (And.intro hlt2 hmem))
            clear hsn hsi hsi0 hcn cle hB hr0 hbw hmem hlt2
            go_wp2_with fail
            go_loopw [16] (fun q wq => ∃ e : Nat, e ≤ k ∧ q = .int .i64 e ∧ Below w8.heap.size w8 wq) (fun q _ => k - (intOf q).toNat)
            case atStart => exact ⟨0, by omega, rfl, HBW.out⟩
            case round =>
              obtain ⟨e, he, rfl, hbq⟩ := hrel
              have HBQ := Lib.hid hbq
              by_cases hlt3 : e < k
              · have c3 : (e : Int) < k := by omega
                obtain ⟨bb2, hbb2, hB2, hbl2, hr2⟩ := all_row HOR.out (i := e) (by rw [HRL.out]; exact hlt3)
                have s39 := (rowf_at (rangeAt_block hr2 (hbq.block bb2 hbl2))).2
                have hbe : bb2 = bb := by injection hbb2 with h1; injection h1 with h1; exact h1.symm
                rw [hbe] at s39
                have hse := HSI.out e hlt3
                rw [hse] at s39
                have WE : IntKind.i64.wrap ((e : Int) + 1) = ((e + 1 : Nat) : Int) := by rw [IntWalk.i64_in _ (by omega)]; omega
                obtain ⟨ti, hti⟩ : ∃ ti, ti = tallyOf s.S (j : Int) := ⟨_, rfl⟩
                obtain ⟨te, hte⟩ : ∃ te, te = tallyOf s.S (e : Int) := ⟨_, rfl⟩
                have hord : (e : Int) ∉ C → te.a < ti.a ∨ (ti.a = te.a ∧ j < e) := fun h => by
                  have := HORD.out j e HS.out.2.2 hlt3 h
                  unfold ltA at this
                  simp only [← hti, ← hte] at this
                  omega
                have HQW := Lib.hid (fun (W : World) (hb : Below w8.heap.size w8 W) => Q9.out.below hb)
                have hcell : ∀ W, Below w8.heap.size w8 W → W.cell? ⟨p, 1, none⟩ = some (.pointer (some ⟨vb, 0, none⟩)) ∧ W.cell? ⟨bb, e * 45 + 39, none⟩ = some (.int .i64 (if (e : Int) ∈ C then 2 else -1)) := fun W hb => ⟨(Q9.out.below hb).cells.2.1, by
                  have := (rowf_at (rangeAt_block hr2 (hb.block bb2 hbl2))).2
                  rw [hbe, hse] at this
                  exact this⟩
                have HCE := Lib.hid hcell
                have ki := HTL.out
                have HTI := Lib.hid (fun (W : World) (hb : Below w8.heap.size w8 W) => show Calls Tryz.prog 19 #[.pointer (some ⟨vb, 0, none⟩), .int .i64 (j : Int)] W fun e w' => e = .returned (.agg #[.int .i64 ti.a, .int .i64 ti.n, .int .i64 ti.s]) ∧ Below W.heap.size W w' from by rw [hti]; exact HTL.out W (Q9.out.below hb) j)
                have HTE := Lib.hid (fun (W : World) (hb : Below w8.heap.size w8 W) => show Calls Tryz.prog 19 #[.pointer (some ⟨vb, 0, none⟩), .int .i64 (e : Int)] W fun e w' => e = .returned (.agg #[.int .i64 te.a, .int .i64 te.n, .int .i64 te.s]) ∧ Below W.heap.size W w' from by rw [hte]; exact HTL.out W (Q9.out.below hb) e)
                have rfi := run_fieldTl ti.a ti.n ti.s
                have rfe := run_fieldTl te.a te.n te.s
                have HOE := Lib.hid hord
                clear hord hte hti hse s39 hbe hbb2 hB2 hr2 hbl2 hcell ki hlt3 r39
                go_upto_region 31 with fail
                have D1 := Lib.hid (HCE.out _ (hbq.drew)).1
                have DB := Lib.hid hbq.drew
                clear hbq
                go_region_held3 (fun (W : World) => W.cell? ⟨p, 1, none⟩ = some (.pointer (some ⟨vb, 0, none⟩))) (first | exact D1.out | exact D2.out | exact D3.out) (first
                  | (go_at_call 19; (with_reducible refine (HTI.out _ DB.out).mono ?_); rintro e1 u1 ⟨rfl, hb⟩; have U1 := Lib.hid (DB.out.trans (hb.mono DB.out.size)); have D2 := Lib.hid (HCE.out _ U1.out).1; clear hb)
                  | (go_at_call 19; (with_reducible refine (HTE.out _ U1.out).mono ?_); rintro e2 u2 ⟨rfl, hb⟩; have U2 := Lib.hid (U1.out.trans (hb.mono U1.out.size)); have D3 := Lib.hid (HCE.out _ U2.out).1; clear hb)
                  | fail)
                have s39 := (HCE.out _ U2.out).2
                obtain ⟨va, hva⟩ : ∃ va, va = ti.a := ⟨_, rfl⟩
                obtain ⟨ve, hve⟩ : ∃ ve, ve = te.a := ⟨_, rfl⟩
                rw [← hva, ← hve]
                have hoe := HOE.out
                rw [← hva, ← hve] at hoe
                clear hva hve rfi rfe
                by_cases hme : (e : Int) ∈ C
                · rw [if_pos hme] at s39
                  clear hoe hme
                  go_wp2_with fail
                  go_roundw
                  case rel => exact ⟨e + 1, by omega, by first | rfl | exact congrArg _ WE | go_num, U2.out⟩
                  case measure => simp [intOf]; omega
                · rw [if_neg hme] at s39
                  have d1 : ¬ ve > va := by have := hoe hme; omega
                  by_cases hq : va = ve
                  · have d2 : (ve == va) = true := by simp [hq]
                    have d3 : ¬ (e : Int) < j := by have := hoe hme; omega
                    clear hoe hme hq
                    go_wp2_with fail
                    go_roundw
                    case rel => exact ⟨e + 1, by omega, by first | rfl | exact congrArg _ WE | go_num, U2.out⟩
                    case measure => simp [intOf]; omega
                  · have d2 : (ve == va) = false := by simp; omega
                    clear hoe hme hq
                    go_wp2_with fail
                    go_roundw
                    case rel => exact ⟨e + 1, by omega, by first | rfl | exact congrArg _ WE | go_num, U2.out⟩
                    case measure => simp [intOf]; omega
              · obtain rfl : e = k := by omega
                have c3 : ¬ (e : Int) < e := by omega
                clear hbq
                go_wp2_with fail
                go_roundw
                case rel => exact ⟨j + 1, by have := HS.out.2.1; omega, by rw [HS.out.1]; first | rfl | exact congrArg _ WC.symm | go_num, by first | rfl | exact congrArg _ WK | go_num, HBQ.out⟩
                case measure => have := HS.out.2.1; simp [intOf]; omega
          · rw [if_neg hmem] at hsi
            rw [hsi] at r39 hsn
            rw [if_neg (by decide)] at hsn
            have HS := Lib.hid hsn
            clear hsn hsi hsi0 hcn cle hB hr0 hbw hmem
            go_wp2_with fail
            go_roundw
            case rel => exact ⟨j + 1, by omega, by rw [HS.out]; rfl, by first | rfl | exact congrArg _ WK | go_num, HBW.out⟩
            case measure => simp [intOf]; omega
        · obtain rfl : j = k := by omega
          have c2 : ¬ (j : Int) < j := by omega
          obtain ⟨cn, hcn⟩ : ∃ cn, cn = cntQ R j := ⟨_, rfl⟩
          have hcm := HCN.out
          rw [← hcn] at hcm ⊢
          have M1 : min m (j : Int) = (cn : Int) := by have := HMM.out; omega
          have M2 : (if (j : Int) < m then (j : Int) else m) = (cn : Int) := by have := HMM.out; split <;> omega
          have Q10 := Lib.hid (Q9.out.below hbw)
          clear hcm hcn hbw
          go_wp2_with (first
            | (go_at_call 20; refine (law12_known _).mono ?_; rintro e wk ⟨rfl, hp⟩; have QK := Lib.hid (Q10.out.below hp); clear hp)
            | fail)
          exact bodyPost_ret (v := .bool true) (by simp [results, Tryz.results3, go_sem]) rfl ⟨rfl, H4.out.trans (QK.out.old.mono H4.out.size)⟩
set_option maxRecDepth 100000 in
set_option maxHeartbeats 8000000 in
theorem referQueue_walk (v : Value) (l : List Int) (m : Int) (w : World) (hr : RdI w v l) (wm : (Lit.int .i64 m).wf = true) : Calls Tryz.prog 3 #[v, .int .i64 m] w fun e w' => e = .returned (.bool true) ∧ Below w.heap.size w w' := by
  by_cases h0 : l.length ≤ 8
  · by_cases h1 : 1 ≤ m
    · by_cases h2 : m ≤ 4
      · exact queue_walk v l m w hr h0 h1 h2
      · obtain ⟨ao, cap, rfl⟩ := hr.lenOf
        obtain ⟨n, hn⟩ : ∃ n, n = l.length := ⟨_, rfl⟩
        rw [← hn] at h0 ⊢
        have g1 : ¬ (n : Int) > 8 := by omega
        have g2 : ¬ m < 1 := by omega
        have g3 : m > 4 := by omega
        clear h0 h1 h2 hr hn
        go_enter Tryz.func3, Tryz.ntmps3
        go_wp2
        exact bodyPost_ret (v := .bool true) (by simp [results, Tryz.results3, go_sem]) rfl ⟨rfl, Below.refl _ w⟩
    · obtain ⟨ao, cap, rfl⟩ := hr.lenOf
      obtain ⟨n, hn⟩ : ∃ n, n = l.length := ⟨_, rfl⟩
      rw [← hn] at h0 ⊢
      have g1 : ¬ (n : Int) > 8 := by omega
      have g2 : m < 1 := by omega
      clear h0 h1 hr hn
      go_enter Tryz.func3, Tryz.ntmps3
      go_wp2
      exact bodyPost_ret (v := .bool true) (by simp [results, Tryz.results3, go_sem]) rfl ⟨rfl, Below.refl _ w⟩
  · obtain ⟨ao, cap, rfl⟩ := hr.lenOf
    obtain ⟨n, hn⟩ : ∃ n, n = l.length := ⟨_, rfl⟩
    rw [← hn] at h0 ⊢
    have g1 : (n : Int) > 8 := by omega
    clear h0 hr hn
    go_enter Tryz.func3, Tryz.ntmps3
    go_wp2
    exact bodyPost_ret (v := .bool true) (by simp [results, Tryz.results3, go_sem]) rfl ⟨rfl, Below.refl _ w⟩
end Go.Proofs.YtpkamfbjgdmmoaaGreat
