/-
  The law ReferTracks, walked. Printed by mk12.py.
-/
import Derived.Test.YtpkamfbjgdmmoaaGreatKq1
import Derived.Test.YtpkamfbjgdmmoaaGreatMsm
import Derived.BigRegion
import Derived.RegionTactic
import Derived.Deep.RegionHeld3
namespace Go.Proofs.YtpkamfbjgdmmoaaGreat
open Go.RowKit Go.Maps Go.Shelf
set_option linter.unusedVariables false
set_option linter.unusedSimpArgs false

theorem fold_trkT (t : Trk) : List.foldl (fun (cs : Array Value) (x : Value × Nat) => cs.setIfInBounds x.2 x.1) #[.int .i64 0, .int .i64 0, .int .i64 0, .int .i64 0, .int .i64 0, .int .i64 0, .int .i64 0, .int .i64 0, .int .i64 0, .int .i64 0, .int .i64 0, .int .i64 0, .int .i64 0, .int .i64 0, .int .i64 0, .int .i64 0, .int .i64 0, .int .i64 0] (trkR.f t).zipIdx = (trkR.f t).toArray := by kernel_rfl
theorem rowL_set {w : World} {b i : Nat} {v : Value} {L : List Value} {T : TypeId} (h : w.heap[b]? = some (.cells L.toArray T (0, 0))) : (w.setCell ⟨b, i, none⟩ v).heap[b]? = some (.cells (L.set i v).toArray T (0, 0)) := by
  simp [World.setCell, Array.getElem?_modify, h]
theorem bl_set {N b i : Nat} {v : Value} {w w' : World} (h : Below N w w') (hb : N ≤ b) : Below N w (w'.setCell ⟨b, i, none⟩ v) := h.trans ⟨rfl, rfl, rfl, by simp [World.setCell], fun k hk => Below.heap_setCell _ _ _ k (by show k ≠ b; omega)⟩
theorem trkInfoP : (Tryz.prog.info? 26).map (fun i => (i.zero, i.size)) = some (some (.agg (trkR.f trk0).toArray), 18) := by kernel_rfl
def bsTk (ps : Array (Nat × Value)) : Sem Value := Instr.buildSlice 30 2 ps
theorem bsTk_hide (ps : Array (Nat × Value)) : Instr.buildSlice 30 2 ps = bsTk ps := rfl
set_option maxRecDepth 100000 in
theorem run_bsTk (t u : Trk) (w : World) : (bsTk #[(0, .agg (trkR.f t).toArray), (1, .agg (trkR.f u).toArray)]).run Tryz.prog w = .ok (.slice (some ⟨w.heap.size, 0, none⟩) 2 2) (w.alloc (.cells (trkR.all [t, u]).toArray 26)) := by
  obtain ⟨a0, a1, a2, a3, a4, a5, a6, a7, a8, a9, b0, b1, b2, b3, b4, b5, b6, b7⟩ := t
  obtain ⟨c0, c1, c2, c3, c4, c5, c6, c7, c8, c9, d0, d1, d2, d3, d4, d5, d6, d7⟩ := u
  obtain ⟨i0, hi, hz⟩ := Option.map_eq_some_iff.1 trkInfoP
  simp only [Prod.mk.injEq] at hz
  obtain ⟨h1, h2⟩ := hz
  exact run_buildSlice w _ _ 2 _ _ i0 _ Tryz.underlying30 hi h1 (by rw [h2]; decide) (by rw [h2]; decide) (by rw [h2]; kernel_rfl)
theorem two_a (w : World) (CA CB : Array Value) {T U : TypeId} : ((w.alloc (.cells CA T)).alloc (.cells CB U)).heap[w.heap.size]? = some (.cells CA T (0, 0)) := (Below.heap_alloc _ _ _ (by simp)).trans (World.alloc_heap_new _ _)
theorem two_b (w : World) (CA CB X : Array Value) {T U : TypeId} : (((w.alloc (.cells CA T)).alloc (.cells CB U)).setRow w.heap.size X).heap[w.heap.size + 1]? = some (.cells CB U (0, 0)) := by
  rw [setRow_other _ _ _ _ (by omega)]
  have := World.alloc_heap_new (w.alloc (.cells CA T)) (.cells CB U)
  rwa [World.size_alloc] at this
theorem two_c (w : World) (CA CB X : Array Value) {T U : TypeId} : ((((w.alloc (.cells CA T)).alloc (.cells CB U)).setRow w.heap.size X).setRow (w.heap.size + 1) X).heap[w.heap.size]? = some (.cells X T (0, 0)) ∧ ((((w.alloc (.cells CA T)).alloc (.cells CB U)).setRow w.heap.size X).setRow (w.heap.size + 1) X).heap[w.heap.size + 1]? = some (.cells X U (0, 0)) ∧ Below w.heap.size w ((((w.alloc (.cells CA T)).alloc (.cells CB U)).setRow w.heap.size X).setRow (w.heap.size + 1) X) := by
  refine ⟨(setRow_other _ _ _ _ (by omega)).trans (setRow_heap _ _ _ _ _ _ (two_a w CA CB)), setRow_heap _ _ _ _ _ _ (two_b w CA CB X), rfl, rfl, rfl, by simp [World.setRow]; omega, fun k hk => ?_⟩
  rw [setRow_other _ _ _ _ (by omega), setRow_other _ _ _ _ (by omega), Below.heap_alloc _ _ _ (by simp; omega), Below.heap_alloc _ _ _ hk]
theorem all_row {B : Nat} {ao : Option Addr} {n cap : Nat} {R : List Rfm} {w : World} (h : OwnR refP B (.slice ao n cap) (rowR 0 R) w) {i : Nat} (hi : i < R.length) : ∃ b, ao = some ⟨b, 0, none⟩ ∧ B ≤ b ∧ b < w.heap.size ∧ w.rangeAt b (i * 45) (rfF (refAt R i)) := by
  have hl : i < (rowR 0 R).length := by rw [rowR_len]; exact hi
  obtain ⟨b, off, rfl, hr, hb⟩ := h.reads.at hl
  have hoff : off = 0 ∧ B ≤ b := by
    obtain ⟨-, h2⟩ := h
    rcases h2 with ⟨h2, -⟩ | ⟨g, c, cur, h2, hg, -⟩
    · cases h2
    · injection h2 with e1 e2 e3
      injection e1 with e1
      injection e1 with e1 e4
      subst e1
      exact ⟨e4, hg⟩
  obtain ⟨rfl, hB⟩ := hoff
  refine ⟨b, rfl, hB, hb, ?_⟩
  have e : refP.f (rowR 0 R)[i] = rfF (refAt R i) := by
    have hg : (rowR 0 R)[i]? = some (rowR 0 R)[i] := List.getElem?_eq_getElem hl
    rw [rowR_get, List.getElem?_eq_getElem hi] at hg
    simp only [Option.map_some, Option.some.injEq] at hg
    show rfF ((rowR 0 R)[i]).2 = _
    rw [← hg]
    unfold refAt
    rw [if_pos (by omega), Int.toNat_natCast, List.getElem?_eq_getElem hi, Option.getD_some]
  rw [e, Nat.zero_add] at hr
  exact hr
theorem rowf_at {w : World} {b o : Nat} {x : Rfm} (h : w.rangeAt b o (rfF x)) : w.cell? ⟨b, o + 1, none⟩ = some (.int .i64 x.tr) ∧ w.cell? ⟨b, o + 39, none⟩ = some (.int .i64 x.si) := by
  obtain ⟨c0, c1, c2, c3, c4, c5, c6, c7, c8, c9, -⟩ := rfF_cells x
  exact ⟨h 1 _ c1, h 39 _ c7⟩
def cntU (R : List Rfm) (m k : Nat) : Nat := ((List.range k).filter fun i => decide (i % 2 = m) && decide (0 ≤ (refAt R i).si)).length
theorem cntU_snoc (R : List Rfm) (m k : Nat) : cntU R m (k + 1) = cntU R m k + if k % 2 = m ∧ 0 ≤ (refAt R k).si then 1 else 0 := by
  unfold cntU
  rw [List.range_succ, List.filter_append, List.length_append]
  congr 1
  by_cases h1 : k % 2 = m <;> by_cases h2 : 0 ≤ (refAt R k).si <;> simp [h1, h2]
theorem cntU_le (R : List Rfm) (m k : Nat) : cntU R m k ≤ k := by
  unfold cntU
  exact Nat.le_trans (List.length_filter_le _ _) (by simp)
set_option maxRecDepth 100000 in
set_option maxHeartbeats 8000000 in
attribute [local go_sem ↓] bsTk_hide in
theorem tracks_walk (a b n : Nat) (w : World) (a1 : 1 ≤ a) (a4 : a ≤ 4) (b1 : 1 ≤ b) (b4 : b ≤ 4) (hn : n ≤ 5) : Calls Tryz.prog 11 #[.int .i64 a, .int .i64 b, .int .i64 n] w fun e w' => e = .returned (.bool true) ∧ Below w.heap.size w w' := by
  have HPL := Lib.hid law12_plain
  have HKQ := Lib.hid (kq_pre a1 a4 b1 b4)
  have g1 : ¬ (a : Int) < 1 := by omega
  have g2 : ¬ (a : Int) > 4 := by omega
  have g3 : ¬ (b : Int) < 1 := by omega
  have g4 : ¬ (b : Int) > 4 := by omega
  have g5 : ¬ (n : Int) < 0 := by omega
  have g6 : ¬ (n : Int) > 5 := by omega
  have T0 : True := trivial
  go_enter Tryz.func11, Tryz.ntmps11
  have mixed : Tryz.prog.follows .mixedOrders = true := by kernel_rfl
  go_upto_region 4 with (first
    | (go_at_call 12; (with_reducible refine (HPL.out w).mono ?_); rintro e w1 ⟨rfl, hb⟩; have H1 := Lib.hid hb; clear hb)
    | (go_at_call 12; (with_reducible refine (HPL.out w1).mono ?_); rintro e w2 ⟨rfl, hb⟩; have H2 := Lib.hid hb; clear hb)
    | (clear T0; refine wpl_allocR (r := trkR) (ty := 26) rfl rfl rfl ?_; intro CA hCA; have HCA := Lib.hid hCA; clear hCA)
    | (refine wpl_allocR (r := trkR) (ty := 26) rfl rfl rfl ?_; intro CB hCB; have HCB := Lib.hid hCB; have HTA := Lib.hid (two_a (T := 26) (U := 26) w2 CA CB); have HTB := Lib.hid (show (((w2.alloc (.cells CA 26)).alloc (.cells CB 26)).setRow w2.heap.size (trkR.f trkP).toArray).heap[(w2.alloc (.cells CA 26)).heap.size]? = some (.cells CB 26 (0, 0)) by rw [World.size_alloc]; exact two_b (T := 26) (U := 26) w2 CA CB (trkR.f trkP).toArray); clear hCB)
    | (refine wpl_storeR (r := trkR) (ty := 26) (t := trkP) (b := w2.heap.size) (C := CA) _ _ rfl rfl rfl rfl rfl HTA.out HCA.out ?_)
    | (refine wpl_storeR (r := trkR) (ty := 26) (t := trkP) (b := (w2.alloc (.cells CA 26)).heap.size) (C := CB) _ _ rfl rfl rfl rfl rfl HTB.out HCB.out ?_)
    | fail)
  have hsa : (w2.alloc (.cells CA 26)).heap.size = w2.heap.size + 1 := World.size_alloc _ _
  rw [hsa]
  clear hsa
  obtain ⟨tb, htb⟩ : ∃ tb, tb = w2.heap.size := ⟨_, rfl⟩
  obtain ⟨ub, hub⟩ : ∃ ub, ub = tb + 1 := ⟨_, rfl⟩
  obtain ⟨W3, hW3⟩ : ∃ W3, W3 = (((w2.alloc (.cells CA 26)).alloc (.cells CB 26)).setRow w2.heap.size (trkR.f trkP).toArray).setRow (w2.heap.size + 1) (trkR.f trkP).toArray := ⟨_, rfl⟩
  have h3 := two_c (T := 26) (U := 26) w2 CA CB (trkR.f trkP).toArray
  rw [← hW3, ← htb, ← hub] at h3
  obtain ⟨x3, y3, s3⟩ := h3
  have b12 : Below w.heap.size w w2 := H1.out.trans (H2.out.mono H1.out.size)
  have b3 : Below w.heap.size w W3 := b12.trans (by rw [htb] at s3; exact s3.mono b12.size)
  have htw : w.heap.size ≤ tb := by rw [htb]; exact b12.size
  rw [← hW3, ← htb, ← hub]
  have HUB := Lib.hid hub
  clear hW3 htb s3 b12
  have ct : ∀ q i v, (q = tb ∨ q = ub) → (trkR.f trkP)[i]? = some v → W3.cell? ⟨q, i, none⟩ = some v ∧ W3.frozen? ⟨q, i, none⟩ = false := fun q i v hq hi => by
    have x : W3.heap[q]? = some (.cells (trkR.f trkP).toArray 26 (0, 0)) := by rcases hq with rfl | rfl; exact x3; exact y3
    refine ⟨?_, by rw [World.frozen?, x]; rfl⟩
    have := (rangeAt_whole (T := 26) x) i v hi
    rwa [Nat.zero_add] at this
  obtain ⟨t0, f0⟩ := ct tb 0 _ (.inl rfl) rfl
  obtain ⟨t1, f1⟩ := ct ub 0 _ (.inr rfl) rfl
  have q0 : (W3.setCell ⟨tb, 0, none⟩ (.int .i64 a)).cell? ⟨ub, 0, none⟩ = some (.int .i64 1) := (World.cell?_of_block (Below.heap_setCell _ _ _ ub (by show ub ≠ tb; omega))).trans t1
  have q1 : (W3.setCell ⟨tb, 0, none⟩ (.int .i64 a)).frozen? ⟨ub, 0, none⟩ = false := by
    rw [World.frozen?, Below.heap_setCell _ _ _ ub (by show ub ≠ tb; omega), y3]; rfl
  have HX := Lib.hid (And.intro x3 (And.intro y3 (And.intro b3 htw)))
  clear x3 y3 b3 htw ct hub
  go_upto_region 5 with fail
  clear t0 t1 f0 f1 q0 q1
  obtain ⟨W4, hW4⟩ : ∃ W4, W4 = (W3.setCell ⟨tb, 0, none⟩ (.int .i64 a)).setCell ⟨ub, 0, none⟩ (.int .i64 b) := ⟨_, rfl⟩
  have x4 : W4.heap[tb]? = some (.cells (trkR.f (trkM a)).toArray 26 (0, 0)) := by rw [hW4, Below.heap_setCell _ _ _ tb (by show tb ≠ ub; have := HUB.out; omega)]; exact rowL_set HX.out.1
  have y4 : W4.heap[ub]? = some (.cells (trkR.f (trkM b)).toArray 26 (0, 0)) := by rw [hW4]; exact rowL_set ((Below.heap_setCell _ _ _ ub (by show ub ≠ tb; have := HUB.out; omega)).trans HX.out.2.1)
  have b4 : Below w.heap.size w W4 := by rw [hW4]; exact bl_set (bl_set HX.out.2.2.1 HX.out.2.2.2) (by have := HX.out.2.2.2; have := HUB.out; omega)
  rw [← hW4]
  clear hW4
  obtain ⟨tt, htt⟩ : ∃ tt, tt = trkM a := ⟨_, rfl⟩
  obtain ⟨uu, huu⟩ : ∃ uu, uu = trkM b := ⟨_, rfl⟩
  rw [← htt] at x4
  rw [← huu] at y4
  have HR4 := Lib.hid (rangeAt_whole (T := 26) x4)
  have HS4 := Lib.hid (rangeAt_whole (T := 26) y4)
  have B4 := Lib.hid b4
  have HTT := Lib.hid (And.intro htt huu)
  clear x4 y4 b4 htt huu
  have hsz : (trkR.f tt).length = 18 := trkR.len tt
  have hsu : (trkR.f uu).length = 18 := trkR.len uu
  have hbs := run_bsTk tt uu W4
  have hbg : Calls Tryz.prog 13 #[.slice (some ⟨W4.heap.size, 0, none⟩) 2 2] (W4.alloc (.cells (trkR.all [tt, uu]).toArray 26)) fun e w' => ∃ p g vb r, e = .returned (.pointer (some ⟨p, 0, none⟩)) ∧ Pq p r g vb (kT2 a b) St12.zero (W4.alloc (.cells (trkR.all [tt, uu]).toArray 26)) w' := by
    rw [HTT.out.1, HTT.out.2]
    exact law12_begin (ts := kT2 a b) (rangeAt_whole (T := 26) (World.alloc_heap_new _ _)) (by rw [World.size_alloc]; omega) (by simp [kT2]) (by simp [kT2]) HKQ.out.1
  have HB := Lib.hid hbg
  clear hbg
  go_upto_region 8 with (first
    | (refine wpl_loadR (r := trkR) (t := tt) (b := tb) (k := 0) _ rfl rfl rfl HR4.out ?_)
    | (refine wpl_loadR (r := trkR) (t := uu) (b := ub) (k := 0) _ rfl rfl rfl HS4.out ?_)
    | (go_at_call 13; refine HB.out.mono ?_; rintro e w5 ⟨p, g, vb, r, rfl, hp⟩; have Q5 := Lib.hid hp; clear hp)
    | fail)
  clear hsz hsu hbs g1 g2 g3 g4 g5 g6
  obtain ⟨WB, hWB⟩ : ∃ WB, WB = W4.alloc (.cells (trkR.all [tt, uu]).toArray 26) := ⟨_, rfl⟩
  have H4 := Lib.hid (show Below w.heap.size w WB by rw [hWB]; exact B4.out.alloc B4.out.size _)
  rw [← hWB] at Q5
  clear hWB
  obtain ⟨N2, hN2⟩ : ∃ N2, N2 = 2 * n := ⟨_, rfl⟩
  have WN : IntKind.i64.wrap (2 * (n : Int)) = (N2 : Int) := by rw [IntWalk.i64_in _ (by omega)]; omega
  have hN10 : N2 ≤ 10 := by omega
  have HK5 := Lib.hid (HKQ.out.2.2 n (by omega))
  have HKS := HKQ.out.2.1
  rw [← hN2] at HK5
  have HN2 := Lib.hid hN2
  have HKP := Lib.hid HKS
  clear hN2 HKS
  go_wp2_with fail
  go_loopw [10] (fun i wr => ∃ k : Nat, k ≤ N2 ∧ i = .int .i64 k ∧ Pq p r g vb (kT2 a b) (kqS a b k) WB wr) (fun i _ => N2 - (intOf i).toNat)
  case atStart => exact ⟨0, by omega, rfl, Q5.out⟩
  case round =>
    obtain ⟨k, hk, rfl, hp⟩ := hrel
    have Q6 := Lib.hid hp
    clear hp
    by_cases hlt : k < N2
    · have c1 : (k : Int) < N2 := by omega
      obtain ⟨q5, hq5⟩ : ∃ q5, q5 = k % 5 := ⟨_, rfl⟩
      obtain ⟨q2, hq2⟩ : ∃ q2, q2 = k % 2 := ⟨_, rfl⟩
      have E5 : (k : Int).tmod 5 = (q5 : Int) := by rw [Int.tmod_eq_emod_of_nonneg (by omega)]; omega
      have E2 : (k : Int).tmod 2 = (q2 : Int) := by rw [Int.tmod_eq_emod_of_nonneg (by omega)]; omega
      have W5 : IntKind.i64.wrap (q5 : Int) = (q5 : Int) := IntWalk.i64_in _ (by omega)
      have W2 : IntKind.i64.wrap (q2 : Int) = (q2 : Int) := IntWalk.i64_in _ (by omega)
      have W51 : IntKind.i64.wrap (1 + (q5 : Int)) = 1 + (q5 : Int) := IntWalk.i64_in _ (by omega)
      have WK : IntKind.i64.wrap ((k : Int) + 1) = ((k + 1 : Nat) : Int) := by rw [IntWalk.i64_in _ (by omega)]; omega
      have HF := Lib.hid (show rinB (kT2 a b) (kqS a b k).R = true ∧ rinB (kT2 a b) ((kqS a b k).sub (kT2 a b) (1 + (q5 : Int)) (q2 : Int) hsh0 0 0).R = true ∧ ((kqS a b k).sub (kT2 a b) (1 + (q5 : Int)) (q2 : Int) hsh0 0 0).dep (kT2 a b) 5 k = kqS a b (k + 1) by rw [hq5, hq2]; exact ⟨(HKP.out k (by omega)).1, (HKP.out k (by omega)).2, rfl⟩)
      have HW := Lib.hid (show (Lit.int .i64 (1 + (q5 : Int))).wf = true ∧ (Lit.int .i64 (k : Int)).wf = true from ⟨wfS (by omega) (by omega), wfS (by omega) (by omega)⟩)
      clear hq5 hq2
      go_upto_region 11 with fail
      have D6 := Lib.hid Q6.out.dcells
      go_region_held3 (fun W => W.cell? ⟨p, 0, none⟩ = some (.pointer (some ⟨g, 0, none⟩)) ∧ W.cell? ⟨p, 1, none⟩ = some (.pointer (some ⟨vb, 0, none⟩)) ∧ W.cell? ⟨p, 2, none⟩ = some (.pointer (some ⟨r, 0, none⟩))) (first | exact D6.out | exact C7.out) (first
        | (go_at_call 14; refine (Q6.out.drew.Submit HF.out.1 HW.out.1 (q2 : Int) hsh0 0 0).mono ?_; rintro e w7 ⟨rfl, hp⟩; have Q7 := Lib.hid (show Pq p r g vb (kT2 a b) ((kqS a b k).sub (kT2 a b) (1 + (q5 : Int)) (q2 : Int) hsh0 0 0) _ _ from hp); have C7 := Lib.hid hp.cells; clear hp)
        | fail)
      go_upto_region 12 with fail
      have D7 := Lib.hid Q7.out.dcells
      go_region_held3 (fun W => W.cell? ⟨p, 0, none⟩ = some (.pointer (some ⟨g, 0, none⟩)) ∧ W.cell? ⟨p, 1, none⟩ = some (.pointer (some ⟨vb, 0, none⟩)) ∧ W.cell? ⟨p, 2, none⟩ = some (.pointer (some ⟨r, 0, none⟩))) (first | exact D7.out | exact C8.out) (first
        | (go_at_call 15; refine (Q7.out.drew.Deposit HF.out.2.1 (a := 5) (by decide) HW.out.2).mono ?_; rintro e w8 ⟨rfl, hp⟩; have Q8 := Lib.hid (show Pq p r g vb (kT2 a b) (((kqS a b k).sub (kT2 a b) (1 + (q5 : Int)) (q2 : Int) hsh0 0 0).dep (kT2 a b) 5 k) _ _ from hp); have C8 := Lib.hid hp.cells; clear hp)
        | fail)
      have Q8b := Q8.out
      rw [HF.out.2.2] at Q8b
      have Q9 := Lib.hid Q8b
      clear Q8b
      go_wp2_with fail
      go_roundw
      case rel => exact ⟨k + 1, by omega, by first | rfl | exact congrArg _ WK | go_num, Q9.out⟩
      case measure => simp [intOf]; omega
    · obtain rfl : k = N2 := by omega
      have c1 : ¬ (k : Int) < k := by omega
      have HSR := Lib.hid (show (kqS a b k).srv (kT2 a b) 2 = kqE a b n by unfold kqE; rw [HN2.out])
      go_upto_region 13 with fail
      have D6 := Lib.hid Q6.out.dcells
      go_region_held3 (fun W => W.cell? ⟨p, 0, none⟩ = some (.pointer (some ⟨g, 0, none⟩)) ∧ W.cell? ⟨p, 1, none⟩ = some (.pointer (some ⟨vb, 0, none⟩)) ∧ W.cell? ⟨p, 2, none⟩ = some (.pointer (some ⟨r, 0, none⟩))) (first | exact D6.out | exact C7.out) (first
        | (go_at_call 17; refine (Q6.out.drew.Service HK5.out.1).mono ?_; rw [HSR.out]; rintro e w7 ⟨v7, rfl, hp, ho⟩; skip; have Q7 := Lib.hid (show Pq p r g vb (kT2 a b) (kqE a b n) _ _ from hp); have C7 := Lib.hid hp.cells; clear hp ho)
        | fail)
      go_upto_region 14 with fail
      obtain ⟨f0, f1, f2⟩ := Q7.out.cells
      go_upto_region 15 with (first
        | (go_at_call 18; refine (Q7.out.All HK5.out.2.1 (by omega)).mono ?_; rintro e w8 ⟨ao, cp, rfl, ho, hb⟩; have Q8 := Lib.hid (Q7.out.below hb); have HO := Lib.hid ho; clear ho hb)
        | fail)
      clear f0 f1 f2
      go_upto_region 17 with fail
      obtain ⟨R, hR⟩ : ∃ R, R = (kqE a b n).R := ⟨_, rfl⟩
      have hk5 := HK5.out
      have ho8 := HO.out
      rw [← hR] at hk5 ho8
      obtain ⟨-, hlen, htr, hc0, hc1⟩ := hk5
      have HRL := Lib.hid hlen
      have HTRK := Lib.hid htr
      have HC0 := Lib.hid (show cntU R 0 k = min a n by rw [← hlen]; exact hc0)
      have HC1 := Lib.hid (show cntU R 1 k = min b n by rw [← hlen]; exact hc1)
      have HOR := Lib.hid ho8
      clear hR hlen htr hc0 hc1 ho8 HO c1
      obtain ⟨cb, hcb⟩ : ∃ cb, cb = w8.heap.size := ⟨_, rfl⟩
      go_upto_region 18 with fail
      obtain ⟨W9, hW9⟩ : ∃ W9, W9 = w8.alloc (.cells #[.int .i64 0, .int .i64 0] 83) := ⟨_, rfl⟩
      have x9 : W9.heap[cb]? = some (.cells #[.int .i64 0, .int .i64 0] 83 (0, 0)) := by rw [hW9, hcb]; exact World.alloc_heap_new _ _
      have b9 : Below cb w8 W9 := by rw [hW9, hcb]; exact (Below.refl _ _).alloc (Nat.le_refl _) _
      rw [← hW9, ← hcb]
      have X9 := Lib.hid (And.intro x9 b9)
      have HCB := Lib.hid hcb
      clear hW9 x9 b9 hcb
      go_wp2_with fail
      go_loopw [14] (fun i wr => ∃ j : Nat, j ≤ k ∧ i = .int .i64 j ∧ wr.heap[cb]? = some (.cells #[.int .i64 (cntU R 0 j : Int), .int .i64 (cntU R 1 j : Int)] 83 (0, 0)) ∧ Below cb w8 wr) (fun i _ => k - (intOf i).toNat)
      case atStart => exact ⟨0, by omega, rfl, X9.out.1, X9.out.2⟩
      case round =>
        obtain ⟨j, hj, rfl, hx, hbw⟩ := hrel
        by_cases hlt2 : j < k
        · have c2 : (j : Int) < k := by omega
          obtain ⟨bb, rfl, hB, hbl, hr0⟩ := all_row HOR.out (i := j) (by rw [HRL.out]; exact hlt2)
          have hr1 := rangeAt_block hr0 (hbw.block bb (by rw [HCB.out]; exact hbl))
          obtain ⟨r1, r39⟩ := rowf_at hr1
          rw [HTRK.out j hlt2] at r1
          obtain ⟨q2, hq2⟩ : ∃ q2, q2 = j % 2 := ⟨_, rfl⟩
          rw [← hq2] at r1
          have E2 : (j : Int).tmod 2 = (q2 : Int) := by rw [Int.tmod_eq_emod_of_nonneg (by omega)]; omega
          have W2 : IntKind.i64.wrap (q2 : Int) = (q2 : Int) := IntWalk.i64_in _ (by omega)
          have hqlt : q2 < 2 := by omega
          obtain ⟨si, hsi⟩ : ∃ si, si = (refAt R j).si := ⟨_, rfl⟩
          rw [← hsi] at r39
          have WK : IntKind.i64.wrap ((j : Int) + 1) = ((j + 1 : Nat) : Int) := by rw [IntWalk.i64_in _ (by omega)]; omega
          have cle := cntU_le R q2 j
          have WQ : IntKind.i64.wrap ((cntU R q2 j : Int) + 1) = ((cntU R q2 j + 1 : Nat) : Int) := by rw [IntWalk.i64_in _ (by omega)]; omega
          have cq : wr.cell? ⟨cb, q2, none⟩ = some (.int .i64 (cntU R q2 j : Int)) := by
            rw [World.cell?, hx]
            rcases (show q2 = 0 ∨ q2 = 1 by omega) with e | e <;> rw [e] <;> rfl
          have fq : wr.frozen? ⟨cb, q2, none⟩ = false := by rw [World.frozen?, hx]; rfl
          have s0 := cntU_snoc R 0 j
          have s1 := cntU_snoc R 1 j
          rw [← hsi, ← hq2] at s0 s1
          have HS := Lib.hid (And.intro s0 (And.intro s1 (And.intro hx hbw)))
          obtain ⟨cn, hcn⟩ : ∃ cn, cn = cntU R q2 j := ⟨_, rfl⟩
          rw [← hcn] at cq WQ
          have HCN := Lib.hid hcn
          have HQL := Lib.hid hqlt
          clear s0 s1 hx hbw cle hcn hr0 hr1 hB hbl hsi hq2
          by_cases hs : 0 ≤ si
          · have g1 : si ≥ 0 := hs
            have HSI := Lib.hid hs
            clear hs
            go_wp2_with fail
            go_roundw
            case rel =>
              obtain ⟨s0, s1, hx, hbw⟩ := HS.out
              refine ⟨j + 1, by omega, by first | rfl | exact congrArg _ WK | go_num, ?_, hbw.trans ⟨rfl, rfl, rfl, by simp [World.setCell], fun q hq => Below.heap_setCell _ _ _ q (by show q ≠ cb; omega)⟩⟩
              have := rowL_set (i := q2) (v := .int .i64 ((cn : Int) + 1)) (L := [.int .i64 (cntU R 0 j : Int), .int .i64 (cntU R 1 j : Int)]) hx
              rw [this, s0, s1, HCN.out]
              rcases (show q2 = 0 ∨ q2 = 1 by have := HQL.out; omega) with e | e <;> subst e <;> simp [HSI.out]
            case measure => simp [intOf]; omega
          · have g1 : ¬ si ≥ 0 := hs
            have HSI := Lib.hid hs
            clear hs
            go_wp2_with fail
            go_roundw
            case rel =>
              obtain ⟨s0, s1, hx, hbw⟩ := HS.out
              refine ⟨j + 1, by omega, by first | rfl | exact congrArg _ WK | go_num, ?_, hbw⟩
              rw [hx, s0, s1, if_neg (fun e => HSI.out e.2), if_neg (fun e => HSI.out e.2)]
              rfl
            case measure => simp [intOf]; omega
        · obtain rfl : j = k := by omega
          have c2 : ¬ (j : Int) < j := by omega
          have k0 : wr.cell? ⟨cb, 0, none⟩ = some (.int .i64 (cntU R 0 j : Int)) := by rw [World.cell?, hx]; rfl
          have k1 : wr.cell? ⟨cb, 1, none⟩ = some (.int .i64 (cntU R 1 j : Int)) := by rw [World.cell?, hx]; rfl
          rw [HC0.out] at k0
          rw [HC1.out] at k1
          obtain ⟨ma, hma⟩ : ∃ ma, ma = min a n := ⟨_, rfl⟩
          obtain ⟨mb, hmb⟩ : ∃ mb, mb = min b n := ⟨_, rfl⟩
          rw [← hma] at k0
          rw [← hmb] at k1
          have M1 : min (a : Int) (n : Int) = (ma : Int) := by omega
          have M2 : min (b : Int) (n : Int) = (mb : Int) := by omega
          have M3 : (if (n : Int) < a then (n : Int) else a) = (ma : Int) := by split <;> omega
          have M4 : (if (n : Int) < b then (n : Int) else b) = (mb : Int) := by split <;> omega
          have Q10 := Lib.hid (Q8.out.below (show Below w8.heap.size w8 wr by rw [← HCB.out]; exact hbw))
          clear hma hmb hx hbw
          go_wp2_with (first
            | (go_at_call 20; refine (law12_known _).mono ?_; rintro e wk ⟨rfl, hp⟩; have QK := Lib.hid (Q10.out.below hp); clear hp)
            | fail)
          exact bodyPost_ret (v := .bool true) (by simp [results, Tryz.results11, go_sem]) rfl ⟨rfl, H4.out.trans (QK.out.old.mono H4.out.size)⟩
set_option maxRecDepth 100000 in
set_option maxHeartbeats 8000000 in
theorem referTracks_walk (a b n : Int) (w : World) (wa : (Lit.int .i64 a).wf = true) (wb : (Lit.int .i64 b).wf = true) (wn : (Lit.int .i64 n).wf = true) : Calls Tryz.prog 11 #[.int .i64 a, .int .i64 b, .int .i64 n] w fun e w' => e = .returned (.bool true) ∧ Below w.heap.size w w' := by
  by_cases hin : (1 ≤ a ∧ a ≤ 4) ∧ (1 ≤ b ∧ b ≤ 4) ∧ 0 ≤ n ∧ n ≤ 5
  · obtain ⟨s, rfl⟩ : ∃ s : Nat, a = s := ⟨a.toNat, by omega⟩
    obtain ⟨q, rfl⟩ : ∃ q : Nat, b = q := ⟨b.toNat, by omega⟩
    obtain ⟨m, rfl⟩ : ∃ m : Nat, n = m := ⟨n.toNat, by omega⟩
    exact tracks_walk s q m w (by omega) (by omega) (by omega) (by omega) (by omega)
  · have hout : (a < 1) ∨ (¬ a < 1 ∧ a > 4) ∨ (¬ a < 1 ∧ ¬ a > 4 ∧ b < 1) ∨ (¬ a < 1 ∧ ¬ a > 4 ∧ ¬ b < 1 ∧ b > 4) ∨ (¬ a < 1 ∧ ¬ a > 4 ∧ ¬ b < 1 ∧ ¬ b > 4 ∧ n < 0) ∨ (¬ a < 1 ∧ ¬ a > 4 ∧ ¬ b < 1 ∧ ¬ b > 4 ∧ ¬ n < 0 ∧ n > 5) := by omega
    rcases hout with h | ⟨h0, h⟩ | ⟨h0, h1, h⟩ | ⟨h0, h1, h2, h⟩ | ⟨h0, h1, h2, h3, h⟩ | ⟨h0, h1, h2, h3, h4, h⟩
    all_goals
      go_enter Tryz.func11, Tryz.ntmps11
      go_wp2
      exact bodyPost_ret (v := .bool true) (by simp [results, Tryz.results11, go_sem]) rfl ⟨rfl, Below.refl _ w⟩
end Go.Proofs.YtpkamfbjgdmmoaaGreat
