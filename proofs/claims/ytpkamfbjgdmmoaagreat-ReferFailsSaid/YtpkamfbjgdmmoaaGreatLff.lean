/-
  The law ReferFails, walked. Printed by mk12.py.
-/
import Derived.Test.YtpkamfbjgdmmoaaGreatFq1
import Derived.Test.YtpkamfbjgdmmoaaGreatMsm
import Derived.BigRegion
import Derived.RegionTactic
import Derived.Deep.RegionHeld3
namespace Go.Proofs.YtpkamfbjgdmmoaaGreat
open Go.RowKit Go.Maps Go.Shelf
set_option linter.unusedVariables false
set_option linter.unusedSimpArgs false

theorem fold_trkT (t : Trk) : List.foldl (fun (cs : Array Value) (x : Value × Nat) => cs.setIfInBounds x.2 x.1) #[.int .i64 0, .int .i64 0, .int .i64 0, .int .i64 0, .int .i64 0, .int .i64 0, .int .i64 0, .int .i64 0, .int .i64 0, .int .i64 0, .int .i64 0, .int .i64 0, .int .i64 0, .int .i64 0, .int .i64 0, .int .i64 0, .int .i64 0, .int .i64 0] (trkR.f t).zipIdx = (trkR.f t).toArray := by kernel_rfl
theorem rowL_set {w : World} {b i : Nat} {v : Value} {L : List Value} {T : TypeId} (h : w.heap[b]? = some (.cells L.toArray T (0, 0))) : (w.setCell ⟨b, i, none⟩ v).heap[b]? = some (.cells (L.set i v).toArray T (0, 0)) := by
  simp [World.setCell, Array.getElem?_modify, h]
theorem bl_set {N b i : Nat} {v : Value} {w w' : World} (h : Below N w w') (hb : N ≤ b) : Below N w (w'.setCell ⟨b, i, none⟩ v) := h.trans ⟨rfl, rfl, rfl, by simp [World.setCell], fun k hk => Below.heap_setCell _ _ _ k (by show k ≠ b; omega)⟩
set_option maxRecDepth 100000 in
set_option maxHeartbeats 8000000 in
attribute [local go_sem ↓] loadSt_V_hide in
theorem fails_walk (s a : Nat) (w : World) (s1 : 1 ≤ s) (s3 : s ≤ 3) (a1 : 1 ≤ a) (a4 : a ≤ 4) : Calls Tryz.prog 5 #[.int .i64 s, .int .i64 a] w fun e w' => e = .returned (.bool true) ∧ Below w.heap.size w w' := by
  have HPL := Lib.hid (law12_plain w)
  have g1 : ¬ (s : Int) < 1 := by omega
  have g2 : ¬ (s : Int) > 3 := by omega
  have g3 : ¬ (a : Int) < 1 := by omega
  have g4 : ¬ (a : Int) > 4 := by omega
  have HC := Lib.hid (fq_c s1 s3 a1 a4)
  have HFB := Lib.hid (fq_b s (by omega) s1)
  go_enter Tryz.func5, Tryz.ntmps5
  have mixed : Tryz.prog.follows .mixedOrders = true := by kernel_rfl
  go_upto_region 4 with (first
    | (go_at_call 12; refine HPL.out.mono ?_; rintro e w1 ⟨rfl, hb⟩; have H1 := Lib.hid hb; clear hb)
    | (refine wpl_allocR (r := trkR) (ty := 26) rfl rfl rfl ?_; intro C hC)
    | (refine wpl_storeR (r := trkR) (ty := 26) (t := trkP) (C := C) _ _ rfl rfl rfl rfl rfl (World.alloc_heap_new w1 _) hC ?_; rw [World.setRow_alloc_new])
    | fail)
  clear hC C
  obtain ⟨tb, htb⟩ : ∃ tb, tb = w1.heap.size := ⟨_, rfl⟩
  obtain ⟨W3, hW3⟩ : ∃ W3, W3 = w1.alloc (.cells (trkR.f trkP).toArray 26) := ⟨_, rfl⟩
  have x3 : W3.heap[tb]? = some (.cells (trkR.f trkP).toArray 26 (0, 0)) := by rw [hW3, htb]; exact World.alloc_heap_new _ _
  have b3 : Below w.heap.size w W3 := by rw [hW3]; exact H1.out.alloc H1.out.size _
  have htw : w.heap.size ≤ tb := by rw [htb]; exact H1.out.size
  rw [← hW3, ← htb]
  clear hW3 htb
  have ct : ∀ i v, (trkR.f trkP)[i]? = some v → W3.cell? ⟨tb, i, none⟩ = some v ∧ W3.frozen? ⟨tb, i, none⟩ = false := fun i v hi => by
    refine ⟨?_, by rw [World.frozen?, x3]; rfl⟩
    have := (rangeAt_whole (T := 26) x3) i v hi
    rwa [Nat.zero_add] at this
  obtain ⟨t2, f2⟩ := ct 2 _ rfl
  obtain ⟨t3, f3⟩ := ct 3 _ rfl
  obtain ⟨t4, f4⟩ := ct 4 _ rfl
  have HX := Lib.hid (And.intro x3 (And.intro b3 htw))
  clear x3 b3 htw ct
  go_upto_region 5 with fail
  clear t2 f2 t3 f3 t4 f4
  obtain ⟨W4, hW4⟩ : ∃ W4, W4 = (((W3.setCell ⟨tb, 2, none⟩ (.int .i64 0)).setCell ⟨tb, 3, none⟩ (.int .i64 20)).setCell ⟨tb, 4, none⟩ (.int .i64 4)) := ⟨_, rfl⟩
  have x4 : W4.heap[tb]? = some (.cells (trkR.f trkF).toArray 26 (0, 0)) := by rw [hW4]; exact rowL_set (rowL_set (rowL_set (HX.out.1)))
  have b4 : Below w.heap.size w W4 := by rw [hW4]; exact bl_set (bl_set (bl_set (HX.out.2.1) HX.out.2.2) HX.out.2.2) HX.out.2.2
  rw [← hW4]
  clear hW4
  obtain ⟨tt, htt⟩ : ∃ tt, tt = trkF := ⟨_, rfl⟩
  have hbg : Calls Tryz.prog 13 #[.slice (some ⟨W4.heap.size, 0, none⟩) 1 1] (W4.alloc (.cells (trkR.f tt).toArray 26)) fun e w' => ∃ p g vb r, e = .returned (.pointer (some ⟨p, 0, none⟩)) ∧ Pq p r g vb fT St12.zero (W4.alloc (.cells (trkR.f tt).toArray 26)) w' := by rw [htt]; exact begin12 fq_pre.1 W4
  have HX4 := Lib.hid x4
  rw [← htt] at x4
  have hr4 := rangeAt_whole (T := 26) x4
  have HR4 := Lib.hid hr4
  have HB := Lib.hid hbg
  have B4 := Lib.hid b4
  clear hr4 hbg htt x4 b4
  have hsz : (trkR.f tt).length = 18 := trkR.len tt
  go_upto_region 8 with (first
    | (refine wpl_loadR (r := trkR) (t := tt) (b := tb) (k := 0) _ rfl rfl rfl HR4.out ?_)
    | (go_at_call 13; rw [fold_trkT]; refine HB.out.mono ?_; rintro e w2 ⟨p, g, vb, r, rfl, hp⟩; have Q2 := Lib.hid hp; clear hp)
    | fail)
  clear hsz
  obtain ⟨WB, hWB⟩ : ∃ WB, WB = W4.alloc (.cells (trkR.f tt).toArray 26) := ⟨_, rfl⟩
  have H4 := Lib.hid (show Below w.heap.size w WB by rw [hWB]; exact B4.out.alloc B4.out.size _)
  have HTB := Lib.hid (show tb < WB.heap.size ∧ WB.heap[tb]? = some (.cells (trkR.f trkF).toArray 26 (0, 0)) by
    have hl := (Array.getElem?_eq_some_iff.1 HX4.out).1
    exact ⟨by rw [hWB, World.size_alloc]; omega, by rw [hWB]; exact (Below.heap_alloc _ _ _ hl).trans HX4.out⟩)
  rw [← hWB] at Q2
  clear hWB
  clear g1 g2 g3 g4
  go_upto_region 8 with fail
  have D2 := Lib.hid Q2.out.dcells
  go_region_held3 (fun W => W.cell? ⟨p, 0, none⟩ = some (.pointer (some ⟨g, 0, none⟩)) ∧ W.cell? ⟨p, 1, none⟩ = some (.pointer (some ⟨vb, 0, none⟩)) ∧ W.cell? ⟨p, 2, none⟩ = some (.pointer (some ⟨r, 0, none⟩))) (first | exact D2.out | exact C3.out) (first
    | (go_at_call 14; refine (Q2.out.drew.Submit fq_pre.2.1 (by decide) 0 hsh0 0 0).mono ?_; rintro e w3 ⟨rfl, hp⟩; have Q3 := Lib.hid (show Pq p r g vb fT fq1 _ _ from hp); have C3 := Lib.hid hp.cells; clear hp)
    | fail)
  go_upto_region 9 with fail
  have D3 := Lib.hid Q3.out.dcells
  go_region_held3 (fun W => W.cell? ⟨p, 0, none⟩ = some (.pointer (some ⟨g, 0, none⟩)) ∧ W.cell? ⟨p, 1, none⟩ = some (.pointer (some ⟨vb, 0, none⟩)) ∧ W.cell? ⟨p, 2, none⟩ = some (.pointer (some ⟨r, 0, none⟩))) (first | exact D3.out | exact C4.out) (first
    | (go_at_call 15; refine (Q3.out.drew.Deposit fq_pre.2.2.1 (by decide) (by decide)).mono ?_; rintro e w4 ⟨rfl, hp⟩; have Q4 := Lib.hid (show Pq p r g vb fT fq2 _ _ from hp); have C4 := Lib.hid hp.cells; clear hp)
    | fail)
  go_upto_region 10 with fail
  obtain ⟨ab, hab⟩ : ∃ ab, ab = w4.heap.size := ⟨_, rfl⟩
  obtain ⟨W5, hW5⟩ : ∃ W5, W5 = w4.alloc (balS.obj fAye) := ⟨_, rfl⟩
  have Z5 := Lib.hid (show Pz p r g vb fT fq2 [(ab, balS.f fAye)] WB W5 by rw [hW5, hab]; exact Q4.out.z.bal fAye)
  go_upto_region 11 with (first
    | (refine wpl_allocS (s := balS) rfl rfl rfl ?_)
    | (refine wpl_storeS (s := balS) (t := fAye) (b := w4.heap.size) _ _ rfl rfl rfl rfl rfl (World.alloc_heap_new w4 _) (zeroS balS) ?_; rw [newS])
    | fail)
  rw [← hW5, ← hab]
  clear hW5 hab
  obtain ⟨nb, hnb⟩ : ∃ nb, nb = W5.heap.size := ⟨_, rfl⟩
  obtain ⟨w6, hw6⟩ : ∃ w6, w6 = W5.alloc (balS.obj fNay) := ⟨_, rfl⟩
  have Q6 := Lib.hid (show Pz p r g vb fT fq2 [(nb, balS.f fNay), (ab, balS.f fAye)] WB w6 by rw [hw6, hnb]; exact Z5.out.bal fNay)
  go_upto_region 12 with (first
    | (refine wpl_allocS (s := balS) rfl rfl rfl ?_)
    | (refine wpl_storeS (s := balS) (t := fNay) (b := W5.heap.size) _ _ rfl rfl rfl rfl rfl (World.alloc_heap_new W5 _) (zeroS balS) ?_; rw [newS])
    | fail)
  rw [← hw6, ← hnb]
  clear hw6 hnb
  have HK6 := Lib.hid (fun W (hp : Pz p r g vb fT fq2 [(nb, balS.f fNay), (ab, balS.f fAye)] WB W) => hp.Vote (a := 5) (ref := 0) (vinvB_of fq_pre.2.2.2.1) (by decide) (by decide) fAye)
  have HK7 := Lib.hid (fun W (hp : Pz p r g vb fT fq3 [(nb, balS.f fNay), (ab, balS.f fAye)] WB W) => hp.Vote (a := 6) (ref := 0) (vinvB_of fq_pre.2.2.2.2.2.1) (by decide) (by decide) fAye)
  have D6 := Lib.hid (show (fun (W : World) => W.cell? ⟨p, 0, none⟩ = some (.pointer (some ⟨g, 0, none⟩)) ∧ W.cell? ⟨p, 1, none⟩ = some (.pointer (some ⟨vb, 0, none⟩)) ∧ W.cell? ⟨p, 2, none⟩ = some (.pointer (some ⟨r, 0, none⟩)) ∧ (loadSt_V (.pointer (some ⟨ab, 0, none⟩))).run Tryz.prog W = .ok (.agg #[.int .i64 fAye.k, .bool fAye.aye, .int .i64 fAye.l, .int .i64 fAye.a, .int .i64 fAye.n, .int .i64 fAye.s]) W) _ from ⟨Q6.out.dcells.1, Q6.out.dcells.2.1, Q6.out.dcells.2.2, Q6.out.drew.loadB (by simp)⟩)
  go_region_held3 (fun (W : World) => W.cell? ⟨p, 0, none⟩ = some (.pointer (some ⟨g, 0, none⟩)) ∧ W.cell? ⟨p, 1, none⟩ = some (.pointer (some ⟨vb, 0, none⟩)) ∧ W.cell? ⟨p, 2, none⟩ = some (.pointer (some ⟨r, 0, none⟩)) ∧ (loadSt_V (.pointer (some ⟨ab, 0, none⟩))).run Tryz.prog W = .ok (.agg #[.int .i64 fAye.k, .bool fAye.aye, .int .i64 fAye.l, .int .i64 fAye.a, .int .i64 fAye.n, .int .i64 fAye.s]) W) (first | exact D6.out | exact C7.out | exact C8.out) (first
    | (go_at_call 16; (with_reducible refine (HK6.out _ Q6.out.drew).mono ?_); rw [fq_pre.2.2.2.2.1]; rintro e w7 ⟨rfl, hp⟩; have Q7 := Lib.hid (show Pz p r g vb fT fq3 [(nb, balS.f fNay), (ab, balS.f fAye)] WB _ from hp); have C7 := Lib.hid (show (fun (W : World) => W.cell? ⟨p, 0, none⟩ = some (.pointer (some ⟨g, 0, none⟩)) ∧ W.cell? ⟨p, 1, none⟩ = some (.pointer (some ⟨vb, 0, none⟩)) ∧ W.cell? ⟨p, 2, none⟩ = some (.pointer (some ⟨r, 0, none⟩)) ∧ (loadSt_V (.pointer (some ⟨ab, 0, none⟩))).run Tryz.prog W = .ok (.agg #[.int .i64 fAye.k, .bool fAye.aye, .int .i64 fAye.l, .int .i64 fAye.a, .int .i64 fAye.n, .int .i64 fAye.s]) W) _ from ⟨hp.cells.1, hp.cells.2.1, hp.cells.2.2, hp.loadB (by simp)⟩); clear hp)
    | (go_at_call 16; (with_reducible refine (HK7.out _ Q7.out).mono ?_); rw [fq_pre.2.2.2.2.2.2]; rintro e w8 ⟨rfl, hp⟩; have Q8 := Lib.hid (show Pz p r g vb fT (fqA 0) [(nb, balS.f fNay), (ab, balS.f fAye)] WB _ from hp); have C8 := Lib.hid (show (fun (W : World) => W.cell? ⟨p, 0, none⟩ = some (.pointer (some ⟨g, 0, none⟩)) ∧ W.cell? ⟨p, 1, none⟩ = some (.pointer (some ⟨vb, 0, none⟩)) ∧ W.cell? ⟨p, 2, none⟩ = some (.pointer (some ⟨r, 0, none⟩)) ∧ (loadSt_V (.pointer (some ⟨ab, 0, none⟩))).run Tryz.prog W = .ok (.agg #[.int .i64 fAye.k, .bool fAye.aye, .int .i64 fAye.l, .int .i64 fAye.a, .int .i64 fAye.n, .int .i64 fAye.s]) W) _ from ⟨hp.cells.1, hp.cells.2.1, hp.cells.2.2, hp.loadB (by simp)⟩); clear hp)
    | fail)
  go_wp2_with fail
  go_loopw [9, 10] (fun nw i wr => ∃ k : Nat, k ≤ s ∧ nw = .int .i64 k ∧ i = .int .i64 k ∧ Pz p r g vb fT (fqA k) [(nb, balS.f fNay), (ab, balS.f fAye)] WB wr) (fun _ i _ => s - (intOf i).toNat)
  case atStart => exact ⟨0, by omega, rfl, rfl, Q8.out⟩
  case round =>
    obtain ⟨k, hk, rfl, rfl, hp⟩ := hrel
    have Q9 := Lib.hid hp
    clear hp
    by_cases hlt : k < s
    · have c1 : (k : Int) < s := by omega
      obtain ⟨kn, hkn⟩ : ∃ kn, kn = k + 1 := ⟨_, rfl⟩
      have HSt := Lib.hid (show srvB fT (fqA k) (kn : Int) = true ∧ (fqA k).srv fT (kn : Int) = fqA kn by rw [hkn]; exact ⟨fq_a k (by omega), rfl⟩)
      have WK : IntKind.i64.wrap ((k : Int) + 1) = (kn : Int) := by rw [IntWalk.i64_in _ (by omega)]; omega
      have HKN := Lib.hid hkn
      clear hkn
      go_upto_region 19 with fail
      have HK9 := Lib.hid (fun W (hp : Pz p r g vb fT (fqA k) [(nb, balS.f fNay), (ab, balS.f fAye)] WB W) => hp.Service (now := (kn : Int)) HSt.out.1)
      have D9 := Lib.hid (show (fun (W : World) => W.cell? ⟨p, 0, none⟩ = some (.pointer (some ⟨g, 0, none⟩)) ∧ W.cell? ⟨p, 1, none⟩ = some (.pointer (some ⟨vb, 0, none⟩)) ∧ W.cell? ⟨p, 2, none⟩ = some (.pointer (some ⟨r, 0, none⟩))) _ from ⟨Q9.out.dcells.1, Q9.out.dcells.2.1, Q9.out.dcells.2.2⟩)
      go_region_held3 (fun (W : World) => W.cell? ⟨p, 0, none⟩ = some (.pointer (some ⟨g, 0, none⟩)) ∧ W.cell? ⟨p, 1, none⟩ = some (.pointer (some ⟨vb, 0, none⟩)) ∧ W.cell? ⟨p, 2, none⟩ = some (.pointer (some ⟨r, 0, none⟩))) (first | exact D9.out | exact C10.out) (first
        | (go_at_call 17; (with_reducible refine (HK9.out _ Q9.out.drew).mono ?_); rw [HSt.out.2]; rintro e w10 ⟨v10, rfl, hp, ho⟩; skip; have Q10 := Lib.hid (show Pz p r g vb fT (fqA kn) [(nb, balS.f fNay), (ab, balS.f fAye)] WB _ from hp); have C10 := Lib.hid (show (fun (W : World) => W.cell? ⟨p, 0, none⟩ = some (.pointer (some ⟨g, 0, none⟩)) ∧ W.cell? ⟨p, 1, none⟩ = some (.pointer (some ⟨vb, 0, none⟩)) ∧ W.cell? ⟨p, 2, none⟩ = some (.pointer (some ⟨r, 0, none⟩))) _ from ⟨hp.cells.1, hp.cells.2.1, hp.cells.2.2⟩); clear hp ho)
        | fail)
      go_wp2_with fail
      go_roundw
      case rel => exact ⟨kn, by have := HKN.out; omega, by first | rfl | exact congrArg _ WK | go_num, by first | rfl | exact congrArg _ WK | go_num, Q10.out⟩
      case measure => have := HKN.out; simp [intOf]; omega
    · obtain rfl : k = s := by omega
      have c1 : ¬ (k : Int) < k := by omega
      go_upto_region 20 with fail
      have HK9 := Lib.hid (fun W (hp : Pz p r g vb fT (fqA k) [(nb, balS.f fNay), (ab, balS.f fAye)] WB W) => hp.Vote (a := 3) (ref := 0) (vinvB_of HFB.out.1) (by decide) (by decide) fNay)
      have D9 := Lib.hid (show (fun (W : World) => W.cell? ⟨p, 0, none⟩ = some (.pointer (some ⟨g, 0, none⟩)) ∧ W.cell? ⟨p, 1, none⟩ = some (.pointer (some ⟨vb, 0, none⟩)) ∧ W.cell? ⟨p, 2, none⟩ = some (.pointer (some ⟨r, 0, none⟩)) ∧ (loadSt_V (.pointer (some ⟨nb, 0, none⟩))).run Tryz.prog W = .ok (.agg #[.int .i64 fNay.k, .bool fNay.aye, .int .i64 fNay.l, .int .i64 fNay.a, .int .i64 fNay.n, .int .i64 fNay.s]) W) _ from ⟨Q9.out.dcells.1, Q9.out.dcells.2.1, Q9.out.dcells.2.2, Q9.out.drew.loadB (by simp)⟩)
      go_region_held3 (fun (W : World) => W.cell? ⟨p, 0, none⟩ = some (.pointer (some ⟨g, 0, none⟩)) ∧ W.cell? ⟨p, 1, none⟩ = some (.pointer (some ⟨vb, 0, none⟩)) ∧ W.cell? ⟨p, 2, none⟩ = some (.pointer (some ⟨r, 0, none⟩)) ∧ (loadSt_V (.pointer (some ⟨nb, 0, none⟩))).run Tryz.prog W = .ok (.agg #[.int .i64 fNay.k, .bool fNay.aye, .int .i64 fNay.l, .int .i64 fNay.a, .int .i64 fNay.n, .int .i64 fNay.s]) W) (first | exact D9.out | exact C10.out) (first
        | (go_at_call 16; (with_reducible refine (HK9.out _ Q9.out.drew).mono ?_); rw [HFB.out.2.1]; rintro e w10 ⟨rfl, hp⟩; have Q10 := Lib.hid (show Pz p r g vb fT (fqB k 0) [(nb, balS.f fNay), (ab, balS.f fAye)] WB _ from hp); have C10 := Lib.hid (show (fun (W : World) => W.cell? ⟨p, 0, none⟩ = some (.pointer (some ⟨g, 0, none⟩)) ∧ W.cell? ⟨p, 1, none⟩ = some (.pointer (some ⟨vb, 0, none⟩)) ∧ W.cell? ⟨p, 2, none⟩ = some (.pointer (some ⟨r, 0, none⟩)) ∧ (loadSt_V (.pointer (some ⟨nb, 0, none⟩))).run Tryz.prog W = .ok (.agg #[.int .i64 fNay.k, .bool fNay.aye, .int .i64 fNay.l, .int .i64 fNay.a, .int .i64 fNay.n, .int .i64 fNay.s]) W) _ from ⟨hp.cells.1, hp.cells.2.1, hp.cells.2.2, hp.loadB (by simp)⟩); clear hp)
        | fail)
      go_wp2_with fail
      go_loopw [9, 11] (fun nw i wr => ∃ j : Nat, j ≤ a ∧ nw = .int .i64 ((k + j : Nat) : Int) ∧ i = .int .i64 j ∧ Pz p r g vb fT (fqB k j) [(nb, balS.f fNay), (ab, balS.f fAye)] WB wr) (fun _ i _ => a - (intOf i).toNat)
      case atStart => exact ⟨0, by omega, rfl, rfl, Q10.out⟩
      case round =>
        obtain ⟨j, hj, rfl, rfl, hp⟩ := hrel
        have Q11 := Lib.hid hp
        clear hp
        obtain ⟨nw, hnw⟩ : ∃ nw, nw = k + j := ⟨_, rfl⟩
        rw [← hnw]
        have HNW := Lib.hid hnw
        by_cases hlt2 : j < a
        · have c2 : (j : Int) < a := by omega
          obtain ⟨nn, hnn⟩ : ∃ nn, nn = nw + 1 := ⟨_, rfl⟩
          have HSt := Lib.hid (show srvB fT (fqB k j) (nn : Int) = true by rw [hnn, hnw]; exact HFB.out.2.2 j (by omega))
          have WK : IntKind.i64.wrap ((nw : Int) + 1) = (nn : Int) := by rw [IntWalk.i64_in _ (by omega)]; omega
          have WJ : IntKind.i64.wrap ((j : Int) + 1) = ((j + 1 : Nat) : Int) := by rw [IntWalk.i64_in _ (by omega)]; omega
          have HSS := Lib.hid (show (fqB k j).srv fT (nn : Int) = fqB k (j + 1) by rw [hnn, hnw]; rfl)
          have HNN := Lib.hid hnn
          clear hnw hnn
          go_upto_region 26 with fail
          have HK11 := Lib.hid (fun W (hp : Pz p r g vb fT (fqB k j) [(nb, balS.f fNay), (ab, balS.f fAye)] WB W) => hp.Service (now := (nn : Int)) HSt.out)
          have D11 := Lib.hid (show (fun (W : World) => W.cell? ⟨p, 0, none⟩ = some (.pointer (some ⟨g, 0, none⟩)) ∧ W.cell? ⟨p, 1, none⟩ = some (.pointer (some ⟨vb, 0, none⟩)) ∧ W.cell? ⟨p, 2, none⟩ = some (.pointer (some ⟨r, 0, none⟩))) _ from ⟨Q11.out.dcells.1, Q11.out.dcells.2.1, Q11.out.dcells.2.2⟩)
          go_region_held3 (fun (W : World) => W.cell? ⟨p, 0, none⟩ = some (.pointer (some ⟨g, 0, none⟩)) ∧ W.cell? ⟨p, 1, none⟩ = some (.pointer (some ⟨vb, 0, none⟩)) ∧ W.cell? ⟨p, 2, none⟩ = some (.pointer (some ⟨r, 0, none⟩))) (first | exact D11.out | exact C12.out) (first
            | (go_at_call 17; (with_reducible refine (HK11.out _ Q11.out.drew).mono ?_); rw [HSS.out]; rintro e w12 ⟨v12, rfl, hp, ho⟩; skip; have Q12 := Lib.hid (show Pz p r g vb fT (fqB k (j + 1)) [(nb, balS.f fNay), (ab, balS.f fAye)] WB _ from hp); have C12 := Lib.hid (show (fun (W : World) => W.cell? ⟨p, 0, none⟩ = some (.pointer (some ⟨g, 0, none⟩)) ∧ W.cell? ⟨p, 1, none⟩ = some (.pointer (some ⟨vb, 0, none⟩)) ∧ W.cell? ⟨p, 2, none⟩ = some (.pointer (some ⟨r, 0, none⟩))) _ from ⟨hp.cells.1, hp.cells.2.1, hp.cells.2.2⟩); clear hp ho)
            | fail)
          go_wp2_with fail
          go_roundw
          case rel => exact ⟨j + 1, by omega, by rw [show k + (j + 1) = nn by have := HNW.out; have := HNN.out; omega], by first | rfl | exact congrArg _ WJ | go_num, Q12.out⟩
          case measure => simp [intOf]; omega
        · obtain rfl : j = a := by omega
          have c2 : ¬ (j : Int) < j := by omega
          obtain ⟨⟨h1, h2, h3⟩, h4, h5, h6, ⟨h7, h8, h9, h10⟩, h11, h12, h13, h14, h15⟩ := HC.out
          have hvi := (vinvB_of h4).1
          obtain ⟨xx, hxx⟩ : ∃ xx, xx = refAt (fqB k j).R 0 := ⟨_, rfl⟩
          obtain ⟨yy, hyy⟩ : ∃ yy, yy = refAt (fqD k j 0).R 0 := ⟨_, rfl⟩
          obtain ⟨zz, hzz⟩ : ∃ zz, zz = refAt (fqD k j 4).R 0 := ⟨_, rfl⟩
          rw [← hxx] at h2 h3
          rw [← hyy] at h8 h9 h10
          rw [← hzz] at h15
          have hx11 : Calls Tryz.prog 21 #[.pointer (some ⟨r, 0, none⟩), .int .i64 0] wr fun e w' => e = .returned (.tuple #[.agg (rfS.f xx).toArray, .bool true]) ∧ Below wr.heap.size wr w' := by
            have := Q11.out.Get (b := 0) (by decide)
            rw [h1, ← hxx] at this
            exact this
          have HG := Lib.hid hx11
          have HXX := Lib.hid (And.intro h2 h3)
          have HYY := Lib.hid (And.intro h7 (And.intro hyy (And.intro h8 (And.intro h9 h10))))
          have HZZ := Lib.hid (And.intro h14 (And.intro hzz h15))
          have HU := Lib.hid (And.intro hvi h5)
          obtain ⟨nn, hnn⟩ : ∃ nn, nn = nw + 1 := ⟨_, rfl⟩
          have WK : IntKind.i64.wrap ((nw : Int) + 1) = (nn : Int) := by rw [IntWalk.i64_in _ (by omega)]; omega
          have HSC := Lib.hid (show (fqC k j).srv fT (nn : Int) = fqD k j 0 ∧ srvB fT (fqC k j) (nn : Int) = true ∧ (fqB k j).unv 3 0 (nw : Int) = fqC k j by rw [hnn, hnw]; exact ⟨rfl, h6, rfl⟩)
          have HSD := Lib.hid (show (∀ m : Nat, m < 3 → srvB fT (fqD k j m) ((nn + m + 1 : Nat) : Int) = true ∧ (fqD k j m).evs fT ((nn + m + 1 : Nat) : Int) = [] ∧ (fqD k j m).srv fT ((nn + m + 1 : Nat) : Int) = fqD k j (m + 1)) ∧ srvB fT (fqD k j 3) ((nn + 3 + 1 : Nat) : Int) = true ∧ (fqD k j 3).evs fT ((nn + 3 + 1 : Nat) : Int) = [(1, 0, 2)] ∧ (fqD k j 3).srv fT ((nn + 3 + 1 : Nat) : Int) = fqD k j 4 by rw [hnn, hnw]; exact ⟨fun m hm => ⟨(h11 m hm).1, (h11 m hm).2, rfl⟩, h12, h13, rfl⟩)
          obtain ⟨f0, f1, f2⟩ := Q11.out.cells
          have HNN := Lib.hid hnn
          clear h1 h2 h3 h4 h5 h6 h7 h8 h9 h10 h11 h12 h13 h14 h15 hvi hx11 hxx hyy hzz hnn hnw
          go_upto_region 28 with (first
            | (go_at_call 21; refine HG.out.mono ?_; rintro e w12 ⟨rfl, hb⟩; have HB12 := Lib.hid hb; clear hb)
            | (refine wpl_allocS (s := rfS) rfl rfl rfl ?_)
            | (refine wpl_storeS (s := rfS) (t := xx) (b := w12.heap.size) _ _ rfl rfl rfl rfl rfl (World.alloc_heap_new w12 _) (zeroS rfS) ?_; rw [newS])
            | fail)
          obtain ⟨xb, hxb⟩ : ∃ xb, xb = w12.heap.size := ⟨_, rfl⟩
          obtain ⟨w13, hw13⟩ : ∃ w13, w13 = w12.alloc (rfS.obj xx) := ⟨_, rfl⟩
          have Q13 := Lib.hid (show Pz p r g vb fT (fqB k j) [(nb, balS.f fNay), (ab, balS.f fAye)] WB w13 by rw [hw13]; exact (Q11.out.below HB12.out).below ((Below.refl _ w12).alloc (Nat.le_refl _) _))
          have bxx : RfBox w13 xb xx := by rw [hw13, hxb]; exact World.alloc_heap_new _ _
          rw [← hw13, ← hxb]
          obtain ⟨x0, -, -, -, -, -, -, -, x40, -⟩ := rf_at bxx.range
          rw [HXX.out.1] at x0
          rw [HXX.out.2] at x40
          obtain ⟨f0, f1, f2⟩ := Q13.out.cells
          clear hw13 hxb bxx
          go_upto_region 31 with (first
            | (go_at_call 22; refine (Q13.out.Unvote (a := 3) (ref := 0) HU.out.1 (by decide) (by decide) (nw : Int)).mono ?_; rw [HU.out.2]; rintro e w14 ⟨rfl, hp⟩; rw [HSC.out.2.2] at hp; have Q14 := Lib.hid hp; clear hp)
            | fail)
          clear x0 x40 f0 f1 f2
          have HK14 := Lib.hid (fun W (hp : Pz p r g vb fT (fqC k j) [(nb, balS.f fNay), (ab, balS.f fAye)] WB W) => hp.Service (now := (nn : Int)) HSC.out.2.1)
          have D14 := Lib.hid (show (fun (W : World) => W.cell? ⟨p, 0, none⟩ = some (.pointer (some ⟨g, 0, none⟩)) ∧ W.cell? ⟨p, 1, none⟩ = some (.pointer (some ⟨vb, 0, none⟩)) ∧ W.cell? ⟨p, 2, none⟩ = some (.pointer (some ⟨r, 0, none⟩))) _ from ⟨Q14.out.dcells.1, Q14.out.dcells.2.1, Q14.out.dcells.2.2⟩)
          go_region_held3 (fun (W : World) => W.cell? ⟨p, 0, none⟩ = some (.pointer (some ⟨g, 0, none⟩)) ∧ W.cell? ⟨p, 1, none⟩ = some (.pointer (some ⟨vb, 0, none⟩)) ∧ W.cell? ⟨p, 2, none⟩ = some (.pointer (some ⟨r, 0, none⟩))) (first | exact D14.out | exact C15.out) (first
            | (go_at_call 17; (with_reducible refine (HK14.out _ Q14.out.drew).mono ?_); rw [HSC.out.1]; rintro e w15 ⟨v15, rfl, hp, ho⟩; skip; have Q15 := Lib.hid (show Pz p r g vb fT (fqD k j 0) [(nb, balS.f fNay), (ab, balS.f fAye)] WB _ from hp); have C15 := Lib.hid (show (fun (W : World) => W.cell? ⟨p, 0, none⟩ = some (.pointer (some ⟨g, 0, none⟩)) ∧ W.cell? ⟨p, 1, none⟩ = some (.pointer (some ⟨vb, 0, none⟩)) ∧ W.cell? ⟨p, 2, none⟩ = some (.pointer (some ⟨r, 0, none⟩))) _ from ⟨hp.cells.1, hp.cells.2.1, hp.cells.2.2⟩); clear hp ho)
            | fail)
          go_upto_region 32 with fail
          have hx15 : Calls Tryz.prog 21 #[.pointer (some ⟨r, 0, none⟩), .int .i64 0] w15 fun e w' => e = .returned (.tuple #[.agg (rfS.f yy).toArray, .bool true]) ∧ Below w15.heap.size w15 w' := by
            have := Q15.out.Get (b := 0) (by decide)
            rw [HYY.out.1, ← HYY.out.2.1] at this
            exact this
          have HG2 := Lib.hid hx15
          obtain ⟨f0, f1, f2⟩ := Q15.out.cells
          clear hx15
          go_upto_region 33 with (first
            | (go_at_call 21; refine HG2.out.mono ?_; rintro e w16 ⟨rfl, hb⟩; have HB16 := Lib.hid hb; clear hb)
            | (refine wpl_allocS (s := rfS) rfl rfl rfl ?_)
            | (refine wpl_storeS (s := rfS) (t := yy) (b := w16.heap.size) _ _ rfl rfl rfl rfl rfl (World.alloc_heap_new w16 _) (zeroS rfS) ?_; rw [newS])
            | fail)
          obtain ⟨yb, hyb⟩ : ∃ yb, yb = w16.heap.size := ⟨_, rfl⟩
          obtain ⟨w17, hw17⟩ : ∃ w17, w17 = w16.alloc (rfS.obj yy) := ⟨_, rfl⟩
          have Q17 := Lib.hid (show Pz p r g vb fT (fqD k j 0) ((yb, rfS.f yy) :: [(nb, balS.f fNay), (ab, balS.f fAye)]) WB w17 by rw [hw17, hyb]; exact (Q15.out.below HB16.out).rf yy)
          rw [← hw17, ← hyb]
          clear hw17 hyb f0 f1 f2 c1 c2
          go_wp2_with fail
          go_loopw [9, 16] (fun nw i wr => ∃ m : Nat, m ≤ 3 ∧ nw = .int .i64 ((nn + m : Nat) : Int) ∧ i = .int .i64 m ∧ Pz p r g vb fT (fqD k j m) ((yb, rfS.f yy) :: [(nb, balS.f fNay), (ab, balS.f fAye)]) WB wr) (fun _ i _ => 3 - (intOf i).toNat)
          case atStart => exact ⟨0, by omega, rfl, rfl, Q17.out⟩
          case round =>
            obtain ⟨m, hm, rfl, rfl, hp⟩ := hrel
            have Q18 := Lib.hid hp
            clear hp
            obtain ⟨nm, hnm⟩ : ∃ nm, nm = nn + m := ⟨_, rfl⟩
            obtain ⟨nq, hnq⟩ : ∃ nq, nq = nm + 1 := ⟨_, rfl⟩
            have hnl : nq ≤ 100 := by have := HNN.out; have := HNW.out; omega
            rw [← hnm]
            have HNM := Lib.hid hnm
            have HNQ := Lib.hid hnq
            have WK : IntKind.i64.wrap ((nm : Int) + 1) = (nq : Int) := by rw [IntWalk.i64_in _ (by omega)]; omega
            by_cases hlt3 : m < 3
            · have c3 : (m : Int) < 3 := by omega
              have HSt := Lib.hid (show srvB fT (fqD k j m) (nq : Int) = true ∧ (fqD k j m).evs fT (nq : Int) = [] ∧ (fqD k j m).srv fT (nq : Int) = fqD k j (m + 1) by rw [hnq, hnm]; exact HSD.out.1 m hlt3)
              have WM : IntKind.i64.wrap ((m : Int) + 1) = ((m + 1 : Nat) : Int) := by rw [IntWalk.i64_in _ (by omega)]; omega
              clear hnm hnq
              go_upto_region 37 with fail
              have HK18 := Lib.hid (fun W (hp : Pz p r g vb fT (fqD k j m) ((yb, rfS.f yy) :: [(nb, balS.f fNay), (ab, balS.f fAye)]) WB W) => hp.Service (now := (nq : Int)) HSt.out.1)
              have D18 := Lib.hid (show (fun (W : World) => W.cell? ⟨p, 0, none⟩ = some (.pointer (some ⟨g, 0, none⟩)) ∧ W.cell? ⟨p, 1, none⟩ = some (.pointer (some ⟨vb, 0, none⟩)) ∧ W.cell? ⟨p, 2, none⟩ = some (.pointer (some ⟨r, 0, none⟩))) _ from ⟨Q18.out.dcells.1, Q18.out.dcells.2.1, Q18.out.dcells.2.2⟩)
              go_region_held3 (fun (W : World) => W.cell? ⟨p, 0, none⟩ = some (.pointer (some ⟨g, 0, none⟩)) ∧ W.cell? ⟨p, 1, none⟩ = some (.pointer (some ⟨vb, 0, none⟩)) ∧ W.cell? ⟨p, 2, none⟩ = some (.pointer (some ⟨r, 0, none⟩))) (first | exact D18.out | exact C19.out) (first
                | (go_at_call 17; (with_reducible refine (HK18.out _ Q18.out.drew).mono ?_); rw [HSt.out.2.2]; rw [HSt.out.2.1]; rintro e w19 ⟨v19, rfl, hp, ho⟩; obtain ⟨ao19, cp19, hv19⟩ := ho.lenOf; replace hv19 : v19 = .slice ao19 0 cp19 := hv19; subst hv19; have Q19 := Lib.hid (show Pz p r g vb fT (fqD k j (m + 1)) ((yb, rfS.f yy) :: [(nb, balS.f fNay), (ab, balS.f fAye)]) WB _ from hp); have C19 := Lib.hid (show (fun (W : World) => W.cell? ⟨p, 0, none⟩ = some (.pointer (some ⟨g, 0, none⟩)) ∧ W.cell? ⟨p, 1, none⟩ = some (.pointer (some ⟨vb, 0, none⟩)) ∧ W.cell? ⟨p, 2, none⟩ = some (.pointer (some ⟨r, 0, none⟩))) _ from ⟨hp.cells.1, hp.cells.2.1, hp.cells.2.2⟩); clear hp ho)
                | fail)
              go_wp2_with fail
              go_roundw
              case rel => exact ⟨m + 1, by omega, by rw [show nn + (m + 1) = nq by have := HNM.out; have := HNQ.out; omega], by first | rfl | exact congrArg _ WM | go_num, Q19.out⟩
              case measure => simp [intOf]; omega
            · obtain rfl : m = 3 := by omega
              have HSt := Lib.hid (show srvB fT (fqD k j 3) (nq : Int) = true ∧ (fqD k j 3).evs fT (nq : Int) = [(1, 0, 2)] ∧ (fqD k j 3).srv fT (nq : Int) = fqD k j 4 by rw [hnq, hnm]; exact HSD.out.2)
              clear hnm hnq
              go_upto_region 40 with fail
              have HK18 := Lib.hid (fun W (hp : Pz p r g vb fT (fqD k j 3) ((yb, rfS.f yy) :: [(nb, balS.f fNay), (ab, balS.f fAye)]) WB W) => hp.Service (now := (nq : Int)) HSt.out.1)
              have D18 := Lib.hid (show (fun (W : World) => W.cell? ⟨p, 0, none⟩ = some (.pointer (some ⟨g, 0, none⟩)) ∧ W.cell? ⟨p, 1, none⟩ = some (.pointer (some ⟨vb, 0, none⟩)) ∧ W.cell? ⟨p, 2, none⟩ = some (.pointer (some ⟨r, 0, none⟩))) _ from ⟨Q18.out.dcells.1, Q18.out.dcells.2.1, Q18.out.dcells.2.2⟩)
              go_region_held3 (fun (W : World) => W.cell? ⟨p, 0, none⟩ = some (.pointer (some ⟨g, 0, none⟩)) ∧ W.cell? ⟨p, 1, none⟩ = some (.pointer (some ⟨vb, 0, none⟩)) ∧ W.cell? ⟨p, 2, none⟩ = some (.pointer (some ⟨r, 0, none⟩))) (first | exact D18.out | exact C19.out) (first
                | (go_at_call 17; (with_reducible refine (HK18.out _ Q18.out.drew).mono ?_); rw [HSt.out.2.2]; rw [HSt.out.2.1]; rintro e w19 ⟨v19, rfl, hp, ho⟩; obtain ⟨b19, cp19, hv19, hr19⟩ := row1 ho; subst hv19; have R19 := Lib.hid hr19; clear hr19; have Q19 := Lib.hid (show Pz p r g vb fT (fqD k j 4) ((yb, rfS.f yy) :: [(nb, balS.f fNay), (ab, balS.f fAye)]) WB _ from hp); have C19 := Lib.hid (show (fun (W : World) => W.cell? ⟨p, 0, none⟩ = some (.pointer (some ⟨g, 0, none⟩)) ∧ W.cell? ⟨p, 1, none⟩ = some (.pointer (some ⟨vb, 0, none⟩)) ∧ W.cell? ⟨p, 2, none⟩ = some (.pointer (some ⟨r, 0, none⟩))) _ from ⟨hp.cells.1, hp.cells.2.1, hp.cells.2.2⟩); clear hp ho)
                | fail)
              go_upto_region 41 with fail
              have hx19 : Calls Tryz.prog 21 #[.pointer (some ⟨r, 0, none⟩), .int .i64 0] w19 fun e w' => e = .returned (.tuple #[.agg (rfS.f zz).toArray, .bool true]) ∧ Below w19.heap.size w19 w' := by
                have := Q19.out.Get (b := 0) (by decide)
                rw [HZZ.out.1, ← HZZ.out.2.1] at this
                exact this
              have HG3 := Lib.hid hx19
              obtain ⟨f0, f1, f2⟩ := Q19.out.cells
              clear hx19
              go_upto_region 42 with (first
                | (go_at_call 21; refine HG3.out.mono ?_; rintro e w20 ⟨rfl, hb⟩; have HB20 := Lib.hid hb; clear hb)
                | (refine wpl_allocS (s := rfS) rfl rfl rfl ?_)
                | (refine wpl_storeS (s := rfS) (t := zz) (b := w20.heap.size) _ _ rfl rfl rfl rfl rfl (World.alloc_heap_new w20 _) (zeroS rfS) ?_; rw [newS])
                | fail)
              obtain ⟨zb, hzb⟩ : ∃ zb, zb = w20.heap.size := ⟨_, rfl⟩
              obtain ⟨w21, hw21⟩ : ∃ w21, w21 = w20.alloc (rfS.obj zz) := ⟨_, rfl⟩
              have Q21 := Lib.hid (show Pz p r g vb fT (fqD k j 4) ((zb, rfS.f zz) :: (yb, rfS.f yy) :: [(nb, balS.f fNay), (ab, balS.f fAye)]) WB w21 by rw [hw21, hzb]; exact (Q19.out.below HB20.out).rf zz)
              rw [← hw21, ← hzb]
              clear hw21 hzb f0 f1 f2
              have tq : w21.cell? ⟨tb, 4, none⟩ = some (.int .i64 4) := by
                have h1 := Q21.out.old.block tb HTB.out.1
                rw [HTB.out.2] at h1
                have := (rangeAt_whole (T := 26) h1) 4 _ rfl
                rwa [Nat.zero_add] at this
              obtain ⟨-, -, -, -, -, -, -, y39, y40, -⟩ := rf_at (show w21.rangeAt yb 0 (rfF yy) from Q21.out.at (l := rfS.f yy) (by simp))
              obtain ⟨z0, -⟩ := rf_at (show w21.rangeAt zb 0 (rfF zz) from Q21.out.at (l := rfS.f zz) (by simp))
              obtain ⟨-, -, h8, h9, h10⟩ := HYY.out
              obtain ⟨si, hsi⟩ : ∃ si, si = yy.si := ⟨_, rfl⟩
              rw [← hsi] at h8 h9 h10 y39
              rw [h8] at y40
              rw [HZZ.out.2.2] at z0
              have hkj : (k : Int) ≤ 3 ∧ (j : Int) ≤ 4 := by omega
              have W1 : IntKind.i64.wrap (si + (k : Int)) = si + (k : Int) := IntWalk.i64_in _ (by omega)
              have W2 : IntKind.i64.wrap (si + (k : Int) + (j : Int)) = si + (k : Int) + (j : Int) := IntWalk.i64_in _ (by omega)
              have W3 : IntKind.i64.wrap (si + (k : Int) + (j : Int) + 4) = si + (k : Int) + (j : Int) + 4 := IntWalk.i64_in _ (by omega)
              clear h8 h9 h10 hsi hkj
              go_wp2_with (first
                | (go_at_call 20; refine (law12_known _).mono ?_; rintro e wk ⟨rfl, hp⟩; have QK := Lib.hid (Q21.out.below hp); clear hp)
                | fail)
              exact bodyPost_ret (v := .bool true) (by simp [results, Tryz.results5, go_sem]) rfl ⟨rfl, H4.out.trans (QK.out.old.mono H4.out.size)⟩
set_option maxRecDepth 100000 in
set_option maxHeartbeats 8000000 in
theorem referFails_walk (a b : Int) (w : World) (wa : (Lit.int .i64 a).wf = true) (wb : (Lit.int .i64 b).wf = true) : Calls Tryz.prog 5 #[.int .i64 a, .int .i64 b] w fun e w' => e = .returned (.bool true) ∧ Below w.heap.size w w' := by
  by_cases hin : (1 ≤ a ∧ a ≤ 3) ∧ 1 ≤ b ∧ b ≤ 4
  · obtain ⟨s, rfl⟩ : ∃ s : Nat, a = s := ⟨a.toNat, by omega⟩
    obtain ⟨q, rfl⟩ : ∃ q : Nat, b = q := ⟨b.toNat, by omega⟩
    exact fails_walk s q w (by omega) (by omega) (by omega) (by omega)
  · have hout : (a < 1) ∨ (¬ a < 1 ∧ a > 3) ∨ (¬ a < 1 ∧ ¬ a > 3 ∧ b < 1) ∨ (¬ a < 1 ∧ ¬ a > 3 ∧ ¬ b < 1 ∧ b > 4) := by omega
    rcases hout with h | ⟨h0, h⟩ | ⟨h0, h1, h⟩ | ⟨h0, h1, h2, h⟩
    all_goals
      go_enter Tryz.func5, Tryz.ntmps5
      go_wp2
      exact bodyPost_ret (v := .bool true) (by simp [results, Tryz.results5, go_sem]) rfl ⟨rfl, Below.refl _ w⟩
end Go.Proofs.YtpkamfbjgdmmoaaGreat
