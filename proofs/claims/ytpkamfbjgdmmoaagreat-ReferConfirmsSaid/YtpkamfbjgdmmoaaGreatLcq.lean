/-
  The law ReferConfirms, walked. Printed by mk12.py.
-/
import Derived.Test.YtpkamfbjgdmmoaaGreatCq1
import Derived.Test.YtpkamfbjgdmmoaaGreatMo
import Derived.BigRegion
import Derived.RegionTactic
import Derived.Deep.RegionHeld3
namespace Go.Proofs.YtpkamfbjgdmmoaaGreat
open Go.RowKit Go.Maps Go.Shelf
set_option linter.unusedVariables false
set_option linter.unusedSimpArgs false

theorem fold_trkT (t : Trk) : List.foldl (fun (cs : Array Value) (x : Value × Nat) => cs.setIfInBounds x.2 x.1) #[.int .i64 0, .int .i64 0, .int .i64 0, .int .i64 0, .int .i64 0, .int .i64 0, .int .i64 0, .int .i64 0, .int .i64 0, .int .i64 0, .int .i64 0, .int .i64 0, .int .i64 0, .int .i64 0, .int .i64 0, .int .i64 0, .int .i64 0, .int .i64 0] (trkR.f t).zipIdx = (trkR.f t).toArray := by kernel_rfl
theorem rowL_set {w : World} {b i : Nat} {v : Value} {L : List Value} {T : TypeId} (h : w.heap[b]? = some (.cells L.toArray T (0, 0))) : (w.setCell ⟨b, i, none⟩ v).heap[b]? = some (.cells (L.set i v).toArray T (0, 0)) := by
  simp [World.setCell, Array.getElem?_modify, h]
theorem bl_set {N b i : Nat} {v : Value} {w w' : World} (h : Below N w w') (hb : N ≤ b) : Below N w (w'.setCell ⟨b, i, none⟩ v) := h.trans ⟨rfl, rfl, rfl, by simp [World.setCell], fun k hk => Below.heap_setCell _ _ _ k (by show k ≠ b; omega)⟩
set_option maxRecDepth 100000 in
set_option maxHeartbeats 8000000 in
theorem conf_walk (pr de co ay na : Int) (w : World) (p0 : 0 ≤ pr) (p1 : pr ≤ 10) (d0 : 1 ≤ de) (d1 : de ≤ 20) (k0 : 0 ≤ co) (k1 : co ≤ 20) (a0 : 0 ≤ ay) (a1 : ay ≤ 1000) (n0 : 0 ≤ na) (n1 : na ≤ 1000) : Calls Tryz.prog 4 #[.int .i64 pr, .int .i64 de, .int .i64 co, .int .i64 ay, .int .i64 na] w fun e w' => e = .returned (.bool true) ∧ Below w.heap.size w w' := by
  have HPL := Lib.hid (law12_plain w)
  have HNB := Lib.hid (newB_c p0 p1 d0 d1 k0 k1)
  have HRI := Lib.hid (cq_rin HNB.out)
  have HAB := Lib.hid (And.intro (And.intro p0 (And.intro p1 (And.intro d0 (And.intro d1 (And.intro k0 k1))))) (And.intro a0 (And.intro a1 (And.intro n0 n1))))
  have g0 : ¬ pr < 0 := by omega
  have g1 : ¬ pr > 10 := by omega
  have g2 : ¬ de < 1 := by omega
  have g3 : ¬ de > 20 := by omega
  have g4 : ¬ co < 0 := by omega
  have g5 : ¬ co > 20 := by omega
  have g6 : ¬ ay < 0 := by omega
  have g7 : ¬ ay > 1000 := by omega
  have g8 : ¬ na < 0 := by omega
  have g9 : ¬ na > 1000 := by omega
  clear p0 p1 d0 d1 k0 k1 a0 a1 n0 n1
  go_enter Tryz.func4, Tryz.ntmps4
  have mixed : Tryz.prog.follows .mixedOrders = true := by kernel_rfl
  go_upto_region 4 with (first
    | (go_at_call 12; refine HPL.out.mono ?_; rintro e w1 ⟨rfl, hb⟩; have H1 := Lib.hid hb; clear hb)
    | (refine wpl_allocR (r := trkR) (ty := 26) rfl rfl rfl ?_; intro C hC)
    | (refine wpl_storeR (r := trkR) (ty := 26) (t := trkP) (C := C) _ _ rfl rfl rfl rfl rfl (World.alloc_heap_new w1 _) hC ?_; rw [World.setRow_alloc_new])
    | fail)
  clear hC C
  obtain ⟨tb, htb⟩ : ∃ tb, tb = w1.heap.size := ⟨_, rfl⟩
  obtain ⟨W3, hW3⟩ : ∃ W3, W3 = w1.alloc (.cells (trkR.f trkP).toArray 26) := ⟨_, rfl⟩
  have x3 : W3.heap[tb]? = some (.cells (trkR.f trkP).toArray 26 (0, 0)) := by rw [hW3, htb]; exact World.alloc_heap_new _ _
  have b3 : Below w.heap.size w W3 := by rw [hW3]; exact H1.out.alloc H1.out.size _
  have htw : w.heap.size ≤ tb := by rw [htb]; exact H1.out.size
  rw [← hW3, ← htb]
  clear hW3 htb
  have ct : ∀ i v, (trkR.f trkP)[i]? = some v → W3.cell? ⟨tb, i, none⟩ = some v ∧ W3.frozen? ⟨tb, i, none⟩ = false := fun i v hi => by
    refine ⟨?_, by rw [World.frozen?, x3]; rfl⟩
    have := (rangeAt_whole (T := 26) x3) i v hi
    rwa [Nat.zero_add] at this
  obtain ⟨t2, f2⟩ := ct 2 _ rfl
  obtain ⟨t3, f3⟩ := ct 3 _ rfl
  obtain ⟨t4, f4⟩ := ct 4 _ rfl
  obtain ⟨t11, f11⟩ := ct 11 _ rfl
  obtain ⟨t12, f12⟩ := ct 12 _ rfl
  obtain ⟨t13, f13⟩ := ct 13 _ rfl
  obtain ⟨t14, f14⟩ := ct 14 _ rfl
  obtain ⟨t15, f15⟩ := ct 15 _ rfl
  have HX := Lib.hid (And.intro x3 (And.intro b3 htw))
  clear x3 b3 htw ct
  go_upto_region 6 with fail
  clear t2 f2 t3 f3 t4 f4 t11 f11 t12 f12 t13 f13 t14 f14 t15 f15
  obtain ⟨W4, hW4⟩ : ∃ W4, W4 = ((((((((W3.setCell ⟨tb, 2, none⟩ (.int .i64 pr)).setCell ⟨tb, 3, none⟩ (.int .i64 de)).setCell ⟨tb, 4, none⟩ (.int .i64 co)).setCell ⟨tb, 11, none⟩ (.int .i64 1)).setCell ⟨tb, 12, none⟩ (.int .i64 10000000)).setCell ⟨tb, 13, none⟩ (.int .i64 10000000)).setCell ⟨tb, 14, none⟩ (.int .i64 1)).setCell ⟨tb, 15, none⟩ (.int .i64 0)) := ⟨_, rfl⟩
  have x4 : W4.heap[tb]? = some (.cells (trkR.f (trkC pr de co)).toArray 26 (0, 0)) := by rw [hW4]; exact rowL_set (rowL_set (rowL_set (rowL_set (rowL_set (rowL_set (rowL_set (rowL_set (HX.out.1))))))))
  have b4 : Below w.heap.size w W4 := by rw [hW4]; exact bl_set (bl_set (bl_set (bl_set (bl_set (bl_set (bl_set (bl_set (HX.out.2.1) HX.out.2.2) HX.out.2.2) HX.out.2.2) HX.out.2.2) HX.out.2.2) HX.out.2.2) HX.out.2.2) HX.out.2.2
  rw [← hW4]
  clear hW4
  obtain ⟨tt, htt⟩ : ∃ tt, tt = (trkC pr de co) := ⟨_, rfl⟩
  have hbg : Calls Tryz.prog 13 #[.slice (some ⟨W4.heap.size, 0, none⟩) 1 1] (W4.alloc (.cells (trkR.f tt).toArray 26)) fun e w' => ∃ p g vb r, e = .returned (.pointer (some ⟨p, 0, none⟩)) ∧ Pq p r g vb (cT pr de co) St12.zero (W4.alloc (.cells (trkR.f tt).toArray 26)) w' := by rw [htt]; exact begin12 HNB.out W4
  have HX4 := Lib.hid x4
  rw [← htt] at x4
  have hr4 := rangeAt_whole (T := 26) x4
  have HR4 := Lib.hid hr4
  have HB := Lib.hid hbg
  have B4 := Lib.hid b4
  clear hr4 hbg htt x4 b4
  have hsz : (trkR.f tt).length = 18 := trkR.len tt
  go_upto_region 9 with (first
    | (refine wpl_loadR (r := trkR) (t := tt) (b := tb) (k := 0) _ rfl rfl rfl HR4.out ?_)
    | (go_at_call 13; rw [fold_trkT]; refine HB.out.mono ?_; rintro e w2 ⟨p, g, vb, r, rfl, hp⟩; have Q2 := Lib.hid hp; clear hp)
    | fail)
  clear hsz
  obtain ⟨WB, hWB⟩ : ∃ WB, WB = W4.alloc (.cells (trkR.f tt).toArray 26) := ⟨_, rfl⟩
  have H4 := Lib.hid (show Below w.heap.size w WB by rw [hWB]; exact B4.out.alloc B4.out.size _)
  have HTB := Lib.hid (show tb < WB.heap.size ∧ WB.heap[tb]? = some (.cells (trkR.f (trkC pr de co)).toArray 26 (0, 0)) by
    have hl := (Array.getElem?_eq_some_iff.1 HX4.out).1
    exact ⟨by rw [hWB, World.size_alloc]; omega, by rw [hWB]; exact (Below.heap_alloc _ _ _ hl).trans HX4.out⟩)
  rw [← hWB] at Q2
  clear hWB
  clear g0 g1 g2 g3 g4 g5 g6 g7 g8 g9
  go_upto_region 9 with fail
  have D2 := Lib.hid Q2.out.dcells
  go_region_held3 (fun W => W.cell? ⟨p, 0, none⟩ = some (.pointer (some ⟨g, 0, none⟩)) ∧ W.cell? ⟨p, 1, none⟩ = some (.pointer (some ⟨vb, 0, none⟩)) ∧ W.cell? ⟨p, 2, none⟩ = some (.pointer (some ⟨r, 0, none⟩))) (first | exact D2.out | exact C3.out) (first
    | (go_at_call 14; refine (Q2.out.drew.Submit HRI.out.1 (a := 1) (by decide) 0 hsh0 0 0).mono ?_; rw [cq_sub]; rintro e w3 ⟨rfl, hp⟩; have Q3 := Lib.hid (show Pq p r g vb (cT pr de co) cq1 _ _ from hp); have C3 := Lib.hid hp.cells; clear hp)
    | fail)
  go_upto_region 10 with fail
  have D3 := Lib.hid Q3.out.dcells
  go_region_held3 (fun W => W.cell? ⟨p, 0, none⟩ = some (.pointer (some ⟨g, 0, none⟩)) ∧ W.cell? ⟨p, 1, none⟩ = some (.pointer (some ⟨vb, 0, none⟩)) ∧ W.cell? ⟨p, 2, none⟩ = some (.pointer (some ⟨r, 0, none⟩))) (first | exact D3.out | exact C4.out) (first
    | (go_at_call 15; refine (Q3.out.drew.Deposit HRI.out.2 (a := 2) (ref := 0) (by decide) (by decide)).mono ?_; rw [cq_dep]; rintro e w4 ⟨rfl, hp⟩; have Q4 := Lib.hid (show Pq p r g vb (cT pr de co) cq2 _ _ from hp); have C4 := Lib.hid hp.cells; clear hp)
    | fail)
  obtain ⟨⟨p0, p1, d0, d1, k0, k1⟩, a0, a1, n0, n1⟩ := HAB.out
  have HV3 := Lib.hid (fun (W : World) (hp : Pq p r g vb (cT pr de co) cq2 WB W) => show Calls Tryz.prog 16 #[.pointer (some ⟨vb, 0, none⟩), .pointer (some ⟨g, 0, none⟩), .int .i64 3, .int .i64 0, .agg #[.int .i64 1, .bool true, .int .i64 1, .int .i64 ay, .int .i64 0, .int .i64 0]] W fun e w' => e = .returned (.int .i64 0) ∧ Pq p r g vb (cT pr de co) ⟨[cx0], cS3 ay, cq2.A, raiseM [] 3 0 ay⟩ WB w' from by
    have := hp.z.Vote (a := 3) (ref := 0) (vinvB_of cq_2.2.2.2.2.2.2.1) (by decide) (by decide) (cAye ay)
    rw [(cq_v3 a0 a1).1, (cq_v3 a0 a1).2] at this
    exact this.mono fun e w' ⟨he, hq⟩ => ⟨he, hq.q⟩)
  have HV4 := Lib.hid (fun (W : World) (hp : Pq p r g vb (cT pr de co) ⟨[cx0], cS3 ay, cq2.A, raiseM [] 3 0 ay⟩ WB W) => show Calls Tryz.prog 16 #[.pointer (some ⟨vb, 0, none⟩), .pointer (some ⟨g, 0, none⟩), .int .i64 4, .int .i64 0, .agg #[.int .i64 1, .bool false, .int .i64 1, .int .i64 na, .int .i64 0, .int .i64 0]] W fun e w' => e = .returned (.int .i64 0) ∧ Pq p r g vb (cT pr de co) ⟨[cx0], cS4 ay na, cq2.A, raiseM (raiseM [] 3 0 ay) 4 0 na⟩ WB w' from by
    have := hp.z.Vote (a := 4) (ref := 0) ⟨cq_vi a0 a1, by have := cq_m (a := ay); show (raiseM [] 3 0 ay).length < 10000; omega⟩ (by decide) (by decide) (cNay na)
    rw [(cq_v4 a0 a1 n0 n1 (raiseM [] 3 0 ay)).1, (cq_v4 a0 a1 n0 n1 (raiseM [] 3 0 ay)).2] at this
    exact this.mono fun e w' ⟨he, hq⟩ => ⟨he, hq.q⟩)
  clear p0 p1 d0 d1 k0 k1 a0 a1 n0 n1
  go_upto_region 11 with fail
  have D4 := Lib.hid Q4.out.dcells
  go_region_held3 (fun W => W.cell? ⟨p, 0, none⟩ = some (.pointer (some ⟨g, 0, none⟩)) ∧ W.cell? ⟨p, 1, none⟩ = some (.pointer (some ⟨vb, 0, none⟩)) ∧ W.cell? ⟨p, 2, none⟩ = some (.pointer (some ⟨r, 0, none⟩))) (first | exact D4.out | exact C5.out) (first
    | (go_at_call 16; (with_reducible refine (HV3.out _ Q4.out.drew).mono ?_); rintro e w5 ⟨rfl, hp⟩; have Q5 := Lib.hid hp; have C5 := Lib.hid hp.cells; clear hp)
    | fail)
  go_upto_region 12 with fail
  have D5 := Lib.hid Q5.out.dcells
  go_region_held3 (fun W => W.cell? ⟨p, 0, none⟩ = some (.pointer (some ⟨g, 0, none⟩)) ∧ W.cell? ⟨p, 1, none⟩ = some (.pointer (some ⟨vb, 0, none⟩)) ∧ W.cell? ⟨p, 2, none⟩ = some (.pointer (some ⟨r, 0, none⟩))) (first | exact D5.out | exact C6.out) (first
    | (go_at_call 16; (with_reducible refine (HV4.out _ Q5.out.drew).mono ?_); rintro e w6 ⟨rfl, hp⟩; have Q6 := Lib.hid hp; have C6 := Lib.hid hp.cells; clear hp)
    | fail)
  go_upto_region 15 with fail
  obtain ⟨q, hq⟩ : ∃ q, q = cQ ay na := ⟨_, rfl⟩
  have HQ := Lib.hid hq
  clear hq
  go_cut [15] (fun v wx => v = .bool q ∧ wx = w6)
  case first =>
    by_cases h1 : na ≤ ay
    · have h1' : ay ≥ na := h1
      by_cases h2 : 100 ≤ ay
      · have h2' : ay ≥ 100 := h2
        have HH := Lib.hid (show q = true by rw [HQ.out]; simp [cQ, h1, h2])
        clear h1 h2
        go_wp2_with fail
        go_meet
        exact ⟨by rw [HH.out], rfl⟩
      · have h2' : ¬ ay ≥ 100 := h2
        have HH := Lib.hid (show q = false by rw [HQ.out]; simp [cQ, h2])
        clear h1 h2
        go_wp2_with fail
        go_meet
        exact ⟨by rw [HH.out], rfl⟩
    · have h1' : ¬ ay ≥ na := h1
      have HH := Lib.hid (show q = false by rw [HQ.out]; simp [cQ, h1])
      clear h1
      go_wp2_with fail
      go_meet
      exact ⟨by rw [HH.out], rfl⟩
  case rest =>
    obtain ⟨rfl, hwx⟩ := hcut
    rw [hwx]
    clear hwx
    obtain ⟨⟨p0, p1, d0, d1, k0, k1⟩, a0, a1, n0, n1⟩ := HAB.out
    obtain ⟨b, hb⟩ : ∃ b, b = max pr 1 := ⟨_, rfl⟩
    have Q7 := Lib.hid (show Pq p r g vb (cT pr de co) (cSt q b de co ay na ((0 : Nat) : Int)) WB w6 by
      rw [show ((0 : Nat) : Int) = 0 from rfl, cSt_0 b de co q (by omega) d0 k0]; exact Q6.out)
    have M1 : max pr 1 = b := hb.symm
    have M2 : (if pr < 1 then (1 : Int) else pr) = b := by rw [hb]; split <;> omega
    obtain ⟨D0, hD0⟩ : ∃ D0, D0 = b + de := ⟨_, rfl⟩
    obtain ⟨E, hE⟩ : ∃ E, E = cEnd q b de co := ⟨_, rfl⟩
    have WD : IntKind.i64.wrap (b + de) = D0 := by rw [hD0]; exact IntWalk.i64_in _ (by omega)
    have hbE : b ≤ E := by rw [hE]; unfold cEnd; split <;> omega
    have HEV := Lib.hid (And.intro hb (And.intro hE hbE))
    have hstp : ∀ k : Nat, k ≤ 60 → srvB (cT pr de co) (cSt q b de co ay na (k : Int)) ((k + 1 : Nat) : Int) = true ∧ (cSt q b de co ay na (k : Int)).srv (cT pr de co) ((k + 1 : Nat) : Int) = (cSt q b de co ay na ((k + 1 : Nat) : Int)) ∧ (cSt q b de co ay na (k : Int)).evs (cT pr de co) ((k + 1 : Nat) : Int) = if ((k + 1 : Nat) : Int) = E then [(1, 0, if q then 2 else 3)] else [] := fun k hk => by
      have h1 := cq_srvB (a := ay) (n := na) (p := pr) (d := de) (c := co) q (b := b) (now := (k : Int)) HNB.out a0 a1 n0 n1 (by omega) (by omega) (by omega) (by omega)
      have h2 := cq_step (a := ay) (n := na) a0 a1 n0 n1 p0 p1 d0 k0 hb (now := (k : Int)) (by omega)
      rw [← HQ.out] at h2
      rw [show ((k + 1 : Nat) : Int) = (k : Int) + 1 by omega, hE]
      exact ⟨h1, h2.1, h2.2⟩
    have HSTP := Lib.hid hstp
    have HW := Lib.hid (show IntKind.i64.wrap (b + co) = b + co from IntWalk.i64_in _ (by omega))
    clear p0 p1 d0 d1 k0 k1 a0 a1 n0 n1 hb hE hbE hstp
    have HD0 := Lib.hid hD0
    clear hD0
    go_wp2_with fail
    go_loopw [16] (fun nw wr => ∃ k : Nat, k ≤ 60 ∧ nw = .int .i64 ((k + 1 : Nat) : Int) ∧ Pq p r g vb (cT pr de co) (cSt q b de co ay na (k : Int)) WB wr) (fun nw _ => 61 - (intOf nw).toNat)
    case atStart => exact ⟨0, by omega, rfl, Q7.out⟩
    case round =>
      obtain ⟨k, hk, rfl, hp⟩ := hrel
      have Q8 := Lib.hid hp
      clear hp
      obtain ⟨nw, hnw⟩ : ∃ nw, nw = k + 1 := ⟨_, rfl⟩
      have hst := HSTP.out k hk
      rw [← hnw] at hst ⊢
      have HNW := Lib.hid hnw
      by_cases hlt : nw ≤ 60
      · have c1 : (nw : Int) ≤ 60 := by omega
        have HSt := Lib.hid hst
        have WK : IntKind.i64.wrap ((nw : Int) + 1) = ((nw + 1 : Nat) : Int) := by rw [IntWalk.i64_in _ (by omega)]; omega
        obtain ⟨xx, hxx⟩ : ∃ xx, xx = cX q b de co ay na (nw : Int) := ⟨_, rfl⟩
        have hget : ∀ W, Pq p r g vb (cT pr de co) (cSt q b de co ay na (nw : Int)) WB W → Calls Tryz.prog 21 #[.pointer (some ⟨r, 0, none⟩), .int .i64 0] W fun e w' => e = .returned (.tuple #[.agg (rfS.f xx).toArray, .bool true]) ∧ Below W.heap.size W w' := fun W hp => by
          have := hp.z.Get (b := 0) (by decide)
          rw [hxx]
          exact this
        have HG := Lib.hid hget
        have xlt := fun (h : (nw : Int) < cEnd q b de co) => cX_lt (a := ay) (n := na) h
        have xge := fun (h : cEnd q b de co ≤ (nw : Int)) => cX_ge (a := ay) (n := na) (by rw [← HEV.out.2.1]; exact HEV.out.2.2) h
        rw [← HEV.out.2.1, ← hxx] at xlt xge
        have HX := Lib.hid (And.intro xlt xge)
        clear hnw hst hget hxx xlt xge hlt
        cases q
        case true =>
          rcases (show (nw : Int) = E ∨ (nw : Int) < E ∨ E < (nw : Int) by omega) with hc | hc | hc
          · have WE : IntKind.i64.wrap (b + co) = E := by rw [HW.out, HEV.out.2.1]; rfl
            have e1 : ((nw : Int) == E) = true := by simp [hc]
            have e2 : ¬ (nw : Int) < E := by omega
            have e3 : (nw : Int) ≥ E := by omega
            have hv : xx.st = 2 ∧ xx.en = E := HX.out.2 (by omega)
            have HVX := Lib.hid hv
            have HE := Lib.hid (show (cSt true b de co ay na (k : Int)).evs (cT pr de co) (nw : Int) = [(1, 0, 2)] from HSt.out.2.2.trans (if_pos hc))
            clear hv hc
            go_upto_region 19 with fail
            have D8 := Lib.hid Q8.out.dcells
            go_region_held3 (fun W => W.cell? ⟨p, 0, none⟩ = some (.pointer (some ⟨g, 0, none⟩)) ∧ W.cell? ⟨p, 1, none⟩ = some (.pointer (some ⟨vb, 0, none⟩)) ∧ W.cell? ⟨p, 2, none⟩ = some (.pointer (some ⟨r, 0, none⟩))) (first | exact D8.out | exact C9.out) (first
              | (go_at_call 17; refine (Q8.out.drew.Service HSt.out.1).mono ?_; rw [HSt.out.2.1]; rw [HE.out]; rintro e w9 ⟨v9, rfl, hp, ho⟩; obtain ⟨b9, cp9, hv9, hr9⟩ := row1 ho; subst hv9; have R9 := Lib.hid hr9; clear hr9; have Q9 := Lib.hid (show Pq p r g vb (cT pr de co) (cSt true b de co ay na (nw : Int)) _ _ from hp); have C9 := Lib.hid hp.cells; clear hp ho)
              | fail)
            go_upto_region 20 with fail
            obtain ⟨f0, f1, f2⟩ := Q9.out.cells
            have HG9 := Lib.hid (HG.out _ Q9.out)
            go_upto_region 21 with (first
              | (go_at_call 21; refine HG9.out.mono ?_; rintro e w10 ⟨rfl, hb⟩; have HB10 := Lib.hid hb; clear hb)
              | (refine wpl_allocS (s := rfS) rfl rfl rfl ?_)
              | (refine wpl_storeS (s := rfS) (t := xx) (b := w10.heap.size) _ _ rfl rfl rfl rfl rfl (World.alloc_heap_new w10 _) (zeroS rfS) ?_; rw [newS])
              | fail)
            obtain ⟨xb, hxb⟩ : ∃ xb, xb = w10.heap.size := ⟨_, rfl⟩
            obtain ⟨w11, hw11⟩ : ∃ w11, w11 = w10.alloc (rfS.obj xx) := ⟨_, rfl⟩
            have Q11 := Lib.hid ((Q9.out.below HB10.out).below (show Below w10.heap.size w10 w11 by rw [hw11]; exact (Below.refl _ w10).alloc (Nat.le_refl _) _))
            have bxx : RfBox w11 xb xx := by rw [hw11, hxb]; exact World.alloc_heap_new _ _
            rw [← hw11, ← hxb]
            obtain ⟨x0, -, -, -, -, -, -, -, -, x41⟩ := rf_at bxx.range
            rw [HVX.out.1] at x0
            rw [HVX.out.2] at x41
            clear hw11 hxb bxx f0 f1 f2
            go_wp2_with fail
            go_roundw
            case rel => exact ⟨nw, by have := HNW.out; omega, by first | rfl | exact congrArg _ WK | go_num, Q11.out⟩
            case measure => simp [intOf]; omega
          · have WE : IntKind.i64.wrap (b + co) = E := by rw [HW.out, HEV.out.2.1]; rfl
            have e1 : ((nw : Int) == E) = false := by simp; omega
            have e2 : (nw : Int) < E := hc
            have e3 : ¬ (nw : Int) ≥ E := by omega
            have hv : xx.st = 1 := HX.out.1 hc
            have HVX := Lib.hid hv
            have HE := Lib.hid (HSt.out.2.2.trans (if_neg (show ¬ (nw : Int) = E by omega)))
            clear hv hc
            go_upto_region 19 with fail
            have D8 := Lib.hid Q8.out.dcells
            go_region_held3 (fun W => W.cell? ⟨p, 0, none⟩ = some (.pointer (some ⟨g, 0, none⟩)) ∧ W.cell? ⟨p, 1, none⟩ = some (.pointer (some ⟨vb, 0, none⟩)) ∧ W.cell? ⟨p, 2, none⟩ = some (.pointer (some ⟨r, 0, none⟩))) (first | exact D8.out | exact C9.out) (first
              | (go_at_call 17; refine (Q8.out.drew.Service HSt.out.1).mono ?_; rw [HSt.out.2.1]; rw [HE.out]; rintro e w9 ⟨v9, rfl, hp, ho⟩; obtain ⟨ao9, cp9, hv9⟩ := ho.lenOf; replace hv9 : v9 = .slice ao9 0 cp9 := hv9; subst hv9; have Q9 := Lib.hid (show Pq p r g vb (cT pr de co) (cSt true b de co ay na (nw : Int)) _ _ from hp); have C9 := Lib.hid hp.cells; clear hp ho)
              | fail)
            go_upto_region 20 with fail
            obtain ⟨f0, f1, f2⟩ := Q9.out.cells
            have HG9 := Lib.hid (HG.out _ Q9.out)
            go_upto_region 21 with (first
              | (go_at_call 21; refine HG9.out.mono ?_; rintro e w10 ⟨rfl, hb⟩; have HB10 := Lib.hid hb; clear hb)
              | (refine wpl_allocS (s := rfS) rfl rfl rfl ?_)
              | (refine wpl_storeS (s := rfS) (t := xx) (b := w10.heap.size) _ _ rfl rfl rfl rfl rfl (World.alloc_heap_new w10 _) (zeroS rfS) ?_; rw [newS])
              | fail)
            obtain ⟨xb, hxb⟩ : ∃ xb, xb = w10.heap.size := ⟨_, rfl⟩
            obtain ⟨w11, hw11⟩ : ∃ w11, w11 = w10.alloc (rfS.obj xx) := ⟨_, rfl⟩
            have Q11 := Lib.hid ((Q9.out.below HB10.out).below (show Below w10.heap.size w10 w11 by rw [hw11]; exact (Below.refl _ w10).alloc (Nat.le_refl _) _))
            have bxx : RfBox w11 xb xx := by rw [hw11, hxb]; exact World.alloc_heap_new _ _
            rw [← hw11, ← hxb]
            obtain ⟨x0, -, -, -, -, -, -, -, -, x41⟩ := rf_at bxx.range
            rw [HVX.out] at x0
            clear hw11 hxb bxx f0 f1 f2
            go_wp2_with fail
            go_roundw
            case rel => exact ⟨nw, by have := HNW.out; omega, by first | rfl | exact congrArg _ WK | go_num, Q11.out⟩
            case measure => simp [intOf]; omega
          · have WE : IntKind.i64.wrap (b + co) = E := by rw [HW.out, HEV.out.2.1]; rfl
            have e1 : ((nw : Int) == E) = false := by simp; omega
            have e2 : ¬ (nw : Int) < E := by omega
            have e3 : (nw : Int) ≥ E := by omega
            have hv : xx.st = 2 ∧ xx.en = E := HX.out.2 (by omega)
            have HVX := Lib.hid hv
            have HE := Lib.hid (HSt.out.2.2.trans (if_neg (show ¬ (nw : Int) = E by omega)))
            clear hv hc
            go_upto_region 19 with fail
            have D8 := Lib.hid Q8.out.dcells
            go_region_held3 (fun W => W.cell? ⟨p, 0, none⟩ = some (.pointer (some ⟨g, 0, none⟩)) ∧ W.cell? ⟨p, 1, none⟩ = some (.pointer (some ⟨vb, 0, none⟩)) ∧ W.cell? ⟨p, 2, none⟩ = some (.pointer (some ⟨r, 0, none⟩))) (first | exact D8.out | exact C9.out) (first
              | (go_at_call 17; refine (Q8.out.drew.Service HSt.out.1).mono ?_; rw [HSt.out.2.1]; rw [HE.out]; rintro e w9 ⟨v9, rfl, hp, ho⟩; obtain ⟨ao9, cp9, hv9⟩ := ho.lenOf; replace hv9 : v9 = .slice ao9 0 cp9 := hv9; subst hv9; have Q9 := Lib.hid (show Pq p r g vb (cT pr de co) (cSt true b de co ay na (nw : Int)) _ _ from hp); have C9 := Lib.hid hp.cells; clear hp ho)
              | fail)
            go_upto_region 20 with fail
            obtain ⟨f0, f1, f2⟩ := Q9.out.cells
            have HG9 := Lib.hid (HG.out _ Q9.out)
            go_upto_region 21 with (first
              | (go_at_call 21; refine HG9.out.mono ?_; rintro e w10 ⟨rfl, hb⟩; have HB10 := Lib.hid hb; clear hb)
              | (refine wpl_allocS (s := rfS) rfl rfl rfl ?_)
              | (refine wpl_storeS (s := rfS) (t := xx) (b := w10.heap.size) _ _ rfl rfl rfl rfl rfl (World.alloc_heap_new w10 _) (zeroS rfS) ?_; rw [newS])
              | fail)
            obtain ⟨xb, hxb⟩ : ∃ xb, xb = w10.heap.size := ⟨_, rfl⟩
            obtain ⟨w11, hw11⟩ : ∃ w11, w11 = w10.alloc (rfS.obj xx) := ⟨_, rfl⟩
            have Q11 := Lib.hid ((Q9.out.below HB10.out).below (show Below w10.heap.size w10 w11 by rw [hw11]; exact (Below.refl _ w10).alloc (Nat.le_refl _) _))
            have bxx : RfBox w11 xb xx := by rw [hw11, hxb]; exact World.alloc_heap_new _ _
            rw [← hw11, ← hxb]
            obtain ⟨x0, -, -, -, -, -, -, -, -, x41⟩ := rf_at bxx.range
            rw [HVX.out.1] at x0
            rw [HVX.out.2] at x41
            clear hw11 hxb bxx f0 f1 f2
            go_wp2_with fail
            go_roundw
            case rel => exact ⟨nw, by have := HNW.out; omega, by first | rfl | exact congrArg _ WK | go_num, Q11.out⟩
            case measure => simp [intOf]; omega
        case false =>
          rcases (show (nw : Int) = E ∨ (nw : Int) < E ∨ E < (nw : Int) by omega) with hc | hc | hc
          · have EE : D0 = E := by rw [HEV.out.2.1, HD0.out]; rfl
            rw [EE] at WD
            clear EE
            have e1 : ((nw : Int) == E) = true := by simp [hc]
            have e2 : ¬ (nw : Int) < E := by omega
            have e3 : (nw : Int) ≥ E := by omega
            have hv : xx.st = 3 ∧ xx.en = E := HX.out.2 (by omega)
            have HVX := Lib.hid hv
            have HE := Lib.hid (show (cSt false b de co ay na (k : Int)).evs (cT pr de co) (nw : Int) = [(1, 0, 3)] from HSt.out.2.2.trans (if_pos hc))
            clear hv hc
            go_upto_region 19 with fail
            have D8 := Lib.hid Q8.out.dcells
            go_region_held3 (fun W => W.cell? ⟨p, 0, none⟩ = some (.pointer (some ⟨g, 0, none⟩)) ∧ W.cell? ⟨p, 1, none⟩ = some (.pointer (some ⟨vb, 0, none⟩)) ∧ W.cell? ⟨p, 2, none⟩ = some (.pointer (some ⟨r, 0, none⟩))) (first | exact D8.out | exact C9.out) (first
              | (go_at_call 17; refine (Q8.out.drew.Service HSt.out.1).mono ?_; rw [HSt.out.2.1]; rw [HE.out]; rintro e w9 ⟨v9, rfl, hp, ho⟩; obtain ⟨b9, cp9, hv9, hr9⟩ := row1 ho; subst hv9; have R9 := Lib.hid hr9; clear hr9; have Q9 := Lib.hid (show Pq p r g vb (cT pr de co) (cSt false b de co ay na (nw : Int)) _ _ from hp); have C9 := Lib.hid hp.cells; clear hp ho)
              | fail)
            go_upto_region 20 with fail
            obtain ⟨f0, f1, f2⟩ := Q9.out.cells
            have HG9 := Lib.hid (HG.out _ Q9.out)
            go_upto_region 21 with (first
              | (go_at_call 21; refine HG9.out.mono ?_; rintro e w10 ⟨rfl, hb⟩; have HB10 := Lib.hid hb; clear hb)
              | (refine wpl_allocS (s := rfS) rfl rfl rfl ?_)
              | (refine wpl_storeS (s := rfS) (t := xx) (b := w10.heap.size) _ _ rfl rfl rfl rfl rfl (World.alloc_heap_new w10 _) (zeroS rfS) ?_; rw [newS])
              | fail)
            obtain ⟨xb, hxb⟩ : ∃ xb, xb = w10.heap.size := ⟨_, rfl⟩
            obtain ⟨w11, hw11⟩ : ∃ w11, w11 = w10.alloc (rfS.obj xx) := ⟨_, rfl⟩
            have Q11 := Lib.hid ((Q9.out.below HB10.out).below (show Below w10.heap.size w10 w11 by rw [hw11]; exact (Below.refl _ w10).alloc (Nat.le_refl _) _))
            have bxx : RfBox w11 xb xx := by rw [hw11, hxb]; exact World.alloc_heap_new _ _
            rw [← hw11, ← hxb]
            obtain ⟨x0, -, -, -, -, -, -, -, -, x41⟩ := rf_at bxx.range
            rw [HVX.out.1] at x0
            rw [HVX.out.2] at x41
            clear hw11 hxb bxx f0 f1 f2
            go_wp2_with fail
            go_roundw
            case rel => exact ⟨nw, by have := HNW.out; omega, by first | rfl | exact congrArg _ WK | go_num, Q11.out⟩
            case measure => simp [intOf]; omega
          · have EE : D0 = E := by rw [HEV.out.2.1, HD0.out]; rfl
            rw [EE] at WD
            clear EE
            have e1 : ((nw : Int) == E) = false := by simp; omega
            have e2 : (nw : Int) < E := hc
            have e3 : ¬ (nw : Int) ≥ E := by omega
            have hv : xx.st = 1 := HX.out.1 hc
            have HVX := Lib.hid hv
            have HE := Lib.hid (HSt.out.2.2.trans (if_neg (show ¬ (nw : Int) = E by omega)))
            clear hv hc
            go_upto_region 19 with fail
            have D8 := Lib.hid Q8.out.dcells
            go_region_held3 (fun W => W.cell? ⟨p, 0, none⟩ = some (.pointer (some ⟨g, 0, none⟩)) ∧ W.cell? ⟨p, 1, none⟩ = some (.pointer (some ⟨vb, 0, none⟩)) ∧ W.cell? ⟨p, 2, none⟩ = some (.pointer (some ⟨r, 0, none⟩))) (first | exact D8.out | exact C9.out) (first
              | (go_at_call 17; refine (Q8.out.drew.Service HSt.out.1).mono ?_; rw [HSt.out.2.1]; rw [HE.out]; rintro e w9 ⟨v9, rfl, hp, ho⟩; obtain ⟨ao9, cp9, hv9⟩ := ho.lenOf; replace hv9 : v9 = .slice ao9 0 cp9 := hv9; subst hv9; have Q9 := Lib.hid (show Pq p r g vb (cT pr de co) (cSt false b de co ay na (nw : Int)) _ _ from hp); have C9 := Lib.hid hp.cells; clear hp ho)
              | fail)
            go_upto_region 20 with fail
            obtain ⟨f0, f1, f2⟩ := Q9.out.cells
            have HG9 := Lib.hid (HG.out _ Q9.out)
            go_upto_region 21 with (first
              | (go_at_call 21; refine HG9.out.mono ?_; rintro e w10 ⟨rfl, hb⟩; have HB10 := Lib.hid hb; clear hb)
              | (refine wpl_allocS (s := rfS) rfl rfl rfl ?_)
              | (refine wpl_storeS (s := rfS) (t := xx) (b := w10.heap.size) _ _ rfl rfl rfl rfl rfl (World.alloc_heap_new w10 _) (zeroS rfS) ?_; rw [newS])
              | fail)
            obtain ⟨xb, hxb⟩ : ∃ xb, xb = w10.heap.size := ⟨_, rfl⟩
            obtain ⟨w11, hw11⟩ : ∃ w11, w11 = w10.alloc (rfS.obj xx) := ⟨_, rfl⟩
            have Q11 := Lib.hid ((Q9.out.below HB10.out).below (show Below w10.heap.size w10 w11 by rw [hw11]; exact (Below.refl _ w10).alloc (Nat.le_refl _) _))
            have bxx : RfBox w11 xb xx := by rw [hw11, hxb]; exact World.alloc_heap_new _ _
            rw [← hw11, ← hxb]
            obtain ⟨x0, -, -, -, -, -, -, -, -, x41⟩ := rf_at bxx.range
            rw [HVX.out] at x0
            clear hw11 hxb bxx f0 f1 f2
            go_wp2_with fail
            go_roundw
            case rel => exact ⟨nw, by have := HNW.out; omega, by first | rfl | exact congrArg _ WK | go_num, Q11.out⟩
            case measure => simp [intOf]; omega
          · have EE : D0 = E := by rw [HEV.out.2.1, HD0.out]; rfl
            rw [EE] at WD
            clear EE
            have e1 : ((nw : Int) == E) = false := by simp; omega
            have e2 : ¬ (nw : Int) < E := by omega
            have e3 : (nw : Int) ≥ E := by omega
            have hv : xx.st = 3 ∧ xx.en = E := HX.out.2 (by omega)
            have HVX := Lib.hid hv
            have HE := Lib.hid (HSt.out.2.2.trans (if_neg (show ¬ (nw : Int) = E by omega)))
            clear hv hc
            go_upto_region 19 with fail
            have D8 := Lib.hid Q8.out.dcells
            go_region_held3 (fun W => W.cell? ⟨p, 0, none⟩ = some (.pointer (some ⟨g, 0, none⟩)) ∧ W.cell? ⟨p, 1, none⟩ = some (.pointer (some ⟨vb, 0, none⟩)) ∧ W.cell? ⟨p, 2, none⟩ = some (.pointer (some ⟨r, 0, none⟩))) (first | exact D8.out | exact C9.out) (first
              | (go_at_call 17; refine (Q8.out.drew.Service HSt.out.1).mono ?_; rw [HSt.out.2.1]; rw [HE.out]; rintro e w9 ⟨v9, rfl, hp, ho⟩; obtain ⟨ao9, cp9, hv9⟩ := ho.lenOf; replace hv9 : v9 = .slice ao9 0 cp9 := hv9; subst hv9; have Q9 := Lib.hid (show Pq p r g vb (cT pr de co) (cSt false b de co ay na (nw : Int)) _ _ from hp); have C9 := Lib.hid hp.cells; clear hp ho)
              | fail)
            go_upto_region 20 with fail
            obtain ⟨f0, f1, f2⟩ := Q9.out.cells
            have HG9 := Lib.hid (HG.out _ Q9.out)
            go_upto_region 21 with (first
              | (go_at_call 21; refine HG9.out.mono ?_; rintro e w10 ⟨rfl, hb⟩; have HB10 := Lib.hid hb; clear hb)
              | (refine wpl_allocS (s := rfS) rfl rfl rfl ?_)
              | (refine wpl_storeS (s := rfS) (t := xx) (b := w10.heap.size) _ _ rfl rfl rfl rfl rfl (World.alloc_heap_new w10 _) (zeroS rfS) ?_; rw [newS])
              | fail)
            obtain ⟨xb, hxb⟩ : ∃ xb, xb = w10.heap.size := ⟨_, rfl⟩
            obtain ⟨w11, hw11⟩ : ∃ w11, w11 = w10.alloc (rfS.obj xx) := ⟨_, rfl⟩
            have Q11 := Lib.hid ((Q9.out.below HB10.out).below (show Below w10.heap.size w10 w11 by rw [hw11]; exact (Below.refl _ w10).alloc (Nat.le_refl _) _))
            have bxx : RfBox w11 xb xx := by rw [hw11, hxb]; exact World.alloc_heap_new _ _
            rw [← hw11, ← hxb]
            obtain ⟨x0, -, -, -, -, -, -, -, -, x41⟩ := rf_at bxx.range
            rw [HVX.out.1] at x0
            rw [HVX.out.2] at x41
            clear hw11 hxb bxx f0 f1 f2
            go_wp2_with fail
            go_roundw
            case rel => exact ⟨nw, by have := HNW.out; omega, by first | rfl | exact congrArg _ WK | go_num, Q11.out⟩
            case measure => simp [intOf]; omega
      · have c1 : ¬ (nw : Int) ≤ 60 := by omega
        clear hst hnw
        go_wp2_with (first
          | (go_at_call 20; refine (law12_known _).mono ?_; rintro e wk ⟨rfl, hp⟩; have QK := Lib.hid (Q8.out.below hp); clear hp)
          | fail)
        exact bodyPost_ret (v := .bool true) (by simp [results, Tryz.results4, go_sem]) rfl ⟨rfl, H4.out.trans (QK.out.old.mono H4.out.size)⟩
end Go.Proofs.YtpkamfbjgdmmoaaGreat
