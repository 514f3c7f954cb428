/-
  The law ReferTimes, walked. Printed by mk12.py.
-/
import Derived.Test.YtpkamfbjgdmmoaaGreatTq1
import Derived.BigRegion
import Derived.RegionTactic
import Derived.Deep.RegionHeld3
namespace Go.Proofs.YtpkamfbjgdmmoaaGreat
open Go.RowKit Go.Maps Go.Shelf
set_option linter.unusedVariables false
set_option linter.unusedSimpArgs false

theorem fold_trkT (t : Trk) : List.foldl (fun (cs : Array Value) (x : Value × Nat) => cs.setIfInBounds x.2 x.1) #[.int .i64 0, .int .i64 0, .int .i64 0, .int .i64 0, .int .i64 0, .int .i64 0, .int .i64 0, .int .i64 0, .int .i64 0, .int .i64 0, .int .i64 0, .int .i64 0, .int .i64 0, .int .i64 0, .int .i64 0, .int .i64 0, .int .i64 0, .int .i64 0] (trkR.f t).zipIdx = (trkR.f t).toArray := by kernel_rfl
theorem rowL_set {w : World} {b i : Nat} {v : Value} {L : List Value} {T : TypeId} (h : w.heap[b]? = some (.cells L.toArray T (0, 0))) : (w.setCell ⟨b, i, none⟩ v).heap[b]? = some (.cells (L.set i v).toArray T (0, 0)) := by
  simp [World.setCell, Array.getElem?_modify, h]
theorem bl_set {N b i : Nat} {v : Value} {w w' : World} (h : Below N w w') (hb : N ≤ b) : Below N w (w'.setCell ⟨b, i, none⟩ v) := h.trans ⟨rfl, rfl, rfl, by simp [World.setCell], fun k hk => Below.heap_setCell _ _ _ k (by show k ≠ b; omega)⟩
set_option maxRecDepth 100000 in
set_option maxHeartbeats 8000000 in
theorem tq_walk_true (l : Nat) (w : World) (hl : l ≤ 40) : Calls Tryz.prog 9 #[.bool true, .int .i64 l] w fun e w' => e = .returned (.bool true) ∧ Below w.heap.size w w' := by
  have HPL := Lib.hid (law12_plain w)
  have g1 : ¬ (l : Int) < 0 := by omega
  have g2 : ¬ (l : Int) > 40 := by omega
  have W2L : IntKind.i64.wrap (2 + (l : Int)) = 2 + (l : Int) := IntWalk.i64_in _ (by omega)
  have W3L : IntKind.i64.wrap (3 + (l : Int)) = 3 + (l : Int) := IntWalk.i64_in _ (by omega)
  have W32 : IntKind.i64.wrap (2 + (l : Int) + 30) = 2 + (l : Int) + 30 := IntWalk.i64_in _ (by omega)
  go_enter Tryz.func9, Tryz.ntmps9
  have mixed : Tryz.prog.follows .mixedOrders = true := by kernel_rfl
  go_upto_region 4 with (first
    | (go_at_call 12; refine HPL.out.mono ?_; rintro e w1 ⟨rfl, hb⟩; have H1 := Lib.hid hb; clear hb)
    | (refine wpl_allocR (r := trkR) (ty := 26) rfl rfl rfl ?_; intro C hC)
    | (refine wpl_storeR (r := trkR) (ty := 26) (t := trkP) (C := C) _ _ rfl rfl rfl rfl rfl (World.alloc_heap_new w1 _) hC ?_; rw [World.setRow_alloc_new])
    | fail)
  clear hC C
  obtain ⟨tb, htb⟩ : ∃ tb, tb = w1.heap.size := ⟨_, rfl⟩
  obtain ⟨W3, hW3⟩ : ∃ W3, W3 = w1.alloc (.cells (trkR.f trkP).toArray 26) := ⟨_, rfl⟩
  have x3 : W3.heap[tb]? = some (.cells (trkR.f trkP).toArray 26 (0, 0)) := by rw [hW3, htb]; exact World.alloc_heap_new _ _
  have b3 : Below w.heap.size w W3 := by rw [hW3]; exact H1.out.alloc H1.out.size _
  have htw : w.heap.size ≤ tb := by rw [htb]; exact H1.out.size
  rw [← hW3, ← htb]
  clear hW3 htb
  have ct : ∀ i v, (trkR.f trkP)[i]? = some v → W3.cell? ⟨tb, i, none⟩ = some v ∧ W3.frozen? ⟨tb, i, none⟩ = false := fun i v hi => by
    refine ⟨?_, by rw [World.frozen?, x3]; rfl⟩
    have := (rangeAt_whole (T := 26) x3) i v hi
    rwa [Nat.zero_add] at this
  obtain ⟨t3, f3⟩ := ct 3 _ rfl
  obtain ⟨t11, f11⟩ := ct 11 _ rfl
  obtain ⟨t12, f12⟩ := ct 12 _ rfl
  obtain ⟨t13, f13⟩ := ct 13 _ rfl
  obtain ⟨t14, f14⟩ := ct 14 _ rfl
  obtain ⟨t15, f15⟩ := ct 15 _ rfl
  have HX := Lib.hid (And.intro x3 (And.intro b3 htw))
  clear x3 b3 htw ct
  go_upto_region 5 with fail
  clear t3 t11 t12 t13 t14 t15 f3 f11 f12 f13 f14 f15
  obtain ⟨W4, hW4⟩ : ∃ W4, W4 = ((((((W3.setCell ⟨tb, 3, none⟩ (.int .i64 100)).setCell ⟨tb, 11, none⟩ (.int .i64 1)).setCell ⟨tb, 12, none⟩ (.int .i64 1000000000)).setCell ⟨tb, 13, none⟩ (.int .i64 1000000000)).setCell ⟨tb, 14, none⟩ (.int .i64 1)).setCell ⟨tb, 15, none⟩ (.int .i64 0)) := ⟨_, rfl⟩
  have x4 : W4.heap[tb]? = some (.cells (trkR.f trkT).toArray 26 (0, 0)) := by rw [hW4]; exact rowL_set (rowL_set (rowL_set (rowL_set (rowL_set (rowL_set HX.out.1)))))
  have b4 : Below w.heap.size w W4 := by rw [hW4]; exact bl_set (bl_set (bl_set (bl_set (bl_set (bl_set HX.out.2.1 HX.out.2.2) HX.out.2.2) HX.out.2.2) HX.out.2.2) HX.out.2.2) HX.out.2.2
  rw [← hW4]
  clear hW4
  obtain ⟨tt, htt⟩ : ∃ tt, tt = trkT := ⟨_, rfl⟩
  have hbg : Calls Tryz.prog 13 #[.slice (some ⟨W4.heap.size, 0, none⟩) 1 1] (W4.alloc (.cells (trkR.f tt).toArray 26)) fun e w' => ∃ p g vb r, e = .returned (.pointer (some ⟨p, 0, none⟩)) ∧ Pq p r g vb tT St12.zero (W4.alloc (.cells (trkR.f tt).toArray 26)) w' := by rw [htt]; exact begin12 tq_pre.1 W4
  rw [← htt] at x4
  have hr4 := rangeAt_whole (T := 26) x4
  have HR4 := Lib.hid hr4
  have HB := Lib.hid hbg
  have B4 := Lib.hid b4
  clear hr4 hbg htt x4 b4
  have hsz : (trkR.f tt).length = 18 := trkR.len tt
  go_upto_region 8 with (first
    | (refine wpl_loadR (r := trkR) (t := tt) (b := tb) (k := 0) _ rfl rfl rfl HR4.out ?_)
    | (go_at_call 13; rw [fold_trkT]; refine HB.out.mono ?_; rintro e w2 ⟨p, g, vb, r, rfl, hp⟩; have Q2 := Lib.hid hp; clear hp)
    | fail)
  clear hsz
  obtain ⟨WB, hWB⟩ : ∃ WB, WB = W4.alloc (.cells (trkR.f tt).toArray 26) := ⟨_, rfl⟩
  have H4 := Lib.hid (show Below w.heap.size w WB by rw [hWB]; exact B4.out.alloc B4.out.size _)
  rw [← hWB] at Q2
  clear hWB
  go_upto_region 8 with fail
  have D2 := Lib.hid Q2.out.dcells
  go_region_held3 (fun W => W.cell? ⟨p, 0, none⟩ = some (.pointer (some ⟨g, 0, none⟩)) ∧ W.cell? ⟨p, 1, none⟩ = some (.pointer (some ⟨vb, 0, none⟩)) ∧ W.cell? ⟨p, 2, none⟩ = some (.pointer (some ⟨r, 0, none⟩))) (first | exact D2.out | exact C3.out) (first
    | (go_at_call 14; refine (Q2.out.drew.Submit tq_pre.2.1 (by decide) 0 hsh0 0 0).mono ?_; rintro e w3 ⟨rfl, hp⟩; have Q3 := Lib.hid (show Pq p r g vb tT (St12.zero.sub tT 1 0 hsh0 0 0) _ _ from hp); have C3 := Lib.hid hp.cells; clear hp)
    | fail)
  go_upto_region 9 with fail
  have D3 := Lib.hid Q3.out.dcells
  go_region_held3 (fun W => W.cell? ⟨p, 0, none⟩ = some (.pointer (some ⟨g, 0, none⟩)) ∧ W.cell? ⟨p, 1, none⟩ = some (.pointer (some ⟨vb, 0, none⟩)) ∧ W.cell? ⟨p, 2, none⟩ = some (.pointer (some ⟨r, 0, none⟩))) (first | exact D3.out | exact C4.out) (first
    | (go_at_call 15; refine (Q3.out.drew.Deposit tq_pre.2.2.1 (by decide) (by decide)).mono ?_; rintro e w4 ⟨rfl, hp⟩; have Q4 := Lib.hid (show Pq p r g vb tT tq1 _ _ from hp); have C4 := Lib.hid hp.cells; clear hp)
    | fail)
  clear g1 g2
  go_wp2_with fail
  go_loopw [7] (fun i wr => ∃ k : Nat, k ≤ 2 + l ∧ i = .int .i64 ((k + 1 : Nat) : Int) ∧ Pq p r g vb tT (tqA k) WB wr) (fun i _ => 3 + l - (intOf i).toNat)
  case atStart => exact ⟨0, by omega, rfl, Q4.out⟩
  case round =>
    obtain ⟨k, hk, rfl, hp⟩ := hrel
    have Q5 := Lib.hid hp
    clear hp
    by_cases hlt : k < 2 + l
    · have c1 : ((k + 1 : Nat) : Int) ≤ 2 + (l : Int) := by omega
      have HSt := Lib.hid (tqA_step (k := k) (by omega))
      have WK : IntKind.i64.wrap (((k + 1 : Nat) : Int) + 1) = ((k + 1 + 1 : Nat) : Int) := by rw [IntWalk.i64_in _ (by omega)]; omega
      go_upto_region 13 with fail
      have D5 := Lib.hid Q5.out.dcells
      go_region_held3 (fun W => W.cell? ⟨p, 0, none⟩ = some (.pointer (some ⟨g, 0, none⟩)) ∧ W.cell? ⟨p, 1, none⟩ = some (.pointer (some ⟨vb, 0, none⟩)) ∧ W.cell? ⟨p, 2, none⟩ = some (.pointer (some ⟨r, 0, none⟩))) (first | exact D5.out | exact C6.out) (first
        | (go_at_call 17; refine (Q5.out.drew.Service HSt.out.1).mono ?_; rw [HSt.out.2]; rintro e w6 ⟨v6, rfl, hp, ho⟩; skip; have Q6 := Lib.hid (show Pq p r g vb tT (tqA (k + 1)) _ _ from hp); have C6 := Lib.hid hp.cells; clear hp ho)
        | fail)
      go_wp2_with fail
      go_roundw
      case rel => exact ⟨k + 1, by omega, by first | rfl | exact congrArg _ WK | go_num, Q6.out⟩
      case measure => simp [intOf]; omega
    · have hk2 : k = 2 + l := by omega
      subst hk2
      have c1 : ¬ ((2 + l + 1 : Nat) : Int) ≤ 2 + (l : Int) := by omega
      have ha : tqA (2 + l) = tq2 := by unfold tqA; rw [if_neg (by omega)]
      rw [ha] at Q5
      have HS := Lib.hid (show tq2.sub tT 2 0 hsh0 0 (2 + (l : Int)) = tqS l by unfold tqS; rw [show ((2 + l : Nat) : Int) = 2 + (l : Int) from by omega])
      have HE := Lib.hid (tq_end l hl true (by simp))
      clear ha
      go_upto_region 14 with fail
      have D5 := Lib.hid Q5.out.dcells
      go_region_held3 (fun W => W.cell? ⟨p, 0, none⟩ = some (.pointer (some ⟨g, 0, none⟩)) ∧ W.cell? ⟨p, 1, none⟩ = some (.pointer (some ⟨vb, 0, none⟩)) ∧ W.cell? ⟨p, 2, none⟩ = some (.pointer (some ⟨r, 0, none⟩))) (first | exact D5.out | exact C6.out) (first
        | (go_at_call 14; refine (Q5.out.drew.Submit tq_pre.2.2.2.2.2.2.2 (by decide) 0 hsh0 0 (2 + (l : Int))).mono ?_; rw [HS.out]; rintro e w6 ⟨rfl, hp⟩; have Q6 := Lib.hid (show Pq p r g vb tT (tqS l) _ _ from hp); have C6 := Lib.hid hp.cells; clear hp)
        | fail)
      go_upto_region 16 with fail
      have D6 := Lib.hid Q6.out.dcells
      go_region_held3 (fun W => W.cell? ⟨p, 0, none⟩ = some (.pointer (some ⟨g, 0, none⟩)) ∧ W.cell? ⟨p, 1, none⟩ = some (.pointer (some ⟨vb, 0, none⟩)) ∧ W.cell? ⟨p, 2, none⟩ = some (.pointer (some ⟨r, 0, none⟩))) (first | exact D6.out | exact C7.out) (first
        | (go_at_call 15; refine (Q6.out.drew.Deposit HE.out.1 (by decide) (by decide)).mono ?_; rintro e w7 ⟨rfl, hp⟩; have Q7 := Lib.hid (show Pq p r g vb tT (tqB l true) _ _ from hp); have C7 := Lib.hid hp.cells; clear hp)
        | fail)
      clear c1
      go_wp2_with fail
      go_loopw [8, 9] (fun e i wr => ∃ j : Nat, j ≤ 78 - l ∧ e = .int .i64 (if j ≤ 29 then 0 else 1) ∧ i = .int .i64 ((3 + l + j : Nat) : Int) ∧ Pq p r g vb tT (tqC l true j) WB wr) (fun _ i _ => 81 - (intOf i).toNat)
      case atStart => exact ⟨0, by omega, rfl, by first | rfl | (congr 1; omega), Q7.out⟩
      case round =>
        obtain ⟨j, hj, rfl, rfl, hp⟩ := hrel
        have Q8 := Lib.hid hp
        clear hp
        have hst := fun h => tqC_step (l := l) (j := j) true hl h
        obtain ⟨nw, hnw⟩ : ∃ nw, nw = 3 + l + j := ⟨_, rfl⟩
        rw [← hnw] at hst ⊢
        by_cases hlt : j < 78 - l
        · have c1 : (nw : Int) ≤ 80 := by omega
          have HSt := Lib.hid (hst hlt)
          have WK : IntKind.i64.wrap ((nw : Int) + 1) = ((3 + l + (j + 1) : Nat) : Int) := by rw [IntWalk.i64_in _ (by omega)]; omega
          obtain ⟨ed, hed⟩ : ∃ ed : Int, ed = (if j ≤ 29 then 0 else 1) := ⟨_, rfl⟩
          rw [← hed]
          by_cases c : j = 29
          · have c2 : (nw : Int) = 2 + (l : Int) + 30 := by omega
            have HEV := Lib.hid (HSt.out.2.2.trans (if_pos c))
            have HN := Lib.hid (And.intro hnw (And.intro c (And.intro c2 hed)))
            clear hnw hed hst c c2
            go_upto_region 21 with fail
            have D8 := Lib.hid Q8.out.dcells
            go_region_held3 (fun W => W.cell? ⟨p, 0, none⟩ = some (.pointer (some ⟨g, 0, none⟩)) ∧ W.cell? ⟨p, 1, none⟩ = some (.pointer (some ⟨vb, 0, none⟩)) ∧ W.cell? ⟨p, 2, none⟩ = some (.pointer (some ⟨r, 0, none⟩))) (first | exact D8.out | exact C9.out) (first
              | (go_at_call 17; refine (Q8.out.drew.Service HSt.out.1).mono ?_; rw [HSt.out.2.1]; rw [HEV.out]; rintro e w9 ⟨v9, rfl, hp, ho⟩; obtain ⟨b9, cp9, hv9, hr9⟩ := row1 ho; subst hv9; have R9 := Lib.hid hr9; clear hr9; have Q9 := Lib.hid (show Pq p r g vb tT (tqC l true (j + 1)) _ _ from hp); have C9 := Lib.hid hp.cells; clear hp ho)
              | fail)
            obtain ⟨k3, k4, k5⟩ := R9.out
            have WE : IntKind.i64.wrap (ed + 1) = ed + 1 := IntWalk.i64_in _ (by obtain ⟨-, -, -, he⟩ := HN.out; rw [he]; split <;> omega)
            obtain ⟨-, -, c2, -⟩ := HN.out
            have c3 : ((nw : Int) != 2 + (l : Int) + 30) = false := by simp [c2]
            clear c2
            go_upto_region 22 with fail
            obtain ⟨W9, hW9⟩ : ∃ W9, W9 = w9 := ⟨_, rfl⟩
            have HN9 := Lib.hid hW9
            clear hW9
            go_wp2_with fail
            go_loopw [8, 11] (fun e i wr => ∃ q : Nat, q ≤ 1 ∧ i = .int .i64 q ∧ e = .int .i64 (ed + q) ∧ wr = w9) (fun _ i _ => 1 - (intOf i).toNat)
            case atStart => exact ⟨0, by omega, rfl, by simp, rfl⟩
            case round =>
              obtain ⟨q, hq, rfl, rfl, rfl⟩ := hrel
              by_cases hq1 : q = 0
              · subst hq1
                go_wp2_with fail
                go_roundw
                case rel => exact ⟨1, by omega, by go_num, by go_num, by first | rfl | trivial⟩
                case measure => simp [intOf]
              · obtain rfl : q = 1 := by omega
                go_wp2_with fail
                go_roundw
                case rel => exact ⟨j + 1, by omega, by obtain ⟨-, c, -, he⟩ := HN.out; rw [he]; simp [c], by first | exact congrArg _ WK | go_num, Q9.out⟩
                case measure => obtain ⟨hnw, -⟩ := HN.out; simp [intOf]; omega
          · have HEV := Lib.hid (HSt.out.2.2.trans (if_neg c))
            have HN := Lib.hid (And.intro hnw (And.intro c hed))
            clear hnw hed hst c
            go_upto_region 21 with fail
            have D8 := Lib.hid Q8.out.dcells
            go_region_held3 (fun W => W.cell? ⟨p, 0, none⟩ = some (.pointer (some ⟨g, 0, none⟩)) ∧ W.cell? ⟨p, 1, none⟩ = some (.pointer (some ⟨vb, 0, none⟩)) ∧ W.cell? ⟨p, 2, none⟩ = some (.pointer (some ⟨r, 0, none⟩))) (first | exact D8.out | exact C9.out) (first
              | (go_at_call 17; refine (Q8.out.drew.Service HSt.out.1).mono ?_; rw [HSt.out.2.1]; rw [HEV.out]; rintro e w9 ⟨v9, rfl, hp, ho⟩; obtain ⟨ao9, cp9, hv9⟩ := ho.lenOf; replace hv9 : v9 = .slice ao9 0 cp9 := hv9; subst hv9; have Q9 := Lib.hid (show Pq p r g vb tT (tqC l true (j + 1)) _ _ from hp); have C9 := Lib.hid hp.cells; clear hp ho)
              | fail)
            go_wp2_with fail
            go_loopw [8, 11] (fun e i wr => i = .int .i64 0 ∧ e = .int .i64 ed ∧ wr = w9) (fun _ i _ => 0)
            case atStart => first | exact ⟨rfl, rfl, rfl⟩ | exact ⟨rfl, by simp⟩ | simp
            case round =>
              obtain ⟨rfl, rfl, rfl⟩ := hrel
              go_wp2_with fail
              go_roundw
              case rel => exact ⟨j + 1, by omega, by obtain ⟨-, c, he⟩ := HN.out; rw [he]; congr 1; split <;> split <;> omega, by first | exact congrArg _ WK | go_num, Q9.out⟩
              case measure => obtain ⟨hnw, -⟩ := HN.out; simp [intOf]; omega
        · have hj2 : j = 78 - l := by omega
          have c1 : ¬ (nw : Int) ≤ 80 := by omega
          have ha : tqC l true j = tqD l true := by unfold tqC; rw [if_neg (by omega)]
          rw [ha] at Q8
          rw [if_neg (show ¬ j ≤ 29 by omega)]
          clear ha hst hnw hj2
          obtain ⟨f0, f1, f2⟩ := Q8.out.cells
          obtain ⟨xx, hxx⟩ : ∃ xx, xx = refAt (tqD l true).R 0 := ⟨_, rfl⟩
          have HG := Lib.hid (show Calls Tryz.prog 21 #[.pointer (some ⟨r, 0, none⟩), .int .i64 0] wr fun e w' => e = .returned (.tuple #[.agg (rfS.f xx).toArray, .bool true]) ∧ Pq p r g vb tT (tqD l true) WB w' from by
            have := Q8.out.Get (b := 0) (by decide)
            rw [HE.out.2.1, ← hxx] at this
            exact this)
          have HXX := Lib.hid (show xx.st = 1 ∧ xx.si = 2 by rw [hxx]; exact HE.out.2.2)
          clear hxx
          go_upto_region 29 with (first
            | (go_at_call 21; refine HG.out.mono ?_; rintro e w9 ⟨rfl, hp⟩; have Q9 := Lib.hid hp; clear hp)
            | (refine wpl_allocS (s := rfS) rfl rfl rfl ?_)
            | (refine wpl_storeS (s := rfS) (t := xx) (b := w9.heap.size) _ _ rfl rfl rfl rfl rfl (World.alloc_heap_new w9 _) (zeroS rfS) ?_; rw [newS])
            | fail)
          obtain ⟨xb, hxb⟩ : ∃ xb, xb = w9.heap.size := ⟨_, rfl⟩
          obtain ⟨W9, hW9⟩ : ∃ W9, W9 = w9.alloc (rfS.obj xx) := ⟨_, rfl⟩
          have bxx : RfBox W9 xb xx := by rw [hW9, hxb]; exact World.alloc_heap_new _ _
          have Q10 := Lib.hid (show Pq p r g vb tT (tqD l true) WB W9 from by rw [hW9]; exact Q9.out.below ((Below.refl _ w9).alloc (Nat.le_refl _) _))
          rw [← hW9, ← hxb]
          obtain ⟨x0, -, -, -, -, -, -, x39, -, -⟩ := rf_at bxx.range
          rw [HXX.out.1] at x0
          rw [HXX.out.2] at x39
          clear hW9 hxb bxx
          go_wp2_with (first
            | (go_at_call 20; refine (law12_known _).mono ?_; rintro e wk ⟨rfl, hp⟩; have QK := Lib.hid (Q10.out.below hp); clear hp)
            | fail)
          exact bodyPost_ret (v := .bool true) (by simp [results, Tryz.results9, go_sem]) rfl ⟨rfl, H4.out.trans (QK.out.old.mono H4.out.size)⟩
set_option maxRecDepth 100000 in
set_option maxHeartbeats 8000000 in
theorem tq_walk_false (l : Nat) (w : World) (hl : l ≤ 40) : Calls Tryz.prog 9 #[.bool false, .int .i64 l] w fun e w' => e = .returned (.bool true) ∧ Below w.heap.size w w' := by
  have HPL := Lib.hid (law12_plain w)
  have g1 : ¬ (l : Int) < 0 := by omega
  have g2 : ¬ (l : Int) > 40 := by omega
  have W2L : IntKind.i64.wrap (2 + (l : Int)) = 2 + (l : Int) := IntWalk.i64_in _ (by omega)
  have W3L : IntKind.i64.wrap (3 + (l : Int)) = 3 + (l : Int) := IntWalk.i64_in _ (by omega)
  have W32 : IntKind.i64.wrap (2 + (l : Int) + 30) = 2 + (l : Int) + 30 := IntWalk.i64_in _ (by omega)
  go_enter Tryz.func9, Tryz.ntmps9
  have mixed : Tryz.prog.follows .mixedOrders = true := by kernel_rfl
  go_upto_region 4 with (first
    | (go_at_call 12; refine HPL.out.mono ?_; rintro e w1 ⟨rfl, hb⟩; have H1 := Lib.hid hb; clear hb)
    | (refine wpl_allocR (r := trkR) (ty := 26) rfl rfl rfl ?_; intro C hC)
    | (refine wpl_storeR (r := trkR) (ty := 26) (t := trkP) (C := C) _ _ rfl rfl rfl rfl rfl (World.alloc_heap_new w1 _) hC ?_; rw [World.setRow_alloc_new])
    | fail)
  clear hC C
  obtain ⟨tb, htb⟩ : ∃ tb, tb = w1.heap.size := ⟨_, rfl⟩
  obtain ⟨W3, hW3⟩ : ∃ W3, W3 = w1.alloc (.cells (trkR.f trkP).toArray 26) := ⟨_, rfl⟩
  have x3 : W3.heap[tb]? = some (.cells (trkR.f trkP).toArray 26 (0, 0)) := by rw [hW3, htb]; exact World.alloc_heap_new _ _
  have b3 : Below w.heap.size w W3 := by rw [hW3]; exact H1.out.alloc H1.out.size _
  have htw : w.heap.size ≤ tb := by rw [htb]; exact H1.out.size
  rw [← hW3, ← htb]
  clear hW3 htb
  have ct : ∀ i v, (trkR.f trkP)[i]? = some v → W3.cell? ⟨tb, i, none⟩ = some v ∧ W3.frozen? ⟨tb, i, none⟩ = false := fun i v hi => by
    refine ⟨?_, by rw [World.frozen?, x3]; rfl⟩
    have := (rangeAt_whole (T := 26) x3) i v hi
    rwa [Nat.zero_add] at this
  obtain ⟨t3, f3⟩ := ct 3 _ rfl
  obtain ⟨t11, f11⟩ := ct 11 _ rfl
  obtain ⟨t12, f12⟩ := ct 12 _ rfl
  obtain ⟨t13, f13⟩ := ct 13 _ rfl
  obtain ⟨t14, f14⟩ := ct 14 _ rfl
  obtain ⟨t15, f15⟩ := ct 15 _ rfl
  have HX := Lib.hid (And.intro x3 (And.intro b3 htw))
  clear x3 b3 htw ct
  go_upto_region 5 with fail
  clear t3 t11 t12 t13 t14 t15 f3 f11 f12 f13 f14 f15
  obtain ⟨W4, hW4⟩ : ∃ W4, W4 = ((((((W3.setCell ⟨tb, 3, none⟩ (.int .i64 100)).setCell ⟨tb, 11, none⟩ (.int .i64 1)).setCell ⟨tb, 12, none⟩ (.int .i64 1000000000)).setCell ⟨tb, 13, none⟩ (.int .i64 1000000000)).setCell ⟨tb, 14, none⟩ (.int .i64 1)).setCell ⟨tb, 15, none⟩ (.int .i64 0)) := ⟨_, rfl⟩
  have x4 : W4.heap[tb]? = some (.cells (trkR.f trkT).toArray 26 (0, 0)) := by rw [hW4]; exact rowL_set (rowL_set (rowL_set (rowL_set (rowL_set (rowL_set HX.out.1)))))
  have b4 : Below w.heap.size w W4 := by rw [hW4]; exact bl_set (bl_set (bl_set (bl_set (bl_set (bl_set HX.out.2.1 HX.out.2.2) HX.out.2.2) HX.out.2.2) HX.out.2.2) HX.out.2.2) HX.out.2.2
  rw [← hW4]
  clear hW4
  obtain ⟨tt, htt⟩ : ∃ tt, tt = trkT := ⟨_, rfl⟩
  have hbg : Calls Tryz.prog 13 #[.slice (some ⟨W4.heap.size, 0, none⟩) 1 1] (W4.alloc (.cells (trkR.f tt).toArray 26)) fun e w' => ∃ p g vb r, e = .returned (.pointer (some ⟨p, 0, none⟩)) ∧ Pq p r g vb tT St12.zero (W4.alloc (.cells (trkR.f tt).toArray 26)) w' := by rw [htt]; exact begin12 tq_pre.1 W4
  rw [← htt] at x4
  have hr4 := rangeAt_whole (T := 26) x4
  have HR4 := Lib.hid hr4
  have HB := Lib.hid hbg
  have B4 := Lib.hid b4
  clear hr4 hbg htt x4 b4
  have hsz : (trkR.f tt).length = 18 := trkR.len tt
  go_upto_region 8 with (first
    | (refine wpl_loadR (r := trkR) (t := tt) (b := tb) (k := 0) _ rfl rfl rfl HR4.out ?_)
    | (go_at_call 13; rw [fold_trkT]; refine HB.out.mono ?_; rintro e w2 ⟨p, g, vb, r, rfl, hp⟩; have Q2 := Lib.hid hp; clear hp)
    | fail)
  clear hsz
  obtain ⟨WB, hWB⟩ : ∃ WB, WB = W4.alloc (.cells (trkR.f tt).toArray 26) := ⟨_, rfl⟩
  have H4 := Lib.hid (show Below w.heap.size w WB by rw [hWB]; exact B4.out.alloc B4.out.size _)
  rw [← hWB] at Q2
  clear hWB
  go_upto_region 8 with fail
  have D2 := Lib.hid Q2.out.dcells
  go_region_held3 (fun W => W.cell? ⟨p, 0, none⟩ = some (.pointer (some ⟨g, 0, none⟩)) ∧ W.cell? ⟨p, 1, none⟩ = some (.pointer (some ⟨vb, 0, none⟩)) ∧ W.cell? ⟨p, 2, none⟩ = some (.pointer (some ⟨r, 0, none⟩))) (first | exact D2.out | exact C3.out) (first
    | (go_at_call 14; refine (Q2.out.drew.Submit tq_pre.2.1 (by decide) 0 hsh0 0 0).mono ?_; rintro e w3 ⟨rfl, hp⟩; have Q3 := Lib.hid (show Pq p r g vb tT (St12.zero.sub tT 1 0 hsh0 0 0) _ _ from hp); have C3 := Lib.hid hp.cells; clear hp)
    | fail)
  go_upto_region 9 with fail
  have D3 := Lib.hid Q3.out.dcells
  go_region_held3 (fun W => W.cell? ⟨p, 0, none⟩ = some (.pointer (some ⟨g, 0, none⟩)) ∧ W.cell? ⟨p, 1, none⟩ = some (.pointer (some ⟨vb, 0, none⟩)) ∧ W.cell? ⟨p, 2, none⟩ = some (.pointer (some ⟨r, 0, none⟩))) (first | exact D3.out | exact C4.out) (first
    | (go_at_call 15; refine (Q3.out.drew.Deposit tq_pre.2.2.1 (by decide) (by decide)).mono ?_; rintro e w4 ⟨rfl, hp⟩; have Q4 := Lib.hid (show Pq p r g vb tT tq1 _ _ from hp); have C4 := Lib.hid hp.cells; clear hp)
    | fail)
  clear g1 g2
  go_wp2_with fail
  go_loopw [7] (fun i wr => ∃ k : Nat, k ≤ 2 + l ∧ i = .int .i64 ((k + 1 : Nat) : Int) ∧ Pq p r g vb tT (tqA k) WB wr) (fun i _ => 3 + l - (intOf i).toNat)
  case atStart => exact ⟨0, by omega, rfl, Q4.out⟩
  case round =>
    obtain ⟨k, hk, rfl, hp⟩ := hrel
    have Q5 := Lib.hid hp
    clear hp
    by_cases hlt : k < 2 + l
    · have c1 : ((k + 1 : Nat) : Int) ≤ 2 + (l : Int) := by omega
      have HSt := Lib.hid (tqA_step (k := k) (by omega))
      have WK : IntKind.i64.wrap (((k + 1 : Nat) : Int) + 1) = ((k + 1 + 1 : Nat) : Int) := by rw [IntWalk.i64_in _ (by omega)]; omega
      go_upto_region 13 with fail
      have D5 := Lib.hid Q5.out.dcells
      go_region_held3 (fun W => W.cell? ⟨p, 0, none⟩ = some (.pointer (some ⟨g, 0, none⟩)) ∧ W.cell? ⟨p, 1, none⟩ = some (.pointer (some ⟨vb, 0, none⟩)) ∧ W.cell? ⟨p, 2, none⟩ = some (.pointer (some ⟨r, 0, none⟩))) (first | exact D5.out | exact C6.out) (first
        | (go_at_call 17; refine (Q5.out.drew.Service HSt.out.1).mono ?_; rw [HSt.out.2]; rintro e w6 ⟨v6, rfl, hp, ho⟩; skip; have Q6 := Lib.hid (show Pq p r g vb tT (tqA (k + 1)) _ _ from hp); have C6 := Lib.hid hp.cells; clear hp ho)
        | fail)
      go_wp2_with fail
      go_roundw
      case rel => exact ⟨k + 1, by omega, by first | rfl | exact congrArg _ WK | go_num, Q6.out⟩
      case measure => simp [intOf]; omega
    · have hk2 : k = 2 + l := by omega
      subst hk2
      have c1 : ¬ ((2 + l + 1 : Nat) : Int) ≤ 2 + (l : Int) := by omega
      have ha : tqA (2 + l) = tq2 := by unfold tqA; rw [if_neg (by omega)]
      rw [ha] at Q5
      have HS := Lib.hid (show tq2.sub tT 2 0 hsh0 0 (2 + (l : Int)) = tqS l by unfold tqS; rw [show ((2 + l : Nat) : Int) = 2 + (l : Int) from by omega])
      have HE := Lib.hid (tq_end l hl false (by simp))
      clear ha
      go_upto_region 14 with fail
      have D5 := Lib.hid Q5.out.dcells
      go_region_held3 (fun W => W.cell? ⟨p, 0, none⟩ = some (.pointer (some ⟨g, 0, none⟩)) ∧ W.cell? ⟨p, 1, none⟩ = some (.pointer (some ⟨vb, 0, none⟩)) ∧ W.cell? ⟨p, 2, none⟩ = some (.pointer (some ⟨r, 0, none⟩))) (first | exact D5.out | exact C6.out) (first
        | (go_at_call 14; refine (Q5.out.drew.Submit tq_pre.2.2.2.2.2.2.2 (by decide) 0 hsh0 0 (2 + (l : Int))).mono ?_; rw [HS.out]; rintro e w6 ⟨rfl, hp⟩; have Q6 := Lib.hid (show Pq p r g vb tT (tqS l) _ _ from hp); have C6 := Lib.hid hp.cells; clear hp)
        | fail)
      have Q7 := Lib.hid (show Pq p r g vb tT (tqB l false) _ _ from Q6.out)
      clear c1
      go_wp2_with fail
      go_loopw [8, 9] (fun e i wr => ∃ j : Nat, j ≤ 78 - l ∧ e = .int .i64 (if j ≤ 29 then 0 else 1) ∧ i = .int .i64 ((3 + l + j : Nat) : Int) ∧ Pq p r g vb tT (tqC l false j) WB wr) (fun _ i _ => 81 - (intOf i).toNat)
      case atStart => exact ⟨0, by omega, rfl, by first | rfl | (congr 1; omega), Q7.out⟩
      case round =>
        obtain ⟨j, hj, rfl, rfl, hp⟩ := hrel
        have Q8 := Lib.hid hp
        clear hp
        have hst := fun h => tqC_step (l := l) (j := j) false hl h
        obtain ⟨nw, hnw⟩ : ∃ nw, nw = 3 + l + j := ⟨_, rfl⟩
        rw [← hnw] at hst ⊢
        by_cases hlt : j < 78 - l
        · have c1 : (nw : Int) ≤ 80 := by omega
          have HSt := Lib.hid (hst hlt)
          have WK : IntKind.i64.wrap ((nw : Int) + 1) = ((3 + l + (j + 1) : Nat) : Int) := by rw [IntWalk.i64_in _ (by omega)]; omega
          obtain ⟨ed, hed⟩ : ∃ ed : Int, ed = (if j ≤ 29 then 0 else 1) := ⟨_, rfl⟩
          rw [← hed]
          by_cases c : j = 29
          · have c2 : (nw : Int) = 2 + (l : Int) + 30 := by omega
            have HEV := Lib.hid (HSt.out.2.2.trans (if_pos c))
            have HN := Lib.hid (And.intro hnw (And.intro c (And.intro c2 hed)))
            clear hnw hed hst c c2
            go_upto_region 21 with fail
            have D8 := Lib.hid Q8.out.dcells
            go_region_held3 (fun W => W.cell? ⟨p, 0, none⟩ = some (.pointer (some ⟨g, 0, none⟩)) ∧ W.cell? ⟨p, 1, none⟩ = some (.pointer (some ⟨vb, 0, none⟩)) ∧ W.cell? ⟨p, 2, none⟩ = some (.pointer (some ⟨r, 0, none⟩))) (first | exact D8.out | exact C9.out) (first
              | (go_at_call 17; refine (Q8.out.drew.Service HSt.out.1).mono ?_; rw [HSt.out.2.1]; rw [HEV.out]; rintro e w9 ⟨v9, rfl, hp, ho⟩; obtain ⟨b9, cp9, hv9, hr9⟩ := row1 ho; subst hv9; have R9 := Lib.hid hr9; clear hr9; have Q9 := Lib.hid (show Pq p r g vb tT (tqC l false (j + 1)) _ _ from hp); have C9 := Lib.hid hp.cells; clear hp ho)
              | fail)
            obtain ⟨k3, k4, k5⟩ := R9.out
            have WE : IntKind.i64.wrap (ed + 1) = ed + 1 := IntWalk.i64_in _ (by obtain ⟨-, -, -, he⟩ := HN.out; rw [he]; split <;> omega)
            obtain ⟨-, -, c2, -⟩ := HN.out
            have c3 : ((nw : Int) != 2 + (l : Int) + 30) = false := by simp [c2]
            clear c2
            go_upto_region 22 with fail
            obtain ⟨W9, hW9⟩ : ∃ W9, W9 = w9 := ⟨_, rfl⟩
            have HN9 := Lib.hid hW9
            clear hW9
            go_wp2_with fail
            go_loopw [8, 11] (fun e i wr => ∃ q : Nat, q ≤ 1 ∧ i = .int .i64 q ∧ e = .int .i64 (ed + q) ∧ wr = w9) (fun _ i _ => 1 - (intOf i).toNat)
            case atStart => exact ⟨0, by omega, rfl, by simp, rfl⟩
            case round =>
              obtain ⟨q, hq, rfl, rfl, rfl⟩ := hrel
              by_cases hq1 : q = 0
              · subst hq1
                go_wp2_with fail
                go_roundw
                case rel => exact ⟨1, by omega, by go_num, by go_num, by first | rfl | trivial⟩
                case measure => simp [intOf]
              · obtain rfl : q = 1 := by omega
                go_wp2_with fail
                go_roundw
                case rel => exact ⟨j + 1, by omega, by obtain ⟨-, c, -, he⟩ := HN.out; rw [he]; simp [c], by first | exact congrArg _ WK | go_num, Q9.out⟩
                case measure => obtain ⟨hnw, -⟩ := HN.out; simp [intOf]; omega
          · have HEV := Lib.hid (HSt.out.2.2.trans (if_neg c))
            have HN := Lib.hid (And.intro hnw (And.intro c hed))
            clear hnw hed hst c
            go_upto_region 21 with fail
            have D8 := Lib.hid Q8.out.dcells
            go_region_held3 (fun W => W.cell? ⟨p, 0, none⟩ = some (.pointer (some ⟨g, 0, none⟩)) ∧ W.cell? ⟨p, 1, none⟩ = some (.pointer (some ⟨vb, 0, none⟩)) ∧ W.cell? ⟨p, 2, none⟩ = some (.pointer (some ⟨r, 0, none⟩))) (first | exact D8.out | exact C9.out) (first
              | (go_at_call 17; refine (Q8.out.drew.Service HSt.out.1).mono ?_; rw [HSt.out.2.1]; rw [HEV.out]; rintro e w9 ⟨v9, rfl, hp, ho⟩; obtain ⟨ao9, cp9, hv9⟩ := ho.lenOf; replace hv9 : v9 = .slice ao9 0 cp9 := hv9; subst hv9; have Q9 := Lib.hid (show Pq p r g vb tT (tqC l false (j + 1)) _ _ from hp); have C9 := Lib.hid hp.cells; clear hp ho)
              | fail)
            go_wp2_with fail
            go_loopw [8, 11] (fun e i wr => i = .int .i64 0 ∧ e = .int .i64 ed ∧ wr = w9) (fun _ i _ => 0)
            case atStart => first | exact ⟨rfl, rfl, rfl⟩ | exact ⟨rfl, by simp⟩ | simp
            case round =>
              obtain ⟨rfl, rfl, rfl⟩ := hrel
              go_wp2_with fail
              go_roundw
              case rel => exact ⟨j + 1, by omega, by obtain ⟨-, c, he⟩ := HN.out; rw [he]; congr 1; split <;> split <;> omega, by first | exact congrArg _ WK | go_num, Q9.out⟩
              case measure => obtain ⟨hnw, -⟩ := HN.out; simp [intOf]; omega
        · have hj2 : j = 78 - l := by omega
          have c1 : ¬ (nw : Int) ≤ 80 := by omega
          have ha : tqC l false j = tqD l false := by unfold tqC; rw [if_neg (by omega)]
          rw [ha] at Q8
          rw [if_neg (show ¬ j ≤ 29 by omega)]
          clear ha hst hnw hj2
          obtain ⟨f0, f1, f2⟩ := Q8.out.cells
          obtain ⟨xx, hxx⟩ : ∃ xx, xx = refAt (tqD l false).R 0 := ⟨_, rfl⟩
          have HG := Lib.hid (show Calls Tryz.prog 21 #[.pointer (some ⟨r, 0, none⟩), .int .i64 0] wr fun e w' => e = .returned (.tuple #[.agg (rfS.f xx).toArray, .bool true]) ∧ Pq p r g vb tT (tqD l false) WB w' from by
            have := Q8.out.Get (b := 0) (by decide)
            rw [HE.out.2.1, ← hxx] at this
            exact this)
          have HXX := Lib.hid (show xx.st = 1 ∧ xx.si = 2 by rw [hxx]; exact HE.out.2.2)
          clear hxx
          go_upto_region 29 with (first
            | (go_at_call 21; refine HG.out.mono ?_; rintro e w9 ⟨rfl, hp⟩; have Q9 := Lib.hid hp; clear hp)
            | (refine wpl_allocS (s := rfS) rfl rfl rfl ?_)
            | (refine wpl_storeS (s := rfS) (t := xx) (b := w9.heap.size) _ _ rfl rfl rfl rfl rfl (World.alloc_heap_new w9 _) (zeroS rfS) ?_; rw [newS])
            | fail)
          obtain ⟨xb, hxb⟩ : ∃ xb, xb = w9.heap.size := ⟨_, rfl⟩
          obtain ⟨W9, hW9⟩ : ∃ W9, W9 = w9.alloc (rfS.obj xx) := ⟨_, rfl⟩
          have bxx : RfBox W9 xb xx := by rw [hW9, hxb]; exact World.alloc_heap_new _ _
          have Q10 := Lib.hid (show Pq p r g vb tT (tqD l false) WB W9 from by rw [hW9]; exact Q9.out.below ((Below.refl _ w9).alloc (Nat.le_refl _) _))
          rw [← hW9, ← hxb]
          obtain ⟨x0, -, -, -, -, -, -, x39, -, -⟩ := rf_at bxx.range
          rw [HXX.out.1] at x0
          rw [HXX.out.2] at x39
          clear hW9 hxb bxx
          go_wp2_with (first
            | (go_at_call 20; refine (law12_known _).mono ?_; rintro e wk ⟨rfl, hp⟩; have QK := Lib.hid (Q10.out.below hp); clear hp)
            | fail)
          exact bodyPost_ret (v := .bool true) (by simp [results, Tryz.results9, go_sem]) rfl ⟨rfl, H4.out.trans (QK.out.old.mono H4.out.size)⟩
set_option maxRecDepth 100000 in
set_option maxHeartbeats 8000000 in
theorem referTimes_walk (b : Bool) (a : Int) (w : World) (wa : (Lit.int .i64 a).wf = true) : Calls Tryz.prog 9 #[.bool b, .int .i64 a] w fun e w' => e = .returned (.bool true) ∧ Below w.heap.size w w' := by
  by_cases hin : 0 ≤ a ∧ a ≤ 40
  · obtain ⟨l, rfl⟩ : ∃ l : Nat, a = l := ⟨a.toNat, by omega⟩
    cases b
    · exact tq_walk_false l w (by omega)
    · exact tq_walk_true l w (by omega)
  · have hout : (a < 0) ∨ (¬ a < 0 ∧ a > 40) := by omega
    rcases hout with h | ⟨h0, h⟩
    all_goals
      go_enter Tryz.func9, Tryz.ntmps9
      go_wp2
      exact bodyPost_ret (v := .bool true) (by simp [results, Tryz.results9, go_sem]) rfl ⟨rfl, Below.refl _ w⟩
end Go.Proofs.YtpkamfbjgdmmoaaGreat
