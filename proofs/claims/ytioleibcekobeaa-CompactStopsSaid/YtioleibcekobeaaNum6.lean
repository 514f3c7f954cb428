/-
  The walk of compact's law: numbers that were put are told one behind the other.
-/
import Derived.Test.YtioleibcekobeaaNum5
import Derived.Test.YtioleibcekobeaaComG
import Derived.Deep.RegionWith
namespace Go.Proofs.Ytioleibcekobeaa
open Go.RowKit Go.Shelf
set_option linter.unusedVariables false

theorem heldN_eq (n : Int) : min (max n 0) 4611686018427387904 = (heldN n : Int) := by unfold heldN; omega
theorem numsOf_num {n : Nat} (hn : n ≤ 4611686018427387904) (t : List Nat) : numsOf (numL n ++ t) = n :: numsOf t := by
  rw [numsOf_some (takeL_num hn t), ← numL_size, List.drop_left]
theorem numsOf_numsL (l : List Int) (t : List Nat) : numsOf (numsL l ++ t) = l.map heldN ++ numsOf t := by
  induction l with
  | nil => simp [numsL]
  | cons a l ih => rw [numsL, List.append_assoc, numsOf_num (heldN_le a), ih]; rfl
theorem OwnN.at {B : Nat} {v : Value} {l : List Nat} {w : World} (h : OwnN B v l w) {i : Nat} (hi : i < l.length) :
    ∃ g cap, v = .slice (some ⟨g, 0, none⟩) l.length cap ∧ B ≤ g ∧ g < w.heap.size ∧ l.length ≤ cap ∧ w.cell? ⟨g, i, none⟩ = some (.int .i64 ((l.getD i 0 : Nat) : Int)) := by
  have h' := h
  rcases h.2 with ⟨rfl, h0⟩ | ⟨g, cap, cur, rfl, hg, hh, hc, -⟩
  · rw [h0] at hi; omega
  · have hlt := World.ownsRow.lt h' g rfl
    have := World.ownsRow.cells h' rfl i (.int .i64 ((l.getD i 0 : Nat) : Int)) (by simp [Is, hi])
    refine ⟨g, cap, rfl, hg, hlt.2, hc, ?_⟩
    rwa [add_at, Nat.zero_add] at this
theorem RdI.at {w : World} {v : Value} {l : List Int} (h : RdI w v l) {i : Nat} (hi : i < l.length) :
    ∃ blk off cap, v = .slice (some ⟨blk, off, none⟩) l.length cap ∧ l.length ≤ cap ∧ blk < w.heap.size ∧ w.cell? ⟨blk, off + i, none⟩ = some (.int .i64 (l.getD i 0)) := by
  rcases h with ⟨-, rfl⟩ | ⟨⟨blk, off, spot⟩, cap, rfl, hc, hcell⟩
  · simp at hi
  · have hs : spot = none := by
      have := World.cell?_spot (hcell 0 (by omega)); simpa [Addr.add] using this
    subst hs
    have hb := cell_block (hcell i hi)
    have hx := hcell i hi
    rw [add_at] at hx
    exact ⟨blk, off, cap, rfl, hc, hb, hx⟩

set_option maxRecDepth 100000 in
set_option maxHeartbeats 4000000 in
theorem compactNums_main (v u : Value) (l : List Int) (t : List Nat) (w : World) (hrl : RdI w v l) (hrt : RdB w u t) (ht : ∀ b ∈ t, b < 256) (hll : l.length ≤ 100) (htl : t.length ≤ 100) :
    Calls Try.prog 7 #[v, u] w fun e w' => e = .returned (.bool true) ∧ Below w.heap.size w w' := by
  have hnl := numsL_length l
  obtain ⟨ms, hms⟩ : ∃ ms, ms = numsOf (numsL l ++ t) := ⟨_, rfl⟩
  have hm0 := hms
  rw [numsOf_numsL] at hm0
  have hml : l.length ≤ ms.length := by rw [hm0]; simp
  have hmk : ms.length ≤ 1000 := by have := numsOf_le (numsL l ++ t); rw [← hms, List.length_append] at this; omega
  have hmi : ∀ i, i < l.length → min (max (l.getD i 0) 0) 4611686018427387904 = ((ms.getD i 0 : Nat) : Int) := fun i hi => by
    rw [heldN_eq, hm0]; simp [List.getElem?_append, hi]
  have hmt : ms.drop l.length = numsOf t := by rw [hm0]; simp
  have hby : ∀ b ∈ numsL l ++ t, b < 256 := fun b hb => by
    rw [List.mem_append] at hb
    exact hb.elim (numsL_lt l b) (ht b)
  have hLl : (numsL l ++ t).length ≤ 10000 := by rw [List.length_append]; omega
  have hLa : (numsL l).length + t.length ≤ 1099511627776 := by omega
  have HRL := Lib.hid hrl
  have HRT := Lib.hid hrt
  have HT := Lib.hid ht
  have HMS := Lib.hid hms
  have HMI := Lib.hid hmi
  have HMT := Lib.hid hmt
  have HBY := Lib.hid hby
  have HLL := Lib.hid hLl
  have HLA := Lib.hid hLa
  obtain ⟨ao0, cap0, rfl⟩ := hrl.lenOf
  obtain ⟨ao1, cap1, rfl⟩ := hrt.lenOf
  have g1 : decide ((100 : Int) < (l.length : Int)) = false := by simp; omega
  have g2 : decide ((100 : Int) < (t.length : Int)) = false := by simp; omega
  have g3 : decide ((ms.length : Int) < (l.length : Int)) = false := by simp; omega
  have g4 : decide (ms.length < l.length) = false := by simp; omega
  clear hrl hrt ht hms hm0 hmi hmt hby hLl hLa hnl
  go_enter Try.func7, Try.ntmps7
  go_wp2_with (first | (go_at_call 13; refine (compact_Put _ _ [] l _ (rdB_nil _) HRL.out (by simp) (by omega)).mono ?_; rw [List.nil_append]; rintro e w1 ⟨v1, rfl, ho1, hb1, hs1⟩; have hr1 := Lib.hid (HRT.out.below hb1)) | (at_builtin; refine wp_app_B rfl rfl rfl rfl ho1 hr1.out HLA.out hs1 ?_; intro v3 w3 ho3 hb3 hs3 hg3) | (go_at_call 23; refine (law_nums _ _ _ ho3.reads HBY.out HLL.out).mono ?_; rintro e w4 ⟨m, rfl, hm, hb4⟩; rw [← HMS.out] at hm; have HM := Lib.hid hm; have hbw := (hb1.trans hb3).trans (hb4.mono hs3); have HBW := Lib.hid hbw; obtain ⟨aoM, capM, rfl⟩ := hm.lenOf; clear hm hb4 hbw ho3 hb3 hg3 ho1 hb1 hr1) | fail)
  go_loopw [8] (fun i wr => ∃ j : Nat, j ≤ l.length ∧ i = .int .i64 j ∧ Below w4.heap.size w4 wr) (fun i _ => l.length - (intOf i).toNat)
  case atStart => exact ⟨0, Nat.zero_le _, rfl, Below.refl _ _⟩
  case round =>
    obtain ⟨j, hj, rfl, hb⟩ := hrel
    by_cases hlt : j < l.length
    · have hjm : j < ms.length := by omega
      obtain ⟨g, capm, hvm, hgB, hgl, hcm, hcM⟩ := HM.out.at hjm
      obtain ⟨blk, off, capl, hvl, hcl, hbl, hcL⟩ := HRL.out.at hlt
      injection hvm with e1 e2 e3
      injection hvl with e4 e5 e6
      subst e1 e3 e4 e6
      have hcM' := (hb.cell (p := ⟨g, j, none⟩) hgl).trans hcM
      have hcL' := (hb.cell (p := ⟨blk, off + j, none⟩) (Nat.lt_of_lt_of_le hbl HBW.out.size)).trans ((HBW.out.cell (p := ⟨blk, off + j, none⟩) hbl).trans hcL)
      have hmn := HMI.out j hlt
      obtain ⟨x, hx⟩ : ∃ x, x = l.getD j 0 := ⟨_, rfl⟩
      obtain ⟨q, hq⟩ : ∃ q, q = ms.getD j 0 := ⟨_, rfl⟩
      rw [← hx] at hcL' hmn
      rw [← hq] at hcM' hmn
      have HBq := Lib.hid hb
      clear hcM hcL hx hq hb e2 e5
      go_wp2_with fail
      go_region
      all_goals (go_wp2_with fail; exact ⟨⟨j + 1, by omega, by go_num, HBq.out.drew⟩, by simp [intOf]; omega⟩)
    · have : j = l.length := by omega
      subst this
      obtain ⟨wq, hwq⟩ : ∃ wq, wq = wr := ⟨_, rfl⟩
      subst hwq
      have HBq := Lib.hid hb
      clear hlt hb
      go_wp2_with fail
      obtain ⟨wx, hwx⟩ : ∃ wx, wx = wq.alloc (.cells #[.slice ao1 t.length cap1, .bool false] 45) := ⟨_, rfl⟩
      rw [← hwx]
      have hbx0 : RBox wx wq.heap.size (.slice ao1 t.length cap1) := by rw [hwx]; exact World.alloc_heap_new wq _
      have hb0 : Below wq.heap.size wq wx := by rw [hwx]; exact (Below.refl _ wq).alloc (Nat.le_refl _) _
      have hwq : w4.heap.size ≤ wq.heap.size := HBq.out.size
      have hw4 : w.heap.size ≤ w4.heap.size := HBW.out.size
      have hbr : Below w.heap.size w wq := HBW.out.trans (HBq.out.mono hw4)
      have HBQ := Lib.hid hbr
      clear hwx hbr
      go_loopw [10] (fun i ws => ∃ (j : Nat) (rest : List Nat) (ao : Option Addr) (cap : Nat), i = .int .i64 j ∧ l.length ≤ j ∧ j ≤ ms.length ∧ RBox ws wq.heap.size (.slice ao rest.length cap) ∧ RdB w (.slice ao rest.length cap) rest ∧ numsOf rest = ms.drop j ∧ (∀ b ∈ rest, b < 256) ∧ Below wq.heap.size wq ws) (fun i _ => ms.length - (intOf i).toNat)
      case atStart => exact ⟨l.length, t, ao1, cap1, rfl, Nat.le_refl _, hml, hbx0, HRT.out, HMT.out.symm, HT.out, hb0⟩
      case round =>
        obtain ⟨j, rest, ao, cap, rfl, hj1, hj2, hbx, hrr, hnr, hbr, hbs⟩ := hrel
        have hws : wq.heap.size ≤ wr.heap.size := hbs.size
        have h0 : Below w.heap.size w wr.drew := (HBQ.out.trans (hbs.mono (by omega))).drew
        have HB0 := Lib.hid h0
        have HB00 := Lib.hid (HBQ.out.trans (hbs.mono (by omega)))
        have HRR := Lib.hid hrr
        have HBXs := Lib.hid hbx
        have HBRs := Lib.hid hbr
        have HBS := Lib.hid hbs
        clear h0 hrr hbr
        by_cases hlt : j < ms.length
        · cases htk : takeL rest with
          | none =>
            rw [numsOf_none htk] at hnr
            have := congrArg List.length hnr
            simp at this; omega
          | some x =>
            obtain ⟨n, s⟩ := x
            rw [numsOf_some htk, List.drop_eq_getElem_cons hlt] at hnr
            injection hnr with hn1 hn2
            obtain ⟨g, capm, hvm, hgB, hgl, hcm, hcM⟩ := HM.out.at hlt
            injection hvm with e1 e2 e3
            subst e1 e3
            have hgn : ms.getD j 0 = n := by rw [hn1]; simp [hlt]
            rw [hgn] at hcM
            have hcM' := (hbs.cell (p := ⟨g, j, none⟩) (Nat.lt_of_lt_of_le hgl hwq)).trans ((HBq.out.cell (p := ⟨g, j, none⟩) hgl).trans hcM)
            have hgw : g < wq.heap.size := Nat.lt_of_lt_of_le hgl hwq
            have HTK := Lib.hid htk
            have HN2 := Lib.hid hn2
            have HCM := Lib.hid hcM'
            clear hcM hn1 hn2 hgn htk hbx hbs e2
            go_wp2_with fail
            go_region_with (first | (go_at_call 24; refine (ref_RNum wq.heap.size w _ rest n s _ HB0.out HRR.out HBXs.out HBRs.out HTK.out).mono ?_; rintro e w7 ⟨rfl, hb7, ao7, cap7, hx7, hr7⟩; have hc7 := (hb7.cell (p := ⟨g, j, none⟩) hgw).trans HCM.out; have hcE := hx7.cell1; have HX7 := Lib.hid hx7; have HB7 := Lib.hid hb7; have HR7 := Lib.hid hr7; clear hx7 hb7 hr7) | fail)
            all_goals (go_wp2_with fail; exact ⟨⟨j + 1, rest.drop s, ao7, cap7, by go_num, by omega, by omega, HX7.out, HR7.out, HN2.out, fun b hb => HBRs.out b (List.mem_of_mem_drop hb), HBS.out.drew.trans HB7.out⟩, by simp [intOf]; omega⟩)
        · have : j = ms.length := by omega
          subst this
          rw [List.drop_length] at hnr
          have htk : takeL rest = none := by
            cases h : takeL rest with
            | none => rfl
            | some x => obtain ⟨n, s⟩ := x; rw [numsOf_some h] at hnr; cases hnr
          have HTK := Lib.hid htk
          have hc0 := hbx.cell0
          clear hlt hnr htk hbx hbs
          go_wp2_with (first | (go_at_call 16; refine (ref_Take _ rest _ (HRR.out.below HB00.out) HBRs.out).mono ?_; rw [HTK.out]; rintro e w8 ⟨rfl, hb8⟩; simp only [takeV]) | (go_at_call 20; refine (known_calls _).mono ?_; rintro e w9 ⟨rfl, hb9⟩) | fail)
          go_ret
          exact ⟨rfl, ((HB00.out.trans (hb8.mono HB00.out.size)).trans (hb9.mono (Nat.le_trans HB00.out.size hb8.size)))⟩

set_option maxRecDepth 100000 in
set_option maxHeartbeats 1000000 in
theorem compactNums_walk (v : Value) (l : List Int) (u : Value) (t : List Nat) (w : World) (hrl : RdI w v l) (_hl : ∀ n ∈ l, (Lit.int .i64 n).wf = true) (hlm : l.length ≤ maxLen) (hrt : RdB w u t) (ht : ∀ b ∈ t, b < 256) (htm : t.length ≤ maxLen) :
    Calls Try.prog 7 #[v, u] w fun e w' => e = .returned (.bool true) ∧ Below w.heap.size w w' := by
  unfold maxLen at hlm htm
  have hq : (l.length ≤ 100 ∧ t.length ≤ 100) ∨ decide ((100 : Int) < (l.length : Int)) = true ∨ (decide ((100 : Int) < (l.length : Int)) = false ∧ decide ((100 : Int) < (t.length : Int)) = true) := by
    simp only [decide_eq_true_eq, decide_eq_false_iff_not]; omega
  rcases hq with ⟨h1, h2⟩ | h1 | ⟨h1, h2⟩
  · exact compactNums_main v u l t w hrl hrt ht h1 h2
  all_goals
    obtain ⟨ao0, cap0, rfl⟩ := hrl.lenOf
    obtain ⟨ao1, cap1, rfl⟩ := hrt.lenOf
    clear hrl hrt
    go_enter Try.func7, Try.ntmps7
    go_wp2_with fail
    go_ret
    exact ⟨rfl, Below.refl _ _⟩
end Go.Proofs.Ytioleibcekobeaa
