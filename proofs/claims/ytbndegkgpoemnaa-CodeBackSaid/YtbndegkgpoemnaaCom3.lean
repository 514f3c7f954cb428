/-
  Contracts of the document's answer to compact: a number's bytes.
-/
import Derived.Test.YtbndegkgpoemnaaCom2
namespace Go.Proofs.Ytbndegkgpoemnaa
open Go.RowKit
set_option linter.unusedVariables false

theorem own_low2 {B : Nat} {v' : Value} {L : List Value} {n j : Nat} {w1 : World} (hL : L = Bs (lowL n j)) (h : w1.ownsRow B 5 1 v' (L.length + 1) (L ++ [.int .u8 ((n : Int) / 2 ^ (8 * j) % 256)])) :
    OwnB B v' (Bs (lowL n (j + 1))) w1 := by
  have e1 : (256 : Nat) ^ j = 2 ^ (8 * j) := by rw [Nat.pow_mul]
  have e : Bs (lowL n (j + 1)) = L ++ [.int .u8 ((n : Int) / 2 ^ (8 * j) % 256)] := by
    rw [hL, lowL, Bs_append, e1]; rfl
  unfold OwnB; rw [e, List.length_append]; exact h

set_option maxHeartbeats 1000000 in
theorem ref_low (n k : Nat) (w : World) (hn : n < 9223372036854775808) (hk : k ≤ 9) :
    Calls Try.prog 73 #[.int .i64 n, .int .i64 k] w (OwnRet w.heap.size (Bs (lowL n k)) w) := by
  obtain ⟨i0, hi, hz0, hz1, hz2⟩ := info_parts info5
  obtain ⟨B, hBe⟩ : ∃ B, B = w.heap.size := ⟨_, rfl⟩
  rw [← hBe]
  have HB := Lib.hid hBe
  clear hBe
  go_enter Try.func73, Try.ntmps73
  go_wp2
  go_loopw [5, 6] (fun b i wr => ∃ j : Nat, j ≤ k ∧ i = .int .i64 j ∧ OwnB B b (Bs (lowL n j)) wr ∧ Below B w wr ∧ B ≤ wr.heap.size) (fun _ i _ => k - (intOf i).toNat)
  case atStart => exact ⟨0, Nat.zero_le _, rfl, World.ownsRow_nil _ _ _ _, Below.refl _ _, by rw [HB.out]; exact Nat.le_refl _⟩
  case round =>
    obtain ⟨j, hj, rfl, ho, hb, hs⟩ := hrel
    by_cases hlt : j < k
    · obtain ⟨L, hL⟩ : ∃ L, L = Bs (lowL n j) := ⟨_, rfl⟩
      have hc1 : L.length = j := by rw [hL, Bs_length, lowL_length]
      have ho' : wr.ownsRow B 5 1 u5 L.length L := by rw [hL]; exact ho
      have HC := Lib.hid hc1
      have HL := Lib.hid hL
      clear hc1 hL ho
      go_wp2_with (first | (at_builtin; refine wpList_append_own _ rfl _ _ 31 rfl B 5 i0 (.int .u8 0) 1 1 Try.underlying31 hi hz0 hz1 hz2 rfl (by decide) _ _ _ rfl (ho'.alloc _) ⟨wr.heap.size, 0, none⟩ 1 1 [.int .u8 ((n : Int) / 2 ^ (8 * j) % 256)] rfl rfl ?c1 ?c2 ?c3 ?c4 ?c5 ?_) | fail)
      case c1 =>
        intro j u hj
        match j, hj with
        | 0, hj => simp at hj; subst hj; simp [Addr.add]
      case c2 => intro u hu; simp at hu; subst hu; rfl
      case c3 => rw [HC.out]; unfold maxLen; omega
      case c4 => rw [HC.out]; omega
      case c5 => simp; omega
      intro v' w1 hown' hgrow _
      have R := own_low2 HL.out hown'
      have hb1 : Below B w w1 := (hb.alloc hs _).grown hgrow (by simp; omega) (fun r hr => (ho'.lt r hr).1)
      have hs1 : B ≤ w1.heap.size := by have := hgrow.size; simp at this; omega
      clear hown' hgrow ho' hb hs
      go_wp2
      exact ⟨⟨j + 1, by omega, by go_num, R, hb1, hs1⟩, by simp [intOf]; omega⟩
    · go_wp2
      go_ret
      have : j = k := by omega
      subst this
      exact ⟨_, rfl, ho, hb, hs⟩

theorem ref_Num1 (n : Int) (m : Nat) (w : World) (hm : heldN n = m) (h1 : m < 64) : Calls Try.prog 55 #[.int .i64 n] w (OwnRet w.heap.size (Bs (numL m)) w) := by
  have hl : numL m = lowL (m * 4) 1 := by unfold numL; rw [if_pos h1, Nat.mul_comm]
  rw [hl]
  obtain ⟨M, hM⟩ : ∃ M : Int, M = (m : Int) := ⟨_, rfl⟩
  have E : min (max n 0) 4611686018427387904 = M := by unfold heldN at hm; omega
  have l0 : 0 ≤ M := by omega
  have l1 : M < 64 := by omega
  have HM := Lib.hid hM
  have hq : m * 4 < 9223372036854775808 := by omega
  have HQ := Lib.hid hq
  clear hl hm hM h1 hq
  go_enter Try.func55, Try.ntmps55
  go_wp2_with fail
  clear E l0 l1
  obtain rfl := HM.out
  refine (ref_low (m * 4) 1 _ HQ.out (by omega)).mono ?_
  rintro e w' ⟨v', rfl, h1, h2, h3⟩
  go_wp2
  go_ret
  exact ⟨v', rfl, h1, h2, h3⟩

theorem ref_Num2 (n : Int) (m : Nat) (w : World) (hm : heldN n = m) (h0 : 64 ≤ m) (h1 : m < 16384) : Calls Try.prog 55 #[.int .i64 n] w (OwnRet w.heap.size (Bs (numL m)) w) := by
  have hl : numL m = lowL (m * 4 + 1) 2 := by unfold numL; rw [if_neg (by omega), if_pos h1, Nat.mul_comm]
  rw [hl]
  obtain ⟨M, hM⟩ : ∃ M : Int, M = (m : Int) := ⟨_, rfl⟩
  have E : min (max n 0) 4611686018427387904 = M := by unfold heldN at hm; omega
  have l0 : 64 ≤ M := by omega
  have l1 : M < 16384 := by omega
  have hor : bits .or .i64 (M * 4) 1 = M * 4 + 1 := by rw [hM]; exact or_low (c := 1) (by omega) (by omega)
  have HM := Lib.hid hM
  have hq : m * 4 + 1 < 9223372036854775808 := by omega
  have HQ := Lib.hid hq
  clear hl hm hM h1 hq h0
  go_enter Try.func55, Try.ntmps55
  go_wp2_with fail
  clear E l0 l1
  obtain rfl := HM.out
  refine (ref_low (m * 4 + 1) 2 _ HQ.out (by omega)).mono ?_
  rintro e w' ⟨v', rfl, h1, h2, h3⟩
  go_wp2
  go_ret
  exact ⟨v', rfl, h1, h2, h3⟩

theorem ref_Num3 (n : Int) (m : Nat) (w : World) (hm : heldN n = m) (h0 : 16384 ≤ m) (h1 : m < 1073741824) : Calls Try.prog 55 #[.int .i64 n] w (OwnRet w.heap.size (Bs (numL m)) w) := by
  have hl : numL m = lowL (m * 4 + 2) 4 := by unfold numL; rw [if_neg (by omega), if_neg (by omega), if_pos h1, Nat.mul_comm]
  rw [hl]
  obtain ⟨M, hM⟩ : ∃ M : Int, M = (m : Int) := ⟨_, rfl⟩
  have E : min (max n 0) 4611686018427387904 = M := by unfold heldN at hm; omega
  have l0 : 16384 ≤ M := by omega
  have l1 : M < 1073741824 := by omega
  have hor : bits .or .i64 (M * 4) 2 = M * 4 + 2 := by rw [hM]; exact or_low (c := 2) (by omega) (by omega)
  have HM := Lib.hid hM
  have hq : m * 4 + 2 < 9223372036854775808 := by omega
  have HQ := Lib.hid hq
  clear hl hm hM h1 hq h0
  go_enter Try.func55, Try.ntmps55
  go_wp2_with fail
  clear E l0 l1
  obtain rfl := HM.out
  refine (ref_low (m * 4 + 2) 4 _ HQ.out (by omega)).mono ?_
  rintro e w' ⟨v', rfl, h1, h2, h3⟩
  go_wp2
  go_ret
  exact ⟨v', rfl, h1, h2, h3⟩


theorem kN_step {m j : Nat} (h4 : 4 ≤ j) (h8 : j < 8) : 0 < m / 2 ^ (8 * j) ↔ j < kN m := by
  have hj : j = 4 ∨ j = 5 ∨ j = 6 ∨ j = 7 := by omega
  have key : ∀ c : Nat, 0 < c → (0 < m / c ↔ c ≤ m) := fun c hc => by
    constructor
    · intro h
      apply Nat.le_of_not_lt
      intro hl
      rw [Nat.div_eq_of_lt hl] at h
      omega
    · intro h; exact Nat.div_pos h hc
  rw [key _ (Nat.two_pow_pos _)]
  unfold kN
  rcases hj with rfl | rfl | rfl | rfl
  all_goals
    by_cases c1 : m < 4294967296
    · rw [if_pos c1]; omega
    rw [if_neg c1]
    by_cases c2 : m < 1099511627776
    · rw [if_pos c2]; omega
    rw [if_neg c2]
    by_cases c3 : m < 281474976710656
    · rw [if_pos c3]; omega
    rw [if_neg c3]
    by_cases c4 : m < 72057594037927936
    · rw [if_pos c4]; omega
    rw [if_neg c4]; omega

theorem kN_stepI {m j : Nat} (h4 : 4 ≤ j) (h8 : j < 8) : decide (0 < (m : Int) / 2 ^ (8 * j)) = decide (j < kN m) := by
  have := kN_step (m := m) h4 h8
  have e : (m : Int) / 2 ^ (8 * j) = ((m / 2 ^ (8 * j) : Nat) : Int) := by simp
  rw [decide_eq_decide, ← this, e]; omega

/-- A literal of one cell is the call's own. -/
theorem own_lit {w w2 : World} {x : Value} (hb : Below (w.alloc (.cells #[x] 5)).heap.size (w.alloc (.cells #[x] 5)) w2) : w2.ownsRow w.heap.size 5 1 (.slice (some ⟨w.heap.size, 0, none⟩) 1 1) 1 [x] := by
  refine ⟨rfl, .inr ⟨w.heap.size, 1, #[x], rfl, Nat.le_refl _, ?_, Nat.le_refl _, by unfold maxLen; omega, rfl, rfl⟩⟩
  rw [hb.block _ (by simp)]
  exact MapKept.heap_alloc w _ |>.1

/-- What owns some bytes leads to them. -/
theorem own_src {B : Nat} {v : Value} {l : List Value} {w : World} (h : OwnB B v l w) (hl : 0 < l.length) :
    ∃ g cap, v = .slice (some ⟨g, 0, none⟩) l.length cap ∧ B ≤ g ∧ g < w.heap.size ∧ ∀ j u, l[j]? = some u → w.cell? ((⟨g, 0, none⟩ : Addr).add j) = some u := by
  have h' := h
  obtain ⟨h1, h2⟩ := h
  rcases h2 with ⟨rfl, h0⟩ | ⟨g, cap, cur, rfl, hg, hh, hr⟩
  · omega
  · have := World.ownsRow.lt h' g rfl
    exact ⟨g, cap, rfl, hg, this.2, fun j u hj => World.ownsRow.cells h' rfl j u hj⟩

theorem below_box' {w w2 : World} {o : Obj} (h : Below (w.alloc o).heap.size (w.alloc o) w2) : Below w.heap.size w w2 :=
  ((Below.refl _ _).alloc (Nat.le_refl _) o).trans (h.mono (by simp))

theorem Bs_one (l : List Nat) : ∀ u ∈ Bs l, u.oneCell' = true := by
  intro u hu
  simp only [Bs, List.mem_map] at hu
  obtain ⟨b, -, rfl⟩ := hu
  rfl

set_option maxHeartbeats 1000000 in
theorem ref_Num4 (n : Int) (m : Nat) (w : World) (hm : heldN n = m) (h0 : 1073741824 ≤ m) : Calls Try.prog 55 #[.int .i64 n] w (OwnRet w.heap.size (Bs (numL m)) w) := by
  obtain ⟨M, hM⟩ : ∃ M : Int, M = (m : Int) := ⟨_, rfl⟩
  have E : min (max n 0) 4611686018427387904 = M := by unfold heldN at hm; omega
  have l0 : 1073741824 ≤ M := by omega
  have l1 : M ≤ 4611686018427387904 := by unfold heldN at hm; omega
  have HM := Lib.hid hM
  have hk := kN_cases m
  have k8 : kN m ≤ 8 := by omega
  have k4 : 4 ≤ kN m := by omega
  have HK := Lib.hid hk
  have H0 := Lib.hid h0
  clear hm hM hk h0
  go_enter Try.func55, Try.ntmps55
  go_wp2_with fail
  clear E
  go_loop [3] (fun k => ∃ j : Nat, k = .int .i64 j ∧ 4 ≤ j ∧ j ≤ kN m) (fun k => 8 - (intOf k).toNat)
  case atStart => exact ⟨4, rfl, by omega, k4⟩
  case round =>
    obtain ⟨j, rfl, j4, jk⟩ := hrel
    by_cases c8 : j < 8
    · have hd := kN_stepI (m := m) j4 c8
      rw [← HM.out] at hd
      by_cases cj : j < kN m
      · rw [decide_eq_true cj] at hd
        go_wp2
        exact ⟨⟨j + 1, by go_num, by omega, by omega⟩, by simp [intOf]; omega⟩
      · rw [decide_eq_false cj] at hd
        rcases HK.out with hc | hc | hc | hc | hc
        · have hjc : j = 4 := by omega
          subst hjc
          have hd' : decide (0 < M / 4294967296) = false := by simpa using hd
          clear hd
          have HJ : Hid (4 = kN m) := Lib.hid hc.symm
          clear hc jk k8 k4
          have hor : bits .or .i64 0 3 = 3 := by decide
          obtain ⟨i0, hi, hz0, hz1, hz2⟩ := info_parts info5
          go_wp2_with fail
          obtain rfl := HM.out
          refine (ref_low m 4 _ (by omega) (by omega)).mono ?_
          rintro e w2 ⟨v2, rfl, ho2, hb2, -⟩
          have HO := own_lit hb2
          obtain ⟨g, cap, hv2, hg, hg2, hcells⟩ := own_src ho2 (by rw [Bs_length, lowL_length]; omega)
          have hlen : (Bs (lowL m 4)).length = 4 := by rw [Bs_length, lowL_length]
          rw [hlen] at hv2
          subst hv2
          have hfin : Bs (numL m) = [.int .u8 3] ++ Bs (lowL m 4) := by
            have h0 := H0.out
            unfold numL; rw [if_neg (by omega), if_neg (by omega), if_neg (by omega), ← HJ.out]; rfl
          have HF := Lib.hid hfin
          have HC := Lib.hid hcells
          have HL := Lib.hid hlen
          have hz : w.heap.size + 1 ≤ w2.heap.size := by have := hb2.size; simpa using this
          clear hfin hcells hlen ho2
          go_wp2_with (first | (at_builtin; refine wpList_append_own _ rfl _ _ 31 rfl w.heap.size 5 i0 (.int .u8 0) 1 1 Try.underlying31 hi hz0 hz1 hz2 rfl (by decide) _ _ _ rfl HO ⟨g, 0, none⟩ 4 cap (Bs (lowL m 4)) rfl (by rw [HL.out]) HC.out (Bs_one _) (by unfold maxLen; omega) (by omega) (by omega) ?_; intro v3 w3 hown3 hgrow3 _) | fail)
          go_ret
          refine ⟨v3, rfl, ?_, ?_, ?_⟩
          · unfold OwnB; rw [HF.out, List.length_append, HL.out]; exact hown3
          · exact (below_box' hb2).grown hgrow3 (by omega) (fun r hr => by cases hr; exact Nat.le_refl _)
          · have := hgrow3.size; omega
        · have hjc : j = 5 := by omega
          subst hjc
          have hd' : decide (0 < M / 1099511627776) = false := by simpa using hd
          clear hd
          have HJ : Hid (5 = kN m) := Lib.hid hc.symm
          clear hc jk k8 k4
          have hor : bits .or .i64 4 3 = 7 := by decide
          obtain ⟨i0, hi, hz0, hz1, hz2⟩ := info_parts info5
          go_wp2_with fail
          obtain rfl := HM.out
          refine (ref_low m 5 _ (by omega) (by omega)).mono ?_
          rintro e w2 ⟨v2, rfl, ho2, hb2, -⟩
          have HO := own_lit hb2
          obtain ⟨g, cap, hv2, hg, hg2, hcells⟩ := own_src ho2 (by rw [Bs_length, lowL_length]; omega)
          have hlen : (Bs (lowL m 5)).length = 5 := by rw [Bs_length, lowL_length]
          rw [hlen] at hv2
          subst hv2
          have hfin : Bs (numL m) = [.int .u8 7] ++ Bs (lowL m 5) := by
            have h0 := H0.out
            unfold numL; rw [if_neg (by omega), if_neg (by omega), if_neg (by omega), ← HJ.out]; rfl
          have HF := Lib.hid hfin
          have HC := Lib.hid hcells
          have HL := Lib.hid hlen
          have hz : w.heap.size + 1 ≤ w2.heap.size := by have := hb2.size; simpa using this
          clear hfin hcells hlen ho2
          go_wp2_with (first | (at_builtin; refine wpList_append_own _ rfl _ _ 31 rfl w.heap.size 5 i0 (.int .u8 0) 1 1 Try.underlying31 hi hz0 hz1 hz2 rfl (by decide) _ _ _ rfl HO ⟨g, 0, none⟩ 5 cap (Bs (lowL m 5)) rfl (by rw [HL.out]) HC.out (Bs_one _) (by unfold maxLen; omega) (by omega) (by omega) ?_; intro v3 w3 hown3 hgrow3 _) | fail)
          go_ret
          refine ⟨v3, rfl, ?_, ?_, ?_⟩
          · unfold OwnB; rw [HF.out, List.length_append, HL.out]; exact hown3
          · exact (below_box' hb2).grown hgrow3 (by omega) (fun r hr => by cases hr; exact Nat.le_refl _)
          · have := hgrow3.size; omega
        · have hjc : j = 6 := by omega
          subst hjc
          have hd' : decide (0 < M / 281474976710656) = false := by simpa using hd
          clear hd
          have HJ : Hid (6 = kN m) := Lib.hid hc.symm
          clear hc jk k8 k4
          have hor : bits .or .i64 8 3 = 11 := by decide
          obtain ⟨i0, hi, hz0, hz1, hz2⟩ := info_parts info5
          go_wp2_with fail
          obtain rfl := HM.out
          refine (ref_low m 6 _ (by omega) (by omega)).mono ?_
          rintro e w2 ⟨v2, rfl, ho2, hb2, -⟩
          have HO := own_lit hb2
          obtain ⟨g, cap, hv2, hg, hg2, hcells⟩ := own_src ho2 (by rw [Bs_length, lowL_length]; omega)
          have hlen : (Bs (lowL m 6)).length = 6 := by rw [Bs_length, lowL_length]
          rw [hlen] at hv2
          subst hv2
          have hfin : Bs (numL m) = [.int .u8 11] ++ Bs (lowL m 6) := by
            have h0 := H0.out
            unfold numL; rw [if_neg (by omega), if_neg (by omega), if_neg (by omega), ← HJ.out]; rfl
          have HF := Lib.hid hfin
          have HC := Lib.hid hcells
          have HL := Lib.hid hlen
          have hz : w.heap.size + 1 ≤ w2.heap.size := by have := hb2.size; simpa using this
          clear hfin hcells hlen ho2
          go_wp2_with (first | (at_builtin; refine wpList_append_own _ rfl _ _ 31 rfl w.heap.size 5 i0 (.int .u8 0) 1 1 Try.underlying31 hi hz0 hz1 hz2 rfl (by decide) _ _ _ rfl HO ⟨g, 0, none⟩ 6 cap (Bs (lowL m 6)) rfl (by rw [HL.out]) HC.out (Bs_one _) (by unfold maxLen; omega) (by omega) (by omega) ?_; intro v3 w3 hown3 hgrow3 _) | fail)
          go_ret
          refine ⟨v3, rfl, ?_, ?_, ?_⟩
          · unfold OwnB; rw [HF.out, List.length_append, HL.out]; exact hown3
          · exact (below_box' hb2).grown hgrow3 (by omega) (fun r hr => by cases hr; exact Nat.le_refl _)
          · have := hgrow3.size; omega
        · have hjc : j = 7 := by omega
          subst hjc
          have hd' : decide (0 < M / 72057594037927936) = false := by simpa using hd
          clear hd
          have HJ : Hid (7 = kN m) := Lib.hid hc.symm
          clear hc jk k8 k4
          have hor : bits .or .i64 12 3 = 15 := by decide
          obtain ⟨i0, hi, hz0, hz1, hz2⟩ := info_parts info5
          go_wp2_with fail
          obtain rfl := HM.out
          refine (ref_low m 7 _ (by omega) (by omega)).mono ?_
          rintro e w2 ⟨v2, rfl, ho2, hb2, -⟩
          have HO := own_lit hb2
          obtain ⟨g, cap, hv2, hg, hg2, hcells⟩ := own_src ho2 (by rw [Bs_length, lowL_length]; omega)
          have hlen : (Bs (lowL m 7)).length = 7 := by rw [Bs_length, lowL_length]
          rw [hlen] at hv2
          subst hv2
          have hfin : Bs (numL m) = [.int .u8 15] ++ Bs (lowL m 7) := by
            have h0 := H0.out
            unfold numL; rw [if_neg (by omega), if_neg (by omega), if_neg (by omega), ← HJ.out]; rfl
          have HF := Lib.hid hfin
          have HC := Lib.hid hcells
          have HL := Lib.hid hlen
          have hz : w.heap.size + 1 ≤ w2.heap.size := by have := hb2.size; simpa using this
          clear hfin hcells hlen ho2
          go_wp2_with (first | (at_builtin; refine wpList_append_own _ rfl _ _ 31 rfl w.heap.size 5 i0 (.int .u8 0) 1 1 Try.underlying31 hi hz0 hz1 hz2 rfl (by decide) _ _ _ rfl HO ⟨g, 0, none⟩ 7 cap (Bs (lowL m 7)) rfl (by rw [HL.out]) HC.out (Bs_one _) (by unfold maxLen; omega) (by omega) (by omega) ?_; intro v3 w3 hown3 hgrow3 _) | fail)
          go_ret
          refine ⟨v3, rfl, ?_, ?_, ?_⟩
          · unfold OwnB; rw [HF.out, List.length_append, HL.out]; exact hown3
          · exact (below_box' hb2).grown hgrow3 (by omega) (fun r hr => by cases hr; exact Nat.le_refl _)
          · have := hgrow3.size; omega
        · omega
    · have j8 : j = 8 := by omega
      rcases HK.out with hc | hc | hc | hc | hc
      · omega
      · omega
      · omega
      · omega
      · have hjc : j = 8 := by omega
        subst hjc
        have HJ : Hid (8 = kN m) := Lib.hid hc.symm
        clear hc jk k8 k4
        have hor : bits .or .i64 16 3 = 19 := by decide
        obtain ⟨i0, hi, hz0, hz1, hz2⟩ := info_parts info5
        go_wp2_with fail
        obtain rfl := HM.out
        refine (ref_low m 8 _ (by omega) (by omega)).mono ?_
        rintro e w2 ⟨v2, rfl, ho2, hb2, -⟩
        have HO := own_lit hb2
        obtain ⟨g, cap, hv2, hg, hg2, hcells⟩ := own_src ho2 (by rw [Bs_length, lowL_length]; omega)
        have hlen : (Bs (lowL m 8)).length = 8 := by rw [Bs_length, lowL_length]
        rw [hlen] at hv2
        subst hv2
        have hfin : Bs (numL m) = [.int .u8 19] ++ Bs (lowL m 8) := by
          have h0 := H0.out
          unfold numL; rw [if_neg (by omega), if_neg (by omega), if_neg (by omega), ← HJ.out]; rfl
        have HF := Lib.hid hfin
        have HC := Lib.hid hcells
        have HL := Lib.hid hlen
        have hz : w.heap.size + 1 ≤ w2.heap.size := by have := hb2.size; simpa using this
        clear hfin hcells hlen ho2
        go_wp2_with (first | (at_builtin; refine wpList_append_own _ rfl _ _ 31 rfl w.heap.size 5 i0 (.int .u8 0) 1 1 Try.underlying31 hi hz0 hz1 hz2 rfl (by decide) _ _ _ rfl HO ⟨g, 0, none⟩ 8 cap (Bs (lowL m 8)) rfl (by rw [HL.out]) HC.out (Bs_one _) (by unfold maxLen; omega) (by omega) (by omega) ?_; intro v3 w3 hown3 hgrow3 _) | fail)
        go_ret
        refine ⟨v3, rfl, ?_, ?_, ?_⟩
        · unfold OwnB; rw [HF.out, List.length_append, HL.out]; exact hown3
        · exact (below_box' hb2).grown hgrow3 (by omega) (fun r hr => by cases hr; exact Nat.le_refl _)
        · have := hgrow3.size; omega

end Go.Proofs.Ytbndegkgpoemnaa
