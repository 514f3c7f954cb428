/-
  The walk of compact's law: a number that is written in a longer way is none.
-/
import Derived.Test.YtioleibcekobeaaComE
namespace Go.Proofs.Ytioleibcekobeaa
open Go.RowKit
set_option linter.unusedVariables false
set_option linter.unusedSimpArgs false

/-- Bytes that are as many as the first one tells, and make n: they are n's own, or none. -/
def Way (n : Nat) (l : List Nat) : Prop :=
  l ≠ [] ∧ (∀ b ∈ l, b < 256) ∧ toldN (l.getD 0 0) = l.length ∧ l.length ≤ 9 ∧ (if l.length > 4 then valL (l.drop 1) else valL l / 4) = n

theorem Way.take {n : Nat} {l : List Nat} (h : Way n l) (hn : n ≤ 4611686018427387904) : takeL l = if numL n = l then some (n, l.length) else none := by
  obtain ⟨h1, h2, h3, h4, h5⟩ := h
  have e : takeL l = if sizeN n = l.length then some (n, l.length) else none := by
    have a1 : ¬ (l.length > 9 ∨ l.length > l.length) := by omega
    simp only [takeL, if_neg h1, h3, if_neg a1, List.take_length, h5]
    by_cases hs : sizeN n = l.length
    · rw [if_neg (by omega), if_pos hs]
    · rw [if_pos (by omega), if_neg hs]
  rw [e]
  by_cases hs : sizeN n = l.length
  · have := numL_of (u := n) h1 h2 (by omega) (by rw [h3, List.take_length]; exact h5.symm) (by omega)
    rw [h3, List.take_length] at this
    rw [if_pos hs, if_pos this]
  · rw [if_neg hs, if_neg (fun h => hs (by rw [← numL_size, h]))]

theorem way_two {n : Nat} (h : n < 16384) : Way n (lowL (4 * n + 1) 2) := by
  refine ⟨by simp [lowL], lowL_lt _ _, ?_, by simp [lowL_length], ?_⟩
  · rw [lowL_length, lowL_cons, List.getD_cons_zero]; unfold toldN; rw [if_neg (by omega), if_pos (by omega)]
  · rw [if_neg (by rw [lowL_length]; omega), valL_lowL]; omega
theorem way_four {n : Nat} (h : n < 1073741824) : Way n (lowL (4 * n + 2) 4) := by
  refine ⟨by simp [lowL], lowL_lt _ _, ?_, by simp [lowL_length], ?_⟩
  · rw [lowL_length, lowL_cons, List.getD_cons_zero]; unfold toldN; rw [if_neg (by omega), if_neg (by omega), if_pos (by omega)]
  · rw [if_neg (by rw [lowL_length]; omega), valL_lowL]; omega
theorem way_long {n k : Nat} (hk : k ≤ 4) (h : n < 256 ^ (k + 4)) : Way n ((4 * k + 3) :: lowL n (k + 4)) := by
  refine ⟨by simp, ?_, ?_, by simp [lowL_length]; omega, ?_⟩
  · intro b hb
    rw [List.mem_cons] at hb
    rcases hb with rfl | hb
    · omega
    · exact lowL_lt _ _ b hb
  · rw [List.getD_cons_zero, List.length_cons, lowL_length]; unfold toldN; rw [if_neg (by omega), if_neg (by omega), if_neg (by omega)]; omega
  · rw [if_pos (by simp [lowL_length]), List.drop_succ_cons, List.drop_zero, valL_lowL, Nat.mod_eq_of_lt h]

set_option maxRecDepth 100000 in
set_option maxHeartbeats 4000000 in
theorem compactShort_0 (n : Nat) (hn2 : n < 16384) (w : World) :
    Calls Try.prog 6 #[.int .i64 n, .int .i64 0] w fun e w' => e = .returned (.bool true) ∧ Below w.heap.size w w' := by
  have hn : n ≤ 4611686018427387904 := by omega
  have d1 : decide ((n : Int) < 0) = false := by simp
  have d2 : decide ((4611686018427387904 : Int) < (n : Int)) = false := by simp; omega
  have hor : bits .or .i64 ((n : Int) * 4) 1 = ((n * 4 + 1 : Nat) : Int) := or_low (c := 1) (by omega) (by omega)
  have hw := way_two hn2
  have HW := Lib.hid hw
  have HN := Lib.hid hn
  clear hw hn
  go_enter Try.func6, Try.ntmps6
  go_upto_region 17 with fail
  obtain ⟨wq, hwq⟩ : ∃ wq, wq = w.alloc (.cells #[.int .u8 (((n : Int) * 4 + 1) % 256), .int .u8 ((n : Int) / 64)] 5) := ⟨_, rfl⟩
  rw [← hwq]
  have hB : Below w.heap.size w wq := by rw [hwq]; exact (Below.refl _ _).alloc (Nat.le_refl _) _
  have hll : lowL (4 * n + 1) 2 = [(4 * n + 1) % 256, n / 64] := by
    have : (4 * n + 1) / 256 % 256 = n / 64 := by omega
    simp [lowL, this]
  have hrl : RdB wq (.slice (some ⟨w.heap.size, 0, none⟩) 2 2) (lowL (4 * n + 1) 2) := by
    rw [hll, hwq]
    refine rdB_lit w [(4 * n + 1) % 256, n / 64] _ _ ?_
    intro i hi
    match i, hi with
    | 0, _ => exact congrArg some (congrArg (Value.int .u8) (by simp; omega))
    | 1, _ => exact congrArg some (congrArg (Value.int .u8) (by simp))
  obtain ⟨L, hL⟩ : ∃ L, L = lowL (4 * n + 1) 2 := ⟨_, rfl⟩
  have hlen : L.length = 2 := by rw [hL, lowL_length]
  rw [← hL] at hrl
  rw [← hL] at HW
  have HRL := Lib.hid hrl
  have HL := Lib.hid hlen
  clear hll hrl hL hlen hwq
  have htake := HW.out.take HN.out
  rw [HL.out] at htake
  have hheld : heldN (n : Int) = n := by have := HN.out; unfold heldN; omega
  have HD := Lib.hid hheld
  have HT := Lib.hid htake
  clear htake hheld
  by_cases hq : numL n = L
  · have HTx := HT.out
    have hst : ((strN (L)).toList == (strN (numL n)).toList) = true := by rw [hq]; simp
    have HST := Lib.hid hst
    rw [if_pos hq] at HTx
    have HT2 := Lib.hid HTx
    clear HTx hst hq
    go_wp2_with (first | (go_at_call 15; refine (compact_Take _ _ _ HRL.out HW.out.2.1).mono ?_; rw [HT2.out]; rintro e w8 ⟨rfl, rfl⟩; simp only [takeV]) | fail)
    refine wp_region_plan_lit (L := Later) 135 [.pure, .pin (.string (strN (L))), .pure, .any (fun w v => RdB w v (numL n)), .pin (.string (strN (numL n))), .pure] (by kernel_rfl) (by kernel_rfl) rfl (fun w => Below.refl _ w) Later.tr ⟨fun w w' v hL hR => RdB.below hR hL, trivial⟩ ?_
    iterate 1
      first
      | (refine wm_skip (by rfl) (fun K hK => ?_))
      | (refine wm_move (by rfl) (.inl rfl) (fun K hK => ?_))
      | (refine wm_move (by rfl) (.inr rfl) (fun K hK => ?_))
      | (refine wm_run (by rfl) (fun K hK => ?_)
         apply Exists.intro
         apply And.intro
         · intro w hL
           simp [go_sem, HST.out]
           rfl)
      simp only [Act.put, Act.eval, List.setIfInBounds_toArray, List.set_cons_succ, List.set_cons_zero]
      refine hK _ ?_
      clear hK K
    refine wm_pin (fun K hK => ⟨fun w' hL hk => ?_, ?_⟩)
    · have hstr := run_str (HRL.out.below (((Below.refl _ wq).drew).trans (hL.mono (Nat.le_refl _)))) HW.out.2.1
      go_wp2_with fail
      exact qr_pin rfl rfl rfl (Below.refl _ _)
    simp only [Act.put, Act.eval, List.setIfInBounds_toArray, List.set_cons_succ, List.set_cons_zero]
    refine hK _ ?_
    clear hK K
    iterate 1
      first
      | (refine wm_skip (by rfl) (fun K hK => ?_))
      | (refine wm_move (by rfl) (.inl rfl) (fun K hK => ?_))
      | (refine wm_move (by rfl) (.inr rfl) (fun K hK => ?_))
      | (refine wm_run (by rfl) (fun K hK => ?_)
         apply Exists.intro
         apply And.intro
         · intro w hL
           simp [go_sem, HST.out]
           rfl)
      simp only [Act.put, Act.eval, List.setIfInBounds_toArray, List.set_cons_succ, List.set_cons_zero]
      refine hK _ ?_
      clear hK K
    refine wm_any (fun K hK => ⟨fun w' hL hk => ?_, fun v94 => ?_⟩)
    · go_wp2_with (first | (go_at_call 22; refine (ref_Num _ _).mono ?_; rw [HD.out]; rintro e w9 ⟨v9, rfl, ho9, hb9, hs9⟩) | fail)
      exact qr_any rfl rfl rfl hb9 ho9.reads
    simp only [Act.put, Act.eval, List.setIfInBounds_toArray, List.set_cons_succ, List.set_cons_zero]
    refine hK _ ?_
    clear hK K
    refine wm_pin (fun K hK => ⟨fun w' hL hk => ?_, ?_⟩)
    · have h94 : RdB w' v94 (numL n) := hk.get 104 3 (by kernel_rfl) rfl
      have hstr := run_str h94 (numL_lt _)
      go_wp2_with fail
      exact qr_pin rfl rfl rfl (Below.refl _ _)
    simp only [Act.put, Act.eval, List.setIfInBounds_toArray, List.set_cons_succ, List.set_cons_zero]
    refine hK _ ?_
    clear hK K
    iterate 1
      first
      | (refine wm_skip (by rfl) (fun K hK => ?_))
      | (refine wm_move (by rfl) (.inl rfl) (fun K hK => ?_))
      | (refine wm_move (by rfl) (.inr rfl) (fun K hK => ?_))
      | (refine wm_run (by rfl) (fun K hK => ?_)
         apply Exists.intro
         apply And.intro
         · intro w hL
           simp [go_sem, HST.out]
           rfl)
      simp only [Act.put, Act.eval, List.setIfInBounds_toArray, List.set_cons_succ, List.set_cons_zero]
      refine hK _ ?_
      clear hK K
    refine wm_end (fun w' hL hk => ?_)
    clear hk
    go_wp2_with (first | (go_at_call 20; refine (known_calls _).mono ?_; rintro e w9 ⟨rfl, hb9⟩) | fail)
    go_ret
    exact ⟨rfl, (hB.drew.trans (hL.mono hB.size)).trans (hb9.mono (by have := hB.size; have := hL.size; simp at this; omega))⟩
  · have HTx := HT.out
    have hst : ((strN (L)).toList == (strN (numL n)).toList) = false := by rw [beq_eq_false_iff_ne]; exact fun h => hq ((strN_eq HW.out.2.1 (numL_lt n)).1 h).symm
    have HST := Lib.hid hst
    rw [if_neg hq] at HTx
    have HT2 := Lib.hid HTx
    clear HTx hst hq
    go_wp2_with (first | (go_at_call 15; refine (compact_Take _ _ _ HRL.out HW.out.2.1).mono ?_; rw [HT2.out]; rintro e w8 ⟨rfl, rfl⟩; simp only [takeV]) | fail)
    refine wp_region_plan_lit (L := Later) 135 [.pure, .pin (.string (strN (L))), .pure, .any (fun w v => RdB w v (numL n)), .pin (.string (strN (numL n))), .pure] (by kernel_rfl) (by kernel_rfl) rfl (fun w => Below.refl _ w) Later.tr ⟨fun w w' v hL hR => RdB.below hR hL, trivial⟩ ?_
    iterate 1
      first
      | (refine wm_skip (by rfl) (fun K hK => ?_))
      | (refine wm_move (by rfl) (.inl rfl) (fun K hK => ?_))
      | (refine wm_move (by rfl) (.inr rfl) (fun K hK => ?_))
      | (refine wm_run (by rfl) (fun K hK => ?_)
         apply Exists.intro
         apply And.intro
         · intro w hL
           simp [go_sem, HST.out]
           rfl)
      simp only [Act.put, Act.eval, List.setIfInBounds_toArray, List.set_cons_succ, List.set_cons_zero]
      refine hK _ ?_
      clear hK K
    refine wm_pin (fun K hK => ⟨fun w' hL hk => ?_, ?_⟩)
    · have hstr := run_str (HRL.out.below (((Below.refl _ wq).drew).trans (hL.mono (Nat.le_refl _)))) HW.out.2.1
      go_wp2_with fail
      exact qr_pin rfl rfl rfl (Below.refl _ _)
    simp only [Act.put, Act.eval, List.setIfInBounds_toArray, List.set_cons_succ, List.set_cons_zero]
    refine hK _ ?_
    clear hK K
    iterate 1
      first
      | (refine wm_skip (by rfl) (fun K hK => ?_))
      | (refine wm_move (by rfl) (.inl rfl) (fun K hK => ?_))
      | (refine wm_move (by rfl) (.inr rfl) (fun K hK => ?_))
      | (refine wm_run (by rfl) (fun K hK => ?_)
         apply Exists.intro
         apply And.intro
         · intro w hL
           simp [go_sem, HST.out]
           rfl)
      simp only [Act.put, Act.eval, List.setIfInBounds_toArray, List.set_cons_succ, List.set_cons_zero]
      refine hK _ ?_
      clear hK K
    refine wm_any (fun K hK => ⟨fun w' hL hk => ?_, fun v94 => ?_⟩)
    · go_wp2_with (first | (go_at_call 22; refine (ref_Num _ _).mono ?_; rw [HD.out]; rintro e w9 ⟨v9, rfl, ho9, hb9, hs9⟩) | fail)
      exact qr_any rfl rfl rfl hb9 ho9.reads
    simp only [Act.put, Act.eval, List.setIfInBounds_toArray, List.set_cons_succ, List.set_cons_zero]
    refine hK _ ?_
    clear hK K
    refine wm_pin (fun K hK => ⟨fun w' hL hk => ?_, ?_⟩)
    · have h94 : RdB w' v94 (numL n) := hk.get 104 3 (by kernel_rfl) rfl
      have hstr := run_str h94 (numL_lt _)
      go_wp2_with fail
      exact qr_pin rfl rfl rfl (Below.refl _ _)
    simp only [Act.put, Act.eval, List.setIfInBounds_toArray, List.set_cons_succ, List.set_cons_zero]
    refine hK _ ?_
    clear hK K
    iterate 1
      first
      | (refine wm_skip (by rfl) (fun K hK => ?_))
      | (refine wm_move (by rfl) (.inl rfl) (fun K hK => ?_))
      | (refine wm_move (by rfl) (.inr rfl) (fun K hK => ?_))
      | (refine wm_run (by rfl) (fun K hK => ?_)
         apply Exists.intro
         apply And.intro
         · intro w hL
           simp [go_sem, HST.out]
           rfl)
      simp only [Act.put, Act.eval, List.setIfInBounds_toArray, List.set_cons_succ, List.set_cons_zero]
      refine hK _ ?_
      clear hK K
    refine wm_end (fun w' hL hk => ?_)
    clear hk
    go_wp2_with (first | (go_at_call 20; refine (known_calls _).mono ?_; rintro e w9 ⟨rfl, hb9⟩) | fail)
    go_ret
    exact ⟨rfl, (hB.drew.trans (hL.mono hB.size)).trans (hb9.mono (by have := hB.size; have := hL.size; simp at this; omega))⟩

set_option maxRecDepth 100000 in
set_option maxHeartbeats 4000000 in
theorem compactShort_1 (n : Nat) (hn2 : n < 1073741824) (w : World) :
    Calls Try.prog 6 #[.int .i64 n, .int .i64 1] w fun e w' => e = .returned (.bool true) ∧ Below w.heap.size w w' := by
  have hn : n ≤ 4611686018427387904 := by omega
  have d1 : decide ((n : Int) < 0) = false := by simp
  have d2 : decide ((4611686018427387904 : Int) < (n : Int)) = false := by simp; omega
  have hor : bits .or .i64 ((n : Int) * 4) 2 = ((n * 4 + 2 : Nat) : Int) := or_low (c := 2) (by omega) (by omega)
  have hw := way_four hn2
  have HW := Lib.hid hw
  have HN := Lib.hid hn
  have HN2 := Lib.hid hn2
  have hi2 : (n : Int) < 1073741824 := by omega
  clear hw hn hn2
  go_enter Try.func6, Try.ntmps6
  go_upto_region 17 with fail
  obtain ⟨wq, hwq⟩ : ∃ wq, wq = w.alloc (.cells #[.int .u8 (((n : Int) * 4 + 2) % 256), .int .u8 ((n : Int) / 64 % 256), .int .u8 ((n : Int) / 16384 % 256), .int .u8 ((n : Int) / 4194304)] 5) := ⟨_, rfl⟩
  rw [← hwq]
  have hB : Below w.heap.size w wq := by rw [hwq]; exact (Below.refl _ _).alloc (Nat.le_refl _) _
  have hn2 := HN2.out
  have hll : lowL (4 * n + 2) 4 = [(4 * n + 2) % 256, n / 64 % 256, n / 16384 % 256, n / 4194304] := by
    have e1 : (4 * n + 2) / 256 % 256 = n / 64 % 256 := by omega
    have e2 : (4 * n + 2) / 65536 % 256 = n / 16384 % 256 := by omega
    have e3 : (4 * n + 2) / 16777216 % 256 = n / 4194304 := by omega
    simp [lowL, e1, e2, e3]
  have hrl : RdB wq (.slice (some ⟨w.heap.size, 0, none⟩) 4 4) (lowL (4 * n + 2) 4) := by
    rw [hll, hwq]
    refine rdB_lit w [(4 * n + 2) % 256, n / 64 % 256, n / 16384 % 256, n / 4194304] _ _ ?_
    intro i hi
    match i, hi with
    | 0, _ => exact congrArg some (congrArg (Value.int .u8) (by simp; omega))
    | 1, _ => exact congrArg some (congrArg (Value.int .u8) (by simp))
    | 2, _ => exact congrArg some (congrArg (Value.int .u8) (by simp))
    | 3, _ => exact congrArg some (congrArg (Value.int .u8) (by simp))
  obtain ⟨L, hL⟩ : ∃ L, L = lowL (4 * n + 2) 4 := ⟨_, rfl⟩
  have hlen : L.length = 4 := by rw [hL, lowL_length]
  rw [← hL] at hrl
  rw [← hL] at HW
  have HRL := Lib.hid hrl
  have HL := Lib.hid hlen
  clear hll hrl hL hlen hwq hn2
  have htake := HW.out.take HN.out
  rw [HL.out] at htake
  have hheld : heldN (n : Int) = n := by have := HN.out; unfold heldN; omega
  have HD := Lib.hid hheld
  have HT := Lib.hid htake
  clear htake hheld
  by_cases hq : numL n = L
  · have HTx := HT.out
    have hst : ((strN (L)).toList == (strN (numL n)).toList) = true := by rw [hq]; simp
    have HST := Lib.hid hst
    rw [if_pos hq] at HTx
    have HT2 := Lib.hid HTx
    clear HTx hst hq
    go_wp2_with (first | (go_at_call 15; refine (compact_Take _ _ _ HRL.out HW.out.2.1).mono ?_; rw [HT2.out]; rintro e w8 ⟨rfl, rfl⟩; simp only [takeV]) | fail)
    refine wp_region_plan_lit (L := Later) 135 [.pure, .pin (.string (strN (L))), .pure, .any (fun w v => RdB w v (numL n)), .pin (.string (strN (numL n))), .pure] (by kernel_rfl) (by kernel_rfl) rfl (fun w => Below.refl _ w) Later.tr ⟨fun w w' v hL hR => RdB.below hR hL, trivial⟩ ?_
    iterate 1
      first
      | (refine wm_skip (by rfl) (fun K hK => ?_))
      | (refine wm_move (by rfl) (.inl rfl) (fun K hK => ?_))
      | (refine wm_move (by rfl) (.inr rfl) (fun K hK => ?_))
      | (refine wm_run (by rfl) (fun K hK => ?_)
         apply Exists.intro
         apply And.intro
         · intro w hL
           simp [go_sem, HST.out]
           rfl)
      simp only [Act.put, Act.eval, List.setIfInBounds_toArray, List.set_cons_succ, List.set_cons_zero]
      refine hK _ ?_
      clear hK K
    refine wm_pin (fun K hK => ⟨fun w' hL hk => ?_, ?_⟩)
    · have hstr := run_str (HRL.out.below (((Below.refl _ wq).drew).trans (hL.mono (Nat.le_refl _)))) HW.out.2.1
      go_wp2_with fail
      exact qr_pin rfl rfl rfl (Below.refl _ _)
    simp only [Act.put, Act.eval, List.setIfInBounds_toArray, List.set_cons_succ, List.set_cons_zero]
    refine hK _ ?_
    clear hK K
    iterate 1
      first
      | (refine wm_skip (by rfl) (fun K hK => ?_))
      | (refine wm_move (by rfl) (.inl rfl) (fun K hK => ?_))
      | (refine wm_move (by rfl) (.inr rfl) (fun K hK => ?_))
      | (refine wm_run (by rfl) (fun K hK => ?_)
         apply Exists.intro
         apply And.intro
         · intro w hL
           simp [go_sem, HST.out]
           rfl)
      simp only [Act.put, Act.eval, List.setIfInBounds_toArray, List.set_cons_succ, List.set_cons_zero]
      refine hK _ ?_
      clear hK K
    refine wm_any (fun K hK => ⟨fun w' hL hk => ?_, fun v94 => ?_⟩)
    · go_wp2_with (first | (go_at_call 22; refine (ref_Num _ _).mono ?_; rw [HD.out]; rintro e w9 ⟨v9, rfl, ho9, hb9, hs9⟩) | fail)
      exact qr_any rfl rfl rfl hb9 ho9.reads
    simp only [Act.put, Act.eval, List.setIfInBounds_toArray, List.set_cons_succ, List.set_cons_zero]
    refine hK _ ?_
    clear hK K
    refine wm_pin (fun K hK => ⟨fun w' hL hk => ?_, ?_⟩)
    · have h94 : RdB w' v94 (numL n) := hk.get 104 3 (by kernel_rfl) rfl
      have hstr := run_str h94 (numL_lt _)
      go_wp2_with fail
      exact qr_pin rfl rfl rfl (Below.refl _ _)
    simp only [Act.put, Act.eval, List.setIfInBounds_toArray, List.set_cons_succ, List.set_cons_zero]
    refine hK _ ?_
    clear hK K
    iterate 1
      first
      | (refine wm_skip (by rfl) (fun K hK => ?_))
      | (refine wm_move (by rfl) (.inl rfl) (fun K hK => ?_))
      | (refine wm_move (by rfl) (.inr rfl) (fun K hK => ?_))
      | (refine wm_run (by rfl) (fun K hK => ?_)
         apply Exists.intro
         apply And.intro
         · intro w hL
           simp [go_sem, HST.out]
           rfl)
      simp only [Act.put, Act.eval, List.setIfInBounds_toArray, List.set_cons_succ, List.set_cons_zero]
      refine hK _ ?_
      clear hK K
    refine wm_end (fun w' hL hk => ?_)
    clear hk
    go_wp2_with (first | (go_at_call 20; refine (known_calls _).mono ?_; rintro e w9 ⟨rfl, hb9⟩) | fail)
    go_ret
    exact ⟨rfl, (hB.drew.trans (hL.mono hB.size)).trans (hb9.mono (by have := hB.size; have := hL.size; simp at this; omega))⟩
  · have HTx := HT.out
    have hst : ((strN (L)).toList == (strN (numL n)).toList) = false := by rw [beq_eq_false_iff_ne]; exact fun h => hq ((strN_eq HW.out.2.1 (numL_lt n)).1 h).symm
    have HST := Lib.hid hst
    rw [if_neg hq] at HTx
    have HT2 := Lib.hid HTx
    clear HTx hst hq
    go_wp2_with (first | (go_at_call 15; refine (compact_Take _ _ _ HRL.out HW.out.2.1).mono ?_; rw [HT2.out]; rintro e w8 ⟨rfl, rfl⟩; simp only [takeV]) | fail)
    refine wp_region_plan_lit (L := Later) 135 [.pure, .pin (.string (strN (L))), .pure, .any (fun w v => RdB w v (numL n)), .pin (.string (strN (numL n))), .pure] (by kernel_rfl) (by kernel_rfl) rfl (fun w => Below.refl _ w) Later.tr ⟨fun w w' v hL hR => RdB.below hR hL, trivial⟩ ?_
    iterate 1
      first
      | (refine wm_skip (by rfl) (fun K hK => ?_))
      | (refine wm_move (by rfl) (.inl rfl) (fun K hK => ?_))
      | (refine wm_move (by rfl) (.inr rfl) (fun K hK => ?_))
      | (refine wm_run (by rfl) (fun K hK => ?_)
         apply Exists.intro
         apply And.intro
         · intro w hL
           simp [go_sem, HST.out]
           rfl)
      simp only [Act.put, Act.eval, List.setIfInBounds_toArray, List.set_cons_succ, List.set_cons_zero]
      refine hK _ ?_
      clear hK K
    refine wm_pin (fun K hK => ⟨fun w' hL hk => ?_, ?_⟩)
    · have hstr := run_str (HRL.out.below (((Below.refl _ wq).drew).trans (hL.mono (Nat.le_refl _)))) HW.out.2.1
      go_wp2_with fail
      exact qr_pin rfl rfl rfl (Below.refl _ _)
    simp only [Act.put, Act.eval, List.setIfInBounds_toArray, List.set_cons_succ, List.set_cons_zero]
    refine hK _ ?_
    clear hK K
    iterate 1
      first
      | (refine wm_skip (by rfl) (fun K hK => ?_))
      | (refine wm_move (by rfl) (.inl rfl) (fun K hK => ?_))
      | (refine wm_move (by rfl) (.inr rfl) (fun K hK => ?_))
      | (refine wm_run (by rfl) (fun K hK => ?_)
         apply Exists.intro
         apply And.intro
         · intro w hL
           simp [go_sem, HST.out]
           rfl)
      simp only [Act.put, Act.eval, List.setIfInBounds_toArray, List.set_cons_succ, List.set_cons_zero]
      refine hK _ ?_
      clear hK K
    refine wm_any (fun K hK => ⟨fun w' hL hk => ?_, fun v94 => ?_⟩)
    · go_wp2_with (first | (go_at_call 22; refine (ref_Num _ _).mono ?_; rw [HD.out]; rintro e w9 ⟨v9, rfl, ho9, hb9, hs9⟩) | fail)
      exact qr_any rfl rfl rfl hb9 ho9.reads
    simp only [Act.put, Act.eval, List.setIfInBounds_toArray, List.set_cons_succ, List.set_cons_zero]
    refine hK _ ?_
    clear hK K
    refine wm_pin (fun K hK => ⟨fun w' hL hk => ?_, ?_⟩)
    · have h94 : RdB w' v94 (numL n) := hk.get 104 3 (by kernel_rfl) rfl
      have hstr := run_str h94 (numL_lt _)
      go_wp2_with fail
      exact qr_pin rfl rfl rfl (Below.refl _ _)
    simp only [Act.put, Act.eval, List.setIfInBounds_toArray, List.set_cons_succ, List.set_cons_zero]
    refine hK _ ?_
    clear hK K
    iterate 1
      first
      | (refine wm_skip (by rfl) (fun K hK => ?_))
      | (refine wm_move (by rfl) (.inl rfl) (fun K hK => ?_))
      | (refine wm_move (by rfl) (.inr rfl) (fun K hK => ?_))
      | (refine wm_run (by rfl) (fun K hK => ?_)
         apply Exists.intro
         apply And.intro
         · intro w hL
           simp [go_sem, HST.out]
           rfl)
      simp only [Act.put, Act.eval, List.setIfInBounds_toArray, List.set_cons_succ, List.set_cons_zero]
      refine hK _ ?_
      clear hK K
    refine wm_end (fun w' hL hk => ?_)
    clear hk
    go_wp2_with (first | (go_at_call 20; refine (known_calls _).mono ?_; rintro e w9 ⟨rfl, hb9⟩) | fail)
    go_ret
    exact ⟨rfl, (hB.drew.trans (hL.mono hB.size)).trans (hb9.mono (by have := hB.size; have := hL.size; simp at this; omega))⟩

theorem ways {k : Nat} (h : k ≤ 4) : bits .or .i64 ((k : Int) * 4) 3 = ((k * 4 + 3 : Nat) : Int) := or_low (c := 3) (by omega) (by omega)

set_option maxRecDepth 100000 in
set_option maxHeartbeats 4000000 in
theorem compactShort_2 (n k : Nat) (hn : n ≤ 4611686018427387904) (hk : k ≤ 4) (w : World) :
    Calls Try.prog 6 #[.int .i64 n, .int .i64 ((k : Int) + 2)] w fun e w' => e = .returned (.bool true) ∧ Below w.heap.size w w' := by
  obtain ⟨i0, hi, hz0, hz1, hz2⟩ := info_parts info5
  have d1 : decide ((n : Int) < 0) = false := by simp
  have d2 : decide ((4611686018427387904 : Int) < (n : Int)) = false := by simp; omega
  have d3 : decide ((k : Int) + 2 < 0) = false := by simp; omega
  have d4 : decide ((6 : Int) < (k : Int) + 2) = false := by simp; omega
  have d5 : ((k : Int) + 2 == 0) = false := by rw [beq_eq_false_iff_ne]; omega
  have d6 : ((k : Int) + 2 == 1) = false := by rw [beq_eq_false_iff_ne]; omega
  have d7 : decide ((2 : Int) ≤ (k : Int) + 2) = true := by simp; omega
  have d8 : (k : Int) + 2 - 2 = (k : Int) := by omega
  have d9 : (k : Int) + 2 + 2 = (k : Int) + 4 := by omega
  have hor := ways hk
  have hi1 : (n : Int) ≤ 4611686018427387904 := by omega
  have HN := Lib.hid hn
  obtain ⟨B, hBe⟩ : ∃ B, B = w.heap.size := ⟨_, rfl⟩
  have HBe := Lib.hid hBe
  clear hn hBe
  go_enter Try.func6, Try.ntmps6
  go_wp2_with fail
  go_loopw [5, 6] (fun b i wr => ∃ j : Nat, j ≤ k + 4 ∧ i = .int .i64 j ∧ OwnB B b (Bs ((4 * k + 3) :: lowL n j)) wr ∧ Below B w wr ∧ B ≤ wr.heap.size) (fun _ i _ => k + 4 - (intOf i).toNat)
  case atStart =>
    have e : Bs ((4 * k + 3) :: lowL n 0) = [.int .u8 ((k : Int) * 4 + 3)] := by
      show [Value.int .u8 ((4 * k + 3 : Nat) : Int)] = _
      rw [show ((4 * k + 3 : Nat) : Int) = (k : Int) * 4 + 3 by omega]
    refine ⟨0, Nat.zero_le _, rfl, ?_, ?_, ?_⟩
    · rw [e, HBe.out]; exact own_lit (Below.refl _ _)
    · rw [HBe.out]; exact (Below.refl _ _).alloc (Nat.le_refl _) _
    · rw [HBe.out]; simp
  case round =>
    obtain ⟨j, hj, rfl, ho, hb, hs⟩ := hrel
    by_cases hlt : j < k + 4
    · have hlt' : (j : Int) < (k : Int) + 4 := by omega
      have hlen : ((4 * k + 3) :: lowL n j).length = j + 1 := by simp [lowL_length]
      have HLn := Lib.hid hlen
      obtain ⟨q, hq⟩ : ∃ q : Nat, (n : Int) / 2 ^ (8 * j) = (q : Int) := ⟨n / 2 ^ (8 * j), by simp⟩
      have hqq : q % 256 = n / 256 ^ j % 256 := by
        have : (256 : Nat) ^ j = 2 ^ (8 * j) := by rw [Nat.pow_mul]
        have e : ((n / 2 ^ (8 * j) : Nat) : Int) = (q : Int) := by rw [← hq]; simp
        rw [this]; omega
      have HQ := Lib.hid hqq
      have hnext : (4 * k + 3) :: lowL n (j + 1) = ((4 * k + 3) :: lowL n j) ++ [q % 256] := by rw [lowL, hqq]; rfl
      have HNX := Lib.hid hnext
      clear hlen hqq hnext hlt
      go_wp2_with (first | (at_builtin; refine wp_app_B (l := [q % 256]) rfl rfl rfl rfl (own_kept ho ((Below.refl _ wr).alloc (Nat.le_refl _) _) hs) (rdB_lit wr [q % 256] _ _ (by intro i hi; match i, hi with | 0, _ => exact congrArg some (congrArg (Value.int .u8) (by simp)))) (by rw [HLn.out]; simp; omega) (by simp; omega) ?_; intro v2 w2 ho2 hb2 hs2 hg2; rw [← HNX.out] at ho2; have hb3 : Below B w w2 := (hb.alloc hs _).trans hb2) | fail)
      exact ⟨⟨j + 1, by omega, by go_num, ho2, hb3, hs2⟩, by simp [intOf]; omega⟩
    · have : j = k + 4 := by omega
      subst this
      have hge : decide (((k + 4 : Nat) : Int) < (k : Int) + 4) = false := by simp
      clear hlt
      have hpow : (256 : Nat) ^ (k + 4) = 2 ^ (8 * (k + 4)) := by rw [Nat.pow_mul]
      have hcase : (decide ((k : Int) + 2 < 6) = true ∧ decide ((0 : Int) < (n : Int) / 2 ^ (8 * (k + 4))) = true) ∨ (n < 256 ^ (k + 4) ∧ decide ((k : Int) + 2 < 6) = false) ∨ (n < 256 ^ (k + 4) ∧ decide ((k : Int) + 2 < 6) = true ∧ decide ((0 : Int) < (n : Int) / 2 ^ (8 * (k + 4))) = false) := by
        have hcast : (n : Int) / 2 ^ (8 * (k + 4)) = ((n / 2 ^ (8 * (k + 4)) : Nat) : Int) := by simp
        by_cases hk4 : k < 4
        · have c1 : decide ((k : Int) + 2 < 6) = true := by simp; omega
          by_cases hf : n < 256 ^ (k + 4)
          · refine .inr (.inr ⟨hf, c1, ?_⟩)
            rw [hcast, Nat.div_eq_of_lt (by rw [← hpow]; exact hf)]; rfl
          · refine .inl ⟨c1, ?_⟩
            have := Nat.div_pos (a := n) (b := 2 ^ (8 * (k + 4))) (by rw [← hpow]; omega) (Nat.two_pow_pos _)
            rw [hcast]; simp; omega
        · have : k = 4 := by omega
          subst this
          have c1 : decide (((4 : Nat) : Int) + 2 < 6) = false := by simp
          refine .inr (.inl ⟨?_, c1⟩)
          have := HN.out
          have e8 : (256 : Nat) ^ (4 + 4) = 18446744073709551616 := rfl
          omega
      have hBw : Below w.heap.size w wr := by rw [← HBe.out]; exact hb
      clear hpow
      rcases hcase with ⟨c1, c2⟩ | ⟨hfit, c1⟩ | ⟨hfit, c1, c2⟩
      · go_wp2_with fail
        go_ret
        exact ⟨rfl, hBw⟩
      all_goals
        have hw := way_long hk hfit
        have HW := Lib.hid hw
        have HFIT := Lib.hid hfit
        obtain ⟨L, hL⟩ : ∃ L, L = (4 * k + 3) :: lowL n (k + 4) := ⟨_, rfl⟩
        have hlen : L.length = k + 5 := by rw [hL]; simp [lowL_length]
        rw [← hL] at ho
        rw [← hL] at HW
        obtain ⟨g, cap, hv, -, -, hc, -, -⟩ := own_open ho (by omega)
        have hrl := ho.reads
        rw [hlen] at hv
        subst hv
        obtain ⟨wq, hwq⟩ : ∃ wq, wq = wr := ⟨_, rfl⟩
        rw [← hwq] at hrl hBw ⊢
        have hB := hBw
        have HRL := Lib.hid hrl
        have HL := Lib.hid hlen
        clear hrl hL hlen hwq hw hfit hc ho hb hs hBw
        have htake := HW.out.take HN.out
        rw [HL.out] at htake
        have hheld : heldN (n : Int) = n := by have := HN.out; unfold heldN; omega
        have HD := Lib.hid hheld
        have HT := Lib.hid htake
        clear htake hheld
        by_cases hq : numL n = L
        · have HTx := HT.out
          have hst : ((strN (L)).toList == (strN (numL n)).toList) = true := by rw [hq]; simp
          have HST := Lib.hid hst
          rw [if_pos hq] at HTx
          have HT2 := Lib.hid HTx
          clear HTx hst hq
          go_wp2_with (first | (go_at_call 15; refine (compact_Take _ _ _ HRL.out HW.out.2.1).mono ?_; rw [HT2.out]; rintro e w8 ⟨rfl, rfl⟩; simp only [takeV]) | fail)
          refine wp_region_plan_lit (L := Later) 135 [.pure, .pin (.string (strN (L))), .pure, .any (fun w v => RdB w v (numL n)), .pin (.string (strN (numL n))), .pure] (by kernel_rfl) (by kernel_rfl) rfl (fun w => Below.refl _ w) Later.tr ⟨fun w w' v hL hR => RdB.below hR hL, trivial⟩ ?_
          iterate 1
            first
            | (refine wm_skip (by rfl) (fun K hK => ?_))
            | (refine wm_move (by rfl) (.inl rfl) (fun K hK => ?_))
            | (refine wm_move (by rfl) (.inr rfl) (fun K hK => ?_))
            | (refine wm_run (by rfl) (fun K hK => ?_)
               apply Exists.intro
               apply And.intro
               · intro w hL
                 simp [go_sem, HST.out]
                 rfl)
            simp only [Act.put, Act.eval, List.setIfInBounds_toArray, List.set_cons_succ, List.set_cons_zero]
            refine hK _ ?_
            clear hK K
          refine wm_pin (fun K hK => ⟨fun w' hL hk => ?_, ?_⟩)
          · have hstr := run_str (HRL.out.below (((Below.refl _ wq).drew).trans (hL.mono (Nat.le_refl _)))) HW.out.2.1
            go_wp2_with fail
            exact qr_pin rfl rfl rfl (Below.refl _ _)
          simp only [Act.put, Act.eval, List.setIfInBounds_toArray, List.set_cons_succ, List.set_cons_zero]
          refine hK _ ?_
          clear hK K
          iterate 1
            first
            | (refine wm_skip (by rfl) (fun K hK => ?_))
            | (refine wm_move (by rfl) (.inl rfl) (fun K hK => ?_))
            | (refine wm_move (by rfl) (.inr rfl) (fun K hK => ?_))
            | (refine wm_run (by rfl) (fun K hK => ?_)
               apply Exists.intro
               apply And.intro
               · intro w hL
                 simp [go_sem, HST.out]
                 rfl)
            simp only [Act.put, Act.eval, List.setIfInBounds_toArray, List.set_cons_succ, List.set_cons_zero]
            refine hK _ ?_
            clear hK K
          refine wm_any (fun K hK => ⟨fun w' hL hk => ?_, fun v94 => ?_⟩)
          · go_wp2_with (first | (go_at_call 22; refine (ref_Num _ _).mono ?_; rw [HD.out]; rintro e w9 ⟨v9, rfl, ho9, hb9, hs9⟩) | fail)
            exact qr_any rfl rfl rfl hb9 ho9.reads
          simp only [Act.put, Act.eval, List.setIfInBounds_toArray, List.set_cons_succ, List.set_cons_zero]
          refine hK _ ?_
          clear hK K
          refine wm_pin (fun K hK => ⟨fun w' hL hk => ?_, ?_⟩)
          · have h94 : RdB w' v94 (numL n) := hk.get 104 3 (by kernel_rfl) rfl
            have hstr := run_str h94 (numL_lt _)
            go_wp2_with fail
            exact qr_pin rfl rfl rfl (Below.refl _ _)
          simp only [Act.put, Act.eval, List.setIfInBounds_toArray, List.set_cons_succ, List.set_cons_zero]
          refine hK _ ?_
          clear hK K
          iterate 1
            first
            | (refine wm_skip (by rfl) (fun K hK => ?_))
            | (refine wm_move (by rfl) (.inl rfl) (fun K hK => ?_))
            | (refine wm_move (by rfl) (.inr rfl) (fun K hK => ?_))
            | (refine wm_run (by rfl) (fun K hK => ?_)
               apply Exists.intro
               apply And.intro
               · intro w hL
                 simp [go_sem, HST.out]
                 rfl)
            simp only [Act.put, Act.eval, List.setIfInBounds_toArray, List.set_cons_succ, List.set_cons_zero]
            refine hK _ ?_
            clear hK K
          refine wm_end (fun w' hL hk => ?_)
          clear hk
          go_wp2_with (first | (go_at_call 20; refine (known_calls _).mono ?_; rintro e w9 ⟨rfl, hb9⟩) | fail)
          go_ret
          exact ⟨rfl, (hB.drew.trans (hL.mono hB.size)).trans (hb9.mono (by have := hB.size; have := hL.size; simp at this; omega))⟩
        · have HTx := HT.out
          have hst : ((strN (L)).toList == (strN (numL n)).toList) = false := by rw [beq_eq_false_iff_ne]; exact fun h => hq ((strN_eq HW.out.2.1 (numL_lt n)).1 h).symm
          have HST := Lib.hid hst
          rw [if_neg hq] at HTx
          have HT2 := Lib.hid HTx
          clear HTx hst hq
          go_wp2_with (first | (go_at_call 15; refine (compact_Take _ _ _ HRL.out HW.out.2.1).mono ?_; rw [HT2.out]; rintro e w8 ⟨rfl, rfl⟩; simp only [takeV]) | fail)
          refine wp_region_plan_lit (L := Later) 135 [.pure, .pin (.string (strN (L))), .pure, .any (fun w v => RdB w v (numL n)), .pin (.string (strN (numL n))), .pure] (by kernel_rfl) (by kernel_rfl) rfl (fun w => Below.refl _ w) Later.tr ⟨fun w w' v hL hR => RdB.below hR hL, trivial⟩ ?_
          iterate 1
            first
            | (refine wm_skip (by rfl) (fun K hK => ?_))
            | (refine wm_move (by rfl) (.inl rfl) (fun K hK => ?_))
            | (refine wm_move (by rfl) (.inr rfl) (fun K hK => ?_))
            | (refine wm_run (by rfl) (fun K hK => ?_)
               apply Exists.intro
               apply And.intro
               · intro w hL
                 simp [go_sem, HST.out]
                 rfl)
            simp only [Act.put, Act.eval, List.setIfInBounds_toArray, List.set_cons_succ, List.set_cons_zero]
            refine hK _ ?_
            clear hK K
          refine wm_pin (fun K hK => ⟨fun w' hL hk => ?_, ?_⟩)
          · have hstr := run_str (HRL.out.below (((Below.refl _ wq).drew).trans (hL.mono (Nat.le_refl _)))) HW.out.2.1
            go_wp2_with fail
            exact qr_pin rfl rfl rfl (Below.refl _ _)
          simp only [Act.put, Act.eval, List.setIfInBounds_toArray, List.set_cons_succ, List.set_cons_zero]
          refine hK _ ?_
          clear hK K
          iterate 1
            first
            | (refine wm_skip (by rfl) (fun K hK => ?_))
            | (refine wm_move (by rfl) (.inl rfl) (fun K hK => ?_))
            | (refine wm_move (by rfl) (.inr rfl) (fun K hK => ?_))
            | (refine wm_run (by rfl) (fun K hK => ?_)
               apply Exists.intro
               apply And.intro
               · intro w hL
                 simp [go_sem, HST.out]
                 rfl)
            simp only [Act.put, Act.eval, List.setIfInBounds_toArray, List.set_cons_succ, List.set_cons_zero]
            refine hK _ ?_
            clear hK K
          refine wm_any (fun K hK => ⟨fun w' hL hk => ?_, fun v94 => ?_⟩)
          · go_wp2_with (first | (go_at_call 22; refine (ref_Num _ _).mono ?_; rw [HD.out]; rintro e w9 ⟨v9, rfl, ho9, hb9, hs9⟩) | fail)
            exact qr_any rfl rfl rfl hb9 ho9.reads
          simp only [Act.put, Act.eval, List.setIfInBounds_toArray, List.set_cons_succ, List.set_cons_zero]
          refine hK _ ?_
          clear hK K
          refine wm_pin (fun K hK => ⟨fun w' hL hk => ?_, ?_⟩)
          · have h94 : RdB w' v94 (numL n) := hk.get 104 3 (by kernel_rfl) rfl
            have hstr := run_str h94 (numL_lt _)
            go_wp2_with fail
            exact qr_pin rfl rfl rfl (Below.refl _ _)
          simp only [Act.put, Act.eval, List.setIfInBounds_toArray, List.set_cons_succ, List.set_cons_zero]
          refine hK _ ?_
          clear hK K
          iterate 1
            first
            | (refine wm_skip (by rfl) (fun K hK => ?_))
            | (refine wm_move (by rfl) (.inl rfl) (fun K hK => ?_))
            | (refine wm_move (by rfl) (.inr rfl) (fun K hK => ?_))
            | (refine wm_run (by rfl) (fun K hK => ?_)
               apply Exists.intro
               apply And.intro
               · intro w hL
                 simp [go_sem, HST.out]
                 rfl)
            simp only [Act.put, Act.eval, List.setIfInBounds_toArray, List.set_cons_succ, List.set_cons_zero]
            refine hK _ ?_
            clear hK K
          refine wm_end (fun w' hL hk => ?_)
          clear hk
          go_wp2_with (first | (go_at_call 20; refine (known_calls _).mono ?_; rintro e w9 ⟨rfl, hb9⟩) | fail)
          go_ret
          exact ⟨rfl, (hB.drew.trans (hL.mono hB.size)).trans (hb9.mono (by have := hB.size; have := hL.size; simp at this; omega))⟩

theorem compactShort_walk (n way : Int) (w0 : (Lit.int .i64 n).wf = true) (w1 : (Lit.int .i64 way).wf = true) (w : World) :
    Calls Try.prog 6 #[.int .i64 n, .int .i64 way] w fun e w' => e = .returned (.bool true) ∧ Below w.heap.size w w' := by
  obtain ⟨n0, n1⟩ := fit_i64 w0
  obtain ⟨m0, m1⟩ := fit_i64 w1
  clear w0 w1
  have hq : (0 ≤ n ∧ n ≤ 4611686018427387904 ∧ 0 ≤ way ∧ way ≤ 6 ∧ ((way = 0 ∧ n < 16384) ∨ (way = 1 ∧ n < 1073741824) ∨ 2 ≤ way)) ∨ decide (n < 0) = true ∨ (decide (n < 0) = false ∧ decide (4611686018427387904 < n) = true) ∨ (decide (n < 0) = false ∧ decide (4611686018427387904 < n) = false ∧ decide (way < 0) = true) ∨
      (decide (n < 0) = false ∧ decide (4611686018427387904 < n) = false ∧ decide (way < 0) = false ∧ decide (6 < way) = true) ∨ (decide (n < 0) = false ∧ decide (4611686018427387904 < n) = false ∧ way = 0 ∧ decide (n < 16384) = false) ∨ (decide (n < 0) = false ∧ decide (4611686018427387904 < n) = false ∧ way = 1 ∧ decide (n < 1073741824) = false) := by
    simp only [decide_eq_true_eq, decide_eq_false_iff_not]; omega
  rcases hq with ⟨h1, h2, h3, h4, h5⟩ | h1 | ⟨h1, h2⟩ | ⟨h1, h2, h3⟩ | ⟨h1, h2, h3, h4⟩ | ⟨h1, h2, h3, h4⟩ | ⟨h1, h2, h3, h4⟩
  · obtain ⟨m, rfl⟩ := Int.eq_ofNat_of_zero_le h1
    rcases h5 with ⟨rfl, h5⟩ | ⟨rfl, h5⟩ | h5
    · exact compactShort_0 m (by omega) w
    · exact compactShort_1 m (by omega) w
    · obtain ⟨k, hk⟩ := Int.eq_ofNat_of_zero_le (show 0 ≤ way - 2 by omega)
      have : way = (k : Int) + 2 := by omega
      subst this
      exact compactShort_2 m k (by omega) (by omega) w
  all_goals
    try subst h3
    clear n0 n1 m0 m1
    go_enter Try.func6, Try.ntmps6
    go_wp2_with fail
    go_ret
    exact ⟨rfl, Below.refl _ _⟩

end Go.Proofs.Ytioleibcekobeaa
