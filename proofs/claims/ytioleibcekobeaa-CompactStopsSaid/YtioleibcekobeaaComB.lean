/-
  The walk of compact's law: a number that was put is taken.
-/
import Derived.Test.YtioleibcekobeaaApp
namespace Go.Proofs.Ytioleibcekobeaa
open Go.RowKit
set_option linter.unusedVariables false

theorem takeL_cut {n : Nat} (k : Nat) (hk : k < sizeN n) : takeL ((numL n).take k) = none := by
  by_cases h0 : k = 0
  · subst h0; rfl
  have hs := numL_size n
  have hne : (numL n).take k ≠ [] := by
    intro e
    have := congrArg List.length e
    rw [List.length_take] at this
    simp only [List.length_nil] at this
    have := (sizeN_le n).1
    omega
  have h1 : ((numL n).take k).getD 0 0 = (numL n).getD 0 0 := by
    simp only [List.getD_eq_getElem?_getD, List.getElem?_take]
    rw [if_pos (by omega)]
  simp only [takeL, if_neg hne, h1, numL_told]
  rw [if_pos (by right; rw [List.length_take]; omega)]

set_option maxHeartbeats 2000000 in
theorem compactBack_main (n : Nat) (v : Value) (l : List Nat) (w : World) (hn : n ≤ 4611686018427387904) (hl : l.length ≤ 200) (hb : ∀ b ∈ l, b < 256) (h : RdB w v l) :
    Calls Try.prog 5 #[.int .i64 n, v] w fun e w' => e = .returned (.bool true) ∧ Below w.heap.size w w' := by
  have HR : Hid (RdB w v l) := Lib.hid h
  obtain ⟨ao, cap, rfl⟩ := h.lenOf
  clear h
  have hheld : heldN (n : Int) = n := by unfold heldN; omega
  have hpl : (numsL [(n : Int)]) = numL n := by simp [numsL, hheld]
  have hlen : (numL n).length = sizeN n := numL_size n
  obtain ⟨z, hz⟩ : ∃ z, z = sizeN n := ⟨_, rfl⟩
  have z1 := (sizeN_le n).1
  have z9 := (sizeN_le n).2
  rw [← hz] at z1 z9 hlen
  have hsz := fun w => compact_Size (n : Int) w (by omega)
  rw [hheld, ← hz] at hsz
  have HH := Lib.hid hheld
  have HP := Lib.hid hpl
  have HL := Lib.hid hlen
  have HZ := Lib.hid hz
  have HS := Lib.hid hsz
  have HBd := Lib.hid hb
  clear hheld hpl hlen hz hsz hb
  have g0 : decide ((n : Int) < 0) = false := by simp
  have g1 : decide ((4611686018427387904 : Int) < (n : Int)) = false := by simp; omega
  have g2 : decide (200 < l.length) = false := by simp; omega
  obtain ⟨y, hy⟩ : ∃ y : Nat, z = y + 1 := ⟨z - 1, by omega⟩
  subst hy
  have hyl : y ≤ y + 1 + l.length := by omega
  have m1 : min ((y : Int) + 1) ((y : Int) + 1 + l.length) = (y : Int) + 1 := by omega
  have m2 : max (0 : Int) (y : Int) = (y : Int) := by omega
  have cutN : takeL ((numL n).take y) = none := takeL_cut y (by rw [← HZ.out]; omega)
  have takN : takeL (numL n ++ l) = some (n, y + 1) := by rw [takeL_num hn, ← HZ.out]
  have byt : ∀ b ∈ numL n ++ l, b < 256 := by
    intro b hb
    rw [List.mem_append] at hb
    exact hb.elim (numL_lt n b) (HBd.out b)
  have HT := Lib.hid takN
  have HC := Lib.hid cutN
  have HY := Lib.hid byt
  clear takN cutN byt
  go_enter Try.func5, Try.ntmps5
  go_wp2_with (first | (go_at_call 13; refine (compact_Put _ _ [] [(n : Int)] _ (rdB_nil _) (rdI_lit _ [(n : Int)] _ _ (by intro i hi; match i, hi with | 0, _ => rfl)) (by simp) (by simp)).mono ?_; rw [List.nil_append, HP.out]; rintro e w1 ⟨v1, rfl, ho1, hb1, hs1⟩; have hr1 := Lib.hid ((HR.out.below ((Below.refl _ w).alloc (Nat.le_refl _) (.cells #[.int .i64 (n : Int)] 3))).below hb1)) | (at_builtin; refine wp_app_B rfl rfl rfl rfl ho1 hr1.out (by rw [HL.out]; omega) hs1 ?_; intro v3 w3 ho3 hb3 hs3 hg3) | fail)
  obtain ⟨g, cap3, hv3, -, -, hc3, -, -⟩ := own_open ho3 (by rw [List.length_append, HL.out]; omega)
  have hr3 := ho3.reads
  have hl3 : (numL n ++ l).length = y + 1 + l.length := by rw [List.length_append, HL.out]
  rw [hl3] at hv3 hc3
  subst hv3
  have hrt := rd_take hr3 (k := y) (by omega)
  have htk : (numL n ++ l).take y = (numL n).take y := by rw [List.take_append_of_le_length (by rw [HL.out]; omega)]
  rw [htk] at hrt
  have HR3 := Lib.hid hr3
  have HRT := Lib.hid hrt
  clear hr3 hrt htk ho3 hl3
  have byc : ∀ b ∈ (numL n).take y, b < 256 := fun b hb => numL_lt n b (List.mem_of_mem_take hb)
  have HYC := Lib.hid byc
  clear byc
  go_wp2_with (first | (go_at_call 15; (with_reducible refine (compact_Take _ _ _ HR3.out HY.out).mono ?_); rw [HT.out]; rintro e w' ⟨rfl, rfl⟩; simp only [takeV]) | (go_at_call 15; (with_reducible refine (compact_Take _ _ _ HRT.out HYC.out).mono ?_); rw [HC.out]; rintro e w' ⟨rfl, rfl⟩; simp only [takeV]) | (go_at_call 21; refine (HS.out _).mono ?_; rintro e w' ⟨rfl, rfl⟩) | (go_at_call 20; refine (known_calls _).mono ?_; rintro e w4 ⟨rfl, hb4⟩) | fail)
  go_ret
  simp only [World.size_alloc] at hs1 hb1 hb3 hs3
  exact ⟨rfl, ((((Below.refl _ w).alloc (Nat.le_refl _) _).trans (hb1.mono (by omega))).trans (hb3.mono (by omega))).trans (hb4.mono (by omega))⟩

theorem compactBack_walk (n : Int) (w0 : (Lit.int .i64 n).wf = true) (v : Value) (l : List Nat) (w : World) (h : RdB w v l) (hb : ∀ b ∈ l, b < 256) (hm : l.length ≤ maxLen) :
    Calls Try.prog 5 #[.int .i64 n, v] w fun e w' => e = .returned (.bool true) ∧ Below w.heap.size w w' := by
  unfold maxLen at hm
  have hq : (0 ≤ n ∧ n ≤ 4611686018427387904 ∧ l.length ≤ 200) ∨ decide (n < 0) = true ∨ (decide (n < 0) = false ∧ decide (4611686018427387904 < n) = true) ∨ (decide (n < 0) = false ∧ decide (4611686018427387904 < n) = false ∧ decide ((200 : Int) < l.length) = true) := by
    simp; omega
  rcases hq with ⟨h1, h2, h3⟩ | h1 | ⟨h1, h2⟩ | ⟨h1, h2, h3⟩
  · obtain ⟨m, rfl⟩ := Int.eq_ofNat_of_zero_le h1
    exact compactBack_main m v l w (by omega) h3 hb h
  all_goals
    obtain ⟨ao, cap, rfl⟩ := h.lenOf
    clear h
    go_enter Try.func5, Try.ntmps5
    go_wp2_with fail
    go_ret
    exact ⟨rfl, Below.refl _ _⟩

end Go.Proofs.Ytioleibcekobeaa
