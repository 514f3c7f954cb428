/-
  The walk of compact's law: rows that were put are told as they were; bytes that are cut tell fewer.
-/
import Derived.Test.YtioleibcekobeaaRow4
import Derived.Test.YtioleibcekobeaaComE
import Derived.Test.YtioleibcekobeaaComB
import Derived.Laws.Bits128
namespace Go.Proofs.Ytioleibcekobeaa
open Go.RowKit Go.Shelf
set_option linter.unusedVariables false

theorem i64_and65535 (n : Int) : bits .and .i64 n 65535 = n % 65536 := by
  have h1 : (BitVec.ofInt 64 65535).toNat = 2 ^ 16 - 1 := by decide
  have key : (BitVec.ofInt 64 n &&& BitVec.ofInt 64 65535).toNat = (n % ((2 ^ 64 : Nat) : Int)).toNat % 2 ^ 16 := by
    rw [BitVec.toNat_and, BitVec.toNat_ofInt, h1, Nat.and_two_pow_sub_one_eq_mod]
  show IntKind.i64.wrap ((BitVec.ofInt 64 n &&& BitVec.ofInt 64 65535).toNat : Nat) = n % 65536
  rw [key, IntKind.wrap_i64]
  omega

/-- What reads as these bytes, cut short. -/
theorem takeL_short {n : Nat} (hn : n ≤ 4611686018427387904) (t : List Nat) (c : Nat) (hc : c < sizeN n) : takeL ((numL n ++ t).take c) = none := by
  rw [List.take_append_of_le_length (by rw [numL_size]; omega)]
  exact takeL_cut c hc
theorem cutL_short {p : List Nat} (hp : p.length ≤ 4611686018427387904) (t : List Nat) {c : Nat} (hc : c < (rowL p).length) : cutL ((rowL p ++ t).take c) = none := by
  have hl := numL_size p.length
  have hrl : (rowL p).length = sizeN p.length + p.length := by rw [rowL, List.length_append, hl]
  rw [List.take_append_of_le_length (by omega)]
  by_cases h : c < sizeN p.length
  · have ht := takeL_short hp p c h
    unfold cutL rowL
    rw [ht]
  · have e : (rowL p).take c = numL p.length ++ p.take (c - sizeN p.length) := by
      rw [rowL, List.take_append, hl, List.take_of_length_le (by rw [hl]; omega)]
    unfold cutL
    rw [e, takeL_num hp]
    simp only [List.length_append, List.length_take, hl]
    rw [if_pos (by omega)]
theorem rowsOf_row {p : List Nat} (hp : p.length ≤ 4611686018427387904) (t : List Nat) : rowsOf (rowL p ++ t) = p :: rowsOf t := by
  rw [rowsOf_some (cutL_row hp t), List.drop_left]
theorem rowsOf_rowsL (l : List (List Nat)) (h : longL l ≤ 3000) : rowsOf (rowsL l) = l := by
  induction l with
  | nil => rfl
  | cons p l ih =>
    simp only [longL] at h
    rw [rowsL, rowsOf_row (by omega), ih (by omega)]
theorem rowsOf_cut (l : List (List Nat)) (h : longL l ≤ 3000) (c : Nat) (hc : c < (rowsL l).length) : rowsOf ((rowsL l).take c) <+: l ∧ (rowsOf ((rowsL l).take c)).length < l.length := by
  induction l generalizing c with
  | nil => simp [rowsL] at hc
  | cons p l ih =>
    simp only [longL] at h
    simp only [rowsL] at hc ⊢
    by_cases hlt : c < (rowL p).length
    · rw [rowsOf_none (cutL_short (by omega) _ hlt)]
      exact ⟨⟨_, rfl⟩, by simp⟩
    · rw [List.length_append] at hc
      have e : (rowL p ++ rowsL l).take c = rowL p ++ (rowsL l).take (c - (rowL p).length) := by
        rw [List.take_append, List.take_of_length_le (by omega)]
      rw [e, rowsOf_row (by omega)]
      obtain ⟨⟨t, ht⟩, h2⟩ := ih (by omega) (c - (rowL p).length) (by omega)
      exact ⟨⟨t, by rw [List.cons_append, ht]⟩, by simp only [List.length_cons]; omega⟩
theorem rowsL_pos {l : List (List Nat)} (h : l ≠ []) : 0 < (rowsL l).length := by
  cases l with
  | nil => exact absurd rfl h
  | cons p l =>
    have := numL_size p.length
    have := sizeN_le p.length
    simp only [rowsL, rowL, List.length_append]; omega
end Go.Proofs.Ytioleibcekobeaa
