/-
  Contracts of compact: a number's size, its bytes.
-/
import Derived.Test.YtbndegkgpoemnaaCom1
import Derived.Test.YtbndegkgpoemnaaShelf
import Derived.Lib.ItoaNum
import Derived.Laws.BitsAllLaws
namespace Go.Proofs.Ytbndegkgpoemnaa
open Go.RowKit
set_option linter.unusedVariables false

def kN (n : Nat) : Nat := if n < 4294967296 then 4 else if n < 1099511627776 then 5 else if n < 281474976710656 then 6 else if n < 72057594037927936 then 7 else 8
def numL (n : Nat) : List Nat :=
  if n < 64 then lowL (4 * n) 1 else if n < 16384 then lowL (4 * n + 1) 2 else if n < 1073741824 then lowL (4 * n + 2) 4 else (4 * (kN n - 4) + 3) :: lowL n (kN n)
def sizeN (n : Nat) : Nat := if n < 64 then 1 else if n < 16384 then 2 else if n < 1073741824 then 4 else 1 + kN n

theorem bitLen_lt {n b : Nat} (hn : n < 2 ^ 64) (hb : 2 ^ b ≤ n) : b < Lib.bitLen n := by
  have hp : 0 < 2 ^ b := Nat.two_pow_pos b
  obtain ⟨-, -, h⟩ := Lib.bitLenAux_bounds 64 n hn (by omega)
  have h' : 2 ^ b < 2 ^ Lib.bitLen n := Nat.lt_of_le_of_lt hb h
  exact (Nat.pow_lt_pow_iff_right (by omega)).1 h'

theorem bytes_of {n : Nat} (h0 : 1073741824 ≤ n) (h1 : n ≤ 4611686018427387904) : (Lib.bitLen n + 7) / 8 = kN n ∧ Lib.bitLen n ≤ 63 := by
  have hn : n < 2 ^ 64 := by omega
  have u : Lib.bitLen n ≤ 63 := Lib.bitLen_le n 63 (by omega) (by omega)
  have l : 30 < Lib.bitLen n := bitLen_lt hn (by omega)
  refine ⟨?_, u⟩
  unfold kN
  by_cases c1 : n < 4294967296
  · have := Lib.bitLen_le n 32 (by omega) (by omega)
    rw [if_pos c1]; omega
  have l1 := bitLen_lt (b := 32) hn (by omega)
  by_cases c2 : n < 1099511627776
  · have := Lib.bitLen_le n 40 (by omega) (by omega)
    rw [if_neg c1, if_pos c2]; omega
  have l2 := bitLen_lt (b := 40) hn (by omega)
  by_cases c3 : n < 281474976710656
  · have := Lib.bitLen_le n 48 (by omega) (by omega)
    rw [if_neg c1, if_neg c2, if_pos c3]; omega
  have l3 := bitLen_lt (b := 48) hn (by omega)
  by_cases c4 : n < 72057594037927936
  · have := Lib.bitLen_le n 56 (by omega) (by omega)
    rw [if_neg c1, if_neg c2, if_neg c3, if_pos c4]; omega
  have l4 := bitLen_lt (b := 56) hn (by omega)
  rw [if_neg c1, if_neg c2, if_neg c3, if_neg c4]; omega

/-- A number as it is held within its bounds. -/
def heldN (n : Int) : Nat := (min (max n 0) 4611686018427387904).toNat

theorem compact_Size (n : Int) (w : World) (h1 : n ≤ 9223372036854775807) :
    Calls Try.prog 74 #[.int .i64 n] w fun e w' => e = .returned (.int .i64 (sizeN (heldN n))) ∧ w = w' := by
  by_cases c1 : n < 64
  · go_enter Try.func74, Try.ntmps74
    go_wp2_with fail
    go_ret
    exact ⟨ret_int (by unfold sizeN heldN; rw [if_pos (by omega)]; rfl), rfl⟩
  by_cases c2 : n < 16384
  · go_enter Try.func74, Try.ntmps74
    go_wp2_with fail
    go_ret
    exact ⟨ret_int (by unfold sizeN heldN; rw [if_neg (by omega), if_pos (by omega)]; rfl), rfl⟩
  by_cases c3 : n < 1073741824
  · go_enter Try.func74, Try.ntmps74
    go_wp2_with fail
    go_ret
    exact ⟨ret_int (by unfold sizeN heldN; rw [if_neg (by omega), if_neg (by omega), if_pos (by omega)]; rfl), rfl⟩
  · obtain ⟨m, hm⟩ : ∃ m : Nat, min n 4611686018427387904 = (m : Int) := ⟨(min n 4611686018427387904).toNat, by omega⟩
    have m0 : 1073741824 ≤ m := by omega
    have m1 : m ≤ 4611686018427387904 := by omega
    obtain ⟨hb, hu⟩ := bytes_of m0 m1
    have he : heldN n = m := by unfold heldN; omega
    have HE : Hid (heldN n = m) := Lib.hid he
    have HB := Lib.hid hb
    clear he hb
    go_enter Try.func74, Try.ntmps74
    go_wp2_with (first | (go_at_call 80; refine (Try.bits_Len _ _ (by omega) (by omega)).mono ?_; rintro e w' ⟨rfl, rfl⟩) | fail)
    go_ret
    exact ⟨ret_int (by rw [HE.out]; unfold sizeN; rw [if_neg (by omega), if_neg (by omega), if_neg (by omega), ← HB.out]; omega), rfl⟩

theorem i64_or_nat (a b : Nat) (ha : a < 9223372036854775808) (hb : b < 9223372036854775808) : bits .or .i64 (a : Int) (b : Int) = ((a ||| b : Nat) : Int) := by
  have hx : a ||| b < 2 ^ 63 := Nat.or_lt_two_pow (by omega) (by omega)
  have h1 : (BitVec.ofInt 64 (a : Int)).toNat = a := by
    rw [BitVec.ofInt_natCast, BitVec.toNat_ofNat]; exact Nat.mod_eq_of_lt (by omega)
  have h2 : (BitVec.ofInt 64 (b : Int)).toNat = b := by
    rw [BitVec.ofInt_natCast, BitVec.toNat_ofNat]; exact Nat.mod_eq_of_lt (by omega)
  show IntKind.i64.wrap ((BitVec.ofInt 64 (a : Int) ||| BitVec.ofInt 64 (b : Int)).toNat : Int) = _
  rw [BitVec.toNat_or, h1, h2, IntKind.wrap_i64]
  omega

theorem or_low {n c : Nat} (hc : c < 4) (hb : n * 4 < 9223372036854775808) : bits .or .i64 ((n : Int) * 4) (c : Int) = ((n * 4 + c : Nat) : Int) := by
  have h1 : ((n : Int) * 4) = ((n * 4 : Nat) : Int) := by omega
  have h2 : n * 4 + c = n * 4 ||| c := by
    have := Nat.two_pow_add_eq_or_of_lt (i := 2) (b := c) (by omega) n
    have e : 2 ^ 2 * n = n * 4 := by omega
    rw [e] at this; exact this
  rw [h1, h2]
  exact i64_or_nat (n * 4) c (by omega) (by omega)

theorem compact_put1 (B : Nat) (v : Value) (xs : List Value) (n : Nat) (w : World) (hn : n < 64) (hown : OwnB B v xs w) (hm : xs.length ≤ 1099511627776) (hB : B ≤ w.heap.size) :
    Calls Try.prog 57 #[v, .int .i64 n] w (OwnRet B (xs ++ Bs (numL n)) w) := by
  have hs : (sizeN (heldN n) : Int) = 1 := by unfold sizeN heldN; rw [if_pos (by omega)]; rfl
  have hl : numL n = lowL (n * 4) 1 := by unfold numL; rw [if_pos hn, Nat.mul_comm]
  rw [hl]
  clear hl
  go_enter Try.func57, Try.ntmps57
  go_wp2_with (first | (go_at_call 74; refine (compact_Size _ _ (by omega)).mono ?_; rintro e w' ⟨rfl, rfl⟩) | fail)
  refine (compact_low B v xs (n * 4) 1 _ (by omega) (by omega) hown hm hB).mono ?_
  rintro e w' ⟨v', rfl, h1, h2, h3⟩
  go_wp2
  go_ret
  exact ⟨v', rfl, h1, h2, h3⟩

theorem compact_put2 (B : Nat) (v : Value) (xs : List Value) (n : Nat) (w : World) (hn0 : 64 ≤ n) (hn : n < 16384) (hown : OwnB B v xs w) (hm : xs.length ≤ 1099511627776) (hB : B ≤ w.heap.size) :
    Calls Try.prog 57 #[v, .int .i64 n] w (OwnRet B (xs ++ Bs (numL n)) w) := by
  have hs : (sizeN (heldN n) : Int) = 2 := by unfold sizeN heldN; rw [if_neg (by omega), if_pos (by omega)]; rfl
  have hl : numL n = lowL (n * 4 + 1) 2 := by unfold numL; rw [if_neg (by omega), if_pos (by omega), Nat.mul_comm]
  rw [hl]
  have hor : bits .or .i64 ((n : Int) * 4) 1 = ((n * 4 + 1 : Nat) : Int) := or_low (c := 1) (by omega) (by omega)
  clear hl
  go_enter Try.func57, Try.ntmps57
  go_wp2_with (first | (go_at_call 74; refine (compact_Size _ _ (by omega)).mono ?_; rintro e w' ⟨rfl, rfl⟩) | fail)
  refine (compact_low B v xs (n * 4 + 1) 2 _ (by omega) (by omega) hown hm hB).mono ?_
  rintro e w' ⟨v', rfl, h1, h2, h3⟩
  go_wp2
  go_ret
  exact ⟨v', rfl, h1, h2, h3⟩

theorem compact_put3 (B : Nat) (v : Value) (xs : List Value) (n : Nat) (w : World) (hn0 : 16384 ≤ n) (hn : n < 1073741824) (hown : OwnB B v xs w) (hm : xs.length ≤ 1099511627776) (hB : B ≤ w.heap.size) :
    Calls Try.prog 57 #[v, .int .i64 n] w (OwnRet B (xs ++ Bs (numL n)) w) := by
  have hs : (sizeN (heldN n) : Int) = 4 := by unfold sizeN heldN; rw [if_neg (by omega), if_neg (by omega), if_pos (by omega)]; rfl
  have hl : numL n = lowL (n * 4 + 2) 4 := by unfold numL; rw [if_neg (by omega), if_neg (by omega), if_pos (by omega), Nat.mul_comm]
  rw [hl]
  have hor : bits .or .i64 ((n : Int) * 4) 2 = ((n * 4 + 2 : Nat) : Int) := or_low (c := 2) (by omega) (by omega)
  clear hl
  go_enter Try.func57, Try.ntmps57
  go_wp2_with (first | (go_at_call 74; refine (compact_Size _ _ (by omega)).mono ?_; rintro e w' ⟨rfl, rfl⟩) | fail)
  refine (compact_low B v xs (n * 4 + 2) 4 _ (by omega) (by omega) hown hm hB).mono ?_
  rintro e w' ⟨v', rfl, h1, h2, h3⟩
  go_wp2
  go_ret
  exact ⟨v', rfl, h1, h2, h3⟩

theorem kN_cases (n : Nat) : kN n = 4 ∨ kN n = 5 ∨ kN n = 6 ∨ kN n = 7 ∨ kN n = 8 := by
  unfold kN
  by_cases h1 : n < 4294967296
  · simp [h1]
  by_cases h2 : n < 1099511627776
  · simp [h1, h2]
  by_cases h3 : n < 281474976710656
  · simp [h1, h2, h3]
  by_cases h4 : n < 72057594037927936
  · simp [h1, h2, h3, h4]
  · simp [h1, h2, h3, h4]

set_option maxHeartbeats 1000000 in
theorem compact_put4_0 (B : Nat) (v : Value) (xs : List Value) (n : Nat) (w : World) (hn0 : 1073741824 ≤ n) (hn : n ≤ 4611686018427387904) (hk : kN n = 4) (hown : OwnB B v xs w) (hm : xs.length ≤ 1099511627700) (hB : B ≤ w.heap.size) :
    Calls Try.prog 57 #[v, .int .i64 n] w (OwnRet B (xs ++ Bs (numL n)) w) := by
  have he : heldN n = n := by unfold heldN; omega
  have hs : (sizeN (heldN n) : Int) = 5 := by rw [he]; unfold sizeN; rw [if_neg (by omega), if_neg (by omega), if_neg (by omega), hk]; rfl
  have hl : xs ++ Bs (numL n) = (xs ++ [.int .u8 3]) ++ Bs (lowL n 4) := by
    unfold numL; rw [if_neg (by omega), if_neg (by omega), if_neg (by omega), hk, List.append_assoc]; rfl
  rw [hl]
  have hor : bits .or .i64 0 3 = 3 := by decide
  clear hl he hk
  obtain ⟨i0, hi, hz0, hz1, hz2⟩ := info_parts info5
  have HO : w.ownsRow B 5 1 v xs.length xs := hown
  go_enter Try.func57, Try.ntmps57
  go_wp2_with (first | (go_at_call 74; refine (compact_Size _ _ (by omega)).mono ?_; rintro e w' ⟨rfl, rfl⟩) | (at_builtin; refine wpList_append_own _ rfl _ _ 31 rfl B 5 i0 (.int .u8 0) 1 1 Try.underlying31 hi hz0 hz1 hz2 rfl (by decide) _ _ _ rfl (HO.alloc _) ⟨w.heap.size, 0, none⟩ 1 1 [.int .u8 3] rfl rfl ?c1 ?c2 ?c3 ?c4 ?c5 ?_) | fail)
  case c1 =>
    intro j u hj
    match j, hj with
    | 0, hj => simp at hj; subst hj; simp [Addr.add]
  case c2 => intro u hu; simp at hu; subst hu; rfl
  case c3 => unfold maxLen; omega
  case c4 => omega
  case c5 => simp; omega
  intro v' w1 hown' hgrow _
  have hb1 : Below B w w1 := ((Below.refl _ _).alloc hB _).grown hgrow (by simp; omega) (fun r hr => (HO.lt r hr).1)
  have hs1 : B ≤ w1.heap.size := by have := hgrow.size; simp at this; omega
  have O1 : OwnB B v' (xs ++ [.int .u8 3]) w1 := by unfold OwnB; rw [List.length_append]; exact hown'
  have O2 := Lib.hid O1
  clear hown' hgrow HO hown O1
  go_wp2_with fail
  refine (compact_low B v' (xs ++ [.int .u8 3]) n 4 _ (by omega) (by omega) O2.out (by simp; omega) hs1).mono ?_
  rintro e w' ⟨v2, rfl, h1, h2, h3⟩
  go_wp2
  go_ret
  exact ⟨v2, rfl, h1, hb1.trans h2, h3⟩

set_option maxHeartbeats 1000000 in
theorem compact_put4_1 (B : Nat) (v : Value) (xs : List Value) (n : Nat) (w : World) (hn0 : 1073741824 ≤ n) (hn : n ≤ 4611686018427387904) (hk : kN n = 5) (hown : OwnB B v xs w) (hm : xs.length ≤ 1099511627700) (hB : B ≤ w.heap.size) :
    Calls Try.prog 57 #[v, .int .i64 n] w (OwnRet B (xs ++ Bs (numL n)) w) := by
  have he : heldN n = n := by unfold heldN; omega
  have hs : (sizeN (heldN n) : Int) = 6 := by rw [he]; unfold sizeN; rw [if_neg (by omega), if_neg (by omega), if_neg (by omega), hk]; rfl
  have hl : xs ++ Bs (numL n) = (xs ++ [.int .u8 7]) ++ Bs (lowL n 5) := by
    unfold numL; rw [if_neg (by omega), if_neg (by omega), if_neg (by omega), hk, List.append_assoc]; rfl
  rw [hl]
  have hor : bits .or .i64 4 3 = 7 := by decide
  clear hl he hk
  obtain ⟨i0, hi, hz0, hz1, hz2⟩ := info_parts info5
  have HO : w.ownsRow B 5 1 v xs.length xs := hown
  go_enter Try.func57, Try.ntmps57
  go_wp2_with (first | (go_at_call 74; refine (compact_Size _ _ (by omega)).mono ?_; rintro e w' ⟨rfl, rfl⟩) | (at_builtin; refine wpList_append_own _ rfl _ _ 31 rfl B 5 i0 (.int .u8 0) 1 1 Try.underlying31 hi hz0 hz1 hz2 rfl (by decide) _ _ _ rfl (HO.alloc _) ⟨w.heap.size, 0, none⟩ 1 1 [.int .u8 7] rfl rfl ?c1 ?c2 ?c3 ?c4 ?c5 ?_) | fail)
  case c1 =>
    intro j u hj
    match j, hj with
    | 0, hj => simp at hj; subst hj; simp [Addr.add]
  case c2 => intro u hu; simp at hu; subst hu; rfl
  case c3 => unfold maxLen; omega
  case c4 => omega
  case c5 => simp; omega
  intro v' w1 hown' hgrow _
  have hb1 : Below B w w1 := ((Below.refl _ _).alloc hB _).grown hgrow (by simp; omega) (fun r hr => (HO.lt r hr).1)
  have hs1 : B ≤ w1.heap.size := by have := hgrow.size; simp at this; omega
  have O1 : OwnB B v' (xs ++ [.int .u8 7]) w1 := by unfold OwnB; rw [List.length_append]; exact hown'
  have O2 := Lib.hid O1
  clear hown' hgrow HO hown O1
  go_wp2_with fail
  refine (compact_low B v' (xs ++ [.int .u8 7]) n 5 _ (by omega) (by omega) O2.out (by simp; omega) hs1).mono ?_
  rintro e w' ⟨v2, rfl, h1, h2, h3⟩
  go_wp2
  go_ret
  exact ⟨v2, rfl, h1, hb1.trans h2, h3⟩

set_option maxHeartbeats 1000000 in
theorem compact_put4_2 (B : Nat) (v : Value) (xs : List Value) (n : Nat) (w : World) (hn0 : 1073741824 ≤ n) (hn : n ≤ 4611686018427387904) (hk : kN n = 6) (hown : OwnB B v xs w) (hm : xs.length ≤ 1099511627700) (hB : B ≤ w.heap.size) :
    Calls Try.prog 57 #[v, .int .i64 n] w (OwnRet B (xs ++ Bs (numL n)) w) := by
  have he : heldN n = n := by unfold heldN; omega
  have hs : (sizeN (heldN n) : Int) = 7 := by rw [he]; unfold sizeN; rw [if_neg (by omega), if_neg (by omega), if_neg (by omega), hk]; rfl
  have hl : xs ++ Bs (numL n) = (xs ++ [.int .u8 11]) ++ Bs (lowL n 6) := by
    unfold numL; rw [if_neg (by omega), if_neg (by omega), if_neg (by omega), hk, List.append_assoc]; rfl
  rw [hl]
  have hor : bits .or .i64 8 3 = 11 := by decide
  clear hl he hk
  obtain ⟨i0, hi, hz0, hz1, hz2⟩ := info_parts info5
  have HO : w.ownsRow B 5 1 v xs.length xs := hown
  go_enter Try.func57, Try.ntmps57
  go_wp2_with (first | (go_at_call 74; refine (compact_Size _ _ (by omega)).mono ?_; rintro e w' ⟨rfl, rfl⟩) | (at_builtin; refine wpList_append_own _ rfl _ _ 31 rfl B 5 i0 (.int .u8 0) 1 1 Try.underlying31 hi hz0 hz1 hz2 rfl (by decide) _ _ _ rfl (HO.alloc _) ⟨w.heap.size, 0, none⟩ 1 1 [.int .u8 11] rfl rfl ?c1 ?c2 ?c3 ?c4 ?c5 ?_) | fail)
  case c1 =>
    intro j u hj
    match j, hj with
    | 0, hj => simp at hj; subst hj; simp [Addr.add]
  case c2 => intro u hu; simp at hu; subst hu; rfl
  case c3 => unfold maxLen; omega
  case c4 => omega
  case c5 => simp; omega
  intro v' w1 hown' hgrow _
  have hb1 : Below B w w1 := ((Below.refl _ _).alloc hB _).grown hgrow (by simp; omega) (fun r hr => (HO.lt r hr).1)
  have hs1 : B ≤ w1.heap.size := by have := hgrow.size; simp at this; omega
  have O1 : OwnB B v' (xs ++ [.int .u8 11]) w1 := by unfold OwnB; rw [List.length_append]; exact hown'
  have O2 := Lib.hid O1
  clear hown' hgrow HO hown O1
  go_wp2_with fail
  refine (compact_low B v' (xs ++ [.int .u8 11]) n 6 _ (by omega) (by omega) O2.out (by simp; omega) hs1).mono ?_
  rintro e w' ⟨v2, rfl, h1, h2, h3⟩
  go_wp2
  go_ret
  exact ⟨v2, rfl, h1, hb1.trans h2, h3⟩

set_option maxHeartbeats 1000000 in
theorem compact_put4_3 (B : Nat) (v : Value) (xs : List Value) (n : Nat) (w : World) (hn0 : 1073741824 ≤ n) (hn : n ≤ 4611686018427387904) (hk : kN n = 7) (hown : OwnB B v xs w) (hm : xs.length ≤ 1099511627700) (hB : B ≤ w.heap.size) :
    Calls Try.prog 57 #[v, .int .i64 n] w (OwnRet B (xs ++ Bs (numL n)) w) := by
  have he : heldN n = n := by unfold heldN; omega
  have hs : (sizeN (heldN n) : Int) = 8 := by rw [he]; unfold sizeN; rw [if_neg (by omega), if_neg (by omega), if_neg (by omega), hk]; rfl
  have hl : xs ++ Bs (numL n) = (xs ++ [.int .u8 15]) ++ Bs (lowL n 7) := by
    unfold numL; rw [if_neg (by omega), if_neg (by omega), if_neg (by omega), hk, List.append_assoc]; rfl
  rw [hl]
  have hor : bits .or .i64 12 3 = 15 := by decide
  clear hl he hk
  obtain ⟨i0, hi, hz0, hz1, hz2⟩ := info_parts info5
  have HO : w.ownsRow B 5 1 v xs.length xs := hown
  go_enter Try.func57, Try.ntmps57
  go_wp2_with (first | (go_at_call 74; refine (compact_Size _ _ (by omega)).mono ?_; rintro e w' ⟨rfl, rfl⟩) | (at_builtin; refine wpList_append_own _ rfl _ _ 31 rfl B 5 i0 (.int .u8 0) 1 1 Try.underlying31 hi hz0 hz1 hz2 rfl (by decide) _ _ _ rfl (HO.alloc _) ⟨w.heap.size, 0, none⟩ 1 1 [.int .u8 15] rfl rfl ?c1 ?c2 ?c3 ?c4 ?c5 ?_) | fail)
  case c1 =>
    intro j u hj
    match j, hj with
    | 0, hj => simp at hj; subst hj; simp [Addr.add]
  case c2 => intro u hu; simp at hu; subst hu; rfl
  case c3 => unfold maxLen; omega
  case c4 => omega
  case c5 => simp; omega
  intro v' w1 hown' hgrow _
  have hb1 : Below B w w1 := ((Below.refl _ _).alloc hB _).grown hgrow (by simp; omega) (fun r hr => (HO.lt r hr).1)
  have hs1 : B ≤ w1.heap.size := by have := hgrow.size; simp at this; omega
  have O1 : OwnB B v' (xs ++ [.int .u8 15]) w1 := by unfold OwnB; rw [List.length_append]; exact hown'
  have O2 := Lib.hid O1
  clear hown' hgrow HO hown O1
  go_wp2_with fail
  refine (compact_low B v' (xs ++ [.int .u8 15]) n 7 _ (by omega) (by omega) O2.out (by simp; omega) hs1).mono ?_
  rintro e w' ⟨v2, rfl, h1, h2, h3⟩
  go_wp2
  go_ret
  exact ⟨v2, rfl, h1, hb1.trans h2, h3⟩

set_option maxHeartbeats 1000000 in
theorem compact_put4_4 (B : Nat) (v : Value) (xs : List Value) (n : Nat) (w : World) (hn0 : 1073741824 ≤ n) (hn : n ≤ 4611686018427387904) (hk : kN n = 8) (hown : OwnB B v xs w) (hm : xs.length ≤ 1099511627700) (hB : B ≤ w.heap.size) :
    Calls Try.prog 57 #[v, .int .i64 n] w (OwnRet B (xs ++ Bs (numL n)) w) := by
  have he : heldN n = n := by unfold heldN; omega
  have hs : (sizeN (heldN n) : Int) = 9 := by rw [he]; unfold sizeN; rw [if_neg (by omega), if_neg (by omega), if_neg (by omega), hk]; rfl
  have hl : xs ++ Bs (numL n) = (xs ++ [.int .u8 19]) ++ Bs (lowL n 8) := by
    unfold numL; rw [if_neg (by omega), if_neg (by omega), if_neg (by omega), hk, List.append_assoc]; rfl
  rw [hl]
  have hor : bits .or .i64 16 3 = 19 := by decide
  clear hl he hk
  obtain ⟨i0, hi, hz0, hz1, hz2⟩ := info_parts info5
  have HO : w.ownsRow B 5 1 v xs.length xs := hown
  go_enter Try.func57, Try.ntmps57
  go_wp2_with (first | (go_at_call 74; refine (compact_Size _ _ (by omega)).mono ?_; rintro e w' ⟨rfl, rfl⟩) | (at_builtin; refine wpList_append_own _ rfl _ _ 31 rfl B 5 i0 (.int .u8 0) 1 1 Try.underlying31 hi hz0 hz1 hz2 rfl (by decide) _ _ _ rfl (HO.alloc _) ⟨w.heap.size, 0, none⟩ 1 1 [.int .u8 19] rfl rfl ?c1 ?c2 ?c3 ?c4 ?c5 ?_) | fail)
  case c1 =>
    intro j u hj
    match j, hj with
    | 0, hj => simp at hj; subst hj; simp [Addr.add]
  case c2 => intro u hu; simp at hu; subst hu; rfl
  case c3 => unfold maxLen; omega
  case c4 => omega
  case c5 => simp; omega
  intro v' w1 hown' hgrow _
  have hb1 : Below B w w1 := ((Below.refl _ _).alloc hB _).grown hgrow (by simp; omega) (fun r hr => (HO.lt r hr).1)
  have hs1 : B ≤ w1.heap.size := by have := hgrow.size; simp at this; omega
  have O1 : OwnB B v' (xs ++ [.int .u8 19]) w1 := by unfold OwnB; rw [List.length_append]; exact hown'
  have O2 := Lib.hid O1
  clear hown' hgrow HO hown O1
  go_wp2_with fail
  refine (compact_low B v' (xs ++ [.int .u8 19]) n 8 _ (by omega) (by omega) O2.out (by simp; omega) hs1).mono ?_
  rintro e w' ⟨v2, rfl, h1, h2, h3⟩
  go_wp2
  go_ret
  exact ⟨v2, rfl, h1, hb1.trans h2, h3⟩

theorem compact_put (B : Nat) (v : Value) (xs : List Value) (n : Nat) (w : World) (hn : n ≤ 4611686018427387904) (hown : OwnB B v xs w) (hm : xs.length ≤ 1099511627700) (hB : B ≤ w.heap.size) :
    Calls Try.prog 57 #[v, .int .i64 n] w (OwnRet B (xs ++ Bs (numL n)) w) := by
  by_cases c1 : n < 64
  · exact compact_put1 B v xs n w c1 hown (by omega) hB
  by_cases c2 : n < 16384
  · exact compact_put2 B v xs n w (by omega) c2 hown (by omega) hB
  by_cases c3 : n < 1073741824
  · exact compact_put3 B v xs n w (by omega) c3 hown (by omega) hB
  rcases kN_cases n with h | h | h | h | h
  · exact compact_put4_0 B v xs n w (by omega) hn h hown (by omega) hB
  · exact compact_put4_1 B v xs n w (by omega) hn h hown (by omega) hB
  · exact compact_put4_2 B v xs n w (by omega) hn h hown (by omega) hB
  · exact compact_put4_3 B v xs n w (by omega) hn h hown (by omega) hB
  · exact compact_put4_4 B v xs n w (by omega) hn h hown (by omega) hB

end Go.Proofs.Ytbndegkgpoemnaa
