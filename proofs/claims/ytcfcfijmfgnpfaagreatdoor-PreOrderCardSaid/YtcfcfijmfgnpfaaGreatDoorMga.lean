/-
  Joined texts.
-/
import Derived.Test.YtcfcfijmfgnpfaaGreatDoorChecked
import Derived.WalkKit
import Derived.WalkSpells
import Derived.WalkLawsBesides
import Derived.Lib.Hide
import Derived.Below
import Derived.IntWalk
import Derived.Shelf.Small.Bits
import Derived.Shelf.Strconv.Itoa0
import Derived.Ground.SlbCloneProg
import Derived.Shelf.Bytes.SlClone
import Derived.Shelf.Bytes.Small
import Derived.Test.YtcfcfijmfgnpfaaGreatDoorProg
import Derived.Lib.ItoaNum
import Derived.Laws.BitsAllLaws
import Derived.Laws.Bits64b
import Derived.OwnWalk

section
namespace Go.Proofs.YtcfcfijmfgnpfaaGreatDoor
open Go.RowKit
set_option linter.unusedVariables false

theorem ret_int {k : IntKind} {a b : Int} (h : a = b) : Ending.returned (.int k a) = .returned (.int k b) := by rw [h]
theorem ret_bool {a b : Bool} (h : a = b) : Ending.returned (.bool a) = .returned (.bool b) := by rw [h]

theorem info5 : (Tryz.prog.info? 5).map (fun i => (i.zero, i.size, i.bytes)) = some (some (.int .u8 0), 1, 1) := by kernel_rfl

/-- Bytes as the cells of a row. -/
def Bs (l : List Nat) : List Value := l.map fun (b : Nat) => Value.int .u8 (b : Int)
/-- The lowest k bytes of n, the lowest first. -/
def lowL (n : Nat) : Nat → List Nat
  | 0 => []
  | k + 1 => lowL n k ++ [n / 256 ^ k % 256]
theorem lowL_length (n : Nat) : ∀ k, (lowL n k).length = k
  | 0 => rfl
  | k + 1 => by simp [lowL, lowL_length n k]
theorem Bs_append (a b : List Nat) : Bs (a ++ b) = Bs a ++ Bs b := by simp [Bs]
theorem Bs_length (a : List Nat) : (Bs a).length = a.length := by simp [Bs]

/-- A slice value owns these bytes' cells. -/
def OwnB (B : Nat) (v : Value) (l : List Value) (w : World) : Prop := w.ownsRow B 5 1 v l.length l

/-- A slice comes back that owns these cells; below B nothing has turned. -/
def OwnRet (B : Nat) (xs : List Value) (w : World) (e : Ending) (w' : World) : Prop :=
  ∃ v', e = .returned v' ∧ OwnB B v' xs w' ∧ Below B w w' ∧ B ≤ w'.heap.size

theorem own_low {B : Nat} {v' : Value} {xs L : List Value} {n j m : Nat} {w1 : World} (hL : L = xs ++ Bs (lowL n j)) (hq : m = n / 256 ^ j) (h : w1.ownsRow B 5 1 v' (L.length + 1) (L ++ [.int .u8 ((m : Int) % 256)])) :
    OwnB B v' (xs ++ Bs (lowL n (j + 1))) w1 := by
  have e : xs ++ Bs (lowL n (j + 1)) = L ++ [.int .u8 ((m : Int) % 256)] := by
    rw [hL, lowL, Bs_append, List.append_assoc, hq]; rfl
  unfold OwnB; rw [e, List.length_append]; exact h

set_option maxHeartbeats 1000000 in
theorem compact_low (B : Nat) (v : Value) (xs : List Value) (n k : Nat) (w : World) (hn : n < 9223372036854775808) (hk : k ≤ 9) (hown : OwnB B v xs w) (hm : xs.length ≤ 1099511627776) (hB : B ≤ w.heap.size) :
    Calls Tryz.prog 120 #[v, .int .i64 n, .int .i64 k] w (OwnRet B (xs ++ Bs (lowL n k)) w) := by
  obtain ⟨i0, hi, hz0, hz1, hz2⟩ := info_parts info5
  go_enter Tryz.func120, Tryz.ntmps120
  go_wp2
  go_loopw [0, 1, 8] (fun b q i wr => ∃ j m : Nat, j ≤ k ∧ i = .int .i64 j ∧ q = .int .i64 m ∧ m = n / 256 ^ j ∧ OwnB B b (xs ++ Bs (lowL n j)) wr ∧ Below B w wr ∧ B ≤ wr.heap.size) (fun _ _ i _ => k - (intOf i).toNat)
  case atStart => exact ⟨0, n, Nat.zero_le _, rfl, rfl, by simp, by simpa [lowL, Bs] using hown, Below.refl _ _, hB⟩
  case round =>
    obtain ⟨j, m, hj, rfl, rfl, hq, ho, hb, hs⟩ := hrel
    have hm : m ≤ n := by rw [hq]; exact Nat.div_le_self _ _
    have HQ := Lib.hid hq
    clear hq
    by_cases hlt : j < k
    · obtain ⟨L, hL⟩ : ∃ L, L = xs ++ Bs (lowL n j) := ⟨_, rfl⟩
      have hc1 : L.length = xs.length + j := by rw [hL, List.length_append, Bs_length, lowL_length]
      have ho' : wr.ownsRow B 5 1 u0 L.length L := by rw [hL]; exact ho
      have HC := Lib.hid hc1
      have HL := Lib.hid hL
      clear hc1 hL ho
      go_wp2_with (first | (at_builtin; refine wpList_append_own _ rfl _ _ 75 rfl B 5 i0 (.int .u8 0) 1 1 Tryz.underlying75 hi hz0 hz1 hz2 rfl (by decide) _ _ _ rfl (ho'.alloc _) ⟨wr.heap.size, 0, none⟩ 1 1 [.int .u8 ((m : Int) % 256)] rfl rfl ?c1 ?c2 ?c3 ?c4 ?c5 ?_) | fail)
      case c1 =>
        intro j u hj
        match j, hj with
        | 0, hj => simp at hj; subst hj; simp [Addr.add]
      case c2 => intro u hu; simp at hu; subst hu; rfl
      case c3 => rw [HC.out]; unfold maxLen; omega
      case c4 => rw [HC.out]; omega
      case c5 => simp; omega
      intro v' w1 hown' hgrow _
      have R := own_low HL.out HQ.out hown'
      have hb1 : Below B w w1 := (hb.alloc hs _).grown hgrow (by simp; omega) (fun r hr => (ho'.lt r hr).1)
      have hs1 : B ≤ w1.heap.size := by have := hgrow.size; simp at this; omega
      have hq1 : m / 256 = n / 256 ^ (j + 1) := by rw [HQ.out, Nat.div_div_eq_div_mul, Nat.pow_succ]
      have HQ1 := Lib.hid hq1
      clear hown' hgrow ho' hb hs hq1
      go_wp2
      exact ⟨⟨j + 1, m / 256, by omega, by go_num, by go_num, HQ1.out, R, hb1, hs1⟩, by simp [intOf]; omega⟩
    · go_wp2
      go_ret
      have : j = k := by omega
      subst this
      exact ⟨_, rfl, ho, hb, hs⟩

end Go.Proofs.YtcfcfijmfgnpfaaGreatDoor
end

section
namespace Go.Proofs
open Go.Shelf
def Tryz.lays128_ren : Go.Shelf.Ren := ⟨fun | 128 => 134 | n => n, fun | 51 => 206 | 3 => 3 | 4 => 4 | 46 => 142 | 5 => 5 | 9 => 9 | n => n, fun | n => n⟩
theorem Tryz.lays128 : Go.Proofs.Lays.n128 Tryz.prog Tryz.lays128_ren := {
  mixed := by kernel_rfl
  f128 := Tryz.func134.trans (congrArg some (by kernel_rfl))
  t3 := Tryz.underlying3
  a3 := Tryz.isAgg3
  z3 := Tryz.sizeOf3
  v3 := Tryz.zeroValue3
  t4 := Tryz.underlying4
  a4 := Tryz.isAgg4
  z4 := Tryz.sizeOf4
  v4 := Tryz.zeroValue4
  t5 := Tryz.underlying5
  a5 := Tryz.isAgg5
  z5 := Tryz.sizeOf5
  v5 := Tryz.zeroValue5
  t9 := Tryz.underlying9
  a9 := Tryz.isAgg9
  z9 := Tryz.sizeOf9
  v9 := Tryz.zeroValue9
  t46 := Tryz.underlying142
  a46 := Tryz.isAgg142
  z46 := Tryz.sizeOf142
  v46 := Tryz.zeroValue142
  t51 := Tryz.underlying206
  a51 := Tryz.isAgg206
  z51 := Tryz.sizeOf206
  v51 := Tryz.zeroValue206 }
/-- bits.Len32: "Len32 returns the minimum number of bits required to represent x; the result is 0 for x == 0.": IT RETURNS 'Lib.bitLen x'; the world is as it was. ('h0', 'h1': x is a uint32.) (LAID: no walk: one application.) -/
theorem Tryz.bits_Len32 (x : Int) (w : World) (h0 : 0 ≤ x) (h1 : x ≤ 4294967295) :
    Calls Tryz.prog 134 #[.int .u32 x] w fun e w' => e = .returned (.int .i64 (Lib.bitLen x.toNat)) ∧ w' = w := Any.bits_Len32 Tryz.lays128 x w h0 h1
def Tryz.lays125_ren : Go.Shelf.Ren := ⟨fun | 125 => 114 | 128 => 134 | 129 => 135 | n => n, fun | 46 => 142 | 3 => 3 | 51 => 206 | 53 => 139 | 4 => 4 | 5 => 5 | 9 => 9 | n => n, fun | n => n⟩
theorem Tryz.lays125 : Go.Proofs.Lays.n125 Tryz.prog Tryz.lays125_ren := {
  mixed := by kernel_rfl
  f125 := Tryz.func114.trans (congrArg some (by kernel_rfl))
  f128 := Tryz.func134.trans (congrArg some (by kernel_rfl))
  f129 := Tryz.func135.trans (congrArg some (by kernel_rfl))
  t3 := Tryz.underlying3
  a3 := Tryz.isAgg3
  z3 := Tryz.sizeOf3
  v3 := Tryz.zeroValue3
  t4 := Tryz.underlying4
  a4 := Tryz.isAgg4
  z4 := Tryz.sizeOf4
  v4 := Tryz.zeroValue4
  t5 := Tryz.underlying5
  a5 := Tryz.isAgg5
  z5 := Tryz.sizeOf5
  v5 := Tryz.zeroValue5
  t9 := Tryz.underlying9
  a9 := Tryz.isAgg9
  z9 := Tryz.sizeOf9
  v9 := Tryz.zeroValue9
  t46 := Tryz.underlying142
  a46 := Tryz.isAgg142
  z46 := Tryz.sizeOf142
  v46 := Tryz.zeroValue142
  t51 := Tryz.underlying206
  a51 := Tryz.isAgg206
  z51 := Tryz.sizeOf206
  v51 := Tryz.zeroValue206
  t53 := Tryz.underlying139
  a53 := Tryz.isAgg139
  z53 := Tryz.sizeOf139
  v53 := Tryz.zeroValue139 }
/-- bits.Len: "Len returns the minimum number of bits required to represent x; the result is 0 for x == 0.": IT RETURNS 'Lib.bitLen x'; the world is as it was. (A uint has 64 bits in the model.) ITS CALLEE bits.Len64 IS MET BY ITS OWN CONTRACT OFF THE SHELF (lay that first). (LAID: no walk: one application.) -/
theorem Tryz.bits_Len (x : Int) (w : World) (h0 : 0 ≤ x) (h1 : x ≤ 18446744073709551615) :
    Calls Tryz.prog 114 #[.int .u64 x] w fun e w' => e = .returned (.int .i64 (Lib.bitLen x.toNat)) ∧ w' = w := Any.bits_Len Tryz.lays125 x w h0 h1
def Tryz.lays129_ren : Go.Shelf.Ren := ⟨fun | 129 => 135 | n => n, fun | 53 => 139 | 3 => 3 | 4 => 4 | 46 => 142 | 5 => 5 | 9 => 9 | n => n, fun | n => n⟩
theorem Tryz.lays129 : Go.Proofs.Lays.n129 Tryz.prog Tryz.lays129_ren := {
  mixed := by kernel_rfl
  f129 := Tryz.func135.trans (congrArg some (by kernel_rfl))
  t3 := Tryz.underlying3
  a3 := Tryz.isAgg3
  z3 := Tryz.sizeOf3
  v3 := Tryz.zeroValue3
  t4 := Tryz.underlying4
  a4 := Tryz.isAgg4
  z4 := Tryz.sizeOf4
  v4 := Tryz.zeroValue4
  t5 := Tryz.underlying5
  a5 := Tryz.isAgg5
  z5 := Tryz.sizeOf5
  v5 := Tryz.zeroValue5
  t9 := Tryz.underlying9
  a9 := Tryz.isAgg9
  z9 := Tryz.sizeOf9
  v9 := Tryz.zeroValue9
  t46 := Tryz.underlying142
  a46 := Tryz.isAgg142
  z46 := Tryz.sizeOf142
  v46 := Tryz.zeroValue142
  t53 := Tryz.underlying139
  a53 := Tryz.isAgg139
  z53 := Tryz.sizeOf139
  v53 := Tryz.zeroValue139 }
/-- bits.Len64: "Len64 returns the minimum number of bits required to represent x; the result is 0 for x == 0.": IT RETURNS 'Lib.bitLen x'; the world is as it was. ('h0', 'h1': x is a uint64.) (LAID: no walk: one application.) -/
theorem Tryz.bits_Len64 (x : Int) (w : World) (h0 : 0 ≤ x) (h1 : x ≤ 18446744073709551615) :
    Calls Tryz.prog 135 #[.int .u64 x] w fun e w' => e = .returned (.int .i64 (Lib.bitLen x.toNat)) ∧ w' = w := Any.bits_Len64 Tryz.lays129 x w h0 h1
def Tryz.laysSlK4_ren : Go.Shelf.Ren := ⟨fun | 4 => 103 | n => n, fun | 22 => 75 | 4 => 4 | 5 => 5 | n => n, fun | n => n⟩
theorem Tryz.laysSlK4 : Go.Proofs.SlLaysK.n4 Tryz.prog Tryz.laysSlK4_ren := {
  mixed := by kernel_rfl
  f4 := Tryz.func103.trans (congrArg some (by kernel_rfl))
  t4 := Tryz.underlying4
  a4 := Tryz.isAgg4
  z4 := Tryz.sizeOf4
  v4 := Tryz.zeroValue4
  t22 := Tryz.underlying75
  a22 := Tryz.isAgg75
  z22 := Tryz.sizeOf75
  v22 := Tryz.zeroValue75
  t5 := Tryz.underlying5
  i5 := by kernel_rfl }
open Go.RowKit Go.Lib in
/-- bytes.Clone: "Clone returns a copy of b[:len(b)]. The result may have additional unused capacity.": OF A SLICE THAT IS NOT nil IT RETURNS A SLICE THAT IS NOT nil, OF THE SAME BYTES, IN MEMORY OF THE CALL's OWN: in the how-to's words (6f): 'w'.ownsRow B e 1 v' n cells' · 'Below B w w'', B the heap's size at the call. b AT WHATEVER ADDRESS, its cells as 'open_ints' hands them ('a.add i'; the numbers 'xs'). No byte: no cell is asked for. (LAID: no walk: one application.) -/
theorem Tryz.bytes_Clone_at (a : Addr) (n c : Nat) (xs : List Int) (w : World) (hx : xs.length = n) (hbig : n ≤ 140737488355328) (hc : ∀ i, i < n → w.cell? (a.add i) = some (.int .u8 (xs.getD i 0))) :
    Calls Tryz.prog 103 #[.slice (some a) n c] w fun e w' => ∃ v', e = .returned v' ∧ w'.ownsRow w.heap.size 5 1 v' n (xs.map (Value.int .u8)) ∧ v' ≠ .slice none 0 0 ∧ Below w.heap.size w w' := Any.bytes_Clone_at Tryz.laysSlK4 a n c xs w hx hbig hc
open Go.RowKit Go.Lib in
/-- "Clone(nil) returns nil.": the world is as it was. (LAID: no walk: one application.) -/
theorem Tryz.bytes_Clone_nil (n c : Nat) (w : World) :
    Calls Tryz.prog 103 #[.slice none n c] w fun e w' => e = .returned (.slice none 0 0) ∧ w' = w := Any.bytes_Clone_nil Tryz.laysSlK4 n c w
def Tryz.lays115_ren : Go.Shelf.Ren := ⟨fun | 115 => 70 | n => n, fun | 37 => 75 | 4 => 4 | 9 => 9 | 5 => 5 | n => n, fun | n => n⟩
theorem Tryz.lays115 : Go.Proofs.Lays.n115 Tryz.prog Tryz.lays115_ren := {
  mixed := by kernel_rfl
  f115 := Tryz.func70.trans (congrArg some (by kernel_rfl))
  t4 := Tryz.underlying4
  a4 := Tryz.isAgg4
  z4 := Tryz.sizeOf4
  v4 := Tryz.zeroValue4
  t9 := Tryz.underlying9
  a9 := Tryz.isAgg9
  z9 := Tryz.sizeOf9
  v9 := Tryz.zeroValue9
  t37 := Tryz.underlying75
  a37 := Tryz.isAgg75
  z37 := Tryz.sizeOf75
  v37 := Tryz.zeroValue75 }
/-- bytes.Equal: "Equal reports whether a and b are the same length and contain the same bytes. A nil argument is equivalent to an empty slice.": IT RETURNS 'the bytes of the one == the bytes of the other'; the world is as it was. THE TWO ARGUMENTS COME AS WHATEVER VALUES, each with the one fact that the walk wants of it: what 'string(..)' of it gives: for a slice whose cells you know: 'run_convert_bytes_arg' (Derived/Laws/BytesArg.lean) hands that fact; for a nil one: 'run_convert_bytes_nil' (with xs := []). (LAID: no walk: one application.) -/
theorem Tryz.bytes_Equal (v1 v2 : Value) (xs ys : List Int) (w : World) (h1 : (convert 75 9 v1).run Tryz.prog w = .ok (.string (strOfNums xs)) w) (h2 : (convert 75 9 v2).run Tryz.prog w = .ok (.string (strOfNums ys)) w) :
    Calls Tryz.prog 70 #[v1, v2] w fun e w' => e = .returned (.bool (Lib.bytesOf xs == Lib.bytesOf ys)) ∧ w' = w := Any.bytes_Equal Tryz.lays115 v1 v2 xs ys w h1 h2
end Go.Proofs
end

section
namespace Go.Proofs.YtcfcfijmfgnpfaaGreatDoor
open Go.RowKit
set_option linter.unusedVariables false

def kN (n : Nat) : Nat := if n < 4294967296 then 4 else if n < 1099511627776 then 5 else if n < 281474976710656 then 6 else if n < 72057594037927936 then 7 else 8
def numL (n : Nat) : List Nat :=
  if n < 64 then lowL (4 * n) 1 else if n < 16384 then lowL (4 * n + 1) 2 else if n < 1073741824 then lowL (4 * n + 2) 4 else (4 * (kN n - 4) + 3) :: lowL n (kN n)
def sizeN (n : Nat) : Nat := if n < 64 then 1 else if n < 16384 then 2 else if n < 1073741824 then 4 else 1 + kN n

theorem bitLen_lt {n b : Nat} (hn : n < 2 ^ 64) (hb : 2 ^ b ≤ n) : b < Lib.bitLen n := by
  have hp : 0 < 2 ^ b := Nat.two_pow_pos b
  obtain ⟨-, -, h⟩ := Lib.bitLenAux_bounds 64 n hn (by omega)
  have h' : 2 ^ b < 2 ^ Lib.bitLen n := Nat.lt_of_le_of_lt hb h
  exact (Nat.pow_lt_pow_iff_right (by omega)).1 h'

theorem bytes_of {n : Nat} (h0 : 1073741824 ≤ n) (h1 : n ≤ 4611686018427387904) : (Lib.bitLen n + 7) / 8 = kN n ∧ Lib.bitLen n ≤ 63 := by
  have hn : n < 2 ^ 64 := by omega
  have u : Lib.bitLen n ≤ 63 := Lib.bitLen_le n 63 (by omega) (by omega)
  have l : 30 < Lib.bitLen n := bitLen_lt hn (by omega)
  refine ⟨?_, u⟩
  unfold kN
  by_cases c1 : n < 4294967296
  · have := Lib.bitLen_le n 32 (by omega) (by omega)
    rw [if_pos c1]; omega
  have l1 := bitLen_lt (b := 32) hn (by omega)
  by_cases c2 : n < 1099511627776
  · have := Lib.bitLen_le n 40 (by omega) (by omega)
    rw [if_neg c1, if_pos c2]; omega
  have l2 := bitLen_lt (b := 40) hn (by omega)
  by_cases c3 : n < 281474976710656
  · have := Lib.bitLen_le n 48 (by omega) (by omega)
    rw [if_neg c1, if_neg c2, if_pos c3]; omega
  have l3 := bitLen_lt (b := 48) hn (by omega)
  by_cases c4 : n < 72057594037927936
  · have := Lib.bitLen_le n 56 (by omega) (by omega)
    rw [if_neg c1, if_neg c2, if_neg c3, if_pos c4]; omega
  have l4 := bitLen_lt (b := 56) hn (by omega)
  rw [if_neg c1, if_neg c2, if_neg c3, if_neg c4]; omega

/-- A number as it is held within its bounds. -/
def heldN (n : Int) : Nat := (min (max n 0) 4611686018427387904).toNat

theorem compact_Size (n : Int) (w : World) (h1 : n ≤ 9223372036854775807) :
    Calls Tryz.prog 119 #[.int .i64 n] w fun e w' => e = .returned (.int .i64 (sizeN (heldN n))) ∧ w = w' := by
  by_cases c1 : n < 64
  · go_enter Tryz.func119, Tryz.ntmps119
    go_wp2_with fail
    go_ret
    exact ⟨ret_int (by unfold sizeN heldN; rw [if_pos (by omega)]; rfl), rfl⟩
  by_cases c2 : n < 16384
  · go_enter Tryz.func119, Tryz.ntmps119
    go_wp2_with fail
    go_ret
    exact ⟨ret_int (by unfold sizeN heldN; rw [if_neg (by omega), if_pos (by omega)]; rfl), rfl⟩
  by_cases c3 : n < 1073741824
  · go_enter Tryz.func119, Tryz.ntmps119
    go_wp2_with fail
    go_ret
    exact ⟨ret_int (by unfold sizeN heldN; rw [if_neg (by omega), if_neg (by omega), if_pos (by omega)]; rfl), rfl⟩
  · obtain ⟨m, hm⟩ : ∃ m : Nat, min n 4611686018427387904 = (m : Int) := ⟨(min n 4611686018427387904).toNat, by omega⟩
    have m0 : 1073741824 ≤ m := by omega
    have m1 : m ≤ 4611686018427387904 := by omega
    obtain ⟨hb, hu⟩ := bytes_of m0 m1
    have he : heldN n = m := by unfold heldN; omega
    have HE : Hid (heldN n = m) := Lib.hid he
    have HB := Lib.hid hb
    clear he hb
    go_enter Tryz.func119, Tryz.ntmps119
    go_wp2_with (first | (go_at_call 114; refine (Tryz.bits_Len _ _ (by omega) (by omega)).mono ?_; rintro e w' ⟨rfl, rfl⟩) | fail)
    go_ret
    exact ⟨ret_int (by rw [HE.out]; unfold sizeN; rw [if_neg (by omega), if_neg (by omega), if_neg (by omega), ← HB.out]; omega), rfl⟩

theorem i64_or_nat (a b : Nat) (ha : a < 9223372036854775808) (hb : b < 9223372036854775808) : bits .or .i64 (a : Int) (b : Int) = ((a ||| b : Nat) : Int) := by
  have hx : a ||| b < 2 ^ 63 := Nat.or_lt_two_pow (by omega) (by omega)
  have h1 : (BitVec.ofInt 64 (a : Int)).toNat = a := by
    rw [BitVec.ofInt_natCast, BitVec.toNat_ofNat]; exact Nat.mod_eq_of_lt (by omega)
  have h2 : (BitVec.ofInt 64 (b : Int)).toNat = b := by
    rw [BitVec.ofInt_natCast, BitVec.toNat_ofNat]; exact Nat.mod_eq_of_lt (by omega)
  show IntKind.i64.wrap ((BitVec.ofInt 64 (a : Int) ||| BitVec.ofInt 64 (b : Int)).toNat : Int) = _
  rw [BitVec.toNat_or, h1, h2, IntKind.wrap_i64]
  omega

theorem or_low {n c : Nat} (hc : c < 4) (hb : n * 4 < 9223372036854775808) : bits .or .i64 ((n : Int) * 4) (c : Int) = ((n * 4 + c : Nat) : Int) := by
  have h1 : ((n : Int) * 4) = ((n * 4 : Nat) : Int) := by omega
  have h2 : n * 4 + c = n * 4 ||| c := by
    have := Nat.two_pow_add_eq_or_of_lt (i := 2) (b := c) (by omega) n
    have e : 2 ^ 2 * n = n * 4 := by omega
    rw [e] at this; exact this
  rw [h1, h2]
  exact i64_or_nat (n * 4) c (by omega) (by omega)

theorem compact_put1 (B : Nat) (v : Value) (xs : List Value) (n : Nat) (w : World) (hn : n < 64) (hown : OwnB B v xs w) (hm : xs.length ≤ 1099511627776) (hB : B ≤ w.heap.size) :
    Calls Tryz.prog 104 #[v, .int .i64 n] w (OwnRet B (xs ++ Bs (numL n)) w) := by
  have hs : (sizeN (heldN n) : Int) = 1 := by unfold sizeN heldN; rw [if_pos (by omega)]; rfl
  have hl : numL n = lowL (n * 4) 1 := by unfold numL; rw [if_pos hn, Nat.mul_comm]
  rw [hl]
  clear hl
  go_enter Tryz.func104, Tryz.ntmps104
  go_wp2_with (first | (go_at_call 119; refine (compact_Size _ _ (by omega)).mono ?_; rintro e w' ⟨rfl, rfl⟩) | fail)
  refine (compact_low B v xs (n * 4) 1 _ (by omega) (by omega) hown hm hB).mono ?_
  rintro e w' ⟨v', rfl, h1, h2, h3⟩
  go_wp2
  go_ret
  exact ⟨v', rfl, h1, h2, h3⟩

theorem compact_put2 (B : Nat) (v : Value) (xs : List Value) (n : Nat) (w : World) (hn0 : 64 ≤ n) (hn : n < 16384) (hown : OwnB B v xs w) (hm : xs.length ≤ 1099511627776) (hB : B ≤ w.heap.size) :
    Calls Tryz.prog 104 #[v, .int .i64 n] w (OwnRet B (xs ++ Bs (numL n)) w) := by
  have hs : (sizeN (heldN n) : Int) = 2 := by unfold sizeN heldN; rw [if_neg (by omega), if_pos (by omega)]; rfl
  have hl : numL n = lowL (n * 4 + 1) 2 := by unfold numL; rw [if_neg (by omega), if_pos (by omega), Nat.mul_comm]
  rw [hl]
  have hor : bits .or .i64 ((n : Int) * 4) 1 = ((n * 4 + 1 : Nat) : Int) := or_low (c := 1) (by omega) (by omega)
  clear hl
  go_enter Tryz.func104, Tryz.ntmps104
  go_wp2_with (first | (go_at_call 119; refine (compact_Size _ _ (by omega)).mono ?_; rintro e w' ⟨rfl, rfl⟩) | fail)
  refine (compact_low B v xs (n * 4 + 1) 2 _ (by omega) (by omega) hown hm hB).mono ?_
  rintro e w' ⟨v', rfl, h1, h2, h3⟩
  go_wp2
  go_ret
  exact ⟨v', rfl, h1, h2, h3⟩

theorem compact_put3 (B : Nat) (v : Value) (xs : List Value) (n : Nat) (w : World) (hn0 : 16384 ≤ n) (hn : n < 1073741824) (hown : OwnB B v xs w) (hm : xs.length ≤ 1099511627776) (hB : B ≤ w.heap.size) :
    Calls Tryz.prog 104 #[v, .int .i64 n] w (OwnRet B (xs ++ Bs (numL n)) w) := by
  have hs : (sizeN (heldN n) : Int) = 4 := by unfold sizeN heldN; rw [if_neg (by omega), if_neg (by omega), if_pos (by omega)]; rfl
  have hl : numL n = lowL (n * 4 + 2) 4 := by unfold numL; rw [if_neg (by omega), if_neg (by omega), if_pos (by omega), Nat.mul_comm]
  rw [hl]
  have hor : bits .or .i64 ((n : Int) * 4) 2 = ((n * 4 + 2 : Nat) : Int) := or_low (c := 2) (by omega) (by omega)
  clear hl
  go_enter Tryz.func104, Tryz.ntmps104
  go_wp2_with (first | (go_at_call 119; refine (compact_Size _ _ (by omega)).mono ?_; rintro e w' ⟨rfl, rfl⟩) | fail)
  refine (compact_low B v xs (n * 4 + 2) 4 _ (by omega) (by omega) hown hm hB).mono ?_
  rintro e w' ⟨v', rfl, h1, h2, h3⟩
  go_wp2
  go_ret
  exact ⟨v', rfl, h1, h2, h3⟩

theorem kN_cases (n : Nat) : kN n = 4 ∨ kN n = 5 ∨ kN n = 6 ∨ kN n = 7 ∨ kN n = 8 := by
  unfold kN
  by_cases h1 : n < 4294967296
  · simp [h1]
  by_cases h2 : n < 1099511627776
  · simp [h1, h2]
  by_cases h3 : n < 281474976710656
  · simp [h1, h2, h3]
  by_cases h4 : n < 72057594037927936
  · simp [h1, h2, h3, h4]
  · simp [h1, h2, h3, h4]

set_option maxHeartbeats 1000000 in
theorem compact_put4_0 (B : Nat) (v : Value) (xs : List Value) (n : Nat) (w : World) (hn0 : 1073741824 ≤ n) (hn : n ≤ 4611686018427387904) (hk : kN n = 4) (hown : OwnB B v xs w) (hm : xs.length ≤ 1099511627700) (hB : B ≤ w.heap.size) :
    Calls Tryz.prog 104 #[v, .int .i64 n] w (OwnRet B (xs ++ Bs (numL n)) w) := by
  have he : heldN n = n := by unfold heldN; omega
  have hs : (sizeN (heldN n) : Int) = 5 := by rw [he]; unfold sizeN; rw [if_neg (by omega), if_neg (by omega), if_neg (by omega), hk]; rfl
  have hl : xs ++ Bs (numL n) = (xs ++ [.int .u8 3]) ++ Bs (lowL n 4) := by
    unfold numL; rw [if_neg (by omega), if_neg (by omega), if_neg (by omega), hk, List.append_assoc]; rfl
  rw [hl]
  have hor : bits .or .i64 0 3 = 3 := by decide
  clear hl he hk
  obtain ⟨i0, hi, hz0, hz1, hz2⟩ := info_parts info5
  have HO : w.ownsRow B 5 1 v xs.length xs := hown
  go_enter Tryz.func104, Tryz.ntmps104
  go_wp2_with (first | (go_at_call 119; refine (compact_Size _ _ (by omega)).mono ?_; rintro e w' ⟨rfl, rfl⟩) | (at_builtin; refine wpList_append_own _ rfl _ _ 75 rfl B 5 i0 (.int .u8 0) 1 1 Tryz.underlying75 hi hz0 hz1 hz2 rfl (by decide) _ _ _ rfl (HO.alloc _) ⟨w.heap.size, 0, none⟩ 1 1 [.int .u8 3] rfl rfl ?c1 ?c2 ?c3 ?c4 ?c5 ?_) | fail)
  case c1 =>
    intro j u hj
    match j, hj with
    | 0, hj => simp at hj; subst hj; simp [Addr.add]
  case c2 => intro u hu; simp at hu; subst hu; rfl
  case c3 => unfold maxLen; omega
  case c4 => omega
  case c5 => simp; omega
  intro v' w1 hown' hgrow _
  have hb1 : Below B w w1 := ((Below.refl _ _).alloc hB _).grown hgrow (by simp; omega) (fun r hr => (HO.lt r hr).1)
  have hs1 : B ≤ w1.heap.size := by have := hgrow.size; simp at this; omega
  have O1 : OwnB B v' (xs ++ [.int .u8 3]) w1 := by unfold OwnB; rw [List.length_append]; exact hown'
  have O2 := Lib.hid O1
  clear hown' hgrow HO hown O1
  go_wp2_with fail
  refine (compact_low B v' (xs ++ [.int .u8 3]) n 4 _ (by omega) (by omega) O2.out (by simp; omega) hs1).mono ?_
  rintro e w' ⟨v2, rfl, h1, h2, h3⟩
  go_wp2
  go_ret
  exact ⟨v2, rfl, h1, hb1.trans h2, h3⟩

set_option maxHeartbeats 1000000 in
theorem compact_put4_1 (B : Nat) (v : Value) (xs : List Value) (n : Nat) (w : World) (hn0 : 1073741824 ≤ n) (hn : n ≤ 4611686018427387904) (hk : kN n = 5) (hown : OwnB B v xs w) (hm : xs.length ≤ 1099511627700) (hB : B ≤ w.heap.size) :
    Calls Tryz.prog 104 #[v, .int .i64 n] w (OwnRet B (xs ++ Bs (numL n)) w) := by
  have he : heldN n = n := by unfold heldN; omega
  have hs : (sizeN (heldN n) : Int) = 6 := by rw [he]; unfold sizeN; rw [if_neg (by omega), if_neg (by omega), if_neg (by omega), hk]; rfl
  have hl : xs ++ Bs (numL n) = (xs ++ [.int .u8 7]) ++ Bs (lowL n 5) := by
    unfold numL; rw [if_neg (by omega), if_neg (by omega), if_neg (by omega), hk, List.append_assoc]; rfl
  rw [hl]
  have hor : bits .or .i64 4 3 = 7 := by decide
  clear hl he hk
  obtain ⟨i0, hi, hz0, hz1, hz2⟩ := info_parts info5
  have HO : w.ownsRow B 5 1 v xs.length xs := hown
  go_enter Tryz.func104, Tryz.ntmps104
  go_wp2_with (first | (go_at_call 119; refine (compact_Size _ _ (by omega)).mono ?_; rintro e w' ⟨rfl, rfl⟩) | (at_builtin; refine wpList_append_own _ rfl _ _ 75 rfl B 5 i0 (.int .u8 0) 1 1 Tryz.underlying75 hi hz0 hz1 hz2 rfl (by decide) _ _ _ rfl (HO.alloc _) ⟨w.heap.size, 0, none⟩ 1 1 [.int .u8 7] rfl rfl ?c1 ?c2 ?c3 ?c4 ?c5 ?_) | fail)
  case c1 =>
    intro j u hj
    match j, hj with
    | 0, hj => simp at hj; subst hj; simp [Addr.add]
  case c2 => intro u hu; simp at hu; subst hu; rfl
  case c3 => unfold maxLen; omega
  case c4 => omega
  case c5 => simp; omega
  intro v' w1 hown' hgrow _
  have hb1 : Below B w w1 := ((Below.refl _ _).alloc hB _).grown hgrow (by simp; omega) (fun r hr => (HO.lt r hr).1)
  have hs1 : B ≤ w1.heap.size := by have := hgrow.size; simp at this; omega
  have O1 : OwnB B v' (xs ++ [.int .u8 7]) w1 := by unfold OwnB; rw [List.length_append]; exact hown'
  have O2 := Lib.hid O1
  clear hown' hgrow HO hown O1
  go_wp2_with fail
  refine (compact_low B v' (xs ++ [.int .u8 7]) n 5 _ (by omega) (by omega) O2.out (by simp; omega) hs1).mono ?_
  rintro e w' ⟨v2, rfl, h1, h2, h3⟩
  go_wp2
  go_ret
  exact ⟨v2, rfl, h1, hb1.trans h2, h3⟩

set_option maxHeartbeats 1000000 in
theorem compact_put4_2 (B : Nat) (v : Value) (xs : List Value) (n : Nat) (w : World) (hn0 : 1073741824 ≤ n) (hn : n ≤ 4611686018427387904) (hk : kN n = 6) (hown : OwnB B v xs w) (hm : xs.length ≤ 1099511627700) (hB : B ≤ w.heap.size) :
    Calls Tryz.prog 104 #[v, .int .i64 n] w (OwnRet B (xs ++ Bs (numL n)) w) := by
  have he : heldN n = n := by unfold heldN; omega
  have hs : (sizeN (heldN n) : Int) = 7 := by rw [he]; unfold sizeN; rw [if_neg (by omega), if_neg (by omega), if_neg (by omega), hk]; rfl
  have hl : xs ++ Bs (numL n) = (xs ++ [.int .u8 11]) ++ Bs (lowL n 6) := by
    unfold numL; rw [if_neg (by omega), if_neg (by omega), if_neg (by omega), hk, List.append_assoc]; rfl
  rw [hl]
  have hor : bits .or .i64 8 3 = 11 := by decide
  clear hl he hk
  obtain ⟨i0, hi, hz0, hz1, hz2⟩ := info_parts info5
  have HO : w.ownsRow B 5 1 v xs.length xs := hown
  go_enter Tryz.func104, Tryz.ntmps104
  go_wp2_with (first | (go_at_call 119; refine (compact_Size _ _ (by omega)).mono ?_; rintro e w' ⟨rfl, rfl⟩) | (at_builtin; refine wpList_append_own _ rfl _ _ 75 rfl B 5 i0 (.int .u8 0) 1 1 Tryz.underlying75 hi hz0 hz1 hz2 rfl (by decide) _ _ _ rfl (HO.alloc _) ⟨w.heap.size, 0, none⟩ 1 1 [.int .u8 11] rfl rfl ?c1 ?c2 ?c3 ?c4 ?c5 ?_) | fail)
  case c1 =>
    intro j u hj
    match j, hj with
    | 0, hj => simp at hj; subst hj; simp [Addr.add]
  case c2 => intro u hu; simp at hu; subst hu; rfl
  case c3 => unfold maxLen; omega
  case c4 => omega
  case c5 => simp; omega
  intro v' w1 hown' hgrow _
  have hb1 : Below B w w1 := ((Below.refl _ _).alloc hB _).grown hgrow (by simp; omega) (fun r hr => (HO.lt r hr).1)
  have hs1 : B ≤ w1.heap.size := by have := hgrow.size; simp at this; omega
  have O1 : OwnB B v' (xs ++ [.int .u8 11]) w1 := by unfold OwnB; rw [List.length_append]; exact hown'
  have O2 := Lib.hid O1
  clear hown' hgrow HO hown O1
  go_wp2_with fail
  refine (compact_low B v' (xs ++ [.int .u8 11]) n 6 _ (by omega) (by omega) O2.out (by simp; omega) hs1).mono ?_
  rintro e w' ⟨v2, rfl, h1, h2, h3⟩
  go_wp2
  go_ret
  exact ⟨v2, rfl, h1, hb1.trans h2, h3⟩

set_option maxHeartbeats 1000000 in
theorem compact_put4_3 (B : Nat) (v : Value) (xs : List Value) (n : Nat) (w : World) (hn0 : 1073741824 ≤ n) (hn : n ≤ 4611686018427387904) (hk : kN n = 7) (hown : OwnB B v xs w) (hm : xs.length ≤ 1099511627700) (hB : B ≤ w.heap.size) :
    Calls Tryz.prog 104 #[v, .int .i64 n] w (OwnRet B (xs ++ Bs (numL n)) w) := by
  have he : heldN n = n := by unfold heldN; omega
  have hs : (sizeN (heldN n) : Int) = 8 := by rw [he]; unfold sizeN; rw [if_neg (by omega), if_neg (by omega), if_neg (by omega), hk]; rfl
  have hl : xs ++ Bs (numL n) = (xs ++ [.int .u8 15]) ++ Bs (lowL n 7) := by
    unfold numL; rw [if_neg (by omega), if_neg (by omega), if_neg (by omega), hk, List.append_assoc]; rfl
  rw [hl]
  have hor : bits .or .i64 12 3 = 15 := by decide
  clear hl he hk
  obtain ⟨i0, hi, hz0, hz1, hz2⟩ := info_parts info5
  have HO : w.ownsRow B 5 1 v xs.length xs := hown
  go_enter Tryz.func104, Tryz.ntmps104
  go_wp2_with (first | (go_at_call 119; refine (compact_Size _ _ (by omega)).mono ?_; rintro e w' ⟨rfl, rfl⟩) | (at_builtin; refine wpList_append_own _ rfl _ _ 75 rfl B 5 i0 (.int .u8 0) 1 1 Tryz.underlying75 hi hz0 hz1 hz2 rfl (by decide) _ _ _ rfl (HO.alloc _) ⟨w.heap.size, 0, none⟩ 1 1 [.int .u8 15] rfl rfl ?c1 ?c2 ?c3 ?c4 ?c5 ?_) | fail)
  case c1 =>
    intro j u hj
    match j, hj with
    | 0, hj => simp at hj; subst hj; simp [Addr.add]
  case c2 => intro u hu; simp at hu; subst hu; rfl
  case c3 => unfold maxLen; omega
  case c4 => omega
  case c5 => simp; omega
  intro v' w1 hown' hgrow _
  have hb1 : Below B w w1 := ((Below.refl _ _).alloc hB _).grown hgrow (by simp; omega) (fun r hr => (HO.lt r hr).1)
  have hs1 : B ≤ w1.heap.size := by have := hgrow.size; simp at this; omega
  have O1 : OwnB B v' (xs ++ [.int .u8 15]) w1 := by unfold OwnB; rw [List.length_append]; exact hown'
  have O2 := Lib.hid O1
  clear hown' hgrow HO hown O1
  go_wp2_with fail
  refine (compact_low B v' (xs ++ [.int .u8 15]) n 7 _ (by omega) (by omega) O2.out (by simp; omega) hs1).mono ?_
  rintro e w' ⟨v2, rfl, h1, h2, h3⟩
  go_wp2
  go_ret
  exact ⟨v2, rfl, h1, hb1.trans h2, h3⟩

set_option maxHeartbeats 1000000 in
theorem compact_put4_4 (B : Nat) (v : Value) (xs : List Value) (n : Nat) (w : World) (hn0 : 1073741824 ≤ n) (hn : n ≤ 4611686018427387904) (hk : kN n = 8) (hown : OwnB B v xs w) (hm : xs.length ≤ 1099511627700) (hB : B ≤ w.heap.size) :
    Calls Tryz.prog 104 #[v, .int .i64 n] w (OwnRet B (xs ++ Bs (numL n)) w) := by
  have he : heldN n = n := by unfold heldN; omega
  have hs : (sizeN (heldN n) : Int) = 9 := by rw [he]; unfold sizeN; rw [if_neg (by omega), if_neg (by omega), if_neg (by omega), hk]; rfl
  have hl : xs ++ Bs (numL n) = (xs ++ [.int .u8 19]) ++ Bs (lowL n 8) := by
    unfold numL; rw [if_neg (by omega), if_neg (by omega), if_neg (by omega), hk, List.append_assoc]; rfl
  rw [hl]
  have hor : bits .or .i64 16 3 = 19 := by decide
  clear hl he hk
  obtain ⟨i0, hi, hz0, hz1, hz2⟩ := info_parts info5
  have HO : w.ownsRow B 5 1 v xs.length xs := hown
  go_enter Tryz.func104, Tryz.ntmps104
  go_wp2_with (first | (go_at_call 119; refine (compact_Size _ _ (by omega)).mono ?_; rintro e w' ⟨rfl, rfl⟩) | (at_builtin; refine wpList_append_own _ rfl _ _ 75 rfl B 5 i0 (.int .u8 0) 1 1 Tryz.underlying75 hi hz0 hz1 hz2 rfl (by decide) _ _ _ rfl (HO.alloc _) ⟨w.heap.size, 0, none⟩ 1 1 [.int .u8 19] rfl rfl ?c1 ?c2 ?c3 ?c4 ?c5 ?_) | fail)
  case c1 =>
    intro j u hj
    match j, hj with
    | 0, hj => simp at hj; subst hj; simp [Addr.add]
  case c2 => intro u hu; simp at hu; subst hu; rfl
  case c3 => unfold maxLen; omega
  case c4 => omega
  case c5 => simp; omega
  intro v' w1 hown' hgrow _
  have hb1 : Below B w w1 := ((Below.refl _ _).alloc hB _).grown hgrow (by simp; omega) (fun r hr => (HO.lt r hr).1)
  have hs1 : B ≤ w1.heap.size := by have := hgrow.size; simp at this; omega
  have O1 : OwnB B v' (xs ++ [.int .u8 19]) w1 := by unfold OwnB; rw [List.length_append]; exact hown'
  have O2 := Lib.hid O1
  clear hown' hgrow HO hown O1
  go_wp2_with fail
  refine (compact_low B v' (xs ++ [.int .u8 19]) n 8 _ (by omega) (by omega) O2.out (by simp; omega) hs1).mono ?_
  rintro e w' ⟨v2, rfl, h1, h2, h3⟩
  go_wp2
  go_ret
  exact ⟨v2, rfl, h1, hb1.trans h2, h3⟩

theorem compact_put (B : Nat) (v : Value) (xs : List Value) (n : Nat) (w : World) (hn : n ≤ 4611686018427387904) (hown : OwnB B v xs w) (hm : xs.length ≤ 1099511627700) (hB : B ≤ w.heap.size) :
    Calls Tryz.prog 104 #[v, .int .i64 n] w (OwnRet B (xs ++ Bs (numL n)) w) := by
  by_cases c1 : n < 64
  · exact compact_put1 B v xs n w c1 hown (by omega) hB
  by_cases c2 : n < 16384
  · exact compact_put2 B v xs n w (by omega) c2 hown (by omega) hB
  by_cases c3 : n < 1073741824
  · exact compact_put3 B v xs n w (by omega) c3 hown (by omega) hB
  rcases kN_cases n with h | h | h | h | h
  · exact compact_put4_0 B v xs n w (by omega) hn h hown (by omega) hB
  · exact compact_put4_1 B v xs n w (by omega) hn h hown (by omega) hB
  · exact compact_put4_2 B v xs n w (by omega) hn h hown (by omega) hB
  · exact compact_put4_3 B v xs n w (by omega) hn h hown (by omega) hB
  · exact compact_put4_4 B v xs n w (by omega) hn h hown (by omega) hB

end Go.Proofs.YtcfcfijmfgnpfaaGreatDoor
end

section
namespace Go.Proofs.YtcfcfijmfgnpfaaGreatDoor
open Go.RowKit
set_option linter.unusedVariables false

theorem own_low2 {B : Nat} {v' : Value} {L : List Value} {n j : Nat} {w1 : World} (hL : L = Bs (lowL n j)) (h : w1.ownsRow B 5 1 v' (L.length + 1) (L ++ [.int .u8 ((n : Int) / 2 ^ (8 * j) % 256)])) :
    OwnB B v' (Bs (lowL n (j + 1))) w1 := by
  have e1 : (256 : Nat) ^ j = 2 ^ (8 * j) := by rw [Nat.pow_mul]
  have e : Bs (lowL n (j + 1)) = L ++ [.int .u8 ((n : Int) / 2 ^ (8 * j) % 256)] := by
    rw [hL, lowL, Bs_append, e1]; rfl
  unfold OwnB; rw [e, List.length_append]; exact h

set_option maxHeartbeats 1000000 in
theorem ref_low (n k : Nat) (w : World) (hn : n < 9223372036854775808) (hk : k ≤ 9) :
    Calls Tryz.prog 116 #[.int .i64 n, .int .i64 k] w (OwnRet w.heap.size (Bs (lowL n k)) w) := by
  obtain ⟨i0, hi, hz0, hz1, hz2⟩ := info_parts info5
  obtain ⟨B, hBe⟩ : ∃ B, B = w.heap.size := ⟨_, rfl⟩
  rw [← hBe]
  have HB := Lib.hid hBe
  clear hBe
  go_enter Tryz.func116, Tryz.ntmps116
  go_wp2
  go_loopw [5, 6] (fun b i wr => ∃ j : Nat, j ≤ k ∧ i = .int .i64 j ∧ OwnB B b (Bs (lowL n j)) wr ∧ Below B w wr ∧ B ≤ wr.heap.size) (fun _ i _ => k - (intOf i).toNat)
  case atStart => exact ⟨0, Nat.zero_le _, rfl, World.ownsRow_nil _ _ _ _, Below.refl _ _, by rw [HB.out]; exact Nat.le_refl _⟩
  case round =>
    obtain ⟨j, hj, rfl, ho, hb, hs⟩ := hrel
    by_cases hlt : j < k
    · obtain ⟨L, hL⟩ : ∃ L, L = Bs (lowL n j) := ⟨_, rfl⟩
      have hc1 : L.length = j := by rw [hL, Bs_length, lowL_length]
      have ho' : wr.ownsRow B 5 1 u5 L.length L := by rw [hL]; exact ho
      have HC := Lib.hid hc1
      have HL := Lib.hid hL
      clear hc1 hL ho
      go_wp2_with (first | (at_builtin; refine wpList_append_own _ rfl _ _ 75 rfl B 5 i0 (.int .u8 0) 1 1 Tryz.underlying75 hi hz0 hz1 hz2 rfl (by decide) _ _ _ rfl (ho'.alloc _) ⟨wr.heap.size, 0, none⟩ 1 1 [.int .u8 ((n : Int) / 2 ^ (8 * j) % 256)] rfl rfl ?c1 ?c2 ?c3 ?c4 ?c5 ?_) | fail)
      case c1 =>
        intro j u hj
        match j, hj with
        | 0, hj => simp at hj; subst hj; simp [Addr.add]
      case c2 => intro u hu; simp at hu; subst hu; rfl
      case c3 => rw [HC.out]; unfold maxLen; omega
      case c4 => rw [HC.out]; omega
      case c5 => simp; omega
      intro v' w1 hown' hgrow _
      have R := own_low2 HL.out hown'
      have hb1 : Below B w w1 := (hb.alloc hs _).grown hgrow (by simp; omega) (fun r hr => (ho'.lt r hr).1)
      have hs1 : B ≤ w1.heap.size := by have := hgrow.size; simp at this; omega
      clear hown' hgrow ho' hb hs
      go_wp2
      exact ⟨⟨j + 1, by omega, by go_num, R, hb1, hs1⟩, by simp [intOf]; omega⟩
    · go_wp2
      go_ret
      have : j = k := by omega
      subst this
      exact ⟨_, rfl, ho, hb, hs⟩

theorem ref_Num1 (n : Int) (m : Nat) (w : World) (hm : heldN n = m) (h1 : m < 64) : Calls Tryz.prog 96 #[.int .i64 n] w (OwnRet w.heap.size (Bs (numL m)) w) := by
  have hl : numL m = lowL (m * 4) 1 := by unfold numL; rw [if_pos h1, Nat.mul_comm]
  rw [hl]
  obtain ⟨M, hM⟩ : ∃ M : Int, M = (m : Int) := ⟨_, rfl⟩
  have E : min (max n 0) 4611686018427387904 = M := by unfold heldN at hm; omega
  have l0 : 0 ≤ M := by omega
  have l1 : M < 64 := by omega
  have HM := Lib.hid hM
  have hq : m * 4 < 9223372036854775808 := by omega
  have HQ := Lib.hid hq
  clear hl hm hM h1 hq
  go_enter Tryz.func96, Tryz.ntmps96
  go_wp2_with fail
  clear E l0 l1
  obtain rfl := HM.out
  refine (ref_low (m * 4) 1 _ HQ.out (by omega)).mono ?_
  rintro e w' ⟨v', rfl, h1, h2, h3⟩
  go_wp2
  go_ret
  exact ⟨v', rfl, h1, h2, h3⟩

theorem ref_Num2 (n : Int) (m : Nat) (w : World) (hm : heldN n = m) (h0 : 64 ≤ m) (h1 : m < 16384) : Calls Tryz.prog 96 #[.int .i64 n] w (OwnRet w.heap.size (Bs (numL m)) w) := by
  have hl : numL m = lowL (m * 4 + 1) 2 := by unfold numL; rw [if_neg (by omega), if_pos h1, Nat.mul_comm]
  rw [hl]
  obtain ⟨M, hM⟩ : ∃ M : Int, M = (m : Int) := ⟨_, rfl⟩
  have E : min (max n 0) 4611686018427387904 = M := by unfold heldN at hm; omega
  have l0 : 64 ≤ M := by omega
  have l1 : M < 16384 := by omega
  have hor : bits .or .i64 (M * 4) 1 = M * 4 + 1 := by rw [hM]; exact or_low (c := 1) (by omega) (by omega)
  have HM := Lib.hid hM
  have hq : m * 4 + 1 < 9223372036854775808 := by omega
  have HQ := Lib.hid hq
  clear hl hm hM h1 hq h0
  go_enter Tryz.func96, Tryz.ntmps96
  go_wp2_with fail
  clear E l0 l1
  obtain rfl := HM.out
  refine (ref_low (m * 4 + 1) 2 _ HQ.out (by omega)).mono ?_
  rintro e w' ⟨v', rfl, h1, h2, h3⟩
  go_wp2
  go_ret
  exact ⟨v', rfl, h1, h2, h3⟩

theorem ref_Num3 (n : Int) (m : Nat) (w : World) (hm : heldN n = m) (h0 : 16384 ≤ m) (h1 : m < 1073741824) : Calls Tryz.prog 96 #[.int .i64 n] w (OwnRet w.heap.size (Bs (numL m)) w) := by
  have hl : numL m = lowL (m * 4 + 2) 4 := by unfold numL; rw [if_neg (by omega), if_neg (by omega), if_pos h1, Nat.mul_comm]
  rw [hl]
  obtain ⟨M, hM⟩ : ∃ M : Int, M = (m : Int) := ⟨_, rfl⟩
  have E : min (max n 0) 4611686018427387904 = M := by unfold heldN at hm; omega
  have l0 : 16384 ≤ M := by omega
  have l1 : M < 1073741824 := by omega
  have hor : bits .or .i64 (M * 4) 2 = M * 4 + 2 := by rw [hM]; exact or_low (c := 2) (by omega) (by omega)
  have HM := Lib.hid hM
  have hq : m * 4 + 2 < 9223372036854775808 := by omega
  have HQ := Lib.hid hq
  clear hl hm hM h1 hq h0
  go_enter Tryz.func96, Tryz.ntmps96
  go_wp2_with fail
  clear E l0 l1
  obtain rfl := HM.out
  refine (ref_low (m * 4 + 2) 4 _ HQ.out (by omega)).mono ?_
  rintro e w' ⟨v', rfl, h1, h2, h3⟩
  go_wp2
  go_ret
  exact ⟨v', rfl, h1, h2, h3⟩


theorem kN_step {m j : Nat} (h4 : 4 ≤ j) (h8 : j < 8) : 0 < m / 2 ^ (8 * j) ↔ j < kN m := by
  have hj : j = 4 ∨ j = 5 ∨ j = 6 ∨ j = 7 := by omega
  have key : ∀ c : Nat, 0 < c → (0 < m / c ↔ c ≤ m) := fun c hc => by
    constructor
    · intro h
      apply Nat.le_of_not_lt
      intro hl
      rw [Nat.div_eq_of_lt hl] at h
      omega
    · intro h; exact Nat.div_pos h hc
  rw [key _ (Nat.two_pow_pos _)]
  unfold kN
  rcases hj with rfl | rfl | rfl | rfl
  all_goals
    by_cases c1 : m < 4294967296
    · rw [if_pos c1]; omega
    rw [if_neg c1]
    by_cases c2 : m < 1099511627776
    · rw [if_pos c2]; omega
    rw [if_neg c2]
    by_cases c3 : m < 281474976710656
    · rw [if_pos c3]; omega
    rw [if_neg c3]
    by_cases c4 : m < 72057594037927936
    · rw [if_pos c4]; omega
    rw [if_neg c4]; omega

theorem kN_stepI {m j : Nat} (h4 : 4 ≤ j) (h8 : j < 8) : decide (0 < (m : Int) / 2 ^ (8 * j)) = decide (j < kN m) := by
  have := kN_step (m := m) h4 h8
  have e : (m : Int) / 2 ^ (8 * j) = ((m / 2 ^ (8 * j) : Nat) : Int) := by simp
  rw [decide_eq_decide, ← this, e]; omega

/-- A literal of one cell is the call's own. -/
theorem own_lit {w w2 : World} {x : Value} (hb : Below (w.alloc (.cells #[x] 5)).heap.size (w.alloc (.cells #[x] 5)) w2) : w2.ownsRow w.heap.size 5 1 (.slice (some ⟨w.heap.size, 0, none⟩) 1 1) 1 [x] := by
  refine ⟨rfl, .inr ⟨w.heap.size, 1, #[x], rfl, Nat.le_refl _, ?_, Nat.le_refl _, by unfold maxLen; omega, rfl, rfl⟩⟩
  rw [hb.block _ (by simp)]
  exact MapKept.heap_alloc w _ |>.1

/-- What owns some bytes leads to them. -/
theorem own_src {B : Nat} {v : Value} {l : List Value} {w : World} (h : OwnB B v l w) (hl : 0 < l.length) :
    ∃ g cap, v = .slice (some ⟨g, 0, none⟩) l.length cap ∧ B ≤ g ∧ g < w.heap.size ∧ ∀ j u, l[j]? = some u → w.cell? ((⟨g, 0, none⟩ : Addr).add j) = some u := by
  have h' := h
  obtain ⟨h1, h2⟩ := h
  rcases h2 with ⟨rfl, h0⟩ | ⟨g, cap, cur, rfl, hg, hh, hr⟩
  · omega
  · have := World.ownsRow.lt h' g rfl
    exact ⟨g, cap, rfl, hg, this.2, fun j u hj => World.ownsRow.cells h' rfl j u hj⟩

theorem below_box' {w w2 : World} {o : Obj} (h : Below (w.alloc o).heap.size (w.alloc o) w2) : Below w.heap.size w w2 :=
  ((Below.refl _ _).alloc (Nat.le_refl _) o).trans (h.mono (by simp))

theorem Bs_one (l : List Nat) : ∀ u ∈ Bs l, u.oneCell' = true := by
  intro u hu
  simp only [Bs, List.mem_map] at hu
  obtain ⟨b, -, rfl⟩ := hu
  rfl

set_option maxHeartbeats 1000000 in
theorem ref_Num4 (n : Int) (m : Nat) (w : World) (hm : heldN n = m) (h0 : 1073741824 ≤ m) : Calls Tryz.prog 96 #[.int .i64 n] w (OwnRet w.heap.size (Bs (numL m)) w) := by
  obtain ⟨M, hM⟩ : ∃ M : Int, M = (m : Int) := ⟨_, rfl⟩
  have E : min (max n 0) 4611686018427387904 = M := by unfold heldN at hm; omega
  have l0 : 1073741824 ≤ M := by omega
  have l1 : M ≤ 4611686018427387904 := by unfold heldN at hm; omega
  have HM := Lib.hid hM
  have hk := kN_cases m
  have k8 : kN m ≤ 8 := by omega
  have k4 : 4 ≤ kN m := by omega
  have HK := Lib.hid hk
  have H0 := Lib.hid h0
  clear hm hM hk h0
  go_enter Tryz.func96, Tryz.ntmps96
  go_wp2_with fail
  clear E
  go_loop [3] (fun k => ∃ j : Nat, k = .int .i64 j ∧ 4 ≤ j ∧ j ≤ kN m) (fun k => 8 - (intOf k).toNat)
  case atStart => exact ⟨4, rfl, by omega, k4⟩
  case round =>
    obtain ⟨j, rfl, j4, jk⟩ := hrel
    by_cases c8 : j < 8
    · have hd := kN_stepI (m := m) j4 c8
      rw [← HM.out] at hd
      by_cases cj : j < kN m
      · rw [decide_eq_true cj] at hd
        go_wp2
        exact ⟨⟨j + 1, by go_num, by omega, by omega⟩, by simp [intOf]; omega⟩
      · rw [decide_eq_false cj] at hd
        rcases HK.out with hc | hc | hc | hc | hc
        · have hjc : j = 4 := by omega
          subst hjc
          have hd' : decide (0 < M / 4294967296) = false := by simpa using hd
          clear hd
          have HJ : Hid (4 = kN m) := Lib.hid hc.symm
          clear hc jk k8 k4
          have hor : bits .or .i64 0 3 = 3 := by decide
          obtain ⟨i0, hi, hz0, hz1, hz2⟩ := info_parts info5
          go_wp2_with fail
          obtain rfl := HM.out
          refine (ref_low m 4 _ (by omega) (by omega)).mono ?_
          rintro e w2 ⟨v2, rfl, ho2, hb2, -⟩
          have HO := own_lit hb2
          obtain ⟨g, cap, hv2, hg, hg2, hcells⟩ := own_src ho2 (by rw [Bs_length, lowL_length]; omega)
          have hlen : (Bs (lowL m 4)).length = 4 := by rw [Bs_length, lowL_length]
          rw [hlen] at hv2
          subst hv2
          have hfin : Bs (numL m) = [.int .u8 3] ++ Bs (lowL m 4) := by
            have h0 := H0.out
            unfold numL; rw [if_neg (by omega), if_neg (by omega), if_neg (by omega), ← HJ.out]; rfl
          have HF := Lib.hid hfin
          have HC := Lib.hid hcells
          have HL := Lib.hid hlen
          have hz : w.heap.size + 1 ≤ w2.heap.size := by have := hb2.size; simpa using this
          clear hfin hcells hlen ho2
          go_wp2_with (first | (at_builtin; refine wpList_append_own _ rfl _ _ 75 rfl w.heap.size 5 i0 (.int .u8 0) 1 1 Tryz.underlying75 hi hz0 hz1 hz2 rfl (by decide) _ _ _ rfl HO ⟨g, 0, none⟩ 4 cap (Bs (lowL m 4)) rfl (by rw [HL.out]) HC.out (Bs_one _) (by unfold maxLen; omega) (by omega) (by omega) ?_; intro v3 w3 hown3 hgrow3 _) | fail)
          go_ret
          refine ⟨v3, rfl, ?_, ?_, ?_⟩
          · unfold OwnB; rw [HF.out, List.length_append, HL.out]; exact hown3
          · exact (below_box' hb2).grown hgrow3 (by omega) (fun r hr => by cases hr; exact Nat.le_refl _)
          · have := hgrow3.size; omega
        · have hjc : j = 5 := by omega
          subst hjc
          have hd' : decide (0 < M / 1099511627776) = false := by simpa using hd
          clear hd
          have HJ : Hid (5 = kN m) := Lib.hid hc.symm
          clear hc jk k8 k4
          have hor : bits .or .i64 4 3 = 7 := by decide
          obtain ⟨i0, hi, hz0, hz1, hz2⟩ := info_parts info5
          go_wp2_with fail
          obtain rfl := HM.out
          refine (ref_low m 5 _ (by omega) (by omega)).mono ?_
          rintro e w2 ⟨v2, rfl, ho2, hb2, -⟩
          have HO := own_lit hb2
          obtain ⟨g, cap, hv2, hg, hg2, hcells⟩ := own_src ho2 (by rw [Bs_length, lowL_length]; omega)
          have hlen : (Bs (lowL m 5)).length = 5 := by rw [Bs_length, lowL_length]
          rw [hlen] at hv2
          subst hv2
          have hfin : Bs (numL m) = [.int .u8 7] ++ Bs (lowL m 5) := by
            have h0 := H0.out
            unfold numL; rw [if_neg (by omega), if_neg (by omega), if_neg (by omega), ← HJ.out]; rfl
          have HF := Lib.hid hfin
          have HC := Lib.hid hcells
          have HL := Lib.hid hlen
          have hz : w.heap.size + 1 ≤ w2.heap.size := by have := hb2.size; simpa using this
          clear hfin hcells hlen ho2
          go_wp2_with (first | (at_builtin; refine wpList_append_own _ rfl _ _ 75 rfl w.heap.size 5 i0 (.int .u8 0) 1 1 Tryz.underlying75 hi hz0 hz1 hz2 rfl (by decide) _ _ _ rfl HO ⟨g, 0, none⟩ 5 cap (Bs (lowL m 5)) rfl (by rw [HL.out]) HC.out (Bs_one _) (by unfold maxLen; omega) (by omega) (by omega) ?_; intro v3 w3 hown3 hgrow3 _) | fail)
          go_ret
          refine ⟨v3, rfl, ?_, ?_, ?_⟩
          · unfold OwnB; rw [HF.out, List.length_append, HL.out]; exact hown3
          · exact (below_box' hb2).grown hgrow3 (by omega) (fun r hr => by cases hr; exact Nat.le_refl _)
          · have := hgrow3.size; omega
        · have hjc : j = 6 := by omega
          subst hjc
          have hd' : decide (0 < M / 281474976710656) = false := by simpa using hd
          clear hd
          have HJ : Hid (6 = kN m) := Lib.hid hc.symm
          clear hc jk k8 k4
          have hor : bits .or .i64 8 3 = 11 := by decide
          obtain ⟨i0, hi, hz0, hz1, hz2⟩ := info_parts info5
          go_wp2_with fail
          obtain rfl := HM.out
          refine (ref_low m 6 _ (by omega) (by omega)).mono ?_
          rintro e w2 ⟨v2, rfl, ho2, hb2, -⟩
          have HO := own_lit hb2
          obtain ⟨g, cap, hv2, hg, hg2, hcells⟩ := own_src ho2 (by rw [Bs_length, lowL_length]; omega)
          have hlen : (Bs (lowL m 6)).length = 6 := by rw [Bs_length, lowL_length]
          rw [hlen] at hv2
          subst hv2
          have hfin : Bs (numL m) = [.int .u8 11] ++ Bs (lowL m 6) := by
            have h0 := H0.out
            unfold numL; rw [if_neg (by omega), if_neg (by omega), if_neg (by omega), ← HJ.out]; rfl
          have HF := Lib.hid hfin
          have HC := Lib.hid hcells
          have HL := Lib.hid hlen
          have hz : w.heap.size + 1 ≤ w2.heap.size := by have := hb2.size; simpa using this
          clear hfin hcells hlen ho2
          go_wp2_with (first | (at_builtin; refine wpList_append_own _ rfl _ _ 75 rfl w.heap.size 5 i0 (.int .u8 0) 1 1 Tryz.underlying75 hi hz0 hz1 hz2 rfl (by decide) _ _ _ rfl HO ⟨g, 0, none⟩ 6 cap (Bs (lowL m 6)) rfl (by rw [HL.out]) HC.out (Bs_one _) (by unfold maxLen; omega) (by omega) (by omega) ?_; intro v3 w3 hown3 hgrow3 _) | fail)
          go_ret
          refine ⟨v3, rfl, ?_, ?_, ?_⟩
          · unfold OwnB; rw [HF.out, List.length_append, HL.out]; exact hown3
          · exact (below_box' hb2).grown hgrow3 (by omega) (fun r hr => by cases hr; exact Nat.le_refl _)
          · have := hgrow3.size; omega
        · have hjc : j = 7 := by omega
          subst hjc
          have hd' : decide (0 < M / 72057594037927936) = false := by simpa using hd
          clear hd
          have HJ : Hid (7 = kN m) := Lib.hid hc.symm
          clear hc jk k8 k4
          have hor : bits .or .i64 12 3 = 15 := by decide
          obtain ⟨i0, hi, hz0, hz1, hz2⟩ := info_parts info5
          go_wp2_with fail
          obtain rfl := HM.out
          refine (ref_low m 7 _ (by omega) (by omega)).mono ?_
          rintro e w2 ⟨v2, rfl, ho2, hb2, -⟩
          have HO := own_lit hb2
          obtain ⟨g, cap, hv2, hg, hg2, hcells⟩ := own_src ho2 (by rw [Bs_length, lowL_length]; omega)
          have hlen : (Bs (lowL m 7)).length = 7 := by rw [Bs_length, lowL_length]
          rw [hlen] at hv2
          subst hv2
          have hfin : Bs (numL m) = [.int .u8 15] ++ Bs (lowL m 7) := by
            have h0 := H0.out
            unfold numL; rw [if_neg (by omega), if_neg (by omega), if_neg (by omega), ← HJ.out]; rfl
          have HF := Lib.hid hfin
          have HC := Lib.hid hcells
          have HL := Lib.hid hlen
          have hz : w.heap.size + 1 ≤ w2.heap.size := by have := hb2.size; simpa using this
          clear hfin hcells hlen ho2
          go_wp2_with (first | (at_builtin; refine wpList_append_own _ rfl _ _ 75 rfl w.heap.size 5 i0 (.int .u8 0) 1 1 Tryz.underlying75 hi hz0 hz1 hz2 rfl (by decide) _ _ _ rfl HO ⟨g, 0, none⟩ 7 cap (Bs (lowL m 7)) rfl (by rw [HL.out]) HC.out (Bs_one _) (by unfold maxLen; omega) (by omega) (by omega) ?_; intro v3 w3 hown3 hgrow3 _) | fail)
          go_ret
          refine ⟨v3, rfl, ?_, ?_, ?_⟩
          · unfold OwnB; rw [HF.out, List.length_append, HL.out]; exact hown3
          · exact (below_box' hb2).grown hgrow3 (by omega) (fun r hr => by cases hr; exact Nat.le_refl _)
          · have := hgrow3.size; omega
        · omega
    · have j8 : j = 8 := by omega
      rcases HK.out with hc | hc | hc | hc | hc
      · omega
      · omega
      · omega
      · omega
      · have hjc : j = 8 := by omega
        subst hjc
        have HJ : Hid (8 = kN m) := Lib.hid hc.symm
        clear hc jk k8 k4
        have hor : bits .or .i64 16 3 = 19 := by decide
        obtain ⟨i0, hi, hz0, hz1, hz2⟩ := info_parts info5
        go_wp2_with fail
        obtain rfl := HM.out
        refine (ref_low m 8 _ (by omega) (by omega)).mono ?_
        rintro e w2 ⟨v2, rfl, ho2, hb2, -⟩
        have HO := own_lit hb2
        obtain ⟨g, cap, hv2, hg, hg2, hcells⟩ := own_src ho2 (by rw [Bs_length, lowL_length]; omega)
        have hlen : (Bs (lowL m 8)).length = 8 := by rw [Bs_length, lowL_length]
        rw [hlen] at hv2
        subst hv2
        have hfin : Bs (numL m) = [.int .u8 19] ++ Bs (lowL m 8) := by
          have h0 := H0.out
          unfold numL; rw [if_neg (by omega), if_neg (by omega), if_neg (by omega), ← HJ.out]; rfl
        have HF := Lib.hid hfin
        have HC := Lib.hid hcells
        have HL := Lib.hid hlen
        have hz : w.heap.size + 1 ≤ w2.heap.size := by have := hb2.size; simpa using this
        clear hfin hcells hlen ho2
        go_wp2_with (first | (at_builtin; refine wpList_append_own _ rfl _ _ 75 rfl w.heap.size 5 i0 (.int .u8 0) 1 1 Tryz.underlying75 hi hz0 hz1 hz2 rfl (by decide) _ _ _ rfl HO ⟨g, 0, none⟩ 8 cap (Bs (lowL m 8)) rfl (by rw [HL.out]) HC.out (Bs_one _) (by unfold maxLen; omega) (by omega) (by omega) ?_; intro v3 w3 hown3 hgrow3 _) | fail)
        go_ret
        refine ⟨v3, rfl, ?_, ?_, ?_⟩
        · unfold OwnB; rw [HF.out, List.length_append, HL.out]; exact hown3
        · exact (below_box' hb2).grown hgrow3 (by omega) (fun r hr => by cases hr; exact Nat.le_refl _)
        · have := hgrow3.size; omega

end Go.Proofs.YtcfcfijmfgnpfaaGreatDoor
end

section
namespace Go.Proofs.YtcfcfijmfgnpfaaGreatDoor
open Go.RowKit
set_option linter.unusedVariables false

theorem ref_Num (n : Int) (w : World) : Calls Tryz.prog 96 #[.int .i64 n] w (OwnRet w.heap.size (Bs (numL (heldN n))) w) := by
  by_cases c1 : heldN n < 64
  · exact ref_Num1 n _ w rfl c1
  by_cases c2 : heldN n < 16384
  · exact ref_Num2 n _ w rfl (by omega) c2
  by_cases c3 : heldN n < 1073741824
  · exact ref_Num3 n _ w rfl (by omega) c3
  · exact ref_Num4 n _ w rfl (by omega)

theorem heldN_le (n : Int) : heldN n ≤ 4611686018427387904 := by unfold heldN; omega

theorem compact_within (n : Int) (w : World) : Calls Tryz.prog 105 #[.int .i64 n] w fun e w' => e = .returned (.int .i64 (heldN n : Nat)) ∧ w = w' := by
  obtain ⟨M, hM⟩ : ∃ M : Int, M = (heldN n : Nat) := ⟨_, rfl⟩
  have E : min (max n 0) 4611686018427387904 = M := by rw [hM]; unfold heldN; omega
  rw [← hM]
  clear hM
  go_enter Tryz.func105, Tryz.ntmps105
  go_wp2
  go_ret
  exact ⟨rfl, rfl⟩

/-- A cell that is there lies in a block that is there. -/
theorem cell_block {w : World} {a : Addr} {i : Nat} {v : Value} (h : w.cell? (a.add i) = some v) : a.block < w.heap.size := by
  have h1 := World.block_lt_of_cell? w _ h
  have : (a.add i).block = a.block := by unfold Addr.add; split <;> rfl
  rwa [this] at h1

/-- A slice of bytes reads as these. -/
def RdB (w : World) (v : Value) (l : List Nat) : Prop :=
  (v = .slice none 0 0 ∧ l = []) ∨ ∃ a cap, v = .slice (some a) l.length cap ∧ l.length ≤ cap ∧ ∀ i, i < l.length → w.cell? (a.add i) = some (.int .u8 ((l.getD i 0 : Nat) : Int))
/-- A slice of integers reads as these. -/
def RdIM (w : World) (v : Value) (l : List Int) : Prop :=
  (v = .slice none 0 0 ∧ l = []) ∨ ∃ a cap, v = .slice (some a) l.length cap ∧ l.length ≤ cap ∧ ∀ i, i < l.length → w.cell? (a.add i) = some (.int .i64 (l.getD i 0))

theorem RdB.below {w w' : World} {v : Value} {l : List Nat} (h : RdB w v l) (hb : Below w.heap.size w w') : RdB w' v l := by
  rcases h with h | ⟨a, cap, hv, hc, hcell⟩
  · exact .inl h
  · refine .inr ⟨a, cap, hv, hc, fun i hi => ?_⟩
    have hl := cell_block (hcell i hi)
    have : (a.add i).block = a.block := by unfold Addr.add; split <;> rfl
    rw [hb.cell (by rw [this]; exact hl)]; exact hcell i hi
theorem RdIM.below {w w' : World} {v : Value} {l : List Int} (h : RdIM w v l) (hb : Below w.heap.size w w') : RdIM w' v l := by
  rcases h with h | ⟨a, cap, hv, hc, hcell⟩
  · exact .inl h
  · refine .inr ⟨a, cap, hv, hc, fun i hi => ?_⟩
    have hl := cell_block (hcell i hi)
    have : (a.add i).block = a.block := by unfold Addr.add; split <;> rfl
    rw [hb.cell (by rw [this]; exact hl)]; exact hcell i hi

theorem OwnB.reads {B : Nat} {v : Value} {l : List Nat} {w : World} (h : OwnB B v (Bs l) w) : RdB w v l := by
  have h' := h
  obtain ⟨h1, h2⟩ := h
  rcases h2 with ⟨rfl, h0⟩ | ⟨g, cap, cur, rfl, hg, hh, hc, hr⟩
  · rw [Bs_length] at h0
    exact .inl ⟨rfl, List.length_eq_zero_iff.1 h0⟩
  · have hlt := World.ownsRow.lt h' g rfl
    rw [Bs_length] at hc ⊢
    refine .inr ⟨⟨g, 0, none⟩, cap, rfl, hc, fun i hi => ?_⟩
    exact World.ownsRow.cells h' rfl i _ (by simp [Bs, hi])

theorem bytes_Clone (v : Value) (l : List Nat) (w : World) (h : RdB w v l) (hl : l.length ≤ 140737488355328) :
    Calls Tryz.prog 103 #[v] w (OwnRet w.heap.size (Bs l) w) := by
  rcases h with ⟨rfl, rfl⟩ | ⟨a, cap, rfl, hc, hcell⟩
  · refine (Tryz.bytes_Clone_nil 0 0 w).mono ?_
    rintro e w' ⟨he, rfl⟩
    exact ⟨_, he, World.ownsRow_nil _ _ _ _, Below.refl _ _, Nat.le_refl _⟩
  · refine (Tryz.bytes_Clone_at a l.length cap (l.map fun (b : Nat) => (b : Int)) w (by simp) hl (fun i hi => ?_)).mono ?_
    · rw [hcell i hi]; simp [hi]
    rintro e w' ⟨v', he, ho, -, hb⟩
    refine ⟨v', he, ?_, hb, hb.size⟩
    · have e1 : (l.map fun (b : Nat) => (b : Int)).map (Value.int .u8) = Bs l := by simp [Bs]
      unfold OwnB; rw [Bs_length, ← e1]; exact ho

/-- The bytes of numbers, one behind the other. -/
def numsL : List Int → List Nat
  | [] => []
  | n :: l => numL (heldN n) ++ numsL l

theorem numL_length (n : Nat) : (numL n).length ≤ 9 := by
  have := kN_cases n
  unfold numL
  split
  · simp [lowL_length]
  · split
    · simp [lowL_length]
    · split
      · simp [lowL_length]
      · simp [lowL_length]; omega

theorem numsL_snoc (l : List Int) (n : Int) : numsL (l ++ [n]) = numsL l ++ numL (heldN n) := by
  induction l with
  | nil => simp [numsL]
  | cons a l ih => simp [numsL, ih]
theorem numsL_length (l : List Int) : (numsL l).length ≤ 9 * l.length := by
  induction l with
  | nil => simp [numsL]
  | cons a l ih => have := numL_length (heldN a); simp [numsL]; omega

set_option maxHeartbeats 1000000 in
theorem compact_Put (v u : Value) (b : List Nat) (l : List Int) (w : World) (hb : RdB w v b) (hl : RdIM w u l) (hbl : b.length ≤ 1099511627) (hll : l.length ≤ 109951162) :
    Calls Tryz.prog 82 #[v, u] w (OwnRet w.heap.size (Bs (b ++ numsL l)) w) := by
  obtain ⟨B, hBe⟩ : ∃ B, B = w.heap.size := ⟨_, rfl⟩
  rw [← hBe]
  have HB := Lib.hid hBe
  have HLn : Hid (RdIM w u l) := Lib.hid hl
  have HBn : Hid (RdB w v b) := Lib.hid hb
  clear hBe hb
  obtain ⟨ao, cap, rfl⟩ : ∃ ao cap, u = .slice ao l.length cap := by
    rcases hl with ⟨rfl, rfl⟩ | ⟨a, cap, rfl, -⟩
    · exact ⟨_, _, rfl⟩
    · exact ⟨_, _, rfl⟩
  clear hl
  go_enter Tryz.func82, Tryz.ntmps82
  go_wp2_with (first | (go_at_call 103; refine (bytes_Clone v b w HBn.out (by omega)).mono ?_; rintro e w1 ⟨v1, rfl, ho1, hb1, hs1⟩) | fail)
  go_loopw [5, 12] (fun b' i wr => ∃ j : Nat, j ≤ l.length ∧ i = .int .i64 j ∧ OwnB B b' (Bs (b ++ numsL (l.take j))) wr ∧ Below B w wr ∧ B ≤ wr.heap.size) (fun _ i _ => l.length - (intOf i).toNat)
  case atStart => exact ⟨0, Nat.zero_le _, rfl, by simpa [numsL, HB.out] using ho1, by rw [HB.out]; exact hb1, by rw [HB.out]; exact hs1⟩
  case round =>
    obtain ⟨j, hj, rfl, ho, hb, hs⟩ := hrel
    by_cases hlt : j < l.length
    · obtain ⟨L, hL⟩ : ∃ L, L = b ++ numsL (l.take j) := ⟨_, rfl⟩
      have hLl : L.length ≤ 1099511627 + 9 * 109951162 := by
        rw [hL, List.length_append]
        have := numsL_length (l.take j)
        have : (l.take j).length ≤ l.length := by simp; omega
        omega
      rw [← hL] at ho
      have R := (show RdIM w _ l from HLn.out)
      obtain ⟨a, cap', ha, hcap, hcell⟩ : ∃ a cap', (Value.slice ao l.length cap) = .slice (some a) l.length cap' ∧ l.length ≤ cap' ∧ ∀ i, i < l.length → w.cell? (a.add i) = some (.int .i64 (l.getD i 0)) := by
        rcases R with ⟨h1, h2⟩ | h
        · rw [h2] at hlt; simp at hlt
        · exact h
      have hcj := hcell j hlt
      have halt := cell_block hcj
      have hsp := World.cell?_spot (hcell 0 (by omega))
      obtain ⟨q, hq⟩ : ∃ q, q = l.getD j 0 := ⟨_, rfl⟩
      rw [← hq] at hcj
      have hnext : b ++ numsL (l.take (j + 1)) = L ++ numL (heldN q) := by
        have e : l.take (j + 1) = l.take j ++ [q] := by
          rw [List.take_succ_eq_append_getElem hlt, hq]; simp [hlt]
        rw [e, numsL_snoc, hL, List.append_assoc]
      have HN := Lib.hid hnext
      clear hcell R hq hnext hL
      injection ha with h1 h2 h3
      subst h1 h3
      obtain ⟨blk, off, spot⟩ := a
      have hspot : spot = none := by simpa [Addr.add] using hsp
      subst hspot
      have hadd : (⟨blk, off, none⟩ : Addr).add j = ⟨blk, off + j, none⟩ := by simp [Addr.add]
      rw [hadd] at hcj
      have hcx : wr.cell? ⟨blk, off + j, none⟩ = some (.int .i64 q) := (hb.cell (p := ⟨blk, off + j, none⟩) (by rw [HB.out]; exact halt)).trans hcj
      clear hcj halt h2 hsp
      go_wp2_with (first | (go_at_call 105; refine (compact_within _ _).mono ?_; rintro e w' ⟨rfl, rfl⟩) | fail)
      refine (compact_put B u5 (Bs L) (heldN q) _ (heldN_le q) ho (by rw [Bs_length]; omega) hs).mono ?_
      rintro e w2 ⟨v2, rfl, ho2, hb2, hs2⟩
      have ho3 : OwnB B v2 (Bs (b ++ numsL (l.take (j + 1)))) w2 := by rw [HN.out, Bs_append]; exact ho2
      clear ho2 ho
      go_wp2
      exact ⟨⟨j + 1, by omega, by go_num, ho3, hb.trans hb2, hs2⟩, by simp [intOf]; omega⟩
    · go_wp2
      go_ret
      have : j = l.length := by omega
      subst this
      rw [List.take_length] at ho
      exact ⟨_, rfl, ho, hb, hs⟩

end Go.Proofs.YtcfcfijmfgnpfaaGreatDoor
end

section
namespace Go.Proofs.YtcfcfijmfgnpfaaGreatDoor
open Go.RowKit
set_option linter.unusedVariables false

/-- The number that bytes make, the lowest first. -/
def valL : List Nat → Nat
  | [] => 0
  | b :: l => b + 256 * valL l
theorem valL_snoc (l : List Nat) (b : Nat) : valL (l ++ [b]) = valL l + b * 256 ^ l.length := by
  induction l with
  | nil => simp [valL]
  | cons a l ih =>
    simp only [List.cons_append, valL, ih, Nat.mul_add, Nat.pow_succ, List.length_cons]
    rw [Nat.mul_left_comm 256 b, Nat.mul_comm 256 (256 ^ l.length)]
    omega
theorem valL_lt (l : List Nat) (h : ∀ b ∈ l, b < 256) : valL l < 256 ^ l.length := by
  induction l with
  | nil => simp [valL]
  | cons a l ih =>
    have h1 := h a (by simp)
    have h2 := ih (fun b hb => h b (by simp [hb]))
    simp [valL, Nat.pow_succ]; omega

/-- How many bytes a number has whose first byte is c. -/
def toldN (c : Nat) : Nat := if c % 4 = 0 then 1 else if c % 4 = 1 then 2 else if c % 4 = 2 then 4 else 5 + c / 4

theorem pow_8 (j : Nat) : (2 : Nat) ^ (8 * j) = 256 ^ j := by
  rw [Nat.pow_mul]
/-- One more byte. -/
theorem or_byte {m c j : Nat} (hj : j < 8) (hm : m < 256 ^ j) (hc : c < 256) :
    bits .or .u64 (m : Int) (IntKind.u64.wrap ((c : Int) * 2 ^ (8 * j))) = ((m + c * 256 ^ j : Nat) : Int) := by
  have hp : 256 ^ (j + 1) ≤ 256 ^ 8 := Nat.pow_le_pow_right (by omega) (by omega)
  rw [Nat.pow_succ] at hp
  have hb : c * 256 ^ j + 256 ^ j ≤ 256 ^ j * 256 := by
    have := Nat.mul_le_mul_right (256 ^ j) (show c + 1 ≤ 256 by omega)
    rw [Nat.add_mul] at this; rw [Nat.mul_comm (256 ^ j)]; omega
  have h8 : (256 : Nat) ^ 8 = 18446744073709551616 := by rfl
  rw [h8] at hp
  have h1 : ((c : Int) * 2 ^ (8 * j)) = ((c * 256 ^ j : Nat) : Int) := by
    rw [← pow_8]; push_cast; rfl
  have h2 : IntKind.u64.wrap ((c * 256 ^ j : Nat) : Int) = ((c * 256 ^ j : Nat) : Int) := by
    rw [IntKind.wrap_u64]; omega
  have h3 : m + c * 256 ^ j = m ||| c * 256 ^ j := by
    have := Nat.two_pow_add_eq_or_of_lt (i := 8 * j) (b := m) (by rw [pow_8]; exact hm) c
    rw [pow_8, Nat.mul_comm] at this
    rw [Nat.or_comm, ← this, Nat.add_comm]
  rw [h1, h2, h3]
  exact bits_or_u64_nat m _ (by omega) (by omega)

theorem compact_told (c : Nat) (w : World) (hc : c < 256) :
    Calls Tryz.prog 124 #[.int .u8 c] w fun e w' => e = .returned (.int .i64 ((toldN c : Nat) : Int)) ∧ w = w' := by
  have hb : bits .and .u8 (c : Int) 3 = ((c % 4 : Nat) : Int) := by
    have := u8_and_nat c 3 hc (by omega)
    rw [show c &&& 3 = c % 4 from Nat.and_two_pow_sub_one_eq_mod c 2] at this
    exact this
  have h4 : c % 4 = 0 ∨ c % 4 = 1 ∨ c % 4 = 2 ∨ c % 4 = 3 := by omega
  rcases h4 with h | h | h | h
  all_goals
    rw [h] at hb
    obtain ⟨t, ht⟩ : ∃ t, t = toldN c := ⟨_, rfl⟩
    rw [← ht]
    simp only [toldN, h] at ht
    simp at ht
    have H := Lib.hid h
    clear h
    have HT := Lib.hid ht
    clear ht
    go_enter Tryz.func124, Tryz.ntmps124
    go_wp2
    go_ret
    exact ⟨ret_int (by rw [HT.out]; first | rfl | omega), rfl⟩

set_option maxHeartbeats 1000000 in
theorem compact_value (v : Value) (l : List Nat) (w : World) (h : RdB w v l) (hl : l.length ≤ 8) (hb : ∀ b ∈ l, b < 256) :
    Calls Tryz.prog 125 #[v] w fun e w' => e = .returned (.int .u64 (valL l : Nat)) ∧ w = w' := by
  have HR : Hid (RdB w v l) := Lib.hid h
  obtain ⟨ao, cap, rfl⟩ : ∃ ao cap, v = .slice ao l.length cap := by
    rcases h with ⟨rfl, rfl⟩ | ⟨a, cap, rfl, -⟩
    · exact ⟨_, _, rfl⟩
    · exact ⟨_, _, rfl⟩
  have HBd := Lib.hid hb
  clear h hb
  go_enter Tryz.func125, Tryz.ntmps125
  go_wp2
  go_loop [3, 8] (fun u i => ∃ j m : Nat, j ≤ l.length ∧ i = .int .i64 j ∧ u = .int .u64 m ∧ m = valL (l.take j)) (fun _ i => l.length - (intOf i).toNat)
  case atStart => exact ⟨0, 0, Nat.zero_le _, rfl, rfl, by simp [valL]⟩
  case round =>
    obtain ⟨j, m, hj, rfl, rfl, hm⟩ := hrel
    have HM := Lib.hid hm
    clear hm
    by_cases hlt : j < l.length
    · have R := HR.out
      obtain ⟨a, cap', ha, hcap, hcell⟩ : ∃ a cap', (Value.slice ao l.length cap) = .slice (some a) l.length cap' ∧ l.length ≤ cap' ∧ ∀ i, i < l.length → w.cell? (a.add i) = some (.int .u8 ((l.getD i 0 : Nat) : Int)) := by
        rcases R with ⟨h1, h2⟩ | h
        · rw [h2] at hlt; simp at hlt
        · exact h
      have hcj := hcell j hlt
      have hsp := World.cell?_spot (hcell 0 (by omega))
      obtain ⟨c, hc⟩ : ∃ c, c = l.getD j 0 := ⟨_, rfl⟩
      rw [← hc] at hcj
      have hc2 : c < 256 := HBd.out c (by rw [hc]; simp [hlt])
      injection ha with h1 h2 h3
      subst h1 h3
      obtain ⟨blk, off, spot⟩ := a
      have hspot : spot = none := by simpa [Addr.add] using hsp
      subst hspot
      have hadd : (⟨blk, off, none⟩ : Addr).add j = ⟨blk, off + j, none⟩ := by simp [Addr.add]
      rw [hadd] at hcj
      have HC := Lib.hid hc
      clear hcell R hc h2 hsp
      have hm' : m < 256 ^ j := by
        rw [HM.out]
        have := valL_lt (l.take j) (fun b hb => HBd.out b (List.mem_of_mem_take hb))
        rwa [List.length_take, Nat.min_eq_left (by omega)] at this
      have hor := or_byte (show j < 8 by omega) hm' hc2
      obtain ⟨m', hm2⟩ : ∃ m', m' = m + c * 256 ^ j := ⟨_, rfl⟩
      rw [← hm2] at hor
      have HM2 := Lib.hid hm2
      clear hm2 hm'
      go_wp2
      refine ⟨⟨j + 1, m', by omega, by simp, rfl, ?_⟩, by simp [intOf]; omega⟩
      rw [HM2.out, HM.out, HC.out]
      have ht : l.take (j + 1) = l.take j ++ [l.getD j 0] := by
        rw [List.take_add_one, List.getElem?_eq_getElem hlt]; simp [hlt]
      rw [ht, valL_snoc, List.length_take, Nat.min_eq_left (by omega)]
    · go_wp2
      go_ret
      have : j = l.length := by omega
      subst this
      exact ⟨by rw [HM.out, List.take_length]; rfl, rfl⟩

end Go.Proofs.YtcfcfijmfgnpfaaGreatDoor
end

section
namespace Go.Proofs.YtcfcfijmfgnpfaaGreatDoor
open Go.RowKit
set_option linter.unusedVariables false

/-- The number that bytes begin with, and its size. -/
def takeL (l : List Nat) : Option (Nat × Nat) :=
  if l = [] then none else
  let s := toldN (l.getD 0 0)
  if s > 9 ∨ s > l.length then none else
  let u := if s > 4 then valL ((l.take s).drop 1) else valL (l.take s) / 4
  if u > 4611686018427387904 ∨ sizeN u ≠ s then none else some (u, s)
/-- What take tells. -/
def takeV (o : Option (Nat × Nat)) : Ending :=
  match o with
  | none => .returned (.tuple #[.int .i64 0, .int .i64 0, .bool false])
  | some (n, s) => .returned (.tuple #[.int .i64 (n : Nat), .int .i64 (s : Nat), .bool true])

theorem RdB.lenOf {w : World} {v : Value} {l : List Nat} (h : RdB w v l) : ∃ ao cap, v = .slice ao l.length cap := by
  rcases h with ⟨rfl, rfl⟩ | ⟨a, cap, rfl, -⟩
  · exact ⟨_, _, rfl⟩
  · exact ⟨_, _, rfl⟩
theorem toldN_pos (c : Nat) : 1 ≤ toldN c := by unfold toldN; split <;> (try split) <;> (try split) <;> omega

set_option maxHeartbeats 1000000 in
theorem compact_Take_0 (v : Value) (w : World) (h : RdB w v []) :
    Calls Tryz.prog 110 #[v] w fun e w' => e = takeV none ∧ w = w' := by
  obtain ⟨ao, cap, rfl⟩ := h.lenOf
  simp only [List.length_nil] at *
  go_enter Tryz.func110, Tryz.ntmps110
  go_wp2
  go_ret3
  exact ⟨rfl, rfl⟩

set_option maxHeartbeats 1000000 in
theorem compact_Take_short (v : Value) (l : List Nat) (w : World) (h : RdB w v l) (hl : l ≠ []) (hb : ∀ b ∈ l, b < 256) (hs : toldN (l.getD 0 0) > 9 ∨ toldN (l.getD 0 0) > l.length) :
    Calls Tryz.prog 110 #[v] w fun e w' => e = takeV none ∧ w = w' := by
  rcases h with ⟨-, h⟩ | ⟨⟨blk, off, spot⟩, cap, rfl, hcap, hcell⟩
  · exact absurd h hl
  have hpos : 0 < l.length := List.length_pos_iff.2 hl
  have h0 := hcell 0 hpos
  obtain ⟨c, hc⟩ : ∃ c, c = l.getD 0 0 := ⟨_, rfl⟩
  have hc2 : c < 256 := hb c (by rw [hc]; simp [hpos])
  rw [← hc] at h0 hs
  have hspot : spot = none := by simpa [Addr.add] using World.cell?_spot h0
  subst hspot
  have hadd : (⟨blk, off, none⟩ : Addr).add 0 = ⟨blk, off, none⟩ := by simp [Addr.add]
  rw [hadd] at h0
  obtain ⟨s, hS⟩ : ∃ s, s = toldN c := ⟨_, rfl⟩
  rw [← hS] at hs
  have hne : (l.length == 0) = false := by simp; omega
  have e1 : decide ((9 : Int) < (s : Int)) = true ∨ (decide ((9 : Int) < (s : Int)) = false ∧ decide (l.length < s) = true) := by
    simp; omega
  have HS := Lib.hid hS
  have HC := Lib.hid hc
  have HBd := Lib.hid hb
  clear hS hc hb hs hcell hl
  rcases e1 with e1 | ⟨e1, e2⟩
  all_goals
    go_enter Tryz.func110, Tryz.ntmps110
    go_wp2_with (first | (go_at_call 124; refine (compact_told _ _ hc2).mono ?_; rw [← HS.out]; rintro e w' ⟨rfl, rfl⟩) | fail)
    go_ret3
    exact ⟨rfl, rfl⟩

/-- The bytes of a slice of a slice. -/
theorem rd_cut {w : World} {blk off cap i j : Nat} {l : List Nat} (hl : l.length ≤ cap) (hc : ∀ i, i < l.length → w.cell? ((⟨blk, off, none⟩ : Addr).add i) = some (.int .u8 ((l.getD i 0 : Nat) : Int))) (hij : i ≤ j) (hj : j ≤ l.length) :
    RdB w (.slice (some ⟨blk, off + i, none⟩) (j - i) (cap - i)) ((l.take j).drop i) := by
  have hlen : ((l.take j).drop i).length = j - i := by simp; omega
  refine .inr ⟨⟨blk, off + i, none⟩, cap - i, by rw [hlen], by rw [hlen]; omega, fun k hk => ?_⟩
  rw [hlen] at hk
  have := hc (i + k) (by omega)
  have e1 : (⟨blk, off + i, none⟩ : Addr).add k = (⟨blk, off, none⟩ : Addr).add (i + k) := by
    unfold Addr.add; by_cases h1 : k = 0 <;> by_cases h2 : i + k = 0 <;> simp_all <;> omega
  have e2 : ((l.take j).drop i).getD k 0 = l.getD (i + k) 0 := by
    simp only [List.getD_eq_getElem?_getD, List.getElem?_drop, List.getElem?_take]
    rw [if_pos (by omega)]
  rw [e1, e2]; exact this

set_option maxHeartbeats 2000000 in
theorem compact_Take_small (v : Value) (l : List Nat) (w : World) (h : RdB w v l) (hl : l ≠ []) (hb : ∀ b ∈ l, b < 256) (hs : toldN (l.getD 0 0) ≤ 4) (hs2 : toldN (l.getD 0 0) ≤ l.length) :
    Calls Tryz.prog 110 #[v] w fun e w' => e = takeV (takeL l) ∧ w = w' := by
  rcases h with ⟨-, h⟩ | ⟨⟨blk, off, spot⟩, cap, rfl, hcap, hcell⟩
  · exact absurd h hl
  have hpos : 0 < l.length := List.length_pos_iff.2 hl
  have h0 := hcell 0 hpos
  obtain ⟨c, hc⟩ : ∃ c, c = l.getD 0 0 := ⟨_, rfl⟩
  have hc2 : c < 256 := hb c (by rw [hc]; simp [hpos])
  have htl : takeL l = if valL (l.take (toldN c)) / 4 > 4611686018427387904 ∨ sizeN (valL (l.take (toldN c)) / 4) ≠ toldN c then none else some (valL (l.take (toldN c)) / 4, toldN c) := by
    have a1 : ¬ (toldN c > 9 ∨ toldN c > l.length) := by rw [hc]; omega
    have a2 : ¬ (toldN c > 4) := by rw [hc]; omega
    simp only [takeL, if_neg hl, ← hc, if_neg a1, if_neg a2]
  rw [← hc] at h0 hs hs2
  have hspot : spot = none := by simpa [Addr.add] using World.cell?_spot h0
  subst hspot
  have hadd : (⟨blk, off, none⟩ : Addr).add 0 = ⟨blk, off, none⟩ := by simp [Addr.add]
  rw [hadd] at h0
  obtain ⟨s, hS⟩ : ∃ s, s = toldN c := ⟨_, rfl⟩
  have hs1 : 1 ≤ s := by rw [hS]; exact toldN_pos c
  rw [← hS] at hs hs2 htl
  have hrd := rd_cut (i := 0) hcap hcell (Nat.zero_le s) hs2
  simp only [Nat.add_zero, Nat.sub_zero, List.drop_zero] at hrd
  have hvl : (l.take s).length ≤ 8 := by rw [List.length_take]; omega
  have hvb : ∀ b ∈ l.take s, b < 256 := fun b h => hb b (List.mem_of_mem_take h)
  have hlt := valL_lt _ hvb
  rw [List.length_take, Nat.min_eq_left hs2] at hlt
  have hp : 256 ^ s ≤ 256 ^ 4 := Nat.pow_le_pow_right (by omega) hs
  obtain ⟨u, hu⟩ : ∃ u, u = valL (l.take s) := ⟨_, rfl⟩
  rw [← hu] at hlt htl
  have hu4 : u < 4294967296 := by have : (256:Nat) ^ 4 = 4294967296 := rfl; omega
  have hval := fun w' (h : RdB w' _ _) => compact_value (.slice (some ⟨blk, off, none⟩) s cap) (l.take s) w' h hvl hvb
  rw [← hu] at hval
  obtain ⟨q, hq⟩ : ∃ q, q = u / 4 := ⟨_, rfl⟩
  rw [← hq] at htl
  have hq4 : q < 1073741824 := by omega
  have hheld : heldN (q : Int) = q := by unfold heldN; omega
  have hne : (l.length == 0) = false := by simp; omega
  have g1 : decide ((9 : Int) < (s : Int)) = false := by simp; omega
  have g2 : decide (l.length < s) = false := by simp; omega
  have g3 : decide ((4 : Int) < (s : Int)) = false := by simp; omega
  obtain ⟨z, hz⟩ : ∃ z, z = sizeN q := ⟨_, rfl⟩
  rw [← hz] at htl
  have htl : takeL l = if z = s then some (q, s) else none := by
    rw [htl]; by_cases h : z = s
    · rw [if_neg (by omega), if_pos h]
    · rw [if_pos (by omega), if_neg h]
  have hsz := compact_Size (q : Int) w (by omega)
  rw [hheld, ← hz] at hsz
  have hqi : ((u : Int) / 4) = (q : Int) := by omega
  have g4 : decide ((4611686018427387904 : Int) < (q : Int)) = false := by simp; omega
  have HS := Lib.hid hS
  have HC := Lib.hid hc
  have HBd := Lib.hid hb
  have HT := Lib.hid htl
  have HQ := Lib.hid hq
  have HU := Lib.hid hu
  have HZ := Lib.hid hz
  have HR := Lib.hid hrd
  have HV := Lib.hid hval
  have HSz := Lib.hid hsz
  clear hS hc hb hcell hl htl hq hu hz hrd hval hsz hlt hp hvb hheld
  go_enter Tryz.func110, Tryz.ntmps110
  go_wp2_with (first | (go_at_call 124; refine (compact_told _ _ hc2).mono ?_; rw [← HS.out]; rintro e w' ⟨rfl, rfl⟩) | (go_at_call 125; refine (HV.out _ HR.out).mono ?_; rintro e w' ⟨rfl, rfl⟩) | (go_at_call 119; refine HSz.out.mono ?_; rintro e w' ⟨rfl, rfl⟩) | fail)
  · rename_i hz
    go_ret3
    refine ⟨?_, rfl⟩
    rw [HT.out, if_neg (by rintro rfl; simp at hz)]
    rfl
  · rename_i hz
    go_ret3
    refine ⟨?_, rfl⟩
    rw [HT.out, if_pos (by simp at hz; omega)]
    rfl

set_option maxHeartbeats 2000000 in
theorem compact_Take_long (v : Value) (l : List Nat) (w : World) (h : RdB w v l) (hl : l ≠ []) (hb : ∀ b ∈ l, b < 256) (hs : 4 < toldN (l.getD 0 0)) (hs9 : toldN (l.getD 0 0) ≤ 9) (hs2 : toldN (l.getD 0 0) ≤ l.length) :
    Calls Tryz.prog 110 #[v] w fun e w' => e = takeV (takeL l) ∧ w = w' := by
  rcases h with ⟨-, h⟩ | ⟨⟨blk, off, spot⟩, cap, rfl, hcap, hcell⟩
  · exact absurd h hl
  have hpos : 0 < l.length := List.length_pos_iff.2 hl
  have h0 := hcell 0 hpos
  obtain ⟨c, hc⟩ : ∃ c, c = l.getD 0 0 := ⟨_, rfl⟩
  have hc2 : c < 256 := hb c (by rw [hc]; simp [hpos])
  have htl : takeL l = if valL ((l.take (toldN c)).drop 1) > 4611686018427387904 ∨ sizeN (valL ((l.take (toldN c)).drop 1)) ≠ toldN c then none else some (valL ((l.take (toldN c)).drop 1), toldN c) := by
    have a1 : ¬ (toldN c > 9 ∨ toldN c > l.length) := by rw [hc]; omega
    have a2 : (toldN c > 4) := by rw [hc]; omega
    simp only [takeL, if_neg hl, ← hc, if_neg a1, if_pos a2]
  rw [← hc] at h0 hs hs2 hs9
  have hspot : spot = none := by simpa [Addr.add] using World.cell?_spot h0
  subst hspot
  have hadd : (⟨blk, off, none⟩ : Addr).add 0 = ⟨blk, off, none⟩ := by simp [Addr.add]
  rw [hadd] at h0
  obtain ⟨s, hS⟩ : ∃ s, s = toldN c := ⟨_, rfl⟩
  have hs1 : 1 ≤ s := by rw [hS]; exact toldN_pos c
  rw [← hS] at hs hs2 hs9 htl
  have hrd := rd_cut (i := 1) hcap hcell hs1 hs2
  have hvn : ((l.take s).drop 1).length = s - 1 := by simp; omega
  have hvl : ((l.take s).drop 1).length ≤ 8 := by omega
  have hvb : ∀ b ∈ (l.take s).drop 1, b < 256 := fun b h => hb b (List.mem_of_mem_take (List.mem_of_mem_drop h))
  have hlt := valL_lt _ hvb
  rw [hvn] at hlt
  have hp : 256 ^ (s - 1) ≤ 256 ^ 8 := Nat.pow_le_pow_right (by omega) (by omega)
  obtain ⟨u, hu⟩ : ∃ u, u = valL ((l.take s).drop 1) := ⟨_, rfl⟩
  rw [← hu] at hlt htl
  have hu4 : u < 18446744073709551616 := by have : (256:Nat) ^ 8 = 18446744073709551616 := rfl; omega
  have hval := fun w' (h : RdB w' _ _) => compact_value (.slice (some ⟨blk, off + 1, none⟩) (s - 1) (cap - 1)) ((l.take s).drop 1) w' h hvl hvb
  rw [← hu] at hval
  have hne : (l.length == 0) = false := by simp; omega
  have g1 : decide ((9 : Int) < (s : Int)) = false := by simp; omega
  have g2 : decide (l.length < s) = false := by simp; omega
  have g3 : decide ((4 : Int) < (s : Int)) = true := by simp; omega
  obtain ⟨z, hz⟩ : ∃ z, z = sizeN u := ⟨_, rfl⟩
  rw [← hz] at htl
  have HS := Lib.hid hS
  have HC := Lib.hid hc
  have HBd := Lib.hid hb
  have HT := Lib.hid htl
  have HU := Lib.hid hu
  have HR := Lib.hid hrd
  have HV := Lib.hid hval
  clear hS hc hb hcell hl htl hu hrd hval hlt hp hvb hvn
  by_cases hut : u > 4611686018427387904
  · have g4 : decide ((4611686018427387904 : Int) < (u : Int)) = true := by simp; omega
    have HZ := Lib.hid hz
    clear hz
    go_enter Tryz.func110, Tryz.ntmps110
    go_wp2_with (first | (go_at_call 124; refine (compact_told _ _ hc2).mono ?_; rw [← HS.out]; rintro e w' ⟨rfl, rfl⟩) | (go_at_call 125; refine (HV.out _ HR.out).mono ?_; rintro e w' ⟨rfl, rfl⟩) | fail)
    go_ret3
    refine ⟨?_, rfl⟩
    rw [HT.out, if_pos (.inl hut)]
    rfl
  · have g4 : decide ((4611686018427387904 : Int) < (u : Int)) = false := by simp; omega
    have hheld : heldN (u : Int) = u := by unfold heldN; omega
    have hsz := compact_Size (u : Int) w (by omega)
    rw [hheld, ← hz] at hsz
    have HZ := Lib.hid hz
    have HSz := Lib.hid hsz
    clear hz hheld hsz
    go_enter Tryz.func110, Tryz.ntmps110
    go_wp2_with (first | (go_at_call 124; refine (compact_told _ _ hc2).mono ?_; rw [← HS.out]; rintro e w' ⟨rfl, rfl⟩) | (go_at_call 125; refine (HV.out _ HR.out).mono ?_; rintro e w' ⟨rfl, rfl⟩) | (go_at_call 119; refine HSz.out.mono ?_; rintro e w' ⟨rfl, rfl⟩) | fail)
    · rename_i hz
      go_ret3
      refine ⟨?_, rfl⟩
      rw [HT.out, if_pos (.inr (by rintro rfl; simp at hz))]
      rfl
    · rename_i hz
      go_ret3
      refine ⟨?_, rfl⟩
      rw [HT.out, if_neg (by rintro (h | h); exact hut h; exact h (by simp at hz; omega))]
      rfl

theorem compact_Take (v : Value) (l : List Nat) (w : World) (h : RdB w v l) (hb : ∀ b ∈ l, b < 256) :
    Calls Tryz.prog 110 #[v] w fun e w' => e = takeV (takeL l) ∧ w = w' := by
  by_cases hl : l = []
  · subst hl; exact compact_Take_0 v w h
  by_cases h9 : toldN (l.getD 0 0) > 9 ∨ toldN (l.getD 0 0) > l.length
  · have : takeL l = none := by simp only [takeL, if_neg hl, if_pos h9]
    rw [this]; exact compact_Take_short v l w h hl hb h9
  by_cases h4 : toldN (l.getD 0 0) ≤ 4
  · exact compact_Take_small v l w h hl hb h4 (by omega)
  · exact compact_Take_long v l w h hl hb (by omega) (by omega) (by omega)

end Go.Proofs.YtcfcfijmfgnpfaaGreatDoor
end

section
namespace Go.Proofs.YtcfcfijmfgnpfaaGreatDoor
open Go.RowKit
set_option linter.unusedVariables false

theorem lowL_cons (n : Nat) : ∀ k, lowL n (k + 1) = n % 256 :: lowL (n / 256) k
  | 0 => by simp [lowL]
  | k + 1 => by
    rw [lowL, lowL_cons n k, lowL, Nat.div_div_eq_div_mul, ← Nat.pow_succ']
    rfl
theorem lowL_valL : ∀ t : List Nat, (∀ b ∈ t, b < 256) → lowL (valL t) t.length = t
  | [], _ => rfl
  | b :: t, h => by
    have hb : b < 256 := h b (by simp)
    rw [List.length_cons, lowL_cons, valL, show (b + 256 * valL t) % 256 = b by omega, show (b + 256 * valL t) / 256 = valL t by omega, lowL_valL t (fun x hx => h x (by simp [hx]))]
theorem valL_lowL (n : Nat) : ∀ k, valL (lowL n k) = n % 256 ^ k
  | 0 => by simp [lowL, valL, Nat.mod_one]
  | k + 1 => by
    rw [lowL, valL_snoc, valL_lowL n k, lowL_length, Nat.pow_succ, Nat.mod_mul, Nat.mul_comm]
theorem lowL_lt (n : Nat) : ∀ k, ∀ b ∈ lowL n k, b < 256
  | 0 => by simp [lowL]
  | k + 1 => by
    intro b hb
    rw [lowL, List.mem_append, List.mem_singleton] at hb
    rcases hb with hb | rfl
    · exact lowL_lt n k b hb
    · exact Nat.mod_lt _ (by omega)
theorem kN_ge (n : Nat) : 4 ≤ kN n ∧ kN n ≤ 8 := by
  rcases kN_cases n with h | h | h | h | h <;> omega
theorem numL_size (n : Nat) : (numL n).length = sizeN n := by
  unfold numL sizeN
  split
  · simp [lowL_length]
  split
  · simp [lowL_length]
  split
  · simp [lowL_length]
  · simp [lowL_length, Nat.add_comm]
theorem numL_lt (n : Nat) : ∀ b ∈ numL n, b < 256 := by
  have hk := kN_ge n
  unfold numL
  split
  · exact lowL_lt _ _
  split
  · exact lowL_lt _ _
  split
  · exact lowL_lt _ _
  · intro b hb
    rw [List.mem_cons] at hb
    rcases hb with rfl | hb
    · omega
    · exact lowL_lt _ _ b hb
theorem sizeN_le (n : Nat) : 1 ≤ sizeN n ∧ sizeN n ≤ 9 := by
  have hk := kN_ge n
  unfold sizeN
  split
  · omega
  split
  · omega
  split <;> omega
theorem numL_ne (n : Nat) : numL n ≠ [] := by
  have h := numL_size n
  have := (sizeN_le n).1
  intro e; rw [e] at h; simp at h; omega
theorem kN_fits {n : Nat} (h : n ≤ 4611686018427387904) : n < 256 ^ kN n := by
  unfold kN
  split
  · simpa using ‹_›
  split
  · simpa using ‹_›
  split
  · simpa using ‹_›
  split
  · simpa using ‹_›
  · show n < 256 ^ 8
    have : (256 : Nat) ^ 8 = 18446744073709551616 := rfl
    omega

/-- A number's first byte tells its size. -/
theorem numL_told {n : Nat} : toldN ((numL n).getD 0 0) = sizeN n := by
  have hk := kN_ge n
  unfold numL sizeN
  split
  · simp only [lowL_cons, List.getD_cons_zero]; unfold toldN; rw [if_pos (by omega)]
  split
  · simp only [lowL_cons, List.getD_cons_zero]; unfold toldN; rw [if_neg (by omega), if_pos (by omega)]
  split
  · simp only [lowL_cons, List.getD_cons_zero]; unfold toldN; rw [if_neg (by omega), if_neg (by omega), if_pos (by omega)]
  · simp only [List.getD_cons_zero]; unfold toldN; rw [if_neg (by omega), if_neg (by omega), if_neg (by omega)]; omega

/-- A number that was put is taken. -/
theorem takeL_num {n : Nat} (hn : n ≤ 4611686018427387904) (t : List Nat) : takeL (numL n ++ t) = some (n, sizeN n) := by
  have hlen := numL_size n
  have hs := sizeN_le n
  have hne := numL_ne n
  have h0 : (numL n ++ t).getD 0 0 = (numL n).getD 0 0 := by
    cases h : numL n with
    | nil => exact absurd h hne
    | cons a l => rfl
  have a0 : ¬ (numL n ++ t = []) := by simp [hne]
  have a1 : ¬ (sizeN n > 9 ∨ sizeN n > (numL n ++ t).length) := by rw [List.length_append]; omega
  have ht : (numL n ++ t).take (sizeN n) = numL n := by rw [← hlen]; exact List.take_left' rfl
  have hu : (if sizeN n > 4 then valL ((numL n).drop 1) else valL (numL n) / 4) = n := by
    have hk := kN_ge n
    have hf := kN_fits hn
    unfold sizeN numL
    split
    · rw [if_neg (by omega), valL_lowL]; omega
    split
    · rw [if_neg (by omega), valL_lowL]; omega
    split
    · rw [if_neg (by omega), valL_lowL]; omega
    · rw [if_pos (by omega), List.drop_succ_cons, List.drop_zero, valL_lowL, Nat.mod_eq_of_lt hf]
  simp only [takeL, if_neg a0, h0, numL_told, if_neg a1, ht, hu]
  rw [if_neg (by omega)]

theorem valL_mod4 {l : List Nat} (h : l ≠ []) : valL l % 4 = l.getD 0 0 % 4 := by
  cases l with
  | nil => exact absurd rfl h
  | cons a l => simp [valL]; omega

/-- What is as long as it is told is that number's bytes. -/
theorem numL_of {l : List Nat} {u : Nat} (hl : l ≠ []) (hb : ∀ b ∈ l, b < 256) (hs2 : toldN (l.getD 0 0) ≤ l.length)
    (hu : u = if toldN (l.getD 0 0) > 4 then valL ((l.take (toldN (l.getD 0 0))).drop 1) else valL (l.take (toldN (l.getD 0 0))) / 4)
    (hz : sizeN u = toldN (l.getD 0 0)) : numL u = l.take (toldN (l.getD 0 0)) := by
  obtain ⟨s, hS⟩ : ∃ s, s = toldN (l.getD 0 0) := ⟨_, rfl⟩
  rw [← hS] at hs2 hu hz ⊢
  have hpos := toldN_pos (l.getD 0 0)
  rw [← hS] at hpos
  obtain ⟨p, hp⟩ : ∃ p, p = l.take s := ⟨_, rfl⟩
  have hpl : p.length = s := by rw [hp, List.length_take]; omega
  have hpb : ∀ b ∈ p, b < 256 := by rw [hp]; exact fun b h => hb b (List.mem_of_mem_take h)
  have hp0 : p.getD 0 0 = l.getD 0 0 := by
    rw [hp]; cases l with
    | nil => exact absurd rfl hl
    | cons a t => cases s with
      | zero => omega
      | succ s => rfl
  have hpn : p ≠ [] := by intro e; rw [e] at hpl; simp at hpl; omega
  have hm := valL_mod4 hpn
  have hlow := lowL_valL p hpb
  rw [← hp] at hu ⊢
  rw [← hp0] at hS
  rw [hpl] at hlow
  have hk := kN_ge u
  unfold toldN at hS
  unfold sizeN at hz
  unfold numL
  by_cases c1 : u < 64
  · rw [if_pos c1] at hz ⊢
    rw [if_neg (by omega)] at hu
    have e : 4 * u = valL p := by split at hS <;> (try split at hS) <;> (try split at hS) <;> omega
    rw [e, hz]; exact hlow
  by_cases c2 : u < 16384
  · rw [if_neg c1, if_pos c2] at hz ⊢
    rw [if_neg (by omega)] at hu
    have e : 4 * u + 1 = valL p := by split at hS <;> (try split at hS) <;> (try split at hS) <;> omega
    rw [e, hz]; exact hlow
  by_cases c3 : u < 1073741824
  · rw [if_neg c1, if_neg c2, if_pos c3] at hz ⊢
    rw [if_neg (by omega)] at hu
    have e : 4 * u + 2 = valL p := by split at hS <;> (try split at hS) <;> (try split at hS) <;> omega
    rw [e, hz]; exact hlow
  · rw [if_neg c1, if_neg c2, if_neg c3] at hz ⊢
    rw [if_pos (by omega)] at hu
    cases p with
    | nil => exact absurd rfl hpn
    | cons c t =>
      simp only [List.getD_cons_zero, List.drop_succ_cons, List.drop_zero, List.length_cons] at hS hu hpl
      have hc : c < 256 := hpb c (by simp)
      have e : 4 * (kN u - 4) + 3 = c := by split at hS <;> (try split at hS) <;> (try split at hS) <;> omega
      have h := lowL_valL t (fun b h => hpb b (by simp [h]))
      rw [e, hu, show kN (valL t) = t.length by rw [← hu]; omega, h]

/-- What is taken stands there as that number's bytes. -/
theorem takeL_some {l : List Nat} {n s : Nat} (hb : ∀ b ∈ l, b < 256) (h : takeL l = some (n, s)) :
    n ≤ 4611686018427387904 ∧ s = sizeN n ∧ s ≤ l.length ∧ l.take s = numL n := by
  by_cases hl : l = []
  · simp [takeL, hl] at h
  by_cases h9 : toldN (l.getD 0 0) > 9 ∨ toldN (l.getD 0 0) > l.length
  · simp only [takeL, if_neg hl, if_pos h9] at h; exact absurd h (by simp)
  simp only [takeL, if_neg hl, if_neg h9] at h
  obtain ⟨u, hu⟩ : ∃ u, u = if toldN (l.getD 0 0) > 4 then valL ((l.take (toldN (l.getD 0 0))).drop 1) else valL (l.take (toldN (l.getD 0 0))) / 4 := ⟨_, rfl⟩
  rw [← hu] at h
  by_cases hc : u > 4611686018427387904 ∨ sizeN u ≠ toldN (l.getD 0 0)
  · rw [if_pos hc] at h; exact absurd h (by simp)
  rw [if_neg hc] at h
  injection h with h
  injection h with h1 h2
  have hz : sizeN u = toldN (l.getD 0 0) := by omega
  have := numL_of hl hb (by omega) hu hz
  subst h1 h2
  exact ⟨by omega, hz.symm, by omega, this.symm⟩

end Go.Proofs.YtcfcfijmfgnpfaaGreatDoor
end

section
namespace Go.Proofs.YtcfcfijmfgnpfaaGreatDoor
open Go.RowKit
set_option linter.unusedVariables false

theorem put69 : numsL [69] = [21, 1] := by decide
theorem take5 : takeL [3, 0, 0, 0, 64] = some (1073741824, 5) := by decide

theorem add_at (b o i : Nat) : (⟨b, o, none⟩ : Addr).add i = ⟨b, o + i, none⟩ := by
  unfold Addr.add; split
  · rename_i h; subst h; rfl
  · rfl
theorem rdI_lit (w : World) (l : List Int) (c : Array Value) (t : TypeId) (hc : ∀ i, i < l.length → c[i]? = some (.int .i64 (l.getD i 0))) :
    RdIM (w.alloc (.cells c t)) (.slice (some ⟨w.heap.size, 0, none⟩) l.length l.length) l :=
  .inr ⟨_, _, rfl, Nat.le_refl _, fun i hi => by rw [add_at, Nat.zero_add, World.cell?_alloc_new]; exact hc i hi⟩
theorem rdB_lit (w : World) (l : List Nat) (c : Array Value) (t : TypeId) (hc : ∀ i, i < l.length → c[i]? = some (.int .u8 ((l.getD i 0 : Nat) : Int))) :
    RdB (w.alloc (.cells c t)) (.slice (some ⟨w.heap.size, 0, none⟩) l.length l.length) l :=
  .inr ⟨_, _, rfl, Nat.le_refl _, fun i hi => by rw [add_at, Nat.zero_add, World.cell?_alloc_new]; exact hc i hi⟩
theorem rdB_nil (w : World) : RdB w (.slice none 0 0) [] := .inl ⟨rfl, rfl⟩

/-- A string of bytes. -/
def strN (l : List Nat) : ByteArray := ⟨(l.map UInt8.ofNat).toArray⟩
theorem strN_toList (l : List Nat) : (strN l).toList = l.map UInt8.ofNat := ByteArray.toList_mk _
theorem strN_eq {a b : List Nat} (ha : ∀ x ∈ a, x < 256) (hb : ∀ x ∈ b, x < 256) : (strN a).toList = (strN b).toList ↔ a = b := by
  rw [strN_toList, strN_toList]
  refine ⟨fun h => ?_, fun h => by rw [h]⟩
  have := congrArg (List.map UInt8.toNat) h
  simp only [List.map_map] at this
  have e : ∀ l : List Nat, (∀ x ∈ l, x < 256) → l.map (UInt8.toNat ∘ UInt8.ofNat) = l := fun l hl => by
    conv => rhs; rw [← List.map_id l]
    exact List.map_congr_left fun x hx => by simp; exact hl x hx
  rw [e a ha, e b hb] at this
  exact this
theorem run_str {w : World} {v : Value} {l : List Nat} (h : RdB w v l) (hb : ∀ b ∈ l, b < 256) :
    (convert 75 9 v).run Tryz.prog w = .ok (.string (strN l)) w := by
  rcases h with ⟨rfl, rfl⟩ | ⟨a, cap, rfl, hcap, hcell⟩
  · exact run_convert_bytes_nil w _ 5 (by kernel_rfl) (by kernel_rfl) 0 0 _ (by kernel_rfl)
  · have := run_convert_bytes_back (P := Tryz.prog) w 75 9 5 a cap (l.map UInt8.ofNat) (by kernel_rfl) (by kernel_rfl) (by kernel_rfl) (fun j hj => by
      have hj' : j < l.length := by simpa using hj
      rw [hcell j hj']
      have hbj := hb l[j] (List.getElem_mem hj')
      simp [hj']
      omega)
    rw [List.length_map] at this
    exact this

end Go.Proofs.YtcfcfijmfgnpfaaGreatDoor
end
