/-
  Hexadecimal digits: what they are, and two small laws of the model for them.
-/
import Derived.Test.YtjpmldjafkbncaaDoorBlk7
import Derived.Laws.Concat
import Derived.Laws.Strings2
import Derived.Laws.IdiomStrings
namespace Go.Proofs.YtjpmldjafkbncaaDoor
open Go.RowKit
set_option linter.unusedVariables false
set_option linter.unusedSimpArgs false

/-- A hex digit. -/
def digL (n : Nat) : Nat := if n < 10 then 48 + n else 87 + n
theorem digL_lt (n : Nat) (h : n < 16) : digL n < 256 := by unfold digL; split <;> omega
/-- The digit at place i of the digits of h. -/
def hexAt (h : List Nat) (i : Nat) : Nat := if i % 2 = 0 then digL (gt h (i / 2) / 16) else digL (gt h (i / 2) % 16)
/-- The digits of h, the first n bytes of it done. -/
def hexTo (h : List Nat) (n : Nat) : List Nat := (List.range 64).map fun i => if i < 2 * n then hexAt h i else 0
/-- All digits. -/
def hexL (h : List Nat) : List Nat := (List.range 64).map (hexAt h)
/-- Bytes as a string's. -/
def Us (l : List Nat) : List UInt8 := l.map UInt8.ofNat
def Str (l : List Nat) : Value := .string ⟨(Us l).toArray⟩
theorem hexTo_zero (h : List Nat) : hexTo h 0 = List.replicate 64 0 := by
  unfold hexTo
  apply List.ext_getElem (by simp)
  intro i h1 h2
  rw [List.getElem_map, List.getElem_replicate, if_neg (by omega)]
theorem hexTo_all (h : List Nat) : hexTo h 32 = hexL h := by
  unfold hexTo hexL
  apply List.ext_getElem (by simp)
  intro i h1 h2
  have : i < 64 := by simpa using h1
  simp only [List.getElem_map, List.getElem_range]
  rw [if_pos (by omega)]
theorem hexTo_len (h : List Nat) (n : Nat) : (hexTo h n).length = 64 := by simp [hexTo]
theorem hexL_len (h : List Nat) : (hexL h).length = 64 := by simp [hexL]
theorem hexTo_succ (h : List Nat) (n : Nat) (hn : n < 32) : hexTo h (n + 1) = ((hexTo h n).set (2 * n) (digL (gt h n / 16))).set (2 * n + 1) (digL (gt h n % 16)) := by
  refine ext_gt (by simp [hexTo]) fun i hi => ?_
  have hi' : i < 64 := by simpa [hexTo] using hi
  have hA : gt (hexTo h (n + 1)) i = if i < 2 * (n + 1) then hexAt h i else 0 := by unfold hexTo; rw [gt_map_range hi']
  have hB : gt (hexTo h n) i = if i < 2 * n then hexAt h i else 0 := by unfold hexTo; rw [gt_map_range hi']
  by_cases e1 : i = 2 * n + 1
  · subst e1
    rw [gt_set_same (by simp [hexTo]; omega), hA, if_pos (by omega)]
    unfold hexAt
    rw [if_neg (by omega), show (2 * n + 1) / 2 = n by omega]
  · rw [gt_set_ne (Ne.symm e1)]
    by_cases e2 : i = 2 * n
    · subst e2
      rw [gt_set_same (by simp [hexTo]; omega), hA, if_pos (by omega)]
      unfold hexAt
      rw [if_pos (by omega), show (2 * n) / 2 = n by omega]
    · rw [gt_set_ne (Ne.symm e2), hA, hB]
      by_cases e3 : i < 2 * n
      · rw [if_pos e3, if_pos (by omega)]
      · rw [if_neg e3, if_neg (by omega)]
theorem hexAt_lt (h : List Nat) (hb : ∀ i, gt h i < 256) (i : Nat) : hexAt h i < 256 := by
  unfold hexAt
  split
  · exact digL_lt _ (by have := hb (i / 2); omega)
  · exact digL_lt _ (by omega)
theorem hexL_lt (h : List Nat) (hb : ∀ i, gt h i < 256) : ∀ x ∈ hexL h, x < 256 := by
  intro x hx
  obtain ⟨i, -, rfl⟩ := List.mem_map.1 hx
  exact hexAt_lt h hb i

/-- The digits' string at a place. -/
theorem run_index_hex (w : World) (k : IntKind) (n : Nat) (h : n < 16) :
    (Instr.index 9 (.string { data := #[48, 49, 50, 51, 52, 53, 54, 55, 56, 57, 97, 98, 99, 100, 101, 102] }) (.int k (n : Int))).run Tryd.prog w = .ok (.int .u8 (digL n : Nat)) w := by
  rw [run_index_string w _ _ _ _ Tryd.underlying9, dif_pos ⟨by omega, by show (n : Int) < 16; omega⟩]
  match n, h with
  | 0, _ => rfl | 1, _ => rfl | 2, _ => rfl | 3, _ => rfl | 4, _ => rfl | 5, _ => rfl | 6, _ => rfl | 7, _ => rfl
  | 8, _ => rfl | 9, _ => rfl | 10, _ => rfl | 11, _ => rfl | 12, _ => rfl | 13, _ => rfl | 14, _ => rfl | 15, _ => rfl
  | n + 16, h => omega
/-- The digits' string from a place up to the next. -/
theorem run_slice_hex (w : World) (k k' : IntKind) (n : Nat) (h : n < 16) :
    (Instr.slice 9 (.string { data := #[48, 49, 50, 51, 52, 53, 54, 55, 56, 57, 97, 98, 99, 100, 101, 102] }) (some (.int k (n : Int))) (some (.int k' ((n + 1 : Nat) : Int))) none).run Tryd.prog w = .ok (Str [digL n]) w := by
  rw [run_slice_string w _ _ _ _ _ _ Tryd.underlying9 (by omega) (by omega) (by show ((n + 1 : Nat) : Int) ≤ 16; omega)]
  congr 1
  rw [show ({ data := #[48, 49, 50, 51, 52, 53, 54, 55, 56, 57, 97, 98, 99, 100, 101, 102] } : ByteArray) = ByteArray.mk (List.toArray [48, 49, 50, 51, 52, 53, 54, 55, 56, 57, 97, 98, 99, 100, 101, 102]) from rfl, ByteArray.extract_mk]
  unfold Str Us
  rw [Int.toNat_natCast, Int.toNat_natCast, show n + 1 - n = 1 by omega]
  match n, h with
  | 0, _ => rfl | 1, _ => rfl | 2, _ => rfl | 3, _ => rfl | 4, _ => rfl | 5, _ => rfl | 6, _ => rfl | 7, _ => rfl
  | 8, _ => rfl | 9, _ => rfl | 10, _ => rfl | 11, _ => rfl | 12, _ => rfl | 13, _ => rfl | 14, _ => rfl | 15, _ => rfl
  | n + 16, h => omega
/-- A digest's byte. -/
theorem run_index_Bs (w : World) (l : List Nat) (hl : l.length = 32) (n : Nat) (hn : n < 32) :
    (Instr.index 24 (.agg (Bs l).toArray) (.int .i64 (n : Int))).run Tryd.prog w = .ok (.int .u8 (gt l n : Nat)) w := by
  have hx : (Bs l)[n]? = some (.int .u8 (gt l n : Nat)) := by simp [Bs, gt, hl, hn]
  have hn' : (n : Int) < 32 := by omega
  have hc : Tryd.prog.cellsOf 5 = 1 := by kernel_rfl
  simp [Instr.index, asIntOf, run_underlying Tryd.underlying24, run_underlying Tryd.underlying5, hn', part, isAgg, hx]
  intro hh
  omega
/-- Bytes as a string. -/
theorem run_string_of (w : World) (v : Value) (l : List Nat) (h : RdB w v l) (hb : ∀ x ∈ l, x < 256) : (convert 22 9 v).run Tryd.prog w = .ok (Str l) w := by
  rcases h with ⟨rfl, rfl⟩ | ⟨a, cap, rfl, hc, hcell⟩
  · rw [run_convert_bytes_string w _ _ 5 none 0 0 Tryd.underlying22 Tryd.underlying5 Tryd.underlying9]
    simp [Conv.bytesToString]
    rfl
  · have hU : (Us l).length = l.length := by simp [Us]
    have := run_convert_bytes_back (P := Tryd.prog) w 22 9 5 a cap (Us l) Tryd.underlying22 Tryd.underlying5 Tryd.underlying9 (fun j hj => by
      rw [hU] at hj
      have hx := hb _ (List.getElem_mem hj)
      rw [hcell j hj]
      simp only [Us, List.getElem_map, UInt8.toNat_ofNat', List.getD_eq_getElem?_getD, List.getElem?_eq_getElem hj, Option.getD_some]
      rw [Nat.mod_eq_of_lt hx])
    rw [hU] at this
    exact this
theorem Us_length (l : List Nat) : (Us l).length = l.length := by simp [Us]
theorem Us_append (a b : List Nat) : Us (a ++ b) = Us a ++ Us b := by simp [Us]
/-- A short string behind another one. -/
theorem run_add_Str (w : World) (a b : List Nat) (ha : a.length ≤ 8000000) (hb : b.length ≤ 8000000) : (binOp .add 9 (Str a) (Str b)).run Tryd.prog w = .ok (Str (a ++ b)) w := by
  unfold Str
  rw [binOp_string_add, run_string_add_lists w _ _ (by rw [Us_length]; omega) (by rw [Us_length]; omega), Us_append]
theorem run_eql_Str (w : World) (a : List Nat) : (binOp .eql 9 (Str a) (Str a)).run Tryd.prog w = .ok (.bool true) w := by
  unfold Str
  rw [binOp_string_eql]
  simp
theorem run_guard_Str (op : BinOp) (t : TypeId) (x y : Operand) (a : List Nat) (b : ByteArray) (w : World) : (eqGuard op t x y (Str a) (.string b)).run Tryd.prog w = .ok () w := by
  unfold Str
  cases op <;> simp [eqGuard, go_sem]
theorem run_guard_Strs (op : BinOp) (t : TypeId) (x y : Operand) (a b : List Nat) (w : World) : (eqGuard op t x y (Str a) (Str b)).run Tryd.prog w = .ok () w := run_guard_Str op t x y a _ w
theorem run_neq_Str (w : World) (a : List Nat) : (binOp .neq 9 (Str a) (Str a)).run Tryd.prog w = .ok (.bool false) w := by
  unfold Str
  rw [binOp_string_neq]
  simp
end Go.Proofs.YtjpmldjafkbncaaDoor
