/-
  Words of 64 bits: turned to the right, by the document and by the library.
-/
import Derived.Test.YtbndegkgpoemnaaDoorChecked
import Derived.WalkKit
import Derived.WalkSpells
import Derived.WalkLawsBesides
import Derived.Lib.Hide
import Derived.Below
import Derived.IntWalk
import Derived.Laws.Bits64b
namespace Go.Proofs.YtbndegkgpoemnaaDoor
open Go.RowKit
set_option linter.unusedVariables false

/-- x turned to the right by n. -/
def rot (x n : Nat) : Nat := (x / 2 ^ n) ||| (x * 2 ^ (64 - n) % 18446744073709551616)

theorem rot_lt {x n : Nat} (hx : x < 18446744073709551616) : rot x n < 18446744073709551616 := by
  unfold rot
  exact Nat.or_lt_two_pow (n := 64) (Nat.lt_of_le_of_lt (Nat.div_le_self _ _) hx) (Nat.mod_lt _ (by decide))

theorem or_rot (x a b : Nat) (hx : x < 18446744073709551616) : bits .or .u64 ((x : Int) / (a : Int)) (IntKind.u64.wrap ((x : Int) * (b : Int))) = ((x / a ||| x * b % 18446744073709551616 : Nat) : Int) := by
  have h2 : IntKind.u64.wrap ((x : Int) * (b : Int)) = ((x * b % 18446744073709551616 : Nat) : Int) := by
    rw [IntKind.wrap_u64, ← Int.natCast_mul]; omega
  rw [h2, ← Int.natCast_ediv]
  exact bits_or_u64_nat _ _ (Nat.lt_of_le_of_lt (Nat.div_le_self _ _) hx) (Nat.mod_lt _ (by decide))
theorem or_rot' (x a b : Nat) (hx : x < 18446744073709551616) : bits .or .u64 (IntKind.u64.wrap ((x : Int) * (b : Int))) ((x : Int) / (a : Int)) = ((x / a ||| x * b % 18446744073709551616 : Nat) : Int) := by
  have h2 : IntKind.u64.wrap ((x : Int) * (b : Int)) = ((x * b % 18446744073709551616 : Nat) : Int) := by
    rw [IntKind.wrap_u64, ← Int.natCast_mul]; omega
  rw [h2, ← Int.natCast_ediv, Nat.or_comm]
  exact bits_or_u64_nat _ _ (Nat.mod_lt _ (by decide)) (Nat.lt_of_le_of_lt (Nat.div_le_self _ _) hx)
theorem ret_u64 {a b : Int} (h : a = b) : Ending.returned (.int .u64 a) = .returned (.int .u64 b) := by rw [h]

theorem ref_turned (x n : Nat) (w : World) (hx : x < 18446744073709551616) (hn : n = 32 ∨ n = 24 ∨ n = 16 ∨ n = 63) :
    Calls Tryd.prog 80 #[.int .u64 (x : Nat), .int .u64 (n : Nat)] w fun e w' => e = .returned (.int .u64 (rot x n : Nat)) ∧ w = w' := by
  rcases hn with rfl | rfl | rfl | rfl
  all_goals
    go_enter Tryd.func80, Tryd.ntmps80
    go_wp2
    go_ret
    exact ⟨ret_u64 (or_rot x _ _ hx), rfl⟩

theorem lib_rotate (x n : Nat) (m : Int) (w : World) (hx : x < 18446744073709551616) (hn : (n = 32 ∧ m = -32) ∨ (n = 24 ∧ m = -24) ∨ (n = 16 ∧ m = -16) ∨ (n = 63 ∧ m = -63)) :
    Calls Tryd.prog 86 #[.int .u64 (x : Nat), .int .i64 m] w fun e w' => e = .returned (.int .u64 (rot x n : Nat)) ∧ w = w' := by
  have e1 : IntKind.u64.wrap (-32) = 18446744073709551584 := by decide
  have e2 : IntKind.u64.wrap (-24) = 18446744073709551592 := by decide
  have e3 : IntKind.u64.wrap (-16) = 18446744073709551600 := by decide
  have e4 : IntKind.u64.wrap (-63) = 18446744073709551553 := by decide
  have b1 : bits .and .u64 18446744073709551584 63 = 32 := by decide
  have b2 : bits .and .u64 18446744073709551592 63 = 40 := by decide
  have b3 : bits .and .u64 18446744073709551600 63 = 48 := by decide
  have b4 : bits .and .u64 18446744073709551553 63 = 1 := by decide
  rcases hn with ⟨rfl, rfl⟩ | ⟨rfl, rfl⟩ | ⟨rfl, rfl⟩ | ⟨rfl, rfl⟩
  all_goals
    go_enter Tryd.func86, Tryd.ntmps86
    go_wp2
    go_ret
    exact ⟨ret_u64 (or_rot' x _ _ hx), rfl⟩
end Go.Proofs.YtbndegkgpoemnaaDoor
