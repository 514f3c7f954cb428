/-
  Contracts of the parts and ratios, the code's and the document's: each is the plain arithmetic of whole numbers.
-/
import Derived.Test.YtnboghkdhfpfnaaChecked
import Derived.WalkKit
import Derived.WalkSpells
import Derived.WalkLawsBesides
import Derived.Lib.Hide
namespace Go.Proofs.Ytnboghkdhfpfnaa
open Go.RowKit

theorem ret_int {k : IntKind} {a b : Int} (h : a = b) : Ending.returned (.int k a) = .returned (.int k b) := by rw [h]
theorem ret_bool {a b : Bool} (h : a = b) : Ending.returned (.bool a) = .returned (.bool b) := by rw [h]

def partI (n p : Int) (up : Bool) : Int := if up then (n * p + 999999999) / 1000000000 else n * p / 1000000000
def ratioI (a b : Int) : Int := if b = 0 then 0 else min (a * 1000000000 / b) 1000000000
def inB (n b : Int) : Bool := decide (0 ≤ n) && decide (n ≤ b)

theorem inB_out {n b : Int} (h : inB n b = true) : 0 ≤ n ∧ n ≤ b := by simpa [inB] using h

theorem mul_le_33 {n p : Int} (h0 : 0 ≤ n) (h1 : n ≤ 8589934592) (h2 : 0 ≤ p) (h3 : p ≤ 1000000000) : 0 ≤ n * p ∧ n * p ≤ 8589934592000000000 := by
  have a := Int.mul_nonneg h0 h2
  have b := Int.mul_le_mul h1 h3 h2 (by omega)
  exact ⟨a, by omega⟩

theorem law_in (n b : Int) (w : World) :
    Calls Try.prog 14 #[.int .i64 n, .int .i64 b] w fun e w' => e = .returned (.bool (inB n b)) ∧ w = w' := by
  by_cases h0 : 0 ≤ n
  · go_enter Try.func14, Try.ntmps14
    go_wp2
    go_ret
    exact ⟨by simp [inB, h0], rfl⟩
  · go_enter Try.func14, Try.ntmps14
    go_wp2
    go_ret
    exact ⟨by simp [inB]; omega, rfl⟩

theorem per_Part (n p : Int) (up : Bool) (w : World) (h0 : 0 ≤ n) (h1 : n ≤ 8589934592) (h2 : 0 ≤ p) (h3 : p ≤ 1000000000) :
    Calls Try.prog 15 #[.int .i64 n, .int .i64 p, .bool up] w fun e w' => e = .returned (.int .i64 (partI n p up)) ∧ w = w' := by
  obtain ⟨m0, m1⟩ := mul_le_33 h0 h1 h2 h3
  cases up
  · go_enter Try.func15, Try.ntmps15
    go_wp2
    go_ret
    exact ⟨rfl, rfl⟩
  · go_enter Try.func15, Try.ntmps15
    go_wp2
    go_ret
    exact ⟨rfl, rfl⟩

theorem ref_Part (n p : Int) (up : Bool) (w : World) (h0 : 0 ≤ n) (h1 : n ≤ 8589934592) (h2 : 0 ≤ p) (h3 : p ≤ 1000000000) :
    Calls Try.prog 16 #[.int .i64 n, .int .i64 p, .bool up] w fun e w' => e = .returned (.int .i64 (partI n p up)) ∧ w = w' := by
  obtain ⟨m0, m1⟩ := mul_le_33 h0 h1 h2 h3
  cases up
  · go_enter Try.func16, Try.ntmps16
    go_wp2
    go_ret
    exact ⟨rfl, rfl⟩
  · go_enter Try.func16, Try.ntmps16
    go_wp2
    go_ret
    exact ⟨ret_int (by simp only [partI, if_true]; omega), rfl⟩

theorem div_le_self' {a b : Int} (ha : 0 ≤ a) (hb : 0 < b) : 0 ≤ a / b ∧ a / b ≤ a :=
  ⟨Int.ediv_nonneg ha (by omega), by
    have h1 := Int.mul_ediv_add_emod a b
    have h2 := Int.emod_nonneg a (show b ≠ 0 by omega)
    have h3 := Int.ediv_nonneg ha (show 0 ≤ b by omega)
    have h4 : 1 * (a / b) ≤ b * (a / b) := Int.mul_le_mul_of_nonneg_right (by omega) h3
    omega⟩

theorem per_Ratio (a b : Int) (w : World) (h0 : 0 ≤ a) (h1 : a ≤ 8589934592) (h2 : 0 ≤ b) (h3 : b ≤ 8589934592) :
    Calls Try.prog 17 #[.int .i64 a, .int .i64 b] w fun e w' => e = .returned (.int .i64 (ratioI a b)) ∧ w = w' := by
  by_cases hb : b = 0
  · subst hb
    go_enter Try.func17, Try.ntmps17
    go_wp2
    go_ret
    exact ⟨rfl, rfl⟩
  · have hb1 : 0 < b := by omega
    obtain ⟨d0, d1⟩ := div_le_self' (a := a * 1000000000) (b := b) (by omega) hb1
    have e : ratioI a b = min (a * 1000000000 / b) 1000000000 := if_neg hb
    have E := Lib.hid e; clear e
    go_enter Try.func17, Try.ntmps17
    go_wp2
    all_goals
      go_ret
      rw [E.out]
      exact ⟨ret_int (by omega), rfl⟩

theorem ref_Ratio (a b : Int) (w : World) (h0 : 0 ≤ a) (h1 : a ≤ 8589934592) (h2 : 0 ≤ b) (h3 : b ≤ 8589934592) :
    Calls Try.prog 18 #[.int .i64 a, .int .i64 b] w fun e w' => e = .returned (.int .i64 (ratioI a b)) ∧ w = w' := by
  by_cases hb : b = 0
  · subst hb
    go_enter Try.func18, Try.ntmps18
    go_wp2
    go_ret
    exact ⟨rfl, rfl⟩
  · have hb1 : 0 < b := by omega
    obtain ⟨d0, d1⟩ := div_le_self' (a := a * 1000000000) (b := b) (by omega) hb1
    have e : ratioI a b = min (a * 1000000000 / b) 1000000000 := if_neg hb
    have E := Lib.hid e; clear e
    go_enter Try.func18, Try.ntmps18
    go_wp2
    all_goals
      go_ret
      rw [E.out]
      exact ⟨ret_int (by omega), rfl⟩

end Go.Proofs.Ytnboghkdhfpfnaa
