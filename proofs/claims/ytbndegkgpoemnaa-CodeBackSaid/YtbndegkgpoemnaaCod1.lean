/-
  What a number may be: bound's and code's tests.
-/
import Derived.Test.YtbndegkgpoemnaaChecked
import Derived.WalkKit
import Derived.Below
import Derived.Lib.Hide
namespace Go.Proofs.Ytbndegkgpoemnaa
open Go.RowKit
set_option linter.unusedVariables false
set_option linter.unusedSimpArgs false

theorem bound_Within (n a b : Int) (w : World) : Calls Try.prog 43 #[.int .i64 n, .int .i64 a, .int .i64 b] w fun e w' => e = .returned (.bool (decide (a ≤ n ∧ n ≤ b))) ∧ w' = w := by
  go_enter Try.func43, Try.ntmps43
  by_cases c : a ≤ n
  · by_cases d : n ≤ b
    · go_wp2
      exact bodyPost_ret (v := .bool true) (by simp [results, Try.results43, go_sem]) rfl ⟨by simp [c, d], rfl⟩
    · have hd : decide (n ≤ b) = false := by simpa using d
      go_wp2
      exact bodyPost_ret (v := .bool false) (by simp [results, Try.results43, go_sem]) rfl ⟨by simp <;> omega, rfl⟩
  · have hc : decide (a ≤ n) = false := by simpa using c
    go_wp2
    exact bodyPost_ret (v := .bool false) (by simp [results, Try.results43, go_sem]) rfl ⟨by simp <;> omega, rfl⟩
theorem bound_Below (n b : Int) (w : World) : Calls Try.prog 66 #[.int .i64 n, .int .i64 b] w fun e w' => e = .returned (.bool (decide (0 ≤ n ∧ n < b))) ∧ w' = w := by
  go_enter Try.func66, Try.ntmps66
  by_cases c : 0 ≤ n
  · by_cases d : n < b
    · go_wp2
      exact bodyPost_ret (v := .bool true) (by simp [results, Try.results66, go_sem]) rfl ⟨by simp [c, d], rfl⟩
    · have hd : decide (n < b) = false := by simpa using d
      go_wp2
      exact bodyPost_ret (v := .bool false) (by simp [results, Try.results66, go_sem]) rfl ⟨by simp <;> omega, rfl⟩
  · have hc : decide (0 ≤ n) = false := by simpa using c
    go_wp2
    exact bodyPost_ret (v := .bool false) (by simp [results, Try.results66, go_sem]) rfl ⟨by simp <;> omega, rfl⟩
theorem bound_Account (n : Int) (w : World) : Calls Try.prog 40 #[.int .i64 n] w fun e w' => e = .returned (.bool (decide (0 ≤ n ∧ n < 10))) ∧ w' = w := by
  go_enter Try.func40, Try.ntmps40
  go_wp2_with (first | (go_at_call 66; refine (bound_Below n 10 _).mono ?_; rintro e w' ⟨rfl, rfl⟩) | fail)
  exact bodyPost_ret (v := .bool (decide (0 ≤ n ∧ n < 10))) (by simp [results, Try.results40, go_sem]) rfl ⟨rfl, rfl⟩
theorem bound_Balance (n : Int) (w : World) : Calls Try.prog 41 #[.int .i64 n] w fun e w' => e = .returned (.bool (decide (0 ≤ n ∧ n ≤ 1073741824))) ∧ w' = w := by
  go_enter Try.func41, Try.ntmps41
  go_wp2_with (first | (go_at_call 43; refine (bound_Within n 0 1073741824 _).mono ?_; rintro e w' ⟨rfl, rfl⟩) | fail)
  exact bodyPost_ret (v := .bool (decide (0 ≤ n ∧ n ≤ 1073741824))) (by simp [results, Try.results41, go_sem]) rfl ⟨rfl, rfl⟩
theorem code_isRef (n : Int) (w : World) : Calls Try.prog 44 #[.int .i64 n] w fun e w' => e = .returned (.bool (decide (0 ≤ n ∧ n < 12))) ∧ w' = w := by
  go_enter Try.func44, Try.ntmps44
  go_wp2_with (first | (go_at_call 66; refine (bound_Below n 12 _).mono ?_; rintro e w' ⟨rfl, rfl⟩) | fail)
  exact bodyPost_ret (v := .bool (decide (0 ≤ n ∧ n < 12))) (by simp [results, Try.results44, go_sem]) rfl ⟨rfl, rfl⟩
theorem code_isTrack (n : Int) (w : World) : Calls Try.prog 42 #[.int .i64 n] w fun e w' => e = .returned (.bool (decide (0 ≤ n ∧ n < 4))) ∧ w' = w := by
  go_enter Try.func42, Try.ntmps42
  go_wp2_with (first | (go_at_call 66; refine (bound_Below n 4 _).mono ?_; rintro e w' ⟨rfl, rfl⟩) | fail)
  exact bodyPost_ret (v := .bool (decide (0 ≤ n ∧ n < 4))) (by simp [results, Try.results42, go_sem]) rfl ⟨rfl, rfl⟩
end Go.Proofs.Ytbndegkgpoemnaa
