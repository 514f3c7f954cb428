/-
  What a number may be: bound's and code's tests.
-/
import Derived.Test.YtbndegkgpoemnaaDoorChecked
import Derived.WalkKit
import Derived.Below
import Derived.Lib.Hide
namespace Go.Proofs.YtbndegkgpoemnaaDoor
open Go.RowKit
set_option linter.unusedVariables false
set_option linter.unusedSimpArgs false

theorem bound_Within (n a b : Int) (w : World) : Calls Tryd.prog 44 #[.int .i64 n, .int .i64 a, .int .i64 b] w fun e w' => e = .returned (.bool (decide (a ≤ n ∧ n ≤ b))) ∧ w' = w := by
  go_enter Tryd.func44, Tryd.ntmps44
  by_cases c : a ≤ n
  · by_cases d : n ≤ b
    · go_wp2
      exact bodyPost_ret (v := .bool true) (by simp [results, Tryd.results44, go_sem]) rfl ⟨by simp [c, d], rfl⟩
    · have hd : decide (n ≤ b) = false := by simpa using d
      go_wp2
      exact bodyPost_ret (v := .bool false) (by simp [results, Tryd.results44, go_sem]) rfl ⟨by simp <;> omega, rfl⟩
  · have hc : decide (a ≤ n) = false := by simpa using c
    go_wp2
    exact bodyPost_ret (v := .bool false) (by simp [results, Tryd.results44, go_sem]) rfl ⟨by simp <;> omega, rfl⟩
theorem bound_Below (n b : Int) (w : World) : Calls Tryd.prog 63 #[.int .i64 n, .int .i64 b] w fun e w' => e = .returned (.bool (decide (0 ≤ n ∧ n < b))) ∧ w' = w := by
  go_enter Tryd.func63, Tryd.ntmps63
  by_cases c : 0 ≤ n
  · by_cases d : n < b
    · go_wp2
      exact bodyPost_ret (v := .bool true) (by simp [results, Tryd.results63, go_sem]) rfl ⟨by simp [c, d], rfl⟩
    · have hd : decide (n < b) = false := by simpa using d
      go_wp2
      exact bodyPost_ret (v := .bool false) (by simp [results, Tryd.results63, go_sem]) rfl ⟨by simp <;> omega, rfl⟩
  · have hc : decide (0 ≤ n) = false := by simpa using c
    go_wp2
    exact bodyPost_ret (v := .bool false) (by simp [results, Tryd.results63, go_sem]) rfl ⟨by simp <;> omega, rfl⟩
theorem bound_Account (n : Int) (w : World) : Calls Tryd.prog 42 #[.int .i64 n] w fun e w' => e = .returned (.bool (decide (0 ≤ n ∧ n < 10))) ∧ w' = w := by
  go_enter Tryd.func42, Tryd.ntmps42
  go_wp2_with (first | (go_at_call 63; refine (bound_Below n 10 _).mono ?_; rintro e w' ⟨rfl, rfl⟩) | fail)
  exact bodyPost_ret (v := .bool (decide (0 ≤ n ∧ n < 10))) (by simp [results, Tryd.results42, go_sem]) rfl ⟨rfl, rfl⟩
theorem bound_Balance (n : Int) (w : World) : Calls Tryd.prog 41 #[.int .i64 n] w fun e w' => e = .returned (.bool (decide (0 ≤ n ∧ n ≤ 1073741824))) ∧ w' = w := by
  go_enter Tryd.func41, Tryd.ntmps41
  go_wp2_with (first | (go_at_call 44; refine (bound_Within n 0 1073741824 _).mono ?_; rintro e w' ⟨rfl, rfl⟩) | fail)
  exact bodyPost_ret (v := .bool (decide (0 ≤ n ∧ n ≤ 1073741824))) (by simp [results, Tryd.results41, go_sem]) rfl ⟨rfl, rfl⟩
theorem code_isRef (n : Int) (w : World) : Calls Tryd.prog 43 #[.int .i64 n] w fun e w' => e = .returned (.bool (decide (0 ≤ n ∧ n < 12))) ∧ w' = w := by
  go_enter Tryd.func43, Tryd.ntmps43
  go_wp2_with (first | (go_at_call 63; refine (bound_Below n 12 _).mono ?_; rintro e w' ⟨rfl, rfl⟩) | fail)
  exact bodyPost_ret (v := .bool (decide (0 ≤ n ∧ n < 12))) (by simp [results, Tryd.results43, go_sem]) rfl ⟨rfl, rfl⟩
theorem code_isTrack (n : Int) (w : World) : Calls Tryd.prog 50 #[.int .i64 n] w fun e w' => e = .returned (.bool (decide (0 ≤ n ∧ n < 4))) ∧ w' = w := by
  go_enter Tryd.func50, Tryd.ntmps50
  go_wp2_with (first | (go_at_call 63; refine (bound_Below n 4 _).mono ?_; rintro e w' ⟨rfl, rfl⟩) | fail)
  exact bodyPost_ret (v := .bool (decide (0 ≤ n ∧ n < 4))) (by simp [results, Tryd.results50, go_sem]) rfl ⟨rfl, rfl⟩
end Go.Proofs.YtbndegkgpoemnaaDoor
