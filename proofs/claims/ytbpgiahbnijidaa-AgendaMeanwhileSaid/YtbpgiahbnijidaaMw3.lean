/-
  AgendaMeanwhile, for every argument.
-/
import Derived.Test.YtbpgiahbnijidaaMw2
namespace Go.Proofs.Ytbpgiahbnijidaa
open Go.RowKit Go.Shelf
set_option linter.unusedVariables false
set_option linter.unusedSimpArgs false

set_option maxHeartbeats 4000000 in
set_option maxRecDepth 100000 in
theorem agendaMeanwhile_one (n st : Int) (w : World) :
    Calls Try.prog 8 #[.int .i64 n, .int .i64 st] w fun e w' => e = .returned (.bool true) ∧ Below w.heap.size w w' := by
  have out : (n < 0 ∨ 12 < n ∨ st < 1 ∨ 20 < st) → Calls Try.prog 8 #[.int .i64 n, .int .i64 st] w fun e w' => e = .returned (.bool true) ∧ Below w.heap.size w w' := by
    intro h
    go_enter Try.func8, Try.ntmps8
    by_cases c0 : n < 0
    · go_wp2_with fail
      exact bodyPost_ret (v := .bool true) (by simp [results, Try.results8, go_sem]) rfl ⟨rfl, ((Below.refl _ w).alloc (Nat.le_refl _) _).alloc (by simp) _⟩
    by_cases c1 : 12 < n
    · go_wp2_with fail
      exact bodyPost_ret (v := .bool true) (by simp [results, Try.results8, go_sem]) rfl ⟨rfl, ((Below.refl _ w).alloc (Nat.le_refl _) _).alloc (by simp) _⟩
    by_cases c2 : st < 1
    · go_wp2_with fail
      exact bodyPost_ret (v := .bool true) (by simp [results, Try.results8, go_sem]) rfl ⟨rfl, ((Below.refl _ w).alloc (Nat.le_refl _) _).alloc (by simp) _⟩
    by_cases c3 : 20 < st
    · go_wp2_with fail
      exact bodyPost_ret (v := .bool true) (by simp [results, Try.results8, go_sem]) rfl ⟨rfl, ((Below.refl _ w).alloc (Nat.le_refl _) _).alloc (by simp) _⟩
    · omega
  by_cases h : n < 0 ∨ 12 < n ∨ st < 1 ∨ 20 < st
  · exact out h
  · obtain ⟨a, rfl⟩ : ∃ a : Nat, n = (a : Int) := ⟨n.toNat, by omega⟩
    obtain ⟨b, rfl⟩ : ∃ b : Nat, st = (b : Int) := ⟨st.toNat, by omega⟩
    exact agendaMeanwhile_main a b w (by omega) (by omega) (by omega)
end Go.Proofs.Ytbpgiahbnijidaa
