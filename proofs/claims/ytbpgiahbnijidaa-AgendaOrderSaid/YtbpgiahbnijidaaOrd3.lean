/-
  AgendaOrder, for every argument.
-/
import Derived.Test.YtbpgiahbnijidaaOrd2
namespace Go.Proofs.Ytbpgiahbnijidaa
open Go.RowKit Go.Shelf
set_option linter.unusedVariables false
set_option linter.unusedSimpArgs false

set_option maxHeartbeats 4000000 in
set_option maxRecDepth 100000 in
theorem agendaOrder_walk (v : Value) (l : List Tk) (k : Int) (wk : (Lit.int .i64 k).wf = true) (w : World) (hr : RdT w v l ∨ l = [] ∧ ∃ ao cap, v = .slice ao 0 cap) (hm : l.length ≤ maxLen) :
    Calls Try.prog 4 #[v, .int .i64 k] w fun e w' => e = .returned (.bool true) ∧ Below w.heap.size w w' := by
  have hv : ∃ ao cap, v = .slice ao l.length cap := by
    rcases hr with h | ⟨rfl, h⟩
    · exact h.lenOf
    · exact h
  obtain ⟨ao, cap, rfl⟩ := hv
  by_cases h1 : 1 ≤ l.length ∧ l.length ≤ 12
  · refine agendaOrder_main _ l k w ?_ h1.1 h1.2
    rcases hr with h | ⟨rfl, -⟩
    · exact h
    · simp at h1
  · obtain ⟨L, hL⟩ : ∃ L, L = l.length := ⟨_, rfl⟩
    rw [← hL] at h1 ⊢
    clear hr hL hm wk
    go_enter Try.func4, Try.ntmps4
    by_cases c0 : (12 : Int) < (L : Int)
    · go_wp2_with fail
      exact bodyPost_ret (v := .bool true) (by simp [results, Try.results4, go_sem]) rfl ⟨rfl, Below.refl _ _⟩
    · have c1 : L = 0 := by omega
      clear h1
      subst c1
      go_wp2_with fail
      exact bodyPost_ret (v := .bool true) (by simp [results, Try.results4, go_sem]) rfl ⟨rfl, Below.refl _ _⟩
end Go.Proofs.Ytbpgiahbnijidaa
