/-
  isCall of a call that is no batch.
-/
import Derived.Test.YtbndegkgpoemnaaCod2
namespace Go.Proofs.Ytbndegkgpoemnaa
open Go.RowKit
set_option linter.unusedVariables false
set_option linter.unusedSimpArgs false

/-- What a call that is no batch must keep to. -/
def leafOk (k t n : Int) (kids : Nat) : Prop := (k = 1 ∧ t = 0 ∧ (0 ≤ n ∧ n ≤ 1073741824) ∧ kids = 0) ∨ (k = 2 ∧ (0 ≤ t ∧ t < 10) ∧ (0 ≤ n ∧ n ≤ 1073741824) ∧ kids = 0) ∨ ((k = 3 ∨ k = 4) ∧ t = 0 ∧ (0 ≤ n ∧ n < 12) ∧ kids = 0)
instance (k t n : Int) (kids : Nat) : Decidable (leafOk k t n kids) := by unfold leafOk; infer_instance
set_option maxHeartbeats 8000000 in
set_option maxRecDepth 100000 in
theorem code_isCall0 (k t n dp : Int) (ao : Option Addr) (kids cap : Nat) (w : World) (h5 : k ≠ 5) :
    Calls Try.prog 54 #[.agg #[.int .i64 k, .int .i64 t, .int .i64 n, .slice ao kids cap], .int .i64 dp] w fun e w' => e = .returned (.bool (decide (leafOk k t n kids))) ∧ Below w.heap.size w w' := by
  obtain ⟨W, hW⟩ : ∃ W, W = (w.alloc (.cells #[.int .i64 k, .int .i64 t, .int .i64 n, .slice ao kids cap] 28)).alloc (.cells #[.int .i64 dp] 3) := ⟨_, rfl⟩
  have hB : Below w.heap.size w W := by rw [hW]; exact ((Below.refl _ w).alloc (Nat.le_refl _) _).alloc (by simp) _
  have h1 := World.alloc_heap_new w (.cells #[.int .i64 k, .int .i64 t, .int .i64 n, .slice ao kids cap] 28)
  have g1 : W.heap[w.heap.size]? = some (.cells #[.int .i64 k, .int .i64 t, .int .i64 n, .slice ao kids cap] 28 (0, 0)) := by rw [hW]; exact (Below.heap_alloc _ _ _ (by simp)).trans h1
  obtain ⟨cb, hcb⟩ : ∃ cb, cb = w.heap.size := ⟨_, rfl⟩
  obtain ⟨db, hdb⟩ : ∃ db, db = cb + 1 := ⟨_, rfl⟩
  rw [← hcb] at g1
  have a0 : W.cell? ⟨cb, 0, none⟩ = some (.int .i64 k) := by rw [World.cell?, g1]; rfl
  have a1 : W.cell? ⟨cb, 1, none⟩ = some (.int .i64 t) := by rw [World.cell?, g1]; rfl
  have a2 : W.cell? ⟨cb, 2, none⟩ = some (.int .i64 n) := by rw [World.cell?, g1]; rfl
  have a3 : W.cell? ⟨cb, 3, none⟩ = some (.slice ao kids cap) := by rw [World.cell?, g1]; rfl
  have HB := Lib.hid hB
  clear h1 g1 hB
  go_enter Try.func54, Try.ntmps54
  go_upto_region 1 with fail
  rw [← hW, ← hcb, ← hdb]
  clear hW hcb hdb
  have fin : ∀ (b : Bool), (b = true ↔ leafOk k t n kids) → b = decide (leafOk k t n kids) := fun b h => by cases b <;> simp [← h]
  have FIN := Lib.hid fin
  clear fin
  by_cases k1 : k = 1
  · have KK := Lib.hid k1
    have e1 : (k == 1) = true := by simp <;> omega
    have e2 : (k == 2) = false := by simp <;> omega
    have e3 : (k == 3) = false := by simp <;> omega
    have e4 : (k == 4) = false := by simp <;> omega
    have e5 : (k == 5) = false := by simp <;> omega
    clear h5 k1
    by_cases q1 : t = 0
    · have f1 : (t == 0) = true := by simp <;> omega
      by_cases q2 : 0 ≤ n ∧ n ≤ 1073741824
      · have f2 : decide (0 ≤ n ∧ n ≤ 1073741824) = true := by simp <;> omega
        by_cases q3 : kids = 0
        · have f3 : ((kids : Int) == 0) = true := by simp <;> omega
          have Q := Lib.hid (And.intro q1 (And.intro q2 q3))
          clear q1 q2 q3
          go_wp2_with (first
              | (go_at_call 41; refine (bound_Balance _ _).mono ?_; rintro e w' ⟨rfl, rfl⟩)
              | fail)
          exact bodyPost_ret (v := .bool true) (by simp [results, Try.results54, go_sem]) rfl ⟨by rw [FIN.out true (by unfold leafOk; have := Q.out; have := KK.out; simp; omega)], HB.out⟩
        · have f3 : ((kids : Int) == 0) = false := by simp <;> omega
          have Q := Lib.hid q3
          clear q1 q2 q3
          go_wp2_with (first
              | (go_at_call 41; refine (bound_Balance _ _).mono ?_; rintro e w' ⟨rfl, rfl⟩)
              | fail)
          exact bodyPost_ret (v := .bool false) (by simp [results, Try.results54, go_sem]) rfl ⟨by rw [FIN.out false (by unfold leafOk; have := Q.out; have := KK.out; simp; omega)], HB.out⟩
      · have f2 : decide (0 ≤ n ∧ n ≤ 1073741824) = false := by simp <;> omega
        have Q := Lib.hid q2
        clear q1 q2
        go_wp2_with (first
            | (go_at_call 41; refine (bound_Balance _ _).mono ?_; rintro e w' ⟨rfl, rfl⟩)
            | fail)
        exact bodyPost_ret (v := .bool false) (by simp [results, Try.results54, go_sem]) rfl ⟨by rw [FIN.out false (by unfold leafOk; have := Q.out; have := KK.out; simp; omega)], HB.out⟩
    · have f1 : (t == 0) = false := by simp <;> omega
      have Q := Lib.hid q1
      clear q1
      go_wp2_with (first
          | (go_at_call 41; refine (bound_Balance _ _).mono ?_; rintro e w' ⟨rfl, rfl⟩)
          | fail)
      exact bodyPost_ret (v := .bool false) (by simp [results, Try.results54, go_sem]) rfl ⟨by rw [FIN.out false (by unfold leafOk; have := Q.out; have := KK.out; simp; omega)], HB.out⟩
  by_cases k2 : k = 2
  · have KK := Lib.hid k2
    have e1 : (k == 1) = false := by simp <;> omega
    have e2 : (k == 2) = true := by simp <;> omega
    have e3 : (k == 3) = false := by simp <;> omega
    have e4 : (k == 4) = false := by simp <;> omega
    have e5 : (k == 5) = false := by simp <;> omega
    clear h5 k1 k2
    by_cases q1 : 0 ≤ t ∧ t < 10
    · have f1 : decide (0 ≤ t ∧ t < 10) = true := by simp <;> omega
      by_cases q2 : 0 ≤ n ∧ n ≤ 1073741824
      · have f2 : decide (0 ≤ n ∧ n ≤ 1073741824) = true := by simp <;> omega
        by_cases q3 : kids = 0
        · have f3 : ((kids : Int) == 0) = true := by simp <;> omega
          have Q := Lib.hid (And.intro q1 (And.intro q2 q3))
          clear q1 q2 q3
          go_wp2_with (first
              | (go_at_call 40; refine (bound_Account _ _).mono ?_; rintro e w' ⟨rfl, rfl⟩)
              | (go_at_call 41; refine (bound_Balance _ _).mono ?_; rintro e w' ⟨rfl, rfl⟩)
              | fail)
          exact bodyPost_ret (v := .bool true) (by simp [results, Try.results54, go_sem]) rfl ⟨by rw [FIN.out true (by unfold leafOk; have := Q.out; have := KK.out; simp; omega)], HB.out⟩
        · have f3 : ((kids : Int) == 0) = false := by simp <;> omega
          have Q := Lib.hid q3
          clear q1 q2 q3
          go_wp2_with (first
              | (go_at_call 40; refine (bound_Account _ _).mono ?_; rintro e w' ⟨rfl, rfl⟩)
              | (go_at_call 41; refine (bound_Balance _ _).mono ?_; rintro e w' ⟨rfl, rfl⟩)
              | fail)
          exact bodyPost_ret (v := .bool false) (by simp [results, Try.results54, go_sem]) rfl ⟨by rw [FIN.out false (by unfold leafOk; have := Q.out; have := KK.out; simp; omega)], HB.out⟩
      · have f2 : decide (0 ≤ n ∧ n ≤ 1073741824) = false := by simp <;> omega
        have Q := Lib.hid q2
        clear q1 q2
        go_wp2_with (first
            | (go_at_call 40; refine (bound_Account _ _).mono ?_; rintro e w' ⟨rfl, rfl⟩)
            | (go_at_call 41; refine (bound_Balance _ _).mono ?_; rintro e w' ⟨rfl, rfl⟩)
            | fail)
        exact bodyPost_ret (v := .bool false) (by simp [results, Try.results54, go_sem]) rfl ⟨by rw [FIN.out false (by unfold leafOk; have := Q.out; have := KK.out; simp; omega)], HB.out⟩
    · have f1 : decide (0 ≤ t ∧ t < 10) = false := by simp <;> omega
      have Q := Lib.hid q1
      clear q1
      go_wp2_with (first
          | (go_at_call 40; refine (bound_Account _ _).mono ?_; rintro e w' ⟨rfl, rfl⟩)
          | (go_at_call 41; refine (bound_Balance _ _).mono ?_; rintro e w' ⟨rfl, rfl⟩)
          | fail)
      exact bodyPost_ret (v := .bool false) (by simp [results, Try.results54, go_sem]) rfl ⟨by rw [FIN.out false (by unfold leafOk; have := Q.out; have := KK.out; simp; omega)], HB.out⟩
  by_cases k3 : k = 3
  · have KK := Lib.hid k3
    have e1 : (k == 1) = false := by simp <;> omega
    have e2 : (k == 2) = false := by simp <;> omega
    have e3 : (k == 3) = true := by simp <;> omega
    have e4 : (k == 4) = false := by simp <;> omega
    have e5 : (k == 5) = false := by simp <;> omega
    clear h5 k1 k2 k3
    by_cases q1 : t = 0
    · have f1 : (t == 0) = true := by simp <;> omega
      by_cases q2 : 0 ≤ n ∧ n < 12
      · have f2 : decide (0 ≤ n ∧ n < 12) = true := by simp <;> omega
        by_cases q3 : kids = 0
        · have f3 : ((kids : Int) == 0) = true := by simp <;> omega
          have Q := Lib.hid (And.intro q1 (And.intro q2 q3))
          clear q1 q2 q3
          go_wp2_with (first
              | (go_at_call 44; refine (code_isRef _ _).mono ?_; rintro e w' ⟨rfl, rfl⟩)
              | fail)
          exact bodyPost_ret (v := .bool true) (by simp [results, Try.results54, go_sem]) rfl ⟨by rw [FIN.out true (by unfold leafOk; have := Q.out; have := KK.out; simp; omega)], HB.out⟩
        · have f3 : ((kids : Int) == 0) = false := by simp <;> omega
          have Q := Lib.hid q3
          clear q1 q2 q3
          go_wp2_with (first
              | (go_at_call 44; refine (code_isRef _ _).mono ?_; rintro e w' ⟨rfl, rfl⟩)
              | fail)
          exact bodyPost_ret (v := .bool false) (by simp [results, Try.results54, go_sem]) rfl ⟨by rw [FIN.out false (by unfold leafOk; have := Q.out; have := KK.out; simp; omega)], HB.out⟩
      · have f2 : decide (0 ≤ n ∧ n < 12) = false := by simp <;> omega
        have Q := Lib.hid q2
        clear q1 q2
        go_wp2_with (first
            | (go_at_call 44; refine (code_isRef _ _).mono ?_; rintro e w' ⟨rfl, rfl⟩)
            | fail)
        exact bodyPost_ret (v := .bool false) (by simp [results, Try.results54, go_sem]) rfl ⟨by rw [FIN.out false (by unfold leafOk; have := Q.out; have := KK.out; simp; omega)], HB.out⟩
    · have f1 : (t == 0) = false := by simp <;> omega
      have Q := Lib.hid q1
      clear q1
      go_wp2_with (first
          | (go_at_call 44; refine (code_isRef _ _).mono ?_; rintro e w' ⟨rfl, rfl⟩)
          | fail)
      exact bodyPost_ret (v := .bool false) (by simp [results, Try.results54, go_sem]) rfl ⟨by rw [FIN.out false (by unfold leafOk; have := Q.out; have := KK.out; simp; omega)], HB.out⟩
  by_cases k4 : k = 4
  · have KK := Lib.hid k4
    have e1 : (k == 1) = false := by simp <;> omega
    have e2 : (k == 2) = false := by simp <;> omega
    have e3 : (k == 3) = false := by simp <;> omega
    have e4 : (k == 4) = true := by simp <;> omega
    have e5 : (k == 5) = false := by simp <;> omega
    clear h5 k1 k2 k3 k4
    by_cases q1 : t = 0
    · have f1 : (t == 0) = true := by simp <;> omega
      by_cases q2 : 0 ≤ n ∧ n < 12
      · have f2 : decide (0 ≤ n ∧ n < 12) = true := by simp <;> omega
        by_cases q3 : kids = 0
        · have f3 : ((kids : Int) == 0) = true := by simp <;> omega
          have Q := Lib.hid (And.intro q1 (And.intro q2 q3))
          clear q1 q2 q3
          go_wp2_with (first
              | (go_at_call 44; refine (code_isRef _ _).mono ?_; rintro e w' ⟨rfl, rfl⟩)
              | fail)
          exact bodyPost_ret (v := .bool true) (by simp [results, Try.results54, go_sem]) rfl ⟨by rw [FIN.out true (by unfold leafOk; have := Q.out; have := KK.out; simp; omega)], HB.out⟩
        · have f3 : ((kids : Int) == 0) = false := by simp <;> omega
          have Q := Lib.hid q3
          clear q1 q2 q3
          go_wp2_with (first
              | (go_at_call 44; refine (code_isRef _ _).mono ?_; rintro e w' ⟨rfl, rfl⟩)
              | fail)
          exact bodyPost_ret (v := .bool false) (by simp [results, Try.results54, go_sem]) rfl ⟨by rw [FIN.out false (by unfold leafOk; have := Q.out; have := KK.out; simp; omega)], HB.out⟩
      · have f2 : decide (0 ≤ n ∧ n < 12) = false := by simp <;> omega
        have Q := Lib.hid q2
        clear q1 q2
        go_wp2_with (first
            | (go_at_call 44; refine (code_isRef _ _).mono ?_; rintro e w' ⟨rfl, rfl⟩)
            | fail)
        exact bodyPost_ret (v := .bool false) (by simp [results, Try.results54, go_sem]) rfl ⟨by rw [FIN.out false (by unfold leafOk; have := Q.out; have := KK.out; simp; omega)], HB.out⟩
    · have f1 : (t == 0) = false := by simp <;> omega
      have Q := Lib.hid q1
      clear q1
      go_wp2_with (first
          | (go_at_call 44; refine (code_isRef _ _).mono ?_; rintro e w' ⟨rfl, rfl⟩)
          | fail)
      exact bodyPost_ret (v := .bool false) (by simp [results, Try.results54, go_sem]) rfl ⟨by rw [FIN.out false (by unfold leafOk; have := Q.out; have := KK.out; simp; omega)], HB.out⟩
  have KK := Lib.hid (And.intro k1 (And.intro k2 (And.intro k3 k4)))
  have e1 : (k == 1) = false := by simp <;> omega
  have e2 : (k == 2) = false := by simp <;> omega
  have e3 : (k == 3) = false := by simp <;> omega
  have e4 : (k == 4) = false := by simp <;> omega
  have e5 : (k == 5) = false := by simp <;> omega
  clear h5 k1 k2 k3 k4
  go_wp2_with (first
      | fail)
  exact bodyPost_ret (v := .bool false) (by simp [results, Try.results54, go_sem]) rfl ⟨by rw [FIN.out false (by unfold leafOk; have := KK.out; simp; omega)], HB.out⟩
end Go.Proofs.Ytbndegkgpoemnaa

