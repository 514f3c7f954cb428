/-
  The reference's call, IsCall.
-/
import Derived.Test.YtbndegkgpoemnaaOpC
import Derived.Test.YtbndegkgpoemnaaEnc
namespace Go.Proofs.Ytbndegkgpoemnaa
open Go.RowKit
set_option linter.unusedVariables false
set_option linter.unusedSimpArgs false

theorem ref_in (n a b : Int) (w : World) : Calls Try.prog 46 #[.int .i64 n, .int .i64 a, .int .i64 b] w fun e w' => e = .returned (.bool (decide (a ≤ n ∧ n ≤ b))) ∧ w' = w := by
  go_enter Try.func46, Try.ntmps46
  by_cases c : a ≤ n
  · by_cases d : n ≤ b
    · go_wp2
      exact bodyPost_ret (v := .bool true) (by simp [results, Try.results46, go_sem]) rfl ⟨by simp [c, d], rfl⟩
    · have hd : decide (n ≤ b) = false := by simpa using d
      go_wp2
      exact bodyPost_ret (v := .bool false) (by simp [results, Try.results46, go_sem]) rfl ⟨by simp <;> omega, rfl⟩
  · have hc : decide (a ≤ n) = false := by simpa using c
    go_wp2
    exact bodyPost_ret (v := .bool false) (by simp [results, Try.results46, go_sem]) rfl ⟨by simp <;> omega, rfl⟩
set_option maxHeartbeats 8000000 in
set_option maxRecDepth 100000 in
theorem ref_call0 (k t n dv : Int) (ao : Option Addr) (m cap : Nat) (w : World) (h5 : k ≠ 5) :
    Calls Try.prog 52 #[.agg #[.int .i64 k, .int .i64 t, .int .i64 n, .slice ao m cap], .int .i64 dv] w fun e w' => e = .returned (.bool (decide (leafOk k t n m))) ∧ Below w.heap.size w w' := by
  obtain ⟨W, hW⟩ : ∃ W, W = w.alloc (.cells #[.int .i64 k, .int .i64 t, .int .i64 n, .slice ao m cap] 28) := ⟨_, rfl⟩
  have hB : Below w.heap.size w W := by rw [hW]; exact (Below.refl _ w).alloc (Nat.le_refl _) _
  have g1 := World.alloc_heap_new w (.cells #[.int .i64 k, .int .i64 t, .int .i64 n, .slice ao m cap] 28)
  rw [← hW] at g1
  obtain ⟨cb, hcb⟩ : ∃ cb, cb = w.heap.size := ⟨_, rfl⟩
  rw [← hcb] at g1
  have a0 : W.cell? ⟨cb, 0, none⟩ = some (.int .i64 k) := by rw [World.cell?, g1]; rfl
  have a1 : W.cell? ⟨cb, 1, none⟩ = some (.int .i64 t) := by rw [World.cell?, g1]; rfl
  have a2 : W.cell? ⟨cb, 2, none⟩ = some (.int .i64 n) := by rw [World.cell?, g1]; rfl
  have a3 : W.cell? ⟨cb, 3, none⟩ = some (.slice ao m cap) := by rw [World.cell?, g1]; rfl
  have HB := Lib.hid hB
  clear g1 hB
  obtain ⟨r, hr⟩ : ∃ r, r = decide (leafOk k t n m) := ⟨_, rfl⟩
  rw [← hr]
  have FIN : Hid (∀ (b : Bool), (b = true ↔ leafOk k t n m) → b = r) := Lib.hid (fun b h => by rw [hr]; cases b <;> simp [← h])
  clear hr
  go_enter Try.func52, Try.ntmps52
  go_upto_region 1 with fail
  rw [← hW, ← hcb]
  clear hW hcb
  by_cases k1 : k = 1
  · have KK := Lib.hid k1
    have e1 : (k == 1) = true := by simp <;> omega
    have g1 : (k != 1) = false := by simp <;> omega
    have e2 : (k == 2) = false := by simp <;> omega
    have g2 : (k != 2) = true := by simp <;> omega
    have e3 : (k == 3) = false := by simp <;> omega
    have g3 : (k != 3) = true := by simp <;> omega
    have e4 : (k == 4) = false := by simp <;> omega
    have g4 : (k != 4) = true := by simp <;> omega
    have e5 : (k == 5) = false := by simp <;> omega
    have g5 : (k != 5) = true := by simp <;> omega
    clear h5 k1
    by_cases qm : m = 0
    · have f3 : ¬ 0 < m := by omega
      by_cases q1 : t = 0
      · have f1 : (t != 0) = false := by simp [q1]
        by_cases q2 : 0 ≤ n ∧ n ≤ 1073741824
        · have f2 : decide (0 ≤ n ∧ n ≤ 1073741824) = true := decide_eq_true q2
          have Q := Lib.hid (And.intro qm (And.intro q1 q2))
          clear qm q1 q2
          go_wp2_with (first
          | (go_at_call 46; refine (ref_in _ _ _ _).mono ?_; rintro e w' ⟨rfl, rfl⟩)
          | fail)
          exact bodyPost_ret (v := .bool true) (by simp [results, Try.results52, go_sem]) rfl ⟨by rw [FIN.out true (by unfold leafOk; have := Q.out; have := KK.out; simp; omega)], HB.out⟩
        · have f2 : decide (0 ≤ n ∧ n ≤ 1073741824) = false := decide_eq_false q2
          have Q := Lib.hid q2
          clear qm q1 q2
          go_wp2_with (first
          | (go_at_call 46; refine (ref_in _ _ _ _).mono ?_; rintro e w' ⟨rfl, rfl⟩)
          | fail)
          exact bodyPost_ret (v := .bool false) (by simp [results, Try.results52, go_sem]) rfl ⟨by rw [FIN.out false (by unfold leafOk; have := Q.out; have := KK.out; simp; omega)], HB.out⟩
      · have f1 : (t != 0) = true := by simp [q1]
        have Q := Lib.hid q1
        clear qm q1
        go_wp2_with (first
          | (go_at_call 46; refine (ref_in _ _ _ _).mono ?_; rintro e w' ⟨rfl, rfl⟩)
          | fail)
        exact bodyPost_ret (v := .bool false) (by simp [results, Try.results52, go_sem]) rfl ⟨by rw [FIN.out false (by unfold leafOk; have := Q.out; have := KK.out; simp; omega)], HB.out⟩
    · have f3 : 0 < m := by omega
      have Q := Lib.hid qm
      clear qm
      go_wp2_with (first
          | (go_at_call 46; refine (ref_in _ _ _ _).mono ?_; rintro e w' ⟨rfl, rfl⟩)
          | fail)
      exact bodyPost_ret (v := .bool false) (by simp [results, Try.results52, go_sem]) rfl ⟨by rw [FIN.out false (by unfold leafOk; have := Q.out; have := KK.out; simp; omega)], HB.out⟩
  by_cases k2 : k = 2
  · have KK := Lib.hid k2
    have e1 : (k == 1) = false := by simp <;> omega
    have g1 : (k != 1) = true := by simp <;> omega
    have e2 : (k == 2) = true := by simp <;> omega
    have g2 : (k != 2) = false := by simp <;> omega
    have e3 : (k == 3) = false := by simp <;> omega
    have g3 : (k != 3) = true := by simp <;> omega
    have e4 : (k == 4) = false := by simp <;> omega
    have g4 : (k != 4) = true := by simp <;> omega
    have e5 : (k == 5) = false := by simp <;> omega
    have g5 : (k != 5) = true := by simp <;> omega
    clear h5 k1 k2
    by_cases qm : m = 0
    · have f3 : ¬ 0 < m := by omega
      by_cases q1 : 0 ≤ t ∧ t ≤ 9
      · have f1 : decide (0 ≤ t ∧ t ≤ 9) = true := decide_eq_true q1
        by_cases q2 : 0 ≤ n ∧ n ≤ 1073741824
        · have f2 : decide (0 ≤ n ∧ n ≤ 1073741824) = true := decide_eq_true q2
          have Q := Lib.hid (And.intro qm (And.intro q1 q2))
          clear qm q1 q2
          go_wp2_with (first
          | (go_at_call 46; refine (ref_in _ _ _ _).mono ?_; rintro e w' ⟨rfl, rfl⟩)
          | fail)
          exact bodyPost_ret (v := .bool true) (by simp [results, Try.results52, go_sem]) rfl ⟨by rw [FIN.out true (by unfold leafOk; have := Q.out; have := KK.out; simp; omega)], HB.out⟩
        · have f2 : decide (0 ≤ n ∧ n ≤ 1073741824) = false := decide_eq_false q2
          have Q := Lib.hid q2
          clear qm q1 q2
          go_wp2_with (first
          | (go_at_call 46; refine (ref_in _ _ _ _).mono ?_; rintro e w' ⟨rfl, rfl⟩)
          | fail)
          exact bodyPost_ret (v := .bool false) (by simp [results, Try.results52, go_sem]) rfl ⟨by rw [FIN.out false (by unfold leafOk; have := Q.out; have := KK.out; simp; omega)], HB.out⟩
      · have f1 : decide (0 ≤ t ∧ t ≤ 9) = false := decide_eq_false q1
        have Q := Lib.hid q1
        clear qm q1
        go_wp2_with (first
          | (go_at_call 46; refine (ref_in _ _ _ _).mono ?_; rintro e w' ⟨rfl, rfl⟩)
          | fail)
        exact bodyPost_ret (v := .bool false) (by simp [results, Try.results52, go_sem]) rfl ⟨by rw [FIN.out false (by unfold leafOk; have := Q.out; have := KK.out; simp; omega)], HB.out⟩
    · have f3 : 0 < m := by omega
      have Q := Lib.hid qm
      clear qm
      go_wp2_with (first
          | (go_at_call 46; refine (ref_in _ _ _ _).mono ?_; rintro e w' ⟨rfl, rfl⟩)
          | fail)
      exact bodyPost_ret (v := .bool false) (by simp [results, Try.results52, go_sem]) rfl ⟨by rw [FIN.out false (by unfold leafOk; have := Q.out; have := KK.out; simp; omega)], HB.out⟩
  by_cases k3 : k = 3
  · have KK := Lib.hid k3
    have e1 : (k == 1) = false := by simp <;> omega
    have g1 : (k != 1) = true := by simp <;> omega
    have e2 : (k == 2) = false := by simp <;> omega
    have g2 : (k != 2) = true := by simp <;> omega
    have e3 : (k == 3) = true := by simp <;> omega
    have g3 : (k != 3) = false := by simp <;> omega
    have e4 : (k == 4) = false := by simp <;> omega
    have g4 : (k != 4) = true := by simp <;> omega
    have e5 : (k == 5) = false := by simp <;> omega
    have g5 : (k != 5) = true := by simp <;> omega
    clear h5 k1 k2 k3
    by_cases qm : m = 0
    · have f3 : ¬ 0 < m := by omega
      by_cases q1 : t = 0
      · have f1 : (t != 0) = false := by simp [q1]
        by_cases q2 : 0 ≤ n ∧ n ≤ 11
        · have f2 : decide (0 ≤ n ∧ n ≤ 11) = true := decide_eq_true q2
          have Q := Lib.hid (And.intro qm (And.intro q1 q2))
          clear qm q1 q2
          go_wp2_with (first
          | (go_at_call 46; refine (ref_in _ _ _ _).mono ?_; rintro e w' ⟨rfl, rfl⟩)
          | fail)
          exact bodyPost_ret (v := .bool true) (by simp [results, Try.results52, go_sem]) rfl ⟨by rw [FIN.out true (by unfold leafOk; have := Q.out; have := KK.out; simp; omega)], HB.out⟩
        · have f2 : decide (0 ≤ n ∧ n ≤ 11) = false := decide_eq_false q2
          have Q := Lib.hid q2
          clear qm q1 q2
          go_wp2_with (first
          | (go_at_call 46; refine (ref_in _ _ _ _).mono ?_; rintro e w' ⟨rfl, rfl⟩)
          | fail)
          exact bodyPost_ret (v := .bool false) (by simp [results, Try.results52, go_sem]) rfl ⟨by rw [FIN.out false (by unfold leafOk; have := Q.out; have := KK.out; simp; omega)], HB.out⟩
      · have f1 : (t != 0) = true := by simp [q1]
        have Q := Lib.hid q1
        clear qm q1
        go_wp2_with (first
          | (go_at_call 46; refine (ref_in _ _ _ _).mono ?_; rintro e w' ⟨rfl, rfl⟩)
          | fail)
        exact bodyPost_ret (v := .bool false) (by simp [results, Try.results52, go_sem]) rfl ⟨by rw [FIN.out false (by unfold leafOk; have := Q.out; have := KK.out; simp; omega)], HB.out⟩
    · have f3 : 0 < m := by omega
      have Q := Lib.hid qm
      clear qm
      go_wp2_with (first
          | (go_at_call 46; refine (ref_in _ _ _ _).mono ?_; rintro e w' ⟨rfl, rfl⟩)
          | fail)
      exact bodyPost_ret (v := .bool false) (by simp [results, Try.results52, go_sem]) rfl ⟨by rw [FIN.out false (by unfold leafOk; have := Q.out; have := KK.out; simp; omega)], HB.out⟩
  by_cases k4 : k = 4
  · have KK := Lib.hid k4
    have e1 : (k == 1) = false := by simp <;> omega
    have g1 : (k != 1) = true := by simp <;> omega
    have e2 : (k == 2) = false := by simp <;> omega
    have g2 : (k != 2) = true := by simp <;> omega
    have e3 : (k == 3) = false := by simp <;> omega
    have g3 : (k != 3) = true := by simp <;> omega
    have e4 : (k == 4) = true := by simp <;> omega
    have g4 : (k != 4) = false := by simp <;> omega
    have e5 : (k == 5) = false := by simp <;> omega
    have g5 : (k != 5) = true := by simp <;> omega
    clear h5 k1 k2 k3 k4
    by_cases qm : m = 0
    · have f3 : ¬ 0 < m := by omega
      by_cases q1 : t = 0
      · have f1 : (t != 0) = false := by simp [q1]
        by_cases q2 : 0 ≤ n ∧ n ≤ 11
        · have f2 : decide (0 ≤ n ∧ n ≤ 11) = true := decide_eq_true q2
          have Q := Lib.hid (And.intro qm (And.intro q1 q2))
          clear qm q1 q2
          go_wp2_with (first
          | (go_at_call 46; refine (ref_in _ _ _ _).mono ?_; rintro e w' ⟨rfl, rfl⟩)
          | fail)
          exact bodyPost_ret (v := .bool true) (by simp [results, Try.results52, go_sem]) rfl ⟨by rw [FIN.out true (by unfold leafOk; have := Q.out; have := KK.out; simp; omega)], HB.out⟩
        · have f2 : decide (0 ≤ n ∧ n ≤ 11) = false := decide_eq_false q2
          have Q := Lib.hid q2
          clear qm q1 q2
          go_wp2_with (first
          | (go_at_call 46; refine (ref_in _ _ _ _).mono ?_; rintro e w' ⟨rfl, rfl⟩)
          | fail)
          exact bodyPost_ret (v := .bool false) (by simp [results, Try.results52, go_sem]) rfl ⟨by rw [FIN.out false (by unfold leafOk; have := Q.out; have := KK.out; simp; omega)], HB.out⟩
      · have f1 : (t != 0) = true := by simp [q1]
        have Q := Lib.hid q1
        clear qm q1
        go_wp2_with (first
          | (go_at_call 46; refine (ref_in _ _ _ _).mono ?_; rintro e w' ⟨rfl, rfl⟩)
          | fail)
        exact bodyPost_ret (v := .bool false) (by simp [results, Try.results52, go_sem]) rfl ⟨by rw [FIN.out false (by unfold leafOk; have := Q.out; have := KK.out; simp; omega)], HB.out⟩
    · have f3 : 0 < m := by omega
      have Q := Lib.hid qm
      clear qm
      go_wp2_with (first
          | (go_at_call 46; refine (ref_in _ _ _ _).mono ?_; rintro e w' ⟨rfl, rfl⟩)
          | fail)
      exact bodyPost_ret (v := .bool false) (by simp [results, Try.results52, go_sem]) rfl ⟨by rw [FIN.out false (by unfold leafOk; have := Q.out; have := KK.out; simp; omega)], HB.out⟩
  · have KK := Lib.hid (show k ≠ 1 ∧ k ≠ 2 ∧ k ≠ 3 ∧ k ≠ 4 ∧ k ≠ 5 from ⟨k1, k2, k3, k4, h5⟩)
    have e1 : (k == 1) = false := by simp <;> omega
    have g1 : (k != 1) = true := by simp <;> omega
    have e2 : (k == 2) = false := by simp <;> omega
    have g2 : (k != 2) = true := by simp <;> omega
    have e3 : (k == 3) = false := by simp <;> omega
    have g3 : (k != 3) = true := by simp <;> omega
    have e4 : (k == 4) = false := by simp <;> omega
    have g4 : (k != 4) = true := by simp <;> omega
    have e5 : (k == 5) = false := by simp <;> omega
    have g5 : (k != 5) = true := by simp <;> omega
    clear h5 k1 k2 k3 k4
    by_cases qm : m = 0
    · have f3 : ¬ 0 < m := by omega
      by_cases q1 : t = 0
      · have f1 : (t != 0) = false := by simp [q1]
        have Q := Lib.hid qm
        clear qm q1
        go_wp2_with (first
          | (go_at_call 46; refine (ref_in _ _ _ _).mono ?_; rintro e w' ⟨rfl, rfl⟩)
          | fail)
        exact bodyPost_ret (v := .bool false) (by simp [results, Try.results52, go_sem]) rfl ⟨by rw [FIN.out false (by unfold leafOk; have := Q.out; have := KK.out; simp; omega)], HB.out⟩
      · have f1 : (t != 0) = true := by simp [q1]
        have Q := Lib.hid q1
        clear qm q1
        go_wp2_with (first
          | (go_at_call 46; refine (ref_in _ _ _ _).mono ?_; rintro e w' ⟨rfl, rfl⟩)
          | fail)
        exact bodyPost_ret (v := .bool false) (by simp [results, Try.results52, go_sem]) rfl ⟨by rw [FIN.out false (by unfold leafOk; have := Q.out; have := KK.out; simp; omega)], HB.out⟩
    · have f3 : 0 < m := by omega
      have Q := Lib.hid qm
      clear qm
      go_wp2_with (first
          | (go_at_call 46; refine (ref_in _ _ _ _).mono ?_; rintro e w' ⟨rfl, rfl⟩)
          | fail)
      exact bodyPost_ret (v := .bool false) (by simp [results, Try.results52, go_sem]) rfl ⟨by rw [FIN.out false (by unfold leafOk; have := Q.out; have := KK.out; simp; omega)], HB.out⟩
end Go.Proofs.Ytbndegkgpoemnaa
