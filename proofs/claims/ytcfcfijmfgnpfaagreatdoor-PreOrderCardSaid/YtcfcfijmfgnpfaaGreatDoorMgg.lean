/-
  Joined texts.
-/
import Derived.Deep.DeepCutAuto
import Derived.Deep.CutBlock
import Derived.WalkKit
import Derived.Lib.Hide
import Derived.Below
import Derived.OwnWalkIn
import Derived.Maps.OwnIn
import Derived.Maps.AppendAt
import Derived.Deep.MidRow
import Derived.Deep.WholeRow
import Derived.Great.BuildSlice
import Derived.RangeFuncBox
import Derived.Laws.Tables
import Derived.Test.YtcfcfijmfgnpfaaGreatDoorChecked
import Derived.WalkSpells
import Derived.WalkLawsBesides
import Derived.Deep.QuietTactic
import Derived.BigQuiet
import Derived.Deep.RegionHeld3
import Derived.IntWalk
import Derived.Test.YtcfcfijmfgnpfaaGreatDoorMgf

section
namespace Go.Proofs.YtcfcfijmfgnpfaaGreatDoor
open Go.RowKit
set_option linter.unusedVariables false
set_option linter.unusedSimpArgs false

theorem ref_in (n a b : Int) (w : World) : Calls Tryz.prog 71 #[.int .i64 n, .int .i64 a, .int .i64 b] w fun e w' => e = .returned (.bool (decide (a ≤ n ∧ n ≤ b))) ∧ w' = w := by
  go_enter Tryz.func71, Tryz.ntmps71
  by_cases c : a ≤ n
  · by_cases d : n ≤ b
    · go_wp2
      exact bodyPost_ret (v := .bool true) (by simp [results, Tryz.results71, go_sem]) rfl ⟨by simp [c, d], rfl⟩
    · have hd : decide (n ≤ b) = false := by simpa using d
      go_wp2
      exact bodyPost_ret (v := .bool false) (by simp [results, Tryz.results71, go_sem]) rfl ⟨by simp <;> omega, rfl⟩
  · have hc : decide (a ≤ n) = false := by simpa using c
    go_wp2
    exact bodyPost_ret (v := .bool false) (by simp [results, Tryz.results71, go_sem]) rfl ⟨by simp <;> omega, rfl⟩
set_option maxHeartbeats 8000000 in
set_option maxRecDepth 100000 in
theorem ref_call0 (k t n dv : Int) (ao : Option Addr) (m cap : Nat) (w : World) (h5 : k ≠ 5) :
    Calls Tryz.prog 54 #[.agg #[.int .i64 k, .int .i64 t, .int .i64 n, .slice ao m cap], .int .i64 dv] w fun e w' => e = .returned (.bool (decide (leafOk k t n m))) ∧ Below w.heap.size w w' := by
  obtain ⟨W, hW⟩ : ∃ W, W = w.alloc (.cells #[.int .i64 k, .int .i64 t, .int .i64 n, .slice ao m cap] 45) := ⟨_, rfl⟩
  have hB : Below w.heap.size w W := by rw [hW]; exact (Below.refl _ w).alloc (Nat.le_refl _) _
  have g1 := World.alloc_heap_new w (.cells #[.int .i64 k, .int .i64 t, .int .i64 n, .slice ao m cap] 45)
  rw [← hW] at g1
  obtain ⟨cb, hcb⟩ : ∃ cb, cb = w.heap.size := ⟨_, rfl⟩
  rw [← hcb] at g1
  have a0 : W.cell? ⟨cb, 0, none⟩ = some (.int .i64 k) := by rw [World.cell?, g1]; rfl
  have a1 : W.cell? ⟨cb, 1, none⟩ = some (.int .i64 t) := by rw [World.cell?, g1]; rfl
  have a2 : W.cell? ⟨cb, 2, none⟩ = some (.int .i64 n) := by rw [World.cell?, g1]; rfl
  have a3 : W.cell? ⟨cb, 3, none⟩ = some (.slice ao m cap) := by rw [World.cell?, g1]; rfl
  have HB := Lib.hid hB
  clear g1 hB
  obtain ⟨r, hr⟩ : ∃ r, r = decide (leafOk k t n m) := ⟨_, rfl⟩
  rw [← hr]
  have FIN : Hid (∀ (b : Bool), (b = true ↔ leafOk k t n m) → b = r) := Lib.hid (fun b h => by rw [hr]; cases b <;> simp [← h])
  clear hr
  go_enter Tryz.func54, Tryz.ntmps54
  go_upto_region 1 with fail
  rw [← hW, ← hcb]
  clear hW hcb
  by_cases k1 : k = 1
  · have KK := Lib.hid k1
    have e1 : (k == 1) = true := by simp <;> omega
    have g1 : (k != 1) = false := by simp <;> omega
    have e2 : (k == 2) = false := by simp <;> omega
    have g2 : (k != 2) = true := by simp <;> omega
    have e3 : (k == 3) = false := by simp <;> omega
    have g3 : (k != 3) = true := by simp <;> omega
    have e4 : (k == 4) = false := by simp <;> omega
    have g4 : (k != 4) = true := by simp <;> omega
    have e5 : (k == 5) = false := by simp <;> omega
    have g5 : (k != 5) = true := by simp <;> omega
    clear h5 k1
    by_cases qm : m = 0
    · have f3 : ¬ 0 < m := by omega
      by_cases q1 : t = 0
      · have f1 : (t != 0) = false := by simp [q1]
        by_cases q2 : 0 ≤ n ∧ n ≤ 1073741824
        · have f2 : decide (0 ≤ n ∧ n ≤ 1073741824) = true := decide_eq_true q2
          have Q := Lib.hid (And.intro qm (And.intro q1 q2))
          clear qm q1 q2
          go_wp2_with (first
          | (go_at_call 71; refine (ref_in _ _ _ _).mono ?_; rintro e w' ⟨rfl, rfl⟩)
          | fail)
          exact bodyPost_ret (v := .bool true) (by simp [results, Tryz.results54, go_sem]) rfl ⟨by rw [FIN.out true (by unfold leafOk; have := Q.out; have := KK.out; simp; omega)], HB.out⟩
        · have f2 : decide (0 ≤ n ∧ n ≤ 1073741824) = false := decide_eq_false q2
          have Q := Lib.hid q2
          clear qm q1 q2
          go_wp2_with (first
          | (go_at_call 71; refine (ref_in _ _ _ _).mono ?_; rintro e w' ⟨rfl, rfl⟩)
          | fail)
          exact bodyPost_ret (v := .bool false) (by simp [results, Tryz.results54, go_sem]) rfl ⟨by rw [FIN.out false (by unfold leafOk; have := Q.out; have := KK.out; simp; omega)], HB.out⟩
      · have f1 : (t != 0) = true := by simp [q1]
        have Q := Lib.hid q1
        clear qm q1
        go_wp2_with (first
          | (go_at_call 71; refine (ref_in _ _ _ _).mono ?_; rintro e w' ⟨rfl, rfl⟩)
          | fail)
        exact bodyPost_ret (v := .bool false) (by simp [results, Tryz.results54, go_sem]) rfl ⟨by rw [FIN.out false (by unfold leafOk; have := Q.out; have := KK.out; simp; omega)], HB.out⟩
    · have f3 : 0 < m := by omega
      have Q := Lib.hid qm
      clear qm
      go_wp2_with (first
          | (go_at_call 71; refine (ref_in _ _ _ _).mono ?_; rintro e w' ⟨rfl, rfl⟩)
          | fail)
      exact bodyPost_ret (v := .bool false) (by simp [results, Tryz.results54, go_sem]) rfl ⟨by rw [FIN.out false (by unfold leafOk; have := Q.out; have := KK.out; simp; omega)], HB.out⟩
  by_cases k2 : k = 2
  · have KK := Lib.hid k2
    have e1 : (k == 1) = false := by simp <;> omega
    have g1 : (k != 1) = true := by simp <;> omega
    have e2 : (k == 2) = true := by simp <;> omega
    have g2 : (k != 2) = false := by simp <;> omega
    have e3 : (k == 3) = false := by simp <;> omega
    have g3 : (k != 3) = true := by simp <;> omega
    have e4 : (k == 4) = false := by simp <;> omega
    have g4 : (k != 4) = true := by simp <;> omega
    have e5 : (k == 5) = false := by simp <;> omega
    have g5 : (k != 5) = true := by simp <;> omega
    clear h5 k1 k2
    by_cases qm : m = 0
    · have f3 : ¬ 0 < m := by omega
      by_cases q1 : 0 ≤ t ∧ t ≤ 9
      · have f1 : decide (0 ≤ t ∧ t ≤ 9) = true := decide_eq_true q1
        by_cases q2 : 0 ≤ n ∧ n ≤ 1073741824
        · have f2 : decide (0 ≤ n ∧ n ≤ 1073741824) = true := decide_eq_true q2
          have Q := Lib.hid (And.intro qm (And.intro q1 q2))
          clear qm q1 q2
          go_wp2_with (first
          | (go_at_call 71; refine (ref_in _ _ _ _).mono ?_; rintro e w' ⟨rfl, rfl⟩)
          | fail)
          exact bodyPost_ret (v := .bool true) (by simp [results, Tryz.results54, go_sem]) rfl ⟨by rw [FIN.out true (by unfold leafOk; have := Q.out; have := KK.out; simp; omega)], HB.out⟩
        · have f2 : decide (0 ≤ n ∧ n ≤ 1073741824) = false := decide_eq_false q2
          have Q := Lib.hid q2
          clear qm q1 q2
          go_wp2_with (first
          | (go_at_call 71; refine (ref_in _ _ _ _).mono ?_; rintro e w' ⟨rfl, rfl⟩)
          | fail)
          exact bodyPost_ret (v := .bool false) (by simp [results, Tryz.results54, go_sem]) rfl ⟨by rw [FIN.out false (by unfold leafOk; have := Q.out; have := KK.out; simp; omega)], HB.out⟩
      · have f1 : decide (0 ≤ t ∧ t ≤ 9) = false := decide_eq_false q1
        have Q := Lib.hid q1
        clear qm q1
        go_wp2_with (first
          | (go_at_call 71; refine (ref_in _ _ _ _).mono ?_; rintro e w' ⟨rfl, rfl⟩)
          | fail)
        exact bodyPost_ret (v := .bool false) (by simp [results, Tryz.results54, go_sem]) rfl ⟨by rw [FIN.out false (by unfold leafOk; have := Q.out; have := KK.out; simp; omega)], HB.out⟩
    · have f3 : 0 < m := by omega
      have Q := Lib.hid qm
      clear qm
      go_wp2_with (first
          | (go_at_call 71; refine (ref_in _ _ _ _).mono ?_; rintro e w' ⟨rfl, rfl⟩)
          | fail)
      exact bodyPost_ret (v := .bool false) (by simp [results, Tryz.results54, go_sem]) rfl ⟨by rw [FIN.out false (by unfold leafOk; have := Q.out; have := KK.out; simp; omega)], HB.out⟩
  by_cases k3 : k = 3
  · have KK := Lib.hid k3
    have e1 : (k == 1) = false := by simp <;> omega
    have g1 : (k != 1) = true := by simp <;> omega
    have e2 : (k == 2) = false := by simp <;> omega
    have g2 : (k != 2) = true := by simp <;> omega
    have e3 : (k == 3) = true := by simp <;> omega
    have g3 : (k != 3) = false := by simp <;> omega
    have e4 : (k == 4) = false := by simp <;> omega
    have g4 : (k != 4) = true := by simp <;> omega
    have e5 : (k == 5) = false := by simp <;> omega
    have g5 : (k != 5) = true := by simp <;> omega
    clear h5 k1 k2 k3
    by_cases qm : m = 0
    · have f3 : ¬ 0 < m := by omega
      by_cases q1 : t = 0
      · have f1 : (t != 0) = false := by simp [q1]
        by_cases q2 : 0 ≤ n ∧ n ≤ 11
        · have f2 : decide (0 ≤ n ∧ n ≤ 11) = true := decide_eq_true q2
          have Q := Lib.hid (And.intro qm (And.intro q1 q2))
          clear qm q1 q2
          go_wp2_with (first
          | (go_at_call 71; refine (ref_in _ _ _ _).mono ?_; rintro e w' ⟨rfl, rfl⟩)
          | fail)
          exact bodyPost_ret (v := .bool true) (by simp [results, Tryz.results54, go_sem]) rfl ⟨by rw [FIN.out true (by unfold leafOk; have := Q.out; have := KK.out; simp; omega)], HB.out⟩
        · have f2 : decide (0 ≤ n ∧ n ≤ 11) = false := decide_eq_false q2
          have Q := Lib.hid q2
          clear qm q1 q2
          go_wp2_with (first
          | (go_at_call 71; refine (ref_in _ _ _ _).mono ?_; rintro e w' ⟨rfl, rfl⟩)
          | fail)
          exact bodyPost_ret (v := .bool false) (by simp [results, Tryz.results54, go_sem]) rfl ⟨by rw [FIN.out false (by unfold leafOk; have := Q.out; have := KK.out; simp; omega)], HB.out⟩
      · have f1 : (t != 0) = true := by simp [q1]
        have Q := Lib.hid q1
        clear qm q1
        go_wp2_with (first
          | (go_at_call 71; refine (ref_in _ _ _ _).mono ?_; rintro e w' ⟨rfl, rfl⟩)
          | fail)
        exact bodyPost_ret (v := .bool false) (by simp [results, Tryz.results54, go_sem]) rfl ⟨by rw [FIN.out false (by unfold leafOk; have := Q.out; have := KK.out; simp; omega)], HB.out⟩
    · have f3 : 0 < m := by omega
      have Q := Lib.hid qm
      clear qm
      go_wp2_with (first
          | (go_at_call 71; refine (ref_in _ _ _ _).mono ?_; rintro e w' ⟨rfl, rfl⟩)
          | fail)
      exact bodyPost_ret (v := .bool false) (by simp [results, Tryz.results54, go_sem]) rfl ⟨by rw [FIN.out false (by unfold leafOk; have := Q.out; have := KK.out; simp; omega)], HB.out⟩
  by_cases k4 : k = 4
  · have KK := Lib.hid k4
    have e1 : (k == 1) = false := by simp <;> omega
    have g1 : (k != 1) = true := by simp <;> omega
    have e2 : (k == 2) = false := by simp <;> omega
    have g2 : (k != 2) = true := by simp <;> omega
    have e3 : (k == 3) = false := by simp <;> omega
    have g3 : (k != 3) = true := by simp <;> omega
    have e4 : (k == 4) = true := by simp <;> omega
    have g4 : (k != 4) = false := by simp <;> omega
    have e5 : (k == 5) = false := by simp <;> omega
    have g5 : (k != 5) = true := by simp <;> omega
    clear h5 k1 k2 k3 k4
    by_cases qm : m = 0
    · have f3 : ¬ 0 < m := by omega
      by_cases q1 : t = 0
      · have f1 : (t != 0) = false := by simp [q1]
        by_cases q2 : 0 ≤ n ∧ n ≤ 11
        · have f2 : decide (0 ≤ n ∧ n ≤ 11) = true := decide_eq_true q2
          have Q := Lib.hid (And.intro qm (And.intro q1 q2))
          clear qm q1 q2
          go_wp2_with (first
          | (go_at_call 71; refine (ref_in _ _ _ _).mono ?_; rintro e w' ⟨rfl, rfl⟩)
          | fail)
          exact bodyPost_ret (v := .bool true) (by simp [results, Tryz.results54, go_sem]) rfl ⟨by rw [FIN.out true (by unfold leafOk; have := Q.out; have := KK.out; simp; omega)], HB.out⟩
        · have f2 : decide (0 ≤ n ∧ n ≤ 11) = false := decide_eq_false q2
          have Q := Lib.hid q2
          clear qm q1 q2
          go_wp2_with (first
          | (go_at_call 71; refine (ref_in _ _ _ _).mono ?_; rintro e w' ⟨rfl, rfl⟩)
          | fail)
          exact bodyPost_ret (v := .bool false) (by simp [results, Tryz.results54, go_sem]) rfl ⟨by rw [FIN.out false (by unfold leafOk; have := Q.out; have := KK.out; simp; omega)], HB.out⟩
      · have f1 : (t != 0) = true := by simp [q1]
        have Q := Lib.hid q1
        clear qm q1
        go_wp2_with (first
          | (go_at_call 71; refine (ref_in _ _ _ _).mono ?_; rintro e w' ⟨rfl, rfl⟩)
          | fail)
        exact bodyPost_ret (v := .bool false) (by simp [results, Tryz.results54, go_sem]) rfl ⟨by rw [FIN.out false (by unfold leafOk; have := Q.out; have := KK.out; simp; omega)], HB.out⟩
    · have f3 : 0 < m := by omega
      have Q := Lib.hid qm
      clear qm
      go_wp2_with (first
          | (go_at_call 71; refine (ref_in _ _ _ _).mono ?_; rintro e w' ⟨rfl, rfl⟩)
          | fail)
      exact bodyPost_ret (v := .bool false) (by simp [results, Tryz.results54, go_sem]) rfl ⟨by rw [FIN.out false (by unfold leafOk; have := Q.out; have := KK.out; simp; omega)], HB.out⟩
  · have KK := Lib.hid (show k ≠ 1 ∧ k ≠ 2 ∧ k ≠ 3 ∧ k ≠ 4 ∧ k ≠ 5 from ⟨k1, k2, k3, k4, h5⟩)
    have e1 : (k == 1) = false := by simp <;> omega
    have g1 : (k != 1) = true := by simp <;> omega
    have e2 : (k == 2) = false := by simp <;> omega
    have g2 : (k != 2) = true := by simp <;> omega
    have e3 : (k == 3) = false := by simp <;> omega
    have g3 : (k != 3) = true := by simp <;> omega
    have e4 : (k == 4) = false := by simp <;> omega
    have g4 : (k != 4) = true := by simp <;> omega
    have e5 : (k == 5) = false := by simp <;> omega
    have g5 : (k != 5) = true := by simp <;> omega
    clear h5 k1 k2 k3 k4
    by_cases qm : m = 0
    · have f3 : ¬ 0 < m := by omega
      by_cases q1 : t = 0
      · have f1 : (t != 0) = false := by simp [q1]
        have Q := Lib.hid qm
        clear qm q1
        go_wp2_with (first
          | (go_at_call 71; refine (ref_in _ _ _ _).mono ?_; rintro e w' ⟨rfl, rfl⟩)
          | fail)
        exact bodyPost_ret (v := .bool false) (by simp [results, Tryz.results54, go_sem]) rfl ⟨by rw [FIN.out false (by unfold leafOk; have := Q.out; have := KK.out; simp; omega)], HB.out⟩
      · have f1 : (t != 0) = true := by simp [q1]
        have Q := Lib.hid q1
        clear qm q1
        go_wp2_with (first
          | (go_at_call 71; refine (ref_in _ _ _ _).mono ?_; rintro e w' ⟨rfl, rfl⟩)
          | fail)
        exact bodyPost_ret (v := .bool false) (by simp [results, Tryz.results54, go_sem]) rfl ⟨by rw [FIN.out false (by unfold leafOk; have := Q.out; have := KK.out; simp; omega)], HB.out⟩
    · have f3 : 0 < m := by omega
      have Q := Lib.hid qm
      clear qm
      go_wp2_with (first
          | (go_at_call 71; refine (ref_in _ _ _ _).mono ?_; rintro e w' ⟨rfl, rfl⟩)
          | fail)
      exact bodyPost_ret (v := .bool false) (by simp [results, Tryz.results54, go_sem]) rfl ⟨by rw [FIN.out false (by unfold leafOk; have := Q.out; have := KK.out; simp; omega)], HB.out⟩
end Go.Proofs.YtcfcfijmfgnpfaaGreatDoor
end

section
namespace Go.Proofs.YtcfcfijmfgnpfaaGreatDoor
open Go.RowKit
set_option linter.unusedVariables false
set_option linter.unusedSimpArgs false

def kidsOk : Nat → List Cl → Bool
  | 0, _ => false
  | p + 1, l => l.all (okC p)
def RefC (q : Nat) : Prop := ∀ (d : Nat) (c : Cl) (v : Value) (w : World), RdC w d v c → Calls Tryz.prog 54 #[v, .int .i64 (3 - (q : Int))] w fun e w' => e = .returned (.bool (okC q c)) ∧ Below w.heap.size w w'
set_option maxRecDepth 100000 in
set_option maxHeartbeats 4000000 in
theorem ref_call5 (t n : Int) (q : Nat) (hq : q ≤ 3) (l : List Cl) (d : Nat) (ao : Option Addr) (m cap : Nat) (w : World) (hm : m = l.length) (hrd : RdCs w d ao l)
    (ih : ∀ p, q = p + 1 → RefC p) :
    Calls Tryz.prog 54 #[.agg #[.int .i64 5, .int .i64 t, .int .i64 n, .slice ao m cap], .int .i64 (3 - (q : Int))] w fun e w' => e = .returned (.bool (t == 0 && n == 0 && decide (1 ≤ m ∧ m ≤ 4) && kidsOk q l)) ∧ Below w.heap.size w w' := by
  obtain ⟨r, hr⟩ : ∃ r, r = (t == 0 && n == 0 && decide (1 ≤ m ∧ m ≤ 4) && kidsOk q l) := ⟨_, rfl⟩
  rw [← hr]
  obtain ⟨W, hW⟩ : ∃ W, W = w.alloc (.cells #[.int .i64 5, .int .i64 t, .int .i64 n, .slice ao m cap] 45) := ⟨_, rfl⟩
  have hB : Below w.heap.size w W := by rw [hW]; exact (Below.refl _ w).alloc (Nat.le_refl _) _
  have g1 := World.alloc_heap_new w (.cells #[.int .i64 5, .int .i64 t, .int .i64 n, .slice ao m cap] 45)
  rw [← hW] at g1
  obtain ⟨cb, hcb⟩ : ∃ cb, cb = w.heap.size := ⟨_, rfl⟩
  rw [← hcb] at g1
  have a0 : W.cell? ⟨cb, 0, none⟩ = some (.int .i64 5) := by rw [World.cell?, g1]; rfl
  have a1 : W.cell? ⟨cb, 1, none⟩ = some (.int .i64 t) := by rw [World.cell?, g1]; rfl
  have a2 : W.cell? ⟨cb, 2, none⟩ = some (.int .i64 n) := by rw [World.cell?, g1]; rfl
  have a3 : W.cell? ⟨cb, 3, none⟩ = some (.slice ao m cap) := by rw [World.cell?, g1]; rfl
  have HB := Lib.hid hB
  have HR := Lib.hid hr
  have HRD := Lib.hid (RdCs.below hrd hB)
  have HCB := Lib.hid (show cb < W.heap.size by rw [hW, hcb]; simp)
  have HM := Lib.hid hm
  have IH := Lib.hid ih
  obtain ⟨dv, hdv⟩ : ∃ dv, dv = 3 - (q : Int) := ⟨_, rfl⟩
  rw [← hdv]
  have HDV := Lib.hid (And.intro hdv hq)
  clear g1 hB hr hrd hm ih
  go_enter Tryz.func54, Tryz.ntmps54
  go_upto_region 1 with fail
  rw [← hW, ← hcb]
  clear hW hcb
  by_cases q1 : t = 0
  · have f1 : (t == 0) = true := by simp [q1]
    have g1 : (t != 0) = false := by simp [q1]
    clear q1
    by_cases q2 : n = 0
    · have f2 : (n == 0) = true := by simp [q2]
      have g2 : (n != 0) = false := by simp [q2]
      clear q2
      by_cases q3 : 1 ≤ m ∧ m ≤ 4
      · have f3 : decide ((1 : Int) ≤ (m : Int) ∧ (m : Int) ≤ 4) = true := decide_eq_true (by omega)
        have G3 := Lib.hid (show decide (1 ≤ m ∧ m ≤ 4) = true from decide_eq_true q3)
        have hm4 : m ≤ 4 := q3.2
        clear q3
        by_cases hz : q = 0
        · obtain rfl : dv = 3 := by omega
          have hk0 : kidsOk q l = false := by rw [hz]; rfl
          have HK := Lib.hid hk0
          clear hz hk0
          clear hdv hq
          go_wp2_with (first
            | (go_at_call 71; refine (ref_in _ _ _ _).mono ?_; rintro e w' ⟨rfl, hw⟩; rw [hw]; clear hw w')
            | fail)
          exact bodyPost_ret (v := .bool false) (by simp [results, Tryz.results54, go_sem]) rfl ⟨by rw [HR.out, HK.out]; simp, HB.out⟩
        · obtain ⟨p, hp⟩ : ∃ p, q = p + 1 := ⟨q - 1, by omega⟩
          have hk0 : kidsOk q l = l.all (okC p) := by rw [hp]; rfl
          have HK := Lib.hid hk0
          have HP := Lib.hid hp
          clear hz hk0
          have f4 : decide (3 ≤ dv) = false := decide_eq_false (by omega)
          have f5 : ¬ 3 ≤ dv := by omega
          have hn1 : IntKind.i64.wrap (dv + 1) = 3 - (p : Int) := by rw [IntWalk.i64_in _ (by omega)]; omega
          have HN1 := Lib.hid hn1
          have HD0 := Lib.hid hdv
          clear hdv hq hn1 hp
          go_wp2_with (first
            | (go_at_call 71; refine (ref_in _ _ _ _).mono ?_; rintro e w' ⟨rfl, hw⟩; rw [hw]; clear hw w')
            | fail)
          go_loopw [5] (fun i wr => ∃ j : Nat, j ≤ m ∧ i = .int .i64 j ∧ (l.take j).all (okC p) = true ∧ Below W.heap.size W wr) (fun i _ => m - (intOf i).toNat)
          case atStart => exact ⟨0, by omega, rfl, rfl, Below.refl _ _⟩
          case round =>
            obtain ⟨j, hj, rfl, hall, hb⟩ := hrel
            have HBW := Lib.hid (And.intro hall hb)
            have b3 : wr.cell? ⟨cb, 3, none⟩ = some (.slice ao m cap) := (World.cell?_of_block (a := ⟨cb, 3, none⟩) (hb.block cb HCB.out)).trans a3
            clear a0 a1 a2 a3
            by_cases hlt : j < m
            · have hlt' : (j : Int) < m := by omega
              have hjl : j < l.length := by rw [← HM.out]; exact hlt
              obtain ⟨kb, ko, vs, rfl, hkb, hrg, hrd⟩ := HRD.out j hjl
              have hrg2 : wr.rangeAt kb (ko + j * 4) vs := rangeAt_keep hrg (hb.block kb hkb)
              have hrd2 : RdC wr d (.agg vs.toArray) l[j] := RdC.below hb hrd
              have hat := all_take (p := okC p) hjl
              have hof := all_of_take (p := okC p) hjl
              have hcall := IH.out p HP.out d l[j] _ wr hrd2
              obtain ⟨a4, c4, e4⟩ := hrd2.cells
              obtain ⟨c1, c2, c3, c5, e5⟩ : ∃ c1 c2 c3 c5, vs = [.int .i64 c1, .int .i64 c2, .int .i64 c3, .slice a4 c5 c4] := ⟨_, _, _, _, e4⟩
              clear e4
              subst e5
              have hn1 := HN1.out
              obtain ⟨dq, hdq⟩ : ∃ dq, dq = 3 - (p : Int) := ⟨_, rfl⟩
              rw [← hdq] at hcall hn1
              obtain ⟨b, hbq⟩ : ∃ b, b = okC p l[j] := ⟨_, rfl⟩
              rw [← hbq] at hcall hat hof
              have HCA := Lib.hid hcall
              have HRG := Lib.hid hrg2
              have HA := Lib.hid hat
              have HO := Lib.hid hof
              clear hkb hrg hrd hrg2 hrd2 hat hof hcall hbq hall hb hjl hdq
              cases b
              · go_wp2_with (first
                  | (refine wpl_loadC _ rfl rfl rfl HRG.out rfl ?_)
                  | (go_at_call 54; refine HCA.out.mono ?_; rintro e w1 ⟨rfl, hb⟩; have H1 := Lib.hid (HBW.out.2.trans (hb.mono HBW.out.2.size)); clear hb)
                  | fail)
                exact bodyPost_ret (v := .bool false) (by simp [results, Tryz.results54, go_sem]) rfl ⟨by rw [HR.out, HK.out]; simp [HO.out], HB.out.trans (H1.out.mono HB.out.size)⟩
              · go_wp2_with (first
                  | (refine wpl_loadC _ rfl rfl rfl HRG.out rfl ?_)
                  | (go_at_call 54; refine HCA.out.mono ?_; rintro e w1 ⟨rfl, hb⟩; have H1 := Lib.hid (HBW.out.2.trans (hb.mono HBW.out.2.size)); clear hb)
                  | fail)
                go_roundw
                case rel => exact ⟨j + 1, by omega, by go_num, by rw [HA.out, HBW.out.1]; rfl, H1.out⟩
                case measure => simp [intOf]; omega
            · obtain rfl : j = m := by omega
              have hge : ¬ (j : Int) < j := by omega
              have htk : l.take j = l := List.take_of_length_le (by rw [← HM.out]; exact Nat.le_refl _)
              rw [htk] at hall
              have HA := Lib.hid hall
              clear hlt htk hj hall hb
              go_wp2_with fail
              exact bodyPost_ret (v := .bool true) (by simp [results, Tryz.results54, go_sem]) rfl ⟨by rw [HR.out, HK.out, f1, f2, G3.out, HA.out]; rfl, HB.out.trans (HBW.out.2.mono HB.out.size)⟩
      · have f3 : decide ((1 : Int) ≤ (m : Int) ∧ (m : Int) ≤ 4) = false := decide_eq_false (by omega)
        have G3 := Lib.hid (show decide (1 ≤ m ∧ m ≤ 4) = false from decide_eq_false q3)
        clear q3 hdv hq
        go_wp2_with (first
          | (go_at_call 71; refine (ref_in _ _ _ _).mono ?_; rintro e w' ⟨rfl, hw⟩; rw [hw]; clear hw w')
          | fail)
        exact bodyPost_ret (v := .bool false) (by simp [results, Tryz.results54, go_sem]) rfl ⟨by rw [HR.out, G3.out]; simp, HB.out⟩
    · have f2 : (n == 0) = false := by simp [q2]
      have g2 : (n != 0) = true := by simp [q2]
      clear q2 hdv hq
      go_wp2_with fail
      exact bodyPost_ret (v := .bool false) (by simp [results, Tryz.results54, go_sem]) rfl ⟨by rw [HR.out, f2]; simp, HB.out⟩
  · have f1 : (t == 0) = false := by simp [q1]
    have g1 : (t != 0) = true := by simp [q1]
    clear q1 hdv hq
    go_wp2_with fail
    exact bodyPost_ret (v := .bool false) (by simp [results, Tryz.results54, go_sem]) rfl ⟨by rw [HR.out, f1]; simp, HB.out⟩
theorem okC_5k {q : Nat} {c : Cl} (h : c.k = 5) : okC q c = (c.t == 0 && c.n == 0 && decide (1 ≤ c.kids.length ∧ c.kids.length ≤ 4) && kidsOk q c.kids) := by
  rw [okC_5 h]
  cases q with
  | zero => simp [kidsOk]
  | succ p => simp [headOk, h, kidsOk]
theorem ref_call : ∀ q : Nat, q ≤ 3 → RefC q := by
  intro q
  induction q with
  | zero =>
    intro hq d c v w hrd
    obtain ⟨d', ao, cap, -, rfl, hkids⟩ := hrd.open
    by_cases h5 : c.k = 5
    · rw [okC_5k h5, h5]
      exact ref_call5 c.t c.n 0 hq c.kids d' ao _ cap w rfl hkids (fun p hp => absurd hp (by omega))
    · rw [okC_n5 h5]
      exact ref_call0 c.k c.t c.n _ ao _ cap w h5
  | succ q ih =>
    intro hq d c v w hrd
    obtain ⟨d', ao, cap, -, rfl, hkids⟩ := hrd.open
    by_cases h5 : c.k = 5
    · rw [okC_5k h5, h5]
      exact ref_call5 c.t c.n (q + 1) hq c.kids d' ao _ cap w rfl hkids (fun p hp => by have e : p = q := Nat.succ.inj hp.symm; rw [e]; exact ih (by omega))
    · rw [okC_n5 h5]
      exact ref_call0 c.k c.t c.n _ ao _ cap w h5
set_option maxRecDepth 100000 in
theorem ref_IsCall (d : Nat) (c : Cl) (v : Value) (w : World) (hrd : RdC w d v c) : Calls Tryz.prog 35 #[v] w fun e w' => e = .returned (.bool (okC 3 c)) ∧ Below w.heap.size w w' := by
  obtain ⟨d', ao, cap, -, rfl, -⟩ := hrd.open
  obtain ⟨k, hk⟩ : ∃ k, k = c.k := ⟨_, rfl⟩
  obtain ⟨t, ht⟩ : ∃ t, t = c.t := ⟨_, rfl⟩
  obtain ⟨n, hn⟩ : ∃ n, n = c.n := ⟨_, rfl⟩
  obtain ⟨m, hm⟩ : ∃ m, m = c.kids.length := ⟨_, rfl⟩
  rw [← hk, ← ht, ← hn, ← hm] at hrd ⊢
  obtain ⟨W, hW⟩ : ∃ W, W = w.alloc (.cells #[.int .i64 k, .int .i64 t, .int .i64 n, .slice ao m cap] 45) := ⟨_, rfl⟩
  have hB : Below w.heap.size w W := by rw [hW]; exact (Below.refl _ w).alloc (Nat.le_refl _) _
  have hrg : W.rangeAt w.heap.size 0 [.int .i64 k, .int .i64 t, .int .i64 n, .slice ao m cap] := by rw [hW]; exact rangeAt_new _
  have hcall := ref_call 3 (by omega) d c _ W (RdC.below hB hrd)
  rw [show (3 : Int) - ((3 : Nat) : Int) = 0 from rfl] at hcall
  have HW := Lib.hid hW
  have HC := Lib.hid hcall
  have HB := Lib.hid hB
  have HRG := Lib.hid hrg
  clear hk ht hn hm hW hB hrg hcall hrd
  go_enter Tryz.func35, Tryz.ntmps35
  go_upto_region 1 with fail
  rw [← HW.out]
  go_wp2_with (first
    | (refine wpl_loadC _ rfl rfl rfl HRG.out rfl ?_)
    | (go_at_call 54; refine HC.out.mono ?_; rintro e w1 ⟨rfl, hb⟩; have H1 := Lib.hid (HB.out.trans (hb.mono HB.out.size)); clear hb)
    | fail)
  exact bodyPost_ret (v := .bool (okC 3 c)) (by simp [results, Tryz.results35, go_sem]) rfl ⟨rfl, H1.out⟩
end Go.Proofs.YtcfcfijmfgnpfaaGreatDoor
end

section
namespace Go.Proofs.YtcfcfijmfgnpfaaGreatDoor
open Go.RowKit
set_option linter.unusedVariables false
set_option linter.unusedSimpArgs false

theorem okC_mono : ∀ (q : Nat) (c : Cl), okC q c = true → okC (q + 1) c = true := by
  intro q
  induction q with
  | zero => intro c h; unfold okC at h ⊢; rw [h]; rfl
  | succ q ih =>
    intro c h
    unfold okC at h ⊢
    rw [Bool.or_eq_true] at h ⊢
    rcases h with h | h
    · exact .inl h
    · rw [Bool.and_eq_true] at h ⊢
      refine .inr ⟨h.1, ?_⟩
      rw [List.all_eq_true] at h ⊢
      exact fun x hx => ih x (h.2 x hx)
theorem okC_batch {l : List Cl} {m : Nat} (hm : m = l.length) (h : 1 ≤ m ∧ m ≤ 4) : okC 3 (.mk 5 0 0 l) = l.all (okC 2) := by
  rw [okC_5k rfl]
  show ((0 : Int) == 0 && (0 : Int) == 0 && decide (1 ≤ l.length ∧ l.length ≤ 4) && l.all (okC 2)) = _
  rw [← hm, decide_eq_true h]; simp
theorem okC_batch_no {l : List Cl} {m j : Nat} (hm : m = l.length) (h : 1 ≤ m ∧ m ≤ 4) (hj : j < l.length) (hk : okC 3 l[j] = false) : okC 3 (.mk 5 0 0 l) = false := by
  rw [okC_batch hm h]
  refine all_of_take hj ?_
  cases e : okC 2 l[j] with
  | false => rfl
  | true => rw [okC_mono 2 _ e] at hk; cases hk
theorem enc_bad {d : Nat} {c : Cl} {v : Value} {w : World} (hrd : RdC w d v c) (h : okC 3 c = false) : Calls Tryz.prog 43 #[v] w fun e w' => ∃ u, e = .returned (.tuple #[u, .int .i64 1]) ∧ Below w.heap.size w w' := by
  refine (code_EncodeCall d c v w hrd).mono ?_
  rw [h]
  rintro e w' ⟨u, he, -, hb⟩
  exact ⟨u, he, hb⟩
theorem enc_good {d : Nat} {c : Cl} {v : Value} {w : World} (hrd : RdC w d v c) (h : okC 3 c = true) : Calls Tryz.prog 43 #[v] w fun e w' => ∃ u, e = .returned (.tuple #[u, .int .i64 0]) ∧ OwnB w.heap.size u (Bs (layT c)) w' ∧ Below w.heap.size w w' := by
  refine (code_EncodeCall d c v w hrd).mono ?_
  rw [h]
  exact fun e w' h => h
theorem numsL_lt (l : List Int) : ∀ c ∈ numsL l, c < 256 := by
  induction l with
  | nil => simp [numsL]
  | cons n l ih =>
    intro c hc
    rw [numsL, List.mem_append] at hc
    exact hc.elim (numL_lt _ c) (ih c)
mutual
theorem layT_lt : ∀ (c : Cl), ∀ b ∈ layT c, b < 256
  | .mk k t n l => by
    intro b hb
    rw [layT, List.mem_append] at hb
    exact hb.elim (numsL_lt _ b) (laysT_lt l b)
theorem laysT_lt : ∀ (l : List Cl), ∀ b ∈ laysT l, b < 256
  | [] => by intro b hb; simp [laysT] at hb
  | c :: l => by
    intro b hb
    rw [laysT, List.mem_append] at hb
    exact hb.elim (rowL_lt _ (layT_lt c) b) (laysT_lt l b)
end
theorem laysT_bound : ∀ (l : List Cl), l.all (okC 3) = true → (laysT l).length ≤ l.length * 3825 := by
  intro l hl
  induction l with
  | nil => simp [laysT]
  | cons x l ihl =>
    rw [List.all_cons, Bool.and_eq_true] at hl
    rw [laysT, List.length_append, List.length_cons, Nat.add_mul]
    have h3 := rowL_length (layT x)
    have h5 := okC3_len hl.1
    have h6 := ihl hl.2
    omega
theorem ownB_later {B : Nat} {v : Value} {l : List Value} {w w' : World} (h : OwnB B v l w) (hb : Below w.heap.size w w') : OwnB B v l w' := OwnB.ofC h (Nat.le_refl _) (fun k hk => hb.block k (World.ownsRow.lt h k hk).2)
end Go.Proofs.YtcfcfijmfgnpfaaGreatDoor
end

section
namespace Go.Proofs.YtcfcfijmfgnpfaaGreatDoor
open Go.RowKit
set_option linter.unusedVariables false
set_option linter.unusedSimpArgs false

theorem rowL_takeR {p : List Nat} (hp : p.length ≤ 4611686018427387904) (t : List Nat) : takeL (rowL p ++ t) = some (p.length, sizeN p.length) := by
  unfold rowL; rw [List.append_assoc, takeL_num hp]
theorem cutL_rowR {p : List Nat} (hp : p.length ≤ 4611686018427387904) (t : List Nat) : cutL (rowL p ++ t) = some (p, (rowL p).length) := by
  unfold cutL
  rw [rowL_takeR hp]
  have hl := numL_size p.length
  have hle : ¬ (p.length > (rowL p ++ t).length - sizeN p.length) := by simp only [rowL, List.length_append]; omega
  simp only [if_neg hle, Option.some.injEq, Prod.mk.injEq]
  refine ⟨?_, by simp only [rowL, List.length_append]; omega⟩
  unfold rowL
  rw [List.append_assoc, ← hl, List.drop_left, List.take_left]
/-- A number off the bytes, and what is left. -/
def rdN (l : List Nat) : Nat × List Nat := match takeL l with
  | some (n, s) => (n, l.drop s)
  | none => (0, l)
/-- A row off the bytes, and what is left. -/
def rdR (l : List Nat) : List Nat × List Nat := match cutL l with
  | some (p, s) => (p, l.drop s)
  | none => ([], l)
theorem rdN_num {n : Nat} (hn : n ≤ 4611686018427387904) (t : List Nat) : rdN (numL n ++ t) = (n, t) := by
  unfold rdN
  rw [takeL_num hn]
  simp only
  rw [← numL_size, List.drop_left]
theorem rdR_row {p : List Nat} (hp : p.length ≤ 4611686018427387904) (t : List Nat) : rdR (rowL p ++ t) = (p, t) := by
  unfold rdR
  rw [cutL_rowR hp]
  simp only
  rw [List.drop_left]
theorem rdN_rest (l : List Nat) : ∃ s, (rdN l).2 = l.drop s := by
  unfold rdN
  cases takeL l with
  | none => exact ⟨0, by simp⟩
  | some x => exact ⟨x.2, rfl⟩
theorem cutL_some {l p : List Nat} {s : Nat} (h : cutL l = some (p, s)) : ∃ q n, p = (l.drop q).take n ∧ s ≤ l.length ∧ 1 ≤ s := by
  unfold cutL at h
  cases ht : takeL l with
  | none => rw [ht] at h; simp at h
  | some x =>
    obtain ⟨n, q⟩ := x
    rw [ht] at h
    have hq := takeL_le ht
    simp only at h
    split at h
    · simp at h
    · simp only [Option.some.injEq, Prod.mk.injEq] at h
      obtain ⟨rfl, rfl⟩ := h
      exact ⟨q, n, rfl, by omega, by omega⟩
theorem rdR_rest (l : List Nat) : (∃ s, (rdR l).2 = l.drop s) ∧ ∃ q n, (rdR l).1 = (l.drop q).take n := by
  unfold rdR
  cases h : cutL l with
  | none => exact ⟨⟨0, by simp⟩, 0, 0, by simp⟩
  | some x =>
    obtain ⟨p, s⟩ := x
    obtain ⟨q, n, h1, -, -⟩ := cutL_some h
    exact ⟨⟨s, rfl⟩, q, n, h1⟩
/-- Bytes: each is below 256, and there are not too many. -/
def ByL (l : List Nat) : Prop := (∀ c ∈ l, c < 256) ∧ l.length ≤ 1000000000
theorem ByL.drop {l : List Nat} (h : ByL l) (s : Nat) : ByL (l.drop s) := ⟨fun c hc => h.1 c (List.mem_of_mem_drop hc), by have := h.2; rw [List.length_drop]; omega⟩
theorem ByL.take {l : List Nat} (h : ByL l) (s : Nat) : ByL (l.take s) := ⟨fun c hc => h.1 c (List.mem_of_mem_take hc), by have := h.2; rw [List.length_take]; omega⟩
theorem ByL.rdN {l : List Nat} (h : ByL l) : ByL (rdN l).2 := by obtain ⟨s, e⟩ := rdN_rest l; rw [e]; exact h.drop s
theorem ByL.rdR {l : List Nat} (h : ByL l) : ByL (rdR l).2 := by obtain ⟨⟨s, e⟩, -⟩ := rdR_rest l; rw [e]; exact h.drop s
theorem ByL.row {l : List Nat} (h : ByL l) : ByL (Proofs.YtcfcfijmfgnpfaaGreatDoor.rdR l).1 := by obtain ⟨-, q, n, e⟩ := rdR_rest l; rw [e]; exact (h.drop q).take n
theorem ByL.nil : ByL [] := ⟨fun c hc => by simp at hc, by simp⟩
def readKs (f : List Nat → Cl) : Nat → List Nat → List Cl
  | 0, _ => []
  | m + 1, l => f (rdR l).1 :: readKs f m (rdR l).2
def restKs : Nat → List Nat → List Nat
  | 0, l => l
  | m + 1, l => restKs m (rdR l).2
theorem readKs_snoc (f : List Nat → Cl) : ∀ (m : Nat) (l : List Nat), readKs f (m + 1) l = readKs f m l ++ [f (rdR (restKs m l)).1]
  | 0, l => rfl
  | m + 1, l => by
    rw [readKs, readKs_snoc f m, readKs, restKs]; rfl
theorem restKs_snoc : ∀ (m : Nat) (l : List Nat), restKs (m + 1) l = (rdR (restKs m l)).2
  | 0, l => rfl
  | m + 1, l => by rw [restKs, restKs_snoc m, restKs]
theorem readKs_len (f : List Nat → Cl) : ∀ (m : Nat) (l : List Nat), (readKs f m l).length = m
  | 0, l => rfl
  | m + 1, l => by rw [readKs, List.length_cons, readKs_len f m]
theorem ByL.restKs {l : List Nat} (h : ByL l) : ∀ m, ByL (Proofs.YtcfcfijmfgnpfaaGreatDoor.restKs m l)
  | 0 => h
  | m + 1 => by rw [restKs_snoc]; exact (ByL.restKs h m).rdR
/-- The four numbers of a call's head, and what is left. -/
def rd4 (l : List Nat) : List Nat := (rdN (rdN (rdN (rdN l).2).2).2).2
def readC : Nat → List Nat → Cl
  | 0, l => .mk (rdN l).1 (rdN (rdN l).2).1 (rdN (rdN (rdN l).2).2).1 []
  | d + 1, l => .mk (rdN l).1 (rdN (rdN l).2).1 (rdN (rdN (rdN l).2).2).1 (readKs (readC d) (min (rdN (rdN (rdN (rdN l).2).2).2).1 4) (rd4 l))
theorem readKs_laysT (q : Nat) (f : List Nat → Cl) : ∀ (l : List Cl) (t : List Nat), (∀ c ∈ l, f (layT c) = c ∧ (layT c).length ≤ 4611686018427387904) → readKs f l.length (laysT l ++ t) = l
  | [], t, _ => rfl
  | c :: l, t, h => by
    rw [List.length_cons, readKs, laysT, List.append_assoc, rdR_row (h c (by simp)).2]
    rw [(h c (by simp)).1, readKs_laysT q f l t (fun x hx => h x (List.mem_cons_of_mem _ hx))]
theorem held_id {n : Int} (h0 : 0 ≤ n) (h1 : n ≤ 1073741824) : heldN n = n.toNat ∧ (n.toNat : Int) = n := by unfold heldN; omega
theorem okC_small : ∀ {q : Nat} {c : Cl}, okC q c = true → (0 ≤ c.k ∧ c.k ≤ 5) ∧ (0 ≤ c.t ∧ c.t ≤ 9) ∧ (0 ≤ c.n ∧ c.n ≤ 1073741824) ∧ c.kids.length ≤ 4 ∧ ((q = 0 ∨ c.k ≠ 5) → c.kids = []) ∧ ∀ q', q = q' + 1 → c.kids.all (okC q') = true := by
  intro q c h
  have leaf : leafOk c.k c.t c.n c.kids.length → (0 ≤ c.k ∧ c.k ≤ 5) ∧ (0 ≤ c.t ∧ c.t ≤ 9) ∧ (0 ≤ c.n ∧ c.n ≤ 1073741824) ∧ c.kids.length = 0 := by
    unfold leafOk; omega
  cases q with
  | zero =>
    simp only [okC, decide_eq_true_eq] at h
    obtain ⟨h1, h2, h3, h4⟩ := leaf h
    exact ⟨h1, h2, h3, by omega, fun _ => List.length_eq_zero_iff.1 h4, fun q' e => by omega⟩
  | succ q =>
    simp only [okC, Bool.or_eq_true, decide_eq_true_eq, Bool.and_eq_true] at h
    rcases h with h | ⟨h, h'⟩
    · obtain ⟨h1, h2, h3, h4⟩ := leaf h
      have e := List.length_eq_zero_iff.1 h4
      exact ⟨h1, h2, h3, by omega, fun _ => e, fun q' _ => by rw [e]; rfl⟩
    · simp only [headOk, decide_eq_true_eq, Bool.and_eq_true, beq_iff_eq] at h
      refine ⟨by omega, by omega, by omega, by omega, fun e => by omega, fun q' e => ?_⟩
      obtain rfl : q = q' := by omega
      exact h'
theorem layT_bound {q : Nat} {c : Cl} (hq : q ≤ 3) (h : okC q c = true) : (layT c).length ≤ 100000 := by
  have h3 : okC 3 c = true := by
    have : q = 0 ∨ q = 1 ∨ q = 2 ∨ q = 3 := by omega
    rcases this with rfl | rfl | rfl | rfl
    · exact okC_mono _ _ (okC_mono _ _ (okC_mono _ _ h))
    · exact okC_mono _ _ (okC_mono _ _ h)
    · exact okC_mono _ _ h
    · exact h
  exact Nat.le_trans (okC3_len h3) (by omega)
theorem readC_layT : ∀ (q : Nat) (c : Cl), q ≤ 3 → okC q c = true → readC q (layT c) = c := by
  intro q
  induction q with
  | zero =>
    intro c hq h
    obtain ⟨hk, ht, hn, hl, h0, -⟩ := okC_small h
    have e0 := h0 (Or.inl rfl)
    obtain ⟨k1, k2⟩ := held_id hk.1 (by omega)
    obtain ⟨t1, t2⟩ := held_id ht.1 (by omega)
    obtain ⟨n1, n2⟩ := held_id hn.1 (by omega)
    rw [layT_eq, numsL, numsL, numsL, List.append_assoc, List.append_assoc, List.append_assoc, readC, k1, t1, n1]
    rw [rdN_num (by omega), rdN_num (by omega), rdN_num (by omega), k2, t2, n2]
    obtain ⟨k, t, n, l⟩ := c
    simp only [Cl.kids] at e0
    subst e0
    rfl
  | succ q ih =>
    intro c hq h
    obtain ⟨hk, ht, hn, hl, -, hkids⟩ := okC_small h
    have hall := hkids q rfl
    rw [List.all_eq_true] at hall
    obtain ⟨k1, k2⟩ := held_id hk.1 (by omega)
    obtain ⟨t1, t2⟩ := held_id ht.1 (by omega)
    obtain ⟨n1, n2⟩ := held_id hn.1 (by omega)
    obtain ⟨l1, l2⟩ := held_id (n := (c.kids.length : Int)) (by omega) (by omega)
    rw [layT_eq, numsL, numsL, numsL, numsL, List.append_assoc, List.append_assoc, List.append_assoc, List.append_assoc, readC, rd4, k1, t1, n1, l1]
    rw [rdN_num (by omega), rdN_num (by omega), rdN_num (by omega), rdN_num (by omega), k2, t2, n2]
    have hm : min ((c.kids.length : Int).toNat) 4 = c.kids.length := by omega
    simp only [numsL, List.nil_append]
    rw [hm]
    have e := readKs_laysT q (readC q) c.kids [] (fun x hx => ⟨ih x (by omega) (hall x hx), by have := layT_bound (by omega) (hall x hx); omega⟩)
    rw [List.append_nil] at e
    rw [e]
    obtain ⟨k, t, n, l⟩ := c
    rfl
end Go.Proofs.YtcfcfijmfgnpfaaGreatDoor
end

section
namespace Go.Proofs.YtcfcfijmfgnpfaaGreatDoor
open Go.RowKit
set_option linter.unusedVariables false
set_option linter.unusedSimpArgs false

/-- A reader at block b, with this left. -/
def RBx (w : World) (b : Nat) (v : Value) : Prop := w.heap[b]? = some (.cells #[v] 154 (0, 0))
theorem RBx.cell {w : World} {b : Nat} {v : Value} (h : RBx w b v) : w.cell? ⟨b, 0, none⟩ = some v := by simp [World.cell?, show w.heap[b]? = _ from h]
theorem RBx.frozen {w : World} {b : Nat} {v : Value} (h : RBx w b v) (i : Nat) : w.frozen? ⟨b, i, none⟩ = false := by simp [World.frozen?, show w.heap[b]? = _ from h]
theorem RBx.lt {w : World} {b : Nat} {v : Value} (h : RBx w b v) : b < w.heap.size := (Array.getElem?_eq_some_iff.1 h).1
theorem RBx.set {w : World} {b : Nat} {v : Value} (v' : Value) (h : RBx w b v) : RBx (w.setCell ⟨b, 0, none⟩ v') b v' := by
  obtain ⟨hlt, hk⟩ := Array.getElem?_eq_some_iff.1 h
  show (w.heap.modify b _)[b]? = _
  rw [Array.getElem?_eq_getElem (by rw [Array.size_modify]; exact hlt), Array.getElem_modify_self, hk]
  rfl
theorem RdB.tail {w : World} {v : Value} {l : List Nat} (h : RdB w v l) {s : Nat} (hs : s ≤ l.length) : ∃ ao cap, v = .slice ao l.length cap ∧ l.length ≤ cap ∧ ((s = cap ∧ l.drop s = []) ∨ (s ≠ cap ∧ ∃ a, ao = some a ∧ RdB w (.slice (some (a.add s)) (l.drop s).length (cap - s)) (l.drop s))) := by
  rcases h with ⟨rfl, rfl⟩ | ⟨⟨blk, off, spot⟩, cap, rfl, hcap, hcell⟩
  · exact ⟨none, 0, rfl, by simp, Or.inl ⟨by simp at hs; exact hs, by simp⟩⟩
  · refine ⟨some _, cap, rfl, hcap, ?_⟩
    by_cases hc : s = cap
    · exact Or.inl ⟨hc, List.drop_of_length_le (by omega)⟩
    · refine Or.inr ⟨hc, _, rfl, Or.inr ⟨_, _, rfl, by rw [List.length_drop]; omega, fun i hi => ?_⟩⟩
      rw [List.length_drop] at hi
      have h1 := hcell (s + i) (by omega)
      have e : ((⟨blk, off, spot⟩ : Addr).add s).add i = (⟨blk, off, spot⟩ : Addr).add (s + i) := by
        by_cases z1 : s = 0
        · subst z1; simp [Addr.add]
        · by_cases z2 : i = 0
          · subst z2; simp [Addr.add]
          · simp only [Addr.add, Nat.add_assoc, if_neg z1, if_neg z2, if_neg (show ¬ s + i = 0 by omega)]
      rw [e, h1]
      simp [List.getElem?_drop]
/-- How many bytes a number takes. -/
def takeS (l : List Nat) : Nat := match takeL l with
  | some (_, s) => s
  | none => 0
theorem takeS_le (l : List Nat) : takeS l ≤ l.length := by
  unfold takeS
  cases h : takeL l with
  | none => exact Nat.zero_le _
  | some x => exact (takeL_le h).1
theorem take_all (l : List Nat) : ∃ q, takeV (takeL l) = .returned (.tuple #[.int .i64 ((rdN l).1 : Nat), .int .i64 (takeS l : Nat), .bool q]) ∧ (rdN l).2 = l.drop (takeS l) := by
  unfold rdN takeS
  cases h : takeL l with
  | none => exact ⟨false, rfl, by simp⟩
  | some x => exact ⟨true, rfl, rfl⟩
theorem grown_setR (w : World) (b i : Nat) (v : Value) : w.grownBy (w.setCell ⟨b, i, none⟩ v) (some b) :=
  ⟨rfl, rfl, rfl, by simp [World.setCell], fun k _ hk => heap_setCell_other _ _ _ _ (by show k ≠ b; exact fun e => hk (by rw [e]))⟩
theorem rd_none {w : World} {ao : Option Addr} {m c : Nat} (hm : m = 0) (hc : ao = none → c = 0) : RdB w (.slice ao m c) [] := by
  subst hm
  cases ao with
  | none => exact .inl ⟨by rw [hc rfl], rfl⟩
  | some a => exact .inr ⟨a, c, rfl, Nat.zero_le _, fun i hi => by simp at hi⟩
set_option maxHeartbeats 4000000 in
theorem code_number (rb : Nat) (v : Value) (l : List Nat) (w0 w : World) (h0 : Below w0.heap.size w0 w) (hr : RdB w0 v l) (hbx : RBx w rb v) (hb : ByL l) :
    Calls Tryz.prog 90 #[.pointer (some ⟨rb, 0, none⟩)] w fun e w' => e = .returned (.int .i64 ((rdN l).1 : Nat)) ∧ w.grownBy w' (some rb) ∧ ∃ v', RBx w' rb v' ∧ RdB w0 v' (rdN l).2 := by
  obtain ⟨s, hs⟩ : ∃ s, s = takeS l := ⟨_, rfl⟩
  have hsl : s ≤ l.length := by rw [hs]; exact takeS_le l
  obtain ⟨q, hq, hd⟩ := take_all l
  obtain ⟨n, hn⟩ : ∃ n, n = (rdN l).1 := ⟨_, rfl⟩
  rw [← hs] at hd
  rw [← hs, ← hn] at hq
  rw [hd, ← hn]
  obtain ⟨ao, cap, hv, hcap, ht⟩ := hr.tail hsl
  have hT := compact_Take v l w (hr.below h0) hb.1
  rw [hq] at hT
  obtain ⟨m, hm⟩ : ∃ m, m = l.length := ⟨_, rfl⟩
  rw [← hm] at hsl hcap hv
  subst hv
  have HT := Lib.hid hT
  have HX := Lib.hid hbx
  have c0 := hbx.cell
  have f0 := hbx.frozen 0
  have k1 : (0 : Int) ≤ (s : Int) := by omega
  have k2 : (s : Int) ≤ (m : Int) := by omega
  have k3 : (m : Int) ≤ (cap : Int) := by omega
  have k4 : (s : Int) ≤ (cap : Int) := by omega
  have hdl : (l.drop s).length = m - s := by rw [List.length_drop, hm]
  rw [hdl] at ht
  have HDL := Lib.hid hdl
  clear hs hq hd hn hT hbx hdl hm h0 hb hr hcap hsl
  rcases ht with ⟨hsc, hnil⟩ | ⟨hsc, a, rfl, htl⟩
  · have HN := Lib.hid hnil
    have hsc' : (cap = s) = True := by simp [hsc]
    have HSC := Lib.hid hsc
    have hms : m - s = 0 := by omega
    clear hnil hsc
    go_enter Tryz.func90, Tryz.ntmps90
    go_wp2_with (first
      | (go_at_call 110; refine HT.out.mono ?_; rintro e w1 ⟨rfl, hw⟩; rw [← hw]; clear hw w1)
      | fail)
    go_ret
    refine ⟨rfl, grown_setR _ _ _ _, _, HX.out.set _, ?_⟩
    rw [HN.out]
    exact rd_none (by omega) (by have := HSC.out; omega)
  · have HN := Lib.hid htl
    have hsc' : (cap = s) = False := by simp; omega
    clear htl hsc
    go_enter Tryz.func90, Tryz.ntmps90
    go_wp2_with (first
      | (go_at_call 110; refine HT.out.mono ?_; rintro e w1 ⟨rfl, hw⟩; rw [← hw]; clear hw w1)
      | fail)
    go_ret
    exact ⟨rfl, grown_setR _ _ _ _, _, HX.out.set _, HN.out⟩
/-- How many bytes a row takes. -/
def cutS (l : List Nat) : Nat := match cutL l with
  | some (_, s) => s
  | none => 0
theorem cutS_le (l : List Nat) : cutS l ≤ l.length := by
  unfold cutS
  cases h : cutL l with
  | none => exact Nat.zero_le _
  | some x =>
    obtain ⟨p, s⟩ := x
    obtain ⟨q, n, -, h1, -⟩ := cutL_some h
    exact h1
theorem cut_all {l : List Nat} {w : World} {e : Ending} {w' : World} (h : CutOwn (cutL l) w e w') : ∃ u q, e = .returned (.tuple #[u, .int .i64 (cutS l : Nat), .bool q]) ∧ OwnB w.heap.size u (Bs (rdR l).1) w' ∧ Below w.heap.size w w' := by
  obtain ⟨h1, h2, h3⟩ := h
  unfold rdR cutS
  cases hc : cutL l with
  | none => rw [hc] at h3; exact ⟨_, _, h3, World.ownsRow_nil w' _ _ 1, h1⟩
  | some x => rw [hc] at h3; obtain ⟨v, h4, h5⟩ := h3; exact ⟨v, true, h4, h5, h1⟩
theorem cut_rest (l : List Nat) : (rdR l).2 = l.drop (cutS l) := by
  unfold rdR cutS
  cases h : cutL l with
  | none => simp
  | some x => rfl
theorem below_setM {w w1 : World} {b i : Nat} {v : Value} (h : Below w.heap.size w w1) : w.grownBy (w1.setCell ⟨b, i, none⟩ v) (some b) :=
  ⟨h.os, h.tape, h.output, by simp [World.setCell]; exact h.size, fun k hk hne => (heap_setCell_other _ _ _ _ (by show k ≠ b; exact fun e => hne (by rw [e]))).trans (h.block k hk)⟩
set_option maxHeartbeats 4000000 in
theorem code_row (rb : Nat) (v : Value) (l : List Nat) (w0 w : World) (h0 : Below w0.heap.size w0 w) (hr : RdB w0 v l) (hbx : RBx w rb v) (hb : ByL l) :
    Calls Tryz.prog 91 #[.pointer (some ⟨rb, 0, none⟩)] w fun e w' => ∃ u, e = .returned u ∧ OwnB w.heap.size u (Bs (rdR l).1) w' ∧ w.grownBy w' (some rb) ∧ ∃ v', RBx w' rb v' ∧ RdB w0 v' (rdR l).2 := by
  obtain ⟨s, hs⟩ : ∃ s, s = cutS l := ⟨_, rfl⟩
  have hsl : s ≤ l.length := by rw [hs]; exact cutS_le l
  have hd := cut_rest l
  rw [← hs] at hd
  rw [hd]
  obtain ⟨ao, cap, hv, hcap, ht⟩ := hr.tail hsl
  have hT : Calls Tryz.prog 111 #[v] w fun e w' => ∃ u q, e = .returned (.tuple #[u, .int .i64 (s : Nat), .bool q]) ∧ OwnB w.heap.size u (Bs (rdR l).1) w' ∧ Below w.heap.size w w' := by
    rw [hs]
    exact (compact_Cut v l w (hr.below h0) hb.1 hb.2).mono fun e w' h => cut_all h
  obtain ⟨p, hp⟩ : ∃ p, p = (rdR l).1 := ⟨_, rfl⟩
  rw [← hp] at hT ⊢
  obtain ⟨m, hm⟩ : ∃ m, m = l.length := ⟨_, rfl⟩
  rw [← hm] at hsl hcap hv
  subst hv
  have HT := Lib.hid hT
  have HX := Lib.hid hbx
  have hlt := hbx.lt
  have k1 : (0 : Int) ≤ (s : Int) := by omega
  have k2 : (s : Int) ≤ (m : Int) := by omega
  have k3 : (m : Int) ≤ (cap : Int) := by omega
  have k4 : (s : Int) ≤ (cap : Int) := by omega
  have hdl : (l.drop s).length = m - s := by rw [List.length_drop, hm]
  rw [hdl] at ht
  clear hs hd hp hT hbx hdl hm h0 hb hr hcap hsl
  have hc0 := HX.out.cell
  rcases ht with ⟨hsc, hnil⟩ | ⟨hsc, a, rfl, htl⟩
  · have HN := Lib.hid hnil
    have hsc' : (cap = s) = True := by simp [hsc]
    have HSC := Lib.hid hsc
    have hms : m - s = 0 := by omega
    clear hnil hsc
    go_enter Tryz.func91, Tryz.ntmps91
    go_wp2_with (first
      | (go_at_call 111; refine HT.out.mono ?_; rintro e w1 ⟨u, q, rfl, ho, hb⟩; have hx1 : RBx w1 rb _ := (hb.block rb hlt).trans HX.out; have c1 := hx1.cell; have f1 := hx1.frozen 0; have HX1 := Lib.hid hx1; have HB1 := Lib.hid hb; have HO := Lib.hid ho; clear hx1 hb ho)
      | fail)
    go_ret
    refine ⟨_, rfl, OwnB.ofC HO.out (Nat.le_refl _) (fun k hk => heap_setCell_other _ _ _ _ (by show k ≠ rb; have := (World.ownsRow.lt HO.out k hk).1; omega)), below_setM HB1.out, _, HX1.out.set _, ?_⟩
    rw [HN.out]
    exact rd_none (by omega) (by have := HSC.out; omega)
  · have HN := Lib.hid htl
    have hsc' : (cap = s) = False := by simp; omega
    clear htl hsc
    go_enter Tryz.func91, Tryz.ntmps91
    go_wp2_with (first
      | (go_at_call 111; refine HT.out.mono ?_; rintro e w1 ⟨u, q, rfl, ho, hb⟩; have hx1 : RBx w1 rb _ := (hb.block rb hlt).trans HX.out; have c1 := hx1.cell; have f1 := hx1.frozen 0; have HX1 := Lib.hid hx1; have HB1 := Lib.hid hb; have HO := Lib.hid ho; clear hx1 hb ho)
      | fail)
    go_ret
    exact ⟨_, rfl, OwnB.ofC HO.out (Nat.le_refl _) (fun k hk => heap_setCell_other _ _ _ _ (by show k ≠ rb; have := (World.ownsRow.lt HO.out k hk).1; omega)), below_setM HB1.out, _, HX1.out.set _, HN.out⟩
end Go.Proofs.YtcfcfijmfgnpfaaGreatDoor
end

section
namespace Go.Proofs.YtcfcfijmfgnpfaaGreatDoor
open Go.RowKit
attribute [local go_sem] Oper.semAt_some
set_option linter.unusedVariables false
set_option linter.unusedSimpArgs false

/-- So many numbers, each into its place. -/
def fillA : List Nat → List Nat → Array Value → Array Value × List Nat
  | [], l, C => (C, l)
  | p :: ps, l, C => fillA ps (rdN l).2 (C.setIfInBounds p (.int .i64 ((rdN l).1 : Nat)))
theorem fillA_snoc : ∀ (ps : List Nat) (p : Nat) (l : List Nat) (C : Array Value), fillA (ps ++ [p]) l C = ((fillA ps l C).1.setIfInBounds p (.int .i64 ((rdN (fillA ps l C).2).1 : Nat)), (rdN (fillA ps l C).2).2)
  | [], p, l, C => rfl
  | q :: ps, p, l, C => by
    rw [List.cons_append, fillA, fillA_snoc ps p]; rfl
theorem fillA_size : ∀ (ps : List Nat) (l : List Nat) (C : Array Value), (fillA ps l C).1.size = C.size
  | [], l, C => rfl
  | p :: ps, l, C => by rw [fillA, fillA_size ps]; simp
theorem fillA_by {l : List Nat} (h : ByL l) : ∀ (ps : List Nat) (C : Array Value), ByL (fillA ps l C).2
  | [], C => h
  | p :: ps, C => fillA_by h.rdN ps _
def ptrs (pb : Nat) (pos : List Nat) : List Value := pos.map fun p => Value.pointer (some ⟨pb, p, none⟩)
structure FillC (w0 : World) (N0 lb rb pb : Nat) (t : TypeId) (pos l : List Nat) (C : Array Value) (j : Nat) (W : World) (v : Value) : Prop where
  bx : Boxed W lb 182 (.pointer (some ⟨rb, 0, none⟩))
  rd : RBx W rb v
  by_ : RdB w0 v (fillA (pos.take j) l C).2
  at_ : W.heap[pb]? = some (.cells (fillA (pos.take j) l C).1 t (0, 0))
  old : Below w0.heap.size w0 W
  sz : N0 ≤ W.heap.size
def FillI (w0 : World) (N0 lb rb pb : Nat) (t : TypeId) (pos l : List Nat) (C : Array Value) (pre : List Value) (Φ : FP) (W : World) : Prop := (∀ k, ¬ Φ k) ∧ ∃ v, FillC w0 N0 lb rb pb t pos l C pre.length W v
theorem FillC.of {w0 : World} {N0 lb rb pb : Nat} {t : TypeId} {pos l : List Nat} {C : Array Value} {j : Nat} {W W' : World} {v : Value} (h : FillC w0 N0 lb rb pb t pos l C j W v) (h0 : w0.heap.size ≤ N0) (h1 : lb < N0) (h2 : rb < N0) (h3 : pb < N0) (hg : Grow W W') (hk : ∀ k, k < N0 → W'.heap[k]? = W.heap[k]?) : FillC w0 N0 lb rb pb t pos l C j W' v :=
  ⟨(hk lb h1).trans h.bx, (hk rb h2).trans h.rd, h.by_, (hk pb h3).trans h.at_, ⟨hg.os.trans h.old.os, hg.tape.trans h.old.tape, hg.output.trans h.old.output, Nat.le_trans h.old.size hg.size, fun k hk' => (hk k (by omega)).trans (h.old.block k hk')⟩, Nat.le_trans h.sz hg.size⟩
theorem FillI.stab {w0 : World} {N0 lb rb pb : Nat} {t : TypeId} {pos l : List Nat} {C : Array Value} (h0 : w0.heap.size ≤ N0) (h1 : lb < N0) (h2 : rb < N0) (h3 : pb < N0) : Stab N0 (FillI w0 N0 lb rb pb t pos l C) := by
  rintro pre Φ W ⟨hn, v, h⟩
  exact ⟨fun k hk => absurd hk (hn k), h.sz, fun W' hg hk => ⟨hn, v, h.of h0 h1 h2 h3 hg (fun k hk' => hk k (.inl hk'))⟩⟩
theorem enters_valuesR : ∀ args w, (callFunc 121 args).run Tryz.prog w = .ok (.enter 121 args) w := enters_of Tryz.func121 (by kernel_rfl) rfl
set_option maxHeartbeats 4000000 in
set_option maxRecDepth 100000 in
theorem code_fill (rb pb bx b cap : Nat) (t : TypeId) (pos l : List Nat) (C : Array Value) (v : Value) (w0 w : World) (h0 : Below w0.heap.size w0 w) (hr : RdB w0 v l) (hrd : RBx w rb v) (hb : ByL l) (hat : w.heap[pb]? = some (.cells C t (0, 0)))
    (hrp : rb ≠ pb) (hw0 : w0.heap.size ≤ rb ∧ w0.heap.size ≤ pb) (hpos : ∀ p ∈ pos, p < C.size)
    (hbx : w.cell? ⟨bx, 0, none⟩ = some (.slice (some ⟨b, 0, none⟩) (ptrs pb pos).length cap)) (hb1 : bx < w.heap.size ∧ bx ≠ rb ∧ bx ≠ pb) (hb2 : b < w.heap.size ∧ b ≠ rb ∧ b ≠ pb) (hrv : RowV w b (ptrs pb pos)) (hl : (ptrs pb pos).length ≤ 900) :
    Calls Tryz.prog 89 #[.pointer (some ⟨rb, 0, none⟩), .func (.func 121) #[] #[.pointer (some ⟨bx, 0, none⟩)]] w fun e w' => (∃ u, e = .returned u) ∧
      (Grow w w' ∧ ∀ k, k < w.heap.size → k ≠ rb → k ≠ pb → w'.heap[k]? = w.heap[k]?) ∧ ∃ v', RBx w' rb v' ∧ RdB w0 v' (fillA pos l C).2 ∧ w'.heap[pb]? = some (.cells (fillA pos l C).1 t (0, 0)) := by
  refine (callsIn_wide (n := 3)).1 ?_
  refine callsIn_of_wp_marks Tryz.func89 rfl trivial ?_ rfl
  simp only [Tryz.ntmps89, List.size_toArray, List.length_cons, List.length_nil, Nat.reduceAdd, Nat.reduceSub, Array.replicate_succ, Array.replicate_zero, List.push_toArray, List.append_toArray, List.nil_append, List.cons_append]
  have mixed : Tryz.prog.follows .mixedOrders = true := by kernel_rfl
  gi_wp2_with fail
  obtain ⟨w1, hw1⟩ : ∃ w1, w1 = w.alloc (.cells #[.pointer (some ⟨rb, 0, none⟩)] 182) := ⟨_, rfl⟩
  rw [← hw1]
  obtain ⟨lb, hlb⟩ : ∃ lb, lb = w.heap.size := ⟨_, rfl⟩
  have hB : Below w.heap.size w w1 := by rw [hw1]; exact (Below.refl _ w).alloc (Nat.le_refl _) _
  have hsz : w1.heap.size = lb + 1 := by rw [hw1, hlb]; simp
  have x0 : Boxed w1 lb 182 (.pointer (some ⟨rb, 0, none⟩)) := by rw [hw1, hlb]; exact Boxed.new w _ _
  have hrl := hrd.lt
  have hpl : pb < w.heap.size := (Array.getElem?_eq_some_iff.1 hat).1
  have hit := values_iter 1 bx b cap (ptrs pb pos) w hbx hrv hl (fun k => k = bx ∨ k = b) (Or.inl rfl) (Or.inr rfl)
  have i0 : FillI w0 w1.heap.size lb rb pb t pos l C [] (fun _ => False) w1 := ⟨fun _ h => h, v, x0, (hB.block rb hrl).trans hrd, hr, (hB.block pb hpl).trans hat, h0.trans (hB.mono h0.size), Nat.le_refl _⟩
  have HB1 := Lib.hid hB
  have l1 : lb < w1.heap.size := by omega
  have l2 : rb < w1.heap.size := by omega
  have l3 : pb < w1.heap.size := by omega
  have l4 : w0.heap.size ≤ w1.heap.size := by have := h0.size; have := hB.size; omega
  rw [← hlb]
  have HLB := Lib.hid hlb
  have HI0 := Lib.hid i0
  have HBY := Lib.hid hb
  have HPO := Lib.hid hpos
  have HN := Lib.hid (show lb ≠ rb ∧ lb ≠ pb by omega)
  clear hw1 hbx hrv hB hlb hr hrd hat hb i0 hpos h0 x0
  refine range_outer (n := 1) (gf := 121) (lb := #[.pointer (some ⟨bx, 0, none⟩)]) rfl enters_valuesR hit (Grow.of_below HB1.out) (fun k hk => ⟨by rcases hk with rfl | rfl <;> omega, HB1.out.block k (by rcases hk with rfl | rfl <;> omega)⟩) (fun _ => rfl)
    (fun k => k = rb ∨ k = pb) (by rintro k (rfl | rfl) <;> exact ⟨by omega, fun h => by omega⟩) (FillI w0 w1.heap.size lb rb pb t pos l C) (fun _ _ _ _ => False) (FillI.stab l4 l1 l2 l3) (fun c _ _ _ h => h.elim)
    HI0.out
    (fun x => { tmps := #[.pointer (some ⟨rb, 0, none⟩), .func (.func 121) #[] #[.pointer (some ⟨bx, 0, none⟩)], (.pointer (some ⟨lb, 0, none⟩)), undef, x, .func (.func 121) #[] #[.pointer (some ⟨bx, 0, none⟩)], x, undef, undef, undef, undef], defers := [] }) ?assign ?body ?done ?stop
  case assign =>
    intro l x W K hK
    gi_wp2
    exact hK
  case body =>
    rintro lp pre x Φ W hpx ⟨hn, v1, hI⟩ hl1 hΦ -
    have hlen := hpx.length_le
    have hx : (ptrs pb pos)[pre.length]? = some x := by
      have h1 := hpx.getElem (i := pre.length) (by simp)
      simp at h1
      rw [h1]; exact List.getElem?_eq_getElem _
    rw [List.length_append, List.length_singleton] at hlen
    obtain ⟨j, hj⟩ : ∃ j, j = pre.length := ⟨_, rfl⟩
    rw [← hj] at hI hx hlen
    have hjp : j < pos.length := by rw [ptrs, List.length_map] at hlen; omega
    obtain ⟨p, hp⟩ : ∃ p, p = pos[j] := ⟨_, rfl⟩
    have hxp : x = .pointer (some ⟨pb, p, none⟩) := by
      rw [ptrs, List.getElem?_map, List.getElem?_eq_getElem hjp] at hx
      simpa [hp] using hx.symm
    subst hxp
    have hpC : p < C.size := HPO.out p (by rw [hp]; exact List.getElem_mem _)
    have htk : pos.take (j + 1) = pos.take j ++ [p] := by rw [List.take_succ_eq_append_getElem hjp, ← hp]
    have hF := fillA_snoc (pos.take j) p l C
    rw [← htk] at hF
    have hbl := fillA_by HBY.out (pos.take j) C
    have hsc := fillA_size (pos.take j) l C
    obtain ⟨hbx, hrd, hby, hat, hold, hsz1⟩ := hI
    obtain ⟨L, hL⟩ : ∃ L, L = (fillA (pos.take j) l C).2 := ⟨_, rfl⟩
    obtain ⟨CC, hCC⟩ : ∃ CC, CC = (fillA (pos.take j) l C).1 := ⟨_, rfl⟩
    rw [← hL, ← hCC] at hF
    rw [← hL] at hby hbl
    rw [← hCC] at hat hsc
    have hpc : p < CC.size := by omega
    obtain ⟨u, hu⟩ : ∃ u, CC[p]? = some u := ⟨_, Array.getElem?_eq_getElem hpc⟩
    have hnum := code_number rb v1 L w0 W hold hby hrd hbl
    have c0 := hbx.cell
    have HNU := Lib.hid hnum
    have HJ := Lib.hid hj
    clear hj
    have HU := Lib.hid hu
    have HF := Lib.hid hF
    have HAT := Lib.hid hat
    have HBX := Lib.hid hbx
    have HOLD := Lib.hid hold
    have HSZ1 := Lib.hid hsz1
    have HNN := Lib.hid hn
    have HPHI := Lib.hid hΦ
    clear hx hp htk hF hbl hsc hbx hrd hby hat hold hsz1 hL hCC hnum hu hn hΦ hpx
    gi_wp2_with (first
      | (refine ⟨trivial, ?_⟩; gi_at_call 90; refine (CallsIn.inRound lp (callsIn_wide.2 HNU.out)).mono ?_; rintro e W2 ⟨rfl, hg, v2, hr2, hb2'⟩; have hat2 := (hg.block pb (Array.getElem?_eq_some_iff.1 HAT.out).1 (by simp; omega)).trans HAT.out; have cp : W2.cell? ⟨pb, p, none⟩ = some u := by { rw [World.cell?, hat2]; exact HU.out }; have fp : W2.frozen? ⟨pb, p, none⟩ = false := frozen_of_row _ _ _ _ _ hat2; have HG := Lib.hid hg; have HR2 := Lib.hid (And.intro hr2 hb2'); have HAT2 := Lib.hid hat2; clear hg hr2 hb2' hat2)
      | fail)
    obtain ⟨W3, hW3⟩ : ∃ W3, W3 = W2.setCell ⟨pb, p, none⟩ (.int .i64 ((rdN L).1 : Nat)) := ⟨_, rfl⟩
    rw [← hW3]
    have hg := HG.out
    have hkeep : ∀ k, k ≠ pb → W3.heap[k]? = W2.heap[k]? := fun k h => by rw [hW3]; exact heap_setCell_other _ _ _ _ h
    have hs3 : W3.heap.size = W2.heap.size := by rw [hW3]; simp [World.setCell]
    have hall : ∀ k, k < W.heap.size → k ≠ rb → k ≠ pb → W3.heap[k]? = W.heap[k]? := fun k hk h1 h2 => (hkeep k h2).trans (hg.block k hk (by simp; exact h1))
    have hlbW : lb < W.heap.size := by have := HSZ1.out; omega
    have hgr : Grow W W3 := ⟨by rw [hW3]; exact hg.os, by rw [hW3]; exact hg.tape, by rw [hW3]; exact hg.output, by rw [hs3]; exact hg.size⟩
    have hF := HF.out
    have hat3 : W3.heap[pb]? = some (.cells (CC.setIfInBounds p (.int .i64 ((rdN L).1 : Nat))) t (0, 0)) := by rw [hW3]; exact heap_setCell_same _ _ _ _ _ _ HAT2.out
    refine ⟨Φ, fun k hk => absurd hk (HNN.out k), ⟨hgr, fun k hk h1 h2 => hall k hk (fun e => h1 (Or.inl e)) (fun e => h1 (Or.inr e))⟩, HNN.out, v2, ?_⟩
    rw [List.length_append, List.length_singleton, ← HJ.out]
    refine ⟨(hall lb hlbW HN.out.1 HN.out.2).trans HBX.out, (hkeep rb hrp).trans HR2.out.1, by rw [hF]; exact HR2.out.2, by rw [hF]; exact hat3, ⟨hgr.os.trans HOLD.out.os, hgr.tape.trans HOLD.out.tape, hgr.output.trans HOLD.out.output, Nat.le_trans HOLD.out.size hgr.size, fun k hk => ?_⟩, Nat.le_trans HSZ1.out hgr.size⟩
    exact (hall k (Nat.lt_of_lt_of_le hk HOLD.out.size) (by omega) (by omega)).trans (HOLD.out.block k hk)
  case done =>
    rintro D Φ W3 ⟨hn, v3, hC⟩ hon hD hnD hK
    have hvl : (ptrs pb pos).length = pos.length := by simp [ptrs]
    rw [hvl] at hC
    obtain ⟨hbx, hrd, hby, hat, hold, hsz1⟩ := hC
    rw [List.take_length] at hby hat
    have HRD := Lib.hid hrd
    have HBY2 := Lib.hid hby
    have HAT := Lib.hid hat
    have HON := Lib.hid hon
    have HKK := Lib.hid hK
    clear hbx hrd hby hat hold hsz1 hon hK hn
    gi_wp2
    refine ⟨by simp, .inl ⟨_, _, rfl, run_takeDeferred HKK.out, ?_⟩⟩
    have hO2 := HON.out
    have hw2 := HB1.out
    have hLB := HLB.out
    have hDl : w.heap.size ≤ D := by have := hw2.size; omega
    refine ⟨.tuple #[], by simp [results, Tryz.results89, go_sem], ⟨_, rfl⟩, ⟨⟨hO2.grow.os.trans hw2.os, hO2.grow.tape.trans hw2.tape, hO2.grow.output.trans hw2.output, by have h1 := hO2.grow.size; have h2 := hw2.size; simp [World.putObj]; omega⟩, fun k hk h1 h2 => ?_⟩, v3, (put_other (by omega)).trans HRD.out, HBY2.out, (put_other (by omega)).trans HAT.out⟩
    rw [put_other (by omega), hO2.block k (by omega) (by omega) (fun h => h)]
    exact hw2.block k hk
  case stop =>
    rintro D Φ c pre W3 hpre h
    exact h.elim
end Go.Proofs.YtcfcfijmfgnpfaaGreatDoor
end

section
namespace Go.Proofs.YtcfcfijmfgnpfaaGreatDoor
open Go.RowKit
set_option linter.unusedVariables false
set_option linter.unusedSimpArgs false

/-- A kind of struct: its type, its rows' type, its cells. -/
structure RowTy (P : Program) (α : Type) where
  T : TypeId
  S : TypeId
  k : Nat
  f : α → List Value
  len : ∀ x, (f x).length = k
  one : ∀ x, ∀ u ∈ f x, u.oneCell' = true
  pos : 0 < k
  small : k ≤ 1000
  slice : P.underlying S = some (.slice T)
  info : ∃ i0 z b, P.info? T = some i0 ∧ i0.zero = some (.agg z) ∧ i0.size = k ∧ z.size = k ∧ i0.bytes = b ∧ b ≤ 8000
  row : ∃ d, P.underlying T = some d ∧ d.isRow = true

section
variable {P : Program} {α : Type} (r : RowTy P α)
def RowTy.all (xs : List α) : List Value := xs.flatMap r.f
theorem RowTy.all_nil : r.all [] = [] := rfl
theorem RowTy.all_one (x : α) : r.all [x] = r.f x := by simp [RowTy.all]
theorem RowTy.all_cons (x : α) (xs : List α) : r.all (x :: xs) = r.f x ++ r.all xs := by simp [RowTy.all]
theorem RowTy.all_append (a b : List α) : r.all (a ++ b) = r.all a ++ r.all b := by simp [RowTy.all]
theorem RowTy.all_len : ∀ xs : List α, (r.all xs).length = xs.length * r.k
  | [] => by simp [RowTy.all]
  | x :: xs => by rw [r.all_cons, List.length_append, r.len, RowTy.all_len xs, List.length_cons, Nat.add_mul, Nat.one_mul, Nat.add_comm]
theorem RowTy.all_ones (xs : List α) : ∀ u ∈ r.all xs, u.oneCell' = true := by
  intro u hu
  obtain ⟨t, -, h⟩ := List.mem_flatMap.1 hu
  exact r.one t u h
theorem RowTy.all_drop (xs : List α) (j : Nat) : (r.all xs).drop (j * r.k) = r.all (xs.drop j) := by
  by_cases h : j ≤ xs.length
  · have e : r.all xs = r.all (xs.take j) ++ r.all (xs.drop j) := by rw [← r.all_append, List.take_append_drop]
    have hl : (r.all (xs.take j)).length = j * r.k := by rw [r.all_len, List.length_take, Nat.min_eq_left h]
    rw [e, ← hl, List.drop_left]
  · have h1 : xs.length * r.k ≤ j * r.k := Nat.mul_le_mul_right _ (by omega)
    rw [List.drop_of_length_le (by rw [r.all_len]; exact h1), List.drop_of_length_le (by omega)]; rfl
theorem RowTy.all_at {xs : List α} {i : Nat} (hi : i < xs.length) {j : Nat} (hj : j < r.k) : (r.all xs)[i * r.k + j]? = (r.f xs[i])[j]? := by
  have h1 : (r.all xs)[i * r.k + j]? = ((r.all xs).drop (i * r.k))[j]? := by rw [List.getElem?_drop]
  rw [h1, r.all_drop, List.drop_eq_getElem_cons hi, r.all_cons, List.getElem?_append_left (by rw [r.len]; exact hj)]
theorem RowTy.sizeT : (P.info? r.T).map (·.size) = some r.k := by
  obtain ⟨i0, z, b, h1, h2, h3, _⟩ := r.info
  rw [h1]; simp [h3]

/-- Structs that the call owns. -/
def OwnR (B : Nat) (v : Value) (xs : List α) (w : World) : Prop := w.ownsRow B r.T r.k v xs.length (r.all xs)
/-- Structs that are only read. -/
def RdR (w : World) (v : Value) (xs : List α) : Prop :=
  (v = .slice none 0 0 ∧ xs = []) ∨ ∃ b off cap, v = .slice (some ⟨b, off, none⟩) xs.length cap ∧ xs.length ≤ cap ∧ b < w.heap.size ∧ w.rangeAt b off (r.all xs)
variable {r} {w w' : World} {v : Value} {xs : List α} {B : Nat}
theorem RdR.lenOf (h : RdR r w v xs) : ∃ ao cap, v = .slice ao xs.length cap := by
  rcases h with ⟨rfl, rfl⟩ | ⟨b, off, cap, rfl, -⟩
  · exact ⟨none, 0, rfl⟩
  · exact ⟨_, cap, rfl⟩
theorem rangeAt_block {b o : Nat} {cs : List Value} (h : w.rangeAt b o cs) (hk : w'.heap[b]? = w.heap[b]?) : w'.rangeAt b o cs := fun j u hj =>
  (World.cell?_of_block (a := ⟨b, o + j, none⟩) hk).trans (h j u hj)
theorem RdR.keep (h : RdR r w v xs) (hs : w.heap.size ≤ w'.heap.size) (hk : ∀ k, v.ownBlock = some k → w'.heap[k]? = w.heap[k]?) : RdR r w' v xs := by
  rcases h with h | ⟨b, off, cap, rfl, hl, hb, hr⟩
  · exact .inl h
  · exact .inr ⟨b, off, cap, rfl, hl, Nat.lt_of_lt_of_le hb hs, rangeAt_block hr (hk b rfl)⟩
theorem RdR.below (h : RdR r w v xs) (hb : Below w.heap.size w w') : RdR r w' v xs := by
  rcases h with h | ⟨b, off, cap, rfl, hl, hlt, hr⟩
  · exact .inl h
  · exact .inr ⟨b, off, cap, rfl, hl, Nat.lt_of_lt_of_le hlt hb.size, rangeAt_block hr (hb.block b hlt)⟩
theorem RdR.at {ao : Option Addr} {n cap : Nat} (h : RdR r w (.slice ao n cap) xs) {i : Nat} (hi : i < xs.length) :
    ∃ b off, ao = some ⟨b, off, none⟩ ∧ w.rangeAt b (off + i * r.k) (r.f xs[i]) ∧ b < w.heap.size := by
  rcases h with ⟨-, h2⟩ | ⟨b, off, c, h1, -, hlt, h3⟩
  · rw [h2] at hi; simp at hi
  · injection h1 with e1
    refine ⟨b, off, e1, fun j u hj => ?_, hlt⟩
    have hjk : j < r.k := by
      have := (List.getElem?_eq_some_iff.1 hj).1
      rwa [r.len] at this
    have := h3 (i * r.k + j) u (by rw [r.all_at hi hjk]; exact hj)
    rwa [show off + (i * r.k + j) = off + i * r.k + j by omega] at this
theorem OwnR.block (h : OwnR r B v xs w) {k : Nat} (hk : v.ownBlock = some k) : B ≤ k ∧ k < w.heap.size := World.ownsRow.lt h k hk
theorem OwnR.reads (h : OwnR r B v xs w) : RdR r w v xs := by
  have h0 := h
  obtain ⟨h1, h2⟩ := h
  rcases h2 with ⟨rfl, hn⟩ | ⟨g, cap, cur, rfl, hb, hg, hn, hm, hs, ht⟩
  · exact .inl ⟨rfl, List.eq_nil_of_length_eq_zero hn⟩
  · refine .inr ⟨g, 0, cap, rfl, hn, (h0.block rfl).2, fun j u hj => ?_⟩
    have : cur.toList[j]? = some u := by
      rw [← ht] at hj
      have := (List.getElem?_eq_some_iff.1 hj).1
      rw [List.length_take] at this
      rwa [List.getElem?_take_of_lt (by omega)] at hj
    rw [Nat.zero_add, World.cell?, hg]
    simpa using this
theorem OwnR.lenOf (h : OwnR r B v xs w) : ∃ ao cap, v = .slice ao xs.length cap := h.reads.lenOf
theorem OwnR.of {S' : Nat} (h : OwnR r B v xs w) (hS : S' ≤ B) (hk : ∀ k, v.ownBlock = some k → w'.heap[k]? = w.heap[k]?) : OwnR r S' v xs w' := by
  obtain ⟨h1, h2⟩ := h
  refine ⟨h1, ?_⟩
  rcases h2 with h2 | ⟨g, cap, cur, rfl, hb, hg, hn, hm, hs, ht⟩
  · exact .inl h2
  · exact .inr ⟨g, cap, cur, rfl, by omega, (hk g rfl).trans hg, hn, hm, hs, ht⟩
theorem OwnR.nil (w : World) (B : Nat) : OwnR r B (.slice none 0 0) [] w := World.ownsRow_nil w B _ r.k
/-- One more, appended. -/
theorem run_appR {ub : Nat} {y : α} (hown : OwnR r B v xs w) (hr : w.rangeAt ub 0 (r.f y)) (hlen : xs.length ≤ 1000000) (hB : B ≤ w.heap.size) (ty : TypeId) :
    ∃ v' w', (Builtin.append_ #[r.S, r.S] ty #[v, .slice (some ⟨ub, 0, none⟩) 1 1]).run P w = .ok v' w' ∧ OwnR r B v' (xs ++ [y]) w' ∧ w.grownBy w' v.ownBlock ∧ (v'.ownBlock = v.ownBlock ∨ v'.ownBlock = some w.heap.size) ∧ v' ≠ .slice none 0 0 := by
  obtain ⟨i0, z, b, h1, h2, h3, h4, h5, h6⟩ := r.info
  have hby : (xs.length + 1) * b ≤ 140737488355328 := Nat.le_trans (Nat.mul_le_mul (Nat.succ_le_succ hlen) h6) (by omega)
  obtain ⟨v', w', e1, e2, e3, e4, e5⟩ := run_append_own_at (P := P) (w := w) B r.S ty r.T i0 (.agg z) r.k b r.slice h1 h2 h3 h5 h4 r.pos v _ _ hown ⟨ub, 0, none⟩ 1 1 (r.f y) (by rw [r.len, Nat.one_mul])
    (fun j u hj => by rw [Addr.add_mid]; exact hr j u hj) (r.one y) (by unfold maxLen; omega) hby hB
  refine ⟨v', w', e1, ?_, e3, e5, fun e => by have := (e4.1 e).2; omega⟩
  unfold OwnR
  rw [r.all_append, r.all_one, List.length_append]
  exact e2
section
variable {F : Fence} {nF : Nat} {ops : Array Oper} {rest : List Oper} {o : Oper} {a : Act} {Q : Exit → Act → World → Prop}
theorem wplIn_appR {s x : Operand} {ub : Nat} {y : α} (hgd : o.guard = none) (ho : o.op = .call { callee := .builtin .append, args := #[s, x], argTypes := #[r.S, r.S] }) (hs : a.eval s = v) (hx : a.eval x = .slice (some ⟨ub, 0, none⟩) 1 1)
    (hown : OwnR r B v xs w) (hr : w.rangeAt ub 0 (r.f y)) (hlen : xs.length ≤ 1000000) (hB : B ≤ w.heap.size)
    (h : ∀ v' w', OwnR r B v' (xs ++ [y]) w' → w.grownBy w' v.ownBlock → (v'.ownBlock = v.ownBlock ∨ v'.ownBlock = some w.heap.size) → v' ≠ .slice none 0 0 → wpListIn F nF P ops Q rest (a.put o.dst v') w') : wpListIn F nF P ops Q (o :: rest) a w := by
  obtain ⟨v', w', hrun, h1, h2, h3, h4⟩ := run_appR hown hr hlen hB o.type
  refine wpListIn_plain hgd fun K hK => ?_
  unfold Oper.wpIn
  refine ⟨by simp [Oper.about, ho, resolve, Target.leads, Sem.run_pure], ?_⟩
  rw [Oper.semAt_plain F _ _ (by rw [ho]; intro c hc'; cases hc')]
  simp [execOp, ho, resolve, invoke, builtin, hs, hx, hrun, Result.andThen]
  exact hK _ _ (h v' w' h1 h2 h3 h4)
theorem wpl_appR {s x : Operand} {ub : Nat} {y : α} (hgd : o.guard = none) (ho : o.op = .call { callee := .builtin .append, args := #[s, x], argTypes := #[r.S, r.S] }) (hs : a.eval s = v) (hx : a.eval x = .slice (some ⟨ub, 0, none⟩) 1 1)
    (hown : OwnR r B v xs w) (hr : w.rangeAt ub 0 (r.f y)) (hlen : xs.length ≤ 1000000) (hB : B ≤ w.heap.size)
    (h : ∀ v' w', OwnR r B v' (xs ++ [y]) w' → w.grownBy w' v.ownBlock → (v'.ownBlock = v.ownBlock ∨ v'.ownBlock = some w.heap.size) → v' ≠ .slice none 0 0 → wpList P ops Q rest (a.put o.dst v') w') : wpList P ops Q (o :: rest) a w := by
  obtain ⟨v', w', hrun, h1, h2, h3, h4⟩ := run_appR hown hr hlen hB o.type
  refine wpList_plain hgd fun K hK => ?_
  unfold Oper.wp
  simp [execOp, ho, resolve, invoke, builtin, hs, hx, hrun, Result.andThen]
  exact hK _ _ (h v' w' h1 h2 h3 h4)
theorem run_loadR {b k : Nat} {t : α} (hr : w.rangeAt b k (r.f t)) : (Instr.loadAt r.T (.pointer (some ⟨b, k, none⟩))).run P w = .ok (.agg (r.f t).toArray) w := by
  obtain ⟨d, h1, h2⟩ := r.row
  exact run_loadAt_mid w b k r.T (r.f t) d hr h1 h2 (by rw [r.len]; exact r.sizeT)
theorem wplIn_loadR {b k : Nat} {t : α} (x : Operand) (hgd : o.guard = none) (ho : o.op = .load r.T x) (hx : a.eval x = .pointer (some ⟨b, k, none⟩)) (hr : w.rangeAt b k (r.f t))
    (h : wpListIn F nF P ops Q rest (a.put o.dst (.agg (r.f t).toArray)) w) : wpListIn F nF P ops Q (o :: rest) a w := by
  refine wpListIn_plain hgd fun K hK => ?_
  unfold Oper.wpIn
  refine ⟨by simp [Oper.about, ho], ?_⟩
  rw [Oper.semAt_plain F _ _ (by rw [ho]; intro c hc'; cases hc')]
  unfold execOp
  simp only [ho, hx, Sem.run_bind, Sem.run_pure, run_loadR hr, Result.andThen_ok]
  exact hK _ _ h
theorem wpl_loadR {b k : Nat} {t : α} (x : Operand) (hgd : o.guard = none) (ho : o.op = .load r.T x) (hx : a.eval x = .pointer (some ⟨b, k, none⟩)) (hr : w.rangeAt b k (r.f t))
    (h : wpList P ops Q rest (a.put o.dst (.agg (r.f t).toArray)) w) : wpList P ops Q (o :: rest) a w := by
  obtain ⟨d, h1, h2⟩ := r.row
  exact wpList_load_mid hgd r.T x ho b k hx (r.f t) d hr h1 h2 (by rw [r.len]; exact r.sizeT) h
/-- A new one's place. -/
theorem wplIn_allocR {ty : TypeId} (ht : ty = r.T) (hgd : o.guard = none) (ho : o.op = .alloc ty)
    (h : ∀ C : Array Value, C.size = r.k → wpListIn F nF P ops Q rest (a.put o.dst (.pointer (some ⟨w.heap.size, 0, none⟩))) (w.alloc (.cells C ty))) : wpListIn F nF P ops Q (o :: rest) a w := by
  subst ht
  obtain ⟨i0, z, b, hi, hz0, h3, h4, _⟩ := r.info
  refine wpListIn_plain hgd fun K hK => ?_
  unfold Oper.wpIn
  refine ⟨by simp [Oper.about, ho], ?_⟩
  rw [Oper.semAt_plain F _ _ (by rw [ho]; intro c hc'; cases hc')]
  have := h z h4
  unfold execOp
  simp [ho, Instr.alloc, zeroValue, typeInfo, hi, hz0, newVar, newRow, Value.cells, go_sem]
  exact hK _ _ this
theorem wplIn_storeR {ty : TypeId} {b : Nat} {t : α} {C : Array Value} (x y : Operand) (ht : ty = r.T) (hgd : o.guard = none) (ho : o.op = .store ty x y) (hx : a.eval x = .pointer (some ⟨b, 0, none⟩)) (hy : a.eval y = .agg (r.f t).toArray) (hh : w.heap[b]? = some (.cells C ty (0, 0))) (hC : C.size = r.k)
    (h : wpListIn F nF P ops Q rest (a.put o.dst undef) (w.setRow b (r.f t).toArray)) : wpListIn F nF P ops Q (o :: rest) a w := by
  subst ht
  refine wpListIn_plain hgd fun K hK => ?_
  unfold Oper.wpIn
  refine ⟨by simp [Oper.about, ho], ?_⟩
  rw [Oper.semAt_plain F _ _ (by rw [ho]; intro c hc'; cases hc')]
  unfold execOp
  have hr : (Instr.storeAt r.T (.pointer (some ⟨b, 0, none⟩)) (.agg (r.f t).toArray)).run P w = .ok () (w.setRow b (r.f t).toArray) := by
    simp only [Instr.storeAt, Instr.sureAddr, Sem.run_bind, Sem.run_pure, Result.andThen_ok, run_storeVar_row w b r.T r.T C (r.f t).toArray hh (by rw [List.size_toArray, r.len]; exact r.sizeT) (by simp [r.len, hC]) (by rw [Array.all_eq_true_iff_forall_mem]; intro u hu; exact r.one t u (by simpa using hu))]
  simp only [ho, hx, hy, Sem.run_bind, Sem.run_pure, hr, Result.andThen_ok]
  exact hK _ _ h
end
theorem rangeAt_whole {b : Nat} {T : TypeId} {cs : List Value} (h : w.heap[b]? = some (.cells cs.toArray T (0, 0))) : w.rangeAt b 0 cs := fun j u hj => by
  rw [Nat.zero_add, World.cell?, h]
  simpa using hj
end
end Go.Proofs.YtcfcfijmfgnpfaaGreatDoor
end

section
namespace Go.Proofs.YtcfcfijmfgnpfaaGreatDoor
open Go.RowKit
set_option linter.unusedVariables false

theorem cvRet_int {k : IntKind} {a b : Int} (h : a = b) : Ending.returned (.int k a) = .returned (.int k b) := by rw [h]
theorem cvRet_bool {a b : Bool} (h : a = b) : Ending.returned (.bool a) = .returned (.bool b) := by rw [h]
theorem mul_bd {a b : Int} {A B : Int} (h0 : 0 ≤ a) (h1 : a ≤ A) (h2 : 0 ≤ b) (h3 : b ≤ B) (hA : 0 ≤ A) : 0 ≤ a * b ∧ a * b ≤ A * B :=
  ⟨Int.mul_nonneg h0 h2, Int.mul_le_mul h1 h3 h2 hA⟩
theorem bcell {W w1 : World} (hb : Below W.heap.size W w1) : (∀ b o, b < W.heap.size → w1.cell? ⟨b, o, none⟩ = W.cell? ⟨b, o, none⟩) ∧ (∀ b o, b < W.heap.size → w1.frozen? ⟨b, o, none⟩ = W.frozen? ⟨b, o, none⟩) :=
  ⟨fun b o h => hb.cell (p := ⟨b, o, none⟩) h, fun b o h => hb.frozen (p := ⟨b, o, none⟩) h⟩
theorem below_box {w w1 : World} {o : Obj} (h : Below (w.alloc o).heap.size (w.alloc o) w1) : Below w.heap.size w w1 :=
  ((Below.refl _ _).alloc (Nat.le_refl _) o).trans (h.mono (by simp))
theorem below_dn {B : Nat} {a w : World} (h : Below B a w) (n : Nat) : Below B a (w.drewN n) := h.trans ⟨rfl, rfl, rfl, Nat.le_refl _, fun _ _ => rfl⟩

theorem below_new {w0 w : World} (h : Below w0.heap.size w0 w) (o : Obj) : Below w0.heap.size w0 (w.alloc o) := h.alloc h.size o

def inB (n b : Int) : Bool := decide (0 ≤ n) && decide (n ≤ b)
theorem inB_out {n b : Int} (h : inB n b = true) : 0 ≤ n ∧ n ≤ b := by simpa [inB] using h
def withinB (n l m : Int) : Bool := decide (l ≤ n) && decide (n ≤ m)
theorem withinB_out {n l m : Int} (h : withinB n l m = true) : l ≤ n ∧ n ≤ m := by simpa [withinB] using h

def votesI (n level : Int) : Int := if level = 0 then n / 10 else n * level
def periodI (level period : Int) : Int := if level = 0 then 0 else period * 2 ^ (level - 1).toNat

theorem cvWithin (n l m : Int) (w : World) :
    Calls Tryz.prog 57 #[.int .i64 n, .int .i64 l, .int .i64 m] w fun e w' => e = .returned (.bool (withinB n l m)) ∧ w = w' := by
  by_cases h0 : l ≤ n
  · go_enter Tryz.func57, Tryz.ntmps57
    go_wp2
    go_ret
    exact ⟨cvRet_bool (by simp [withinB, h0]), rfl⟩
  · go_enter Tryz.func57, Tryz.ntmps57
    go_wp2
    go_ret
    exact ⟨cvRet_bool (by simp [withinB]; omega), rfl⟩

theorem cvBalance (n : Int) (w : World) :
    Calls Tryz.prog 39 #[.int .i64 n] w fun e w' => e = .returned (.bool (withinB n 0 1073741824)) ∧ w = w' := by
  go_enter Tryz.func39, Tryz.ntmps39
  go_wp2_with (go_at_call 57; refine (cvWithin _ _ _ _).mono ?_; rintro e w' ⟨rfl, rfl⟩)
  go_ret
  exact ⟨rfl, rfl⟩

abbrev vote (k : Int) (aye : Bool) (l a n s : Int) : Value := .agg #[.int .i64 k, .bool aye, .int .i64 l, .int .i64 a, .int .i64 n, .int .i64 s]
abbrev weight (v c : Int) : Value := .agg #[.int .i64 v, .int .i64 c]
abbrev tally (a n s : Int) : Value := .agg #[.int .i64 a, .int .i64 n, .int .i64 s]

def shapedB (k : Int) (aye : Bool) (l n s : Int) : Bool :=
  if k = 1 then withinB l 0 6 && (n == 0) && (s == 0)
  else if k = 2 then !aye && (l == 0) && (s == 0)
  else if k = 3 then !aye && (l == 0)
  else false
def voteB (k : Int) (aye : Bool) (l a n s : Int) : Bool :=
  shapedB k aye l n s && withinB a 0 1073741824 && withinB n 0 1073741824 && withinB s 0 1073741824 && withinB (a + n + s) 0 1073741824

end Go.Proofs.YtcfcfijmfgnpfaaGreatDoor
end

section
namespace Go.Proofs.YtcfcfijmfgnpfaaGreatDoor
open Go.RowKit
set_option linter.unusedVariables false

/-- A vote lies in the first block behind w0's. -/
structure VBox (w0 : World) (k : Int) (aye : Bool) (l a n s : Int) (w : World) : Prop where
  c0 : w.cell? ⟨w0.heap.size, 0, none⟩ = some (.int .i64 k)
  c1 : w.cell? ⟨w0.heap.size, 1, none⟩ = some (.bool aye)
  c2 : w.cell? ⟨w0.heap.size, 2, none⟩ = some (.int .i64 l)
  c3 : w.cell? ⟨w0.heap.size, 3, none⟩ = some (.int .i64 a)
  c4 : w.cell? ⟨w0.heap.size, 4, none⟩ = some (.int .i64 n)
  c5 : w.cell? ⟨w0.heap.size, 5, none⟩ = some (.int .i64 s)
  lt : w0.heap.size < w.heap.size
  old : Below w0.heap.size w0 w
theorem VBox.all {w0 : World} {k : Int} {aye : Bool} {l a n s : Int} {w : World} (h : VBox w0 k aye l a n s w) : w.cell? ⟨w0.heap.size, 0, none⟩ = some (.int .i64 k) ∧ w.cell? ⟨w0.heap.size, 1, none⟩ = some (.bool aye) ∧ w.cell? ⟨w0.heap.size, 2, none⟩ = some (.int .i64 l) ∧ w.cell? ⟨w0.heap.size, 3, none⟩ = some (.int .i64 a) ∧ w.cell? ⟨w0.heap.size, 4, none⟩ = some (.int .i64 n) ∧ w.cell? ⟨w0.heap.size, 5, none⟩ = some (.int .i64 s) := ⟨h.c0, h.c1, h.c2, h.c3, h.c4, h.c5⟩
theorem VBox.below {w0 : World} {k : Int} {aye : Bool} {l a n s : Int} {w w' : World} (h : VBox w0 k aye l a n s w) (hb : Below w.heap.size w w') : VBox w0 k aye l a n s w' := by
  obtain ⟨hc, _⟩ := bcell hb
  exact ⟨(hc _ _ h.lt).trans h.c0, (hc _ _ h.lt).trans h.c1, (hc _ _ h.lt).trans h.c2, (hc _ _ h.lt).trans h.c3, (hc _ _ h.lt).trans h.c4, (hc _ _ h.lt).trans h.c5, Nat.lt_of_lt_of_le h.lt hb.size, h.old.trans (hb.mono h.old.size)⟩
theorem VBox.drew {w0 : World} {k : Int} {aye : Bool} {l a n s : Int} {w : World} (h : VBox w0 k aye l a n s w) : VBox w0 k aye l a n s w.drew := ⟨h.c0, h.c1, h.c2, h.c3, h.c4, h.c5, h.lt, h.old.drew⟩
theorem VBox.new {k : Int} {aye : Bool} {l a n s : Int} {w : World} {t : TypeId} : VBox w k aye l a n s (w.alloc (.cells #[.int .i64 k, .bool aye, .int .i64 l, .int .i64 a, .int .i64 n, .int .i64 s] t)) := by
  constructor
  case old => exact (Below.refl _ _).alloc (Nat.le_refl _) _
  all_goals simp

/-- What a vote gains, its three numbers. -/
def gainA (k : Int) (aye : Bool) (l a v : Int) : Int := if k = 1 then (if aye then votesI a l + v else 0) else votesI a 0
def gainN (k : Int) (aye : Bool) (l a n v : Int) : Int := if k = 1 then (if aye then 0 else votesI a l + v) else votesI n 0
def gainS (k : Int) (aye : Bool) (a s c : Int) : Int := if k = 1 then (if aye then a + c else 0) else a + s

theorem votes_bd {n l : Int} (h0 : 0 ≤ n) (l0 : 0 ≤ l) : 0 ≤ votesI n l ∧ votesI n l ≤ n * (l + 1) := by
  unfold votesI
  have m := Int.mul_nonneg h0 l0
  have e : n * (l + 1) = n * l + n := by rw [Int.mul_add]; omega
  split <;> omega

end Go.Proofs.YtcfcfijmfgnpfaaGreatDoor
end

section
namespace Go.Proofs.YtcfcfijmfgnpfaaGreatDoor
open Go.RowKit
set_option linter.unusedVariables false
set_option linter.unusedSimpArgs false

theorem setCells_mid {b : Nat} {t : TypeId} : ∀ (vs A M C : List Value) (w : World), w.heap[b]? = some (.cells (A ++ (M ++ C)).toArray t (0, 0)) → M.length = vs.length → (w.setCells b A.length vs).heap[b]? = some (.cells (A ++ (vs ++ C)).toArray t (0, 0))
  | [], A, M, C, w, h, hl => by
    cases M with
    | nil => exact h
    | cons => simp at hl
  | v :: vs, A, M, C, w, h, hl => by
    cases M with
    | nil => simp at hl
    | cons m M =>
      have e : (A ++ (m :: M ++ C)).toArray.setIfInBounds A.length v = ((A ++ [v]) ++ (M ++ C)).toArray := by apply Array.ext'; simp
      have h1 : (w.setCell ⟨b, A.length, none⟩ v).heap[b]? = some (.cells ((A ++ [v]) ++ (M ++ C)).toArray t (0, 0)) := by
        rw [← e]; exact heap_setCell_same _ _ _ _ _ _ h
      have h2 := setCells_mid vs (A ++ [v]) M C _ h1 (by simpa using hl)
      simpa [World.setCells] using h2
theorem setCells_other {b k : Nat} (hk : k ≠ b) : ∀ (vs : List Value) (o : Nat) (w : World), (w.setCells b o vs).heap[k]? = w.heap[k]?
  | [], o, w => rfl
  | v :: vs, o, w => (setCells_other hk vs (o + 1) _).trans (heap_setCell_other _ _ _ _ hk)
theorem setCells_below {B b : Nat} (hb : B ≤ b) : ∀ (vs : List Value) (o : Nat) (w : World), Below B w (w.setCells b o vs)
  | [], o, w => Below.refl _ _
  | v :: vs, o, w => by
    have h1 : Below B w (w.setCell ⟨b, o, none⟩ v) := ⟨rfl, rfl, rfl, by simp [World.setCell], fun k hk => heap_setCell_other _ _ _ _ (by show k ≠ b; omega)⟩
    exact h1.trans (setCells_below hb vs (o + 1) _)
def zH : List Value := Bs (List.replicate 32 0)
def zV : List Value := vtc ⟨0, false, 0, 0, 0, 0⟩
def zC : List Value := [.int .i64 0, .int .i64 0, .int .i64 0, .slice none 0 0]
def exH (e : Ex) : Ex := ⟨e.hd, e.h7, List.replicate 32 0, by simp, e.vote, e.ck, e.ct, e.cn, e.ca, e.cc, e.m⟩
def exV (e : Ex) : Ex := ⟨e.hd, e.h7, e.sum, e.h32, ⟨0, false, 0, 0, 0, 0⟩, e.ck, e.ct, e.cn, e.ca, e.cc, e.m⟩
def exC (e : Ex) : Ex := ⟨e.hd, e.h7, e.sum, e.h32, e.vote, 0, 0, 0, none, 0, 0⟩
def storeH (p v : Value) : Sem Unit := Instr.storeAt 41 p v
theorem store_h (p v : Value) : Instr.storeAt 41 p v = storeH p v := rfl
def storeC (p v : Value) : Sem Unit := Instr.storeAt 45 p v
theorem store_c (p v : Value) : Instr.storeAt 45 p v = storeC p v := rfl
def buildH (parts : Array (Nat × Value)) : Sem Value := Instr.build 41 parts
theorem build_h (parts : Array (Nat × Value)) : Instr.build 41 parts = buildH parts := rfl
def buildC (parts : Array (Nat × Value)) : Sem Value := Instr.build 45 parts
theorem build_c (parts : Array (Nat × Value)) : Instr.build 45 parts = buildC parts := rfl
theorem run_buildH (w : World) : (buildH #[]).run Tryz.prog w = .ok (.agg zH.toArray) w := by kernel_rfl
theorem run_buildC (w : World) : (buildC #[]).run Tryz.prog w = .ok (.agg zC.toArray) w := by kernel_rfl
/-- What is left of an extrinsic without what its kind names. -/
def wiped (k who to' n r tr lv : Int) (e : Ex) : Ex :=
  ⟨[k, who, if k = 1 ∨ k = 9 then 0 else to', if k = 1 ∨ k = 4 ∨ k = 9 then 0 else n, if k = 5 ∨ k = 6 ∨ k = 7 ∨ k = 8 then 0 else r, if k = 4 ∨ k = 9 ∨ k = 10 ∨ k = 11 then 0 else tr, if k = 9 then 0 else lv], rfl,
    if k = 3 ∨ k = 4 then List.replicate 32 0 else e.sum, by split <;> simp [e.h32], if k = 7 then ⟨0, false, 0, 0, 0, 0⟩ else e.vote,
    if k = 2 then 0 else e.ck, if k = 2 then 0 else e.ct, if k = 2 then 0 else e.cn, if k = 2 then none else e.ca, if k = 2 then 0 else e.cc, if k = 2 then 0 else e.m⟩
/-- May what a kind names be? -/
def fieldsOk (k to' n r tr lv : Int) (cOk vOk : Bool) : Bool :=
  if k = 1 then decide (0 ≤ to' ∧ to' < 10) && decide (0 ≤ n ∧ n ≤ 1073741824)
  else if k = 2 then cOk
  else if k = 3 then true
  else if k = 4 then decide (0 ≤ tr ∧ tr < 4) && decide (0 ≤ n ∧ n ≤ 1000)
  else if k = 7 then decide (0 ≤ r ∧ r < 12) && vOk
  else if k = 9 then decide (0 ≤ tr ∧ tr < 4) && (decide (0 ≤ to' ∧ to' < 10) && (decide (0 ≤ lv ∧ lv ≤ 6) && decide (0 ≤ n ∧ n ≤ 1073741824)))
  else if k = 10 ∨ k = 11 then decide (0 ≤ tr ∧ tr < 4)
  else decide (0 ≤ r ∧ r < 12)
end Go.Proofs.YtcfcfijmfgnpfaaGreatDoor
end

section
namespace Go.Proofs.YtcfcfijmfgnpfaaGreatDoor
open Go.RowKit
set_option linter.unusedVariables false
set_option linter.unusedSimpArgs false
set_option linter.constructorNameAsVariable false

/-- A call, none of whose calls lies in a block of Z. -/
def RdZ (Z : Nat → Prop) (w : World) : Nat → Value → Cl → Prop
  | 0, _, _ => False
  | d + 1, v, c => ∃ ao cap, v = .agg #[.int .i64 c.k, .int .i64 c.t, .int .i64 c.n, .slice ao c.kids.length cap] ∧
      ∀ i (hi : i < c.kids.length), ∃ b off vs, ao = some ⟨b, off, none⟩ ∧ (b < w.heap.size ∧ ¬ Z b) ∧ w.rangeAt b (off + i * 4) vs ∧ RdZ Z w d (.agg vs.toArray) c.kids[i]
theorem RdZ.toC {Z : Nat → Prop} {w : World} : ∀ {d : Nat} {v : Value} {c : Cl}, RdZ Z w d v c → RdC w d v c
  | 0, _, _, h => h.elim
  | d + 1, v, c, ⟨ao, cap, e, h⟩ => ⟨ao, cap, e, fun i hi => by
    obtain ⟨b, off, vs, e1, e2, e3, e4⟩ := h i hi
    exact ⟨b, off, vs, e1, e2.1, e3, RdZ.toC e4⟩⟩
theorem RdZ.keep {Z Z' : Nat → Prop} {w w' : World} (hs : w.heap.size ≤ w'.heap.size) (hz : ∀ k, k < w.heap.size → Z' k → Z k) (hk : ∀ k, k < w.heap.size → ¬ Z k → w'.heap[k]? = w.heap[k]?) : ∀ {d : Nat} {v : Value} {c : Cl}, RdZ Z w d v c → RdZ Z' w' d v c
  | 0, _, _, h => h.elim
  | d + 1, v, c, ⟨ao, cap, e, h⟩ => ⟨ao, cap, e, fun i hi => by
    obtain ⟨b, off, vs, e1, e2, e3, e4⟩ := h i hi
    exact ⟨b, off, vs, e1, ⟨Nat.lt_of_lt_of_le e2.1 hs, fun hz' => e2.2 (hz b e2.1 hz')⟩, rangeAt_keep e3 (hk b e2.1 e2.2), RdZ.keep hs hz hk e4⟩⟩
theorem RdZ.cells {Z : Nat → Prop} {w : World} : ∀ {d : Nat} {v : Value} {c : Cl}, RdZ Z w d v c → ∃ ao cap, v = .agg #[.int .i64 c.k, .int .i64 c.t, .int .i64 c.n, .slice ao c.kids.length cap]
  | 0, _, _, h => h.elim
  | d + 1, v, c, ⟨ao, cap, e, _⟩ => ⟨ao, cap, e⟩
theorem callInfo3 : (Tryz.prog.info? 45).map (fun i => (i.zero, i.size, i.bytes)) = some (some (.agg #[.int .i64 0, .int .i64 0, .int .i64 0, .slice none 0 0]), 4, 48) := by kernel_rfl
/-- A call's four cells. -/
abbrev C4 := Int × Int × Int × Option Addr × Nat × Nat
def c4 (x : C4) : List Value := [.int .i64 x.1, .int .i64 x.2.1, .int .i64 x.2.2.1, .slice x.2.2.2.1 x.2.2.2.2.1 x.2.2.2.2.2]
def rowC : RowTy Tryz.prog C4 where
  T := 45
  S := 43
  k := 4
  f := c4
  len := fun _ => rfl
  one := fun x u hu => by
    simp only [c4, List.mem_cons, List.not_mem_nil, or_false] at hu
    rcases hu with rfl | rfl | rfl | rfl <;> rfl
  pos := by decide
  small := by decide
  slice := Tryz.underlying43
  info := by
    obtain ⟨i0, hi, hz⟩ := Option.map_eq_some_iff.1 callInfo3
    simp only [Prod.mk.injEq] at hz
    obtain ⟨h1, h2, h3⟩ := hz
    exact ⟨i0, _, _, hi, h1, h2, rfl, h3, by decide⟩
  row := ⟨_, Tryz.underlying45, rfl⟩
def z4 : C4 := (0, 0, 0, none, 0, 0)
/-- What readCall keeps while it reads the calls of a call. -/
structure KSt (w : World) (cb rb N1 : Nat) (k t n : Int) (d : Nat) (ks : List Cl) (R : List Nat) (s : Value) (ys : List C4) (W : World) : Prop where
  old : Below w.heap.size w W
  cat : W.heap[cb]? = some (.cells #[.int .i64 k, .int .i64 t, .int .i64 n, s] 45 (0, 0))
  own : OwnR rowC N1 s ys W
  len : ys.length = ks.length
  kids : ∀ i (hi : i < ys.length) (hk : i < ks.length), RdZ (fun b => b < N1 ∨ s.ownBlock = some b) W d (.agg (c4 ys[i]).toArray) ks[i]
  sz : N1 ≤ W.heap.size
  rdr : ∃ v', RBx W rb v' ∧ RdB w v' R
  rs : W.heap[w.heap.size]? = some (.cells #[.int .i64 0, .int .i64 0, .int .i64 0, .slice none 0 0] 45 (0, 0))
theorem KSt.keep {w : World} {cb rb N1 : Nat} {k t n : Int} {d : Nat} {ks : List Cl} {R : List Nat} {s : Value} {ys : List C4} {W W' : World} (h : KSt w cb rb N1 k t n d ks R s ys W) (hb : Below W.heap.size W W') : KSt w cb rb N1 k t n d ks R s ys W' := by
  obtain ⟨v', h1, h2⟩ := h.rdr
  exact ⟨h.old.trans (hb.mono h.old.size), (hb.block cb (Array.getElem?_eq_some_iff.1 h.cat).1).trans h.cat, h.own.of (Nat.le_refl _) (fun x hx => hb.block x (h.own.block hx).2), h.len,
    fun i hi hk => RdZ.keep hb.size (fun _ _ z => z) (fun x hx _ => hb.block x hx) (h.kids i hi hk), Nat.le_trans h.sz hb.size, ⟨v', (hb.block rb h1.lt).trans h1, h2⟩, (hb.block _ (Array.getElem?_eq_some_iff.1 h.rs).1).trans h.rs⟩
theorem KSt.row {w : World} {cb rb N1 : Nat} {k t n : Int} {d : Nat} {ks : List Cl} {R R' : List Nat} {s : Value} {ys : List C4} {W W' : World} (h : KSt w cb rb N1 k t n d ks R s ys W) (hw : w.heap.size < rb) (hcr : cb ≠ rb) (hrN : rb < N1) (hg : W.grownBy W' (some rb)) {v' : Value} (hr : RBx W' rb v') (hb : RdB w v' R') : KSt w cb rb N1 k t n d ks R' s ys W' := by
  have hall : ∀ x, x < W.heap.size → x ≠ rb → W'.heap[x]? = W.heap[x]? := fun x hx hne => hg.block x hx (by simpa using hne)
  exact ⟨⟨hg.os.trans h.old.os, hg.tape.trans h.old.tape, hg.output.trans h.old.output, Nat.le_trans h.old.size hg.size, fun x hx => (hall x (Nat.lt_of_lt_of_le hx h.old.size) (by omega)).trans (h.old.block x hx)⟩,
    (hall cb (Array.getElem?_eq_some_iff.1 h.cat).1 hcr).trans h.cat, h.own.of (Nat.le_refl _) (fun x hx => hall x (h.own.block hx).2 (by have := (h.own.block hx).1; omega)), h.len,
    fun i hi hk => RdZ.keep hg.size (fun _ _ z => z) (fun x hx hz => hall x hx (fun e => hz (Or.inl (by omega)))) (h.kids i hi hk), Nat.le_trans h.sz hg.size, ⟨v', hr, hb⟩, (hall _ (Array.getElem?_eq_some_iff.1 h.rs).1 (by omega)).trans h.rs⟩
/-- What it hands back. -/
theorem KSt.out {w : World} {cb rb N1 : Nat} {k t n : Int} {d : Nat} {ks : List Cl} {R : List Nat} {s : Value} {ys : List C4} {W : World} (h : KSt w cb rb N1 k t n d ks R s ys W) : RdZ (fun b => b < N1) W (d + 1) (.agg #[.int .i64 k, .int .i64 t, .int .i64 n, s]) (.mk k t n ks) := by
  obtain ⟨ao, cap, rfl⟩ := h.own.lenOf
  refine ⟨ao, cap, by rw [h.len]; rfl, fun i hi => ?_⟩
  have hi' : i < ks.length := hi
  have hiy : i < ys.length := by rw [h.len]; exact hi'
  obtain ⟨b, off, rfl, h2, h3⟩ := h.own.reads.at hiy
  have hbN := (h.own.block (k := b) rfl).1
  refine ⟨b, off, _, rfl, ⟨h3, by omega⟩, h2, RdZ.keep (Nat.le_refl _) (fun x _ hx => Or.inl hx) (fun _ _ _ => rfl) (h.kids i hiy hi')⟩
end Go.Proofs.YtcfcfijmfgnpfaaGreatDoor
end
