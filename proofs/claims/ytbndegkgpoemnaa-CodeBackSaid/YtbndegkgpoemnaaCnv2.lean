/-
  Contracts of votes: whether one may be, the balance behind it, what it gains.
-/
import Derived.Test.YtbndegkgpoemnaaCnv1
import Derived.Deep.QuietTactic
import Derived.BigQuiet
import Derived.Deep.RegionHeld3
import Derived.IntWalk
namespace Go.Proofs.Ytbndegkgpoemnaa
open Go.RowKit
set_option linter.unusedVariables false

theorem conv_Capital (k : Int) (aye : Bool) (l a n s : Int) (w : World) (ha : 0 ≤ a ∧ a ≤ 1073741824) (hn : 0 ≤ n ∧ n ≤ 1073741824) (hs : 0 ≤ s ∧ s ≤ 1073741824) :
    Calls Try.prog 68 #[vote k aye l a n s] w fun e w' => e = .returned (.int .i64 (a + n + s)) ∧ Below w.heap.size w w' := by
  go_enter Try.func68, Try.ntmps68
  go_wp2
  go_ret
  exact ⟨rfl, (Below.refl _ _).alloc (Nat.le_refl _) _⟩

/-- A vote lies in the first block behind w0's. -/
structure VBox (w0 : World) (k : Int) (aye : Bool) (l a n s : Int) (w : World) : Prop where
  c0 : w.cell? ⟨w0.heap.size, 0, none⟩ = some (.int .i64 k)
  c1 : w.cell? ⟨w0.heap.size, 1, none⟩ = some (.bool aye)
  c2 : w.cell? ⟨w0.heap.size, 2, none⟩ = some (.int .i64 l)
  c3 : w.cell? ⟨w0.heap.size, 3, none⟩ = some (.int .i64 a)
  c4 : w.cell? ⟨w0.heap.size, 4, none⟩ = some (.int .i64 n)
  c5 : w.cell? ⟨w0.heap.size, 5, none⟩ = some (.int .i64 s)
  lt : w0.heap.size < w.heap.size
  old : Below w0.heap.size w0 w
theorem VBox.all {w0 : World} {k : Int} {aye : Bool} {l a n s : Int} {w : World} (h : VBox w0 k aye l a n s w) : w.cell? ⟨w0.heap.size, 0, none⟩ = some (.int .i64 k) ∧ w.cell? ⟨w0.heap.size, 1, none⟩ = some (.bool aye) ∧ w.cell? ⟨w0.heap.size, 2, none⟩ = some (.int .i64 l) ∧ w.cell? ⟨w0.heap.size, 3, none⟩ = some (.int .i64 a) ∧ w.cell? ⟨w0.heap.size, 4, none⟩ = some (.int .i64 n) ∧ w.cell? ⟨w0.heap.size, 5, none⟩ = some (.int .i64 s) := ⟨h.c0, h.c1, h.c2, h.c3, h.c4, h.c5⟩
theorem VBox.below {w0 : World} {k : Int} {aye : Bool} {l a n s : Int} {w w' : World} (h : VBox w0 k aye l a n s w) (hb : Below w.heap.size w w') : VBox w0 k aye l a n s w' := by
  obtain ⟨hc, _⟩ := bcell hb
  exact ⟨(hc _ _ h.lt).trans h.c0, (hc _ _ h.lt).trans h.c1, (hc _ _ h.lt).trans h.c2, (hc _ _ h.lt).trans h.c3, (hc _ _ h.lt).trans h.c4, (hc _ _ h.lt).trans h.c5, Nat.lt_of_lt_of_le h.lt hb.size, h.old.trans (hb.mono h.old.size)⟩
theorem VBox.drew {w0 : World} {k : Int} {aye : Bool} {l a n s : Int} {w : World} (h : VBox w0 k aye l a n s w) : VBox w0 k aye l a n s w.drew := ⟨h.c0, h.c1, h.c2, h.c3, h.c4, h.c5, h.lt, h.old.drew⟩
theorem VBox.new {k : Int} {aye : Bool} {l a n s : Int} {w : World} {t : TypeId} : VBox w k aye l a n s (w.alloc (.cells #[.int .i64 k, .bool aye, .int .i64 l, .int .i64 a, .int .i64 n, .int .i64 s] t)) := by
  constructor
  case old => exact (Below.refl _ _).alloc (Nat.le_refl _) _
  all_goals simp

set_option maxHeartbeats 1000000 in
theorem conv_Is (k : Int) (aye : Bool) (l a n s : Int) (w : World) :
    Calls Try.prog 45 #[vote k aye l a n s] w fun e w' => e = .returned (.bool (voteB k aye l a n s)) ∧ Below w.heap.size w w' := by
  go_enter Try.func45, Try.ntmps45
  go_wp2_with (first | (go_at_call 67; refine (conv_shaped _ _ _ _ _ _ _).mono ?_; rintro e w1 ⟨rfl, hb1⟩; have B := VBox.new.below hb1; clear hb1; obtain ⟨c0, c1, c2, c3, c4, c5⟩ := B.all) | (go_at_call 41; refine (cvBalance _ _).mono ?_; rintro e w' ⟨rfl, rfl⟩) | (go_at_call 68; refine (conv_Capital _ _ _ _ _ _ _ (withinB_out (by assumption)) (withinB_out (by assumption)) (withinB_out (by assumption))).mono ?_; rintro e w1 ⟨rfl, hb1⟩; have B2 := B.below hb1) | fail)
  all_goals
    go_ret
    exact ⟨cvRet_bool (by simp [voteB, *]), (by first | exact B2.old | exact B.old)⟩

set_option maxHeartbeats 1000000 in
theorem ref_Is5_fits (k : Int) (aye : Bool) (l a n s : Int) (w : World) (h1 : withinB a 0 1073741824 = true) (h2 : withinB n 0 1073741824 = true) (h3 : withinB s 0 1073741824 = true) (hs : a + n + s ≤ 1073741824) :
    Calls Try.prog 49 #[vote k aye l a n s] w fun e w' => e = .returned (.bool (voteB k aye l a n s)) ∧ Below w.heap.size w w' := by
  obtain ⟨a0, a1⟩ := withinB_out h1
  obtain ⟨n0, n1⟩ := withinB_out h2
  obtain ⟨s0, s1⟩ := withinB_out h3
  have hw : withinB (a + n + s) 0 1073741824 = true := by simp [withinB, hs]; omega
  have hd : decide (1073741824 < a + n + s) = false := by simp; omega
  have e : voteB k aye l a n s = shapedB k aye l n s := by simp [voteB, h1, h2, h3, hw]
  have E := Lib.hid e
  clear e hw hs
  have hk : k = 1 ∨ k = 2 ∨ k = 3 ∨ (k ≠ 1 ∧ k ≠ 2 ∧ k ≠ 3) := by omega
  rcases hk with rfl | rfl | rfl | ⟨k1, k2, k3⟩ <;> cases aye
  all_goals
    go_enter Try.func49, Try.ntmps49
    go_wp2_with (first | (go_at_call 69; refine (ref5_in _ _ _ _).mono ?_; rintro e w' ⟨rfl, rfl⟩) | fail)
  all_goals
    go_ret
    exact ⟨cvRet_bool (by rw [E.out]; simp [shapedB, *]), (Below.refl _ _).alloc (Nat.le_refl _) _⟩

set_option maxHeartbeats 1000000 in
theorem ref_Is5_over (k : Int) (aye : Bool) (l a n s : Int) (w : World) (h1 : withinB a 0 1073741824 = true) (h2 : withinB n 0 1073741824 = true) (h3 : withinB s 0 1073741824 = true) (hs : ¬ a + n + s ≤ 1073741824) :
    Calls Try.prog 49 #[vote k aye l a n s] w fun e w' => e = .returned (.bool (voteB k aye l a n s)) ∧ Below w.heap.size w w' := by
  obtain ⟨a0, a1⟩ := withinB_out h1
  obtain ⟨n0, n1⟩ := withinB_out h2
  obtain ⟨s0, s1⟩ := withinB_out h3
  have hw : withinB (a + n + s) 0 1073741824 = false := by simp [withinB]; omega
  have hd : decide (1073741824 < a + n + s) = true := by simp; omega
  have e : voteB k aye l a n s = false := by simp [voteB, hw]
  have E := Lib.hid e
  clear hs hw e
  go_enter Try.func49, Try.ntmps49
  go_wp2_with (first | (go_at_call 69; refine (ref5_in _ _ _ _).mono ?_; rintro e w' ⟨rfl, rfl⟩) | fail)
  go_ret
  exact ⟨cvRet_bool E.out.symm, (Below.refl _ _).alloc (Nat.le_refl _) _⟩

set_option maxHeartbeats 1000000 in
theorem ref_Is5 (k : Int) (aye : Bool) (l a n s : Int) (w : World) :
    Calls Try.prog 49 #[vote k aye l a n s] w fun e w' => e = .returned (.bool (voteB k aye l a n s)) ∧ Below w.heap.size w w' := by
  by_cases hb : withinB a 0 1073741824 = true ∧ withinB n 0 1073741824 = true ∧ withinB s 0 1073741824 = true
  · obtain ⟨h1, h2, h3⟩ := hb
    by_cases hs : a + n + s ≤ 1073741824
    · exact ref_Is5_fits k aye l a n s w h1 h2 h3 hs
    · exact ref_Is5_over k aye l a n s w h1 h2 h3 hs
  · have e : voteB k aye l a n s = false := by
      cases h1 : withinB a 0 1073741824 <;> cases h2 : withinB n 0 1073741824 <;> cases h3 : withinB s 0 1073741824 <;> simp_all [voteB]
    have E := Lib.hid e
    have hq : withinB a 0 1073741824 = false ∨ (withinB a 0 1073741824 = true ∧ withinB n 0 1073741824 = false) ∨ (withinB a 0 1073741824 = true ∧ withinB n 0 1073741824 = true ∧ withinB s 0 1073741824 = false) := by
      cases h1 : withinB a 0 1073741824 <;> cases h2 : withinB n 0 1073741824 <;> cases h3 : withinB s 0 1073741824 <;> simp_all
    clear hb e
    rcases hq with h1 | ⟨h1, h2⟩ | ⟨h1, h2, h3⟩
    all_goals
      go_enter Try.func49, Try.ntmps49
      go_wp2_with (first | (go_at_call 69; refine (ref5_in _ _ _ _).mono ?_; rintro e w' ⟨rfl, rfl⟩) | fail)
      go_ret
      exact ⟨cvRet_bool E.out.symm, (Below.refl _ _).alloc (Nat.le_refl _) _⟩

/-- What a vote gains, its three numbers. -/
def gainA (k : Int) (aye : Bool) (l a v : Int) : Int := if k = 1 then (if aye then votesI a l + v else 0) else votesI a 0
def gainN (k : Int) (aye : Bool) (l a n v : Int) : Int := if k = 1 then (if aye then 0 else votesI a l + v) else votesI n 0
def gainS (k : Int) (aye : Bool) (a s c : Int) : Int := if k = 1 then (if aye then a + c else 0) else a + s

theorem votes_bd {n l : Int} (h0 : 0 ≤ n) (l0 : 0 ≤ l) : 0 ≤ votesI n l ∧ votesI n l ≤ n * (l + 1) := by
  unfold votesI
  have m := Int.mul_nonneg h0 l0
  have e : n * (l + 1) = n * l + n := by rw [Int.mul_add]; omega
  split <;> omega

end Go.Proofs.Ytbndegkgpoemnaa
