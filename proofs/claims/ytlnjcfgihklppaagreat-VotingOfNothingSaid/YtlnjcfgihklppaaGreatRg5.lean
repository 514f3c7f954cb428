/-
  Contracts of what a vote gains, the document's.
-/
import Derived.Test.YtlnjcfgihklppaaGreatPb
import Derived.Deep.QuietTactic
import Derived.BigQuiet
namespace Go.Proofs.YtlnjcfgihklppaaGreat
open Go.RowKit
set_option linter.unusedVariables false

set_option maxHeartbeats 1000000 in
theorem ref_Gain1 (aye : Bool) (l a n s v c : Int) (w : World) (ha : 0 ≤ a ∧ a ≤ 1073741824) (hl : 0 ≤ l ∧ l ≤ 6) (hv : 0 ≤ v ∧ v ≤ 1099511627776) (hc : 0 ≤ c ∧ c ≤ 1099511627776) :
    Calls Tryz.prog 32 #[vote 1 aye l a n s, weight v c] w fun e w' => e = .returned (tally (gainA 1 aye l a v) (gainN 1 aye l a n v) (gainS 1 aye a s c)) ∧ Below w.heap.size w w' := by
  obtain ⟨q0, q1⟩ := votes_bd ha.1 hl.1
  obtain ⟨m0, m1⟩ := mul_bd ha.1 ha.2 (show 0 ≤ l + 1 by omega) (show l + 1 ≤ 7 by omega) (by omega)
  obtain ⟨a0, a1⟩ := ha
  obtain ⟨l0, l1⟩ := hl
  obtain ⟨v0, v1⟩ := hv
  obtain ⟨c0, c1⟩ := hc
  have W1 : IntKind.i64.wrap (votesI a l + v) = votesI a l + v := IntWalk.i64_in _ (by omega)
  cases aye
  · go_enter Tryz.func32, Tryz.ntmps32
    go_wp2_with fail
    go_quiet ((go_at_call 31; exact Calls.quiet_of_same ((ref_Votes _ _ _ (by omega) (by omega) (by omega) (by omega)).mono fun e w' h => ⟨h.1, h.2.symm⟩)))
    go_wp2
    exact bodyPost_ret (v := tally (gainA 1 false l a v) (gainN 1 false l a n v) (gainS 1 false a s c)) (by simp [results, Tryz.results32, go_sem, gainA, gainN, gainS]) rfl ⟨rfl, (by repeat (first | exact Below.refl _ _ | refine below_dn ?_ _ | refine Below.drew ?_ | refine below_new ?_ _ | refine Below.setCell ?_ (Nat.le_refl _) _ | refine Below.setCell ?_ (Nat.le_succ _) _ | refine Below.setCell ?_ (Nat.le_trans (Nat.le_succ _) (Nat.le_succ _)) _))⟩
  · go_enter Tryz.func32, Tryz.ntmps32
    go_wp2_with fail
    go_quiet ((go_at_call 31; exact Calls.quiet_of_same ((ref_Votes _ _ _ (by omega) (by omega) (by omega) (by omega)).mono fun e w' h => ⟨h.1, h.2.symm⟩)))
    go_wp2
    exact bodyPost_ret (v := tally (gainA 1 true l a v) (gainN 1 true l a n v) (gainS 1 true a s c)) (by simp [results, Tryz.results32, go_sem, gainA, gainN, gainS]) rfl ⟨rfl, (by repeat (first | exact Below.refl _ _ | refine below_dn ?_ _ | refine Below.drew ?_ | refine below_new ?_ _ | refine Below.setCell ?_ (Nat.le_refl _) _ | refine Below.setCell ?_ (Nat.le_succ _) _ | refine Below.setCell ?_ (Nat.le_trans (Nat.le_succ _) (Nat.le_succ _)) _))⟩

set_option maxHeartbeats 1000000 in
theorem ref_Gain2 (k : Int) (hk : k = 2 ∨ k = 3) (aye : Bool) (l a n s v c : Int) (w : World) (a0 : 0 ≤ a) (a1 : a ≤ 1073741824) (n0 : 0 ≤ n) (n1 : n ≤ 1073741824) (s0 : 0 ≤ s) (s1 : s ≤ 1073741824) :
    Calls Tryz.prog 32 #[vote k aye l a n s, weight v c] w fun e w' => e = .returned (tally (gainA k aye l a v) (gainN k aye l a n v) (gainS k aye a s c)) ∧ Below w.heap.size w w' := by
  have W1 : IntKind.i64.wrap (a + s) = a + s := IntWalk.i64_in _ (by omega)
  rcases hk with rfl | rfl
  · go_enter Tryz.func32, Tryz.ntmps32
    go_wp2_with fail
    have B1 : VBox w 2 aye l a n s (((w.alloc (.cells #[.int .i64 2, .bool aye, .int .i64 l, .int .i64 a, .int .i64 n, .int .i64 s] 23)).alloc (.cells #[.int .i64 v, .int .i64 c] 49)).alloc (.cells #[.int .i64 0, .int .i64 0, .int .i64 0] 46)) := (VBox.new.below (below_new (Below.refl _ _) _)).below (below_new (Below.refl _ _) _)
    have B2 : VBox w 2 aye l a n s (((w.alloc (.cells #[.int .i64 2, .bool aye, .int .i64 l, .int .i64 a, .int .i64 n, .int .i64 s] 23)).alloc (.cells #[.int .i64 v, .int .i64 c] 49)).alloc (.cells #[.int .i64 (votesI a 0), .int .i64 (votesI n 0), .int .i64 (a + s)] 46)) := (VBox.new.below (below_new (Below.refl _ _) _)).below (below_new (Below.refl _ _) _)
    go_region_held3 (fun w' => w'.cell? ⟨w.heap.size, 0, none⟩ = some (.int .i64 2) ∧ w'.cell? ⟨w.heap.size, 1, none⟩ = some (.bool aye) ∧ w'.cell? ⟨w.heap.size, 2, none⟩ = some (.int .i64 l) ∧ w'.cell? ⟨w.heap.size, 3, none⟩ = some (.int .i64 a) ∧ w'.cell? ⟨w.heap.size, 4, none⟩ = some (.int .i64 n) ∧ w'.cell? ⟨w.heap.size, 5, none⟩ = some (.int .i64 s)) (first | exact B1.all | exact B2.all | fail) (first | (go_at_call 31; refine (ref_Votes _ _ _ (by omega) (by omega) (by omega) (by omega)).mono ?_; rintro e w' ⟨rfl, rfl⟩) | fail)
    go_wp2
    exact bodyPost_ret (v := tally (gainA 2 aye l a v) (gainN 2 aye l a n v) (gainS 2 aye a s c)) (by simp [results, Tryz.results32, go_sem, gainA, gainN, gainS]) rfl ⟨rfl, (by repeat (first | exact Below.refl _ _ | refine below_dn ?_ _ | refine Below.drew ?_ | refine below_new ?_ _ | refine Below.setCell ?_ (Nat.le_refl _) _ | refine Below.setCell ?_ (Nat.le_succ _) _ | refine Below.setCell ?_ (Nat.le_trans (Nat.le_succ _) (Nat.le_succ _)) _))⟩
  · go_enter Tryz.func32, Tryz.ntmps32
    go_wp2_with fail
    have B1 : VBox w 3 aye l a n s (((w.alloc (.cells #[.int .i64 3, .bool aye, .int .i64 l, .int .i64 a, .int .i64 n, .int .i64 s] 23)).alloc (.cells #[.int .i64 v, .int .i64 c] 49)).alloc (.cells #[.int .i64 0, .int .i64 0, .int .i64 0] 46)) := (VBox.new.below (below_new (Below.refl _ _) _)).below (below_new (Below.refl _ _) _)
    have B2 : VBox w 3 aye l a n s (((w.alloc (.cells #[.int .i64 3, .bool aye, .int .i64 l, .int .i64 a, .int .i64 n, .int .i64 s] 23)).alloc (.cells #[.int .i64 v, .int .i64 c] 49)).alloc (.cells #[.int .i64 (votesI a 0), .int .i64 (votesI n 0), .int .i64 (a + s)] 46)) := (VBox.new.below (below_new (Below.refl _ _) _)).below (below_new (Below.refl _ _) _)
    go_region_held3 (fun w' => w'.cell? ⟨w.heap.size, 0, none⟩ = some (.int .i64 3) ∧ w'.cell? ⟨w.heap.size, 1, none⟩ = some (.bool aye) ∧ w'.cell? ⟨w.heap.size, 2, none⟩ = some (.int .i64 l) ∧ w'.cell? ⟨w.heap.size, 3, none⟩ = some (.int .i64 a) ∧ w'.cell? ⟨w.heap.size, 4, none⟩ = some (.int .i64 n) ∧ w'.cell? ⟨w.heap.size, 5, none⟩ = some (.int .i64 s)) (first | exact B1.all | exact B2.all | fail) (first | (go_at_call 31; refine (ref_Votes _ _ _ (by omega) (by omega) (by omega) (by omega)).mono ?_; rintro e w' ⟨rfl, rfl⟩) | fail)
    go_wp2
    exact bodyPost_ret (v := tally (gainA 3 aye l a v) (gainN 3 aye l a n v) (gainS 3 aye a s c)) (by simp [results, Tryz.results32, go_sem, gainA, gainN, gainS]) rfl ⟨rfl, (by repeat (first | exact Below.refl _ _ | refine below_dn ?_ _ | refine Below.drew ?_ | refine below_new ?_ _ | refine Below.setCell ?_ (Nat.le_refl _) _ | refine Below.setCell ?_ (Nat.le_succ _) _ | refine Below.setCell ?_ (Nat.le_trans (Nat.le_succ _) (Nat.le_succ _)) _))⟩

theorem ref_Gain (k : Int) (aye : Bool) (l a n s v c : Int) (w : World) (h : voteB k aye l a n s = true) (hv : 0 ≤ v ∧ v ≤ 1099511627776) (hc : 0 ≤ c ∧ c ≤ 1099511627776) :
    Calls Tryz.prog 32 #[vote k aye l a n s, weight v c] w fun e w' => e = .returned (tally (gainA k aye l a v) (gainN k aye l a n v) (gainS k aye a s c)) ∧ Below w.heap.size w w' := by
  simp only [voteB, Bool.and_eq_true] at h
  obtain ⟨⟨⟨⟨h0, h1⟩, h2⟩, h3⟩, -⟩ := h
  obtain ⟨a0, a1⟩ := withinB_out h1
  obtain ⟨n0, n1⟩ := withinB_out h2
  obtain ⟨s0, s1⟩ := withinB_out h3
  by_cases k1 : k = 1
  · subst k1
    simp only [shapedB, if_true, Bool.and_eq_true] at h0
    exact ref_Gain1 aye l a n s v c w ⟨a0, a1⟩ (withinB_out h0.1.1) hv hc
  · by_cases k2 : k = 2
    · exact ref_Gain2 k (.inl k2) aye l a n s v c w a0 a1 n0 n1 s0 s1
    · by_cases k3 : k = 3
      · exact ref_Gain2 k (.inr k3) aye l a n s v c w a0 a1 n0 n1 s0 s1
      · simp [shapedB, k1, k2, k3] at h0

end Go.Proofs.YtlnjcfgihklppaaGreat
