/-
  The law on split and abstaining votes.
-/
import Derived.Test.YtgoomkailpnjaaaConv6
namespace Go.Proofs.Ytgoomkailpnjaaa
open Go.RowKit
set_option linter.unusedVariables false

theorem voteB_split {a n : Int} (a0 : 0 ≤ a) (a1 : a ≤ 268435456) (n0 : 0 ≤ n) (n1 : n ≤ 268435456) : voteB 2 false 0 a n 0 = true := by
  rw [voteB_small a0 a1 n0 n1 (by omega) (by omega)]; rfl
theorem voteB_abst {a n s : Int} (a0 : 0 ≤ a) (a1 : a ≤ 268435456) (n0 : 0 ≤ n) (n1 : n ≤ 268435456) (s0 : 0 ≤ s) (s1 : s ≤ 268435456) : voteB 3 false 0 a n s = true := by
  rw [voteB_small a0 a1 n0 n1 s0 s1]; rfl

set_option maxHeartbeats 1000000 in
theorem convSplits_yes (a n s v c : Int) (h1 : inB a 268435456 = true) (h2 : inB n 268435456 = true) (h3 : inB s 268435456 = true) (hv : inB v 1099511627776 = true) (hc : inB c 1099511627776 = true) (w : World) :
    Calls Try.prog 8 #[.int .i64 a, .int .i64 n, .int .i64 s, weight v c] w fun e w' => e = .returned (.bool true) ∧ Below w.heap.size w w' := by
  obtain ⟨a0, a1⟩ := inB_out h1
  obtain ⟨n0, n1⟩ := inB_out h2
  obtain ⟨s0, s1⟩ := inB_out h3
  have g1 := voteB_split a0 a1 n0 n1
  have g2 := voteB_abst a0 a1 n0 n1 s0 s1
  have e1 : gainA 2 false 0 a v = a / 10 := rfl
  have e2 : gainN 2 false 0 a n v = n / 10 := rfl
  have e3 : gainS 2 false a 0 c = a := Int.add_zero a
  have e4 : gainA 3 false 0 a v = a / 10 := rfl
  have e5 : gainN 3 false 0 a n v = n / 10 := rfl
  have e6 : gainS 3 false a s c = a + s := rfl
  go_enter Try.func8, Try.ntmps8
  go_wp2_with (first | (go_at_call 18; refine (law5_in _ _ _).mono ?_; rintro e w' ⟨rfl, rfl⟩) | fail)
  refine (conv_Gain 2 false 0 a n 0 v c _ g1 (inB_out hv) (inB_out hc)).mono ?_
  rintro e w1 ⟨rfl, hb1⟩
  have B := WBox.new.below hb1
  clear hb1
  obtain ⟨k0, k1⟩ := B.all
  have L2 := B.lt
  have L3 := B.ne
  go_wp2_with fail
  refine (conv_Gain 3 false 0 a n s v c _ g2 (inB_out hv) (inB_out hc)).mono ?_
  rintro e w2 ⟨rfl, hb2⟩
  have T := TBox.new.below hb2
  have B2 := (B.below (below_new (Below.refl _ _) _)).below hb2
  clear hb2 k0 k1
  obtain ⟨t0, t1, t2⟩ := T.all
  have L4 := T.lt
  have L5 := T.ne
  go_wp2_with fail
  refine (conv_Capital 3 false 0 a n s _ ⟨a0, by omega⟩ ⟨n0, by omega⟩ ⟨s0, by omega⟩).mono ?_
  rintro e w3 ⟨rfl, hb3⟩
  go_wp2_with (first | (go_at_call 23; refine (known5 _).mono ?_; rintro e w' ⟨rfl, rfl⟩) | fail)
  go_ret
  exact ⟨rfl, ((B2.below (below_new (Below.refl _ _) _)).below hb3).old⟩

set_option maxHeartbeats 1000000 in
theorem convSplits_walk (a n s v c : Int) (_w0 : (Lit.int .i64 a).wf = true) (_w1 : (Lit.int .i64 n).wf = true) (_w2 : (Lit.int .i64 s).wf = true) (_w3 : (Lit.int .i64 v).wf = true) (_w4 : (Lit.int .i64 c).wf = true) (w : World) :
    Calls Try.prog 8 #[.int .i64 a, .int .i64 n, .int .i64 s, weight v c] w fun e w' => e = .returned (.bool true) ∧ Below w.heap.size w w' := by
  have hq : (inB a 268435456 = true ∧ inB n 268435456 = true ∧ inB s 268435456 = true ∧ inB v 1099511627776 = true ∧ inB c 1099511627776 = true) ∨ inB a 268435456 = false ∨ (inB a 268435456 = true ∧ inB n 268435456 = false) ∨ (inB a 268435456 = true ∧ inB n 268435456 = true ∧ inB s 268435456 = false) ∨ (inB a 268435456 = true ∧ inB n 268435456 = true ∧ inB s 268435456 = true ∧ inB v 1099511627776 = false) ∨ (inB a 268435456 = true ∧ inB n 268435456 = true ∧ inB s 268435456 = true ∧ inB v 1099511627776 = true ∧ inB c 1099511627776 = false) := by
    cases h1 : inB a 268435456 <;> cases h2 : inB n 268435456 <;> cases h3 : inB s 268435456 <;> cases h4 : inB v 1099511627776 <;> cases h5 : inB c 1099511627776 <;> simp_all
  rcases hq with ⟨h1, h2, h3, h4, h5⟩ | h1 | ⟨h1, h2⟩ | ⟨h1, h2, h3⟩ | ⟨h1, h2, h3, h4⟩ | ⟨h1, h2, h3, h4, h5⟩
  · exact convSplits_yes a n s v c h1 h2 h3 h4 h5 w
  all_goals
    go_enter Try.func8, Try.ntmps8
    go_wp2_with (go_at_call 18; refine (law5_in _ _ _).mono ?_; rintro e w' ⟨rfl, rfl⟩)
    go_ret
    exact ⟨rfl, below_new (Below.refl _ _) _⟩

end Go.Proofs.Ytgoomkailpnjaaa
