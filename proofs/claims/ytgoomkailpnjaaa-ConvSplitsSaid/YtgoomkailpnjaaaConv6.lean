/-
  The laws on what votes gain.
-/
import Derived.Test.YtgoomkailpnjaaaConv3
import Derived.Test.YtgoomkailpnjaaaConv5
namespace Go.Proofs.Ytgoomkailpnjaaa
open Go.RowKit
set_option linter.unusedVariables false

/-- A vote and a weight lie in the first two blocks behind w0's. -/
structure VW (w0 : World) (k : Int) (aye : Bool) (l a n s v c : Int) (w : World) : Prop where
  box : VBox w0 k aye l a n s w
  d0 : w.cell? ⟨w0.heap.size + 1, 0, none⟩ = some (.int .i64 v)
  d1 : w.cell? ⟨w0.heap.size + 1, 1, none⟩ = some (.int .i64 c)
  lt : w0.heap.size + 1 < w.heap.size
theorem VW.below {w0 : World} {k : Int} {aye : Bool} {l a n s v c : Int} {w w' : World} (h : VW w0 k aye l a n s v c w) (hb : Below w.heap.size w w') : VW w0 k aye l a n s v c w' :=
  ⟨h.box.below hb, ((bcell hb).1 _ _ h.lt).trans h.d0, ((bcell hb).1 _ _ h.lt).trans h.d1, Nat.lt_of_lt_of_le h.lt hb.size⟩
theorem VW.drew {w0 : World} {k : Int} {aye : Bool} {l a n s v c : Int} {w : World} (h : VW w0 k aye l a n s v c w) : VW w0 k aye l a n s v c w.drew := ⟨h.box.drew, h.d0, h.d1, h.lt⟩
theorem VW.all {w0 : World} {k : Int} {aye : Bool} {l a n s v c : Int} {w : World} (h : VW w0 k aye l a n s v c w) : w.cell? ⟨w0.heap.size, 0, none⟩ = some (.int .i64 k) ∧ w.cell? ⟨w0.heap.size, 1, none⟩ = some (.bool aye) ∧ w.cell? ⟨w0.heap.size, 2, none⟩ = some (.int .i64 l) ∧ w.cell? ⟨w0.heap.size, 3, none⟩ = some (.int .i64 a) ∧ w.cell? ⟨w0.heap.size, 4, none⟩ = some (.int .i64 n) ∧ w.cell? ⟨w0.heap.size, 5, none⟩ = some (.int .i64 s) ∧ w.cell? ⟨w0.heap.size + 1, 0, none⟩ = some (.int .i64 v) ∧ w.cell? ⟨w0.heap.size + 1, 1, none⟩ = some (.int .i64 c) :=
  ⟨h.box.c0, h.box.c1, h.box.c2, h.box.c3, h.box.c4, h.box.c5, h.d0, h.d1⟩
theorem VW.new {k : Int} {aye : Bool} {l a n s v c : Int} {w : World} {t u : TypeId} : VW w k aye l a n s v c ((w.alloc (.cells #[.int .i64 k, .bool aye, .int .i64 l, .int .i64 a, .int .i64 n, .int .i64 s] t)).alloc (.cells #[.int .i64 v, .int .i64 c] u)) :=
  ⟨VBox.new.below (below_new (Below.refl _ _) _), by simp, by simp, by simp⟩

theorem voteB_out {k l a n s : Int} {aye : Bool} (h : voteB k aye l a n s = true) : (0 ≤ a ∧ a ≤ 1073741824) ∧ (0 ≤ n ∧ n ≤ 1073741824) ∧ (0 ≤ s ∧ s ≤ 1073741824) := by
  simp only [voteB, Bool.and_eq_true] at h
  obtain ⟨⟨⟨⟨h0, h1⟩, h2⟩, h3⟩, -⟩ := h
  exact ⟨withinB_out h1, withinB_out h2, withinB_out h3⟩

set_option maxHeartbeats 1000000 in
theorem convMay_yes (k : Int) (aye : Bool) (l a n s v c : Int) (hi : voteB k aye l a n s = true) (hv : inB v 1099511627776 = true) (hc : inB c 1099511627776 = true) (w : World) :
    Calls Try.prog 4 #[vote k aye l a n s, weight v c] w fun e w' => e = .returned (.bool true) ∧ Below w.heap.size w w' := by
  obtain ⟨ha, hn, hs⟩ := voteB_out hi
  go_enter Try.func4, Try.ntmps4
  go_wp2_with (first | (go_at_call 24; refine (ref_Is5 _ _ _ _ _ _ _).mono ?_; rintro e w1 ⟨rfl, hb1⟩; have B := VW.new.below hb1; clear hb1; obtain ⟨c0, c1, c2, c3, c4, c5, c6, c7⟩ := B.all) | (go_at_call 18; refine (law5_in _ _ _).mono ?_; rintro e w' ⟨rfl, rfl⟩) | fail)
  clear c0 c1 c2 c3 c4 c5 c6 c7
  go_region_held3 (fun w' => w'.cell? ⟨w.heap.size, 0, none⟩ = some (.int .i64 k) ∧ w'.cell? ⟨w.heap.size, 1, none⟩ = some (.bool aye) ∧ w'.cell? ⟨w.heap.size, 2, none⟩ = some (.int .i64 l) ∧ w'.cell? ⟨w.heap.size, 3, none⟩ = some (.int .i64 a) ∧ w'.cell? ⟨w.heap.size, 4, none⟩ = some (.int .i64 n) ∧ w'.cell? ⟨w.heap.size, 5, none⟩ = some (.int .i64 s) ∧ w'.cell? ⟨w.heap.size + 1, 0, none⟩ = some (.int .i64 v) ∧ w'.cell? ⟨w.heap.size + 1, 1, none⟩ = some (.int .i64 c)) (first | exact B.all | exact B2.all | exact B3.all | exact B4.all | exact B5.all | exact B6.all | fail) (first | (go_at_call 25; refine (conv_Is _ _ _ _ _ _ _).mono ?_; rintro e wn ⟨rfl, hbn⟩; have B2 := B.drew.below hbn) | (go_at_call 26; refine (conv_Capital _ _ _ _ _ _ _ ha hn hs).mono ?_; rintro e wn ⟨rfl, hbn⟩; have B3 := B2.below hbn) | (go_at_call 27; refine (ref_Capital _ _ _ _ _ _ _ ha hn hs).mono ?_; rintro e wn ⟨rfl, hbn⟩; have B4 := B3.below hbn) | (go_at_call 28; refine (conv_Gain _ _ _ _ _ _ _ _ _ hi (inB_out hv) (inB_out hc)).mono ?_; rintro e wn ⟨rfl, hbn⟩; have B5 := B4.below hbn) | (go_at_call 29; refine (ref_Gain _ _ _ _ _ _ _ _ _ hi (inB_out hv) (inB_out hc)).mono ?_; rintro e wn ⟨rfl, hbn⟩; have B6 := B5.below hbn) | (go_at_call 23; refine (known5 _).mono ?_; rintro e w' ⟨rfl, rfl⟩) | fail)
  all_goals go_wp2
  all_goals go_ret
  all_goals exact ⟨rfl, B6.box.old⟩

set_option maxHeartbeats 1000000 in
theorem convMay_walk (k : Int) (aye : Bool) (l a n s v c : Int) (_w0 : (Lit.int .i64 k).wf = true) (_w1 : (Lit.int .i64 l).wf = true) (_w2 : (Lit.int .i64 a).wf = true) (_w3 : (Lit.int .i64 n).wf = true) (_w4 : (Lit.int .i64 s).wf = true) (_w5 : (Lit.int .i64 v).wf = true) (_w6 : (Lit.int .i64 c).wf = true) (w : World) :
    Calls Try.prog 4 #[vote k aye l a n s, weight v c] w fun e w' => e = .returned (.bool true) ∧ Below w.heap.size w w' := by
  have hq : voteB k aye l a n s = false ∨ (voteB k aye l a n s = true ∧ inB v 1099511627776 = false) ∨ (voteB k aye l a n s = true ∧ inB v 1099511627776 = true ∧ inB c 1099511627776 = false) ∨ (voteB k aye l a n s = true ∧ inB v 1099511627776 = true ∧ inB c 1099511627776 = true) := by
    cases h1 : voteB k aye l a n s <;> cases h2 : inB v 1099511627776 <;> cases h3 : inB c 1099511627776 <;> simp_all
  rcases hq with hi | ⟨hi, hv⟩ | ⟨hi, hv, hc⟩ | ⟨hi, hv, hc⟩
  · go_enter Try.func4, Try.ntmps4
    go_wp2_with (first | (go_at_call 24; refine (ref_Is5 _ _ _ _ _ _ _).mono ?_; rintro e w1 ⟨rfl, hb1⟩; have B := VW.new.below hb1; clear hb1; obtain ⟨c0, c1, c2, c3, c4, c5, c6, c7⟩ := B.all) | (go_at_call 25; refine (conv_Is _ _ _ _ _ _ _).mono ?_; rintro e wn ⟨rfl, hbn⟩; have B2 := B.below hbn) | (go_at_call 23; refine (known5 _).mono ?_; rintro e w' ⟨rfl, rfl⟩) | fail)
    go_ret
    exact ⟨rfl, B2.box.old⟩
  · go_enter Try.func4, Try.ntmps4
    go_wp2_with (first | (go_at_call 24; refine (ref_Is5 _ _ _ _ _ _ _).mono ?_; rintro e w1 ⟨rfl, hb1⟩; have B := VW.new.below hb1; clear hb1; obtain ⟨c0, c1, c2, c3, c4, c5, c6, c7⟩ := B.all) | (go_at_call 18; refine (law5_in _ _ _).mono ?_; rintro e w' ⟨rfl, rfl⟩) | fail)
    go_ret
    exact ⟨rfl, B.box.old⟩
  · go_enter Try.func4, Try.ntmps4
    go_wp2_with (first | (go_at_call 24; refine (ref_Is5 _ _ _ _ _ _ _).mono ?_; rintro e w1 ⟨rfl, hb1⟩; have B := VW.new.below hb1; clear hb1; obtain ⟨c0, c1, c2, c3, c4, c5, c6, c7⟩ := B.all) | (go_at_call 18; refine (law5_in _ _ _).mono ?_; rintro e w' ⟨rfl, rfl⟩) | fail)
    go_ret
    exact ⟨rfl, B.box.old⟩
  · exact convMay_yes k aye l a n s v c hi hv hc w

/-- A weight lies in the first block behind w0's. -/
structure WBox (w0 : World) (v c : Int) (w : World) : Prop where
  d0 : w.cell? ⟨w0.heap.size, 0, none⟩ = some (.int .i64 v)
  d1 : w.cell? ⟨w0.heap.size, 1, none⟩ = some (.int .i64 c)
  lt : w0.heap.size < w.heap.size
  old : Below w0.heap.size w0 w
theorem WBox.below {w0 : World} {v c : Int} {w w' : World} (h : WBox w0 v c w) (hb : Below w.heap.size w w') : WBox w0 v c w' :=
  ⟨((bcell hb).1 _ _ h.lt).trans h.d0, ((bcell hb).1 _ _ h.lt).trans h.d1, Nat.lt_of_lt_of_le h.lt hb.size, h.old.trans (hb.mono h.old.size)⟩
theorem WBox.all {w0 : World} {v c : Int} {w : World} (h : WBox w0 v c w) : w.cell? ⟨w0.heap.size, 0, none⟩ = some (.int .i64 v) ∧ w.cell? ⟨w0.heap.size, 1, none⟩ = some (.int .i64 c) := ⟨h.d0, h.d1⟩
theorem WBox.ne {w0 : World} {v c : Int} {w : World} (h : WBox w0 v c w) : ¬ w0.heap.size = w.heap.size := fun e => Nat.ne_of_lt h.lt e
theorem WBox.new {v c : Int} {w : World} {t : TypeId} : WBox w v c (w.alloc (.cells #[.int .i64 v, .int .i64 c] t)) :=
  ⟨by simp, by simp, by simp, below_new (Below.refl _ _) _⟩

/-- A tally lies in the first block behind w0's. -/
structure TBox (w0 : World) (x y z : Int) (w : World) : Prop where
  d0 : w.cell? ⟨w0.heap.size, 0, none⟩ = some (.int .i64 x)
  d1 : w.cell? ⟨w0.heap.size, 1, none⟩ = some (.int .i64 y)
  d2 : w.cell? ⟨w0.heap.size, 2, none⟩ = some (.int .i64 z)
  lt : w0.heap.size < w.heap.size
  old : Below w0.heap.size w0 w
theorem TBox.below {w0 : World} {x y z : Int} {w w' : World} (h : TBox w0 x y z w) (hb : Below w.heap.size w w') : TBox w0 x y z w' :=
  ⟨((bcell hb).1 _ _ h.lt).trans h.d0, ((bcell hb).1 _ _ h.lt).trans h.d1, ((bcell hb).1 _ _ h.lt).trans h.d2, Nat.lt_of_lt_of_le h.lt hb.size, h.old.trans (hb.mono h.old.size)⟩
theorem TBox.all {w0 : World} {x y z : Int} {w : World} (h : TBox w0 x y z w) : w.cell? ⟨w0.heap.size, 0, none⟩ = some (.int .i64 x) ∧ w.cell? ⟨w0.heap.size, 1, none⟩ = some (.int .i64 y) ∧ w.cell? ⟨w0.heap.size, 2, none⟩ = some (.int .i64 z) := ⟨h.d0, h.d1, h.d2⟩
theorem TBox.ne {w0 : World} {x y z : Int} {w : World} (h : TBox w0 x y z w) : ¬ w0.heap.size = w.heap.size := fun e => Nat.ne_of_lt h.lt e
theorem TBox.new {x y z : Int} {w : World} {t : TypeId} : TBox w x y z (w.alloc (.cells #[.int .i64 x, .int .i64 y, .int .i64 z] t)) :=
  ⟨by simp, by simp, by simp, by simp, below_new (Below.refl _ _) _⟩

theorem voteB_std {a l : Int} {aye : Bool} (a0 : 0 ≤ a) (a1 : a ≤ 1073741824) (l0 : 0 ≤ l) (l1 : l ≤ 6) : voteB 1 aye l a 0 0 = true := by
  simp [voteB, shapedB, withinB, a0, a1, l0, l1]

set_option maxHeartbeats 1000000 in
theorem convStands_yes (a l : Int) (aye : Bool) (v c : Int) (h1 : inB a 1073741824 = true) (h2 : inB l 6 = true) (hv : inB v 1099511627776 = true) (hc : inB c 1099511627776 = true) (w : World) :
    Calls Try.prog 7 #[.int .i64 a, .int .i64 l, .bool aye, weight v c] w fun e w' => e = .returned (.bool true) ∧ Below w.heap.size w w' := by
  obtain ⟨a0, a1⟩ := inB_out h1
  obtain ⟨l0, l1⟩ := inB_out h2
  have hi := voteB_std (aye := aye) a0 a1 l0 l1
  obtain ⟨v0, v1⟩ := inB_out hv
  obtain ⟨c0, c1⟩ := inB_out hc
  obtain ⟨q0, q1⟩ := votes_bd a0 l0
  obtain ⟨m0, m1⟩ := mul_bd a0 a1 (show 0 ≤ l + 1 by omega) (show l + 1 ≤ 7 by omega) (by omega)
  have Q1 : votesI a l ≤ 7516192768 := by omega
  clear q1 m0 m1
  cases aye
  · have e1 : gainA 1 false l a v = 0 := rfl
    have e2 : gainN 1 false l a 0 v = votesI a l + v := rfl
    have e3 : gainS 1 false a 0 c = 0 := rfl
    have W1 : IntKind.i64.wrap (votesI a l + v) = votesI a l + v := IntWalk.i64_in _ (by omega)
    go_enter Try.func7, Try.ntmps7
    go_wp2_with (first | (go_at_call 18; refine (law5_in _ _ _).mono ?_; rintro e w' ⟨rfl, rfl⟩) | (go_at_call 28; refine (conv_Gain _ _ _ _ _ _ _ _ _ hi (inB_out hv) (inB_out hc)).mono ?_; rintro e w1 ⟨rfl, hb1⟩; have B := WBox.new.below hb1; clear hb1; obtain ⟨k0, k1⟩ := B.all; have L2 := B.lt; have L3 := B.ne) | fail)
    go_quiet ((go_at_call 20; exact Calls.quiet_of_same ((ref_Votes _ _ _ (by omega) (by omega) (by omega) (by omega)).mono fun e w' h => ⟨h.1, h.2.symm⟩)))
    go_wp2_with (first | (go_at_call 23; refine (known5 _).mono ?_; rintro e w' ⟨rfl, rfl⟩) | fail)
    go_ret
    exact ⟨rfl, below_dn (below_new B.old _) _⟩
  · have e1 : gainA 1 true l a v = votesI a l + v := rfl
    have e2 : gainN 1 true l a 0 v = 0 := rfl
    have e3 : gainS 1 true a 0 c = a + c := rfl
    have W1 : IntKind.i64.wrap (votesI a l + v) = votesI a l + v := IntWalk.i64_in _ (by omega)
    go_enter Try.func7, Try.ntmps7
    go_wp2_with (first | (go_at_call 18; refine (law5_in _ _ _).mono ?_; rintro e w' ⟨rfl, rfl⟩) | (go_at_call 28; refine (conv_Gain _ _ _ _ _ _ _ _ _ hi (inB_out hv) (inB_out hc)).mono ?_; rintro e w1 ⟨rfl, hb1⟩; have B := WBox.new.below hb1; clear hb1; obtain ⟨k0, k1⟩ := B.all; have L2 := B.lt; have L3 := B.ne) | fail)
    go_quiet ((go_at_call 20; exact Calls.quiet_of_same ((ref_Votes _ _ _ (by omega) (by omega) (by omega) (by omega)).mono fun e w' h => ⟨h.1, h.2.symm⟩)))
    go_wp2_with (first | (go_at_call 23; refine (known5 _).mono ?_; rintro e w' ⟨rfl, rfl⟩) | fail)
    go_ret
    exact ⟨rfl, below_dn (below_new B.old _) _⟩

set_option maxHeartbeats 1000000 in
theorem convStands_walk (a l : Int) (aye : Bool) (v c : Int) (_w0 : (Lit.int .i64 a).wf = true) (_w1 : (Lit.int .i64 l).wf = true) (_w2 : (Lit.int .i64 v).wf = true) (_w3 : (Lit.int .i64 c).wf = true) (w : World) :
    Calls Try.prog 7 #[.int .i64 a, .int .i64 l, .bool aye, weight v c] w fun e w' => e = .returned (.bool true) ∧ Below w.heap.size w w' := by
  have hq : (inB a 1073741824 = true ∧ inB l 6 = true ∧ inB v 1099511627776 = true ∧ inB c 1099511627776 = true) ∨ inB a 1073741824 = false ∨ (inB a 1073741824 = true ∧ inB l 6 = false) ∨ (inB a 1073741824 = true ∧ inB l 6 = true ∧ inB v 1099511627776 = false) ∨ (inB a 1073741824 = true ∧ inB l 6 = true ∧ inB v 1099511627776 = true ∧ inB c 1099511627776 = false) := by
    cases h1 : inB a 1073741824 <;> cases h2 : inB l 6 <;> cases h3 : inB v 1099511627776 <;> cases h4 : inB c 1099511627776 <;> simp_all
  rcases hq with ⟨h1, h2, h3, h4⟩ | h1 | ⟨h1, h2⟩ | ⟨h1, h2, h3⟩ | ⟨h1, h2, h3, h4⟩
  · exact convStands_yes a l aye v c h1 h2 h3 h4 w
  all_goals
    go_enter Try.func7, Try.ntmps7
    go_wp2_with (go_at_call 18; refine (law5_in _ _ _).mono ?_; rintro e w' ⟨rfl, rfl⟩)
    go_ret
    exact ⟨rfl, below_new (Below.refl _ _) _⟩

end Go.Proofs.Ytgoomkailpnjaaa
