/-
  Row and Column of a table: ways that tell what is there when the ranging begins.
-/
import Derived.Test.YtfgkaookgfghoaaGreatGrI
import Derived.Test.YtfgkaookgfghoaaGreatBeg
namespace Go.Proofs.YtfgkaookgfghoaaGreat
open Go.RowKit Go.Maps Go.Shelf
set_option linter.unusedVariables false
set_option linter.unusedSimpArgs false

theorem IterF.later {P : Program} {α : Type} {n gf : Nat} {lb : Array Value} {encs : α → Array Value} {xs : List α} {G G' : FP} {w W : World} (h : IterF P n gf lb encs xs G w) (hg : Grow w W) (hG : ∀ k, G k → k < w.heap.size ∧ W.heap[k]? = w.heap[k]?) (hs : ∀ k, G k → G' k) : IterF P n gf lb encs xs G' W := by
  intro l B Ψ J Jx Φ0 W2 hg2 hG2 hΨ hJ hJx hr h0
  exact h l B Ψ J Jx Φ0 W2 (hg.trans hg2) (fun k hk => ⟨(hG k hk).1, (hG2 k (hs k hk)).2.trans (hG k hk).2⟩) hΨ hJ hJx hr h0
/-- A way's value: what it tells, in world w. -/
def Way {α : Type} (P : Program) (encs : α → Array Value) (f : Value) (xs : List α) (w : World) : Prop :=
  ∃ gf lb, f = .func (.func gf) #[] lb ∧ (∀ args w, (callFunc gf args).run P w = .ok (.enter gf args) w) ∧ ∀ n, IterF P n gf lb encs xs (fun k => k < w.heap.size) w
theorem Way.below {P : Program} {α : Type} {encs : α → Array Value} {f : Value} {xs : List α} {w W : World} (h : Way P encs f xs w) (hb : Below w.heap.size w W) : Way P encs f xs W := by
  obtain ⟨gf, lb, e, eg, hi⟩ := h
  exact ⟨gf, lb, e, eg, fun n => (hi n).later (Grow.of_below hb) (fun k hk => ⟨hk, hb.block k hk⟩) (fun k hk => Nat.lt_of_lt_of_le hk hb.size)⟩

set_option maxRecDepth 100000 in
set_option maxHeartbeats 2000000 in
theorem grid_Row_I {g : Nat} {M : Cls Int} {F : FP} {w : World} (h : GrAt codI 146 g M F w) (hlen : M.length ≤ 100000) {s : Int} (hs : (Lit.int .i64 s).wf = true) :
    Calls Tryz.prog 86 #[.pointer (some ⟨g, 0, none⟩), .int .i64 s] w fun e w' => ∃ f, e = .returned f ∧ Way Tryz.prog encs_I f (rowOf M s) w' ∧ Below w.heap.size w w' := by
  have c1 := grid_row_I (some ⟨g, 0, none⟩) s w
  have hway : ∀ w', w' = ((w.alloc (.cells #[.pointer (some ⟨g, 0, none⟩)] 82)).alloc (.cells #[.int .i64 s] 3)).alloc (.cells #[.func (.func 91) #[] #[.pointer (some ⟨w.heap.size, 0, none⟩), .pointer (some ⟨w.heap.size + 1, 0, none⟩)]] 185) →
      Way Tryz.prog encs_I (.func (.func 89) #[] #[.pointer (some ⟨w.heap.size + 2, 0, none⟩)]) (rowOf M s) w' ∧ Below w.heap.size w w' := by
    intro w' hw'
    have hB : Below w.heap.size w w' := by rw [hw']; exact (((Below.refl _ w).alloc (Nat.le_refl _) _).alloc (by simp) _).alloc (by simp; omega) _
    have hsz : w'.heap.size = w.heap.size + 3 := by rw [hw']; simp
    have b0 : Boxed w' w.heap.size 82 (.pointer (some ⟨g, 0, none⟩)) := by rw [hw']; exact ((Boxed.new w _ _).alloc _).alloc _
    have b1 : Boxed w' (w.heap.size + 1) 3 (.int .i64 s) := by
      have := Boxed.new (w.alloc (.cells #[.pointer (some ⟨g, 0, none⟩)] 82)) 3 (.int .i64 s)
      rw [World.size_alloc] at this
      rw [hw']; exact this.alloc _
    have b2 : Boxed w' (w.heap.size + 2) 185 (.func (.func 91) #[] #[.pointer (some ⟨w.heap.size, 0, none⟩), .pointer (some ⟨w.heap.size + 1, 0, none⟩)]) := by
      have := Boxed.new ((w.alloc (.cells #[.pointer (some ⟨g, 0, none⟩)] 82)).alloc (.cells #[.int .i64 s] 3)) 185 (.func (.func 91) #[] #[.pointer (some ⟨w.heap.size, 0, none⟩), .pointer (some ⟨w.heap.size + 1, 0, none⟩)])
      rw [World.size_alloc, World.size_alloc] at this
      rw [hw']; exact this
    have hg' : GrAt codI 146 g M F w' := h.keep (Grow.of_below hB) (fun k hk => hB.block k (h.2.2.1 k hk))
    have hi := row_iter_I 0 w.heap.size (w.heap.size + 1) g M F s w' b0.cell b1.cell hg' hlen hs (fun k => k < w'.heap.size) (by omega) (by omega) (fun k hk => hg'.2.2.1 k hk)
    refine ⟨⟨_, _, rfl, enters_begun_I, fun n => ?_⟩, hB⟩
    exact begun_iter_I n (w.heap.size + 2) _ _ (rowOf M s) (fun k => k < w'.heap.size) w' b2 enters_row1_I hi (by omega) (fun k hk => hk) (by have := row_length M s; omega)
  have HW := Lib.hid hway
  have HC := Lib.hid c1
  clear c1 hway h hlen hs
  go_enter Tryz.func86, Tryz.ntmps86
  go_wp2_with (first
    | (go_at_call 88; refine HC.out.mono ?_; rintro e w1 ⟨rfl, rfl⟩)
    | (go_at_call 87; refine (still_Begun_I _ _ ⟨_, _, rfl⟩).mono ?_; rintro e w2 ⟨rfl, rfl⟩)
    | fail)
  go_ret
  exact ⟨_, rfl, (HW.out _ rfl).1, (HW.out _ rfl).2⟩
set_option maxRecDepth 100000 in
set_option maxHeartbeats 2000000 in
theorem grid_Row_nil_I (s : Int) (w : World) :
    Calls Tryz.prog 86 #[.pointer none, .int .i64 s] w fun e w' => ∃ f, e = .returned f ∧ Way Tryz.prog encs_I f [] w' ∧ Below w.heap.size w w' := by
  have c1 := grid_row_I none s w
  have hway : ∀ w', w' = ((w.alloc (.cells #[.pointer none] 82)).alloc (.cells #[.int .i64 s] 3)).alloc (.cells #[.func (.func 91) #[] #[.pointer (some ⟨w.heap.size, 0, none⟩), .pointer (some ⟨w.heap.size + 1, 0, none⟩)]] 185) →
      Way Tryz.prog encs_I (.func (.func 89) #[] #[.pointer (some ⟨w.heap.size + 2, 0, none⟩)]) [] w' ∧ Below w.heap.size w w' := by
    intro w' hw'
    have hB : Below w.heap.size w w' := by rw [hw']; exact (((Below.refl _ w).alloc (Nat.le_refl _) _).alloc (by simp) _).alloc (by simp; omega) _
    have hsz : w'.heap.size = w.heap.size + 3 := by rw [hw']; simp
    have b0 : Boxed w' w.heap.size 82 (.pointer none) := by rw [hw']; exact ((Boxed.new w _ _).alloc _).alloc _
    have b2 : Boxed w' (w.heap.size + 2) 185 (.func (.func 91) #[] #[.pointer (some ⟨w.heap.size, 0, none⟩), .pointer (some ⟨w.heap.size + 1, 0, none⟩)]) := by
      have := Boxed.new ((w.alloc (.cells #[.pointer none] 82)).alloc (.cells #[.int .i64 s] 3)) 185 (.func (.func 91) #[] #[.pointer (some ⟨w.heap.size, 0, none⟩), .pointer (some ⟨w.heap.size + 1, 0, none⟩)])
      rw [World.size_alloc, World.size_alloc] at this
      rw [hw']; exact this
    have hi := row_iter_nil_I 0 w.heap.size (w.heap.size + 1) w' b0.cell (fun k => k < w'.heap.size) (by omega)
    refine ⟨⟨_, _, rfl, enters_begun_I, fun n => ?_⟩, hB⟩
    exact begun_iter_I n (w.heap.size + 2) _ _ [] (fun k => k < w'.heap.size) w' b2 enters_row1_I hi (by omega) (fun k hk => hk) (by simp)
  have HW := Lib.hid hway
  have HC := Lib.hid c1
  clear c1 hway
  go_enter Tryz.func86, Tryz.ntmps86
  go_wp2_with (first
    | (go_at_call 88; refine HC.out.mono ?_; rintro e w1 ⟨rfl, rfl⟩)
    | (go_at_call 87; refine (still_Begun_I _ _ ⟨_, _, rfl⟩).mono ?_; rintro e w2 ⟨rfl, rfl⟩)
    | fail)
  go_ret
  exact ⟨_, rfl, (HW.out _ rfl).1, (HW.out _ rfl).2⟩

end Go.Proofs.YtfgkaookgfghoaaGreat
