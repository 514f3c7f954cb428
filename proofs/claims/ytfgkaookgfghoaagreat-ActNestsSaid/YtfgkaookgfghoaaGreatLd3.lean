/-
  Ledgers: row; Locked.
-/
import Derived.Test.YtfgkaookgfghoaaGreatLd2
import Derived.Test.YtfgkaookgfghoaaGreatCel
namespace Go.Proofs.YtfgkaookgfghoaaGreat
open Go.RowKit Go.Maps Go.Shelf
attribute [local go_sem] Oper.semAt_some
set_option linter.unusedVariables false
set_option linter.unusedSimpArgs false

section
variable {P : Program} {α : Type}
/-- A range that is never left, whatever stands in the frame. -/
theorem range_outerV {n : Nat} {g : Operand} {ps : Array Tmp} {assign body : Code} {Q : Exit → Act → World → Prop} {a : Act} {w : World} {gf : Nat} {lb : Array Value} (hg : a.eval g = .func (.func gf) #[] lb) (eg : ∀ args w, (callFunc gf args).run P w = .ok (.enter gf args) w)
    {encs : α → Array Value} {xs : List α} {G : FP} {w0 : World} (hit : IterF P n gf lb encs xs G w0) (hg0 : Grow w0 w) (hG : ∀ k, G k → k < w0.heap.size ∧ w.heap[k]? = w0.heap[k]?) (hps : ∀ x, (encs x).size = ps.size)
    (Ψ : FP) (hΨ : ∀ k, Ψ k → k < w.heap.size) (I : List α → FP → World → Prop) (hI : Stab w.heap.size I) (h0 : I [] (fun _ => False) w) (up : α → Array Value → Array Value)
    (hassign : ∀ (l : Nat) (x : α) (W : World) (K : Act → World → Prop), K { tmps := up x a.tmps, defers := [] } W → assign.wpIn (Fence.wide.inRound l) n P (Exit.then K (fun _ _ _ => False)) { tmps := (ps.zip (encs x)).foldl (fun t (p, v) => t.setIfInBounds p v) a.tmps, defers := [] } W)
    (hbody : ∀ (l : Nat) (pre : List α) (x : α) (Φ : FP) (W : World), (pre ++ [x]) <+: xs → I pre Φ W → w.heap.size < l → (∀ k, Φ k → l + 1 ≤ k) → (∃ r, W.heap[l]? = some (.loop r)) → body.wpIn (Fence.wide.inRound l) n P (bodyI Ψ Φ I (fun _ _ _ _ => False) (pre ++ [x]) W) { tmps := up x a.tmps, defers := [] } W)
    (hdone : ∀ (D : Nat) (Φ : FP) (W : World), I xs Φ W → Only Ψ (fun _ => False) w W → w.heap.size ≤ D → ¬ Φ D → W.heap[D]? = some (.deferred (some [])) → Q .normal { a with defers := { target := .collected D, args := #[] } :: a.defers } W) :
    (Code.rangeFunc g ps assign body).wpIn Fence.wide (n + 2) P Q a w :=
  range_outerF hg eg hit hg0 hG hps Ψ hΨ I (fun _ _ _ _ => False) hI (fun c _ _ _ h => h.elim) h0 (fun x => { tmps := up x a.tmps, defers := [] }) hassign hbody hdone (fun D Φ c pre W _ h => h.elim)
end

set_option maxRecDepth 100000 in
theorem ledger_row {N g gl : Nat} {A : Acc} {M : Cls Int} {w : World} (h : LdAt N g gl A M w) {a : Int} (ha : (Lit.int .i64 a).wf = true) : Calls Tryz.prog 83 #[.pointer (some ⟨g, 0, none⟩), .int .i64 a] w fun e w' => ∃ f, e = .returned f ∧ Way Tryz.prog encs_I f (rowOf M a) w' ∧ Below w.heap.size w w' := by
  have hp := h.ptr
  obtain ⟨F, hF, -⟩ := h.gr
  have HF := Lib.hid (And.intro hF (And.intro h.len ha))
  clear h hF ha
  go_enter Tryz.func83, Tryz.ntmps83
  go_wp2_with (first | (go_at_call 86; refine (grid_Row_I HF.out.1 (by have := HF.out.2.1; omega) HF.out.2.2).mono ?_; rintro e w' ⟨f, rfl, hw, hb⟩; have HW := Lib.hid (And.intro hw hb); clear hw hb) | fail)
  go_ret
  exact ⟨_, rfl, HW.out⟩
theorem ledger_row_nil (a : Int) (w : World) : Calls Tryz.prog 83 #[.pointer none, .int .i64 a] w fun e w' => ∃ f, e = .returned f ∧ Way Tryz.prog encs_I f [] w' ∧ Below w.heap.size w w' := by
  go_enter Tryz.func83, Tryz.ntmps83
  go_wp2_with (first | (go_at_call 86; refine (grid_Row_nil_I a w).mono ?_; rintro e w' ⟨f, rfl, hw, hb⟩; have HW := Lib.hid (And.intro hw hb); clear hw hb) | fail)
  go_ret
  exact ⟨_, rfl, HW.out⟩

/-- What Locked's range holds. -/
def LckJ (N0 gb : Nat) (pre : List (Int × Int)) (Φ : FP) (W : World) : Prop := (∀ k, ¬ Φ k) ∧ Boxed W gb 3 (.int .i64 (maxTo pre)) ∧ N0 ≤ W.heap.size
theorem LckJ.stab {N0 gb : Nat} (h1 : gb < N0) : Stab N0 (LckJ N0 gb) := by
  rintro pre Φ W ⟨h0, h, hs⟩
  exact ⟨fun k hk => (h0 k hk).elim, hs, fun W' hg hk => ⟨h0, (hk gb (.inl h1)).trans h, Nat.le_trans hs hg.size⟩⟩
set_option maxHeartbeats 4000000 in
set_option maxRecDepth 100000 in
theorem locked_of (l : Value) (a : Int) (xs : List (Int × Int)) (w : World) (hrow : ∀ w', Below w.heap.size w w' → Calls Tryz.prog 83 #[l, .int .i64 a] w' fun e w'' => ∃ f, e = .returned f ∧ Way Tryz.prog encs_I f xs w'' ∧ Below w'.heap.size w' w'') :
    Calls Tryz.prog 75 #[l, .int .i64 a] w fun e w' => e = .returned (.int .i64 (maxTo xs)) ∧ Below w.heap.size w w' := by
  refine (callsIn_wide (n := 2)).1 ?_
  refine callsIn_of_wp_marks Tryz.func75 rfl trivial ?_ rfl
  simp only [Tryz.ntmps75, List.size_toArray, List.length_cons, List.length_nil, Nat.reduceAdd, Nat.reduceSub, Array.replicate_succ, Array.replicate_zero, List.push_toArray, List.append_toArray, List.nil_append, List.cons_append]
  have HROW := Lib.hid hrow
  clear hrow
  obtain ⟨w1, hw1⟩ : ∃ w1, w1 = w.alloc (.cells #[.int .i64 0] 3) := ⟨_, rfl⟩
  have hb1 : Below w.heap.size w w1 := by rw [hw1]; exact (Below.refl _ w).alloc (Nat.le_refl _) _
  have x0 : Boxed w1 w.heap.size 3 (.int .i64 0) := by rw [hw1]; exact Boxed.new w _ _
  have hs1 : w1.heap.size = w.heap.size + 1 := by rw [hw1]; simp
  have HW1 := Lib.hid hw1
  have H1 := Lib.hid (And.intro hb1 (And.intro x0 hs1))
  clear hw1 hb1 x0 hs1
  gi_wp2_with (first
    | (refine ⟨trivial, ?_⟩; gi_at_call 83; rw [← HW1.out]; refine (callsIn_wide.2 (HROW.out w1 H1.out.1)).mono ?_; rintro e w2 ⟨f, rfl, hway, hb⟩; obtain ⟨gf, lb, rfl, hit⟩ := hway; have H2 := Lib.hid (And.intro hit hb); clear hit hb)
    | fail)
  obtain ⟨gb, hgb⟩ : ∃ gb, gb = w.heap.size := ⟨_, rfl⟩
  obtain ⟨hb1, x0, hs1⟩ := H1.out
  rw [← hgb] at x0 hs1 ⊢
  obtain ⟨hit, hb2⟩ := H2.out
  have x2 : Boxed w2 gb 3 (.int .i64 (maxTo [])) := (hb2.block gb (by omega)).trans x0
  have hs2 := hb2.size
  have hgl : gb < w2.heap.size := by omega
  have HGB := Lib.hid hgb
  clear hgb
  refine range_outerV (n := 0) (gf := gf) (lb := lb) rfl hit.1 (hit.2 0) (Grow.refl w2) (fun k hk => ⟨hk, rfl⟩) (fun _ => rfl)
    (fun k => k = gb) (by rintro k rfl; exact hgl) (LckJ w2.heap.size gb) (LckJ.stab hgl) ⟨fun _ h => h, x2, Nat.le_refl _⟩
    (fun x T => ((T.setIfInBounds 11 (.int .i64 x.1)).setIfInBounds 12 (.int .i64 x.2)).setIfInBounds 7 (.int .i64 x.2)) ?assign ?body ?done
  case assign =>
    intro l x W K hK
    simp only [encs_I]
    gi_wp2
    exact hK
  case body =>
    rintro l pre x Φ W hpx ⟨hno, hbx, hsz⟩ hl hΦ -
    have c1 := hbx.cell
    have f1 := hbx.frozen
    have hset : Boxed (W.setCell ⟨gb, 0, none⟩ (.int .i64 (max (maxTo pre) x.2))) gb 3 (.int .i64 (max (maxTo pre) x.2)) := hbx.set _
    obtain ⟨m, hm⟩ : ∃ m, m = maxTo pre := ⟨_, rfl⟩
    obtain ⟨y, hy⟩ : ∃ y, y = x.2 := ⟨_, rfl⟩
    rw [← hm] at c1 hset
    rw [← hy] at hset ⊢
    have hmx : maxTo (pre ++ [x]) = max m y := by rw [maxTo_snoc, hm, hy]
    have HS := Lib.hid (And.intro hset (And.intro hno (And.intro hsz hmx)))
    clear hbx hset hno hsz hmx hm hy
    gi_wp2_with fail
    obtain ⟨hset, hno, hsz, hmx⟩ := HS.out
    exact ⟨Φ, fun k h => .inl h, ⟨grow_set, fun k hk h1 h2 => Below.heap_setCell _ _ _ k h1⟩, hno, by rw [hmx]; exact hset, by simp [World.setCell]; exact hsz⟩
  case done =>
    rintro D Φ W3 ⟨hno, hbx, hsz⟩ hon hD hnD hK
    have c1 := hbx.cell
    have HD := Lib.hid (And.intro hno (And.intro hon (And.intro hD hK)))
    clear hno hbx hon hD hK hnD
    gi_wp2_with fail
    obtain ⟨hno, hon, hD, hK⟩ := HD.out
    have hgb := HGB.out
    refine marks_leave [D] W3 (by simp) (fun d hd => ?_) (fun w' hg hk => ⟨.int .i64 (maxTo xs), by simp [results, Tryz.results75, go_sem], rfl, ?_⟩)
    · simp only [List.mem_cons, List.not_mem_nil, or_false] at hd
      subst hd; exact hK
    · have hg0 : Grow w w' := ((Grow.of_below hb1).trans (Grow.of_below hb2)).trans (hon.grow.trans hg)
      refine ⟨hg0.os, hg0.tape, hg0.output, hg0.size, fun j hj => ?_⟩
      rw [hk j (by simp; omega), hon.block j (by omega) (by omega) (fun h => h), hb2.block j (by omega)]
      exact hb1.block j hj
theorem ledger_Locked {N g gl : Nat} {A : Acc} {M : Cls Int} {w : World} (h : LdAt N g gl A M w) {a : Int} (ha : (Lit.int .i64 a).wf = true) : Calls Tryz.prog 75 #[.pointer (some ⟨g, 0, none⟩), .int .i64 a] w fun e w' => e = .returned (.int .i64 (lockedOf M a)) ∧ Below w.heap.size w w' :=
  locked_of _ a (rowOf M a) w (fun w' hb => ledger_row (h.below hb) ha)
theorem ledger_Locked_nil (a : Int) (w : World) : Calls Tryz.prog 75 #[.pointer none, .int .i64 a] w fun e w' => e = .returned (.int .i64 0) ∧ Below w.heap.size w w' :=
  locked_of _ a [] w (fun w' hb => ledger_row_nil a w')
end Go.Proofs.YtfgkaookgfghoaaGreat
