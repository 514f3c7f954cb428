/-
  The law's locks over a nil Ledger; the law LedgerOfNothing, walked.
-/
import Derived.Test.YtjmaeiphjjjdoaaLdNi
namespace Go.Proofs.Ytjmaeiphjjjdoaa
open Go.RowKit Go.Maps Go.Shelf
attribute [local go_sem] Oper.semAt_some
set_option linter.unusedVariables false
set_option linter.unusedSimpArgs false

section
variable {P : Program} {α : Type}
theorem range_outerVI {n : Nat} {g : Operand} {ps : Array Tmp} {assign body : Code} {Q : Exit → Act → World → Prop} {a : Act} {w : World} {gf : Nat} {lb : Array Value} (hg : a.eval g = .func (.func gf) #[] lb) (eg : ∀ args w, (callFunc gf args).run P w = .ok (.enter gf args) w)
    {encs : α → Array Value} {xs : List α} {G : FP} {w0 : World} (hit : Iter P n gf lb encs xs G w0) (hg0 : Grow w0 w) (hG : ∀ k, G k → k < w0.heap.size ∧ w.heap[k]? = w0.heap[k]?) (hps : ∀ x, (encs x).size = ps.size)
    (Ψ : FP) (hΨ : ∀ k, Ψ k → k < w.heap.size ∧ ¬ G k) (I : List α → FP → World → Prop) (hI : Stab w.heap.size I) (h0 : I [] (fun _ => False) w) (up : α → Array Value → Array Value)
    (hassign : ∀ (l : Nat) (x : α) (W : World) (K : Act → World → Prop), K { tmps := up x a.tmps, defers := [] } W → assign.wpIn (Fence.wide.inRound l) n P (Exit.then K (fun _ _ _ => False)) { tmps := (ps.zip (encs x)).foldl (fun t (p, v) => t.setIfInBounds p v) a.tmps, defers := [] } W)
    (hbody : ∀ (l : Nat) (pre : List α) (x : α) (Φ : FP) (W : World), (pre ++ [x]) <+: xs → I pre Φ W → w.heap.size < l → (∀ k, Φ k → l + 1 ≤ k) → (∃ r, W.heap[l]? = some (.loop r)) → body.wpIn (Fence.wide.inRound l) n P (bodyI Ψ Φ I (fun _ _ _ _ => False) (pre ++ [x]) W) { tmps := up x a.tmps, defers := [] } W)
    (hdone : ∀ (D : Nat) (Φ : FP) (W : World), I xs Φ W → Only Ψ (fun _ => False) w W → w.heap.size ≤ D → ¬ Φ D → W.heap[D]? = some (.deferred (some [])) → Q .normal { a with defers := { target := .collected D, args := #[] } :: a.defers } W) :
    (Code.rangeFunc g ps assign body).wpIn Fence.wide (n + 2) P Q a w :=
  range_outer hg eg hit hg0 hG hps Ψ hΨ I (fun _ _ _ _ => False) hI (fun c _ _ _ h => h.elim) h0 (fun x => { tmps := up x a.tmps, defers := [] }) hassign hbody hdone (fun D Φ c pre W _ h => h.elim)
end
def NilJ (N0 : Nat) (pre : List (Int × Int)) (Φ : FP) (W : World) : Prop := (∀ k, ¬ Φ k) ∧ N0 ≤ W.heap.size
theorem NilJ.stab {N0 : Nat} : Stab N0 (NilJ N0) := by
  rintro pre Φ W ⟨h0, hs⟩
  exact ⟨fun k hk => (h0 k hk).elim, hs, fun W' hg hk => ⟨h0, Nat.le_trans hs hg.size⟩⟩
set_option maxHeartbeats 4000000 in
set_option maxRecDepth 100000 in
theorem law_locks_nil (a : Int) (w : World) : Calls Try.prog 18 #[.pointer none, .int .i64 a] w fun e w' => e = .returned (.tuple #[.slice none 0 0, .bool true]) ∧ Below w.heap.size w w' := by
  refine (callsIn_wide (n := 2)).1 ?_
  have q1 : ∀ g lb w, (binOp .eql 72 (.func g #[] lb) .nilFunc).run Try.prog w = .ok (.bool false) w := fun g lb w => by kernel_rfl
  refine callsIn_of_wp_marks Try.func18 rfl trivial ?_ rfl
  simp only [Try.ntmps18, List.size_toArray, List.length_cons, List.length_nil, Nat.reduceAdd, Nat.reduceSub, Array.replicate_succ, Array.replicate_zero, List.push_toArray, List.append_toArray, List.nil_append, List.cons_append]
  obtain ⟨w1, hw1⟩ : ∃ w1, w1 = (w.alloc (.cells #[.slice none 0 0] 35)).alloc (.cells #[.bool false] 4) := ⟨_, rfl⟩
  have hb1 : Below w.heap.size w w1 := by rw [hw1]; exact ((Below.refl _ w).alloc (Nat.le_refl _) _).alloc (by simp) _
  have x0 : Boxed w1 w.heap.size 35 (.slice none 0 0) := by rw [hw1]; exact (Boxed.new w _ _).alloc _
  have x1 : Boxed w1 (w.heap.size + 1) 4 (.bool false) := by
    have := Boxed.new (w.alloc (.cells #[.slice none 0 0] 35)) 4 (.bool false)
    rw [World.size_alloc] at this
    rw [hw1]; exact this
  have hs1 : w1.heap.size = w.heap.size + 2 := by rw [hw1]; simp
  have HW1 := Lib.hid hw1
  have H1 := Lib.hid (And.intro hb1 (And.intro x0 (And.intro x1 hs1)))
  clear hw1 hb1 x0 x1 hs1
  gi_wp2_with (first
    | (refine ⟨trivial, ?_⟩; gi_at_call 45; rw [← HW1.out]; refine (callsIn_wide.2 (locks_of (.pointer none) a [] (by simp) w1 (ledger_row_nil a w1))).mono ?_; rintro e w2 ⟨bx, v, rfl, hbx, ho, hn, hb⟩; have H2 := Lib.hid (And.intro hbx (And.intro ho (And.intro hn hb))); clear hbx ho hn hb)
    | fail)
  obtain ⟨s, hs⟩ : ∃ s, s = w.heap.size := ⟨_, rfl⟩
  obtain ⟨rb, hrb⟩ : ∃ rb, rb = s + 1 := ⟨_, rfl⟩
  obtain ⟨hb1, x0, x1, hs1⟩ := H1.out
  rw [← hs] at x0 x1 hs1 hb1 ⊢
  rw [← hrb] at x1 ⊢
  obtain ⟨hbx, ho, hn, hb2⟩ := H2.out
  obtain ⟨w3, hw3⟩ : ∃ w3, w3 = w2.alloc (.cells #[.slice none 0 0] 35) := ⟨_, rfl⟩
  obtain ⟨kb, hkb⟩ : ∃ kb, kb = w2.heap.size := ⟨_, rfl⟩
  rw [← hw3, ← hkb]
  have hb3 : Below w2.heap.size w2 w3 := by rw [hw3]; exact (Below.refl _ w2).alloc (Nat.le_refl _) _
  have hs3 : w3.heap.size = kb + 1 := by rw [hw3, hkb]; simp
  have y2 : Boxed w3 kb 35 (.slice none 0 0) := by rw [hw3, hkb]; exact Boxed.new w2 _ _
  have s12 := hb2.size
  have y0 : Boxed w3 s 35 (.slice none 0 0) := (hb3.block s (by omega)).trans ((hb2.block s (by omega)).trans x0)
  have y1 : Boxed w3 rb 4 (.bool false) := (hb3.block rb (by omega)).trans ((hb2.block rb (by omega)).trans x1)
  have hit := now1_iter_I 0 bx v [] w2 hbx ho.reads (by simp) (fun k => k = bx ∨ v.ownBlock = some k) (.inl rfl) (fun k hk => .inr hk)
  have HIT := Lib.hid hit
  have l0 : s < rb := by omega
  have l1 : rb < kb := by omega
  have hwS : s = w.heap.size := hs
  have HY := Lib.hid (And.intro y0 (And.intro y1 (And.intro y2 (And.intro hs (And.intro hb1 (And.intro hb2 (And.intro hb3 (And.intro hs1 hs3))))))))
  have hGl : ∀ k, (k = bx ∨ v.ownBlock = some k) → k < w2.heap.size := fun k hk => hk.elim (fun e => by rw [e]; exact hbx.lt) (fun e => (ho.block e).2)
  have h3l : kb < w3.heap.size := by omega
  have en := enters_now_I
  clear hs hrb hb1 x0 x1 hs1 hkb hw3 hs3 y0 y1 y2 s12 hit hwS hn
  refine range_outerVI (n := 0) (gf := 64) (lb := #[.pointer (some ⟨bx, 0, none⟩)]) (xs := []) rfl en HIT.out (Grow.of_below hb3) (fun k hk => ⟨hGl k hk, hb3.block k (hGl k hk)⟩) (fun _ => rfl)
    (fun k => False) (fun k hk => hk.elim) (NilJ w3.heap.size) NilJ.stab ⟨fun _ h => h, Nat.le_refl _⟩
    (fun x T => (((T.setIfInBounds 16 (.int .i64 x.1)).setIfInBounds 17 (.int .i64 x.2)).setIfInBounds 8 (.int .i64 x.1)).setIfInBounds 9 (.int .i64 x.2)) ?assign ?body ?done
  case assign =>
    intro l x W K hK
    simp only [encs_I]
    gi_wp2
    exact hK
  case body =>
    rintro l pre x Φ W hpx - - - -
    have := hpx.length_le
    simp at this
  case done =>
    rintro D Φ W3 ⟨hno, hsz⟩ hon hD hnD hK
    obtain ⟨y0, y1, y2, hs, hb1, hb2, hb3, hs1, hs3⟩ := HY.out
    have hk3 : ∀ k, k < w3.heap.size → W3.heap[k]? = w3.heap[k]? := fun k hk => hon.block k hk (fun h => h) (fun h => h)
    have z0 : Boxed W3 s 35 (.slice none 0 0) := (hk3 s (by omega)).trans y0
    have z1 : Boxed W3 rb 4 (.bool false) := (hk3 rb (by omega)).trans y1
    have z2 : Boxed W3 kb 35 (.slice none 0 0) := (hk3 kb (by omega)).trans y2
    have c0 := z0.cell
    have c1 := z1.cell
    have c2 := z2.cell
    have f0 := z0.frozen
    have f1 := z1.frozen
    have HD := Lib.hid (And.intro hon (And.intro hD (And.intro hK (And.intro z0 z1))))
    clear hno hsz hon hD hnD hK y0 y1 y2 hs hb1 hb2 hb3 hs1 hs3 hk3 z0 z1 z2
    gi_wp2_with fail
    obtain ⟨w5, hw5⟩ : ∃ w5, w5 = (W3.setCell ⟨s, 0, none⟩ (.slice none 0 0)).setCell ⟨rb, 0, none⟩ (.bool true) := ⟨_, rfl⟩
    rw [← hw5]
    obtain ⟨hon, hD, hK, z0, z1⟩ := HD.out
    obtain ⟨y0, y1, y2, hs, hb1, hb2, hb3, hs1, hs3⟩ := HY.out
    have ho5 : ∀ k, k ≠ s → k ≠ rb → w5.heap[k]? = W3.heap[k]? := fun k h1 h2 => by
      rw [hw5, Below.heap_setCell _ _ _ k h2, Below.heap_setCell _ _ _ k h1]
    have b0 : Boxed w5 s 35 (.slice none 0 0) := by
      rw [hw5]; exact (Below.heap_setCell _ _ _ s (by show s ≠ rb; omega)).trans (z0.set _)
    have b1 : Boxed w5 rb 4 (.bool true) := by
      rw [hw5]
      have : Boxed (W3.setCell ⟨s, 0, none⟩ (.slice none 0 0)) rb 4 (.bool false) := (Below.heap_setCell _ _ _ rb (by show rb ≠ s; omega)).trans z1
      exact this.set _
    have hg5 : Grow W3 w5 := by rw [hw5]; exact grow_set.trans grow_set
    have hs2 := hb2.size
    refine marks_leave [D] w5 (by simp) (fun d hd => ?_) (fun w' hg hk => ?_)
    · simp only [List.mem_cons, List.not_mem_nil, or_false] at hd
      subst hd; rw [ho5 _ (by omega) (by omega)]; exact hK
    · have c0' := Boxed.cell (show Boxed w' s 35 (.slice none 0 0) from (hk s (by simp; omega)).trans b0)
      have c1' := Boxed.cell (show Boxed w' rb 4 (.bool true) from (hk rb (by simp; omega)).trans b1)
      refine ⟨.tuple #[.slice none 0 0, .bool true], by simp [results, Try.results18, go_sem, c0', c1'], rfl, ?_⟩
      have hg0 : Grow w w' := (((Grow.of_below hb1).trans (Grow.of_below hb2)).trans (Grow.of_below hb3)).trans (hon.grow.trans (hg5.trans hg))
      refine ⟨hg0.os, hg0.tape, hg0.output, hg0.size, fun j hj => ?_⟩
      rw [hk j (by simp; omega), ho5 j (by omega) (by omega), hon.block j (by omega) (fun h => h) (fun h => h), hb3.block j (by omega), hb2.block j (by omega)]
      exact hb1.block j (by omega)
set_option maxHeartbeats 4000000 in
set_option maxRecDepth 100000 in
theorem ledgerOfNothing_walk (a n : Int) (wa : (Lit.int .i64 a).wf = true) (wn : (Lit.int .i64 n).wf = true) (w : World) : Calls Try.prog 10 #[.int .i64 a, .int .i64 n] w fun e w' => e = .returned (.bool true) ∧ Below w.heap.size w w' := by
  clear wa wn
  go_enter Try.func10, Try.ntmps10
  go_wp2_with (first
    | (go_at_call 26; refine (nil_Lock a 1 n w).mono ?_; rintro e w' ⟨rfl, hw⟩; rw [hw]; clear hw w')
    | (go_at_call 18; refine (law_locks_nil a w).mono ?_; rintro e w1 ⟨rfl, hb⟩; have H1 := Lib.hid hb; clear hb)
    | (go_at_call 29; refine (ledger_Free_nil a _).mono ?_; rintro e w' ⟨rfl, hw⟩; rw [hw]; clear hw w')
    | (go_at_call 30; refine (ledger_Held_nil a _).mono ?_; rintro e w' ⟨rfl, hw⟩; rw [hw]; clear hw w')
    | (go_at_call 31; refine (ledger_Locked_nil a _).mono ?_; rintro e w2 ⟨rfl, hb⟩; have H2 := Lib.hid (H1.out.trans (hb.mono H1.out.size)); clear hb)
    | (go_at_call 21; refine (nil_Issued _).mono ?_; rintro e w' ⟨rfl, hw⟩; rw [hw]; clear hw w')
    | (go_at_call 24; refine (nil_Release a n _).mono ?_; rintro e w' ⟨rfl, hw⟩; rw [hw]; clear hw w')
    | (go_at_call 25; refine (nil_Slash a n _).mono ?_; rintro e w' ⟨rfl, hw⟩; rw [hw]; clear hw w')
    | (go_at_call 22; refine (nil_Transfer a 1 n _).mono ?_; rintro e w' ⟨rfl, hw⟩; rw [hw]; clear hw w')
    | (go_at_call 23; refine (nil_Reserve a n _).mono ?_; rintro e w' ⟨rfl, hw⟩; rw [hw]; clear hw w')
    | (go_at_call 27; refine (nil_Mint a n _).mono ?_; rintro e w' ⟨rfl, hw⟩; rw [hw]; clear hw w')
    | (go_at_call 28; refine (nil_Burn a n _).mono ?_; rintro e w' ⟨rfl, hw⟩; rw [hw]; clear hw w')
    | (go_at_call 19; refine (law_known _).mono ?_; rintro e w9 ⟨rfl, hb⟩; have H9 := Lib.hid (H2.out.trans (hb.mono H2.out.size)); clear hb)
    | fail)
  go_ret
  exact ⟨rfl, H9.out⟩
end Go.Proofs.Ytjmaeiphjjjdoaa
