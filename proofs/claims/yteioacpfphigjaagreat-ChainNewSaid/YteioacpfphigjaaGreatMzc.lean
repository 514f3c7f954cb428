/-
  Joined texts.
-/
import Derived.Shelf.Abstract
import Derived.Shelf.RegionOpen
import Derived.TacticsInMore
import Derived.LoopNIn
import Derived.LoopIn
import Derived.Deep.DeepCutAuto
import Derived.BigRegion
import Derived.RegionTactic
import Derived.Deep.RegionHeld3
import Derived.Test.YteioacpfphigjaaGreatMzb

section
namespace Go.Proofs.YteioacpfphigjaaGreat
open Go.RowKit Go.Maps Go.Sort Go.Shelf
set_option linter.unusedVariables false
set_option linter.unusedSimpArgs false

set_option maxHeartbeats 1000000 in
theorem rising_R_nil (w : World) : Calls Tryz.prog 124 #[.map none] w fun e w' => e = .returned (.slice none 0 0) ∧ Below w.heap.size w w' := by
  refine (callsIn_wide (n := 6)).1 ?_
  have hseq : SeqGives Fence.wide 2 Tryz.prog 152 #[.pointer (some ⟨w.heap.size, 0, none⟩)] encZ (fun ss : List Int => ss = []) 0 (w.alloc (.cells #[.map none] 246)) :=
    AnyZI.keys_gives_nil (ρ := Tryz.keysR_ren) { Tryz.keysR with } Fence.wide _ trivial rfl w.heap.size _ (by simp) (by simp)
  have cK : ∀ mb W, CallsIn Fence.wide 5 Tryz.prog 138 #[.map mb] W fun e w' => e = .returned (.func (.func 152) #[] #[.pointer (some ⟨W.heap.size, 0, none⟩)]) ∧ w' = W.alloc (.cells #[.map mb] 246) := fun mb W => AnyZI.keys_in Tryz.keysR Fence.wide 5 trivial rfl mb W
  have cS := AnyZI.sorted_in Tryz.sortedA Fence.wide 5 trivial trivial trivial trivial rfl (by omega) (sortsA _) (enters_of Tryz.func151 (by kernel_rfl) rfl) 152 #[.pointer (some ⟨w.heap.size, 0, none⟩)] trivial (enters_of Tryz.func152 (by kernel_rfl) rfl) _ 0 (Nat.zero_le _) (by omega) _ hseq
  change CallsIn _ _ Tryz.prog 137 _ _ _ at cS
  have hfK : Fence.wide.fn 138 := trivial
  have hfS : Fence.wide.fn 137 := trivial
  refine callsIn_of_wp Tryz.func124 rfl trivial ?_ rfl
  simp only [Tryz.ntmps124, List.size_toArray, List.length_cons, List.length_nil, Nat.reduceAdd, Nat.reduceSub, Array.replicate_succ, Array.replicate_zero, List.push_toArray, List.append_toArray, List.nil_append, List.cons_append]
  gi_wp2_with (first
    | (gi_at_call 138; refine (cK _ _).mono ?_; rintro e w' ⟨rfl, rfl⟩)
    | (gi_at_call 137; refine cS.mono ?_; rintro e w' ⟨v, ss, rfl, rfl, hrow, hnil, hb⟩; obtain rfl : v = .slice none 0 0 := hnil.2 rfl)
    | fail)
  go_ret
  exact ⟨rfl, ((Below.refl _ w).alloc (Nat.le_refl _) _).trans (hb.mono (by simp))⟩

theorem enters_row1_R : ∀ args w, (callFunc 123 args).run Tryz.prog w = .ok (.enter 123 args) w := enters_of Tryz.func123 (by kernel_rfl) rfl
theorem grid_row_R (p : Option Addr) (s : Int) (w : World) : Calls Tryz.prog 99 #[.pointer p, .int .i64 s] w fun e w' => e = .returned (.func (.func 123) #[] #[.pointer (some ⟨w.heap.size, 0, none⟩), .pointer (some ⟨w.heap.size + 1, 0, none⟩)]) ∧ w' = (w.alloc (.cells #[.pointer p] 88)).alloc (.cells #[.int .i64 s] 3) := by
  go_enter Tryz.func99, Tryz.ntmps99
  go_wp2
  go_ret
  exact ⟨rfl, rfl⟩
attribute [local go_sem] Oper.semAt_some
set_option maxHeartbeats 4000000 in
set_option maxRecDepth 100000 in
theorem rowR_iter (n : Nat) (bx ba g : Nat) (s : Int) (w : World) (hbx : w.cell? ⟨bx, 0, none⟩ = some (.pointer (some ⟨g, 0, none⟩))) (hba : w.cell? ⟨ba, 0, none⟩ = some (.int .i64 s)) (hg : w.heap[g]? = some (.cells #[.map none, .map none, .int .i64 0] 160 (0, 0)))
    (hs : (Lit.int .i64 s).wf = true) (G : FP) (hGb : G bx) (hGa : G ba) (hGg : G g) :
    Iter Tryz.prog n 123 #[.pointer (some ⟨bx, 0, none⟩), .pointer (some ⟨ba, 0, none⟩)] (fun x : Empty => x.elim) [] G w := by
  intro lp B Ψ J Jx Φ0 W hgw hG hΨ hΦ0 hJ hJx hround h0
  have hc1 : W.cell? ⟨bx, 0, none⟩ = some (.pointer (some ⟨g, 0, none⟩)) := (World.cell?_of_block (hG bx hGb).2).trans hbx
  have hc2 : W.cell? ⟨ba, 0, none⟩ = some (.int .i64 s) := (World.cell?_of_block (hG ba hGa).2).trans hba
  have hc3 : W.cell? ⟨g, 0, none⟩ = some (.map none) := by rw [World.cell?, (hG g hGg).2, hg]; rfl
  have hlm : (Instr.lookup 158 (.map none) (.int .i64 s) false).run Tryz.prog W.drew = .ok (.map none) W.drew := nil_look Tryz.underlying158 (Tryz.zeroValue246 W.drew) hs false
  have mixed : Tryz.prog.follows .mixedOrders = true := by kernel_rfl
  obtain ⟨hs1, hs2, hs3⟩ := hJ _ _ _ h0
  refine callsIn_of_wp Tryz.func123 rfl trivial ?_ rfl
  simp only [Tryz.ntmps123, List.size_toArray, List.length_cons, List.length_nil, Nat.reduceAdd, Nat.reduceSub, Array.replicate_succ, Array.replicate_zero, List.push_toArray, List.append_toArray, List.nil_append, List.cons_append]
  have HH0 := Lib.hid h0
  have HS3 := Lib.hid hs3
  clear hround hJ hJx hG hΨ hΦ0 hbx hba hg hGb hGa hGg h0 hs3
  gi_wp2_with fail
  refine region_meet (R := fun a wc => a = { tmps := #[.func (.yield lp) #[] #[], .pointer (some ⟨bx, 0, none⟩), .pointer (some ⟨ba, 0, none⟩), undef, undef, undef, .pointer (some ⟨g, 0, none⟩), .bool false, .pointer (some ⟨g, 0, none⟩), .pointer (some ⟨g, 0, none⟩), .pointer (some ⟨g, 0, none⟩), .map none, .int .i64 s, .map none, .slice none 0 0, .int .i64 0, .int .i64 0, undef, undef, undef, undef, undef, undef, undef, undef, undef, undef, undef, undef, undef, undef, undef, undef], defers := [] } ∧ Below W.drew.heap.size W.drew wc) ?h1 ?h2
  case h1 =>
    go_region_with (first | (go_at_call 124; refine (rising_R_nil _).mono ?_; rintro e wc ⟨rfl, hbc⟩; have HBC := Lib.hid hbc; clear hbc) | fail)
    all_goals exact ⟨rfl, HBC.out⟩
  case h2 =>
    rintro _ wc ⟨rfl, hbc⟩
    have hbc' : Below W.heap.size W wc := ((Below.refl _ W).drew).trans (show Below W.heap.size W.drew wc from hbc)
    have hJc : J [] Φ0 wc := HS3.out wc (Grow.of_below hbc') (fun k hk => hbc'.block k (hk.elim (fun h => by omega) (fun h => (hs1 k h).2)))
    have HO1 := Lib.hid (Only.of_later (Ψ := Ψ) (Φ := Φ0) hbc')
    have HJC := Lib.hid hJc
    clear hbc hbc' hJc hc1 hc2 hc3 hlm
    gi_wp2_with fail
    gi_loopw [16] (fun r wr => r = .int .i64 0 ∧ wr = wc) (fun _ _ => 0)
    case atStart => exact ⟨rfl, rfl⟩
    case round =>
      obtain ⟨rfl, rfl⟩ := hrel
      gi_wp2
      refine bodyPost_end (results_none rfl _ _ _) rfl ?_
      exact ⟨⟨_, rfl⟩, Φ0, fun j h => .inl h, HO1.out, .inl HJC.out⟩
end Go.Proofs.YteioacpfphigjaaGreat
end

section
namespace Go.Proofs.YteioacpfphigjaaGreat
open Go.RowKit
set_option linter.unusedVariables false

/-- AN ITERATOR's PROMISE, whatever the body does with its data once it has begun: function gf, which has captured lb, tells xs, one behind the other, to whatever body, till that says no; its data lie in the blocks of G, as they lay in w. -/
def IterF {α : Type} (P : Program) (n : Nat) (gf : Nat) (lb : Array Value) (encs : α → Array Value) (xs : List α) (G : FP) (w : World) : Prop :=
  ∀ (l B : Nat) (Ψ : FP) (J Jx : List α → FP → World → Prop) (Φ0 : FP) (W : World), Grow w W → (∀ k, G k → k < w.heap.size ∧ W.heap[k]? = w.heap[k]?) → (∀ k, Ψ k → k < B) → Stab B J → Stab B Jx →
    (∀ pre x Φ W1, (pre ++ [x]) <+: xs → J pre Φ W1 → RoundOk P n l encs Ψ J Jx pre x Φ W1) → J [] Φ0 W →
    CallsIn Fence.wide (n + 1) P gf (#[.func (.yield l) #[] #[]] ++ lb) W fun e W' => (∃ v, e = .returned v) ∧ Leaves Ψ Φ0 W (fun Φ' W' => J xs Φ' W' ∨ ∃ pre, pre <+: xs ∧ Jx pre Φ' W') W'

section
variable {P : Program} {α : Type}
/-- **A LOOP OVER AN ITERATOR, in a function's own frame.** -/
theorem range_outerF {n : Nat} {g : Operand} {ps : Array Tmp} {assign body : Code} {Q : Exit → Act → World → Prop} {a : Act} {w : World} {gf : Nat} {lb : Array Value} (hg : a.eval g = .func (.func gf) #[] lb) (eg : ∀ args w, (callFunc gf args).run P w = .ok (.enter gf args) w)
    {encs : α → Array Value} {xs : List α} {G : FP} {w0 : World} (hit : IterF P n gf lb encs xs G w0) (hg0 : Grow w0 w) (hG : ∀ k, G k → k < w0.heap.size ∧ w.heap[k]? = w0.heap[k]?) (hps : ∀ x, (encs x).size = ps.size)
    (Ψ : FP) (hΨ : ∀ k, Ψ k → k < w.heap.size) (I : List α → FP → World → Prop) (Ix : Code → List α → FP → World → Prop) (hI : Stab w.heap.size I) (hIx : ∀ c, Stab w.heap.size (Ix c)) (h0 : I [] (fun _ => False) w) (a₁ : α → Act)
    (hassign : ∀ (l : Nat) (x : α) (W : World) (K : Act → World → Prop), K (a₁ x) W → assign.wpIn (Fence.wide.inRound l) n P (Exit.then K (fun _ _ _ => False)) { tmps := (ps.zip (encs x)).foldl (fun t (p, v) => t.setIfInBounds p v) a.tmps, defers := [] } W)
    (hbody : ∀ (l : Nat) (pre : List α) (x : α) (Φ : FP) (W : World), (pre ++ [x]) <+: xs → I pre Φ W → w.heap.size < l → (∀ k, Φ k → l + 1 ≤ k) → (∃ r, W.heap[l]? = some (.loop r)) → body.wpIn (Fence.wide.inRound l) n P (bodyI Ψ Φ I Ix (pre ++ [x]) W) (a₁ x) W)
    (hdone : ∀ (D : Nat) (Φ : FP) (W : World), I xs Φ W → Only Ψ (fun _ => False) w W → w.heap.size ≤ D → ¬ Φ D → W.heap[D]? = some (.deferred (some [])) → Q .normal { a with defers := { target := .collected D, args := #[] } :: a.defers } W)
    (hstop : ∀ (D : Nat) (Φ : FP) (c : Code) (pre : List α) (W : World), pre <+: xs → Ix c pre Φ W → Only Ψ (fun _ => False) w W → w.heap.size ≤ D → ¬ Φ D → W.heap[D]? = some (.deferred (some [])) → c.wpIn Fence.wide (n + 2) P Q { a with defers := { target := .collected D, args := #[] } :: a.defers } W) :
    (Code.rangeFunc g ps assign body).wpIn Fence.wide (n + 2) P Q a w := by
  refine wpIn_rangeFunc ?_
  intro fn hfn
  obtain ⟨W1, hW1⟩ : ∃ W1, (w.alloc (.deferred (some []))).alloc (.loop (recOf fn a.tmps ps assign body w.heap.size .ready none)) = W1 := ⟨_, rfl⟩
  have hL1 : W1.heap[w.heap.size + 1]? = some (.loop (recOf fn a.tmps ps assign body w.heap.size .ready none)) := by
    rw [← hW1]; have := World.alloc_heap_new (w.alloc (.deferred (some []))) (.loop (recOf fn a.tmps ps assign body w.heap.size .ready none)); rwa [World.size_alloc] at this
  have hK1 : W1.heap[w.heap.size]? = some (.deferred (some [])) := by
    rw [← hW1]; exact (Below.heap_alloc _ _ _ (by simp)).trans (World.alloc_heap_new w _)
  have hB1 : Below w.heap.size w W1 := by rw [← hW1]; exact ((Below.refl _ w).alloc (Nat.le_refl _) _).alloc (by simp) _
  have hsz : W1.heap.size = w.heap.size + 2 := by rw [← hW1]; simp
  have hi1 : I [] (fun _ => False) W1 := (hI _ _ _ h0).2.2 _ (Grow.of_below hB1) (fun k hk => hk.elim (fun h => hB1.block k h) (fun h => h.elim))
  refine ⟨w.heap.size + 1, [{ target := .collected w.heap.size, args := #[] }], W1, { target := .fn (.func gf) lb, args := #[.func (.yield (w.heap.size + 1)) #[] #[]] }, W1, gf,
    #[.func (.yield (w.heap.size + 1)) #[] #[]] ++ lb, W1, ?_, ?_, ?_, ?_, fun h => by simp [Fence.wide] at h, ?_⟩
  · rw [← hW1]; exact run_enterLoop_outer _ _ _ _ _
  · simp only [resolve, hg]
    simp [go_sem]
  · intro f' hf'; simp [Target.leads] at hf'; subst hf'; trivial
  · simp [invoke, go_sem, eg]
  · have hD : ∀ d, some w.heap.size = some d → w.heap.size ≤ d ∧ d < w.heap.size + 1 := fun d hd => by cases hd; omega
    refine (hit (w.heap.size + 1) (w.heap.size + 2) (fun k => Ψ k ∨ k = w.heap.size + 1) (InvJ I (w.heap.size + 1) (some w.heap.size) (recOf fn a.tmps ps assign body w.heap.size .ready none))
      (fun pre Φ W => ∃ c, InvJ (Ix c) (w.heap.size + 1) (some w.heap.size) (recOf fn a.tmps ps assign body w.heap.size .done (some c)) pre Φ W) (fun _ => False) W1 (hg0.trans (Grow.of_below hB1))
      (fun k hk => ⟨(hG k hk).1, (hB1.block k (Nat.lt_of_lt_of_le (hG k hk).1 hg0.size)).trans (hG k hk).2⟩) (fun k hk => ?_) (InvJ.stab hI (by omega) (fun d hd => (hD d hd).2)) ?_ ?_ ⟨hi1, fun _ h => h.elim, hL1, fun d hd => by cases hd; exact hK1⟩).mono ?_
    · rcases hk with h | h
      · have := hΨ k h; omega
      · omega
    · rintro pre Φ W ⟨c, hc⟩
      obtain ⟨h1, h2, h3⟩ := InvJ.stab (hIx c) (by omega) (fun d hd => (hD d hd).2) _ _ _ hc
      exact ⟨h1, h2, fun W' hg' hk => ⟨c, h3 W' hg' hk⟩⟩
    · intro pre x Φ W hpx hJ
      exact round_of_body hI hIx (by omega) hΨ hps hD a₁ hJ (fun W K hK => hassign _ x W K hK) (fun W hi hΦ hr => hbody _ pre x Φ W hpx hi (by omega) hΦ hr)
    · have fine : ∀ W2, Only (fun k => Ψ k ∨ k = w.heap.size + 1) (fun _ => False) W1 W2 → ∀ r, Only Ψ (fun _ => False) w (W2.putObj (w.heap.size + 1) (.loop r)) := fun W2 ho r =>
        ⟨((Grow.of_below hB1).trans ho.grow).trans (put_grow _ _ _), fun k hk h1 h2 => (put_other (by omega)).trans ((ho.block k (by omega) (fun h => h.elim h1 (by omega)) h2).trans (hB1.block k hk))⟩
      rintro e W2 ⟨⟨v, rfl⟩, Φ', hn, ho, (⟨hi, hΦ, hl, hk⟩ | ⟨pre, hpre, c, hi, hΦ, hl, hk⟩)⟩
      · have hnD : ¬ Φ' w.heap.size := fun h => by have := hΦ _ h; omega
        refine ⟨none, _, run_endLoop (P := P) hl (by simp [recOf]), hdone _ Φ' _ ?_ (fine W2 ho _) (Nat.le_refl _) hnD ((put_other (by omega)).trans (hk _ rfl))⟩
        exact (hI _ _ _ hi).2.2 _ (put_grow _ _ _) (fun k hk' => put_other (hk'.elim (fun h => by omega) (fun h => by have := hΦ k h; omega)))
      · have hnD : ¬ Φ' w.heap.size := fun h => by have := hΦ _ h; omega
        refine ⟨some c, _, run_endLoop (P := P) hl (by simp [recOf]), hstop _ Φ' c pre _ hpre ?_ (fine W2 ho _) (Nat.le_refl _) hnD ((put_other (by omega)).trans (hk _ rfl))⟩
        exact (hIx c _ _ _ hi).2.2 _ (put_grow _ _ _) (fun k hk' => put_other (hk'.elim (fun h => by omega) (fun h => by have := hΦ k h; omega)))

/-- **A LOOP OVER AN ITERATOR, in a round of another loop.** -/
theorem range_innerF {n l₀ : Nat} {r₀ : Loop} {g : Operand} {ps : Array Tmp} {assign body : Code} {Q : Exit → Act → World → Prop} {a : Act} {w : World} {gf : Nat} {lb : Array Value} (hr0 : w.heap[l₀]? = some (.loop r₀)) (hg : a.eval g = .func (.func gf) #[] lb) (eg : ∀ args w, (callFunc gf args).run P w = .ok (.enter gf args) w)
    {encs : α → Array Value} {xs : List α} {G : FP} {w0 : World} (hit : IterF P n gf lb encs xs G w0) (hg0 : Grow w0 w) (hG : ∀ k, G k → k < w0.heap.size ∧ w.heap[k]? = w0.heap[k]?) (hps : ∀ x, (encs x).size = ps.size)
    (Ψ : FP) (hΨ : ∀ k, Ψ k → k < w.heap.size) (I : List α → FP → World → Prop) (Ix : Code → List α → FP → World → Prop) (hI : Stab w.heap.size I) (hIx : ∀ c, Stab w.heap.size (Ix c)) (h0 : I [] (fun _ => False) w) (a₁ : α → Act)
    (hassign : ∀ (l : Nat) (x : α) (W : World) (K : Act → World → Prop), K (a₁ x) W → assign.wpIn (Fence.wide.inRound l) n P (Exit.then K (fun _ _ _ => False)) { tmps := (ps.zip (encs x)).foldl (fun t (p, v) => t.setIfInBounds p v) a.tmps, defers := [] } W)
    (hbody : ∀ (l : Nat) (pre : List α) (x : α) (Φ : FP) (W : World), (pre ++ [x]) <+: xs → I pre Φ W → w.heap.size ≤ l → (∀ k, Φ k → l + 1 ≤ k) → (∃ r, W.heap[l]? = some (.loop r)) → body.wpIn (Fence.wide.inRound l) n P (bodyI Ψ Φ I Ix (pre ++ [x]) W) (a₁ x) W)
    (hdone : ∀ (Φ : FP) (W : World), I xs Φ W → Only Ψ (fun _ => False) w W → Q .normal { a with defers := [] ++ a.defers } W)
    (hstop : ∀ (Φ : FP) (c : Code) (pre : List α) (W : World), pre <+: xs → Ix c pre Φ W → Only Ψ (fun _ => False) w W → c.wpIn (Fence.wide.inRound l₀) (n + 2) P Q { a with defers := [] ++ a.defers } W) :
    (Code.rangeFunc g ps assign body).wpIn (Fence.wide.inRound l₀) (n + 2) P Q a w := by
  refine wpIn_rangeFunc ?_
  intro fn hfn
  obtain ⟨W1, hW1⟩ : ∃ W1, w.alloc (.loop (recOf fn a.tmps ps assign body r₀.defers .ready none)) = W1 := ⟨_, rfl⟩
  have hL1 : W1.heap[w.heap.size]? = some (.loop (recOf fn a.tmps ps assign body r₀.defers .ready none)) := by
    rw [← hW1]; exact World.alloc_heap_new w _
  have hB1 : Below w.heap.size w W1 := by rw [← hW1]; exact (Below.refl _ w).alloc (Nat.le_refl _) _
  have hsz : W1.heap.size = w.heap.size + 1 := by rw [← hW1]; simp
  have hi1 : I [] (fun _ => False) W1 := (hI _ _ _ h0).2.2 _ (Grow.of_below hB1) (fun k hk => hk.elim (fun h => hB1.block k h) (fun h => h.elim))
  refine ⟨w.heap.size, [], W1, { target := .fn (.func gf) lb, args := #[.func (.yield w.heap.size) #[] #[]] }, W1, gf,
    #[.func (.yield w.heap.size) #[] #[]] ++ lb, W1, ?_, ?_, ?_, ?_, fun h => by simp [Fence.wide] at h, ?_⟩
  · rw [← hW1]; exact run_enterLoop_inner hr0 _ _ _ _ _
  · simp only [resolve, hg]
    simp [go_sem]
  · intro f' hf'; simp [Target.leads] at hf'; subst hf'; trivial
  · simp [invoke, go_sem, eg]
  · have hD : ∀ d, (none : Option Nat) = some d → w.heap.size ≤ d ∧ d < w.heap.size := fun d hd => by cases hd
    refine CallsIn.inRound l₀ ((hit w.heap.size (w.heap.size + 1) (fun k => Ψ k ∨ k = w.heap.size) (InvJ I w.heap.size none (recOf fn a.tmps ps assign body r₀.defers .ready none))
      (fun pre Φ W => ∃ c, InvJ (Ix c) w.heap.size none (recOf fn a.tmps ps assign body r₀.defers .done (some c)) pre Φ W) (fun _ => False) W1 (hg0.trans (Grow.of_below hB1))
      (fun k hk => ⟨(hG k hk).1, (hB1.block k (Nat.lt_of_lt_of_le (hG k hk).1 hg0.size)).trans (hG k hk).2⟩) (fun k hk => ?_) (InvJ.stab hI (by omega) (fun d hd => (hD d hd).2)) ?_ ?_ ⟨hi1, fun _ h => h.elim, hL1, fun d hd => by cases hd⟩).mono ?_)
    · rcases hk with h | h
      · have := hΨ k h; omega
      · omega
    · rintro pre Φ W ⟨c, hc⟩
      obtain ⟨h1, h2, h3⟩ := InvJ.stab (hIx c) (by omega) (fun d hd => (hD d hd).2) _ _ _ hc
      exact ⟨h1, h2, fun W' hg' hk => ⟨c, h3 W' hg' hk⟩⟩
    · intro pre x Φ W hpx hJ
      exact round_of_body hI hIx (by omega) hΨ hps hD a₁ hJ (fun W K hK => hassign _ x W K hK) (fun W hi hΦ hr => hbody _ pre x Φ W hpx hi (by omega) hΦ hr)
    · have fine : ∀ W2, Only (fun k => Ψ k ∨ k = w.heap.size) (fun _ => False) W1 W2 → ∀ r, Only Ψ (fun _ => False) w (W2.putObj w.heap.size (.loop r)) := fun W2 ho r =>
        ⟨((Grow.of_below hB1).trans ho.grow).trans (put_grow _ _ _), fun k hk h1 h2 => (put_other (by omega)).trans ((ho.block k (by omega) (fun h => h.elim h1 (by omega)) h2).trans (hB1.block k hk))⟩
      rintro e W2 ⟨⟨v, rfl⟩, Φ', hn, ho, (⟨hi, hΦ, hl, hk⟩ | ⟨pre, hpre, c, hi, hΦ, hl, hk⟩)⟩
      · refine ⟨none, _, run_endLoop (P := P) hl (by simp [recOf]), hdone Φ' _ ?_ (fine W2 ho _)⟩
        exact (hI _ _ _ hi).2.2 _ (put_grow _ _ _) (fun k hk' => put_other (hk'.elim (fun h => by omega) (fun h => by have := hΦ k h; omega)))
      · refine ⟨some c, _, run_endLoop (P := P) hl (by simp [recOf]), hstop Φ' c pre _ hpre ?_ (fine W2 ho _)⟩
        exact (hIx c _ _ _ hi).2.2 _ (put_grow _ _ _) (fun k hk' => put_other (hk'.elim (fun h => by omega) (fun h => by have := hΦ k h; omega)))
end
end Go.Proofs.YteioacpfphigjaaGreat
end

section
namespace Go.Proofs.YteioacpfphigjaaGreat
open Go.RowKit
set_option linter.unusedVariables false

section
variable {P : Program} {α : Type}
/-- One round, out of its body's walk: the record turns busy, then ready, or done. -/
theorem round_of_bodyA {n l : Nat} {fn : FuncId} {encs : α → Array Value} {ps : Array Tmp} {assign body : Code} {tm : Array Value} {dfr : Nat} {Ψ : FP} {I : List α → FP → World → Prop} {Ix : Code → List α → FP → World → Prop} {B : Nat} (hI : Stab B I) (hIx : ∀ c, Stab B (Ix c))
    (hBJ : B ≤ l) (hΨ : ∀ k, Ψ k → k < B) (hps : ∀ x, (encs x).size = ps.size) {D : Option Nat} (hD : ∀ d, D = some d → B ≤ d ∧ d < l) (aOf : α → Nat → Act) (At : α → Nat → World → Prop) (hAt : ∀ x N W W', At x N W → W'.heap[N]? = W.heap[N]? → At x N W') {pre : List α} {x : α} {Φ : FP} {W : World}
    (hJ : InvJ I l D (recOf fn tm ps assign body dfr .ready none) pre Φ W)
    (hassign : ∀ (W : World) (K : Act → World → Prop), (∀ W', Below W.heap.size W W' → W.heap.size < W'.heap.size → At x W.heap.size W' → K (aOf x W.heap.size) W') → assign.wpIn (Fence.wide.inRound l) n P (Exit.then K (fun _ _ _ => False)) { tmps := (ps.zip (encs x)).foldl (fun t (p, v) => t.setIfInBounds p v) tm, defers := [] } W)
    (hbody : ∀ N W, I pre Φ W → (∀ k, Φ k → l + 1 ≤ k ∧ k < N) → (∃ r, W.heap[l]? = some (.loop r)) → l < N → N < W.heap.size → At x N W → body.wpIn (Fence.wide.inRound l) n P (bodyI Ψ Φ I Ix (pre ++ [x]) W) (aOf x N) W) :
    RoundOk P n l encs (fun k => Ψ k ∨ k = l) (InvJ I l D (recOf fn tm ps assign body dfr .ready none))
      (fun pre Φ W => ∃ c, InvJ (Ix c) l D (recOf fn tm ps assign body dfr .done (some c)) pre Φ W) pre x Φ W := by
  obtain ⟨hi, hΦ, hl, hDW⟩ := hJ
  have hlt : l < W.heap.size := (Array.getElem?_eq_some_iff.1 hl).1
  have hy := run_yield (P := P) (args := encs x) hl (hps x)
  refine ⟨fn, _, assign, body, hy, roundIn_of_wpIn trivial (hassign W _ fun V hV hVs hVA => ?_)⟩
  have hlV : V.heap[l]? = some (.loop (recOf fn tm ps assign body dfr .ready none)) := (hV.block l hlt).trans hl
  refine ⟨_, run_beginRound hlV rfl, ?_⟩
  obtain ⟨W2, hW2⟩ : ∃ W2, W2 = V.putObj l (.loop { recOf fn tm ps assign body dfr .ready none with state := .busy }) := ⟨_, rfl⟩
  rw [← hW2]
  have hl2 : W2.heap[l]? = some (.loop (recOf fn tm ps assign body dfr .busy none)) := by rw [hW2]; exact World.putObj_heap_same (Nat.lt_of_lt_of_le hlt hV.size)
  have hnl : ∀ k, Φ k → k ≠ l := fun k hk e => by have := hΦ k hk; omega
  have ho2 : ∀ k, k ≠ l → k < W.heap.size → W2.heap[k]? = W.heap[k]? := fun k hk hkW => by rw [hW2]; exact (put_other hk).trans (hV.block k hkW)
  have hIW := hI _ _ _ hi
  have hi2 : I pre Φ W2 := hIW.2.2 _ (by rw [hW2]; exact (Grow.of_below hV).trans (put_grow _ _ _)) (fun k hk => ho2 k (hk.elim (fun h => by omega) (fun h => hnl k h)) (hk.elim (fun h => by omega) (fun h => (hIW.1 k h).2)))
  have hA2 : At x W.heap.size W2 := hAt _ _ _ _ hVA (by rw [hW2]; exact put_other (by omega))
  have hsz : W2.heap.size = V.heap.size := by rw [hW2]; simp [World.putObj]
  have hg2 : Grow W W2 := by rw [hW2]; exact (Grow.of_below hV).trans (put_grow _ _ _)
  have hWV : W.heap.size ≤ W2.heap.size := by rw [hsz]; exact hV.size
  clear hW2
  refine wpIn_mono (hbody _ _ hi2 (fun k hk => ⟨hΦ k hk, (hIW.1 k hk).2⟩) ⟨_, hl2⟩ hlt (by rw [hsz]; exact hVs) hA2) ?_
  have fin : ∀ (jump : Option Code) (Φ' : FP) (W3 : World) (R : List α → FP → World → Prop), Only Ψ Φ W2 W3 → (∀ k, Φ' k → Φ k ∨ W2.heap.size ≤ k) → Stab B R → R (pre ++ [x]) Φ' W3 →
      ∃ W4, (Instr.endRound l jump).run P W3 = .ok (.bool jump.isNone) W4 ∧ (∀ k, Φ' k → Φ k ∨ W.heap.size ≤ k) ∧ Only (fun k => Ψ k ∨ k = l) Φ W W4 ∧
        InvJ R l D (recOf fn tm ps assign body dfr (if jump.isNone then .ready else .done) jump) (pre ++ [x]) Φ' W4 := by
    intro jump Φ' W3 R ho hn hS hR
    have hl3 : W3.heap[l]? = some (.loop (recOf fn tm ps assign body dfr .busy none)) := (ho.block l (by omega) (fun h => by have := hΨ l h; omega) (fun h => hnl l h rfl)).trans hl2
    have hlt3 : l < W3.heap.size := (Array.getElem?_eq_some_iff.1 hl3).1
    have hn : ∀ k, Φ' k → Φ k ∨ W.heap.size ≤ k := fun k hk => (hn k hk).imp id (fun h => Nat.le_trans hWV h)
    have hΦ' : ∀ k, Φ' k → l + 1 ≤ k := fun k hk => (hn k hk).elim (hΦ k) (fun h => by omega)
    refine ⟨_, run_endRound (P := P) jump hl3, hn, ⟨(hg2.trans ho.grow).trans (put_grow _ _ _), fun k hk h1 h2 => ?_⟩, (hS _ _ _ hR).2.2 _ (put_grow _ _ _) (fun k hk => put_other ?_), hΦ', World.putObj_heap_same hlt3, fun d hd => ?_⟩
    · have hkl : k ≠ l := fun e => h1 (.inr e)
      exact (put_other hkl).trans ((ho.block k (by omega) (fun h => h1 (.inl h)) h2).trans (ho2 k hkl hk))
    · rcases hk with h | h
      · omega
      · have := hΦ' k h; omega
    · obtain ⟨d1, d2⟩ := hD d hd
      exact (put_other (by omega)).trans ((ho.block d (by omega) (fun h => by have := hΨ d h; omega) (fun h => by have := hΦ d h; omega)).trans ((ho2 d (by omega) (by omega)).trans (hDW d hd)))
  rintro e a3 W3 hp
  cases e with
  | normal =>
    obtain ⟨Φ', hn, ho, hR⟩ := hp
    obtain ⟨W4, hr, h1, h2, h3⟩ := fin none Φ' W3 I ho hn hI hR
    exact ⟨_, _, hr, Φ', h1, h2, .inl ⟨rfl, h3⟩⟩
  | ret =>
    obtain ⟨Φ', hn, ho, hR⟩ := hp
    obtain ⟨W4, hr, h1, h2, h3⟩ := fin (some .ret) Φ' W3 (Ix .ret) ho hn (hIx _) hR
    exact ⟨_, _, hr, Φ', h1, h2, .inr ⟨rfl, .ret, h3⟩⟩
  | exit id =>
    obtain ⟨Φ', hn, ho, hR⟩ := hp
    obtain ⟨W4, hr, h1, h2, h3⟩ := fin (some (.exit id)) Φ' W3 (Ix (.exit id)) ho hn (hIx _) hR
    exact ⟨_, _, hr, Φ', h1, h2, .inr ⟨rfl, .exit id, h3⟩⟩
  | goto t =>
    obtain ⟨Φ', hn, ho, hR⟩ := hp
    obtain ⟨W4, hr, h1, h2, h3⟩ := fin (some (.goto t)) Φ' W3 (Ix (.goto t)) ho hn (hIx _) hR
    exact ⟨_, _, hr, Φ', h1, h2, .inr ⟨rfl, .goto t, h3⟩⟩
  | panic ch => exact hp.elim
  | outgrown => exact hp.elim

/-- **A LOOP OVER AN ITERATOR, in a function's own frame.** -/
theorem range_outerA {n : Nat} {g : Operand} {ps : Array Tmp} {assign body : Code} {Q : Exit → Act → World → Prop} {a : Act} {w : World} {gf : Nat} {lb : Array Value} (hg : a.eval g = .func (.func gf) #[] lb) (eg : ∀ args w, (callFunc gf args).run P w = .ok (.enter gf args) w)
    {encs : α → Array Value} {xs : List α} {G : FP} {w0 : World} (hit : IterF P n gf lb encs xs G w0) (hg0 : Grow w0 w) (hG : ∀ k, G k → k < w0.heap.size ∧ w.heap[k]? = w0.heap[k]?) (hps : ∀ x, (encs x).size = ps.size)
    (Ψ : FP) (hΨ : ∀ k, Ψ k → k < w.heap.size) (I : List α → FP → World → Prop) (Ix : Code → List α → FP → World → Prop) (hI : Stab w.heap.size I) (hIx : ∀ c, Stab w.heap.size (Ix c)) (h0 : I [] (fun _ => False) w) (aOf : α → Nat → Act) (At : α → Nat → World → Prop) (hAt : ∀ x N W W', At x N W → W'.heap[N]? = W.heap[N]? → At x N W')
    (hassign : ∀ (l : Nat) (x : α) (W : World) (K : Act → World → Prop), (∀ W', Below W.heap.size W W' → W.heap.size < W'.heap.size → At x W.heap.size W' → K (aOf x W.heap.size) W') → assign.wpIn (Fence.wide.inRound l) n P (Exit.then K (fun _ _ _ => False)) { tmps := (ps.zip (encs x)).foldl (fun t (p, v) => t.setIfInBounds p v) a.tmps, defers := [] } W)
    (hbody : ∀ (l : Nat) (pre : List α) (x : α) (Φ : FP) (N : Nat) (W : World), (pre ++ [x]) <+: xs → I pre Φ W → w.heap.size < l → (∀ k, Φ k → l + 1 ≤ k ∧ k < N) → (∃ r, W.heap[l]? = some (.loop r)) → l < N → N < W.heap.size → At x N W → body.wpIn (Fence.wide.inRound l) n P (bodyI Ψ Φ I Ix (pre ++ [x]) W) (aOf x N) W)
    (hdone : ∀ (D : Nat) (Φ : FP) (W : World), I xs Φ W → Only Ψ (fun _ => False) w W → w.heap.size ≤ D → ¬ Φ D → W.heap[D]? = some (.deferred (some [])) → Q .normal { a with defers := { target := .collected D, args := #[] } :: a.defers } W)
    (hstop : ∀ (D : Nat) (Φ : FP) (c : Code) (pre : List α) (W : World), pre <+: xs → Ix c pre Φ W → Only Ψ (fun _ => False) w W → w.heap.size ≤ D → ¬ Φ D → W.heap[D]? = some (.deferred (some [])) → c.wpIn Fence.wide (n + 2) P Q { a with defers := { target := .collected D, args := #[] } :: a.defers } W) :
    (Code.rangeFunc g ps assign body).wpIn Fence.wide (n + 2) P Q a w := by
  refine wpIn_rangeFunc ?_
  intro fn hfn
  obtain ⟨W1, hW1⟩ : ∃ W1, (w.alloc (.deferred (some []))).alloc (.loop (recOf fn a.tmps ps assign body w.heap.size .ready none)) = W1 := ⟨_, rfl⟩
  have hL1 : W1.heap[w.heap.size + 1]? = some (.loop (recOf fn a.tmps ps assign body w.heap.size .ready none)) := by
    rw [← hW1]; have := World.alloc_heap_new (w.alloc (.deferred (some []))) (.loop (recOf fn a.tmps ps assign body w.heap.size .ready none)); rwa [World.size_alloc] at this
  have hK1 : W1.heap[w.heap.size]? = some (.deferred (some [])) := by
    rw [← hW1]; exact (Below.heap_alloc _ _ _ (by simp)).trans (World.alloc_heap_new w _)
  have hB1 : Below w.heap.size w W1 := by rw [← hW1]; exact ((Below.refl _ w).alloc (Nat.le_refl _) _).alloc (by simp) _
  have hsz : W1.heap.size = w.heap.size + 2 := by rw [← hW1]; simp
  have hi1 : I [] (fun _ => False) W1 := (hI _ _ _ h0).2.2 _ (Grow.of_below hB1) (fun k hk => hk.elim (fun h => hB1.block k h) (fun h => h.elim))
  refine ⟨w.heap.size + 1, [{ target := .collected w.heap.size, args := #[] }], W1, { target := .fn (.func gf) lb, args := #[.func (.yield (w.heap.size + 1)) #[] #[]] }, W1, gf,
    #[.func (.yield (w.heap.size + 1)) #[] #[]] ++ lb, W1, ?_, ?_, ?_, ?_, fun h => by simp [Fence.wide] at h, ?_⟩
  · rw [← hW1]; exact run_enterLoop_outer _ _ _ _ _
  · simp only [resolve, hg]
    simp [go_sem]
  · intro f' hf'; simp [Target.leads] at hf'; subst hf'; trivial
  · simp [invoke, go_sem, eg]
  · have hD : ∀ d, some w.heap.size = some d → w.heap.size ≤ d ∧ d < w.heap.size + 1 := fun d hd => by cases hd; omega
    refine (hit (w.heap.size + 1) (w.heap.size + 2) (fun k => Ψ k ∨ k = w.heap.size + 1) (InvJ I (w.heap.size + 1) (some w.heap.size) (recOf fn a.tmps ps assign body w.heap.size .ready none))
      (fun pre Φ W => ∃ c, InvJ (Ix c) (w.heap.size + 1) (some w.heap.size) (recOf fn a.tmps ps assign body w.heap.size .done (some c)) pre Φ W) (fun _ => False) W1 (hg0.trans (Grow.of_below hB1))
      (fun k hk => ⟨(hG k hk).1, (hB1.block k (Nat.lt_of_lt_of_le (hG k hk).1 hg0.size)).trans (hG k hk).2⟩) (fun k hk => ?_) (InvJ.stab hI (by omega) (fun d hd => (hD d hd).2)) ?_ ?_ ⟨hi1, fun _ h => h.elim, hL1, fun d hd => by cases hd; exact hK1⟩).mono ?_
    · rcases hk with h | h
      · have := hΨ k h; omega
      · omega
    · rintro pre Φ W ⟨c, hc⟩
      obtain ⟨h1, h2, h3⟩ := InvJ.stab (hIx c) (by omega) (fun d hd => (hD d hd).2) _ _ _ hc
      exact ⟨h1, h2, fun W' hg' hk => ⟨c, h3 W' hg' hk⟩⟩
    · intro pre x Φ W hpx hJ
      exact round_of_bodyA hI hIx (by omega) hΨ hps hD aOf At hAt hJ (fun W K hK => hassign _ x W K hK) (fun N W hi hΦ hr h1 h2 h3 => hbody _ pre x Φ N W hpx hi (by omega) hΦ hr h1 h2 h3)
    · have fine : ∀ W2, Only (fun k => Ψ k ∨ k = w.heap.size + 1) (fun _ => False) W1 W2 → ∀ r, Only Ψ (fun _ => False) w (W2.putObj (w.heap.size + 1) (.loop r)) := fun W2 ho r =>
        ⟨((Grow.of_below hB1).trans ho.grow).trans (put_grow _ _ _), fun k hk h1 h2 => (put_other (by omega)).trans ((ho.block k (by omega) (fun h => h.elim h1 (by omega)) h2).trans (hB1.block k hk))⟩
      rintro e W2 ⟨⟨v, rfl⟩, Φ', hn, ho, (⟨hi, hΦ, hl, hk⟩ | ⟨pre, hpre, c, hi, hΦ, hl, hk⟩)⟩
      · have hnD : ¬ Φ' w.heap.size := fun h => by have := hΦ _ h; omega
        refine ⟨none, _, run_endLoop (P := P) hl (by simp [recOf]), hdone _ Φ' _ ?_ (fine W2 ho _) (Nat.le_refl _) hnD ((put_other (by omega)).trans (hk _ rfl))⟩
        exact (hI _ _ _ hi).2.2 _ (put_grow _ _ _) (fun k hk' => put_other (hk'.elim (fun h => by omega) (fun h => by have := hΦ k h; omega)))
      · have hnD : ¬ Φ' w.heap.size := fun h => by have := hΦ _ h; omega
        refine ⟨some c, _, run_endLoop (P := P) hl (by simp [recOf]), hstop _ Φ' c pre _ hpre ?_ (fine W2 ho _) (Nat.le_refl _) hnD ((put_other (by omega)).trans (hk _ rfl))⟩
        exact (hIx c _ _ _ hi).2.2 _ (put_grow _ _ _) (fun k hk' => put_other (hk'.elim (fun h => by omega) (fun h => by have := hΦ k h; omega)))

end
end Go.Proofs.YteioacpfphigjaaGreat
end

section
namespace Go.Proofs.YteioacpfphigjaaGreat
open Go.RowKit
set_option linter.unusedVariables false
section
variable {P : Program} {α : Type}
theorem range_outerAI {n : Nat} {g : Operand} {ps : Array Tmp} {assign body : Code} {Q : Exit → Act → World → Prop} {a : Act} {w : World} {gf : Nat} {lb : Array Value} (hg : a.eval g = .func (.func gf) #[] lb) (eg : ∀ args w, (callFunc gf args).run P w = .ok (.enter gf args) w)
    {encs : α → Array Value} {xs : List α} {G : FP} {w0 : World} (hit : Iter P n gf lb encs xs G w0) (hg0 : Grow w0 w) (hG : ∀ k, G k → k < w0.heap.size ∧ w.heap[k]? = w0.heap[k]?) (hps : ∀ x, (encs x).size = ps.size)
    (Ψ : FP) (hΨ : ∀ k, Ψ k → k < w.heap.size ∧ ¬ G k) (I : List α → FP → World → Prop) (Ix : Code → List α → FP → World → Prop) (hI : Stab w.heap.size I) (hIx : ∀ c, Stab w.heap.size (Ix c)) (h0 : I [] (fun _ => False) w) (aOf : α → Nat → Act) (At : α → Nat → World → Prop) (hAt : ∀ x N W W', At x N W → W'.heap[N]? = W.heap[N]? → At x N W')
    (hassign : ∀ (l : Nat) (x : α) (W : World) (K : Act → World → Prop), (∀ W', Below W.heap.size W W' → W.heap.size < W'.heap.size → At x W.heap.size W' → K (aOf x W.heap.size) W') → assign.wpIn (Fence.wide.inRound l) n P (Exit.then K (fun _ _ _ => False)) { tmps := (ps.zip (encs x)).foldl (fun t (p, v) => t.setIfInBounds p v) a.tmps, defers := [] } W)
    (hbody : ∀ (l : Nat) (pre : List α) (x : α) (Φ : FP) (N : Nat) (W : World), (pre ++ [x]) <+: xs → I pre Φ W → w.heap.size < l → (∀ k, Φ k → l + 1 ≤ k ∧ k < N) → (∃ r, W.heap[l]? = some (.loop r)) → l < N → N < W.heap.size → At x N W → body.wpIn (Fence.wide.inRound l) n P (bodyI Ψ Φ I Ix (pre ++ [x]) W) (aOf x N) W)
    (hdone : ∀ (D : Nat) (Φ : FP) (W : World), I xs Φ W → Only Ψ (fun _ => False) w W → w.heap.size ≤ D → ¬ Φ D → W.heap[D]? = some (.deferred (some [])) → Q .normal { a with defers := { target := .collected D, args := #[] } :: a.defers } W)
    (hstop : ∀ (D : Nat) (Φ : FP) (c : Code) (pre : List α) (W : World), pre <+: xs → Ix c pre Φ W → Only Ψ (fun _ => False) w W → w.heap.size ≤ D → ¬ Φ D → W.heap[D]? = some (.deferred (some [])) → c.wpIn Fence.wide (n + 2) P Q { a with defers := { target := .collected D, args := #[] } :: a.defers } W) :
    (Code.rangeFunc g ps assign body).wpIn Fence.wide (n + 2) P Q a w := by
  refine wpIn_rangeFunc ?_
  intro fn hfn
  obtain ⟨W1, hW1⟩ : ∃ W1, (w.alloc (.deferred (some []))).alloc (.loop (recOf fn a.tmps ps assign body w.heap.size .ready none)) = W1 := ⟨_, rfl⟩
  have hL1 : W1.heap[w.heap.size + 1]? = some (.loop (recOf fn a.tmps ps assign body w.heap.size .ready none)) := by
    rw [← hW1]; have := World.alloc_heap_new (w.alloc (.deferred (some []))) (.loop (recOf fn a.tmps ps assign body w.heap.size .ready none)); rwa [World.size_alloc] at this
  have hK1 : W1.heap[w.heap.size]? = some (.deferred (some [])) := by
    rw [← hW1]; exact (Below.heap_alloc _ _ _ (by simp)).trans (World.alloc_heap_new w _)
  have hB1 : Below w.heap.size w W1 := by rw [← hW1]; exact ((Below.refl _ w).alloc (Nat.le_refl _) _).alloc (by simp) _
  have hsz : W1.heap.size = w.heap.size + 2 := by rw [← hW1]; simp
  have hi1 : I [] (fun _ => False) W1 := (hI _ _ _ h0).2.2 _ (Grow.of_below hB1) (fun k hk => hk.elim (fun h => hB1.block k h) (fun h => h.elim))
  refine ⟨w.heap.size + 1, [{ target := .collected w.heap.size, args := #[] }], W1, { target := .fn (.func gf) lb, args := #[.func (.yield (w.heap.size + 1)) #[] #[]] }, W1, gf,
    #[.func (.yield (w.heap.size + 1)) #[] #[]] ++ lb, W1, ?_, ?_, ?_, ?_, fun h => by simp [Fence.wide] at h, ?_⟩
  · rw [← hW1]; exact run_enterLoop_outer _ _ _ _ _
  · simp only [resolve, hg]
    simp [go_sem]
  · intro f' hf'; simp [Target.leads] at hf'; subst hf'; trivial
  · simp [invoke, go_sem, eg]
  · have hD : ∀ d, some w.heap.size = some d → w.heap.size ≤ d ∧ d < w.heap.size + 1 := fun d hd => by cases hd; omega
    refine (hit (w.heap.size + 1) (w.heap.size + 2) (fun k => Ψ k ∨ k = w.heap.size + 1) (InvJ I (w.heap.size + 1) (some w.heap.size) (recOf fn a.tmps ps assign body w.heap.size .ready none))
      (fun pre Φ W => ∃ c, InvJ (Ix c) (w.heap.size + 1) (some w.heap.size) (recOf fn a.tmps ps assign body w.heap.size .done (some c)) pre Φ W) (fun _ => False) W1 (hg0.trans (Grow.of_below hB1))
      (fun k hk => ⟨(hG k hk).1, (hB1.block k (Nat.lt_of_lt_of_le (hG k hk).1 hg0.size)).trans (hG k hk).2⟩) (fun k hk => ?_) (fun _ h => h.elim) (InvJ.stab hI (by omega) (fun d hd => (hD d hd).2)) ?_ ?_ ⟨hi1, fun _ h => h.elim, hL1, fun d hd => by cases hd; exact hK1⟩).mono ?_
    · rcases hk with h | h
      · exact ⟨by have := (hΨ k h).1; omega, (hΨ k h).2⟩
      · exact ⟨by omega, fun hg' => by have := (hG k hg').1; have := hg0.size; omega⟩
    · rintro pre Φ W ⟨c, hc⟩
      obtain ⟨h1, h2, h3⟩ := InvJ.stab (hIx c) (by omega) (fun d hd => (hD d hd).2) _ _ _ hc
      exact ⟨h1, h2, fun W' hg' hk => ⟨c, h3 W' hg' hk⟩⟩
    · intro pre x Φ W hpx hJ
      exact round_of_bodyA hI hIx (by omega) (fun k hk => (hΨ k hk).1) hps hD aOf At hAt hJ (fun W K hK => hassign _ x W K hK) (fun N W hi hΦ hr h1 h2 h3 => hbody _ pre x Φ N W hpx hi (by omega) hΦ hr h1 h2 h3)
    · have fine : ∀ W2, Only (fun k => Ψ k ∨ k = w.heap.size + 1) (fun _ => False) W1 W2 → ∀ r, Only Ψ (fun _ => False) w (W2.putObj (w.heap.size + 1) (.loop r)) := fun W2 ho r =>
        ⟨((Grow.of_below hB1).trans ho.grow).trans (put_grow _ _ _), fun k hk h1 h2 => (put_other (by omega)).trans ((ho.block k (by omega) (fun h => h.elim h1 (by omega)) h2).trans (hB1.block k hk))⟩
      rintro e W2 ⟨⟨v, rfl⟩, Φ', hn, ho, (⟨hi, hΦ, hl, hk⟩ | ⟨pre, hpre, c, hi, hΦ, hl, hk⟩)⟩
      · have hnD : ¬ Φ' w.heap.size := fun h => by have := hΦ _ h; omega
        refine ⟨none, _, run_endLoop (P := P) hl (by simp [recOf]), hdone _ Φ' _ ?_ (fine W2 ho _) (Nat.le_refl _) hnD ((put_other (by omega)).trans (hk _ rfl))⟩
        exact (hI _ _ _ hi).2.2 _ (put_grow _ _ _) (fun k hk' => put_other (hk'.elim (fun h => by omega) (fun h => by have := hΦ k h; omega)))
      · have hnD : ¬ Φ' w.heap.size := fun h => by have := hΦ _ h; omega
        refine ⟨some c, _, run_endLoop (P := P) hl (by simp [recOf]), hstop _ Φ' c pre _ hpre ?_ (fine W2 ho _) (Nat.le_refl _) hnD ((put_other (by omega)).trans (hk _ rfl))⟩
        exact (hIx c _ _ _ hi).2.2 _ (put_grow _ _ _) (fun k hk' => put_other (hk'.elim (fun h => by omega) (fun h => by have := hΦ k h; omega)))

end
end Go.Proofs.YteioacpfphigjaaGreat
end

section
namespace Go.Proofs.YteioacpfphigjaaGreat
open Go.RowKit Go.Shelf
attribute [local go_sem] Oper.semAt_some
set_option linter.unusedVariables false
set_option linter.unusedSimpArgs false

/-- What a loop that collects holds: its row in a box. -/
structure ColC {P : Program} {α : Type} (r : RowTy P α) (N0 lb : Nat) (pre : List α) (Φ : FP) (W : World) (v : Value) : Prop where
  bx : Boxed W lb r.S v
  own : OwnR r N0 v pre W
  iff : ∀ k, Φ k ↔ v.ownBlock = some k
  sz : N0 ≤ W.heap.size
def ColI {P : Program} {α : Type} (r : RowTy P α) (N0 lb : Nat) (pre : List α) (Φ : FP) (W : World) : Prop := ∃ v, ColC r N0 lb pre Φ W v
theorem ColI.stab {P : Program} {α : Type} {r : RowTy P α} {N0 lb : Nat} (h1 : lb < N0) : Stab N0 (ColI r N0 lb) := by
  rintro pre Φ W ⟨v, h⟩
  exact ⟨fun k hk => h.own.block ((h.iff k).1 hk), h.sz, fun W' hg hk => ⟨v, (hk lb (.inl h1)).trans h.bx, h.own.of (Nat.le_refl _) (fun k e => hk k (.inr ((h.iff k).2 e))), h.iff, Nat.le_trans h.sz hg.size⟩⟩
/-- One more was collected: appended, stored. -/
theorem ColC.step {P : Program} {α : Type} {r : RowTy P α} {N0 lb : Nat} {pre : List α} {x : α} {Φ Ψ : FP} {W V w3 : World} {v v' : Value} (h : ColC r N0 lb pre Φ W v) (hlb : lb < N0) (hΨ : Ψ lb) (hV : Below W.heap.size W V) (ho : OwnR r N0 v' (pre ++ [x]) w3) (hg : V.grownBy w3 v.ownBlock) (hat : v'.ownBlock = v.ownBlock ∨ v'.ownBlock = some V.heap.size) :
    Leaves Ψ Φ W (fun Φ' W' => ColI r N0 lb (pre ++ [x]) Φ' W') (w3.setCell ⟨lb, 0, none⟩ v') := by
  have hsz := h.sz
  have hVs := hV.size
  have hgs := hg.size
  have hb3 : Boxed w3 lb r.S v := (hg.block lb (by omega) (fun e => by have := (h.own.block e.symm).1; omega)).trans ((hV.block lb (by omega)).trans h.bx)
  have hkeep : ∀ k, k ≠ lb → (w3.setCell ⟨lb, 0, none⟩ v').heap[k]? = w3.heap[k]? := fun k hk => Below.heap_setCell _ _ _ k hk
  refine ⟨fun k => v'.ownBlock = some k, fun k hk => ?_, ⟨⟨hg.os.trans hV.os, hg.tape.trans hV.tape, hg.output.trans hV.output, by simp [World.setCell]; omega⟩, fun k hk h1 h2 => ?_⟩, v', hb3.set _, ho.of (Nat.le_refl _) (fun k hk => hkeep k (by have := (ho.block hk).1; omega)), fun k => Iff.rfl, by simp [World.setCell]; omega⟩
  · rcases hat with e | e
    · exact .inl ((h.iff k).2 (by rw [← e]; exact hk))
    · rw [hk] at e
      injection e with e
      exact .inr (by omega)
  · rw [hkeep k (fun e => h1 (by rw [e]; exact hΨ)), hg.block k (by omega) (fun e => h2 ((h.iff k).2 e.symm))]
    exact hV.block k hk

def prOf_I (x : Int × Int) : List Value := [.int .i64 x.1, .int .i64 x.2]
theorem pairInfo_I : (Tryz.prog.info? 325).map (fun i => (i.zero, i.size, i.bytes)) = some (some (.agg #[.int .i64 0, .int .i64 0]), 2, 16) := by kernel_rfl
def pair_I : RowTy Tryz.prog (Int × Int) where
  T := 325
  S := 323
  k := 2
  f := prOf_I
  len := fun _ => rfl
  one := fun x u hu => by
    simp only [prOf_I, List.mem_cons, List.not_mem_nil, or_false] at hu
    rcases hu with rfl | rfl <;> rfl
  pos := by decide
  small := by decide
  slice := Tryz.underlying323
  info := by
    obtain ⟨i0, hi, hz⟩ := Option.map_eq_some_iff.1 pairInfo_I
    simp only [Prod.mk.injEq] at hz
    obtain ⟨h1, h2, h3⟩ := hz
    exact ⟨i0, _, _, hi, h1, h2, rfl, h3, by decide⟩
  row := ⟨_, Tryz.underlying325, rfl⟩
def encs_I (x : Int × Int) : Array Value := #[.int .i64 x.1, .int .i64 x.2]
set_option maxHeartbeats 4000000 in
set_option maxRecDepth 100000 in
theorem still_Now_I {m : Nat} (gf : Nat) (lbx : Array Value) (xs : List (Int × Int)) (w : World) (eg : ∀ args w, (callFunc gf args).run Tryz.prog w = .ok (.enter gf args) w) (hit : Iter Tryz.prog m gf lbx encs_I xs (fun k => k < w.heap.size) w) (hlen : xs.length ≤ 1000000) :
    Calls Tryz.prog 178 #[.func (.func gf) #[] lbx] w fun e w' => ∃ v, e = .returned (.func (.func 182) #[] #[.pointer (some ⟨w.heap.size, 0, none⟩)]) ∧ Boxed w' w.heap.size 323 v ∧ OwnR pair_I (w.heap.size + 1) v xs w' ∧ Below w.heap.size w w' := by
  refine (callsIn_wide (n := m + 2)).1 ?_
  refine callsIn_of_wp_marks Tryz.func178 rfl trivial ?_ rfl
  simp only [Tryz.ntmps178, List.size_toArray, List.length_cons, List.length_nil, Nat.reduceAdd, Nat.reduceSub, Array.replicate_succ, Array.replicate_zero, List.push_toArray, List.append_toArray, List.nil_append, List.cons_append]
  gi_wp2_with fail
  obtain ⟨w1, hw1⟩ : ∃ w1, w1 = w.alloc (.cells #[.slice none 0 0] 323) := ⟨_, rfl⟩
  rw [← hw1]
  obtain ⟨lb, hlb⟩ : ∃ lb, lb = w.heap.size := ⟨_, rfl⟩
  have hB : Below w.heap.size w w1 := by rw [hw1]; exact (Below.refl _ w).alloc (Nat.le_refl _) _
  have hsz : w1.heap.size = lb + 1 := by rw [hw1, hlb]; simp
  have x0 : Boxed w1 lb 323 (.slice none 0 0) := by rw [hw1, hlb]; exact Boxed.new w _ _
  have HB1 := Lib.hid hB
  have HIT := Lib.hid hit
  have HSZ := Lib.hid hsz
  have l1 : lb < w1.heap.size := by omega
  have l2 : w.heap.size ≤ lb := by omega
  have HEG := Lib.hid eg
  rw [← hlb]
  have HLB := Lib.hid hlb
  have HLN := Lib.hid hlen
  clear hw1 hit hB hsz hlb eg hlen
  refine range_outer (n := m) (gf := gf) (lb := lbx) rfl HEG.out HIT.out (Grow.of_below HB1.out) (fun k hk => ⟨hk, HB1.out.block k hk⟩) (fun _ => rfl)
    (fun k => k = lb) (by rintro k rfl; exact ⟨l1, fun h => by omega⟩) (ColI pair_I w1.heap.size lb) (fun _ _ _ _ => False) (ColI.stab l1) (fun c _ _ _ h => h.elim)
    ⟨_, x0, OwnR.nil _ _, fun k => ⟨fun h => h.elim, fun h => by cases h⟩, Nat.le_refl _⟩
    (fun x => { tmps := #[.func (.func gf) #[] lbx, undef, .nilFunc, .pointer (some ⟨lb, 0, none⟩), .int .i64 x.1, .int .i64 x.2, .func (.func gf) #[] lbx, .int .i64 x.1, .int .i64 x.2, undef, undef, undef, undef, undef, undef, undef], defers := [] }) ?assign ?body ?done ?stop
  case assign =>
    intro l x W K hK
    simp only [encs_I]
    gi_wp2
    exact hK
  case body =>
    rintro l pre x Φ W hpx ⟨v1, hI⟩ hl1 hΦ -
    have hpl := hpx.length_le
    rw [List.length_append, List.length_singleton] at hpl
    have hpl2 : pre.length ≤ 1000000 := by have := HLN.out; omega
    obtain ⟨ao1, cap1, rfl⟩ := hI.own.lenOf
    obtain ⟨pl, hm⟩ : ∃ pl, pl = pre.length := ⟨_, rfl⟩
    rw [← hm] at hI
    have c0 := hI.bx.cell
    have hlW : lb < W.heap.size := by have := hI.sz; omega
    have HI := Lib.hid hI
    have HPH := Lib.hid hΦ
    have HM := Lib.hid hm
    have HPL := Lib.hid hpl2
    have hsW : w1.heap.size ≤ W.heap.size := hI.sz

    clear hI hΦ hm hpl hpl2
    gi_wp2_with (first

      | (refine wplIn_appR (r := pair_I) (y := x) rfl rfl rfl rfl ((OwnR.of HI.out.own (Nat.le_refl _) (fun k hk => Below.heap_alloc _ _ _ (HI.out.own.block hk).2))) (rangeAt_whole (T := 325) (by exact World.alloc_heap_new _ _)) HPL.out (by have h := hsW; rw [World.size_alloc]; omega) ?_; intro v' w3 hO hg3 hat3 hne; have cB : w3.cell? ⟨lb, 0, none⟩ = some (.slice ao1 pl cap1) := (World.cell?_of_block (a := ⟨lb, 0, none⟩) ((hg3.block lb (by rw [World.size_alloc]; omega) (fun e => by have := (HI.out.own.block e.symm).1; omega)).trans (Below.heap_alloc _ _ _ hlW))).trans c0; have fB : w3.frozen? ⟨lb, 0, none⟩ = false := ((HI.out.bx.alloc _).kept hg3 (fun e => by have := (HI.out.own.block e.symm).1; omega)).frozen; obtain ⟨ao2, cap2, rfl⟩ := hO.lenOf; obtain ⟨m2, hm2⟩ : ∃ m2, m2 = (pre ++ [x]).length := ⟨_, rfl⟩; rw [← hm2] at hO hat3; rw [← hm2]; have HO := Lib.hid hO; have HG3 := Lib.hid hg3; have HAT := Lib.hid hat3; clear hO hg3 hat3 hm2 hne)
      | fail)
    exact ColC.step HI.out l1 rfl ((Below.refl _ W).alloc (Nat.le_refl _) _) HO.out HG3.out HAT.out
  case done =>
    rintro D Φ W3 ⟨v3, hC⟩ hon hD hnD hK
    have hiff := hC.iff
    have HC := Lib.hid hC
    have HON := Lib.hid hon
    have HKK := Lib.hid hK
    clear hC hon hK
    gi_wp2
    refine ⟨by simp, .inl ⟨_, _, rfl, run_takeDeferred HKK.out, ?_⟩⟩
    have hC := HC.out
    have hO2 := HON.out
    have hw2 := HB1.out
    have hsz := HSZ.out
    have hlb := HLB.out
    subst hlb
    refine ⟨_, by simp [results, Tryz.results178, go_sem] <;> rfl, v3, rfl, (put_other (by omega)).trans hC.bx, hC.own.of (by omega) (fun k hk => put_other (fun e => hnD ((hiff D).2 (by rw [← e]; exact hk)))), ?_⟩
    refine ⟨hO2.grow.os.trans hw2.os, hO2.grow.tape.trans hw2.tape, hO2.grow.output.trans hw2.output, by have h1 := hO2.grow.size; have h2 := hw2.size; simp [World.putObj]; omega, fun k hk => ?_⟩
    rw [put_other (by omega), hO2.block k (by omega) (by omega) (fun h => h)]
    exact hw2.block k (by omega)
  case stop =>
    rintro D Φ c pre W3 hpre h
    exact h.elim

def prOf_P (x : (Int × Int) × Int) : List Value := [.int .i64 x.1.1, .int .i64 x.1.2, .int .i64 x.2]
def encs_P (x : (Int × Int) × Int) : Array Value := #[.agg #[.int .i64 x.1.1, .int .i64 x.1.2], .int .i64 x.2]
end Go.Proofs.YteioacpfphigjaaGreat
end

section
namespace Go.Proofs.YteioacpfphigjaaGreat
open Go.RowKit Go.Shelf
attribute [local go_sem] Oper.semAt_some
set_option linter.unusedVariables false
set_option linter.unusedSimpArgs false

theorem Iter.later {P : Program} {α : Type} {n gf : Nat} {lb : Array Value} {encs : α → Array Value} {xs : List α} {G G' : FP} {w W : World} (h : Iter P n gf lb encs xs G w) (hg : Grow w W) (hG : ∀ k, G k → k < w.heap.size ∧ W.heap[k]? = w.heap[k]?) (hs : ∀ k, G k → G' k) : Iter P n gf lb encs xs G' W := by
  intro l B Ψ J Jx Φ0 W2 hg2 hG2 hΨ hΦ0 hJ hJx hr h0
  exact h l B Ψ J Jx Φ0 W2 (hg.trans hg2) (fun k hk => ⟨(hG k hk).1, (hG2 k (hs k hk)).2.trans (hG k hk).2⟩) (fun k hk => ⟨(hΨ k hk).1, fun h => (hΨ k hk).2 (hs k h)⟩) (fun k hk h => hΦ0 k hk (hs k h)) hJ hJx hr h0
theorem take_snoc {α : Type} {xs : List α} {k : Nat} (h : k < xs.length) : xs.take k ++ [xs[k]] = xs.take (k + 1) := by rw [List.take_succ_eq_append_getElem h]

set_option maxHeartbeats 4000000 in
set_option maxRecDepth 100000 in
theorem now1_iter_I (n : Nat) (bx : Nat) (v : Value) (xs : List (Int × Int)) (w : World) (hbx : Boxed w bx 323 v) (hr : RdR pair_I w v xs) (hl : xs.length ≤ 1000000) (G : FP) (hGb : G bx) (hGv : ∀ k, v.ownBlock = some k → G k) :
    Iter Tryz.prog n 182 #[.pointer (some ⟨bx, 0, none⟩)] encs_I xs G w := by
  intro lp B Ψ J Jx Φ0 W hgw hG hΨ hΦ0 hJ hJx hround h0
  have hc1 : W.cell? ⟨bx, 0, none⟩ = some v := (World.cell?_of_block (hG bx hGb).2).trans hbx.cell
  have hrW : RdR pair_I W v xs := hr.keep hgw.size (fun k hk => (hG k (hGv k hk)).2)
  obtain ⟨hs1, hs2, hs3⟩ := hJ _ _ _ h0
  obtain ⟨ao, cap, rfl⟩ := hr.lenOf
  have hkeep : ∀ wr, Only Ψ Φ0 W wr → RdR pair_I wr (.slice ao xs.length cap) xs := fun wr ho => hrW.keep ho.grow.size (fun k hk => ho.block k (by have := (hG k (hGv k hk)).1; have := hgw.size; omega) (fun h => (hΨ k h).2 (hGv k hk)) (fun h => hΦ0 k h (hGv k hk)))
  refine callsIn_of_wp Tryz.func182 rfl trivial ?_ rfl
  simp only [Tryz.ntmps182, List.size_toArray, List.length_cons, List.length_nil, Nat.reduceAdd, Nat.reduceSub, Array.replicate_succ, Array.replicate_zero, List.push_toArray, List.append_toArray, List.nil_append, List.cons_append]
  have HK := Lib.hid hkeep
  have HL := Lib.hid hl
  have HRD := Lib.hid hround
  have HJ := Lib.hid hJ
  have HH0 := Lib.hid h0
  have hbig : (xs.length : Int) ≤ 1000000 := by omega
  clear hr hrW hround hJ hJx hG hΨ hΦ0 hbx hGb hGv h0 hs3 hl hkeep
  gi_wp2_with fail
  gi_loopw [7] (fun r wr => ∃ (k : Nat) (Φ : FP), k ≤ xs.length ∧ r = .int .i64 k ∧ J (xs.take k) Φ wr ∧ Only Ψ Φ0 W wr ∧ (∀ j, Φ j → Φ0 j ∨ W.heap.size ≤ j)) (fun r wr => xs.length - (RowKit.intOf r).toNat)
  case atStart => exact ⟨0, Φ0, Nat.zero_le _, rfl, HH0.out, Only.refl _ _ _, fun j h => .inl h⟩
  case round =>
    obtain ⟨k, Φ, hk, rfl, hJ2, ho2, hn2⟩ := hrel
    by_cases hlt : k < xs.length
    · have hlt' : (k : Int) < xs.length := by omega
      obtain ⟨x, hx⟩ : ∃ x, x = xs[k] := ⟨_, rfl⟩
      obtain ⟨b, off, rfl, hrng, hrb⟩ := (HK.out wr ho2).at hlt
      rw [← hx] at hrng
      have htk : xs.take k ++ [x] = xs.take (k + 1) := by rw [hx]; exact take_snoc hlt
      have hpre : (xs.take k ++ [x]) <+: xs := by rw [htk]; exact List.take_prefix _ _
      obtain ⟨q1, q2, q3⟩ := HJ.out _ _ _ hJ2
      obtain ⟨W1, hW1⟩ : ∃ W1, W1 = wr.alloc (.cells (prOf_I x).toArray 325) := ⟨_, rfl⟩
      have hb1 : Below wr.heap.size wr W1 := by rw [hW1]; exact (Below.refl _ wr).alloc (Nat.le_refl _) _
      have hJ1 : J (xs.take k) Φ W1 := q3 W1 (Grow.of_below hb1) (fun j hj => hb1.block j (hj.elim (fun h => by omega) (fun h => (q1 j h).2)))
      have hcx : W1.heap[wr.heap.size]? = some (.cells (prOf_I x).toArray 325 (0, 0)) := by rw [hW1]; exact World.alloc_heap_new _ _
      obtain ⟨fn, tm, asg, bd, hyy, hR⟩ := HRD.out (xs.take k) x Φ W1 hpre hJ1
      simp only [encs_I] at hyy
      have d0 : W1.cell? ⟨wr.heap.size, 0, none⟩ = some (.int .i64 x.1) := by rw [World.cell?, hcx]; rfl
      have d1 : W1.cell? ⟨wr.heap.size, 1, none⟩ = some (.int .i64 x.2) := by rw [World.cell?, hcx]; rfl
      have HRN := Lib.hid hrng
      have HT := Lib.hid htk
      have HPR := Lib.hid hpre
      have HO2 := Lib.hid ho2
      have HN2 := Lib.hid hn2
      have HR := Lib.hid hR
      have HW1 := Lib.hid hW1
      have HB1 := Lib.hid hb1
      clear htk hpre q1 q2 q3 hx hJ2 hJ1 ho2 hn2 hR hrng hW1 hb1 hcx
      gi_wp2_with (first
        | (refine wplIn_loadR (r := pair_I) (t := x) _ rfl rfl rfl HRN.out ?_)
        | (refine wplIn_allocR (r := pair_I) rfl rfl rfl ?_; intro C hC)
        | (refine wplIn_storeR (r := pair_I) (t := x) (C := C) _ _ rfl rfl rfl rfl rfl (World.alloc_heap_new wr _) hC ?_; rw [World.setRow_alloc_new]; rw [show wr.alloc (.cells (pair_I.f x).toArray pair_I.T) = W1 from HW1.out.symm])

        | fail)
      refine HR.out.mono ?_
      rintro e W' ⟨Φ', hn', ho', (⟨rfl, hJ'⟩ | ⟨rfl, hJ'⟩)⟩
      · have ho3 : Only Ψ Φ0 W W' := (HO2.out.trans (Φ' := Φ0) (Only.of_later HB1.out) (fun j h => .inl h)).trans ho' HN2.out
        have hn3 : ∀ j, Φ' j → Φ0 j ∨ W.heap.size ≤ j := fun j hj => (hn' j hj).elim (HN2.out j) (fun h => .inr (by have := HO2.out.grow.size; have := HB1.out.size; omega))
        gi_wp2
        exact ⟨⟨k + 1, Φ', hlt, by go_num, by rw [← HT.out]; exact hJ', ho3, hn3⟩, by simp [RowKit.intOf]; omega⟩
      · have ho3 : Only Ψ Φ0 W W' := (HO2.out.trans (Φ' := Φ0) (Only.of_later HB1.out) (fun j h => .inl h)).trans ho' HN2.out
        have hn3 : ∀ j, Φ' j → Φ0 j ∨ W.heap.size ≤ j := fun j hj => (hn' j hj).elim (HN2.out j) (fun h => .inr (by have := HO2.out.grow.size; have := HB1.out.size; omega))
        gi_wp2
        refine bodyPost_ret (results_none rfl _ _ _) rfl ?_
        exact ⟨⟨_, rfl⟩, Φ', hn3, ho3, .inr ⟨_, HPR.out, hJ'⟩⟩
    · have hkn : k = xs.length := by omega
      subst hkn
      rw [List.take_length] at hJ2
      gi_wp2
      refine bodyPost_end (results_none rfl _ _ _) rfl ?_
      exact ⟨⟨_, rfl⟩, Φ, hn2, ho2, .inl hJ2⟩
theorem still_Begun_I (f : Value) (w : World) (hf : ∃ g lb, f = .func g #[] lb) : Calls Tryz.prog 170 #[f] w fun e w' => e = .returned (.func (.func 177) #[] #[.pointer (some ⟨w.heap.size, 0, none⟩)]) ∧ w' = w.alloc (.cells #[f] 147) := by
  obtain ⟨g, lb, rfl⟩ := hf
  go_enter Tryz.func170, Tryz.ntmps170
  go_wp2
  go_ret
  exact ⟨rfl, rfl⟩
theorem enters_begun_I : ∀ args w, (callFunc 177 args).run Tryz.prog w = .ok (.enter 177 args) w := enters_of Tryz.func177 (by kernel_rfl) rfl
theorem enters_now_I : ∀ args w, (callFunc 182 args).run Tryz.prog w = .ok (.enter 182 args) w := enters_of Tryz.func182 (by kernel_rfl) rfl
set_option maxHeartbeats 4000000 in
set_option maxRecDepth 100000 in
/-- What Begun tells: what another way tells when the ranging begins. -/
theorem begun_iter_I {m : Nat} (n : Nat) (sb : Nat) (gf : Nat) (lbx : Array Value) (xs : List (Int × Int)) (G : FP) (w : World) (hsb : Boxed w sb 147 (.func (.func gf) #[] lbx)) (eg : ∀ args w, (callFunc gf args).run Tryz.prog w = .ok (.enter gf args) w) (hit : Iter Tryz.prog m gf lbx encs_I xs G w) (hGs : G sb) (hGl : ∀ k, G k → k < w.heap.size) (hlen : xs.length ≤ 1000000) :
    IterF Tryz.prog n 177 #[.pointer (some ⟨sb, 0, none⟩)] encs_I xs G w := by
  intro lp B Ψ J Jx Φ0 W hgw hG hΨ hJ hJx hround h0
  have hc1 : W.cell? ⟨sb, 0, none⟩ = some (.func (.func gf) #[] lbx) := (World.cell?_of_block (hG sb hGs).2).trans hsb.cell
  have hitW : Iter Tryz.prog m gf lbx encs_I xs (fun k => k < W.heap.size) W := hit.later hgw hG (fun k hk => Nat.lt_of_lt_of_le (hGl k hk) hgw.size)
  have hnow := still_Now_I gf lbx xs W eg hitW hlen
  obtain ⟨hs1, hs2, hs3⟩ := hJ _ _ _ h0
  have hwalk : ∀ v W1, Boxed W1 W.heap.size 323 v → OwnR pair_I (W.heap.size + 1) v xs W1 → Below W.heap.size W W1 →
      CallsIn Fence.wide n Tryz.prog 182 #[.func (.yield lp) #[] #[], .pointer (some ⟨W.heap.size, 0, none⟩)] W1 fun e W' => (∃ v, e = .returned v) ∧ Leaves Ψ Φ0 W (fun Φ' W' => J xs Φ' W' ∨ ∃ pre, pre <+: xs ∧ Jx pre Φ' W') W' := by
    intro v W1 hb ho hB
    have hJ1 : J [] Φ0 W1 := hs3 W1 (Grow.of_below hB) (fun k hk => hB.block k (hk.elim (fun h => by omega) (fun h => (hs1 k h).2)))
    have hi := now1_iter_I n W.heap.size v xs W1 hb ho.reads hlen (fun k => W.heap.size ≤ k ∧ k < W1.heap.size) ⟨Nat.le_refl _, hb.lt⟩ (fun k hk => ⟨by have := (ho.block hk).1; omega, (ho.block hk).2⟩)
    have hcall := hi lp B Ψ J Jx Φ0 W1 (Grow.refl _) (fun k hk => ⟨hk.2, rfl⟩) (fun k hk => ⟨hΨ k hk, fun h => by have := hΨ k hk; omega⟩) (fun k hk h => by have := (hs1 k hk).2; omega) hJ hJx hround hJ1
    refine (callsIn_wide.2 (callsIn_wide.1 hcall)).mono ?_
    rintro e W' ⟨he, Φ', hn, ho', hR⟩
    exact ⟨he, Φ', fun k hk => (hn k hk).imp id (fun h => by have := hB.size; omega), (Only.of_later hB).trans ho' (fun j h => .inl h), hR⟩
  have HW := Lib.hid hwalk
  have HN := Lib.hid hnow
  clear hwalk hnow hround hJ hJx hG hΨ hsb hit hitW h0 hs1 hs3 hGs hGl hlen eg
  refine callsIn_of_wp Tryz.func177 rfl trivial ?_ rfl
  simp only [Tryz.ntmps177, List.size_toArray, List.length_cons, List.length_nil, Nat.reduceAdd, Nat.reduceSub, Array.replicate_succ, Array.replicate_zero, List.push_toArray, List.append_toArray, List.nil_append, List.cons_append]
  have en := enters_now_I
  gi_wp2_with (first
    | (gi_at_call 178; refine (callsIn_wide.2 HN.out).mono ?_; rintro e W1 ⟨v, rfl, hb, ho, hB⟩; have H1 := Lib.hid (And.intro hb (And.intro ho hB)); clear hb ho hB)
    | (refine ⟨trivial, ?_⟩; gi_at_call 178; refine (callsIn_wide.2 HN.out).mono ?_; rintro e W1 ⟨v, rfl, hb, ho, hB⟩; have H1 := Lib.hid (And.intro hb (And.intro ho hB)); clear hb ho hB)
    | (gi_at_call 182; refine (callsIn_wide.2 (callsIn_wide.1 (HW.out _ _ H1.out.1 H1.out.2.1 H1.out.2.2))).mono ?_; rintro e W' ⟨⟨v', rfl⟩, hR⟩; have H2 := Lib.hid hR; clear hR)
    | (refine ⟨trivial, ?_⟩; gi_at_call 182; refine (callsIn_wide.2 (callsIn_wide.1 (HW.out _ _ H1.out.1 H1.out.2.1 H1.out.2.2))).mono ?_; rintro e W' ⟨⟨v', rfl⟩, hR⟩; have H2 := Lib.hid hR; clear hR)
    | fail)
  refine bodyPost_end (results_none rfl _ _ _) rfl ?_
  exact ⟨⟨_, rfl⟩, H2.out⟩

end Go.Proofs.YteioacpfphigjaaGreat
end

section
namespace Go.Proofs.YteioacpfphigjaaGreat
open Go.RowKit Go.Maps Go.Shelf
attribute [local go_sem] Oper.semAt_some
set_option linter.unusedVariables false
set_option linter.unusedSimpArgs false

def encE : Empty → Array Value := fun x => x.elim
def NonR (N0 lb : Nat) (pre : List Empty) (Φ : FP) (W : World) : Prop := (∀ k, ¬ Φ k) ∧ Boxed W lb 239 (.slice none 0 0) ∧ N0 ≤ W.heap.size
theorem NonR.stab {N0 lb : Nat} (h1 : lb < N0) : Stab N0 (NonR N0 lb) := by
  rintro pre Φ W ⟨a, b, f⟩
  exact ⟨fun k hk => absurd hk (a k), f, fun W' hg hk => ⟨a, (hk lb (.inl h1)).trans b, Nat.le_trans f hg.size⟩⟩
set_option maxHeartbeats 4000000 in
set_option maxRecDepth 100000 in
theorem still_Now_R {m : Nat} (gf : Nat) (lbx : Array Value) (w : World) (eg : ∀ args w, (callFunc gf args).run Tryz.prog w = .ok (.enter gf args) w) (hit : Iter Tryz.prog m gf lbx encE [] (fun k => k < w.heap.size) w) :
    Calls Tryz.prog 75 #[.func (.func gf) #[] lbx] w fun e w' => e = .returned (.func (.func 97) #[] #[.pointer (some ⟨w.heap.size, 0, none⟩)]) ∧ Boxed w' w.heap.size 239 (.slice none 0 0) ∧ Below w.heap.size w w' := by
  refine (callsIn_wide (n := m + 2)).1 ?_
  refine callsIn_of_wp_marks Tryz.func75 rfl trivial ?_ rfl
  simp only [Tryz.ntmps75, List.size_toArray, List.length_cons, List.length_nil, Nat.reduceAdd, Nat.reduceSub, Array.replicate_succ, Array.replicate_zero, List.push_toArray, List.append_toArray, List.nil_append, List.cons_append]
  gi_wp2_with fail
  obtain ⟨w1, hw1⟩ : ∃ w1, w1 = w.alloc (.cells #[.slice none 0 0] 239) := ⟨_, rfl⟩
  rw [← hw1]
  obtain ⟨lb, hlb⟩ : ∃ lb, lb = w.heap.size := ⟨_, rfl⟩
  have hB : Below w.heap.size w w1 := by rw [hw1]; exact (Below.refl _ w).alloc (Nat.le_refl _) _
  have hsz : w1.heap.size = lb + 1 := by rw [hw1, hlb]; simp
  have x0 : Boxed w1 lb 239 (.slice none 0 0) := by rw [hw1, hlb]; exact Boxed.new w _ _
  have HB1 := Lib.hid hB
  have HIT := Lib.hid hit
  have HSZ := Lib.hid hsz
  have l1 : lb < w1.heap.size := by omega
  have l2 : w.heap.size ≤ lb := by omega
  have HEG := Lib.hid eg
  rw [← hlb]
  have HLB := Lib.hid hlb
  clear hw1 hit hB hsz hlb eg
  refine range_outer (n := m) (gf := gf) (lb := lbx) rfl HEG.out HIT.out (Grow.of_below HB1.out) (fun k hk => ⟨hk, HB1.out.block k hk⟩) (fun x => x.elim)
    (fun k => k = lb) (by rintro k rfl; exact ⟨l1, fun h => by omega⟩) (NonR w1.heap.size lb) (fun _ _ _ _ => False) (NonR.stab l1) (fun c _ _ _ h => h.elim)
    ⟨fun _ h => h, x0, Nat.le_refl _⟩
    (fun x => x.elim) ?assign ?body ?done ?stop
  case assign =>
    intro l x
    exact x.elim
  case body =>
    intro l pre x
    exact x.elim
  case done =>
    rintro D Φ W3 ⟨hΦ, b1, hz⟩ hon hD hnD hK
    have HON := Lib.hid hon
    have HKK := Lib.hid hK
    have HBX := Lib.hid b1
    clear b1 hon hK
    gi_wp2
    refine ⟨by simp, .inl ⟨_, _, rfl, run_takeDeferred HKK.out, ?_⟩⟩
    have hO2 := HON.out
    have hw2 := HB1.out
    have hsz := HSZ.out
    have hlb := HLB.out
    subst hlb
    refine ⟨_, by simp [results, Tryz.results75, go_sem] <;> rfl, rfl, (put_other (by omega)).trans HBX.out, ?_⟩
    refine ⟨hO2.grow.os.trans hw2.os, hO2.grow.tape.trans hw2.tape, hO2.grow.output.trans hw2.output, by have h1 := hO2.grow.size; have h2 := hw2.size; simp [World.putObj]; omega, fun k hk => ?_⟩
    rw [put_other (by omega), hO2.block k (by omega) (by omega) (fun h => h)]
    exact hw2.block k (by omega)
  case stop =>
    rintro D Φ c pre W3 hpre h
    exact h.elim
set_option maxHeartbeats 4000000 in
set_option maxRecDepth 100000 in
theorem now1_iter_R (n : Nat) (bx : Nat) (w : World) (hbx : Boxed w bx 239 (.slice none 0 0)) (G : FP) (hGb : G bx) :
    Iter Tryz.prog n 97 #[.pointer (some ⟨bx, 0, none⟩)] encE [] G w := by
  intro lp B Ψ J Jx Φ0 W hgw hG hΨ hΦ0 hJ hJx hround h0
  have hc1 : W.cell? ⟨bx, 0, none⟩ = some (.slice none 0 0) := (World.cell?_of_block (hG bx hGb).2).trans hbx.cell
  refine callsIn_of_wp Tryz.func97 rfl trivial ?_ rfl
  simp only [Tryz.ntmps97, List.size_toArray, List.length_cons, List.length_nil, Nat.reduceAdd, Nat.reduceSub, Array.replicate_succ, Array.replicate_zero, List.push_toArray, List.append_toArray, List.nil_append, List.cons_append]
  have HH0 := Lib.hid h0
  clear hround hJ hJx hG hΨ hΦ0 hbx hGb h0
  gi_wp2_with fail
  gi_loopw [7] (fun r wr => r = .int .i64 0 ∧ wr = W) (fun _ _ => 0)
  case atStart => exact ⟨rfl, rfl⟩
  case round =>
    obtain ⟨rfl, rfl⟩ := hrel
    gi_wp2
    refine bodyPost_end (results_none rfl _ _ _) rfl ?_
    exact ⟨⟨_, rfl⟩, Φ0, fun j h => .inl h, Only.refl _ _ _, .inl HH0.out⟩
theorem still_Begun_R (f : Value) (w : World) (hf : ∃ g lb, f = .func g #[] lb) : Calls Tryz.prog 98 #[f] w fun e w' => e = .returned (.func (.func 122) #[] #[.pointer (some ⟨w.heap.size, 0, none⟩)]) ∧ w' = w.alloc (.cells #[f] 189) := by
  obtain ⟨g, lb, rfl⟩ := hf
  go_enter Tryz.func98, Tryz.ntmps98
  go_wp2
  go_ret
  exact ⟨rfl, rfl⟩
theorem enters_begun_R : ∀ args w, (callFunc 122 args).run Tryz.prog w = .ok (.enter 122 args) w := enters_of Tryz.func122 (by kernel_rfl) rfl
theorem enters_now_R : ∀ args w, (callFunc 97 args).run Tryz.prog w = .ok (.enter 97 args) w := enters_of Tryz.func97 (by kernel_rfl) rfl
set_option maxHeartbeats 4000000 in
set_option maxRecDepth 100000 in
/-- What Begun tells: what another way tells when the ranging begins: nothing. -/
theorem begun_iter_R {m : Nat} (n : Nat) (sb : Nat) (gf : Nat) (lbx : Array Value) (G : FP) (w : World) (hsb : Boxed w sb 189 (.func (.func gf) #[] lbx)) (eg : ∀ args w, (callFunc gf args).run Tryz.prog w = .ok (.enter gf args) w) (hit : Iter Tryz.prog m gf lbx encE [] G w) (hGs : G sb) (hGl : ∀ k, G k → k < w.heap.size) :
    IterF Tryz.prog n 122 #[.pointer (some ⟨sb, 0, none⟩)] encE [] G w := by
  intro lp B Ψ J Jx Φ0 W hgw hG hΨ hJ hJx hround h0
  have hc1 : W.cell? ⟨sb, 0, none⟩ = some (.func (.func gf) #[] lbx) := (World.cell?_of_block (hG sb hGs).2).trans hsb.cell
  have hitW : Iter Tryz.prog m gf lbx encE [] (fun k => k < W.heap.size) W := hit.later hgw hG (fun k hk => Nat.lt_of_lt_of_le (hGl k hk) hgw.size)
  have hnow := still_Now_R gf lbx W eg hitW
  obtain ⟨hs1, hs2, hs3⟩ := hJ _ _ _ h0
  have hwalk : ∀ W1, Boxed W1 W.heap.size 239 (.slice none 0 0) → Below W.heap.size W W1 →
      CallsIn Fence.wide n Tryz.prog 97 #[.func (.yield lp) #[] #[], .pointer (some ⟨W.heap.size, 0, none⟩)] W1 fun e W' => (∃ v, e = .returned v) ∧ Leaves Ψ Φ0 W (fun Φ' W' => J [] Φ' W' ∨ ∃ pre, pre <+: [] ∧ Jx pre Φ' W') W' := by
    intro W1 hb hB
    have hJ1 : J [] Φ0 W1 := hs3 W1 (Grow.of_below hB) (fun k hk => hB.block k (hk.elim (fun h => by omega) (fun h => (hs1 k h).2)))
    have hi := now1_iter_R n W.heap.size W1 hb (fun k => W.heap.size ≤ k ∧ k < W1.heap.size) ⟨Nat.le_refl _, hb.lt⟩
    have hcall := hi lp B Ψ J Jx Φ0 W1 (Grow.refl _) (fun k hk => ⟨hk.2, rfl⟩) (fun k hk => ⟨hΨ k hk, fun h => by have := hΨ k hk; omega⟩) (fun k hk h => by have := (hs1 k hk).2; omega) hJ hJx hround hJ1
    refine (callsIn_wide.2 (callsIn_wide.1 hcall)).mono ?_
    rintro e W' ⟨he, Φ', hn, ho', hR⟩
    exact ⟨he, Φ', fun k hk => (hn k hk).imp id (fun h => by have := hB.size; omega), (Only.of_later hB).trans ho' (fun j h => .inl h), hR⟩
  have HW := Lib.hid hwalk
  have HN := Lib.hid hnow
  clear hwalk hnow hround hJ hJx hG hΨ hsb hit hitW h0 hs1 hs3 hGs hGl eg
  refine callsIn_of_wp Tryz.func122 rfl trivial ?_ rfl
  simp only [Tryz.ntmps122, List.size_toArray, List.length_cons, List.length_nil, Nat.reduceAdd, Nat.reduceSub, Array.replicate_succ, Array.replicate_zero, List.push_toArray, List.append_toArray, List.nil_append, List.cons_append]
  have en := enters_now_R
  gi_wp2_with (first
    | (gi_at_call 75; refine (callsIn_wide.2 HN.out).mono ?_; rintro e W1 ⟨rfl, hb, hB⟩; have H1 := Lib.hid (And.intro hb hB); clear hb hB)
    | (refine ⟨trivial, ?_⟩; gi_at_call 75; refine (callsIn_wide.2 HN.out).mono ?_; rintro e W1 ⟨rfl, hb, hB⟩; have H1 := Lib.hid (And.intro hb hB); clear hb hB)
    | (gi_at_call 97; refine (callsIn_wide.2 (callsIn_wide.1 (HW.out _ H1.out.1 H1.out.2))).mono ?_; rintro e W' ⟨⟨v', rfl⟩, hR⟩; have H2 := Lib.hid hR; clear hR)
    | (refine ⟨trivial, ?_⟩; gi_at_call 97; refine (callsIn_wide.2 (callsIn_wide.1 (HW.out _ H1.out.1 H1.out.2))).mono ?_; rintro e W' ⟨⟨v', rfl⟩, hR⟩; have H2 := Lib.hid hR; clear hR)
    | fail)
  refine bodyPost_end (results_none rfl _ _ _) rfl ?_
  exact ⟨⟨_, rfl⟩, H2.out⟩
end Go.Proofs.YteioacpfphigjaaGreat
end

section
namespace Go.Proofs.YteioacpfphigjaaGreat
open Go.RowKit Go.Maps Go.Shelf
set_option linter.unusedVariables false
set_option linter.unusedSimpArgs false

theorem iterOfF {P : Program} {α : Type} {n gf : Nat} {lb : Array Value} {encs : α → Array Value} {xs : List α} {G : FP} {w : World} (h : IterF P n gf lb encs xs G w) : Iter P n gf lb encs xs G w :=
  fun l B Ψ J Jx Φ0 W h1 h2 h3 _ h5 h6 h7 h8 => h l B Ψ J Jx Φ0 W h1 h2 (fun k hk => (h3 k hk).1) h5 h6 h7 h8
set_option maxHeartbeats 4000000 in
set_option maxRecDepth 100000 in
theorem grid_Row_R {g : Nat} {w : World} (hg : w.heap[g]? = some (.cells #[.map none, .map none, .int .i64 0] 160 (0, 0))) :
    Calls Tryz.prog 76 #[.pointer (some ⟨g, 0, none⟩), .int .i64 0] w fun e w' => ∃ sb, e = .returned (.func (.func 122) #[] #[.pointer (some ⟨sb, 0, none⟩)]) ∧ IterF Tryz.prog 0 122 #[.pointer (some ⟨sb, 0, none⟩)] encE [] (fun k => k < w'.heap.size) w' ∧ Below w.heap.size w w' := by
  have HG := Lib.hid hg
  clear hg
  go_enter Tryz.func76, Tryz.ntmps76
  go_wp2_with (first
    | (go_at_call 99; refine (grid_row_R _ _ _).mono ?_; rintro e w1 ⟨rfl, hw1⟩; have HW1 := Lib.hid hw1; clear hw1)
    | (go_at_call 98; refine (still_Begun_R _ _ ⟨_, _, rfl⟩).mono ?_; rintro e w2 ⟨rfl, hw2⟩; have HW2 := Lib.hid hw2; clear hw2)
    | fail)
  have hw1 := HW1.out
  have hw2 := HW2.out
  have hs1 : w1.heap.size = w.heap.size + 2 := by rw [hw1]; simp
  have hs2 : w2.heap.size = w1.heap.size + 1 := by rw [hw2]; simp
  have hb1 : Below w.heap.size w w1 := by rw [hw1]; exact ((Below.refl _ w).alloc (Nat.le_refl _) _).alloc (by simp) _
  have hb2 : Below w1.heap.size w1 w2 := by rw [hw2]; exact (Below.refl _ w1).alloc (Nat.le_refl _) _
  have hb : Below w.heap.size w w2 := hb1.trans (hb2.mono hb1.size)
  have x0 : w2.cell? ⟨w.heap.size, 0, none⟩ = some (.pointer (some ⟨g, 0, none⟩)) := by
    rw [hb2.cell (p := ⟨w.heap.size, 0, none⟩) (by show w.heap.size < _; omega), hw1, World.cell?, Below.heap_alloc _ _ _ (by simp), World.alloc_heap_new]; rfl
  have x1 : w2.cell? ⟨w.heap.size + 1, 0, none⟩ = some (.int .i64 0) := by
    rw [hb2.cell (p := ⟨w.heap.size + 1, 0, none⟩) (by show w.heap.size + 1 < _; omega), hw1, World.cell?]
    have := World.alloc_heap_new (w.alloc (.cells #[.pointer (some ⟨g, 0, none⟩)] 88)) (.cells #[.int .i64 0] 3)
    rw [World.size_alloc] at this
    rw [this]; rfl
  have x2 : Boxed w2 w1.heap.size 189 (.func (.func 123) #[] #[.pointer (some ⟨w.heap.size, 0, none⟩), .pointer (some ⟨w.heap.size + 1, 0, none⟩)]) := by rw [hw2]; exact Boxed.new w1 _ _
  have hit := rowR_iter 0 w.heap.size (w.heap.size + 1) g 0 w2 x0 x1 ((hb.block g (Array.getElem?_eq_some_iff.1 HG.out).1).trans HG.out) (by decide) (fun k => k < w2.heap.size) (by show w.heap.size < _; omega) (by show w.heap.size + 1 < _; omega) (by have := (Array.getElem?_eq_some_iff.1 HG.out).1; show g < _; omega)
  have hbi := begun_iter_R 0 w1.heap.size _ _ (fun k => k < w2.heap.size) w2 x2 enters_row1_R hit (by show w1.heap.size < _; omega) (fun k hk => hk)
  exact bodyPost_ret (v := .func (.func 122) #[] #[.pointer (some ⟨w1.heap.size, 0, none⟩)]) (by simp [results, Tryz.results76, go_sem]) rfl ⟨_, rfl, hbi, hb⟩
set_option maxHeartbeats 4000000 in
set_option maxRecDepth 100000 in
theorem refer_All0 {F : FP} {r gb : Nat} {ts : List Trk} {w : World} (h : ReG F r gb ts w) :
    Calls Tryz.prog 51 #[.pointer (some ⟨r, 0, none⟩)] w fun e w' => ∃ b, e = .returned (.func (.func 97) #[] #[.pointer (some ⟨b, 0, none⟩)]) ∧ Boxed w' b 239 (.slice none 0 0) ∧ Below w.heap.size w w' := by
  obtain ⟨tb, cap, h1, -, -, -, -, -, -, hg⟩ := h
  have c1 : w.cell? ⟨r, 1, none⟩ = some (.pointer (some ⟨gb, 0, none⟩)) := by rw [World.cell?, h1]; rfl
  have HG := Lib.hid hg
  clear hg h1
  go_enter Tryz.func51, Tryz.ntmps51
  go_wp2_with (first
    | (go_at_call 76; refine (grid_Row_R HG.out).mono ?_; rintro e w1 ⟨sb, rfl, hit, hb⟩; have H1 := Lib.hid (And.intro hit hb); clear hit hb)
    | (go_at_call 75; refine (still_Now_R _ _ _ enters_begun_R (iterOfF H1.out.1)).mono ?_; rintro e w2 ⟨rfl, hx, hb⟩; have H2 := Lib.hid (And.intro hx hb); clear hx hb)
    | fail)
  exact bodyPost_ret (v := .func (.func 97) #[] #[.pointer (some ⟨w1.heap.size, 0, none⟩)]) (by simp [results, Tryz.results51, go_sem]) rfl ⟨_, rfl, H2.out.1, H1.out.2.trans (H2.out.2.mono H1.out.2.size)⟩
end Go.Proofs.YteioacpfphigjaaGreat
end

section
namespace Go.Proofs.YteioacpfphigjaaGreat
open Go.RowKit Go.Maps Go.Shelf
set_option linter.unusedVariables false
set_option linter.unusedSimpArgs false

set_option maxHeartbeats 4000000 in
set_option maxRecDepth 100000 in
theorem insertion_none (f : Value) (w : World) : Calls Tryz.prog 120 #[.slice none 0 0, .int .i64 0, .int .i64 0, f] w fun e w' => (∃ v, e = .returned v) ∧ w' = w := by
  go_enter Tryz.func120, Tryz.ntmps120
  go_wp2_with fail
  go_loopw [8] (fun i wr => i = .int .i64 1 ∧ wr = w) (fun _ _ => 0)
  case atStart => exact ⟨rfl, rfl⟩
  case round =>
    obtain ⟨rfl, rfl⟩ := hrel
    go_wp2_with fail
    refine bodyPost_end (results_none rfl _ _ _) rfl ?_
    exact ⟨⟨_, rfl⟩, rfl⟩
set_option maxHeartbeats 4000000 in
set_option maxRecDepth 100000 in
theorem stable_none (f : Value) (w : World) : Calls Tryz.prog 94 #[.slice none 0 0, .int .i64 0, f] w fun e w' => (∃ v, e = .returned v) ∧ w' = w := by
  go_enter Tryz.func94, Tryz.ntmps94
  go_wp2_with fail
  go_loopw [7, 8] (fun a b wr => a = .int .i64 0 ∧ b = .int .i64 20 ∧ wr = w) (fun _ _ _ => 0)
  case atStart => exact ⟨rfl, rfl, rfl⟩
  case round =>
    obtain ⟨rfl, rfl, rfl⟩ := hrel
    obtain ⟨wq, hwq⟩ : ∃ wq, wq = wr := ⟨_, rfl⟩
    subst hwq
    go_wp2_with (first
      | (go_at_call 120; refine (insertion_none _ _).mono ?_; rintro e w' ⟨⟨v, rfl⟩, hw⟩; rw [hw]; clear hw w')
      | fail)
    go_loopw [6] (fun a wr => a = .int .i64 20 ∧ wr = wq) (fun _ _ => 0)
    case atStart => exact ⟨rfl, rfl⟩
    case round =>
      obtain ⟨rfl, rfl⟩ := hrel
      go_wp2_with fail
      refine bodyPost_end (results_none rfl _ _ _) rfl ?_
      exact ⟨⟨_, rfl⟩, rfl⟩
theorem sortStable_none {fn : Nat} {lb : Array Value} (w : World) : Calls Tryz.prog 71 #[.slice none 0 0, .func (.func fn) #[] lb] w fun e w' => (∃ v, e = .returned v) ∧ w' = w := by
  go_enter Tryz.func71, Tryz.ntmps71
  go_wp2_with (first
    | (go_at_call 94; refine (stable_none _ _).mono ?_; rintro e w' ⟨⟨v, rfl⟩, hw⟩; rw [hw]; clear hw w')
    | fail)
  refine bodyPost_end (results_none rfl _ _ _) rfl ?_
  exact ⟨⟨_, rfl⟩, rfl⟩
end Go.Proofs.YteioacpfphigjaaGreat
end

section
namespace Go.Proofs.YteioacpfphigjaaGreat
open Go.RowKit Go.Maps Go.Shelf
set_option linter.unusedVariables false
set_option linter.unusedSimpArgs false

def allocTrk (h : Bool) (v : Value) : Sem Value := Instr.alloc 85 h v
theorem alloc_trk (h : Bool) (v : Value) : Instr.alloc 85 h v = allocTrk h v := rfl
theorem zeroTrk : ∃ Z : Array Value, ((Tryz.prog.info? 85).bind (·.zero)) = some (.agg Z) ∧ Z.size = 18 := by
  obtain ⟨i0, z, b, h1, h2, h3, h4, -⟩ := trackInfo
  exact ⟨z, by rw [h1]; exact h2, h4⟩
theorem run_allocTrk {Z : Array Value} (hz : ((Tryz.prog.info? 85).bind (·.zero)) = some (.agg Z)) (v : Value) (w : World) : (allocTrk true v).run Tryz.prog w = .ok (.pointer (some ⟨w.heap.size, 0, none⟩)) (w.alloc (.cells Z 85)) := by
  obtain ⟨i0, hi, hz0⟩ := Option.bind_eq_some_iff.1 hz
  unfold allocTrk
  simp [Instr.alloc, zeroValue, typeInfo, hi, hz0, newVar, newRow, Value.cells, go_sem]
def loadTrk (v : Value) : Sem Value := Instr.loadAt 85 v
theorem load_trk (v : Value) : Instr.loadAt 85 v = loadTrk v := rfl
theorem run_loadTrk {w : World} {b o : Nat} {t : Trk} (h : w.rangeAt b o (trkR.f t)) : (loadTrk (.pointer (some ⟨b, o, none⟩))).run Tryz.prog w = .ok (.agg (trkR.f t).toArray) w := run_loadR (r := trkR) h
def storeTrk (p v : Value) : Sem Unit := Instr.storeAt 85 p v
theorem store_trk (p v : Value) : Instr.storeAt 85 p v = storeTrk p v := rfl
theorem run_storeTrk {w : World} {b : Nat} {t : Trk} {C : Array Value} (hh : w.heap[b]? = some (.cells C 85 (0, 0))) (hC : C.size = 18) : (storeTrk (.pointer (some ⟨b, 0, none⟩)) (.agg (trkR.f t).toArray)).run Tryz.prog w = .ok () (w.setRow b (trkR.f t).toArray) := run_storeR (r := trkR) hh hC
theorem cho_two (W0 : World) (o1 o2 : Obj) : ((W0.alloc o1).alloc o2).drew.heap[W0.heap.size]? = some o1 ∧ ((W0.alloc o1).alloc o2).drew.heap[W0.heap.size + 1]? = some o2 := by
  have h2 := World.alloc_heap_new (W0.alloc o1) o2
  rw [World.size_alloc] at h2
  exact ⟨(Below.heap_alloc _ _ _ (by simp)).trans (World.alloc_heap_new _ _), h2⟩
theorem cho_row (V : World) (b j : Nat) (cs : Array Value) (h : j ≠ b) : (V.setRow b cs).heap[j]? = V.heap[j]? := by
  simp only [World.setRow, Array.getElem?_modify]
  rw [if_neg (fun e => h e.symm)]
theorem cho_rowAt {W : World} {b : Nat} {C : Array Value} {T : TypeId} (cs : Array Value) (h : W.heap[b]? = some (.cells C T (0, 0))) : (W.setRow b cs).heap[b]? = some (.cells cs T (0, 0)) := by
  simp [World.setRow, Array.getElem?_modify, h]
theorem cho_old (W0 : World) (o1 o2 : Obj) (j : Nat) (hj : j < W0.heap.size) : ((W0.alloc o1).alloc o2).drew.heap[j]? = W0.heap[j]? := (Below.heap_alloc _ _ _ (by simp; omega)).trans (Below.heap_alloc _ _ _ hj)
theorem cho_oldR (W0 : World) (o1 o2 : Obj) (b : Nat) (cs : Array Value) (hb : W0.heap.size ≤ b) (j : Nat) (hj : j < W0.heap.size) : (((W0.alloc o1).alloc o2).drew.setRow b cs).heap[j]? = W0.heap[j]? := (cho_row _ b j cs (by omega)).trans (cho_old W0 o1 o2 j hj)
theorem cho_cells1 (W0 : World) (Z cs : Array Value) : (((W0.alloc (.cells Z 85)).alloc (.cells #[.int .i64 0] 3)).drew.setRow W0.heap.size cs).cell? ⟨W0.heap.size + 1, 0, none⟩ = some (.int .i64 0) ∧ (((W0.alloc (.cells Z 85)).alloc (.cells #[.int .i64 0] 3)).drew.setRow W0.heap.size cs).frozen? ⟨W0.heap.size + 1, 0, none⟩ = false := by
  have h := (cho_row _ W0.heap.size (W0.heap.size + 1) cs (by omega)).trans (cho_two W0 (.cells Z 85) (.cells #[.int .i64 0] 3)).2
  exact ⟨by rw [World.cell?, h]; rfl, by rw [World.frozen?, h]; rfl⟩
theorem cho_cells2 (W0 : World) (Z cs : Array Value) : (((W0.alloc (.cells #[.int .i64 0] 3)).alloc (.cells Z 85)).drew.setRow (W0.heap.size + 1) cs).cell? ⟨W0.heap.size, 0, none⟩ = some (.int .i64 0) ∧ (((W0.alloc (.cells #[.int .i64 0] 3)).alloc (.cells Z 85)).drew.setRow (W0.heap.size + 1) cs).frozen? ⟨W0.heap.size, 0, none⟩ = false := by
  have h := (cho_row _ (W0.heap.size + 1) W0.heap.size cs (by omega)).trans (cho_two W0 (.cells #[.int .i64 0] 3) (.cells Z 85)).1
  exact ⟨by rw [World.cell?, h]; rfl, by rw [World.frozen?, h]; rfl⟩
/-- Behind the region: a track's copy, and a number that is 0. -/
def ChoEnd (W0 : World) (t : Trk) (b8 b9 : Nat) (wx : World) : Prop :=
  wx.heap[b8]? = some (.cells (trkR.f t).toArray 85 (0, 0)) ∧ wx.cell? ⟨b9, 0, none⟩ = some (.int .i64 0) ∧ Below W0.heap.size W0 wx ∧ W0.heap.size ≤ b8 ∧ W0.heap.size ≤ b9
theorem cho_end {W0 V : World} {t : Trk} {b8 b9 : Nat} (h8 : V.heap[b8]? = some (.cells (trkR.f t).toArray 85 (0, 0))) (h9 : V.heap[b9]? = some (.cells #[.int .i64 0] 3 (0, 0))) (hb : Below W0.heap.size W0 V) (hne : b8 ≠ b9) (l8 : W0.heap.size ≤ b8) (l9 : W0.heap.size ≤ b9) : ChoEnd W0 t b8 b9 (V.setCell ⟨b9, 0, none⟩ (.int .i64 0)) := by
  refine ⟨(Below.heap_setCell _ _ _ b8 hne).trans h8, by rw [World.cell?]; simp [World.setCell, Array.getElem?_modify, h9], ?_, l8, l9⟩
  exact hb.trans ⟨rfl, rfl, rfl, by simp [World.setCell], fun k hk => Below.heap_setCell _ _ _ k (by show k ≠ b9; omega)⟩
theorem cho_end1 (W0 : World) (Z : Array Value) (t : Trk) : ChoEnd W0 t W0.heap.size (W0.heap.size + 1) ((((W0.alloc (.cells Z 85)).alloc (.cells #[.int .i64 0] 3)).drew.setRow W0.heap.size (trkR.f t).toArray).setCell ⟨W0.heap.size + 1, 0, none⟩ (.int .i64 0)) := by
  obtain ⟨h1, h2⟩ := cho_two W0 (.cells Z 85) (.cells #[.int .i64 0] 3)
  refine cho_end (cho_rowAt _ h1) ((cho_row _ _ _ _ (by omega)).trans h2) ?_ (by omega) (Nat.le_refl _) (by omega)
  exact ⟨rfl, rfl, rfl, by simp [World.setRow, World.drew]; omega, fun k hk => cho_oldR W0 _ _ _ _ (Nat.le_refl _) k hk⟩
theorem cho_end2 (W0 : World) (Z : Array Value) (t : Trk) : ChoEnd W0 t (W0.heap.size + 1) W0.heap.size ((((W0.alloc (.cells #[.int .i64 0] 3)).alloc (.cells Z 85)).drew.setRow (W0.heap.size + 1) (trkR.f t).toArray).setCell ⟨W0.heap.size, 0, none⟩ (.int .i64 0)) := by
  obtain ⟨h1, h2⟩ := cho_two W0 (.cells #[.int .i64 0] 3) (.cells Z 85)
  refine cho_end (cho_rowAt _ h2) ((cho_row _ _ _ _ (by omega)).trans h1) ?_ (by omega) (by omega) (Nat.le_refl _)
  exact ⟨rfl, rfl, rfl, by simp [World.setRow, World.drew]; omega, fun k hk => cho_oldR W0 _ _ _ _ (by omega) k hk⟩
attribute [local go_sem ↓] alloc_trk load_trk store_trk
theorem cell_lt {w : World} {b o : Nat} {v : Value} (h : w.cell? ⟨b, o, none⟩ = some v) : b < w.heap.size := by
  cases Nat.lt_or_ge b w.heap.size with
  | inl h' => exact h'
  | inr h' => rw [World.cell?, Array.getElem?_eq_none h'] at h; cases h
/-- All that was there is there. -/
def KeepJ (w2 : World) (pre : List Empty) (Φ : FP) (W : World) : Prop := (∀ k, ¬ Φ k) ∧ (∀ k, k < w2.heap.size → W.heap[k]? = w2.heap[k]?) ∧ w2.heap.size ≤ W.heap.size
theorem KeepJ.stab (w2 : World) : Stab w2.heap.size (KeepJ w2) := by
  rintro pre Φ W ⟨a, b, f⟩
  exact ⟨fun k hk => absurd hk (a k), f, fun W' hg hk => ⟨a, fun k h => (hk k (.inl h)).trans (b k h), Nat.le_trans f hg.size⟩⟩
set_option maxHeartbeats 4000000 in
set_option maxRecDepth 100000 in
theorem choose0 {F : FP} {r gb k : Nat} {ts : List Trk} {w : World} (h : ReG F r gb ts w) (hk : k < ts.length) (vp : Option Addr) (now : Int) :
    Calls Tryz.prog 50 #[.pointer (some ⟨r, 0, none⟩), .pointer vp, .int .i64 k, .int .i64 now] w fun e w' => (∃ v, e = .returned v) ∧ Below w.heap.size w w' := by
  refine (callsIn_wide (n := 2)).1 ?_
  have hre := h
  obtain ⟨tb, cap, h1, h2, h3, h4, h5, h6, h7, h8⟩ := h
  obtain ⟨n, hn⟩ : ∃ n, n = ts.length := ⟨_, rfl⟩
  have hkn : (k : Int) < n := by omega
  obtain ⟨Z, hZ, hZs⟩ := zeroTrk
  have RA := run_allocTrk hZ
  obtain ⟨t, ht⟩ : ∃ t, t = ts[k] := ⟨_, rfl⟩
  have hr0 : w.rangeAt tb (k * 18) (trkR.f t) := fun j u hj => by
    rw [ht] at hj
    have hj18 : j < 18 := by have := (List.getElem?_eq_some_iff.1 hj).1; rwa [trkR.len] at this
    have := h2 (k * 18 + j) u (by rw [show k * 18 + j = k * trkR.k + j from rfl, trkR.all_at hk hj18]; exact hj)
    rwa [Nat.zero_add] at this
  rw [← hn] at h1
  have HRE := Lib.hid hre
  have HR0 := Lib.hid (And.intro hr0 h6)
  have HH1 := Lib.hid h1
  clear hre h2 h3 h4 h5 h6 h7 h8 hr0 hn ht hZ h1
  refine callsIn_of_wp_marks Tryz.func50 rfl trivial ?_ rfl
  simp only [Tryz.ntmps50, List.size_toArray, List.length_cons, List.length_nil, Nat.reduceAdd, Nat.reduceSub, Array.replicate_succ, Array.replicate_zero, List.push_toArray, List.append_toArray, List.nil_append, List.cons_append]
  gi_wp2_with fail
  obtain ⟨W0, hW0⟩ : ∃ W0, W0 = ((w.alloc (.cells #[.pointer vp] 40)).alloc (.cells #[.int .i64 k] 3)).alloc (.cells #[.int .i64 now] 3) := ⟨_, rfl⟩
  rw [← hW0]
  obtain ⟨p5, hp5⟩ : ∃ p5, p5 = w.heap.size := ⟨_, rfl⟩
  obtain ⟨p6, hp6⟩ : ∃ p6, p6 = p5 + 1 := ⟨_, rfl⟩
  obtain ⟨p7, hp7⟩ : ∃ p7, p7 = p6 + 1 := ⟨_, rfl⟩
  rw [← hp5, ← hp6, ← hp7]
  have hb0 : Below w.heap.size w W0 := by rw [hW0]; exact (((Below.refl _ w).alloc (Nat.le_refl _) _).alloc (by simp) _).alloc (by simp; omega) _
  have hsz : W0.heap.size = w.heap.size + 3 := by rw [hW0]; simp
  have hrl : r < w.heap.size := (Array.getElem?_eq_some_iff.1 HH1.out).1
  have c0 : W0.cell? ⟨r, 0, none⟩ = some (.slice (some ⟨tb, 0, none⟩) n cap) := by rw [hb0.cell (p := ⟨r, 0, none⟩) hrl, World.cell?, HH1.out]; rfl
  have c6 : W0.cell? ⟨p6, 0, none⟩ = some (.int .i64 k) := by
    have e := World.alloc_heap_new (w.alloc (.cells #[.pointer vp] 40)) (.cells #[.int .i64 k] 3)
    rw [World.size_alloc] at e
    rw [hW0, hp6, hp5, World.cell?, Below.heap_alloc _ _ _ (by simp), e]; rfl
  have hkr : ∀ W' : World, (∀ j, j < W0.heap.size → W'.heap[j]? = W0.heap[j]?) → W'.cell? ⟨r, 0, none⟩ = some (.slice (some ⟨tb, 0, none⟩) n cap) ∧ W'.cell? ⟨p6, 0, none⟩ = some (.int .i64 k) ∧ (loadTrk (.pointer (some ⟨tb, k * 18, none⟩))).run Tryz.prog W' = .ok (.agg (trkR.f t).toArray) W' := fun W' he =>
    ⟨(World.cell?_of_block (a := ⟨r, 0, none⟩) (he r (by omega))).trans c0, (World.cell?_of_block (a := ⟨p6, 0, none⟩) (he p6 (by omega))).trans c6, run_loadTrk (rangeAt_block (rangeAt_block HR0.out.1 (hb0.block tb HR0.out.2)) (he tb (by have := HR0.out.2; omega)))⟩
  have HKR := Lib.hid hkr
  have HW0 := Lib.hid (And.intro hb0 (And.intro hsz hW0))
  have HPP := Lib.hid (And.intro hp5 (And.intro hp6 hp7))
  clear hkr hb0 hsz hW0 c0 c6 hp5 hp6 hp7 hrl
  have ST1 := run_storeTrk (t := t) (cho_two W0 (.cells Z 85) (.cells #[.int .i64 0] 3)).1 hZs
  have ST2 := run_storeTrk (t := t) (cho_two W0 (.cells #[.int .i64 0] 3) (.cells Z 85)).2 hZs
  have SA1 := fun cs => (cho_cells1 W0 Z cs).1
  have SB1 := fun cs => (cho_cells1 W0 Z cs).2
  have SA2 := fun cs => (cho_cells2 W0 Z cs).1
  have SB2 := fun cs => (cho_cells2 W0 Z cs).2
  have K0 := Lib.hid (HKR.out W0.drew (fun _ _ => rfl))
  have K1 := Lib.hid (HKR.out (W0.alloc (.cells Z 85)).drew (fun j hj => Below.heap_alloc _ _ _ hj))
  have K2 := Lib.hid (HKR.out (W0.alloc (.cells #[.int .i64 0] 3)).drew (fun j hj => Below.heap_alloc _ _ _ hj))
  have K3 := Lib.hid (HKR.out _ (cho_old W0 (.cells Z 85) (.cells #[.int .i64 0] 3)))
  have K4 := Lib.hid (HKR.out _ (cho_old W0 (.cells #[.int .i64 0] 3) (.cells Z 85)))
  have K5 := Lib.hid (HKR.out _ (cho_oldR W0 (.cells Z 85) (.cells #[.int .i64 0] 3) W0.heap.size (trkR.f t).toArray (Nat.le_refl _)))
  have K6 := Lib.hid (HKR.out _ (cho_oldR W0 (.cells #[.int .i64 0] 3) (.cells Z 85) (W0.heap.size + 1) (trkR.f t).toArray (Nat.le_succ _)))
  have K7 := Lib.hid (HKR.out _ (fun j hj => (cho_end1 W0 Z t).2.2.1.block j hj))
  have K8 := Lib.hid (HKR.out _ (fun j hj => (cho_end2 W0 Z t).2.2.1.block j hj))
  refine region_meet (R := fun a wx => ∃ b8 b9, a = { tmps := #[.pointer (some ⟨r, 0, none⟩), .pointer vp, .int .i64 k, .int .i64 now, undef, .pointer (some ⟨p5, 0, none⟩), .pointer (some ⟨p6, 0, none⟩), .pointer (some ⟨p7, 0, none⟩), .pointer (some ⟨b8, 0, none⟩), .pointer (some ⟨b9, 0, none⟩), undef, undef, undef, undef, undef, undef, undef, .pointer (some ⟨r, 0, none⟩), .pointer (some ⟨r, 0, none⟩), .pointer (some ⟨r, 0, none⟩), .slice (some ⟨tb, 0, none⟩) n cap, .int .i64 k, .pointer (some ⟨tb, k * 18, none⟩), .agg (trkR.f t).toArray, undef, undef, undef, undef, undef, undef, undef, undef, undef, undef, undef, undef, undef, undef, undef, undef, undef, undef, undef, undef, undef, undef, undef, undef, undef, undef, undef, undef, undef, undef, undef, undef, undef, undef, undef, undef, undef, undef, undef, undef, undef, undef, undef, undef, undef, undef, undef, undef, undef, undef, undef, undef, undef, undef, undef, undef, undef, undef, undef, undef, undef, undef, undef, undef, undef, undef, undef, undef], defers := [] } ∧ ChoEnd W0 t b8 b9 wx) ?h1 ?h2
  case h1 =>
    go_region_held3 (fun w' => w'.cell? ⟨r, 0, none⟩ = some (.slice (some ⟨tb, 0, none⟩) n cap) ∧ w'.cell? ⟨p6, 0, none⟩ = some (.int .i64 k) ∧ (loadTrk (.pointer (some ⟨tb, k * 18, none⟩))).run Tryz.prog w' = .ok (.agg (trkR.f t).toArray) w') (first | exact K0.out | exact K1.out | exact K2.out | exact K3.out | exact K4.out | exact K5.out | exact K6.out | exact K7.out | exact K8.out) (fail)
    all_goals first
      | exact ⟨_, _, rfl, cho_end1 W0 Z t⟩
      | exact ⟨_, _, rfl, cho_end2 W0 Z t⟩
  case h2 =>
    rintro _ wx ⟨b8, b9, rfl, h8, h9, hbx, l8, l9⟩
    have hbw : Below w.heap.size w wx := HW0.out.1.trans (hbx.mono HW0.out.1.size)
    obtain ⟨wb, hwb⟩ : ∃ wb, wb = wx.heap.size := ⟨_, rfl⟩
    obtain ⟨W1, hW1⟩ : ∃ W1, W1 = wx.alloc (.cells #[.slice none 0 0] 22) := ⟨_, rfl⟩
    have hb1 : Below wx.heap.size wx W1 := by rw [hW1]; exact (Below.refl _ wx).alloc (Nat.le_refl _) _
    have x10 : Boxed W1 wb 22 (.slice none 0 0) := by rw [hW1, hwb]; exact Boxed.new wx _ _
    have b8l : b8 < wx.heap.size := (Array.getElem?_eq_some_iff.1 h8).1
    have h8' := (hb1.block b8 b8l).trans h8
    have h9' : W1.cell? ⟨b9, 0, none⟩ = some (.int .i64 0) := by
      have b9l : b9 < wx.heap.size := cell_lt h9
      exact (World.cell?_of_block (a := ⟨b9, 0, none⟩) (hb1.block b9 b9l)).trans h9
    have hre1 : ReG F r gb ts W1 := (HRE.out.below hbw).below hb1
    have H1 := Lib.hid (And.intro hre1 (And.intro x10 (And.intro h8' (And.intro h9' (hbw.trans (hb1.mono hbw.size))))))
    have HW1 := Lib.hid hW1
    have HWB := Lib.hid hwb
    clear h8 h9 hbx l8 l9 hbw hW1 hb1 x10 b8l h8' h9' hre1 hwb ST1 ST2 SA1 SB1 SA2 SB2 K0 K1 K2 K3 K4 K5 K6 K7 K8 RA hZs hkn
    gi_wp2_with (first
      | (refine ⟨trivial, ?_⟩; gi_at_call 51; rw [← HW1.out]; refine (callsIn_wide.2 (refer_All0 H1.out.1)).mono ?_; rintro e w2 ⟨ab, rfl, hbx, hb⟩; have H2 := Lib.hid (And.intro hbx hb); clear hbx hb)
      | (gi_at_call 51; rw [← HW1.out]; refine (callsIn_wide.2 (refer_All0 H1.out.1)).mono ?_; rintro e w2 ⟨ab, rfl, hbx, hb⟩; have H2 := Lib.hid (And.intro hbx hb); clear hbx hb)
      | fail)
    rw [← HWB.out]
    obtain ⟨hab, hb2⟩ := H2.out
    have hit := now1_iter_R 0 ab w2 hab (fun k => k < w2.heap.size) hab.lt
    refine range_outer (n := 0) (gf := 97) (lb := #[.pointer (some ⟨ab, 0, none⟩)]) rfl enters_now_R hit (Grow.refl _) (fun k hk => ⟨hk, rfl⟩) (fun x => x.elim)
      (fun _ => False) (fun _ h => h.elim) (KeepJ w2) (fun _ _ _ _ => False) (KeepJ.stab w2) (fun c _ _ _ h => h.elim)
      ⟨fun _ h => h, fun _ _ => rfl, Nat.le_refl _⟩
      (fun x => x.elim) ?assign ?body ?done ?stop
    case assign =>
      intro l x
      exact x.elim
    case body =>
      intro l pre x
      exact x.elim
    case stop =>
      rintro D Φ c pre W3 hpre h
      exact h.elim
    case done =>
      rintro D Φ W3 ⟨hΦ, hk3, hz⟩ hon hD hnD hK
      obtain ⟨-, x10, h8, h9, hbw1⟩ := H1.out
      have e8 := (hk3 b8 (by have := (Array.getElem?_eq_some_iff.1 h8).1; have := hb2.size; omega)).trans ((hb2.block b8 (Array.getElem?_eq_some_iff.1 h8).1).trans h8)
      have e9 : W3.cell? ⟨b9, 0, none⟩ = some (.int .i64 0) := (World.cell?_of_block (a := ⟨b9, 0, none⟩) ((hk3 b9 (by have := cell_lt h9; have := hb2.size; omega)).trans (hb2.block b9 (cell_lt h9)))).trans h9
      have x3 : Boxed W3 wb 22 (.slice none 0 0) := (hk3 wb (by have := x10.lt; have := hb2.size; omega)).trans ((hb2.block wb x10.lt).trans x10)
      have c10 := x3.cell
      have c8 : W3.cell? ⟨b8, 0, none⟩ = some (.int .i64 t.most) := by rw [World.cell?, e8]; rfl
      have HD := Lib.hid (And.intro hon (And.intro hD hK))
      have HB := Lib.hid (And.intro hbw1 hb2)
      clear hΦ hk3 hz hon hD hnD hK x10 h8 h9 hbw1 e8 x3 hit hab hb2
      gi_wp2_with (first
        | (refine ⟨trivial, ?_⟩; gi_at_call 71; refine (callsIn_wide.2 (sortStable_none _)).mono ?_; rintro e w' ⟨⟨v, rfl⟩, hw⟩; rw [hw]; clear hw w')
        | (gi_at_call 71; refine (callsIn_wide.2 (sortStable_none _)).mono ?_; rintro e w' ⟨⟨v, rfl⟩, hw⟩; rw [hw]; clear hw w')
        | fail)
      gi_loopw [75] (fun r wr => r = .int .i64 0 ∧ wr = W3) (fun _ _ => 0)
      case atStart => exact ⟨rfl, rfl⟩
      case round =>
        obtain ⟨rfl, rfl⟩ := hrel
        gi_wp2
        obtain ⟨hon, hD, hK⟩ := HD.out
        obtain ⟨hbw1, hb2⟩ := HB.out
        refine ⟨by simp, .inl ⟨_, _, rfl, run_takeDeferred hK, ?_⟩⟩
        refine ⟨.tuple #[], by simp [results, Tryz.results50, go_sem], ⟨_, rfl⟩, ?_⟩
        have h12 := hbw1.trans (hb2.mono hbw1.size)
        refine ⟨hon.grow.os.trans h12.os, hon.grow.tape.trans h12.tape, hon.grow.output.trans h12.output, by have h1 := hon.grow.size; have h2 := h12.size; simp [World.putObj]; omega, fun k hk => ?_⟩
        have h1 := h12.size
        rw [put_other (by omega), hon.block k (by omega) (fun h => h) (fun h => h)]
        exact h12.block k hk
end Go.Proofs.YteioacpfphigjaaGreat
end

section
namespace Go.Proofs.YteioacpfphigjaaGreat
open Go.RowKit Go.Maps Go.Shelf
set_option linter.unusedVariables false
set_option linter.unusedSimpArgs false

theorem boxed_later {W W' : World} {p : Nat} {T : TypeId} {v : Value} (h : Boxed W p T v) (hb : Below W.heap.size W W') : W'.cell? ⟨p, 0, none⟩ = some v := Boxed.cell (t := T) ((hb.block p h.lt).trans h)
set_option maxHeartbeats 4000000 in
set_option maxRecDepth 100000 in
theorem service0 {F : FP} {r gb : Nat} {ts : List Trk} {w : World} (h : ReG F r gb ts w) (la va : Addr) (now : Int) :
    Calls Tryz.prog 37 #[.pointer (some ⟨r, 0, none⟩), .pointer (some la), .pointer (some va), .int .i64 now] w fun e w' => e = .returned (.slice none 0 0) ∧ Below w.heap.size w w' := by
  refine (callsIn_wide (n := 2)).1 ?_
  obtain ⟨W0, hW0⟩ : ∃ W0, W0 = (((w.alloc (.cells #[.pointer (some ⟨r, 0, none⟩)] 37)).alloc (.cells #[.pointer (some la)] 34)).alloc (.cells #[.pointer (some va)] 40)).alloc (.cells #[.int .i64 now] 3) := ⟨_, rfl⟩
  obtain ⟨p4, hp4⟩ : ∃ p4, p4 = w.heap.size := ⟨_, rfl⟩
  obtain ⟨p5, hp5⟩ : ∃ p5, p5 = p4 + 1 := ⟨_, rfl⟩
  obtain ⟨p6, hp6⟩ : ∃ p6, p6 = p5 + 1 := ⟨_, rfl⟩
  obtain ⟨p7, hp7⟩ : ∃ p7, p7 = p6 + 1 := ⟨_, rfl⟩
  have hb0 : Below w.heap.size w W0 := by rw [hW0]; exact ((((Below.refl _ w).alloc (Nat.le_refl _) _).alloc (by simp) _).alloc (by simp; omega) _).alloc (by simp; omega) _
  have hsz : W0.heap.size = p4 + 4 := by rw [hW0, hp4]; simp
  have x4 : Boxed W0 p4 37 (.pointer (some ⟨r, 0, none⟩)) := by rw [hW0, hp4]; exact (((Boxed.new w _ _).alloc _).alloc _).alloc _
  have x5 : Boxed W0 p5 34 (.pointer (some la)) := by
    have := Boxed.new (w.alloc (.cells #[.pointer (some ⟨r, 0, none⟩)] 37)) 34 (.pointer (some la))
    rw [World.size_alloc] at this
    rw [hW0, hp5, hp4]; exact (this.alloc _).alloc _
  have x6 : Boxed W0 p6 40 (.pointer (some va)) := by
    have := Boxed.new ((w.alloc (.cells #[.pointer (some ⟨r, 0, none⟩)] 37)).alloc (.cells #[.pointer (some la)] 34)) 40 (.pointer (some va))
    rw [World.size_alloc, World.size_alloc] at this
    rw [hW0, hp6, hp5, hp4]; exact this.alloc _
  have x7 : Boxed W0 p7 3 (.int .i64 now) := by
    have := Boxed.new (((w.alloc (.cells #[.pointer (some ⟨r, 0, none⟩)] 37)).alloc (.cells #[.pointer (some la)] 34)).alloc (.cells #[.pointer (some va)] 40)) 3 (.int .i64 now)
    rw [World.size_alloc, World.size_alloc, World.size_alloc] at this
    rw [hW0, hp7, hp6, hp5, hp4]; exact this
  have hre := h.below hb0
  obtain ⟨tb, cap, h1, -, -, -, -, -, hl100, -⟩ := hre
  have hre := h.below hb0
  obtain ⟨n, hn⟩ : ∃ n, n = ts.length := ⟨_, rfl⟩
  rw [← hn] at h1 hl100
  have hkeep : ∀ W, Below W0.heap.size W0 W → ReG F r gb ts W ∧ W.cell? ⟨p4, 0, none⟩ = some (.pointer (some ⟨r, 0, none⟩)) ∧ W.cell? ⟨p5, 0, none⟩ = some (.pointer (some la)) ∧ W.cell? ⟨p6, 0, none⟩ = some (.pointer (some va)) ∧ W.cell? ⟨p7, 0, none⟩ = some (.int .i64 now) ∧ W.cell? ⟨r, 0, none⟩ = some (.slice (some ⟨tb, 0, none⟩) n cap) := fun W hb =>
    ⟨hre.below hb, boxed_later x4 hb, boxed_later x5 hb, boxed_later x6 hb, boxed_later x7 hb, by rw [World.cell?, (hb.block r (Array.getElem?_eq_some_iff.1 h1).1).trans h1]; rfl⟩
  have HK := Lib.hid hkeep
  have HW0 := Lib.hid hW0
  have HB0 := Lib.hid hb0
  have HN := Lib.hid (And.intro hn hl100)
  have HPP := Lib.hid (And.intro hp4 (And.intro hp5 (And.intro hp6 (And.intro hp7 hsz))))
  have hnI : (n : Int) ≤ 100 := by omega
  clear hre h1 hkeep hb0 x4 x5 x6 x7 hn hl100 h
  refine callsIn_of_wp_marks Tryz.func37 rfl trivial ?_ rfl
  simp only [Tryz.ntmps37, List.size_toArray, List.length_cons, List.length_nil, Nat.reduceAdd, Nat.reduceSub, Array.replicate_succ, Array.replicate_zero, List.push_toArray, List.append_toArray, List.nil_append, List.cons_append]
  obtain ⟨hre, c4, c5, c6, c7, cr⟩ := HK.out W0 (Below.refl _ _)
  rw [hW0] at c4 c5 c6 c7 cr
  rw [hp7, hp6, hp5, hp4] at c7
  rw [hp6, hp5, hp4] at c6
  rw [hp5, hp4] at c5
  rw [hp4] at c4
  clear hW0 hp7 hp6 hp5 hp4 hsz hre
  gi_wp2_with fail
  rw [← HW0.out]
  rw [← HPP.out.1, ← HPP.out.2.1, ← HPP.out.2.2.1, ← HPP.out.2.2.2.1]
  clear c4 c5 c6 c7 cr
  gi_loopw [29] (fun i wr => ∃ k : Nat, k ≤ n ∧ i = .int .i64 k ∧ Below W0.heap.size W0 wr) (fun i _ => n - (intOf i).toNat)
  case atStart => exact ⟨0, Nat.zero_le _, rfl, Below.refl _ _⟩
  case round =>
    obtain ⟨k, hk, rfl, hbl⟩ := hrel
    obtain ⟨hre, c4, c5, c6, c7, cr⟩ := HK.out wr hbl
    have HBL := Lib.hid hbl
    have HRE := Lib.hid hre
    clear hbl hre
    by_cases hlt : k < n
    · have hlt' : (k : Int) < n := by omega
      have HLT := Lib.hid (show k < ts.length by rw [← HN.out.1]; exact hlt)
      gi_wp2_with (first
        | (refine ⟨trivial, ?_⟩; gi_at_call 50; refine (callsIn_wide.2 (choose0 HRE.out HLT.out _ _)).mono ?_; rintro e w' ⟨⟨v, rfl⟩, hb⟩; have HB := Lib.hid hb; clear hb)
        | (gi_at_call 50; refine (callsIn_wide.2 (choose0 HRE.out HLT.out _ _)).mono ?_; rintro e w' ⟨⟨v, rfl⟩, hb⟩; have HB := Lib.hid hb; clear hb)
        | fail)
      exact ⟨⟨k + 1, hlt, by go_num, HBL.out.trans (HB.out.mono HBL.out.size)⟩, by simp [intOf]; omega⟩
    · obtain rfl : k = n := by omega
      obtain ⟨wb, hwb⟩ : ∃ wb, wb = wr.heap.size := ⟨_, rfl⟩
      obtain ⟨W1, hW1⟩ : ∃ W1, W1 = wr.alloc (.cells #[.slice none 0 0] 69) := ⟨_, rfl⟩
      have hb1 : Below wr.heap.size wr W1 := by rw [hW1]; exact (Below.refl _ wr).alloc (Nat.le_refl _) _
      have x10 : Boxed W1 wb 69 (.slice none 0 0) := by rw [hW1, hwb]; exact Boxed.new wr _ _
      have hbw : Below W0.heap.size W0 W1 := HBL.out.trans (hb1.mono HBL.out.size)
      have c4' := (HK.out W1 hbw).2.1
      rw [hW1] at c4'
      have H1 := Lib.hid (And.intro hbw x10)
      have HWB := Lib.hid hwb
      have HW1 := Lib.hid hW1
      clear hb1 x10 hbw hwb hW1
      gi_wp2_with (first
        | (refine ⟨trivial, ?_⟩; gi_at_call 51; rw [← HW1.out]; refine (callsIn_wide.2 (refer_All0 (HK.out W1 H1.out.1).1)).mono ?_; rintro e w2 ⟨ab, rfl, hbx, hb⟩; have H2 := Lib.hid (And.intro hbx hb); clear hbx hb)
        | (gi_at_call 51; rw [← HW1.out]; refine (callsIn_wide.2 (refer_All0 (HK.out W1 H1.out.1).1)).mono ?_; rintro e w2 ⟨ab, rfl, hbx, hb⟩; have H2 := Lib.hid (And.intro hbx hb); clear hbx hb)
        | fail)
      rw [← HWB.out]
      obtain ⟨hab, hb2⟩ := H2.out
      have hit := now1_iter_R 0 ab w2 hab (fun k => k < w2.heap.size) hab.lt
      refine range_outer (n := 0) (gf := 97) (lb := #[.pointer (some ⟨ab, 0, none⟩)]) rfl enters_now_R hit (Grow.refl _) (fun k hk => ⟨hk, rfl⟩) (fun x => x.elim)
        (fun _ => False) (fun _ h => h.elim) (KeepJ w2) (fun _ _ _ _ => False) (KeepJ.stab w2) (fun c _ _ _ h => h.elim)
        ⟨fun _ h => h, fun _ _ => rfl, Nat.le_refl _⟩
        (fun x => x.elim) ?assign ?body ?done ?stop
      case assign =>
        intro l x
        exact x.elim
      case body =>
        intro l pre x
        exact x.elim
      case stop =>
        rintro D Φ c pre W3 hpre h
        exact h.elim
      case done =>
        rintro D Φ W3 ⟨hΦ, hk3, hz⟩ hon hD hnD hK
        obtain ⟨hbw, x10⟩ := H1.out
        have x3 : Boxed W3 wb 69 (.slice none 0 0) := (hk3 wb (by have := x10.lt; have := hb2.size; omega)).trans ((hb2.block wb x10.lt).trans x10)
        have c10 := x3.cell
        have HD := Lib.hid (And.intro hon (And.intro hD hK))
        have HB := Lib.hid (And.intro hbw hb2)
        clear hΦ hk3 hz hon hD hnD hK x10 x3 hit hab hb2 hbw
        gi_wp2_with fail
        obtain ⟨hon, hD, hK⟩ := HD.out
        obtain ⟨hbw, hb2⟩ := HB.out
        refine ⟨by simp, .inl ⟨_, _, rfl, run_takeDeferred hK, ?_⟩⟩
        refine ⟨.slice none 0 0, by simp [results, Tryz.results37, go_sem], rfl, ?_⟩
        have h01 := HB0.out.trans (hbw.mono HB0.out.size)
        have h12 := h01.trans (hb2.mono h01.size)
        refine ⟨hon.grow.os.trans h12.os, hon.grow.tape.trans h12.tape, hon.grow.output.trans h12.output, by have h1 := hon.grow.size; have h2 := h12.size; simp [World.putObj]; omega, fun k hk => ?_⟩
        have h1 := h12.size
        rw [put_other (by omega), hon.block k (by omega) (fun h => h) (fun h => h)]
        exact h12.block k hk
end Go.Proofs.YteioacpfphigjaaGreat
end

section
namespace Go.Proofs.YteioacpfphigjaaGreat
open Go.RowKit Go.Maps Go.Shelf
attribute [local go_sem] Oper.semAt_some
set_option linter.unusedVariables false
set_option linter.unusedSimpArgs false

set_option maxHeartbeats 4000000 in
set_option maxRecDepth 100000 in
theorem ended_iter (n : Nat) (bx : Nat) (ao : Option Addr) (cap : Nat) (w : World) (hbx : Boxed w bx 69 (.slice ao 0 cap)) (G : FP) (hGb : G bx) :
    Iter Tryz.prog n 56 #[.pointer (some ⟨bx, 0, none⟩)] encE [] G w := by
  intro lp B Ψ J Jx Φ0 W hgw hG hΨ hΦ0 hJ hJx hround h0
  have hc1 : W.cell? ⟨bx, 0, none⟩ = some (.slice ao 0 cap) := (World.cell?_of_block (hG bx hGb).2).trans hbx.cell
  refine callsIn_of_wp Tryz.func56 rfl trivial ?_ rfl
  simp only [Tryz.ntmps56, List.size_toArray, List.length_cons, List.length_nil, Nat.reduceAdd, Nat.reduceSub, Array.replicate_succ, Array.replicate_zero, List.push_toArray, List.append_toArray, List.nil_append, List.cons_append]
  have HH0 := Lib.hid h0
  clear hround hJ hJx hG hΨ hΦ0 hbx hGb h0
  gi_wp2_with fail
  gi_loopw [7] (fun r wr => r = .int .i64 0 ∧ wr = W) (fun _ _ => 0)
  case atStart => exact ⟨rfl, rfl⟩
  case round =>
    obtain ⟨rfl, rfl⟩ := hrel
    gi_wp2
    refine bodyPost_end (results_none rfl _ _ _) rfl ?_
    exact ⟨⟨_, rfl⟩, Φ0, fun j h => .inl h, Only.refl _ _ _, .inl HH0.out⟩
theorem enters_ended : ∀ args w, (callFunc 56 args).run Tryz.prog w = .ok (.enter 56 args) w := enters_of Tryz.func56 (by kernel_rfl) rfl
theorem chain_ended (ao : Option Addr) (n cap : Nat) (w : World) : Calls Tryz.prog 38 #[.slice ao n cap] w fun e w' => e = .returned (.func (.func 56) #[] #[.pointer (some ⟨w.heap.size, 0, none⟩)]) ∧ w' = w.alloc (.cells #[.slice ao n cap] 69) := by
  go_enter Tryz.func38, Tryz.ntmps38
  go_wp2
  go_ret
  exact ⟨rfl, rfl⟩
end Go.Proofs.YteioacpfphigjaaGreat
end
