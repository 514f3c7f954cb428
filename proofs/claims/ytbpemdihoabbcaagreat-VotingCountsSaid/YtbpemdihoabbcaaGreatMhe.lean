/-
  Joined texts.
-/
import Derived.Shelf.Abstract
import Derived.Shelf.RegionOpen
import Derived.TacticsInMore
import Derived.LoopNIn
import Derived.LoopIn
import Derived.StillTailTactics
import Derived.OrdersIn
import Derived.WalkKit
import Derived.TacticsIn
import Derived.RangeFuncCalls
import Derived.Test.YtbpemdihoabbcaaGreatChecked
import Derived.Below
import Derived.Lib.Hide
import Derived.Test.YtbpemdihoabbcaaGreatMhd
namespace Go.Proofs.YtbpemdihoabbcaaGreat
set_option linter.unusedVariables false
set_option linter.unusedSimpArgs false
section
open Go.RowKit
def IterF {α : Type} (P : Program) (n : Nat) (gf : Nat) (lb : Array Value) (encs : α → Array Value) (xs : List α) (G : FP) (w : World) : Prop :=
 ∀ (l B : Nat) (Ψ : FP) (J Jx : List α → FP → World → Prop) (Φ0 : FP) (W : World), Grow w W → (∀ k, G k → k < w.heap.size ∧ W.heap[k]? = w.heap[k]?) → (∀ k, Ψ k → k < B) → Stab B J → Stab B Jx →
  (∀ pre x Φ W1, (pre ++ [x]) <+: xs → J pre Φ W1 → RoundOk P n l encs Ψ J Jx pre x Φ W1) → J [] Φ0 W →
  CallsIn Fence.wide (n + 1) P gf (#[.func (.yield l) #[] #[]] ++ lb) W fun e W' => (∃ v, e = .returned v) ∧ Leaves Ψ Φ0 W (fun Φ' W' => J xs Φ' W' ∨ ∃ pre, pre <+: xs ∧ Jx pre Φ' W') W'
section
variable {P : Program} {α : Type}
theorem range_outerF {n : Nat} {g : Operand} {ps : Array Tmp} {assign body : Code} {Q : Exit → Act → World → Prop} {a : Act} {w : World} {gf : Nat} {lb : Array Value} (hg : a.eval g = .func (.func gf) #[] lb) (eg : ∀ args w, (callFunc gf args).run P w = .ok (.enter gf args) w)
 {encs : α → Array Value} {xs : List α} {G : FP} {w0 : World} (hit : IterF P n gf lb encs xs G w0) (hg0 : Grow w0 w) (hG : ∀ k, G k → k < w0.heap.size ∧ w.heap[k]? = w0.heap[k]?) (hps : ∀ x, (encs x).size = ps.size)
 (Ψ : FP) (hΨ : ∀ k, Ψ k → k < w.heap.size) (I : List α → FP → World → Prop) (Ix : Code → List α → FP → World → Prop) (hI : Stab w.heap.size I) (hIx : ∀ c, Stab w.heap.size (Ix c)) (h0 : I [] (fun _ => False) w) (a₁ : α → Act)
 (hassign : ∀ (l : Nat) (x : α) (W : World) (K : Act → World → Prop), K (a₁ x) W → assign.wpIn (Fence.wide.inRound l) n P (Exit.then K (fun _ _ _ => False)) { tmps := (ps.zip (encs x)).foldl (fun t (p, v) => t.setIfInBounds p v) a.tmps, defers := [] } W)
 (hbody : ∀ (l : Nat) (pre : List α) (x : α) (Φ : FP) (W : World), (pre ++ [x]) <+: xs → I pre Φ W → w.heap.size < l → (∀ k, Φ k → l + 1 ≤ k) → (∃ r, W.heap[l]? = some (.loop r)) → body.wpIn (Fence.wide.inRound l) n P (bodyI Ψ Φ I Ix (pre ++ [x]) W) (a₁ x) W)
 (hdone : ∀ (D : Nat) (Φ : FP) (W : World), I xs Φ W → Only Ψ (fun _ => False) w W → w.heap.size ≤ D → ¬ Φ D → W.heap[D]? = some (.deferred (some [])) → Q .normal { a with defers := { target := .collected D, args := #[] } :: a.defers } W)
 (hstop : ∀ (D : Nat) (Φ : FP) (c : Code) (pre : List α) (W : World), pre <+: xs → Ix c pre Φ W → Only Ψ (fun _ => False) w W → w.heap.size ≤ D → ¬ Φ D → W.heap[D]? = some (.deferred (some [])) → c.wpIn Fence.wide (n + 2) P Q { a with defers := { target := .collected D, args := #[] } :: a.defers } W) :
 (Code.rangeFunc g ps assign body).wpIn Fence.wide (n + 2) P Q a w := by
 refine wpIn_rangeFunc ?_
 intro fn hfn
 obtain ⟨W1, hW1⟩ : ∃ W1, (w.alloc (.deferred (some []))).alloc (.loop (recOf fn a.tmps ps assign body w.heap.size .ready none)) = W1 := ⟨_, rfl⟩
 have hL1 : W1.heap[w.heap.size + 1]? = some (.loop (recOf fn a.tmps ps assign body w.heap.size .ready none)) := by
  rw [← hW1]; have := World.alloc_heap_new (w.alloc (.deferred (some []))) (.loop (recOf fn a.tmps ps assign body w.heap.size .ready none)); rwa [World.size_alloc] at this
 have hK1 : W1.heap[w.heap.size]? = some (.deferred (some [])) := by
  rw [← hW1]; exact (Below.heap_alloc _ _ _ (by simp)).trans (World.alloc_heap_new w _)
 have hB1 : Below w.heap.size w W1 := by rw [← hW1]; exact ((Below.refl _ w).alloc (Nat.le_refl _) _).alloc (by simp) _
 have hsz : W1.heap.size = w.heap.size + 2 := by rw [← hW1]; simp
 have hi1 : I [] (fun _ => False) W1 := (hI _ _ _ h0).2.2 _ (Grow.of_below hB1) (fun k hk => hk.elim (fun h => hB1.block k h) (fun h => h.elim))
 refine ⟨w.heap.size + 1, [{ target := .collected w.heap.size, args := #[] }], W1, { target := .fn (.func gf) lb, args := #[.func (.yield (w.heap.size + 1)) #[] #[]] }, W1, gf,
  #[.func (.yield (w.heap.size + 1)) #[] #[]] ++ lb, W1, ?_, ?_, ?_, ?_, fun h => by simp [Fence.wide] at h, ?_⟩
 · rw [← hW1]; exact run_enterLoop_outer _ _ _ _ _
 · simp only [resolve, hg]
   simp [go_sem]
 · intro f' hf'; simp [Target.leads] at hf'; subst hf'; trivial
 · simp [invoke, go_sem, eg]
 · have hD : ∀ d, some w.heap.size = some d → w.heap.size ≤ d ∧ d < w.heap.size + 1 := fun d hd => by cases hd; omega
   refine (hit (w.heap.size + 1) (w.heap.size + 2) (fun k => Ψ k ∨ k = w.heap.size + 1) (InvJ I (w.heap.size + 1) (some w.heap.size) (recOf fn a.tmps ps assign body w.heap.size .ready none))
    (fun pre Φ W => ∃ c, InvJ (Ix c) (w.heap.size + 1) (some w.heap.size) (recOf fn a.tmps ps assign body w.heap.size .done (some c)) pre Φ W) (fun _ => False) W1 (hg0.trans (Grow.of_below hB1))
    (fun k hk => ⟨(hG k hk).1, (hB1.block k (Nat.lt_of_lt_of_le (hG k hk).1 hg0.size)).trans (hG k hk).2⟩) (fun k hk => ?_) (InvJ.stab hI (by omega) (fun d hd => (hD d hd).2)) ?_ ?_ ⟨hi1, fun _ h => h.elim, hL1, fun d hd => by cases hd; exact hK1⟩).mono ?_
   · rcases hk with h | h
     · have := hΨ k h; omega
     · omega
   · rintro pre Φ W ⟨c, hc⟩
     obtain ⟨h1, h2, h3⟩ := InvJ.stab (hIx c) (by omega) (fun d hd => (hD d hd).2) _ _ _ hc
     exact ⟨h1, h2, fun W' hg' hk => ⟨c, h3 W' hg' hk⟩⟩
   · intro pre x Φ W hpx hJ
     exact round_of_body hI hIx (by omega) hΨ hps hD a₁ hJ (fun W K hK => hassign _ x W K hK) (fun W hi hΦ hr => hbody _ pre x Φ W hpx hi (by omega) hΦ hr)
   · have fine : ∀ W2, Only (fun k => Ψ k ∨ k = w.heap.size + 1) (fun _ => False) W1 W2 → ∀ r, Only Ψ (fun _ => False) w (W2.putObj (w.heap.size + 1) (.loop r)) := fun W2 ho r =>
      ⟨((Grow.of_below hB1).trans ho.grow).trans (put_grow _ _ _), fun k hk h1 h2 => (put_other (by omega)).trans ((ho.block k (by omega) (fun h => h.elim h1 (by omega)) h2).trans (hB1.block k hk))⟩
     rintro e W2 ⟨⟨v, rfl⟩, Φ', hn, ho, (⟨hi, hΦ, hl, hk⟩ | ⟨pre, hpre, c, hi, hΦ, hl, hk⟩)⟩
     · have hnD : ¬ Φ' w.heap.size := fun h => by have := hΦ _ h; omega
       refine ⟨none, _, run_endLoop (P := P) hl (by simp [recOf]), hdone _ Φ' _ ?_ (fine W2 ho _) (Nat.le_refl _) hnD ((put_other (by omega)).trans (hk _ rfl))⟩
       exact (hI _ _ _ hi).2.2 _ (put_grow _ _ _) (fun k hk' => put_other (hk'.elim (fun h => by omega) (fun h => by have := hΦ k h; omega)))
     · have hnD : ¬ Φ' w.heap.size := fun h => by have := hΦ _ h; omega
       refine ⟨some c, _, run_endLoop (P := P) hl (by simp [recOf]), hstop _ Φ' c pre _ hpre ?_ (fine W2 ho _) (Nat.le_refl _) hnD ((put_other (by omega)).trans (hk _ rfl))⟩
       exact (hIx c _ _ _ hi).2.2 _ (put_grow _ _ _) (fun k hk' => put_other (hk'.elim (fun h => by omega) (fun h => by have := hΦ k h; omega)))
end
end
section
open Go.RowKit
section
variable {P : Program} {α : Type}
theorem round_of_bodyA {n l : Nat} {fn : FuncId} {encs : α → Array Value} {ps : Array Tmp} {assign body : Code} {tm : Array Value} {dfr : Nat} {Ψ : FP} {I : List α → FP → World → Prop} {Ix : Code → List α → FP → World → Prop} {B : Nat} (hI : Stab B I) (hIx : ∀ c, Stab B (Ix c))
 (hBJ : B ≤ l) (hΨ : ∀ k, Ψ k → k < B) (hps : ∀ x, (encs x).size = ps.size) {D : Option Nat} (hD : ∀ d, D = some d → B ≤ d ∧ d < l) (aOf : α → Nat → Act) (At : α → Nat → World → Prop) (hAt : ∀ x N W W', At x N W → W'.heap[N]? = W.heap[N]? → At x N W') {pre : List α} {x : α} {Φ : FP} {W : World}
 (hJ : InvJ I l D (recOf fn tm ps assign body dfr .ready none) pre Φ W)
 (hassign : ∀ (W : World) (K : Act → World → Prop), (∀ W', Below W.heap.size W W' → W.heap.size < W'.heap.size → At x W.heap.size W' → K (aOf x W.heap.size) W') → assign.wpIn (Fence.wide.inRound l) n P (Exit.then K (fun _ _ _ => False)) { tmps := (ps.zip (encs x)).foldl (fun t (p, v) => t.setIfInBounds p v) tm, defers := [] } W)
 (hbody : ∀ N W, I pre Φ W → (∀ k, Φ k → l + 1 ≤ k ∧ k < N) → (∃ r, W.heap[l]? = some (.loop r)) → l < N → N < W.heap.size → At x N W → body.wpIn (Fence.wide.inRound l) n P (bodyI Ψ Φ I Ix (pre ++ [x]) W) (aOf x N) W) :
 RoundOk P n l encs (fun k => Ψ k ∨ k = l) (InvJ I l D (recOf fn tm ps assign body dfr .ready none))
  (fun pre Φ W => ∃ c, InvJ (Ix c) l D (recOf fn tm ps assign body dfr .done (some c)) pre Φ W) pre x Φ W := by
 obtain ⟨hi, hΦ, hl, hDW⟩ := hJ
 have hlt : l < W.heap.size := (Array.getElem?_eq_some_iff.1 hl).1
 have hy := run_yield (P := P) (args := encs x) hl (hps x)
 refine ⟨fn, _, assign, body, hy, roundIn_of_wpIn trivial (hassign W _ fun V hV hVs hVA => ?_)⟩
 have hlV : V.heap[l]? = some (.loop (recOf fn tm ps assign body dfr .ready none)) := (hV.block l hlt).trans hl
 refine ⟨_, run_beginRound hlV rfl, ?_⟩
 obtain ⟨W2, hW2⟩ : ∃ W2, W2 = V.putObj l (.loop { recOf fn tm ps assign body dfr .ready none with state := .busy }) := ⟨_, rfl⟩
 rw [← hW2]
 have hl2 : W2.heap[l]? = some (.loop (recOf fn tm ps assign body dfr .busy none)) := by rw [hW2]; exact World.putObj_heap_same (Nat.lt_of_lt_of_le hlt hV.size)
 have hnl : ∀ k, Φ k → k ≠ l := fun k hk e => by have := hΦ k hk; omega
 have ho2 : ∀ k, k ≠ l → k < W.heap.size → W2.heap[k]? = W.heap[k]? := fun k hk hkW => by rw [hW2]; exact (put_other hk).trans (hV.block k hkW)
 have hIW := hI _ _ _ hi
 have hi2 : I pre Φ W2 := hIW.2.2 _ (by rw [hW2]; exact (Grow.of_below hV).trans (put_grow _ _ _)) (fun k hk => ho2 k (hk.elim (fun h => by omega) (fun h => hnl k h)) (hk.elim (fun h => by omega) (fun h => (hIW.1 k h).2)))
 have hA2 : At x W.heap.size W2 := hAt _ _ _ _ hVA (by rw [hW2]; exact put_other (by omega))
 have hsz : W2.heap.size = V.heap.size := by rw [hW2]; simp [World.putObj]
 have hg2 : Grow W W2 := by rw [hW2]; exact (Grow.of_below hV).trans (put_grow _ _ _)
 have hWV : W.heap.size ≤ W2.heap.size := by rw [hsz]; exact hV.size
 clear hW2
 refine wpIn_mono (hbody _ _ hi2 (fun k hk => ⟨hΦ k hk, (hIW.1 k hk).2⟩) ⟨_, hl2⟩ hlt (by rw [hsz]; exact hVs) hA2) ?_
 have fin : ∀ (jump : Option Code) (Φ' : FP) (W3 : World) (R : List α → FP → World → Prop), Only Ψ Φ W2 W3 → (∀ k, Φ' k → Φ k ∨ W2.heap.size ≤ k) → Stab B R → R (pre ++ [x]) Φ' W3 →
  ∃ W4, (Instr.endRound l jump).run P W3 = .ok (.bool jump.isNone) W4 ∧ (∀ k, Φ' k → Φ k ∨ W.heap.size ≤ k) ∧ Only (fun k => Ψ k ∨ k = l) Φ W W4 ∧
   InvJ R l D (recOf fn tm ps assign body dfr (if jump.isNone then .ready else .done) jump) (pre ++ [x]) Φ' W4 := by
  intro jump Φ' W3 R ho hn hS hR
  have hl3 : W3.heap[l]? = some (.loop (recOf fn tm ps assign body dfr .busy none)) := (ho.block l (by omega) (fun h => by have := hΨ l h; omega) (fun h => hnl l h rfl)).trans hl2
  have hlt3 : l < W3.heap.size := (Array.getElem?_eq_some_iff.1 hl3).1
  have hn : ∀ k, Φ' k → Φ k ∨ W.heap.size ≤ k := fun k hk => (hn k hk).imp id (fun h => Nat.le_trans hWV h)
  have hΦ' : ∀ k, Φ' k → l + 1 ≤ k := fun k hk => (hn k hk).elim (hΦ k) (fun h => by omega)
  refine ⟨_, run_endRound (P := P) jump hl3, hn, ⟨(hg2.trans ho.grow).trans (put_grow _ _ _), fun k hk h1 h2 => ?_⟩, (hS _ _ _ hR).2.2 _ (put_grow _ _ _) (fun k hk => put_other ?_), hΦ', World.putObj_heap_same hlt3, fun d hd => ?_⟩
  · have hkl : k ≠ l := fun e => h1 (.inr e)
    exact (put_other hkl).trans ((ho.block k (by omega) (fun h => h1 (.inl h)) h2).trans (ho2 k hkl hk))
  · rcases hk with h | h
    · omega
    · have := hΦ' k h; omega
  · obtain ⟨d1, d2⟩ := hD d hd
    exact (put_other (by omega)).trans ((ho.block d (by omega) (fun h => by have := hΨ d h; omega) (fun h => by have := hΦ d h; omega)).trans ((ho2 d (by omega) (by omega)).trans (hDW d hd)))
 rintro e a3 W3 hp
 cases e with
 | normal =>
  obtain ⟨Φ', hn, ho, hR⟩ := hp
  obtain ⟨W4, hr, h1, h2, h3⟩ := fin none Φ' W3 I ho hn hI hR
  exact ⟨_, _, hr, Φ', h1, h2, .inl ⟨rfl, h3⟩⟩
 | ret =>
  obtain ⟨Φ', hn, ho, hR⟩ := hp
  obtain ⟨W4, hr, h1, h2, h3⟩ := fin (some .ret) Φ' W3 (Ix .ret) ho hn (hIx _) hR
  exact ⟨_, _, hr, Φ', h1, h2, .inr ⟨rfl, .ret, h3⟩⟩
 | exit id =>
  obtain ⟨Φ', hn, ho, hR⟩ := hp
  obtain ⟨W4, hr, h1, h2, h3⟩ := fin (some (.exit id)) Φ' W3 (Ix (.exit id)) ho hn (hIx _) hR
  exact ⟨_, _, hr, Φ', h1, h2, .inr ⟨rfl, .exit id, h3⟩⟩
 | goto t =>
  obtain ⟨Φ', hn, ho, hR⟩ := hp
  obtain ⟨W4, hr, h1, h2, h3⟩ := fin (some (.goto t)) Φ' W3 (Ix (.goto t)) ho hn (hIx _) hR
  exact ⟨_, _, hr, Φ', h1, h2, .inr ⟨rfl, .goto t, h3⟩⟩
 | panic ch => exact hp.elim
 | outgrown => exact hp.elim
theorem range_outerA {n : Nat} {g : Operand} {ps : Array Tmp} {assign body : Code} {Q : Exit → Act → World → Prop} {a : Act} {w : World} {gf : Nat} {lb : Array Value} (hg : a.eval g = .func (.func gf) #[] lb) (eg : ∀ args w, (callFunc gf args).run P w = .ok (.enter gf args) w)
 {encs : α → Array Value} {xs : List α} {G : FP} {w0 : World} (hit : IterF P n gf lb encs xs G w0) (hg0 : Grow w0 w) (hG : ∀ k, G k → k < w0.heap.size ∧ w.heap[k]? = w0.heap[k]?) (hps : ∀ x, (encs x).size = ps.size)
 (Ψ : FP) (hΨ : ∀ k, Ψ k → k < w.heap.size) (I : List α → FP → World → Prop) (Ix : Code → List α → FP → World → Prop) (hI : Stab w.heap.size I) (hIx : ∀ c, Stab w.heap.size (Ix c)) (h0 : I [] (fun _ => False) w) (aOf : α → Nat → Act) (At : α → Nat → World → Prop) (hAt : ∀ x N W W', At x N W → W'.heap[N]? = W.heap[N]? → At x N W')
 (hassign : ∀ (l : Nat) (x : α) (W : World) (K : Act → World → Prop), (∀ W', Below W.heap.size W W' → W.heap.size < W'.heap.size → At x W.heap.size W' → K (aOf x W.heap.size) W') → assign.wpIn (Fence.wide.inRound l) n P (Exit.then K (fun _ _ _ => False)) { tmps := (ps.zip (encs x)).foldl (fun t (p, v) => t.setIfInBounds p v) a.tmps, defers := [] } W)
 (hbody : ∀ (l : Nat) (pre : List α) (x : α) (Φ : FP) (N : Nat) (W : World), (pre ++ [x]) <+: xs → I pre Φ W → w.heap.size < l → (∀ k, Φ k → l + 1 ≤ k ∧ k < N) → (∃ r, W.heap[l]? = some (.loop r)) → l < N → N < W.heap.size → At x N W → body.wpIn (Fence.wide.inRound l) n P (bodyI Ψ Φ I Ix (pre ++ [x]) W) (aOf x N) W)
 (hdone : ∀ (D : Nat) (Φ : FP) (W : World), I xs Φ W → Only Ψ (fun _ => False) w W → w.heap.size ≤ D → ¬ Φ D → W.heap[D]? = some (.deferred (some [])) → Q .normal { a with defers := { target := .collected D, args := #[] } :: a.defers } W)
 (hstop : ∀ (D : Nat) (Φ : FP) (c : Code) (pre : List α) (W : World), pre <+: xs → Ix c pre Φ W → Only Ψ (fun _ => False) w W → w.heap.size ≤ D → ¬ Φ D → W.heap[D]? = some (.deferred (some [])) → c.wpIn Fence.wide (n + 2) P Q { a with defers := { target := .collected D, args := #[] } :: a.defers } W) :
 (Code.rangeFunc g ps assign body).wpIn Fence.wide (n + 2) P Q a w := by
 refine wpIn_rangeFunc ?_
 intro fn hfn
 obtain ⟨W1, hW1⟩ : ∃ W1, (w.alloc (.deferred (some []))).alloc (.loop (recOf fn a.tmps ps assign body w.heap.size .ready none)) = W1 := ⟨_, rfl⟩
 have hL1 : W1.heap[w.heap.size + 1]? = some (.loop (recOf fn a.tmps ps assign body w.heap.size .ready none)) := by
  rw [← hW1]; have := World.alloc_heap_new (w.alloc (.deferred (some []))) (.loop (recOf fn a.tmps ps assign body w.heap.size .ready none)); rwa [World.size_alloc] at this
 have hK1 : W1.heap[w.heap.size]? = some (.deferred (some [])) := by
  rw [← hW1]; exact (Below.heap_alloc _ _ _ (by simp)).trans (World.alloc_heap_new w _)
 have hB1 : Below w.heap.size w W1 := by rw [← hW1]; exact ((Below.refl _ w).alloc (Nat.le_refl _) _).alloc (by simp) _
 have hsz : W1.heap.size = w.heap.size + 2 := by rw [← hW1]; simp
 have hi1 : I [] (fun _ => False) W1 := (hI _ _ _ h0).2.2 _ (Grow.of_below hB1) (fun k hk => hk.elim (fun h => hB1.block k h) (fun h => h.elim))
 refine ⟨w.heap.size + 1, [{ target := .collected w.heap.size, args := #[] }], W1, { target := .fn (.func gf) lb, args := #[.func (.yield (w.heap.size + 1)) #[] #[]] }, W1, gf,
  #[.func (.yield (w.heap.size + 1)) #[] #[]] ++ lb, W1, ?_, ?_, ?_, ?_, fun h => by simp [Fence.wide] at h, ?_⟩
 · rw [← hW1]; exact run_enterLoop_outer _ _ _ _ _
 · simp only [resolve, hg]
   simp [go_sem]
 · intro f' hf'; simp [Target.leads] at hf'; subst hf'; trivial
 · simp [invoke, go_sem, eg]
 · have hD : ∀ d, some w.heap.size = some d → w.heap.size ≤ d ∧ d < w.heap.size + 1 := fun d hd => by cases hd; omega
   refine (hit (w.heap.size + 1) (w.heap.size + 2) (fun k => Ψ k ∨ k = w.heap.size + 1) (InvJ I (w.heap.size + 1) (some w.heap.size) (recOf fn a.tmps ps assign body w.heap.size .ready none))
    (fun pre Φ W => ∃ c, InvJ (Ix c) (w.heap.size + 1) (some w.heap.size) (recOf fn a.tmps ps assign body w.heap.size .done (some c)) pre Φ W) (fun _ => False) W1 (hg0.trans (Grow.of_below hB1))
    (fun k hk => ⟨(hG k hk).1, (hB1.block k (Nat.lt_of_lt_of_le (hG k hk).1 hg0.size)).trans (hG k hk).2⟩) (fun k hk => ?_) (InvJ.stab hI (by omega) (fun d hd => (hD d hd).2)) ?_ ?_ ⟨hi1, fun _ h => h.elim, hL1, fun d hd => by cases hd; exact hK1⟩).mono ?_
   · rcases hk with h | h
     · have := hΨ k h; omega
     · omega
   · rintro pre Φ W ⟨c, hc⟩
     obtain ⟨h1, h2, h3⟩ := InvJ.stab (hIx c) (by omega) (fun d hd => (hD d hd).2) _ _ _ hc
     exact ⟨h1, h2, fun W' hg' hk => ⟨c, h3 W' hg' hk⟩⟩
   · intro pre x Φ W hpx hJ
     exact round_of_bodyA hI hIx (by omega) hΨ hps hD aOf At hAt hJ (fun W K hK => hassign _ x W K hK) (fun N W hi hΦ hr h1 h2 h3 => hbody _ pre x Φ N W hpx hi (by omega) hΦ hr h1 h2 h3)
   · have fine : ∀ W2, Only (fun k => Ψ k ∨ k = w.heap.size + 1) (fun _ => False) W1 W2 → ∀ r, Only Ψ (fun _ => False) w (W2.putObj (w.heap.size + 1) (.loop r)) := fun W2 ho r =>
      ⟨((Grow.of_below hB1).trans ho.grow).trans (put_grow _ _ _), fun k hk h1 h2 => (put_other (by omega)).trans ((ho.block k (by omega) (fun h => h.elim h1 (by omega)) h2).trans (hB1.block k hk))⟩
     rintro e W2 ⟨⟨v, rfl⟩, Φ', hn, ho, (⟨hi, hΦ, hl, hk⟩ | ⟨pre, hpre, c, hi, hΦ, hl, hk⟩)⟩
     · have hnD : ¬ Φ' w.heap.size := fun h => by have := hΦ _ h; omega
       refine ⟨none, _, run_endLoop (P := P) hl (by simp [recOf]), hdone _ Φ' _ ?_ (fine W2 ho _) (Nat.le_refl _) hnD ((put_other (by omega)).trans (hk _ rfl))⟩
       exact (hI _ _ _ hi).2.2 _ (put_grow _ _ _) (fun k hk' => put_other (hk'.elim (fun h => by omega) (fun h => by have := hΦ k h; omega)))
     · have hnD : ¬ Φ' w.heap.size := fun h => by have := hΦ _ h; omega
       refine ⟨some c, _, run_endLoop (P := P) hl (by simp [recOf]), hstop _ Φ' c pre _ hpre ?_ (fine W2 ho _) (Nat.le_refl _) hnD ((put_other (by omega)).trans (hk _ rfl))⟩
       exact (hIx c _ _ _ hi).2.2 _ (put_grow _ _ _) (fun k hk' => put_other (hk'.elim (fun h => by omega) (fun h => by have := hΦ k h; omega)))
end
end
section
open Go.RowKit
section
variable {P : Program} {α : Type}
theorem range_outerAI {n : Nat} {g : Operand} {ps : Array Tmp} {assign body : Code} {Q : Exit → Act → World → Prop} {a : Act} {w : World} {gf : Nat} {lb : Array Value} (hg : a.eval g = .func (.func gf) #[] lb) (eg : ∀ args w, (callFunc gf args).run P w = .ok (.enter gf args) w)
 {encs : α → Array Value} {xs : List α} {G : FP} {w0 : World} (hit : Iter P n gf lb encs xs G w0) (hg0 : Grow w0 w) (hG : ∀ k, G k → k < w0.heap.size ∧ w.heap[k]? = w0.heap[k]?) (hps : ∀ x, (encs x).size = ps.size)
 (Ψ : FP) (hΨ : ∀ k, Ψ k → k < w.heap.size ∧ ¬ G k) (I : List α → FP → World → Prop) (Ix : Code → List α → FP → World → Prop) (hI : Stab w.heap.size I) (hIx : ∀ c, Stab w.heap.size (Ix c)) (h0 : I [] (fun _ => False) w) (aOf : α → Nat → Act) (At : α → Nat → World → Prop) (hAt : ∀ x N W W', At x N W → W'.heap[N]? = W.heap[N]? → At x N W')
 (hassign : ∀ (l : Nat) (x : α) (W : World) (K : Act → World → Prop), (∀ W', Below W.heap.size W W' → W.heap.size < W'.heap.size → At x W.heap.size W' → K (aOf x W.heap.size) W') → assign.wpIn (Fence.wide.inRound l) n P (Exit.then K (fun _ _ _ => False)) { tmps := (ps.zip (encs x)).foldl (fun t (p, v) => t.setIfInBounds p v) a.tmps, defers := [] } W)
 (hbody : ∀ (l : Nat) (pre : List α) (x : α) (Φ : FP) (N : Nat) (W : World), (pre ++ [x]) <+: xs → I pre Φ W → w.heap.size < l → (∀ k, Φ k → l + 1 ≤ k ∧ k < N) → (∃ r, W.heap[l]? = some (.loop r)) → l < N → N < W.heap.size → At x N W → body.wpIn (Fence.wide.inRound l) n P (bodyI Ψ Φ I Ix (pre ++ [x]) W) (aOf x N) W)
 (hdone : ∀ (D : Nat) (Φ : FP) (W : World), I xs Φ W → Only Ψ (fun _ => False) w W → w.heap.size ≤ D → ¬ Φ D → W.heap[D]? = some (.deferred (some [])) → Q .normal { a with defers := { target := .collected D, args := #[] } :: a.defers } W)
 (hstop : ∀ (D : Nat) (Φ : FP) (c : Code) (pre : List α) (W : World), pre <+: xs → Ix c pre Φ W → Only Ψ (fun _ => False) w W → w.heap.size ≤ D → ¬ Φ D → W.heap[D]? = some (.deferred (some [])) → c.wpIn Fence.wide (n + 2) P Q { a with defers := { target := .collected D, args := #[] } :: a.defers } W) :
 (Code.rangeFunc g ps assign body).wpIn Fence.wide (n + 2) P Q a w := by
 refine wpIn_rangeFunc ?_
 intro fn hfn
 obtain ⟨W1, hW1⟩ : ∃ W1, (w.alloc (.deferred (some []))).alloc (.loop (recOf fn a.tmps ps assign body w.heap.size .ready none)) = W1 := ⟨_, rfl⟩
 have hL1 : W1.heap[w.heap.size + 1]? = some (.loop (recOf fn a.tmps ps assign body w.heap.size .ready none)) := by
  rw [← hW1]; have := World.alloc_heap_new (w.alloc (.deferred (some []))) (.loop (recOf fn a.tmps ps assign body w.heap.size .ready none)); rwa [World.size_alloc] at this
 have hK1 : W1.heap[w.heap.size]? = some (.deferred (some [])) := by
  rw [← hW1]; exact (Below.heap_alloc _ _ _ (by simp)).trans (World.alloc_heap_new w _)
 have hB1 : Below w.heap.size w W1 := by rw [← hW1]; exact ((Below.refl _ w).alloc (Nat.le_refl _) _).alloc (by simp) _
 have hsz : W1.heap.size = w.heap.size + 2 := by rw [← hW1]; simp
 have hi1 : I [] (fun _ => False) W1 := (hI _ _ _ h0).2.2 _ (Grow.of_below hB1) (fun k hk => hk.elim (fun h => hB1.block k h) (fun h => h.elim))
 refine ⟨w.heap.size + 1, [{ target := .collected w.heap.size, args := #[] }], W1, { target := .fn (.func gf) lb, args := #[.func (.yield (w.heap.size + 1)) #[] #[]] }, W1, gf,
  #[.func (.yield (w.heap.size + 1)) #[] #[]] ++ lb, W1, ?_, ?_, ?_, ?_, fun h => by simp [Fence.wide] at h, ?_⟩
 · rw [← hW1]; exact run_enterLoop_outer _ _ _ _ _
 · simp only [resolve, hg]
   simp [go_sem]
 · intro f' hf'; simp [Target.leads] at hf'; subst hf'; trivial
 · simp [invoke, go_sem, eg]
 · have hD : ∀ d, some w.heap.size = some d → w.heap.size ≤ d ∧ d < w.heap.size + 1 := fun d hd => by cases hd; omega
   refine (hit (w.heap.size + 1) (w.heap.size + 2) (fun k => Ψ k ∨ k = w.heap.size + 1) (InvJ I (w.heap.size + 1) (some w.heap.size) (recOf fn a.tmps ps assign body w.heap.size .ready none))
    (fun pre Φ W => ∃ c, InvJ (Ix c) (w.heap.size + 1) (some w.heap.size) (recOf fn a.tmps ps assign body w.heap.size .done (some c)) pre Φ W) (fun _ => False) W1 (hg0.trans (Grow.of_below hB1))
    (fun k hk => ⟨(hG k hk).1, (hB1.block k (Nat.lt_of_lt_of_le (hG k hk).1 hg0.size)).trans (hG k hk).2⟩) (fun k hk => ?_) (fun _ h => h.elim) (InvJ.stab hI (by omega) (fun d hd => (hD d hd).2)) ?_ ?_ ⟨hi1, fun _ h => h.elim, hL1, fun d hd => by cases hd; exact hK1⟩).mono ?_
   · rcases hk with h | h
     · exact ⟨by have := (hΨ k h).1; omega, (hΨ k h).2⟩
     · exact ⟨by omega, fun hg' => by have := (hG k hg').1; have := hg0.size; omega⟩
   · rintro pre Φ W ⟨c, hc⟩
     obtain ⟨h1, h2, h3⟩ := InvJ.stab (hIx c) (by omega) (fun d hd => (hD d hd).2) _ _ _ hc
     exact ⟨h1, h2, fun W' hg' hk => ⟨c, h3 W' hg' hk⟩⟩
   · intro pre x Φ W hpx hJ
     exact round_of_bodyA hI hIx (by omega) (fun k hk => (hΨ k hk).1) hps hD aOf At hAt hJ (fun W K hK => hassign _ x W K hK) (fun N W hi hΦ hr h1 h2 h3 => hbody _ pre x Φ N W hpx hi (by omega) hΦ hr h1 h2 h3)
   · have fine : ∀ W2, Only (fun k => Ψ k ∨ k = w.heap.size + 1) (fun _ => False) W1 W2 → ∀ r, Only Ψ (fun _ => False) w (W2.putObj (w.heap.size + 1) (.loop r)) := fun W2 ho r =>
      ⟨((Grow.of_below hB1).trans ho.grow).trans (put_grow _ _ _), fun k hk h1 h2 => (put_other (by omega)).trans ((ho.block k (by omega) (fun h => h.elim h1 (by omega)) h2).trans (hB1.block k hk))⟩
     rintro e W2 ⟨⟨v, rfl⟩, Φ', hn, ho, (⟨hi, hΦ, hl, hk⟩ | ⟨pre, hpre, c, hi, hΦ, hl, hk⟩)⟩
     · have hnD : ¬ Φ' w.heap.size := fun h => by have := hΦ _ h; omega
       refine ⟨none, _, run_endLoop (P := P) hl (by simp [recOf]), hdone _ Φ' _ ?_ (fine W2 ho _) (Nat.le_refl _) hnD ((put_other (by omega)).trans (hk _ rfl))⟩
       exact (hI _ _ _ hi).2.2 _ (put_grow _ _ _) (fun k hk' => put_other (hk'.elim (fun h => by omega) (fun h => by have := hΦ k h; omega)))
     · have hnD : ¬ Φ' w.heap.size := fun h => by have := hΦ _ h; omega
       refine ⟨some c, _, run_endLoop (P := P) hl (by simp [recOf]), hstop _ Φ' c pre _ hpre ?_ (fine W2 ho _) (Nat.le_refl _) hnD ((put_other (by omega)).trans (hk _ rfl))⟩
       exact (hIx c _ _ _ hi).2.2 _ (put_grow _ _ _) (fun k hk' => put_other (hk'.elim (fun h => by omega) (fun h => by have := hΦ k h; omega)))
end
end
section
open Go.RowKit Go.Shelf
attribute [local go_sem] Oper.semAt_some
structure ColC {P : Program} {α : Type} (r : RowTy P α) (N0 lb : Nat) (pre : List α) (Φ : FP) (W : World) (v : Value) : Prop where
 bx : Boxed W lb r.S v
 own : OwnR r N0 v pre W
 iff : ∀ k, Φ k ↔ v.ownBlock = some k
 sz : N0 ≤ W.heap.size
def ColI {P : Program} {α : Type} (r : RowTy P α) (N0 lb : Nat) (pre : List α) (Φ : FP) (W : World) : Prop := ∃ v, ColC r N0 lb pre Φ W v
theorem ColI.stab {P : Program} {α : Type} {r : RowTy P α} {N0 lb : Nat} (h1 : lb < N0) : Stab N0 (ColI r N0 lb) := by
 rintro pre Φ W ⟨v, h⟩
 exact ⟨fun k hk => h.own.block ((h.iff k).1 hk), h.sz, fun W' hg hk => ⟨v, (hk lb (.inl h1)).trans h.bx, h.own.of (Nat.le_refl _) (fun k e => hk k (.inr ((h.iff k).2 e))), h.iff, Nat.le_trans h.sz hg.size⟩⟩
theorem ColC.step {P : Program} {α : Type} {r : RowTy P α} {N0 lb : Nat} {pre : List α} {x : α} {Φ Ψ : FP} {W V w3 : World} {v v' : Value} (h : ColC r N0 lb pre Φ W v) (hlb : lb < N0) (hΨ : Ψ lb) (hV : Below W.heap.size W V) (ho : OwnR r N0 v' (pre ++ [x]) w3) (hg : V.grownBy w3 v.ownBlock) (hat : v'.ownBlock = v.ownBlock ∨ v'.ownBlock = some V.heap.size) :
 Leaves Ψ Φ W (fun Φ' W' => ColI r N0 lb (pre ++ [x]) Φ' W') (w3.setCell ⟨lb, 0, none⟩ v') := by
 have hsz := h.sz
 have hVs := hV.size
 have hgs := hg.size
 have hb3 : Boxed w3 lb r.S v := (hg.block lb (by omega) (fun e => by have := (h.own.block e.symm).1; omega)).trans ((hV.block lb (by omega)).trans h.bx)
 have hkeep : ∀ k, k ≠ lb → (w3.setCell ⟨lb, 0, none⟩ v').heap[k]? = w3.heap[k]? := fun k hk => Below.heap_setCell _ _ _ k hk
 refine ⟨fun k => v'.ownBlock = some k, fun k hk => ?_, ⟨⟨hg.os.trans hV.os, hg.tape.trans hV.tape, hg.output.trans hV.output, by simp [World.setCell]; omega⟩, fun k hk h1 h2 => ?_⟩, v', hb3.set _, ho.of (Nat.le_refl _) (fun k hk => hkeep k (by have := (ho.block hk).1; omega)), fun k => Iff.rfl, by simp [World.setCell]; omega⟩
 · rcases hat with e | e
   · exact .inl ((h.iff k).2 (by rw [← e]; exact hk))
   · rw [hk] at e
     injection e with e
     exact .inr (by omega)
 · rw [hkeep k (fun e => h1 (by rw [e]; exact hΨ)), hg.block k (by omega) (fun e => h2 ((h.iff k).2 e.symm))]
   exact hV.block k hk
def prOf_I (x : Int × Int) : List Value := [.int .i64 x.1, .int .i64 x.2]
theorem pairInfo_I : (Tryz.prog.info? 206).map (fun i => (i.zero, i.size, i.bytes)) = some (some (.agg #[.int .i64 0, .int .i64 0]), 2, 16) := by kernel_rfl
def pair_I : RowTy Tryz.prog (Int × Int) where
 T := 206
 S := 204
 k := 2
 f := prOf_I
 len := fun _ => rfl
 one := fun x u hu => by
  simp only [prOf_I, List.mem_cons, List.not_mem_nil, or_false] at hu
  rcases hu with rfl | rfl <;> rfl
 pos := by decide
 small := by decide
 slice := Tryz.underlying204
 info := by
  obtain ⟨i0, hi, hz⟩ := Option.map_eq_some_iff.1 pairInfo_I
  simp only [Prod.mk.injEq] at hz
  obtain ⟨h1, h2, h3⟩ := hz
  exact ⟨i0, _, _, hi, h1, h2, rfl, h3, by decide⟩
 row := ⟨_, Tryz.underlying206, rfl⟩
def encs_I (x : Int × Int) : Array Value := #[.int .i64 x.1, .int .i64 x.2]
set_option maxHeartbeats 4000000 in
set_option maxRecDepth 100000 in
theorem still_Now_I {m : Nat} (gf : Nat) (lbx : Array Value) (xs : List (Int × Int)) (w : World) (eg : ∀ args w, (callFunc gf args).run Tryz.prog w = .ok (.enter gf args) w) (hit : Iter Tryz.prog m gf lbx encs_I xs (fun k => k < w.heap.size) w) (hlen : xs.length ≤ 1000000) :
 Calls Tryz.prog 125 #[.func (.func gf) #[] lbx] w fun e w' => ∃ v, e = .returned (.func (.func 136) #[] #[.pointer (some ⟨w.heap.size, 0, none⟩)]) ∧ Boxed w' w.heap.size 204 v ∧ OwnR pair_I (w.heap.size + 1) v xs w' ∧ Below w.heap.size w w' := by
 refine (callsIn_wide (n := m + 2)).1 ?_
 refine callsIn_of_wp_marks Tryz.func125 rfl trivial ?_ rfl
 simp only [Tryz.ntmps125, List.size_toArray, List.length_cons, List.length_nil, Nat.reduceAdd, Nat.reduceSub, Array.replicate_succ, Array.replicate_zero, List.push_toArray, List.append_toArray, List.nil_append, List.cons_append]
 gi_wp2_with fail
 obtain ⟨w1, hw1⟩ : ∃ w1, w1 = w.alloc (.cells #[.slice none 0 0] 204) := ⟨_, rfl⟩
 rw [← hw1]
 obtain ⟨lb, hlb⟩ : ∃ lb, lb = w.heap.size := ⟨_, rfl⟩
 have hB : Below w.heap.size w w1 := by rw [hw1]; exact (Below.refl _ w).alloc (Nat.le_refl _) _
 have hsz : w1.heap.size = lb + 1 := by rw [hw1, hlb]; simp
 have x0 : Boxed w1 lb 204 (.slice none 0 0) := by rw [hw1, hlb]; exact Boxed.new w _ _
 have HB1 := Lib.hid hB
 have HIT := Lib.hid hit
 have HSZ := Lib.hid hsz
 have l1 : lb < w1.heap.size := by omega
 have l2 : w.heap.size ≤ lb := by omega
 have HEG := Lib.hid eg
 rw [← hlb]
 have HLB := Lib.hid hlb
 have HLN := Lib.hid hlen
 clear hw1 hit hB hsz hlb eg hlen
 refine range_outer (n := m) (gf := gf) (lb := lbx) rfl HEG.out HIT.out (Grow.of_below HB1.out) (fun k hk => ⟨hk, HB1.out.block k hk⟩) (fun _ => rfl)
  (fun k => k = lb) (by rintro k rfl; exact ⟨l1, fun h => by omega⟩) (ColI pair_I w1.heap.size lb) (fun _ _ _ _ => False) (ColI.stab l1) (fun c _ _ _ h => h.elim)
  ⟨_, x0, OwnR.nil _ _, fun k => ⟨fun h => h.elim, fun h => by cases h⟩, Nat.le_refl _⟩
  (fun x => { tmps := #[.func (.func gf) #[] lbx, undef, .nilFunc, .pointer (some ⟨lb, 0, none⟩), .int .i64 x.1, .int .i64 x.2, .func (.func gf) #[] lbx, .int .i64 x.1, .int .i64 x.2, undef, undef, undef, undef, undef, undef, undef], defers := [] }) ?assign ?body ?done ?stop
 case assign =>
  intro l x W K hK
  simp only [encs_I]
  gi_wp2
  exact hK
 case body =>
  rintro l pre x Φ W hpx ⟨v1, hI⟩ hl1 hΦ -
  have hpl := hpx.length_le
  rw [List.length_append, List.length_singleton] at hpl
  have hpl2 : pre.length ≤ 1000000 := by have := HLN.out; omega
  obtain ⟨ao1, cap1, rfl⟩ := hI.own.lenOf
  obtain ⟨pl, hm⟩ : ∃ pl, pl = pre.length := ⟨_, rfl⟩
  rw [← hm] at hI
  have c0 := hI.bx.cell
  have hlW : lb < W.heap.size := by have := hI.sz; omega
  have HI := Lib.hid hI
  have HPH := Lib.hid hΦ
  have HM := Lib.hid hm
  have HPL := Lib.hid hpl2
  have hsW : w1.heap.size ≤ W.heap.size := hI.sz
  clear hI hΦ hm hpl hpl2
  gi_wp2_with (first
   | (refine wplIn_appR (r := pair_I) (y := x) rfl rfl rfl rfl ((OwnR.of HI.out.own (Nat.le_refl _) (fun k hk => Below.heap_alloc _ _ _ (HI.out.own.block hk).2))) (rangeAt_whole (T := 206) (by exact World.alloc_heap_new _ _)) HPL.out (by have h := hsW; rw [World.size_alloc]; omega) ?_; intro v' w3 hO hg3 hat3 hne; have cB : w3.cell? ⟨lb, 0, none⟩ = some (.slice ao1 pl cap1) := (World.cell?_of_block (a := ⟨lb, 0, none⟩) ((hg3.block lb (by rw [World.size_alloc]; omega) (fun e => by have := (HI.out.own.block e.symm).1; omega)).trans (Below.heap_alloc _ _ _ hlW))).trans c0; have fB : w3.frozen? ⟨lb, 0, none⟩ = false := ((HI.out.bx.alloc _).kept hg3 (fun e => by have := (HI.out.own.block e.symm).1; omega)).frozen; obtain ⟨ao2, cap2, rfl⟩ := hO.lenOf; obtain ⟨m2, hm2⟩ : ∃ m2, m2 = (pre ++ [x]).length := ⟨_, rfl⟩; rw [← hm2] at hO hat3; rw [← hm2]; have HO := Lib.hid hO; have HG3 := Lib.hid hg3; have HAT := Lib.hid hat3; clear hO hg3 hat3 hm2 hne)
   | fail)
  exact ColC.step HI.out l1 rfl ((Below.refl _ W).alloc (Nat.le_refl _) _) HO.out HG3.out HAT.out
 case done =>
  rintro D Φ W3 ⟨v3, hC⟩ hon hD hnD hK
  have hiff := hC.iff
  have HC := Lib.hid hC
  have HON := Lib.hid hon
  have HKK := Lib.hid hK
  clear hC hon hK
  gi_wp2
  refine ⟨by simp, .inl ⟨_, _, rfl, run_takeDeferred HKK.out, ?_⟩⟩
  have hC := HC.out
  have hO2 := HON.out
  have hw2 := HB1.out
  have hsz := HSZ.out
  have hlb := HLB.out
  subst hlb
  refine ⟨_, by simp [results, Tryz.results125, go_sem] <;> rfl, v3, rfl, (put_other (by omega)).trans hC.bx, hC.own.of (by omega) (fun k hk => put_other (fun e => hnD ((hiff D).2 (by rw [← e]; exact hk)))), ?_⟩
  refine ⟨hO2.grow.os.trans hw2.os, hO2.grow.tape.trans hw2.tape, hO2.grow.output.trans hw2.output, by have h1 := hO2.grow.size; have h2 := hw2.size; simp [World.putObj]; omega, fun k hk => ?_⟩
  rw [put_other (by omega), hO2.block k (by omega) (by omega) (fun h => h)]
  exact hw2.block k (by omega)
 case stop =>
  rintro D Φ c pre W3 hpre h
  exact h.elim
end
section
open Go.RowKit Go.Shelf
attribute [local go_sem] Oper.semAt_some
theorem Iter.later {P : Program} {α : Type} {n gf : Nat} {lb : Array Value} {encs : α → Array Value} {xs : List α} {G G' : FP} {w W : World} (h : Iter P n gf lb encs xs G w) (hg : Grow w W) (hG : ∀ k, G k → k < w.heap.size ∧ W.heap[k]? = w.heap[k]?) (hs : ∀ k, G k → G' k) : Iter P n gf lb encs xs G' W := by
 intro l B Ψ J Jx Φ0 W2 hg2 hG2 hΨ hΦ0 hJ hJx hr h0
 exact h l B Ψ J Jx Φ0 W2 (hg.trans hg2) (fun k hk => ⟨(hG k hk).1, (hG2 k (hs k hk)).2.trans (hG k hk).2⟩) (fun k hk => ⟨(hΨ k hk).1, fun h => (hΨ k hk).2 (hs k h)⟩) (fun k hk h => hΦ0 k hk (hs k h)) hJ hJx hr h0
theorem take_snoc {α : Type} {xs : List α} {k : Nat} (h : k < xs.length) : xs.take k ++ [xs[k]] = xs.take (k + 1) := by rw [List.take_succ_eq_append_getElem h]
set_option maxHeartbeats 4000000 in
set_option maxRecDepth 100000 in
theorem now1_iter_I (n : Nat) (bx : Nat) (v : Value) (xs : List (Int × Int)) (w : World) (hbx : Boxed w bx 204 v) (hr : RdR pair_I w v xs) (hl : xs.length ≤ 1000000) (G : FP) (hGb : G bx) (hGv : ∀ k, v.ownBlock = some k → G k) :
 Iter Tryz.prog n 136 #[.pointer (some ⟨bx, 0, none⟩)] encs_I xs G w := by
 intro lp B Ψ J Jx Φ0 W hgw hG hΨ hΦ0 hJ hJx hround h0
 have hc1 : W.cell? ⟨bx, 0, none⟩ = some v := (World.cell?_of_block (hG bx hGb).2).trans hbx.cell
 have hrW : RdR pair_I W v xs := hr.keep hgw.size (fun k hk => (hG k (hGv k hk)).2)
 obtain ⟨hs1, hs2, hs3⟩ := hJ _ _ _ h0
 obtain ⟨ao, cap, rfl⟩ := hr.lenOf
 have hkeep : ∀ wr, Only Ψ Φ0 W wr → RdR pair_I wr (.slice ao xs.length cap) xs := fun wr ho => hrW.keep ho.grow.size (fun k hk => ho.block k (by have := (hG k (hGv k hk)).1; have := hgw.size; omega) (fun h => (hΨ k h).2 (hGv k hk)) (fun h => hΦ0 k h (hGv k hk)))
 refine callsIn_of_wp Tryz.func136 rfl trivial ?_ rfl
 simp only [Tryz.ntmps136, List.size_toArray, List.length_cons, List.length_nil, Nat.reduceAdd, Nat.reduceSub, Array.replicate_succ, Array.replicate_zero, List.push_toArray, List.append_toArray, List.nil_append, List.cons_append]
 have HK := Lib.hid hkeep
 have HL := Lib.hid hl
 have HRD := Lib.hid hround
 have HJ := Lib.hid hJ
 have HH0 := Lib.hid h0
 have hbig : (xs.length : Int) ≤ 1000000 := by omega
 clear hr hrW hround hJ hJx hG hΨ hΦ0 hbx hGb hGv h0 hs3 hl hkeep
 gi_wp2_with fail
 gi_loopw [7] (fun r wr => ∃ (k : Nat) (Φ : FP), k ≤ xs.length ∧ r = .int .i64 k ∧ J (xs.take k) Φ wr ∧ Only Ψ Φ0 W wr ∧ (∀ j, Φ j → Φ0 j ∨ W.heap.size ≤ j)) (fun r wr => xs.length - (RowKit.intOf r).toNat)
 case atStart => exact ⟨0, Φ0, Nat.zero_le _, rfl, HH0.out, Only.refl _ _ _, fun j h => .inl h⟩
 case round =>
  obtain ⟨k, Φ, hk, rfl, hJ2, ho2, hn2⟩ := hrel
  by_cases hlt : k < xs.length
  · have hlt' : (k : Int) < xs.length := by omega
    obtain ⟨x, hx⟩ : ∃ x, x = xs[k] := ⟨_, rfl⟩
    obtain ⟨b, off, rfl, hrng, hrb⟩ := (HK.out wr ho2).at hlt
    rw [← hx] at hrng
    have htk : xs.take k ++ [x] = xs.take (k + 1) := by rw [hx]; exact take_snoc hlt
    have hpre : (xs.take k ++ [x]) <+: xs := by rw [htk]; exact List.take_prefix _ _
    obtain ⟨q1, q2, q3⟩ := HJ.out _ _ _ hJ2
    obtain ⟨W1, hW1⟩ : ∃ W1, W1 = wr.alloc (.cells (prOf_I x).toArray 206) := ⟨_, rfl⟩
    have hb1 : Below wr.heap.size wr W1 := by rw [hW1]; exact (Below.refl _ wr).alloc (Nat.le_refl _) _
    have hJ1 : J (xs.take k) Φ W1 := q3 W1 (Grow.of_below hb1) (fun j hj => hb1.block j (hj.elim (fun h => by omega) (fun h => (q1 j h).2)))
    have hcx : W1.heap[wr.heap.size]? = some (.cells (prOf_I x).toArray 206 (0, 0)) := by rw [hW1]; exact World.alloc_heap_new _ _
    obtain ⟨fn, tm, asg, bd, hyy, hR⟩ := HRD.out (xs.take k) x Φ W1 hpre hJ1
    simp only [encs_I] at hyy
    have d0 : W1.cell? ⟨wr.heap.size, 0, none⟩ = some (.int .i64 x.1) := by rw [World.cell?, hcx]; rfl
    have d1 : W1.cell? ⟨wr.heap.size, 1, none⟩ = some (.int .i64 x.2) := by rw [World.cell?, hcx]; rfl
    have HRN := Lib.hid hrng
    have HT := Lib.hid htk
    have HPR := Lib.hid hpre
    have HO2 := Lib.hid ho2
    have HN2 := Lib.hid hn2
    have HR := Lib.hid hR
    have HW1 := Lib.hid hW1
    have HB1 := Lib.hid hb1
    clear htk hpre q1 q2 q3 hx hJ2 hJ1 ho2 hn2 hR hrng hW1 hb1 hcx
    gi_wp2_with (first
     | (refine wplIn_loadR (r := pair_I) (t := x) _ rfl rfl rfl HRN.out ?_)
     | (refine wplIn_allocR (r := pair_I) rfl rfl rfl ?_; intro C hC)
     | (refine wplIn_storeR (r := pair_I) (t := x) (C := C) _ _ rfl rfl rfl rfl rfl (World.alloc_heap_new wr _) hC ?_; rw [World.setRow_alloc_new]; rw [show wr.alloc (.cells (pair_I.f x).toArray pair_I.T) = W1 from HW1.out.symm])
     | fail)
    refine HR.out.mono ?_
    rintro e W' ⟨Φ', hn', ho', (⟨rfl, hJ'⟩ | ⟨rfl, hJ'⟩)⟩
    · have ho3 : Only Ψ Φ0 W W' := (HO2.out.trans (Φ' := Φ0) (Only.of_later HB1.out) (fun j h => .inl h)).trans ho' HN2.out
      have hn3 : ∀ j, Φ' j → Φ0 j ∨ W.heap.size ≤ j := fun j hj => (hn' j hj).elim (HN2.out j) (fun h => .inr (by have := HO2.out.grow.size; have := HB1.out.size; omega))
      gi_wp2
      exact ⟨⟨k + 1, Φ', hlt, by go_num, by rw [← HT.out]; exact hJ', ho3, hn3⟩, by simp [RowKit.intOf]; omega⟩
    · have ho3 : Only Ψ Φ0 W W' := (HO2.out.trans (Φ' := Φ0) (Only.of_later HB1.out) (fun j h => .inl h)).trans ho' HN2.out
      have hn3 : ∀ j, Φ' j → Φ0 j ∨ W.heap.size ≤ j := fun j hj => (hn' j hj).elim (HN2.out j) (fun h => .inr (by have := HO2.out.grow.size; have := HB1.out.size; omega))
      gi_wp2
      refine bodyPost_ret (results_none rfl _ _ _) rfl ?_
      exact ⟨⟨_, rfl⟩, Φ', hn3, ho3, .inr ⟨_, HPR.out, hJ'⟩⟩
  · have hkn : k = xs.length := by omega
    subst hkn
    rw [List.take_length] at hJ2
    gi_wp2
    refine bodyPost_end (results_none rfl _ _ _) rfl ?_
    exact ⟨⟨_, rfl⟩, Φ, hn2, ho2, .inl hJ2⟩
theorem still_Begun_I (f : Value) (w : World) (hf : ∃ g lb, f = .func g #[] lb) : Calls Tryz.prog 123 #[f] w fun e w' => e = .returned (.func (.func 133) #[] #[.pointer (some ⟨w.heap.size, 0, none⟩)]) ∧ w' = w.alloc (.cells #[f] 108) := by
 obtain ⟨g, lb, rfl⟩ := hf
 go_enter Tryz.func123, Tryz.ntmps123
 go_wp2
 go_ret
 exact ⟨rfl, rfl⟩
theorem enters_begun_I : ∀ args w, (callFunc 133 args).run Tryz.prog w = .ok (.enter 133 args) w := enters_of Tryz.func133 (by kernel_rfl) rfl
theorem enters_now_I : ∀ args w, (callFunc 136 args).run Tryz.prog w = .ok (.enter 136 args) w := enters_of Tryz.func136 (by kernel_rfl) rfl
set_option maxHeartbeats 4000000 in
set_option maxRecDepth 100000 in
theorem begun_iter_I {m : Nat} (n : Nat) (sb : Nat) (gf : Nat) (lbx : Array Value) (xs : List (Int × Int)) (G : FP) (w : World) (hsb : Boxed w sb 108 (.func (.func gf) #[] lbx)) (eg : ∀ args w, (callFunc gf args).run Tryz.prog w = .ok (.enter gf args) w) (hit : Iter Tryz.prog m gf lbx encs_I xs G w) (hGs : G sb) (hGl : ∀ k, G k → k < w.heap.size) (hlen : xs.length ≤ 1000000) :
 IterF Tryz.prog n 133 #[.pointer (some ⟨sb, 0, none⟩)] encs_I xs G w := by
 intro lp B Ψ J Jx Φ0 W hgw hG hΨ hJ hJx hround h0
 have hc1 : W.cell? ⟨sb, 0, none⟩ = some (.func (.func gf) #[] lbx) := (World.cell?_of_block (hG sb hGs).2).trans hsb.cell
 have hitW : Iter Tryz.prog m gf lbx encs_I xs (fun k => k < W.heap.size) W := hit.later hgw hG (fun k hk => Nat.lt_of_lt_of_le (hGl k hk) hgw.size)
 have hnow := still_Now_I gf lbx xs W eg hitW hlen
 obtain ⟨hs1, hs2, hs3⟩ := hJ _ _ _ h0
 have hwalk : ∀ v W1, Boxed W1 W.heap.size 204 v → OwnR pair_I (W.heap.size + 1) v xs W1 → Below W.heap.size W W1 →
  CallsIn Fence.wide n Tryz.prog 136 #[.func (.yield lp) #[] #[], .pointer (some ⟨W.heap.size, 0, none⟩)] W1 fun e W' => (∃ v, e = .returned v) ∧ Leaves Ψ Φ0 W (fun Φ' W' => J xs Φ' W' ∨ ∃ pre, pre <+: xs ∧ Jx pre Φ' W') W' := by
  intro v W1 hb ho hB
  have hJ1 : J [] Φ0 W1 := hs3 W1 (Grow.of_below hB) (fun k hk => hB.block k (hk.elim (fun h => by omega) (fun h => (hs1 k h).2)))
  have hi := now1_iter_I n W.heap.size v xs W1 hb ho.reads hlen (fun k => W.heap.size ≤ k ∧ k < W1.heap.size) ⟨Nat.le_refl _, hb.lt⟩ (fun k hk => ⟨by have := (ho.block hk).1; omega, (ho.block hk).2⟩)
  have hcall := hi lp B Ψ J Jx Φ0 W1 (Grow.refl _) (fun k hk => ⟨hk.2, rfl⟩) (fun k hk => ⟨hΨ k hk, fun h => by have := hΨ k hk; omega⟩) (fun k hk h => by have := (hs1 k hk).2; omega) hJ hJx hround hJ1
  refine (callsIn_wide.2 (callsIn_wide.1 hcall)).mono ?_
  rintro e W' ⟨he, Φ', hn, ho', hR⟩
  exact ⟨he, Φ', fun k hk => (hn k hk).imp id (fun h => by have := hB.size; omega), (Only.of_later hB).trans ho' (fun j h => .inl h), hR⟩
 have HW := Lib.hid hwalk
 have HN := Lib.hid hnow
 clear hwalk hnow hround hJ hJx hG hΨ hsb hit hitW h0 hs1 hs3 hGs hGl hlen eg
 refine callsIn_of_wp Tryz.func133 rfl trivial ?_ rfl
 simp only [Tryz.ntmps133, List.size_toArray, List.length_cons, List.length_nil, Nat.reduceAdd, Nat.reduceSub, Array.replicate_succ, Array.replicate_zero, List.push_toArray, List.append_toArray, List.nil_append, List.cons_append]
 have en := enters_now_I
 gi_wp2_with (first
  | (gi_at_call 125; refine (callsIn_wide.2 HN.out).mono ?_; rintro e W1 ⟨v, rfl, hb, ho, hB⟩; have H1 := Lib.hid (And.intro hb (And.intro ho hB)); clear hb ho hB)
  | (refine ⟨trivial, ?_⟩; gi_at_call 125; refine (callsIn_wide.2 HN.out).mono ?_; rintro e W1 ⟨v, rfl, hb, ho, hB⟩; have H1 := Lib.hid (And.intro hb (And.intro ho hB)); clear hb ho hB)
  | (gi_at_call 136; refine (callsIn_wide.2 (callsIn_wide.1 (HW.out _ _ H1.out.1 H1.out.2.1 H1.out.2.2))).mono ?_; rintro e W' ⟨⟨v', rfl⟩, hR⟩; have H2 := Lib.hid hR; clear hR)
  | (refine ⟨trivial, ?_⟩; gi_at_call 136; refine (callsIn_wide.2 (callsIn_wide.1 (HW.out _ _ H1.out.1 H1.out.2.1 H1.out.2.2))).mono ?_; rintro e W' ⟨⟨v', rfl⟩, hR⟩; have H2 := Lib.hid hR; clear hR)
  | fail)
 refine bodyPost_end (results_none rfl _ _ _) rfl ?_
 exact ⟨⟨_, rfl⟩, H2.out⟩
end
section
open Go.RowKit Go.Shelf
attribute [local go_sem] Oper.semAt_some
def prOf_V (x : Int × Bal) : List Value := [.int .i64 x.1, .int .i64 x.2.k, .bool x.2.aye, .int .i64 x.2.l, .int .i64 x.2.a, .int .i64 x.2.n, .int .i64 x.2.s]
theorem pairInfo_V : (Tryz.prog.info? 193).map (fun i => (i.zero, i.size, i.bytes)) = some (some (.agg #[.int .i64 0, .int .i64 0, .bool false, .int .i64 0, .int .i64 0, .int .i64 0, .int .i64 0]), 7, 56) := by kernel_rfl
def pair_V : RowTy Tryz.prog (Int × Bal) where
 T := 193
 S := 191
 k := 7
 f := prOf_V
 len := fun _ => rfl
 one := fun x u hu => by
  simp only [prOf_V, List.mem_cons, List.not_mem_nil, or_false] at hu
  rcases hu with rfl | rfl | rfl | rfl | rfl | rfl | rfl <;> rfl
 pos := by decide
 small := by decide
 slice := Tryz.underlying191
 info := by
  obtain ⟨i0, hi, hz⟩ := Option.map_eq_some_iff.1 pairInfo_V
  simp only [Prod.mk.injEq] at hz
  obtain ⟨h1, h2, h3⟩ := hz
  exact ⟨i0, _, _, hi, h1, h2, rfl, h3, by decide⟩
 row := ⟨_, Tryz.underlying193, rfl⟩
def encs_V (x : Int × Bal) : Array Value := #[.int .i64 x.1, .agg #[.int .i64 x.2.k, .bool x.2.aye, .int .i64 x.2.l, .int .i64 x.2.a, .int .i64 x.2.n, .int .i64 x.2.s]]
set_option maxHeartbeats 4000000 in
set_option maxRecDepth 100000 in
theorem still_Now_V {m : Nat} (gf : Nat) (lbx : Array Value) (xs : List (Int × Bal)) (w : World) (eg : ∀ args w, (callFunc gf args).run Tryz.prog w = .ok (.enter gf args) w) (hit : Iter Tryz.prog m gf lbx encs_V xs (fun k => k < w.heap.size) w) (hlen : xs.length ≤ 1000000) :
 Calls Tryz.prog 102 #[.func (.func gf) #[] lbx] w fun e w' => ∃ v, e = .returned (.func (.func 122) #[] #[.pointer (some ⟨w.heap.size, 0, none⟩)]) ∧ Boxed w' w.heap.size 191 v ∧ OwnR pair_V (w.heap.size + 1) v xs w' ∧ Below w.heap.size w w' := by
 refine (callsIn_wide (n := m + 2)).1 ?_
 refine callsIn_of_wp_marks Tryz.func102 rfl trivial ?_ rfl
 simp only [Tryz.ntmps102, List.size_toArray, List.length_cons, List.length_nil, Nat.reduceAdd, Nat.reduceSub, Array.replicate_succ, Array.replicate_zero, List.push_toArray, List.append_toArray, List.nil_append, List.cons_append]
 gi_wp2_with fail
 obtain ⟨w1, hw1⟩ : ∃ w1, w1 = w.alloc (.cells #[.slice none 0 0] 191) := ⟨_, rfl⟩
 rw [← hw1]
 obtain ⟨lb, hlb⟩ : ∃ lb, lb = w.heap.size := ⟨_, rfl⟩
 have hB : Below w.heap.size w w1 := by rw [hw1]; exact (Below.refl _ w).alloc (Nat.le_refl _) _
 have hsz : w1.heap.size = lb + 1 := by rw [hw1, hlb]; simp
 have x0 : Boxed w1 lb 191 (.slice none 0 0) := by rw [hw1, hlb]; exact Boxed.new w _ _
 have HB1 := Lib.hid hB
 have HIT := Lib.hid hit
 have HSZ := Lib.hid hsz
 have l1 : lb < w1.heap.size := by omega
 have l2 : w.heap.size ≤ lb := by omega
 have HEG := Lib.hid eg
 rw [← hlb]
 have HLB := Lib.hid hlb
 have HLN := Lib.hid hlen
 clear hw1 hit hB hsz hlb eg hlen
 refine range_outerAI (n := m) (gf := gf) (lb := lbx) rfl HEG.out HIT.out (Grow.of_below HB1.out) (fun k hk => ⟨hk, HB1.out.block k hk⟩) (fun _ => rfl)
  (fun k => k = lb) (by rintro k rfl; exact ⟨l1, fun h => by omega⟩) (ColI pair_V w1.heap.size lb) (fun _ _ _ _ => False) (ColI.stab l1) (fun c _ _ _ h => h.elim)
  ⟨_, x0, OwnR.nil _ _, fun k => ⟨fun h => h.elim, fun h => by cases h⟩, Nat.le_refl _⟩
  (fun x N => { tmps := #[.func (.func gf) #[] lbx, undef, .nilFunc, .pointer (some ⟨lb, 0, none⟩), .int .i64 x.1, .pointer (some ⟨N, 0, none⟩), .func (.func gf) #[] lbx, .int .i64 x.1, .agg #[.int .i64 x.2.k, .bool x.2.aye, .int .i64 x.2.l, .int .i64 x.2.a, .int .i64 x.2.n, .int .i64 x.2.s], undef, undef, undef, undef, undef, undef, undef], defers := [] })
  (fun x N W => W.heap[N]? = some (.cells #[.int .i64 x.2.k, .bool x.2.aye, .int .i64 x.2.l, .int .i64 x.2.a, .int .i64 x.2.n, .int .i64 x.2.s] 28 (0, 0))) (fun x N W W' h e => e.trans h) ?assign ?body ?done ?stop
 case assign =>
  intro l x W K hK
  simp only [encs_V]
  gi_wp2
  exact hK _ ((Below.refl _ W).alloc (Nat.le_refl _) _) (by simp) (World.alloc_heap_new _ _)
 case body =>
  rintro l pre x Φ N W hpx ⟨v1, hI⟩ hl1 hΦ - hlN hNW hAt
  have hpl := hpx.length_le
  rw [List.length_append, List.length_singleton] at hpl
  have hpl2 : pre.length ≤ 1000000 := by have := HLN.out; omega
  obtain ⟨ao1, cap1, rfl⟩ := hI.own.lenOf
  obtain ⟨pl, hm⟩ : ∃ pl, pl = pre.length := ⟨_, rfl⟩
  rw [← hm] at hI
  have c0 := hI.bx.cell
  have hlW : lb < W.heap.size := by have := hI.sz; omega
  have HI := Lib.hid hI
  have HPH := Lib.hid hΦ
  have HM := Lib.hid hm
  have HPL := Lib.hid hpl2
  have hsW : w1.heap.size ≤ W.heap.size := hI.sz
  have cN0 : W.cell? ⟨N, 0, none⟩ = some (.int .i64 x.2.k) := by rw [World.cell?, hAt]; rfl
  have cN1 : W.cell? ⟨N, 1, none⟩ = some (.bool x.2.aye) := by rw [World.cell?, hAt]; rfl
  have cN2 : W.cell? ⟨N, 2, none⟩ = some (.int .i64 x.2.l) := by rw [World.cell?, hAt]; rfl
  have cN3 : W.cell? ⟨N, 3, none⟩ = some (.int .i64 x.2.a) := by rw [World.cell?, hAt]; rfl
  have cN4 : W.cell? ⟨N, 4, none⟩ = some (.int .i64 x.2.n) := by rw [World.cell?, hAt]; rfl
  have cN5 : W.cell? ⟨N, 5, none⟩ = some (.int .i64 x.2.s) := by rw [World.cell?, hAt]; rfl
  clear hI hΦ hm hpl hpl2
  gi_wp2_with (first
   | (refine wplIn_appR (r := pair_V) (y := x) rfl rfl rfl rfl ((OwnR.of HI.out.own (Nat.le_refl _) (fun k hk => Below.heap_alloc _ _ _ (HI.out.own.block hk).2))) (rangeAt_whole (T := 193) (by exact World.alloc_heap_new _ _)) HPL.out (by have h := hsW; rw [World.size_alloc]; omega) ?_; intro v' w3 hO hg3 hat3 hne; have cB : w3.cell? ⟨lb, 0, none⟩ = some (.slice ao1 pl cap1) := (World.cell?_of_block (a := ⟨lb, 0, none⟩) ((hg3.block lb (by rw [World.size_alloc]; omega) (fun e => by have := (HI.out.own.block e.symm).1; omega)).trans (Below.heap_alloc _ _ _ hlW))).trans c0; have fB : w3.frozen? ⟨lb, 0, none⟩ = false := ((HI.out.bx.alloc _).kept hg3 (fun e => by have := (HI.out.own.block e.symm).1; omega)).frozen; obtain ⟨ao2, cap2, rfl⟩ := hO.lenOf; obtain ⟨m2, hm2⟩ : ∃ m2, m2 = (pre ++ [x]).length := ⟨_, rfl⟩; rw [← hm2] at hO hat3; rw [← hm2]; have HO := Lib.hid hO; have HG3 := Lib.hid hg3; have HAT := Lib.hid hat3; clear hO hg3 hat3 hm2 hne)
   | fail)
  exact ColC.step HI.out l1 rfl ((Below.refl _ W).alloc (Nat.le_refl _) _) HO.out HG3.out HAT.out
 case done =>
  rintro D Φ W3 ⟨v3, hC⟩ hon hD hnD hK
  have hiff := hC.iff
  have HC := Lib.hid hC
  have HON := Lib.hid hon
  have HKK := Lib.hid hK
  clear hC hon hK
  gi_wp2
  refine ⟨by simp, .inl ⟨_, _, rfl, run_takeDeferred HKK.out, ?_⟩⟩
  have hC := HC.out
  have hO2 := HON.out
  have hw2 := HB1.out
  have hsz := HSZ.out
  have hlb := HLB.out
  subst hlb
  refine ⟨_, by simp [results, Tryz.results102, go_sem] <;> rfl, v3, rfl, (put_other (by omega)).trans hC.bx, hC.own.of (by omega) (fun k hk => put_other (fun e => hnD ((hiff D).2 (by rw [← e]; exact hk)))), ?_⟩
  refine ⟨hO2.grow.os.trans hw2.os, hO2.grow.tape.trans hw2.tape, hO2.grow.output.trans hw2.output, by have h1 := hO2.grow.size; have h2 := hw2.size; simp [World.putObj]; omega, fun k hk => ?_⟩
  rw [put_other (by omega), hO2.block k (by omega) (by omega) (fun h => h)]
  exact hw2.block k (by omega)
 case stop =>
  rintro D Φ c pre W3 hpre h
  exact h.elim
set_option maxHeartbeats 4000000 in
set_option maxRecDepth 100000 in
theorem now1_iter_V (n : Nat) (bx : Nat) (v : Value) (xs : List (Int × Bal)) (w : World) (hbx : Boxed w bx 191 v) (hr : RdR pair_V w v xs) (hl : xs.length ≤ 1000000) (G : FP) (hGb : G bx) (hGv : ∀ k, v.ownBlock = some k → G k) :
 Iter Tryz.prog n 122 #[.pointer (some ⟨bx, 0, none⟩)] encs_V xs G w := by
 intro lp B Ψ J Jx Φ0 W hgw hG hΨ hΦ0 hJ hJx hround h0
 have hc1 : W.cell? ⟨bx, 0, none⟩ = some v := (World.cell?_of_block (hG bx hGb).2).trans hbx.cell
 have hrW : RdR pair_V W v xs := hr.keep hgw.size (fun k hk => (hG k (hGv k hk)).2)
 obtain ⟨hs1, hs2, hs3⟩ := hJ _ _ _ h0
 obtain ⟨ao, cap, rfl⟩ := hr.lenOf
 have hkeep : ∀ wr, Only Ψ Φ0 W wr → RdR pair_V wr (.slice ao xs.length cap) xs := fun wr ho => hrW.keep ho.grow.size (fun k hk => ho.block k (by have := (hG k (hGv k hk)).1; have := hgw.size; omega) (fun h => (hΨ k h).2 (hGv k hk)) (fun h => hΦ0 k h (hGv k hk)))
 refine callsIn_of_wp Tryz.func122 rfl trivial ?_ rfl
 simp only [Tryz.ntmps122, List.size_toArray, List.length_cons, List.length_nil, Nat.reduceAdd, Nat.reduceSub, Array.replicate_succ, Array.replicate_zero, List.push_toArray, List.append_toArray, List.nil_append, List.cons_append]
 have HK := Lib.hid hkeep
 have HL := Lib.hid hl
 have HRD := Lib.hid hround
 have HJ := Lib.hid hJ
 have HH0 := Lib.hid h0
 have hbig : (xs.length : Int) ≤ 1000000 := by omega
 clear hr hrW hround hJ hJx hG hΨ hΦ0 hbx hGb hGv h0 hs3 hl hkeep
 gi_wp2_with fail
 gi_loopw [7] (fun r wr => ∃ (k : Nat) (Φ : FP), k ≤ xs.length ∧ r = .int .i64 k ∧ J (xs.take k) Φ wr ∧ Only Ψ Φ0 W wr ∧ (∀ j, Φ j → Φ0 j ∨ W.heap.size ≤ j)) (fun r wr => xs.length - (RowKit.intOf r).toNat)
 case atStart => exact ⟨0, Φ0, Nat.zero_le _, rfl, HH0.out, Only.refl _ _ _, fun j h => .inl h⟩
 case round =>
  obtain ⟨k, Φ, hk, rfl, hJ2, ho2, hn2⟩ := hrel
  by_cases hlt : k < xs.length
  · have hlt' : (k : Int) < xs.length := by omega
    obtain ⟨x, hx⟩ : ∃ x, x = xs[k] := ⟨_, rfl⟩
    obtain ⟨b, off, rfl, hrng, hrb⟩ := (HK.out wr ho2).at hlt
    rw [← hx] at hrng
    have htk : xs.take k ++ [x] = xs.take (k + 1) := by rw [hx]; exact take_snoc hlt
    have hpre : (xs.take k ++ [x]) <+: xs := by rw [htk]; exact List.take_prefix _ _
    obtain ⟨q1, q2, q3⟩ := HJ.out _ _ _ hJ2
    obtain ⟨W1, hW1⟩ : ∃ W1, W1 = wr.alloc (.cells (prOf_V x).toArray 193) := ⟨_, rfl⟩
    have hb1 : Below wr.heap.size wr W1 := by rw [hW1]; exact (Below.refl _ wr).alloc (Nat.le_refl _) _
    have hJ1 : J (xs.take k) Φ W1 := q3 W1 (Grow.of_below hb1) (fun j hj => hb1.block j (hj.elim (fun h => by omega) (fun h => (q1 j h).2)))
    have hcx : W1.heap[wr.heap.size]? = some (.cells (prOf_V x).toArray 193 (0, 0)) := by rw [hW1]; exact World.alloc_heap_new _ _
    obtain ⟨fn, tm, asg, bd, hyy, hR⟩ := HRD.out (xs.take k) x Φ W1 hpre hJ1
    simp only [encs_V] at hyy
    have d0 : W1.cell? ⟨wr.heap.size, 0, none⟩ = some (.int .i64 x.1) := by rw [World.cell?, hcx]; rfl
    have d1 : W1.cell? ⟨wr.heap.size, 1, none⟩ = some (.int .i64 x.2.k) := by rw [World.cell?, hcx]; rfl
    have d2 : W1.cell? ⟨wr.heap.size, 2, none⟩ = some (.bool x.2.aye) := by rw [World.cell?, hcx]; rfl
    have d3 : W1.cell? ⟨wr.heap.size, 3, none⟩ = some (.int .i64 x.2.l) := by rw [World.cell?, hcx]; rfl
    have d4 : W1.cell? ⟨wr.heap.size, 4, none⟩ = some (.int .i64 x.2.a) := by rw [World.cell?, hcx]; rfl
    have d5 : W1.cell? ⟨wr.heap.size, 5, none⟩ = some (.int .i64 x.2.n) := by rw [World.cell?, hcx]; rfl
    have d6 : W1.cell? ⟨wr.heap.size, 6, none⟩ = some (.int .i64 x.2.s) := by rw [World.cell?, hcx]; rfl
    have HRN := Lib.hid hrng
    have HT := Lib.hid htk
    have HPR := Lib.hid hpre
    have HO2 := Lib.hid ho2
    have HN2 := Lib.hid hn2
    have HR := Lib.hid hR
    have HW1 := Lib.hid hW1
    have HB1 := Lib.hid hb1
    clear htk hpre q1 q2 q3 hx hJ2 hJ1 ho2 hn2 hR hrng hW1 hb1 hcx
    gi_wp2_with (first
     | (refine wplIn_loadR (r := pair_V) (t := x) _ rfl rfl rfl HRN.out ?_)
     | (refine wplIn_allocR (r := pair_V) rfl rfl rfl ?_; intro C hC)
     | (refine wplIn_storeR (r := pair_V) (t := x) (C := C) _ _ rfl rfl rfl rfl rfl (World.alloc_heap_new wr _) hC ?_; rw [World.setRow_alloc_new]; rw [show wr.alloc (.cells (pair_V.f x).toArray pair_V.T) = W1 from HW1.out.symm])
     | fail)
    refine HR.out.mono ?_
    rintro e W' ⟨Φ', hn', ho', (⟨rfl, hJ'⟩ | ⟨rfl, hJ'⟩)⟩
    · have ho3 : Only Ψ Φ0 W W' := (HO2.out.trans (Φ' := Φ0) (Only.of_later HB1.out) (fun j h => .inl h)).trans ho' HN2.out
      have hn3 : ∀ j, Φ' j → Φ0 j ∨ W.heap.size ≤ j := fun j hj => (hn' j hj).elim (HN2.out j) (fun h => .inr (by have := HO2.out.grow.size; have := HB1.out.size; omega))
      gi_wp2
      exact ⟨⟨k + 1, Φ', hlt, by go_num, by rw [← HT.out]; exact hJ', ho3, hn3⟩, by simp [RowKit.intOf]; omega⟩
    · have ho3 : Only Ψ Φ0 W W' := (HO2.out.trans (Φ' := Φ0) (Only.of_later HB1.out) (fun j h => .inl h)).trans ho' HN2.out
      have hn3 : ∀ j, Φ' j → Φ0 j ∨ W.heap.size ≤ j := fun j hj => (hn' j hj).elim (HN2.out j) (fun h => .inr (by have := HO2.out.grow.size; have := HB1.out.size; omega))
      gi_wp2
      refine bodyPost_ret (results_none rfl _ _ _) rfl ?_
      exact ⟨⟨_, rfl⟩, Φ', hn3, ho3, .inr ⟨_, HPR.out, hJ'⟩⟩
  · have hkn : k = xs.length := by omega
    subst hkn
    rw [List.take_length] at hJ2
    gi_wp2
    refine bodyPost_end (results_none rfl _ _ _) rfl ?_
    exact ⟨⟨_, rfl⟩, Φ, hn2, ho2, .inl hJ2⟩
theorem still_Begun_V (f : Value) (w : World) (hf : ∃ g lb, f = .func g #[] lb) : Calls Tryz.prog 128 #[f] w fun e w' => e = .returned (.func (.func 137) #[] #[.pointer (some ⟨w.heap.size, 0, none⟩)]) ∧ w' = w.alloc (.cells #[f] 90) := by
 obtain ⟨g, lb, rfl⟩ := hf
 go_enter Tryz.func128, Tryz.ntmps128
 go_wp2
 go_ret
 exact ⟨rfl, rfl⟩
theorem enters_begun_V : ∀ args w, (callFunc 137 args).run Tryz.prog w = .ok (.enter 137 args) w := enters_of Tryz.func137 (by kernel_rfl) rfl
theorem enters_now_V : ∀ args w, (callFunc 122 args).run Tryz.prog w = .ok (.enter 122 args) w := enters_of Tryz.func122 (by kernel_rfl) rfl
set_option maxHeartbeats 4000000 in
set_option maxRecDepth 100000 in
theorem begun_iter_V {m : Nat} (n : Nat) (sb : Nat) (gf : Nat) (lbx : Array Value) (xs : List (Int × Bal)) (G : FP) (w : World) (hsb : Boxed w sb 90 (.func (.func gf) #[] lbx)) (eg : ∀ args w, (callFunc gf args).run Tryz.prog w = .ok (.enter gf args) w) (hit : Iter Tryz.prog m gf lbx encs_V xs G w) (hGs : G sb) (hGl : ∀ k, G k → k < w.heap.size) (hlen : xs.length ≤ 1000000) :
 IterF Tryz.prog n 137 #[.pointer (some ⟨sb, 0, none⟩)] encs_V xs G w := by
 intro lp B Ψ J Jx Φ0 W hgw hG hΨ hJ hJx hround h0
 have hc1 : W.cell? ⟨sb, 0, none⟩ = some (.func (.func gf) #[] lbx) := (World.cell?_of_block (hG sb hGs).2).trans hsb.cell
 have hitW : Iter Tryz.prog m gf lbx encs_V xs (fun k => k < W.heap.size) W := hit.later hgw hG (fun k hk => Nat.lt_of_lt_of_le (hGl k hk) hgw.size)
 have hnow := still_Now_V gf lbx xs W eg hitW hlen
 obtain ⟨hs1, hs2, hs3⟩ := hJ _ _ _ h0
 have hwalk : ∀ v W1, Boxed W1 W.heap.size 191 v → OwnR pair_V (W.heap.size + 1) v xs W1 → Below W.heap.size W W1 →
  CallsIn Fence.wide n Tryz.prog 122 #[.func (.yield lp) #[] #[], .pointer (some ⟨W.heap.size, 0, none⟩)] W1 fun e W' => (∃ v, e = .returned v) ∧ Leaves Ψ Φ0 W (fun Φ' W' => J xs Φ' W' ∨ ∃ pre, pre <+: xs ∧ Jx pre Φ' W') W' := by
  intro v W1 hb ho hB
  have hJ1 : J [] Φ0 W1 := hs3 W1 (Grow.of_below hB) (fun k hk => hB.block k (hk.elim (fun h => by omega) (fun h => (hs1 k h).2)))
  have hi := now1_iter_V n W.heap.size v xs W1 hb ho.reads hlen (fun k => W.heap.size ≤ k ∧ k < W1.heap.size) ⟨Nat.le_refl _, hb.lt⟩ (fun k hk => ⟨by have := (ho.block hk).1; omega, (ho.block hk).2⟩)
  have hcall := hi lp B Ψ J Jx Φ0 W1 (Grow.refl _) (fun k hk => ⟨hk.2, rfl⟩) (fun k hk => ⟨hΨ k hk, fun h => by have := hΨ k hk; omega⟩) (fun k hk h => by have := (hs1 k hk).2; omega) hJ hJx hround hJ1
  refine (callsIn_wide.2 (callsIn_wide.1 hcall)).mono ?_
  rintro e W' ⟨he, Φ', hn, ho', hR⟩
  exact ⟨he, Φ', fun k hk => (hn k hk).imp id (fun h => by have := hB.size; omega), (Only.of_later hB).trans ho' (fun j h => .inl h), hR⟩
 have HW := Lib.hid hwalk
 have HN := Lib.hid hnow
 clear hwalk hnow hround hJ hJx hG hΨ hsb hit hitW h0 hs1 hs3 hGs hGl hlen eg
 refine callsIn_of_wp Tryz.func137 rfl trivial ?_ rfl
 simp only [Tryz.ntmps137, List.size_toArray, List.length_cons, List.length_nil, Nat.reduceAdd, Nat.reduceSub, Array.replicate_succ, Array.replicate_zero, List.push_toArray, List.append_toArray, List.nil_append, List.cons_append]
 have en := enters_now_V
 gi_wp2_with (first
  | (gi_at_call 102; refine (callsIn_wide.2 HN.out).mono ?_; rintro e W1 ⟨v, rfl, hb, ho, hB⟩; have H1 := Lib.hid (And.intro hb (And.intro ho hB)); clear hb ho hB)
  | (refine ⟨trivial, ?_⟩; gi_at_call 102; refine (callsIn_wide.2 HN.out).mono ?_; rintro e W1 ⟨v, rfl, hb, ho, hB⟩; have H1 := Lib.hid (And.intro hb (And.intro ho hB)); clear hb ho hB)
  | (gi_at_call 122; refine (callsIn_wide.2 (callsIn_wide.1 (HW.out _ _ H1.out.1 H1.out.2.1 H1.out.2.2))).mono ?_; rintro e W' ⟨⟨v', rfl⟩, hR⟩; have H2 := Lib.hid hR; clear hR)
  | (refine ⟨trivial, ?_⟩; gi_at_call 122; refine (callsIn_wide.2 (callsIn_wide.1 (HW.out _ _ H1.out.1 H1.out.2.1 H1.out.2.2))).mono ?_; rintro e W' ⟨⟨v', rfl⟩, hR⟩; have H2 := Lib.hid hR; clear hR)
  | fail)
 refine bodyPost_end (results_none rfl _ _ _) rfl ?_
 exact ⟨⟨_, rfl⟩, H2.out⟩
end
section
open Go.RowKit Go.Maps Go.Shelf
def Way {α : Type} (P : Program) (encs : α → Array Value) (f : Value) (xs : List α) (w : World) : Prop :=
 ∃ gf lb, f = .func (.func gf) #[] lb ∧ (∀ args w, (callFunc gf args).run P w = .ok (.enter gf args) w) ∧ ∀ n, IterF P n gf lb encs xs (fun k => k < w.heap.size) w
set_option maxRecDepth 100000 in
set_option maxHeartbeats 2000000 in
theorem grid_Row_I {g : Nat} {M : Cls Int} {F : FP} {w : World} (h : GrAt codI 186 g M F w) (hlen : M.length ≤ 100000) {s : Int} (hs : (Lit.int .i64 s).wf = true) :
 Calls Tryz.prog 103 #[.pointer (some ⟨g, 0, none⟩), .int .i64 s] w fun e w' => ∃ f, e = .returned f ∧ Way Tryz.prog encs_I f (rowOf M s) w' ∧ Below w.heap.size w w' := by
 have c1 := grid_row_I (some ⟨g, 0, none⟩) s w
 have hway : ∀ w', w' = ((w.alloc (.cells #[.pointer (some ⟨g, 0, none⟩)] 126)).alloc (.cells #[.int .i64 s] 3)).alloc (.cells #[.func (.func 134) #[] #[.pointer (some ⟨w.heap.size, 0, none⟩), .pointer (some ⟨w.heap.size + 1, 0, none⟩)]] 108) →
  Way Tryz.prog encs_I (.func (.func 133) #[] #[.pointer (some ⟨w.heap.size + 2, 0, none⟩)]) (rowOf M s) w' ∧ Below w.heap.size w w' := by
  intro w' hw'
  have hB : Below w.heap.size w w' := by rw [hw']; exact (((Below.refl _ w).alloc (Nat.le_refl _) _).alloc (by simp) _).alloc (by simp; omega) _
  have hsz : w'.heap.size = w.heap.size + 3 := by rw [hw']; simp
  have b0 : Boxed w' w.heap.size 126 (.pointer (some ⟨g, 0, none⟩)) := by rw [hw']; exact ((Boxed.new w _ _).alloc _).alloc _
  have b1 : Boxed w' (w.heap.size + 1) 3 (.int .i64 s) := by
   have := Boxed.new (w.alloc (.cells #[.pointer (some ⟨g, 0, none⟩)] 126)) 3 (.int .i64 s)
   rw [World.size_alloc] at this
   rw [hw']; exact this.alloc _
  have b2 : Boxed w' (w.heap.size + 2) 108 (.func (.func 134) #[] #[.pointer (some ⟨w.heap.size, 0, none⟩), .pointer (some ⟨w.heap.size + 1, 0, none⟩)]) := by
   have := Boxed.new ((w.alloc (.cells #[.pointer (some ⟨g, 0, none⟩)] 126)).alloc (.cells #[.int .i64 s] 3)) 108 (.func (.func 134) #[] #[.pointer (some ⟨w.heap.size, 0, none⟩), .pointer (some ⟨w.heap.size + 1, 0, none⟩)])
   rw [World.size_alloc, World.size_alloc] at this
   rw [hw']; exact this
  have hg' : GrAt codI 186 g M F w' := h.keep (Grow.of_below hB) (fun k hk => hB.block k (h.2.2.1 k hk))
  have hi := row_iter_I 0 w.heap.size (w.heap.size + 1) g M F s w' b0.cell b1.cell hg' hlen hs (fun k => k < w'.heap.size) (by omega) (by omega) (fun k hk => hg'.2.2.1 k hk)
  refine ⟨⟨_, _, rfl, enters_begun_I, fun n => ?_⟩, hB⟩
  exact begun_iter_I n (w.heap.size + 2) _ _ (rowOf M s) (fun k => k < w'.heap.size) w' b2 enters_row1_I hi (by omega) (fun k hk => hk) (by have := row_length M s; omega)
 have HW := Lib.hid hway
 have HC := Lib.hid c1
 clear c1 hway h hlen hs
 go_enter Tryz.func103, Tryz.ntmps103
 go_wp2_with (first
  | (go_at_call 124; refine HC.out.mono ?_; rintro e w1 ⟨rfl, rfl⟩)
  | (go_at_call 123; refine (still_Begun_I _ _ ⟨_, _, rfl⟩).mono ?_; rintro e w2 ⟨rfl, rfl⟩)
  | fail)
 go_ret
 exact ⟨_, rfl, (HW.out _ rfl).1, (HW.out _ rfl).2⟩
end
section
open Go.RowKit Go.Maps Go.Shelf
set_option maxRecDepth 100000 in
set_option maxHeartbeats 2000000 in
theorem grid_Row_V {g : Nat} {M : Cls Bal} {F : FP} {w : World} (h : GrAt balS.cod 169 g M F w) (hlen : M.length ≤ 100000) {s : Int} (hs : (Lit.int .i64 s).wf = true) :
 Calls Tryz.prog 117 #[.pointer (some ⟨g, 0, none⟩), .int .i64 s] w fun e w' => ∃ f, e = .returned f ∧ Way Tryz.prog encs_V f (rowOf M s) w' ∧ Below w.heap.size w w' := by
 have c1 := grid_row_V (some ⟨g, 0, none⟩) s w
 have hway : ∀ w', w' = ((w.alloc (.cells #[.pointer (some ⟨g, 0, none⟩)] 96)).alloc (.cells #[.int .i64 s] 3)).alloc (.cells #[.func (.func 138) #[] #[.pointer (some ⟨w.heap.size, 0, none⟩), .pointer (some ⟨w.heap.size + 1, 0, none⟩)]] 90) →
  Way Tryz.prog encs_V (.func (.func 137) #[] #[.pointer (some ⟨w.heap.size + 2, 0, none⟩)]) (rowOf M s) w' ∧ Below w.heap.size w w' := by
  intro w' hw'
  have hB : Below w.heap.size w w' := by rw [hw']; exact (((Below.refl _ w).alloc (Nat.le_refl _) _).alloc (by simp) _).alloc (by simp; omega) _
  have hsz : w'.heap.size = w.heap.size + 3 := by rw [hw']; simp
  have b0 : Boxed w' w.heap.size 96 (.pointer (some ⟨g, 0, none⟩)) := by rw [hw']; exact ((Boxed.new w _ _).alloc _).alloc _
  have b1 : Boxed w' (w.heap.size + 1) 3 (.int .i64 s) := by
   have := Boxed.new (w.alloc (.cells #[.pointer (some ⟨g, 0, none⟩)] 96)) 3 (.int .i64 s)
   rw [World.size_alloc] at this
   rw [hw']; exact this.alloc _
  have b2 : Boxed w' (w.heap.size + 2) 90 (.func (.func 138) #[] #[.pointer (some ⟨w.heap.size, 0, none⟩), .pointer (some ⟨w.heap.size + 1, 0, none⟩)]) := by
   have := Boxed.new ((w.alloc (.cells #[.pointer (some ⟨g, 0, none⟩)] 96)).alloc (.cells #[.int .i64 s] 3)) 90 (.func (.func 138) #[] #[.pointer (some ⟨w.heap.size, 0, none⟩), .pointer (some ⟨w.heap.size + 1, 0, none⟩)])
   rw [World.size_alloc, World.size_alloc] at this
   rw [hw']; exact this
  have hg' : GrAt balS.cod 169 g M F w' := h.keep (Grow.of_below hB) (fun k hk => hB.block k (h.2.2.1 k hk))
  have hi := row_iter_V 0 w.heap.size (w.heap.size + 1) g M F s w' b0.cell b1.cell hg' hlen hs (fun k => k < w'.heap.size) (by omega) (by omega) (fun k hk => hg'.2.2.1 k hk)
  refine ⟨⟨_, _, rfl, enters_begun_V, fun n => ?_⟩, hB⟩
  exact begun_iter_V n (w.heap.size + 2) _ _ (rowOf M s) (fun k => k < w'.heap.size) w' b2 enters_row1_V hi (by omega) (fun k hk => hk) (by have := row_length M s; omega)
 have HW := Lib.hid hway
 have HC := Lib.hid c1
 clear c1 hway h hlen hs
 go_enter Tryz.func117, Tryz.ntmps117
 go_wp2_with (first
  | (go_at_call 129; refine HC.out.mono ?_; rintro e w1 ⟨rfl, rfl⟩)
  | (go_at_call 128; refine (still_Begun_V _ _ ⟨_, _, rfl⟩).mono ?_; rintro e w2 ⟨rfl, rfl⟩)
  | fail)
 go_ret
 exact ⟨_, rfl, (HW.out _ rfl).1, (HW.out _ rfl).2⟩
end
section
open Go.RowKit
def IterT {α : Type} (P : Program) (n : Nat) (gf : Nat) (lb : Array Value) (encs : α → Array Value) (xs : List α) (G G0 : FP) (Tr : World → Prop) (w : World) : Prop :=
 ∀ (l B : Nat) (Ψ : FP) (J Jx : List α → FP → World → Prop) (Φ0 : FP) (W : World), Grow w W → (∀ k, G k ∨ G0 k → k < w.heap.size ∧ W.heap[k]? = w.heap[k]?) → (∀ k, Ψ k → k < B ∧ ¬ G k) → (∀ k, Φ0 k → ¬ G k) → Stab B J → Stab B Jx → (∀ pre Φ W1, J pre Φ W1 → Only Ψ Φ0 W W1 → Tr W1) →
  (∀ pre x Φ W1, (pre ++ [x]) <+: xs → J pre Φ W1 → RoundOk P n l encs Ψ J Jx pre x Φ W1) → J [] Φ0 W →
  CallsIn Fence.wide (n + 1) P gf (#[.func (.yield l) #[] #[]] ++ lb) W fun e W' => (∃ v, e = .returned v) ∧ Leaves Ψ Φ0 W (fun Φ' W' => J xs Φ' W' ∨ ∃ pre, pre <+: xs ∧ Jx pre Φ' W') W'
section
variable {P : Program} {α : Type}
theorem IterT.iter {n gf : Nat} {lb : Array Value} {encs : α → Array Value} {xs : List α} {G G0 G' : FP} {Tr : World → Prop} {w : World} (h : IterT P n gf lb encs xs G G0 Tr w) (hG : ∀ k, G k ∨ G0 k → G' k) (hs : ∀ W, (∀ k, G' k → k < w.heap.size ∧ W.heap[k]? = w.heap[k]?) → Tr W) : Iter P n gf lb encs xs G' w := by
 intro l B Ψ J Jx Φ0 W hgw hW hΨ hΦ hJ hJx hr h0
 refine h l B Ψ J Jx Φ0 W hgw (fun k hk => hW k (hG k hk)) (fun k hk => ⟨(hΨ k hk).1, fun hk' => (hΨ k hk).2 (hG k (.inl hk'))⟩) (fun k hk hk' => hΦ k hk (hG k (.inl hk'))) hJ hJx (fun pre Φ W1 _ ho => hs W1 fun k hk => ⟨(hW k hk).1, ?_⟩) hr h0
 exact (ho.block k (Nat.lt_of_lt_of_le (hW k hk).1 hgw.size) (fun h' => (hΨ k h').2 hk) (fun h' => hΦ k h' hk)).trans (hW k hk).2
theorem range_outerTA {n : Nat} {g : Operand} {ps : Array Tmp} {assign body : Code} {Q : Exit → Act → World → Prop} {a : Act} {w : World} {gf : Nat} {lb : Array Value} (hg : a.eval g = .func (.func gf) #[] lb) (eg : ∀ args w, (callFunc gf args).run P w = .ok (.enter gf args) w)
 {encs : α → Array Value} {xs : List α} {G G0 : FP} {Tr : World → Prop} {w0 : World} (hit : IterT P n gf lb encs xs G G0 Tr w0) (hg0 : Grow w0 w) (hG : ∀ k, G k ∨ G0 k → k < w0.heap.size ∧ w.heap[k]? = w0.heap[k]?) (hps : ∀ x, (encs x).size = ps.size)
 (Ψ : FP) (hΨ : ∀ k, Ψ k → k < w.heap.size ∧ ¬ G k) (I : List α → FP → World → Prop) (Ix : Code → List α → FP → World → Prop) (hI : Stab w.heap.size I) (hIx : ∀ c, Stab w.heap.size (Ix c)) (hT : ∀ pre Φ W, I pre Φ W → Tr W) (h0 : I [] (fun _ => False) w) (aOf : α → Nat → Act) (At : α → Nat → World → Prop) (hAt : ∀ x N W W', At x N W → W'.heap[N]? = W.heap[N]? → At x N W')
 (hassign : ∀ (l : Nat) (x : α) (W : World) (K : Act → World → Prop), (∀ W', Below W.heap.size W W' → W.heap.size < W'.heap.size → At x W.heap.size W' → K (aOf x W.heap.size) W') → assign.wpIn (Fence.wide.inRound l) n P (Exit.then K (fun _ _ _ => False)) { tmps := (ps.zip (encs x)).foldl (fun t (p, v) => t.setIfInBounds p v) a.tmps, defers := [] } W)
 (hbody : ∀ (l : Nat) (pre : List α) (x : α) (Φ : FP) (N : Nat) (W : World), (pre ++ [x]) <+: xs → I pre Φ W → w.heap.size < l → (∀ k, Φ k → l + 1 ≤ k ∧ k < N) → (∃ r, W.heap[l]? = some (.loop r)) → l < N → N < W.heap.size → At x N W → body.wpIn (Fence.wide.inRound l) n P (bodyI Ψ Φ I Ix (pre ++ [x]) W) (aOf x N) W)
 (hdone : ∀ (D : Nat) (Φ : FP) (W : World), I xs Φ W → Only Ψ (fun _ => False) w W → w.heap.size ≤ D → ¬ Φ D → W.heap[D]? = some (.deferred (some [])) → Q .normal { a with defers := { target := .collected D, args := #[] } :: a.defers } W)
 (hstop : ∀ (D : Nat) (Φ : FP) (c : Code) (pre : List α) (W : World), pre <+: xs → Ix c pre Φ W → Only Ψ (fun _ => False) w W → w.heap.size ≤ D → ¬ Φ D → W.heap[D]? = some (.deferred (some [])) → c.wpIn Fence.wide (n + 2) P Q { a with defers := { target := .collected D, args := #[] } :: a.defers } W) :
 (Code.rangeFunc g ps assign body).wpIn Fence.wide (n + 2) P Q a w := by
 refine wpIn_rangeFunc ?_
 intro fn hfn
 obtain ⟨W1, hW1⟩ : ∃ W1, (w.alloc (.deferred (some []))).alloc (.loop (recOf fn a.tmps ps assign body w.heap.size .ready none)) = W1 := ⟨_, rfl⟩
 have hL1 : W1.heap[w.heap.size + 1]? = some (.loop (recOf fn a.tmps ps assign body w.heap.size .ready none)) := by
  rw [← hW1]; have := World.alloc_heap_new (w.alloc (.deferred (some []))) (.loop (recOf fn a.tmps ps assign body w.heap.size .ready none)); rwa [World.size_alloc] at this
 have hK1 : W1.heap[w.heap.size]? = some (.deferred (some [])) := by
  rw [← hW1]; exact (Below.heap_alloc _ _ _ (by simp)).trans (World.alloc_heap_new w _)
 have hB1 : Below w.heap.size w W1 := by rw [← hW1]; exact ((Below.refl _ w).alloc (Nat.le_refl _) _).alloc (by simp) _
 have hsz : W1.heap.size = w.heap.size + 2 := by rw [← hW1]; simp
 have hi1 : I [] (fun _ => False) W1 := (hI _ _ _ h0).2.2 _ (Grow.of_below hB1) (fun k hk => hk.elim (fun h => hB1.block k h) (fun h => h.elim))
 refine ⟨w.heap.size + 1, [{ target := .collected w.heap.size, args := #[] }], W1, { target := .fn (.func gf) lb, args := #[.func (.yield (w.heap.size + 1)) #[] #[]] }, W1, gf,
  #[.func (.yield (w.heap.size + 1)) #[] #[]] ++ lb, W1, ?_, ?_, ?_, ?_, fun h => by simp [Fence.wide] at h, ?_⟩
 · rw [← hW1]; exact run_enterLoop_outer _ _ _ _ _
 · simp only [resolve, hg]
   simp [go_sem]
 · intro f' hf'; simp [Target.leads] at hf'; subst hf'; trivial
 · simp [invoke, go_sem, eg]
 · have hD : ∀ d, some w.heap.size = some d → w.heap.size ≤ d ∧ d < w.heap.size + 1 := fun d hd => by cases hd; omega
   refine (hit (w.heap.size + 1) (w.heap.size + 2) (fun k => Ψ k ∨ k = w.heap.size + 1) (InvJ I (w.heap.size + 1) (some w.heap.size) (recOf fn a.tmps ps assign body w.heap.size .ready none))
    (fun pre Φ W => ∃ c, InvJ (Ix c) (w.heap.size + 1) (some w.heap.size) (recOf fn a.tmps ps assign body w.heap.size .done (some c)) pre Φ W) (fun _ => False) W1 (hg0.trans (Grow.of_below hB1))
    (fun k hk => ⟨(hG k hk).1, (hB1.block k (Nat.lt_of_lt_of_le (hG k hk).1 hg0.size)).trans (hG k hk).2⟩) (fun k hk => ?_) (fun _ h => h.elim) (InvJ.stab hI (by omega) (fun d hd => (hD d hd).2)) ?_ (fun pre Φ W h _ => hT pre Φ W h.1) ?_ ⟨hi1, fun _ h => h.elim, hL1, fun d hd => by cases hd; exact hK1⟩).mono ?_
   · rcases hk with h | h
     · exact ⟨by have := (hΨ k h).1; omega, (hΨ k h).2⟩
     · exact ⟨by omega, fun hg' => by have := (hG k (.inl hg')).1; have := hg0.size; omega⟩
   · rintro pre Φ W ⟨c, hc⟩
     obtain ⟨h1, h2, h3⟩ := InvJ.stab (hIx c) (by omega) (fun d hd => (hD d hd).2) _ _ _ hc
     exact ⟨h1, h2, fun W' hg' hk => ⟨c, h3 W' hg' hk⟩⟩
   · intro pre x Φ W hpx hJ
     exact round_of_bodyA hI hIx (by omega) (fun k hk => (hΨ k hk).1) hps hD aOf At hAt hJ (fun W K hK => hassign _ x W K hK) (fun N W hi hΦ hr h1 h2 h3 => hbody _ pre x Φ N W hpx hi (by omega) hΦ hr h1 h2 h3)
   · have fine : ∀ W2, Only (fun k => Ψ k ∨ k = w.heap.size + 1) (fun _ => False) W1 W2 → ∀ r, Only Ψ (fun _ => False) w (W2.putObj (w.heap.size + 1) (.loop r)) := fun W2 ho r =>
      ⟨((Grow.of_below hB1).trans ho.grow).trans (put_grow _ _ _), fun k hk h1 h2 => (put_other (by omega)).trans ((ho.block k (by omega) (fun h => h.elim h1 (by omega)) h2).trans (hB1.block k hk))⟩
     rintro e W2 ⟨⟨v, rfl⟩, Φ', hn, ho, (⟨hi, hΦ, hl, hk⟩ | ⟨pre, hpre, c, hi, hΦ, hl, hk⟩)⟩
     · have hnD : ¬ Φ' w.heap.size := fun h => by have := hΦ _ h; omega
       refine ⟨none, _, run_endLoop (P := P) hl (by simp [recOf]), hdone _ Φ' _ ?_ (fine W2 ho _) (Nat.le_refl _) hnD ((put_other (by omega)).trans (hk _ rfl))⟩
       exact (hI _ _ _ hi).2.2 _ (put_grow _ _ _) (fun k hk' => put_other (hk'.elim (fun h => by omega) (fun h => by have := hΦ k h; omega)))
     · have hnD : ¬ Φ' w.heap.size := fun h => by have := hΦ _ h; omega
       refine ⟨some c, _, run_endLoop (P := P) hl (by simp [recOf]), hstop _ Φ' c pre _ hpre ?_ (fine W2 ho _) (Nat.le_refl _) hnD ((put_other (by omega)).trans (hk _ rfl))⟩
       exact (hIx c _ _ _ hi).2.2 _ (put_grow _ _ _) (fun k hk' => put_other (hk'.elim (fun h => by omega) (fun h => by have := hΦ k h; omega)))
theorem range_outerTU {n : Nat} {g : Operand} {ps : Array Tmp} {assign body : Code} {Q : Exit → Act → World → Prop} {a : Act} {w : World} {gf : Nat} {lb : Array Value} (hg : a.eval g = .func (.func gf) #[] lb) (eg : ∀ args w, (callFunc gf args).run P w = .ok (.enter gf args) w)
 {encs : α → Array Value} {xs : List α} {G G0 : FP} {Tr : World → Prop} {w0 : World} (hit : IterT P n gf lb encs xs G G0 Tr w0) (hg0 : Grow w0 w) (hG : ∀ k, G k ∨ G0 k → k < w0.heap.size ∧ w.heap[k]? = w0.heap[k]?) (hps : ∀ x, (encs x).size = ps.size)
 (Ψ : FP) (hΨ : ∀ k, Ψ k → k < w.heap.size ∧ ¬ G k) (I : List α → FP → World → Prop) (Ix : Code → List α → FP → World → Prop) (hI : Stab w.heap.size I) (hIx : ∀ c, Stab w.heap.size (Ix c)) (hT : ∀ pre Φ W, I pre Φ W → Tr W) (h0 : I [] (fun _ => False) w) (up : α → Nat → Array Value → Array Value) (At : α → Nat → World → Prop) (hAt : ∀ x N W W', At x N W → W'.heap[N]? = W.heap[N]? → At x N W')
 (hassign : ∀ (l : Nat) (x : α) (W : World) (K : Act → World → Prop), (∀ W', Below W.heap.size W W' → W.heap.size < W'.heap.size → At x W.heap.size W' → K { tmps := up x W.heap.size a.tmps, defers := [] } W') → assign.wpIn (Fence.wide.inRound l) n P (Exit.then K (fun _ _ _ => False)) { tmps := (ps.zip (encs x)).foldl (fun t (p, v) => t.setIfInBounds p v) a.tmps, defers := [] } W)
 (hbody : ∀ (l : Nat) (pre : List α) (x : α) (Φ : FP) (N : Nat) (W : World), (pre ++ [x]) <+: xs → I pre Φ W → w.heap.size < l → (∀ k, Φ k → l + 1 ≤ k ∧ k < N) → (∃ r, W.heap[l]? = some (.loop r)) → l < N → N < W.heap.size → At x N W → body.wpIn (Fence.wide.inRound l) n P (bodyI Ψ Φ I Ix (pre ++ [x]) W) { tmps := up x N a.tmps, defers := [] } W)
 (hdone : ∀ (D : Nat) (Φ : FP) (W : World), I xs Φ W → Only Ψ (fun _ => False) w W → w.heap.size ≤ D → ¬ Φ D → W.heap[D]? = some (.deferred (some [])) → Q .normal { a with defers := { target := .collected D, args := #[] } :: a.defers } W)
 (hstop : ∀ (D : Nat) (Φ : FP) (c : Code) (pre : List α) (W : World), pre <+: xs → Ix c pre Φ W → Only Ψ (fun _ => False) w W → w.heap.size ≤ D → ¬ Φ D → W.heap[D]? = some (.deferred (some [])) → c.wpIn Fence.wide (n + 2) P Q { a with defers := { target := .collected D, args := #[] } :: a.defers } W) :
 (Code.rangeFunc g ps assign body).wpIn Fence.wide (n + 2) P Q a w :=
 range_outerTA hg eg hit hg0 hG hps Ψ hΨ I Ix hI hIx hT h0 (fun x N => { tmps := up x N a.tmps, defers := [] }) At hAt hassign hbody hdone hstop
theorem range_outerAU {n : Nat} {g : Operand} {ps : Array Tmp} {assign body : Code} {Q : Exit → Act → World → Prop} {a : Act} {w : World} {gf : Nat} {lb : Array Value} (hg : a.eval g = .func (.func gf) #[] lb) (eg : ∀ args w, (callFunc gf args).run P w = .ok (.enter gf args) w)
 {encs : α → Array Value} {xs : List α} {G : FP} {w0 : World} (hit : Iter P n gf lb encs xs G w0) (hg0 : Grow w0 w) (hG : ∀ k, G k → k < w0.heap.size ∧ w.heap[k]? = w0.heap[k]?) (hps : ∀ x, (encs x).size = ps.size)
 (Ψ : FP) (hΨ : ∀ k, Ψ k → k < w.heap.size ∧ ¬ G k) (I : List α → FP → World → Prop) (Ix : Code → List α → FP → World → Prop) (hI : Stab w.heap.size I) (hIx : ∀ c, Stab w.heap.size (Ix c)) (h0 : I [] (fun _ => False) w) (up : α → Nat → Array Value → Array Value) (At : α → Nat → World → Prop) (hAt : ∀ x N W W', At x N W → W'.heap[N]? = W.heap[N]? → At x N W')
 (hassign : ∀ (l : Nat) (x : α) (W : World) (K : Act → World → Prop), (∀ W', Below W.heap.size W W' → W.heap.size < W'.heap.size → At x W.heap.size W' → K { tmps := up x W.heap.size a.tmps, defers := [] } W') → assign.wpIn (Fence.wide.inRound l) n P (Exit.then K (fun _ _ _ => False)) { tmps := (ps.zip (encs x)).foldl (fun t (p, v) => t.setIfInBounds p v) a.tmps, defers := [] } W)
 (hbody : ∀ (l : Nat) (pre : List α) (x : α) (Φ : FP) (N : Nat) (W : World), (pre ++ [x]) <+: xs → I pre Φ W → w.heap.size < l → (∀ k, Φ k → l + 1 ≤ k ∧ k < N) → (∃ r, W.heap[l]? = some (.loop r)) → l < N → N < W.heap.size → At x N W → body.wpIn (Fence.wide.inRound l) n P (bodyI Ψ Φ I Ix (pre ++ [x]) W) { tmps := up x N a.tmps, defers := [] } W)
 (hdone : ∀ (D : Nat) (Φ : FP) (W : World), I xs Φ W → Only Ψ (fun _ => False) w W → w.heap.size ≤ D → ¬ Φ D → W.heap[D]? = some (.deferred (some [])) → Q .normal { a with defers := { target := .collected D, args := #[] } :: a.defers } W)
 (hstop : ∀ (D : Nat) (Φ : FP) (c : Code) (pre : List α) (W : World), pre <+: xs → Ix c pre Φ W → Only Ψ (fun _ => False) w W → w.heap.size ≤ D → ¬ Φ D → W.heap[D]? = some (.deferred (some [])) → c.wpIn Fence.wide (n + 2) P Q { a with defers := { target := .collected D, args := #[] } :: a.defers } W) :
 (Code.rangeFunc g ps assign body).wpIn Fence.wide (n + 2) P Q a w :=
 range_outerAI hg eg hit hg0 hG hps Ψ hΨ I Ix hI hIx h0 (fun x N => { tmps := up x N a.tmps, defers := [] }) At hAt hassign hbody hdone hstop
end
end
section
open Go.RowKit
section
variable {P : Program} {ops : Array Oper} {md : Region.Mode} {w : World} {n lp : Nat}
theorem wpStill_skip {Q : Act → Prop} {a : Act} {o : Oper} {rest : List Oper} (hw : Region.wanted o (yielded ops a.tmps) = false) (h : wpStill P ops w Q rest (a.put o.dst undef)) : wpStill P ops w Q (o :: rest) a := by
 unfold wpStill
 rw [if_neg (by rw [hw]; exact Bool.false_ne_true)]
 exact h
theorem wpStill_skipF {Q : Act → Prop} {a : Act} {o : Oper} {rest : List Oper} {j : Nat} {b t : Bool} (hg : o.guard = some (j, t)) (hy : yielded ops a.tmps j = some b) (hb : b = !t) (h : wpStill P ops w Q rest (a.put o.dst undef)) : wpStill P ops w Q (o :: rest) a := by
 refine wpStill_skip ?_ h
 unfold Region.wanted
 rw [hg]
 show (yielded ops a.tmps j == some t) = false
 rw [hy, hb]
 cases t <;> rfl
theorem wpListIn_skipF {Q : Exit → Act → World → Prop} {a : Act} {o : Oper} {rest : List Oper} {j : Nat} {b t : Bool} (hg : o.guard = some (j, t)) (hy : yielded ops a.tmps j = some b) (hb : b = !t) (h : wpListIn (Fence.wide.inRound lp) n P ops Q rest (a.put o.dst undef) w) : wpListIn (Fence.wide.inRound lp) n P ops Q (o :: rest) a w := by
 have hw : Region.wanted o (yielded ops a.tmps) = false := by
  unfold Region.wanted
  rw [hg]
  show (yielded ops a.tmps j == some t) = false
  rw [hy, hb]
  cases t <;> rfl
 unfold wpListIn
 rw [if_neg (by rw [hw]; exact Bool.false_ne_true)]
 exact ⟨fun f _ => trivial, h⟩
theorem wpStill_skipS {Q : Act → Prop} {a : Act} {o : Oper} {rest : List Oper} {j : Nat} {b t : Bool} (hg : o.guard = some (j, t)) (hy : yielded ops a.tmps j = some b) (ha : a.put o.dst undef = a) (hb : b = !t) (h : wpStill P ops w Q rest a) : wpStill P ops w Q (o :: rest) a :=
 wpStill_skipF hg hy hb (by rw [ha]; exact h)
theorem wpListIn_skipS {Q : Exit → Act → World → Prop} {a : Act} {o : Oper} {rest : List Oper} {j : Nat} {b t : Bool} (hg : o.guard = some (j, t)) (hy : yielded ops a.tmps j = some b) (ha : a.put o.dst undef = a) (hb : b = !t) (h : wpListIn (Fence.wide.inRound lp) n P ops Q rest a w) : wpListIn (Fence.wide.inRound lp) n P ops Q (o :: rest) a w :=
 wpListIn_skipF hg hy hb (by rw [ha]; exact h)
theorem wpIn_of_stillR {o : Oper} (hd : ∀ c, o.op ≠ .defer c) {a : Act} {K : Act → Prop} {K' : Act → World → Prop} {Q' : Exit → Act → World → Prop} (h : ∀ a, K a → K' a w) (hh : o.still P a w K) : o.wpIn (Fence.wide.inRound lp) n P a w K' Q' := by
 unfold Oper.still at hh
 unfold Oper.wpIn
 refine ⟨fun f _ => trivial, ?_⟩
 have e : o.semAt (Fence.wide.inRound lp).round a.eval = execOp a.eval o := Oper.semAt_eq _ _ _ hd
 rw [e]
 generalize (execOp a.eval o).run P w = r at *
 cases r with
 | ok x w' =>
  cases x <;> simp only [Oper.stillUpon] at hh <;> simp only [Oper.uponIn]
  case enter f args =>
   obtain ⟨rfl, v, hc, hn⟩ := hh
   exact ⟨fun h => by simp [Fence.wide] at h, CallsIn.inRound lp ((callsIn_wide.2 hc).mono fun e w'' ⟨he, hw⟩ => by subst he; subst hw; exact h _ hn)⟩
  all_goals (obtain ⟨rfl, h2⟩ := hh; exact h _ h2)
 | halt x w' => simp only [Oper.stillUpon] at hh
theorem wpOpIn_of_stOpR (hdf : ∀ (i : Nat) (o : Oper), ops[i]? = some o → ∀ c, o.op ≠ .defer c) {i : Nat} {a : Act} {K : Act → Prop} {K' : Act → World → Prop} {Q' : Exit → Act → World → Prop} (h : ∀ a, K a → K' a w) (hh : stOp P ops w i K a) : wpOpIn (Fence.wide.inRound lp) n P ops Q' i K' a w := by
 unfold stOp at hh
 unfold wpOpIn
 split
 · rename_i ho; simp only [ho] at hh; exact h _ hh
 · rename_i o ho
   simp only [ho] at hh
   split
   · rename_i hw; simp only [hw, if_true] at hh; exact wpIn_of_stillR (hdf _ _ ho) h hh
   · rename_i hw; simp only [hw] at hh; exact ⟨fun f _ => trivial, h _ hh⟩
theorem wpAnyIn_of_headR (hdf : ∀ (i : Nat) (o : Oper), ops[i]? = some o → ∀ c, o.op ≠ .defer c) {m g : Nat} {L : Array Bool → Act → Prop} {Q' : Exit → Act → World → Prop} (hL : ∀ listed a, L listed a → wpAnyIn (Fence.wide.inRound lp) n P md ops Q' g listed a w) :
 ∀ (f : Nat) (listed : Array Bool) (a : Act), wpAnyL P md ops w m L f listed a → wpAnyIn (Fence.wide.inRound lp) n P md ops Q' (f + g) listed a w
 | 0, listed, a, h => by rw [Nat.zero_add]; exact hL _ _ h
 | f + 1, listed, a, h => by
  rw [show f + 1 + g = (f + g) + 1 by omega]
  exact ⟨fun h0 => absurd h0 h.1, fun i hi => wpOpIn_of_stOpR hdf (fun a' h' => wpAnyIn_of_headR hdf hL f _ a' h') (h.2 i hi).2⟩
theorem wpAnyIn_of_seqR {Q' : Exit → Act → World → Prop} : ∀ (l : List Oper) (k : Nat) (listed : Array Bool) (a : Act) (w : World), (∀ j, l[j]? = ops[k + j]?) →
 Region.seqB md ops l.length k listed = true → wpListIn (Fence.wide.inRound lp) n P ops Q' l a w → wpAnyIn (Fence.wide.inRound lp) n P md ops Q' l.length listed a w
 | [], _, _, _, _, _, hB, h => ⟨by simpa [Region.seqB] using hB, h⟩
 | o :: l, k, listed, a, w, hl, hB, h => by
  have h0 : ops[k]? = some o := by simpa using (hl 0).symm
  simp only [List.length_cons, Region.seqB, Bool.and_eq_true, decide_eq_true_eq] at hB
  refine ⟨fun h1 => (by rw [hB.1] at h1; cases h1), fun i hi => ?_⟩
  rw [hB.1] at hi
  have hik : i = k := by simpa using hi
  subst hik
  have hw : wpOpIn (Fence.wide.inRound lp) n P ops Q' i (wpListIn (Fence.wide.inRound lp) n P ops Q' l) a w := by unfold wpOpIn; simp only [h0]; exact h
  exact wpOpIn_mono (fun a' w' h' => wpAnyIn_of_seqR l (i + 1) _ a' w' (fun j => by have := hl (j + 1); simpa [Nat.add_assoc, Nat.add_comm 1 j] using this) hB.2 h') hw
theorem wpIn_region_still_tailR {id : Nat} {Q : Exit → Act → World → Prop} {a : Act} {w : World} {l : List Oper} (m : Nat) (hm : P.follows .mixedOrders = true) (hB : Region.lexTailB .any l.toArray m = true)
 (hdb : l.all (fun o => match o.op with | .defer _ => false | _ => true) = true)
 (h : wpStill P l.toArray { w with drawn := w.drawn + 1 } (fun a' => wpListIn (Fence.wide.inRound lp) n P l.toArray Q (l.drop m) a' { w with drawn := w.drawn + 1 }) (l.take m) a) : (Code.region id l.toArray true).wpIn (Fence.wide.inRound lp) n P Q a w := by
 simp only [Region.lexTailB, Bool.and_eq_true, decide_eq_true_eq] at hB
 obtain ⟨⟨⟨⟨hsel, hn⟩, hs⟩, hc⟩, hlex⟩ := hB
 have hn' : m < l.length := by simpa using hn
 have htl : (l.take m).length = m := by simp; omega
 have hdl : (l.drop m).length = l.toArray.size - m := by simp
 have inv0 : HeadInv .any l.toArray m (Array.replicate l.toArray.size false) :=
  ⟨by simp, fun j oj _ hl => (by rw [getD_replicate_false] at hl; cases hl), fun t _ ht => getD_in (by simpa using ht) (getD_replicate_false _ _)⟩
 have H := wpAnyL_lex (md := .any) (g := l.toArray.size - m) hsel hs hc hn (l.take m) 0 _ a (fun j hj => by
  have hj' : j < m := by rw [htl] at hj; exact hj
  simp [hj']) (by simpa using htl) inv0 (by rw [htl]; exact hlex) h
 refine wpIn_region_any hm ?_
 have hdf : ∀ (i : Nat) (o : Oper), l.toArray[i]? = some o → ∀ c, o.op ≠ .defer c := fun i o ho c hc => by
  have hm := List.all_eq_true.1 hdb o (List.mem_of_getElem? (by simpa using ho))
  rw [hc] at hm; cases hm
 have := wpAnyIn_of_headR hdf (n := n) (lp := lp) (Q' := Q) (g := l.toArray.size - m) (fun listed a' hL => by
  have := wpAnyIn_of_seqR (n := n) (md := .any) (Q' := Q) (l.drop m) m listed a' { w with drawn := w.drawn + 1 } (fun j => by simp [List.getElem?_drop]) (by rw [hdl]; exact hL.1) hL.2
  rwa [hdl] at this) _ _ _ H
 rw [htl, show m + (l.toArray.size - m) = l.toArray.size by omega] at this
 exact this
end
end
section
open Go.RowKit
theorem bound_Within (n a b : Int) (w : World) : Calls Tryz.prog 56 #[.int .i64 n, .int .i64 a, .int .i64 b] w fun e w' => e = .returned (.bool (decide (a ≤ n ∧ n ≤ b))) ∧ w' = w := by
 go_enter Tryz.func56, Tryz.ntmps56
 by_cases c : a ≤ n
 · by_cases d : n ≤ b
   · go_wp2
     exact bodyPost_ret (v := .bool true) (by simp [results, Tryz.results56, go_sem]) rfl ⟨by simp [c, d], rfl⟩
   · have hd : decide (n ≤ b) = false := by simpa using d
     go_wp2
     exact bodyPost_ret (v := .bool false) (by simp [results, Tryz.results56, go_sem]) rfl ⟨by simp <;> omega, rfl⟩
 · have hc : decide (a ≤ n) = false := by simpa using c
   go_wp2
   exact bodyPost_ret (v := .bool false) (by simp [results, Tryz.results56, go_sem]) rfl ⟨by simp <;> omega, rfl⟩
theorem bound_Below (n b : Int) (w : World) : Calls Tryz.prog 53 #[.int .i64 n, .int .i64 b] w fun e w' => e = .returned (.bool (decide (0 ≤ n ∧ n < b))) ∧ w' = w := by
 go_enter Tryz.func53, Tryz.ntmps53
 by_cases c : 0 ≤ n
 · by_cases d : n < b
   · go_wp2
     exact bodyPost_ret (v := .bool true) (by simp [results, Tryz.results53, go_sem]) rfl ⟨by simp [c, d], rfl⟩
   · have hd : decide (n < b) = false := by simpa using d
     go_wp2
     exact bodyPost_ret (v := .bool false) (by simp [results, Tryz.results53, go_sem]) rfl ⟨by simp <;> omega, rfl⟩
 · have hc : decide (0 ≤ n) = false := by simpa using c
   go_wp2
   exact bodyPost_ret (v := .bool false) (by simp [results, Tryz.results53, go_sem]) rfl ⟨by simp <;> omega, rfl⟩
theorem bound_Account (n : Int) (w : World) : Calls Tryz.prog 57 #[.int .i64 n] w fun e w' => e = .returned (.bool (decide (0 ≤ n ∧ n < 10))) ∧ w' = w := by
 go_enter Tryz.func57, Tryz.ntmps57
 go_wp2_with (first | (go_at_call 53; refine (bound_Below n 10 _).mono ?_; rintro e w' ⟨rfl, rfl⟩) | fail)
 exact bodyPost_ret (v := .bool (decide (0 ≤ n ∧ n < 10))) (by simp [results, Tryz.results57, go_sem]) rfl ⟨rfl, rfl⟩
theorem bound_Balance (n : Int) (w : World) : Calls Tryz.prog 72 #[.int .i64 n] w fun e w' => e = .returned (.bool (decide (0 ≤ n ∧ n ≤ 1073741824))) ∧ w' = w := by
 go_enter Tryz.func72, Tryz.ntmps72
 go_wp2_with (first | (go_at_call 56; refine (bound_Within n 0 1073741824 _).mono ?_; rintro e w' ⟨rfl, rfl⟩) | fail)
 exact bodyPost_ret (v := .bool (decide (0 ≤ n ∧ n ≤ 1073741824))) (by simp [results, Tryz.results72, go_sem]) rfl ⟨rfl, rfl⟩
end
section
open Go.RowKit Go.Maps
structure Pl where
 st : Int
 tr : Int
 ay : Int
 na : Int
 su : Int
 en : Int
def plc (p : Pl) : List Value := [.int .i64 p.st, .int .i64 p.tr, .int .i64 p.ay, .int .i64 p.na, .int .i64 p.su, .int .i64 p.en]
def VoB (vb : Nat) (P : Nat → Pl) (gv gd gw gp : Nat) (w : World) : Prop :=
 ∃ C : Array Value, w.heap[vb]? = some (.cells C 101 (0, 0)) ∧ C.size = 76 ∧ (∀ k, k < 12 → ∀ j u, (plc (P k))[j]? = some u → C[k * 6 + j]? = some u) ∧
  C[72]? = some (.pointer (some ⟨gv, 0, none⟩)) ∧ C[73]? = some (.pointer (some ⟨gd, 0, none⟩)) ∧ C[74]? = some (.pointer (some ⟨gw, 0, none⟩)) ∧ C[75]? = some (.pointer (some ⟨gp, 0, none⟩))
section
variable {vb gv gd gw gp : Nat} {P : Nat → Pl} {w w' : World}
theorem VoB.lt (h : VoB vb P gv gd gw gp w) : vb < w.heap.size := by obtain ⟨C, h, _⟩ := h; exact (Array.getElem?_eq_some_iff.1 h).1
theorem VoB.keep (h : VoB vb P gv gd gw gp w) (hk : w'.heap[vb]? = w.heap[vb]?) : VoB vb P gv gd gw gp w' := by
 obtain ⟨C, h1, h2⟩ := h
 exact ⟨C, hk.trans h1, h2⟩
theorem VoB.frozen (h : VoB vb P gv gd gw gp w) (i : Nat) : w.frozen? ⟨vb, i, none⟩ = false := by
 obtain ⟨C, h1, _⟩ := h
 simp [World.frozen?, h1]
theorem VoB.cellAt (h : VoB vb P gv gd gw gp w) {k : Nat} (hk : k < 12) {j : Nat} {u : Value} (hu : (plc (P k))[j]? = some u) : w.cell? ⟨vb, k * 6 + j, none⟩ = some u := by
 obtain ⟨C, h1, _, h3, _⟩ := h
 rw [World.cell?, h1]
 exact h3 k hk j u hu
theorem VoB.poll (h : VoB vb P gv gd gw gp w) {k : Nat} (hk : k < 12) :
 w.cell? ⟨vb, k * 6, none⟩ = some (.int .i64 (P k).st) ∧ w.cell? ⟨vb, k * 6 + 1, none⟩ = some (.int .i64 (P k).tr) ∧ w.cell? ⟨vb, k * 6 + 2, none⟩ = some (.int .i64 (P k).ay) ∧ w.cell? ⟨vb, k * 6 + 3, none⟩ = some (.int .i64 (P k).na) ∧ w.cell? ⟨vb, k * 6 + 4, none⟩ = some (.int .i64 (P k).su) ∧ w.cell? ⟨vb, k * 6 + 5, none⟩ = some (.int .i64 (P k).en) :=
 ⟨h.cellAt hk (j := 0) rfl, h.cellAt hk (j := 1) rfl, h.cellAt hk (j := 2) rfl, h.cellAt hk (j := 3) rfl, h.cellAt hk (j := 4) rfl, h.cellAt hk (j := 5) rfl⟩
theorem VoB.tables (h : VoB vb P gv gd gw gp w) :
 w.cell? ⟨vb, 72, none⟩ = some (.pointer (some ⟨gv, 0, none⟩)) ∧ w.cell? ⟨vb, 73, none⟩ = some (.pointer (some ⟨gd, 0, none⟩)) ∧ w.cell? ⟨vb, 74, none⟩ = some (.pointer (some ⟨gw, 0, none⟩)) ∧ w.cell? ⟨vb, 75, none⟩ = some (.pointer (some ⟨gp, 0, none⟩)) := by
 obtain ⟨C, h1, _, _, h4, h5, h6, h7⟩ := h
 refine ⟨?_, ?_, ?_, ?_⟩ <;> rw [World.cell?, h1] <;> assumption
theorem VoB.set (h : VoB vb P gv gd gw gp w) {k j : Nat} (hk : k < 12) (hj : j < 6) {u : Value} {p' : Pl} (hp : plc p' = (plc (P k)).set j u) : VoB vb (fun i => if i = k then p' else P i) gv gd gw gp (w.setCell ⟨vb, k * 6 + j, none⟩ u) := by
 obtain ⟨C, h1, h2, h3, h4, h5, h6, h7⟩ := h
 have hl : ∀ p : Pl, (plc p).length = 6 := fun _ => rfl
 refine ⟨C.setIfInBounds (k * 6 + j) u, by simp [World.setCell, Array.getElem?_modify, h1], by simp [h2], fun i hi m v hv => ?_, ?_, ?_, ?_, ?_⟩
 · have hm : m < 6 := (List.getElem?_eq_some_iff.1 hv).1
   replace hv : (plc (if i = k then p' else P i))[m]? = some v := hv
   rw [Array.getElem?_setIfInBounds]
   by_cases e : i = k
   · subst e
     simp only [if_true] at hv
     rw [hp, List.getElem?_set] at hv
     by_cases e2 : m = j
     · subst e2
       rw [if_pos rfl, if_pos (by rw [hl]; exact hm)] at hv
       rw [if_pos rfl, if_pos (by omega)]
       exact hv
     · rw [if_neg (by omega)] at hv
       rw [if_neg (by omega)]
       exact h3 i hi m v hv
   · rw [if_neg e] at hv
     rw [if_neg (by omega)]
     exact h3 i hi m v hv
 all_goals
  rw [Array.getElem?_setIfInBounds, if_neg (by omega)]
  assumption
end
def plHas (P : Nat → Pl) (r : Int) : Prop := (0 ≤ r ∧ r < 12) ∧ (P r.toNat).st ≠ 0
set_option maxRecDepth 100000 in
theorem voting_poll {vb gv gd gw gp : Nat} {P : Nat → Pl} {w : World} (h : VoB vb P gv gd gw gp w) {k : Nat} (hk : k < 12) : Calls Tryz.prog 47 #[.pointer (some ⟨vb, 0, none⟩), .int .i64 k] w fun e w' => e = .returned (.pointer (if (P k).st = 0 then none else some ⟨vb, k * 6, none⟩)) ∧ w' = w := by
 obtain ⟨c0, -⟩ := h.poll hk
 have hkI : (k : Int) < 12 := by omega
 obtain ⟨x, hx⟩ : ∃ x, x = (P k).st := ⟨_, rfl⟩
 rw [← hx] at c0 ⊢
 have HK := Lib.hid (show decide ((0 : Int) ≤ (k : Int) ∧ (k : Int) < 12) = true by simp; omega)
 clear h hx
 by_cases e : x = 0
 · subst e
   go_enter Tryz.func47, Tryz.ntmps47
   go_wp2_with (first
    | (go_at_call 53; refine (bound_Below _ _ _).mono ?_; rw [HK.out]; rintro e w' ⟨rfl, hw⟩; rw [hw]; clear hw w')
    | fail)
   exact bodyPost_ret (v := .pointer none) (by simp [results, Tryz.results47, go_sem]) rfl ⟨rfl, rfl⟩
 · have e' : (x == 0) = false := by simpa using e
   rw [if_neg e]
   have HE := Lib.hid e
   clear e
   go_enter Tryz.func47, Tryz.ntmps47
   go_wp2_with (first
    | (go_at_call 53; refine (bound_Below _ _ _).mono ?_; rw [HK.out]; rintro e w' ⟨rfl, hw⟩; rw [hw]; clear hw w')
    | fail)
   exact bodyPost_ret (v := .pointer (some ⟨vb, k * 6, none⟩)) (by simp [results, Tryz.results47, go_sem]) rfl ⟨rfl, rfl⟩
end
section
open Go.RowKit Go.Maps
def plPtr (vb : Nat) (P : Nat → Pl) (r : Int) : Option Addr := if (0 ≤ r ∧ r < 12) ∧ (P r.toNat).st ≠ 0 then some ⟨vb, r.toNat * 6, none⟩ else none
set_option maxRecDepth 100000 in
theorem voting_pollR {vb gv gd gw gp : Nat} {P : Nat → Pl} {w : World} (h : VoB vb P gv gd gw gp w) (r : Int) : Calls Tryz.prog 47 #[.pointer (some ⟨vb, 0, none⟩), .int .i64 r] w fun e w' => e = .returned (.pointer (plPtr vb P r)) ∧ w' = w := by
 by_cases hr : 0 ≤ r ∧ r < 12
 · obtain ⟨k, rfl⟩ := Int.eq_ofNat_of_zero_le hr.1
   refine (voting_poll h (by omega)).mono fun e w' ⟨he, hw⟩ => ⟨?_, hw⟩
   rw [he]
   unfold plPtr
   by_cases e0 : (P k).st = 0
   · rw [if_pos e0, if_neg (fun h => h.2 (by simpa using e0))]
   · rw [if_neg e0, if_pos ⟨hr, by simpa using e0⟩]; simp
 · have hp : plPtr vb P r = none := by unfold plPtr; rw [if_neg (fun h => hr h.1)]
   rw [hp]
   have HK := Lib.hid (show decide ((0 : Int) ≤ r ∧ r < 12) = false from decide_eq_false hr)
   clear h hr hp
   go_enter Tryz.func47, Tryz.ntmps47
   go_wp2_with (first
    | (go_at_call 53; refine (bound_Below _ _ _).mono ?_; rw [HK.out]; rintro e w' ⟨rfl, hw⟩; rw [hw]; clear hw w')
    | fail)
   exact bodyPost_ret (v := .pointer none) (by simp [results, Tryz.results47, go_sem]) rfl ⟨rfl, rfl⟩
theorem poll_open {vb gv gd gw gp : Nat} {P : Nat → Pl} {w : World} (h : VoB vb P gv gd gw gp w) {k : Nat} (hk : k < 12) : Calls Tryz.prog 55 #[.pointer (some ⟨vb, k * 6, none⟩)] w fun e w' => e = .returned (.bool ((P k).st == 1)) ∧ w' = w := by
 obtain ⟨c0, -⟩ := h.poll hk
 obtain ⟨x, hx⟩ : ∃ x, x = (P k).st := ⟨_, rfl⟩
 rw [← hx] at c0 ⊢
 clear h hx
 go_enter Tryz.func55, Tryz.ntmps55
 go_wp2_with fail
 exact bodyPost_ret (v := .bool (x == 1)) (by simp [results, Tryz.results55, go_sem]) rfl ⟨rfl, rfl⟩
structure Tl where
 a : Int
 n : Int
 s : Int
deriving DecidableEq
theorem tlyInfo : (Tryz.prog.info? 41).map (fun i => (i.zero, i.size)) = some (some (.agg #[.int .i64 0, .int .i64 0, .int .i64 0]), 3) := by kernel_rfl
def tlyS : StTy Tryz.prog Tl where
 T := 41
 k := 3
 f := fun x => [.int .i64 x.a, .int .i64 x.n, .int .i64 x.s]
 zero := ⟨0, 0, 0⟩
 len := fun _ => rfl
 lit := fun x u hu => by
  simp only [List.mem_cons, List.not_mem_nil, or_false] at hu
  rcases hu with rfl | rfl | rfl <;> trivial
 inj := fun x y h => by cases x; cases y; simpa using h
 info := by
  obtain ⟨i0, hi, hz⟩ := Option.map_eq_some_iff.1 tlyInfo
  simp only [Prod.mk.injEq] at hz
  exact ⟨i0, hi, hz.1, hz.2⟩
 row := ⟨_, Tryz.underlying41, rfl⟩
def Pl.t (p : Pl) : Tl := ⟨p.ay, p.na, p.su⟩
theorem VoB.tally {vb gv gd gw gp : Nat} {P : Nat → Pl} {w : World} (h : VoB vb P gv gd gw gp w) {k : Nat} (hk : k < 12) : w.rangeAt vb (k * 6 + 2) (tlyS.f (P k).t) := fun j u hj => by
 obtain ⟨c0, c1, c2, c3, c4, c5⟩ := h.poll hk
 have hj3 : j < 3 := (List.getElem?_eq_some_iff.1 hj).1
 match j, hj3, hj with
 | 0, _, hj => cases hj; exact c2
 | 1, _, hj => cases hj; exact c3
 | 2, _, hj => cases hj; exact c4
set_option maxRecDepth 100000 in
set_option maxHeartbeats 2000000 in
theorem voting_Tally {vb gv gd gw gp : Nat} {P : Nat → Pl} {w : World} (h : VoB vb P gv gd gw gp w) (r : Int) : Calls Tryz.prog 13 #[.pointer (some ⟨vb, 0, none⟩), .int .i64 r] w fun e w' => e = .returned (tlyS.v (if (plPtr vb P r).isSome then (P r.toNat).t else tlyS.zero)) ∧ Below w.heap.size w w' := by
 obtain ⟨W0, hW0⟩ : ∃ W0, W0 = w.alloc (tlyS.obj tlyS.zero) := ⟨_, rfl⟩
 obtain ⟨rb, hrb⟩ : ∃ rb, rb = w.heap.size := ⟨_, rfl⟩
 have hB0 : Below w.heap.size w W0 := by rw [hW0]; exact (Below.refl _ w).alloc (Nat.le_refl _) _
 have h0 : VoB vb P gv gd gw gp W0 := h.keep (hB0.block vb h.lt)
 have hz : W0.heap[rb]? = some (tlyS.obj tlyS.zero) := by rw [hW0, hrb]; exact World.alloc_heap_new w _
 have hend : ∀ t, (W0.setRow rb (tlyS.f t).toArray).rangeAt rb 0 (tlyS.f t) ∧ Below w.heap.size w (W0.setRow rb (tlyS.f t).toArray) := fun t => by
  refine ⟨rangeAt_whole (T := tlyS.T) (setRow_heap _ _ _ _ _ _ hz), hB0.os, hB0.tape, hB0.output, by simpa using hB0.size, fun k hk => (setRow_other _ _ _ _ (by rw [hrb]; omega)).trans (hB0.block k hk)⟩
 have HE := Lib.hid hend
 have HZ := Lib.hid hz
 have H0 := Lib.hid h0
 have HW0 := Lib.hid (And.intro hW0 hrb)
 obtain ⟨p, hp⟩ : ∃ p, p = plPtr vb P r := ⟨_, rfl⟩
 rw [← hp]
 cases p with
 | none =>
  have HP := Lib.hid hp
  clear h hW0 hrb hB0 h0 hz hend hp
  go_enter Tryz.func13, Tryz.ntmps13
  go_upto_region 1 with (first
   | (refine wpl_allocS (s := tlyS) rfl rfl rfl ?_)
   | fail)
  rw [← HW0.out.1, ← HW0.out.2]
  go_wp2_with (first
   | (go_at_call 47; refine (voting_pollR H0.out _).mono ?_; rw [← HP.out]; rintro e w1 ⟨rfl, hw⟩; rw [hw]; clear hw w1)
   | (refine wpl_storeS (s := tlyS) (t := tlyS.zero) (b := rb) _ _ rfl rfl rfl rfl rfl HZ.out (zeroS tlyS) ?_)
   | fail)
  exact bodyPost_ret (v := tlyS.v tlyS.zero) (results_S1 (s := tlyS) Tryz.results13 rfl (HE.out tlyS.zero).1) rfl ⟨rfl, (HE.out tlyS.zero).2⟩
 | some a =>
  have hc : (0 ≤ r ∧ r < 12) ∧ a = ⟨vb, r.toNat * 6, none⟩ := by
   unfold plPtr at hp
   split at hp
   · rename_i q; injection hp with hp; exact ⟨q.1, hp⟩
   · cases hp
  obtain ⟨hr, rfl⟩ := hc
  obtain ⟨k, rfl⟩ := Int.eq_ofNat_of_zero_le hr.1
  have hk : k < 12 := by omega
  have htl := h0.tally hk
  obtain ⟨t, ht⟩ : ∃ t, t = (P k).t := ⟨_, rfl⟩
  have e1 : (if (some (⟨vb, (Int.ofNat k).toNat * 6, none⟩ : Addr)).isSome then (P (Int.ofNat k).toNat).t else tlyS.zero) = t := by rw [ht]; rfl
  have e2 : (Int.ofNat k).toNat = k := rfl
  rw [← ht] at htl
  have HT := Lib.hid htl
  have HP := Lib.hid hp
  simp only [Option.isSome_some, if_true, Int.toNat_natCast] at HP ⊢
  rw [← ht]
  clear h hW0 hrb hB0 h0 hz hend hp htl e1 e2 ht
  go_enter Tryz.func13, Tryz.ntmps13
  go_upto_region 1 with (first
   | (refine wpl_allocS (s := tlyS) rfl rfl rfl ?_)
   | fail)
  rw [← HW0.out.1, ← HW0.out.2]
  go_wp2_with (first
   | (go_at_call 47; refine (voting_pollR H0.out _).mono ?_; rw [← HP.out]; rintro e w1 ⟨rfl, hw⟩; rw [hw]; clear hw w1)
   | (refine wpl_loadS (s := tlyS) (t := t) (b := vb) (k := k * 6 + 2) _ rfl rfl rfl rfl HT.out ?_)
   | (refine wpl_storeS (s := tlyS) (t := t) (b := rb) _ _ rfl rfl rfl rfl rfl HZ.out (zeroS tlyS) ?_)
   | fail)
  exact bodyPost_ret (v := tlyS.v t) (results_S1 (s := tlyS) Tryz.results13 rfl (HE.out t).1) rfl ⟨rfl, (HE.out t).2⟩
end
end Go.Proofs.YtbpemdihoabbcaaGreat
