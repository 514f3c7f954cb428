/-
  A range over a function, left by break: one way on behind it. Over any program.
-/
import Derived.Test.YtbpgiahbnijidaaIterA
namespace Go.Proofs.Ytbpgiahbnijidaa
open Go.RowKit
set_option linter.unusedVariables false
set_option linter.unusedSimpArgs false

section
variable {P : Program} {α : Type}
theorem range_outerA1 {n : Nat} {g : Operand} {ps : Array Tmp} {assign body : Code} {id : Nat} {Q0 : Exit → Act → World → Prop} {a : Act} {w : World} {gf : Nat} {lb : Array Value} (hg : a.eval g = .func (.func gf) #[] lb) (eg : ∀ args w, (callFunc gf args).run P w = .ok (.enter gf args) w)
    {encs : α → Array Value} {xs : List α} {G : FP} {w0 : World} (hit : IterF P n gf lb encs xs G w0) (hg0 : Grow w0 w) (hG : ∀ k, G k → k < w0.heap.size ∧ w.heap[k]? = w0.heap[k]?) (hps : ∀ x, (encs x).size = ps.size)
    (Ψ : FP) (hΨ : ∀ k, Ψ k → k < w.heap.size) (I : List α → FP → World → Prop) (Ix : Code → List α → FP → World → Prop) (hI : Stab w.heap.size I) (hIx : ∀ c, Stab w.heap.size (Ix c)) (h0 : I [] (fun _ => False) w) (aOf : α → Nat → Act) (At : α → Nat → World → Prop) (hAt : ∀ x N W W', At x N W → W'.heap[N]? = W.heap[N]? → At x N W')
    (hassign : ∀ (l : Nat) (x : α) (W : World) (K : Act → World → Prop), (∀ W', Below W.heap.size W W' → W.heap.size < W'.heap.size → At x W.heap.size W' → K (aOf x W.heap.size) W') → assign.wpIn (Fence.wide.inRound l) n P (Exit.then K (fun _ _ _ => False)) { tmps := (ps.zip (encs x)).foldl (fun t (p, v) => t.setIfInBounds p v) a.tmps, defers := [] } W)
    (hbody : ∀ (l : Nat) (pre : List α) (x : α) (Φ : FP) (N : Nat) (W : World), (pre ++ [x]) <+: xs → I pre Φ W → w.heap.size < l → (∀ k, Φ k → l + 1 ≤ k ∧ k < N) → (∃ r, W.heap[l]? = some (.loop r)) → l < N → N < W.heap.size → At x N W → body.wpIn (Fence.wide.inRound l) n P (bodyI Ψ Φ I Ix (pre ++ [x]) W) (aOf x N) W)
    (Fin : FP → World → Prop) (hF1 : ∀ Φ W, I xs Φ W → Fin Φ W) (hF2 : ∀ c pre Φ W, pre <+: xs → Ix c pre Φ W → c = .exit id ∧ Fin Φ W)
    (hfin : ∀ (D : Nat) (Φ : FP) (W : World), Fin Φ W → Only Ψ (fun _ => False) w W → w.heap.size ≤ D → ¬ Φ D → W.heap[D]? = some (.deferred (some [])) → Exit.inBlock id Q0 .normal { a with defers := { target := .collected D, args := #[] } :: a.defers } W) :
    (Code.rangeFunc g ps assign body).wpIn Fence.wide (n + 2) P (Exit.inBlock id Q0) a w := by
  refine range_outerA hg eg hit hg0 hG hps Ψ hΨ I Ix hI hIx h0 aOf At hAt hassign hbody (fun D Φ W h => hfin D Φ W (hF1 Φ W h)) ?_
  intro D Φ c pre W hpre hix hon hD hnD hK
  obtain ⟨rfl, hf⟩ := hF2 c pre Φ W hpre hix
  have h := hfin D Φ W hf hon hD hnD hK
  refine wpIn_exit ?_
  unfold Exit.inBlock at h ⊢
  simpa using h
end
end Go.Proofs.Ytbpgiahbnijidaa
