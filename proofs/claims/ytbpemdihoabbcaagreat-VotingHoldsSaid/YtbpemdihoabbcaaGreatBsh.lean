/-
  What is locked, step by step.
-/
import Derived.Test.YtbpemdihoabbcaaGreatBst
import Derived.Test.YtbpemdihoabbcaaGreatHv0
import Derived.Test.YtbpemdihoabbcaaGreatUC
namespace Go.Proofs.YtbpemdihoabbcaaGreat
set_option linter.unusedVariables false
set_option linter.unusedSimpArgs false
set_option maxRecDepth 100000
set_option maxHeartbeats 8000000
open Go.RowKit Go.Maps Go.Shelf
section
variable {d : Bp} {now : Int} {s : Sx} {F : FP} {w w' : World}
theorem HInv.step (h : HInv s) (hs : s.Srt) (ho : s.Ok) (hA : AccOk s.A) (now : Int) (z : Ac) : HInv (stepX now s z) := by
 unfold stepX
 split
 · exact h.open hs ho.inv _ _
 split
 · exact h.close _ _ _
 split
 · exact h.vote hs _ _ _
 split
 · exact h.unvote hs ho.inv _ _ _
 split
 · exact h.del hs _ _ _ _ _
 split
 · exact h.und hs _ _ _
 split
 · exact h.unl hs ho.inv _ _ _
 split
 · exact h
 · exact h.trans hs.m _ _ _ hA
theorem HInv.zero (l : List Int) (hA : AccOk (s11 l).A) : HInv (s11 l) := by
 have hl : ∀ a t, lkv (s11 l).M a t = 0 := fun a t => rfl
 refine ⟨fun a t => ?_, fun a t ha => ?_, fun a k x hx => ?_, fun a t x hx => ?_, fun a t x hx => ?_⟩
 · rw [hl]; exact ⟨by decide, by decide⟩
 · rw [hl]; exact hA.free _
 · have : (none : Option Bal) = some x := hx
   cases this
 · have : (none : Option Dlg) = some x := hx
   cases this
 · have : (none : Option Wgt) = some x := hx
   cases this
end
end Go.Proofs.YtbpemdihoabbcaaGreat
