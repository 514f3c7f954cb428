/- A part. -/
import Derived.Test.YtbpemdihoabbcaaGreatBst
import Derived.Test.YtbpemdihoabbcaaGreatCv0
import Derived.Test.YtbpemdihoabbcaaGreatUC
namespace Go.Proofs.YtbpemdihoabbcaaGreat
set_option linter.unusedVariables false
set_option linter.unusedSimpArgs false
set_option maxRecDepth 100000
set_option maxHeartbeats 8000000
open Go.RowKit Go.Maps Go.Shelf
section
variable {d : Bp} {now : Int} {s : Sx} {F : FP} {w w' : World}
structure CInv (s : Sx) : Prop where
 t : TInv s.S
 g : GInv s.S
theorem CInv.step (h : CInv s) (hs : s.Srt) (ho : s.Ok) (now : Int) (z : Ac) : CInv (stepX now s z) := by
 have ht := h.t
 have hg := h.g
 unfold stepX
 split
 · exact ⟨ht.open hs.v ho.inv _ _, by unfold openS; split <;> exact hg⟩
 split
 · exact ⟨ht.close _ _ _, by unfold closeS; split <;> exact hg⟩
 split
 · exact ⟨ht.vote hs.v _ _ _ _, by unfold voteS; split <;> exact hg⟩
 split
 · refine ⟨ht.unvote hs.v _ _ _, ?_⟩
   unfold unvoteS
   split
   · split
     · exact hg
     · split <;> exact hg
   · exact hg
 split
 · exact ⟨ht.del hs.v hs.g ho.inv _ _ _ _ _ _, hg.del hs.g hs.d _ _ _ _ _ _⟩
 split
 · exact ⟨ht.und hs.v hs.g hs.d ho.inv _ _ _, hg.und hs.g hs.d ho.inv _ _ _⟩
 split
 · exact ⟨by unfold unlS; split <;> exact ht, by unfold unlS; split <;> exact hg⟩
 split
 · exact h
 · exact ⟨ht, hg⟩
theorem CInv.zero (l : List Int) : CInv (s11 l) := by
 refine ⟨fun k hk hst i => ?_, fun a t ha ht => ?_⟩
 · have : (0 : Int) = 1 := hst
   omega
 · have e : ∀ d : Nat, lentW (s11 l).S a t d = ⟨0, 0⟩ := fun d => rfl
   rw [sumF_congr (g := fun _ => 0) 10 (fun j _ => by rw [e]), sumF_congr (f := fun d => (lentW (s11 l).S a t d).c) (g := fun _ => 0) 10 (fun j _ => by rw [e]), sumF_zero, show wrap64 0 = 0 by unfold wrap64; omega]
   rfl
end
end Go.Proofs.YtbpemdihoabbcaaGreat
