/-
  Ledgers: Mint, Lock.
-/
import Derived.Test.YtfgkaookgfghoaaGreatLd6
namespace Go.Proofs.YtfgkaookgfghoaaGreat
open Go.RowKit Go.Maps Go.Shelf
set_option linter.unusedVariables false
set_option linter.unusedSimpArgs false

def mintE (A : Acc) (a n : Int) : Int := if ¬ isAcc a ∨ ¬ isBal n then 1 else if 1073741824 < sumTo A 10 + n then 10 else 0
def mintA (A : Acc) (a n : Int) : Acc := if mintE A a n = 0 then giveA A a.toNat n else A
def lockM (M : Cls Int) (a i n : Int) : Cls Int := if ¬ isAcc a then M else if n = 0 ∨ ¬ isBal n then cdel M a i else cput M a i n
theorem lockM_len {M : Cls Int} (h : SrtC M) (a i n : Int) : (lockM M a i n).length ≤ M.length + 1 := by
  unfold lockM
  split
  · omega
  · split
    · have := h.length_del a i; omega
    · rw [h.length_put]; split <;> omega
section
variable {N g gl : Nat} {A : Acc} {M : Cls Int} {w : World}
theorem LdAt.relock {M' : Cls Int} {w' : World} (h : LdAt N g gl A M w) (hN : N ≤ w.heap.size) (hl : M'.length ≤ 10000) {F : FP} (hF : ∀ k, F k → N ≤ k ∧ k ≠ g) (ht : GrTo codI 146 gl M' F w w') : LdAt N g gl A M' w' ∧ Below N w w' := by
  obtain ⟨F', h1, h2, h3⟩ := ht
  refine ⟨⟨(h3.block g h.lt (fun hf => (hF g hf).2 rfl) (fun h => h)).trans h.blk, ⟨F', h1, fun k hk => (h2 k hk).elim (hF k) (fun hk => by have := h.lt; omega)⟩, h.lo, h.ok, hl⟩, h3.below hN (fun k hk => (hF k hk).1) (fun k h => h.elim)⟩
theorem LdAt.srt (h : LdAt N g gl A M w) : SrtC M := by obtain ⟨F, h1, _⟩ := h.gr; exact h1.1
end
end Go.Proofs.YtfgkaookgfghoaaGreat
