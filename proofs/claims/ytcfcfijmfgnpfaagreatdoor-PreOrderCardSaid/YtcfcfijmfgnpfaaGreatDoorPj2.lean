/-
  A ledger and a Pre begun beside boxes that lie there already.
-/
import Derived.Test.YtcfcfijmfgnpfaaGreatDoorRs7
namespace Go.Proofs.YtcfcfijmfgnpfaaGreatDoor
open Go.RowKit Go.Maps
set_option linter.unusedVariables false
set_option linter.unusedSimpArgs false

theorem P8.beginB {w0 w w' : World} {g gl : Nat} {A : Acc} {M : Cls Int} {bs : List (Nat × List Value)} (hb : Below w0.heap.size w0 w) (hbs : ∀ b ∈ bs, w.rangeAt b.1 0 b.2 ∧ b.1 < w.heap.size ∧ w0.heap.size ≤ b.1) (h : LdAt w.heap.size g gl A M w') (hb' : Below w.heap.size w w') : P8 g w'.heap.size A M [] [] bs w0 (w'.alloc (.cells #[.map none, .map none] 94)) := by
  obtain ⟨FL, h1, h2⟩ := LdX.of h
  have h3 : (ldM g A M).is FL w' := by
    obtain ⟨gl, F, k1, k2, k3, k4, k5, k6, k7⟩ := h1
    exact ⟨gl, F, k1, k2, fun k hk => ⟨Nat.zero_le _, (k3 k hk).2⟩, Nat.zero_le _, k5, k6, k7⟩
  have hs := hb.size
  have hs' := hb'.size
  have hal : Below w'.heap.size w' (w'.alloc (.cells #[.map none, .map none] 94)) := (Below.refl _ w').alloc (Nat.le_refl _) _
  refine ⟨_, Mem.join_new h3 hal (prM_new w') (fun k e => Nat.le_of_eq e.symm), fun k e => e.elim (fun e => Nat.le_trans hs (h2 k e)) (fun e => by omega), (hb.trans (hb'.mono hs)).trans (hal.mono (by omega)), fun b hm => ?_⟩
  obtain ⟨k1, k2, k3⟩ := hbs b hm
  have hb2 := hb'.trans (hal.mono hs')
  exact ⟨rangeAt_block k1 (hb2.block _ k2), fun e => e.elim (fun e => by have := h2 _ e; omega) (fun e => by omega), Nat.lt_of_lt_of_le k2 hb2.size, k3⟩
theorem P8.drew {g pb : Nat} {A : Acc} {M : Cls Int} {P : Pm} {U : Um} {bs : List (Nat × List Value)} {w0 w : World} (h : P8 g pb A M P U bs w0 w) : P8 g pb A M P U bs w0 w.drew := h.below (Below.refl _ w).drew
/-- What is wanted, as numbers. -/
theorem P8.srtU {g pb : Nat} {A : Acc} {M : Cls Int} {P : Pm} {U : Um} {bs : List (Nat × List Value)} {w0 w : World} (h : P8 g pb A M P U bs w0 w) : SrtD U := h.srt.2
theorem len_want (U : Um) (h : SrtD U) (d : Dg) : (wantU U d).length ≤ U.length + 1 := by
  unfold wantU; rw [h.length_put]; split <;> omega
theorem len_unwant (U : Um) (h : SrtD U) (d : Dg) : (unwantU U d).length ≤ U.length + 1 := by
  unfold unwantU
  split
  · omega
  · split
    · have := h.length_del d; omega
    · rw [h.length_put]; split <;> omega
end Go.Proofs.YtcfcfijmfgnpfaaGreatDoor
