/-
  slices.Values of pointers to numbers.
-/
import Derived.Test.YtbndegkgpoemnaaIter
import Derived.Test.YtbndegkgpoemnaaCod1
import Derived.OwnWalkIn
import Derived.TacticsInMore
import Derived.LoopNIn
import Derived.LoopIn
namespace Go.Proofs.Ytbndegkgpoemnaa
open Go.RowKit
attribute [local go_sem] Oper.semAt_some
set_option linter.unusedVariables false
set_option linter.unusedSimpArgs false

/-- A row of values that is only read: block b, from its beginning. -/
def RowV (w : World) (b : Nat) (vs : List Value) : Prop := ∀ i v, vs[i]? = some v → w.cell? ⟨b, i, none⟩ = some v
theorem RowV.of {w w' : World} {b : Nat} {vs : List Value} (h : RowV w b vs) (hk : w'.heap[b]? = w.heap[b]?) : RowV w' b vs := fun i v hi => (World.cell?_of_block hk).trans (h i v hi)
theorem pre_take {α : Type} {l : List α} {k : Nat} {x : α} (h : l[k]? = some x) : (l.take k ++ [x]) <+: l ∧ l.take (k + 1) = l.take k ++ [x] := by
  obtain ⟨hk, rfl⟩ := List.getElem?_eq_some_iff.1 h
  have e := List.take_succ_eq_append_getElem hk
  exact ⟨by rw [← e]; exact List.take_prefix _ _, e⟩
set_option maxHeartbeats 4000000 in
set_option maxRecDepth 100000 in
theorem values_iter (n bx b cap : Nat) (vs : List Value) (w : World) (hbx : w.cell? ⟨bx, 0, none⟩ = some (.slice (some ⟨b, 0, none⟩) vs.length cap)) (hr : RowV w b vs) (hl : vs.length ≤ 900)
    (G : FP) (hGx : G bx) (hGb : G b) :
    Iter Try.prog n 76 #[.pointer (some ⟨bx, 0, none⟩)] (fun v : Value => #[v]) vs G w := by
  intro lp B Ψ J Jx Φ0 W hgw hG hΨ hΦ hJ hJx hround h0
  have hc1 : W.cell? ⟨bx, 0, none⟩ = some (.slice (some ⟨b, 0, none⟩) vs.length cap) := (World.cell?_of_block (hG bx hGx).2).trans hbx
  have hrW : RowV W b vs := hr.of (hG b hGb).2
  have hbW : b < W.heap.size := Nat.lt_of_lt_of_le (hG b hGb).1 hgw.size
  obtain ⟨hs1, hs2, hs3⟩ := hJ _ _ _ h0
  refine callsIn_of_wp Try.func76 rfl trivial ?_ rfl
  simp only [Try.ntmps76, List.size_toArray, List.length_cons, List.length_nil, Nat.reduceAdd, Nat.reduceSub, Array.replicate_succ, Array.replicate_zero, List.push_toArray, List.append_toArray, List.nil_append, List.cons_append]
  obtain ⟨L, hL⟩ : ∃ L, L = vs.length := ⟨_, rfl⟩
  rw [← hL] at hc1 hl
  have HR := Lib.hid hrW
  have HLL := Lib.hid hL
  have HRD := Lib.hid hround
  have HJ := Lib.hid hJ
  have HP := Lib.hid hΨ
  have HF := Lib.hid hΦ
  have HH0 := Lib.hid h0
  have hbig : (L : Int) ≤ 900 := by omega
  clear hr hrW hround hJ hJx hΨ hΦ hbx h0 hs1 hs2 hs3 hL hG
  gi_wp2_with fail
  gi_loopw [7] (fun r wr => ∃ (k : Nat) (Φ : FP), k ≤ L ∧ r = .int .i64 k ∧ J (vs.take k) Φ wr ∧ Only Ψ Φ0 W wr ∧ (∀ j, Φ j → Φ0 j ∨ W.heap.size ≤ j)) (fun r wr => L - (intOf r).toNat)
  case atStart => exact ⟨0, Φ0, Nat.zero_le _, rfl, HH0.out, Only.refl _ _ _, fun j h => .inl h⟩
  case round =>
    obtain ⟨k, Φ, hk, rfl, hJ2, ho2, hn2⟩ := hrel
    by_cases hlt : k < L
    · have hlt' : (k : Int) < L := by omega
      obtain ⟨x, hx⟩ : ∃ x, vs[k]? = some x := ⟨vs[k]'(by have := HLL.out; omega), List.getElem?_eq_getElem _⟩
      have hcx : wr.cell? ⟨b, k, none⟩ = some x := ((HR.out).of (ho2.block b hbW (fun h => (HP.out b h).2 hGb) (fun h => HF.out b h hGb))) k x hx
      obtain ⟨hpre, htk⟩ := pre_take hx
      obtain ⟨fn, tm, asg, bd, hy, hR⟩ := HRD.out (vs.take k) x Φ wr hpre hJ2
      dsimp only at hy
      have HT := Lib.hid htk
      have HPR := Lib.hid hpre
      have HO2 := Lib.hid ho2
      have HN2 := Lib.hid hn2
      clear htk hpre ho2 hn2 hJ2 hx
      gi_wp2_with fail
      refine hR.mono ?_
      rintro e W' ⟨Φ', hn', ho', (⟨rfl, hJ'⟩ | ⟨rfl, hJ'⟩)⟩
      · have ho3 : Only Ψ Φ0 W W' := HO2.out.trans ho' HN2.out
        have hn3 : ∀ j, Φ' j → Φ0 j ∨ W.heap.size ≤ j := fun j hj => (hn' j hj).elim (HN2.out j) (fun h => .inr (by have := HO2.out.grow.size; omega))
        gi_wp2
        exact ⟨⟨k + 1, Φ', hlt, by go_num, by rw [HT.out]; exact hJ', ho3, hn3⟩, by simp [intOf]; omega⟩
      · have ho3 : Only Ψ Φ0 W W' := HO2.out.trans ho' HN2.out
        have hn3 : ∀ j, Φ' j → Φ0 j ∨ W.heap.size ≤ j := fun j hj => (hn' j hj).elim (HN2.out j) (fun h => .inr (by have := HO2.out.grow.size; omega))
        gi_wp2
        refine bodyPost_ret (results_none rfl _ _ _) rfl ?_
        exact ⟨⟨_, rfl⟩, Φ', hn3, ho3, .inr ⟨_, HPR.out, hJ'⟩⟩
    · have hkn : k = L := by omega
      subst hkn
      have hJe : J vs Φ wr := by have h := hJ2; rw [HLL.out, List.take_length] at h; exact h
      clear hJ2
      gi_wp2
      refine bodyPost_end (results_none rfl _ _ _) rfl ?_
      exact ⟨⟨_, rfl⟩, Φ, hn2, ho2, .inl hJe⟩
end Go.Proofs.Ytbndegkgpoemnaa
