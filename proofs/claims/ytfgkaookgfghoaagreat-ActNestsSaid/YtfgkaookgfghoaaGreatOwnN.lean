/-
  Rows of numbers: owned, read, appended to.
-/
import Derived.Test.YtfgkaookgfghoaaGreatChecked
import Derived.WalkKit
import Derived.Lib.Hide
import Derived.Below
import Derived.OwnWalkIn
import Derived.Maps.OwnIn
import Derived.Maps.AppendAt
import Derived.RangeFuncBox
import Derived.Deep.MidRow
namespace Go.Proofs.YtfgkaookgfghoaaGreat
open Go.RowKit
attribute [local go_sem] Oper.semAt_some
set_option linter.unusedVariables false
set_option linter.unusedSimpArgs false

def Is (l : List Int) : List Value := l.map fun x => Value.int .i64 x
/-- Numbers that the call owns. -/
def OwnN (B : Nat) (v : Value) (l : List Int) (w : World) : Prop := w.ownsRow B 3 1 v l.length (Is l)
theorem infoI : (Tryz.prog.info? 3).map (fun i => (i.zero, i.size, i.bytes)) = some (some (.int .i64 0), 1, 8) := by kernel_rfl
theorem OwnN.nil (w : World) (B : Nat) : OwnN B (.slice none 0 0) [] w := World.ownsRow_nil w B _ 1
theorem OwnN.lenOf {B : Nat} {v : Value} {l : List Int} {w : World} (h : OwnN B v l w) : ∃ ao cap, v = .slice ao l.length cap := by
  rcases h.2 with ⟨rfl, e⟩ | ⟨g, cap, cur, rfl, -⟩
  · exact ⟨none, 0, by rw [e]⟩
  · exact ⟨_, _, rfl⟩
theorem OwnN.block {B : Nat} {v : Value} {l : List Int} {w : World} (h : OwnN B v l w) {k : Nat} (hk : v.ownBlock = some k) : B ≤ k ∧ k < w.heap.size := World.ownsRow.lt h k hk
theorem OwnN.of {B S' : Nat} {v : Value} {l : List Int} {w w' : World} (h : OwnN B v l w) (hS : S' ≤ B) (hk : ∀ k, v.ownBlock = some k → w'.heap[k]? = w.heap[k]?) : OwnN S' v l w' := by
  obtain ⟨h1, h2⟩ := h
  refine ⟨h1, ?_⟩
  rcases h2 with h2 | ⟨g, cap, cur, rfl, hb, hg, hn, hm, hs, ht⟩
  · exact .inl h2
  · exact .inr ⟨g, cap, cur, rfl, by omega, (hk g rfl).trans hg, hn, hm, hs, ht⟩
section
variable {F : Fence} {nF : Nat} {w : World} {ops : Array Oper} {rest : List Oper} {o : Oper} {a : Act} {Q : Exit → Act → World → Prop}
theorem wplIn_appN_at {s x : Operand} {B ub : Nat} {v : Value} {xs : List Int} {y : Int} (hgd : o.guard = none) (ho : o.op = .call { callee := .builtin .append, args := #[s, x], argTypes := #[24, 24] }) (hs : a.eval s = v) (hx : a.eval x = .slice (some ⟨ub, 0, none⟩) 1 1)
    (hown : OwnN B v xs w) (hc : w.cell? ⟨ub, 0, none⟩ = some (.int .i64 y)) (hlen : xs.length ≤ 100000) (hB : B ≤ w.heap.size)
    (h : ∀ v' w', OwnN B v' (xs ++ [y]) w' → w.grownBy w' v.ownBlock → (v'.ownBlock = v.ownBlock ∨ v'.ownBlock = some w.heap.size) → wpListIn F nF Tryz.prog ops Q rest (a.put o.dst v') w') : wpListIn F nF Tryz.prog ops Q (o :: rest) a w := by
  obtain ⟨i0, hi, hz⟩ := Option.map_eq_some_iff.1 infoI
  simp only [Prod.mk.injEq] at hz
  obtain ⟨hz0, hz1, hz2⟩ := hz
  refine wpListIn_append_own_at _ hgd s x _ ho B 3 i0 (.int .i64 0) 1 8 Tryz.underlying24 hi hz0 hz1 hz2 rfl (by decide) v _ _ hs hown ⟨ub, 0, none⟩ 1 1 [.int .i64 y] hx (by simp)
    (fun j u hj => by
      cases j with
      | zero => simp only [List.getElem?_cons_zero, Option.some.injEq] at hj; subst hj; rw [Addr.add_mid]; exact hc
      | succ j => simp at hj) (by simp [Value.oneCell']) (by unfold maxLen; omega) (by omega) hB ?_
  intro v' w' h1 h2 _ h4
  refine h v' w' ?_ h2 h4
  unfold OwnN
  rw [List.length_append]
  simpa [Is] using h1
end
/-- Numbers that are only read. -/
def RdN (w : World) (v : Value) (l : List Int) : Prop := ∃ ao cap, v = .slice ao l.length cap ∧ ∀ i (hi : i < l.length), ∃ b off, ao = some ⟨b, off, none⟩ ∧ w.cell? ⟨b, off + i, none⟩ = some (.int .i64 l[i]) ∧ b < w.heap.size
theorem RdN.below {w w' : World} {v : Value} {l : List Int} (h : RdN w v l) (hb : Below w.heap.size w w') : RdN w' v l := by
  obtain ⟨ao, cap, e, h2⟩ := h
  refine ⟨ao, cap, e, fun i hi => ?_⟩
  obtain ⟨b, off, e1, e2, e3⟩ := h2 i hi
  exact ⟨b, off, e1, (World.cell?_of_block (a := ⟨b, off + i, none⟩) (hb.block b e3)).trans e2, Nat.lt_of_lt_of_le e3 hb.size⟩
theorem OwnN.reads {B : Nat} {v : Value} {l : List Int} {w : World} (h : OwnN B v l w) : RdN w v l := by
  have h0 := h
  obtain ⟨hl, h2⟩ := h
  rcases h2 with ⟨rfl, e⟩ | ⟨g, cap, cur, rfl, _, hg, _, _, hs, ht⟩
  · exact ⟨none, 0, by rw [e], fun i hi => by omega⟩
  · refine ⟨some ⟨g, 0, none⟩, cap, rfl, fun i hi => ⟨g, 0, rfl, ?_, (h0.block rfl).2⟩⟩
    rw [World.cell?, hg]
    have h1 : (Is l)[i]? = some (.int .i64 l[i]) := by simp [Is, hi]
    rw [← ht, List.getElem?_take_of_lt (by omega)] at h1
    simpa using h1
def appI (args : Array Value) : Sem Value := Builtin.append_ #[24, 24] 24 args
theorem append_hide (args : Array Value) : Builtin.append_ #[24, 24] 24 args = appI args := rfl
theorem run_appI {w : World} {B ub : Nat} {v : Value} {xs : List Int} {y : Int} (hown : OwnN B v xs w) (hc : w.cell? ⟨ub, 0, none⟩ = some (.int .i64 y)) (hlen : xs.length ≤ 100000) (hB : B ≤ w.heap.size) :
    ∃ v' w', (appI #[v, .slice (some ⟨ub, 0, none⟩) 1 1]).run Tryz.prog w = .ok v' w' ∧ OwnN B v' (xs ++ [y]) w' ∧ w.grownBy w' v.ownBlock ∧ (v'.ownBlock = v.ownBlock ∨ v'.ownBlock = some w.heap.size) := by
  obtain ⟨i0, hi, hz⟩ := Option.map_eq_some_iff.1 infoI
  simp only [Prod.mk.injEq] at hz
  obtain ⟨hz0, hz1, hz2⟩ := hz
  obtain ⟨v', w', h1, h2, h3, -, h5⟩ := run_append_own_at (P := Tryz.prog) (w := w) B 24 24 3 i0 (.int .i64 0) 1 8 Tryz.underlying24 hi hz0 hz1 hz2 rfl (by decide) v _ _ hown ⟨ub, 0, none⟩ 1 1 [.int .i64 y] (by simp)
    (fun j u hj => by
      cases j with
      | zero => simp only [List.getElem?_cons_zero, Option.some.injEq] at hj; subst hj; rw [Addr.add_mid]; exact hc
      | succ j => simp at hj) (by simp [Value.oneCell']) (by unfold maxLen; omega) (by omega) hB
  refine ⟨v', w', h1, ?_, h3, h5⟩
  unfold OwnN
  rw [List.length_append]
  simpa [Is] using h2
end Go.Proofs.YtfgkaookgfghoaaGreat
