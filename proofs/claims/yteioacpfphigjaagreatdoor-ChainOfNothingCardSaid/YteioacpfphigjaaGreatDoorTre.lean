/-
  Calls as trees: what they read as in memory; their bytes.
-/
import Derived.Test.YteioacpfphigjaaGreatDoorMgj
import Derived.Deep.MidRow
namespace Go.Proofs.YteioacpfphigjaaGreatDoor
open Go.RowKit
set_option linter.unusedVariables false
set_option linter.unusedSimpArgs false

/-- A call. -/
inductive Cl where
  | mk (k t n : Int) (kids : List Cl)
def Cl.k : Cl → Int | .mk k _ _ _ => k
def Cl.t : Cl → Int | .mk _ t _ _ => t
def Cl.n : Cl → Int | .mk _ _ n _ => n
def Cl.kids : Cl → List Cl | .mk _ _ _ l => l
/-- What a call reads as, whose calls lie no deeper than so. -/
def RdC (w : World) : Nat → Value → Cl → Prop
  | 0, _, _ => False
  | d + 1, v, c => ∃ ao cap, v = .agg #[.int .i64 c.k, .int .i64 c.t, .int .i64 c.n, .slice ao c.kids.length cap] ∧
      ∀ i (hi : i < c.kids.length), ∃ b off vs, ao = some ⟨b, off, none⟩ ∧ b < w.heap.size ∧ w.rangeAt b (off + i * 4) vs ∧ RdC w d (.agg vs.toArray) c.kids[i]
/-- The calls of a row. -/
def RdCs (w : World) (d : Nat) (ao : Option Addr) (l : List Cl) : Prop := ∀ i (hi : i < l.length), ∃ b off vs, ao = some ⟨b, off, none⟩ ∧ b < w.heap.size ∧ w.rangeAt b (off + i * 4) vs ∧ RdC w d (.agg vs.toArray) l[i]
theorem rangeAt_keep {w w' : World} {b o : Nat} {cs : List Value} (h : w.rangeAt b o cs) (hk : w'.heap[b]? = w.heap[b]?) : w'.rangeAt b o cs := fun j u hj => (World.cell?_of_block (a := ⟨b, o + j, none⟩) hk).trans (h j u hj)
theorem RdC.below {w w' : World} (hb : Below w.heap.size w w') : ∀ {d : Nat} {v : Value} {c : Cl}, RdC w d v c → RdC w' d v c
  | 0, _, _, h => h.elim
  | d + 1, v, c, ⟨ao, cap, e, h⟩ => ⟨ao, cap, e, fun i hi => by
    obtain ⟨b, off, vs, e1, e2, e3, e4⟩ := h i hi
    exact ⟨b, off, vs, e1, Nat.lt_of_lt_of_le e2 hb.size, rangeAt_keep e3 (hb.block b e2), RdC.below hb e4⟩⟩
theorem RdCs.below {w w' : World} {d : Nat} {ao : Option Addr} {l : List Cl} (h : RdCs w d ao l) (hb : Below w.heap.size w w') : RdCs w' d ao l := fun i hi => by
  obtain ⟨b, off, vs, e1, e2, e3, e4⟩ := h i hi
  exact ⟨b, off, vs, e1, Nat.lt_of_lt_of_le e2 hb.size, rangeAt_keep e3 (hb.block b e2), RdC.below hb e4⟩
theorem RdC.open {w : World} {d : Nat} {v : Value} {c : Cl} (h : RdC w d v c) : ∃ d' ao cap, d = d' + 1 ∧ v = .agg #[.int .i64 c.k, .int .i64 c.t, .int .i64 c.n, .slice ao c.kids.length cap] ∧ RdCs w d' ao c.kids := by
  cases d with
  | zero => exact h.elim
  | succ d => obtain ⟨ao, cap, e, h⟩ := h; exact ⟨d, ao, cap, rfl, e, h⟩
/-- One that lies in a row, as its four cells. -/
theorem RdC.cells {w : World} {d : Nat} {vs : List Value} {c : Cl} (h : RdC w d (.agg vs.toArray) c) : ∃ ao cap, vs = [.int .i64 c.k, .int .i64 c.t, .int .i64 c.n, .slice ao c.kids.length cap] := by
  obtain ⟨d', ao, cap, -, e, -⟩ := h.open
  refine ⟨ao, cap, ?_⟩
  injection e with e
  simpa using congrArg Array.toList e
mutual
/-- A call's bytes. -/
def layT : Cl → List Nat
  | .mk k t n kids => numsL [k, t, n, kids.length] ++ laysT kids
def laysT : List Cl → List Nat
  | [] => []
  | c :: cs => rowL (layT c) ++ laysT cs
end
theorem laysT_rows : ∀ l : List Cl, laysT l = rowsL (l.map layT)
  | [] => by simp [laysT, rowsL]
  | c :: l => by rw [laysT, List.map_cons, rowsL, laysT_rows l]
theorem layT_eq (c : Cl) : layT c = numsL [c.k, c.t, c.n, c.kids.length] ++ laysT c.kids := by
  cases c; simp [layT, Cl.k, Cl.t, Cl.n, Cl.kids]
theorem laysT_snoc (l : List Cl) (c : Cl) : laysT (l ++ [c]) = laysT l ++ rowL (layT c) := by
  rw [laysT_rows, laysT_rows, List.map_append, List.map_cons, List.map_nil, rowsL_snoc]
theorem laysT_take (l : List Cl) {k : Nat} (h : k < l.length) : laysT (l.take (k + 1)) = laysT (l.take k) ++ rowL (layT l[k]) := by
  rw [List.take_succ_eq_append_getElem h, laysT_snoc]
theorem laysT_length (l : List Cl) (k : Nat) : (laysT (l.take k)).length ≤ (laysT l).length := by
  have e : laysT l = laysT (l.take k) ++ laysT (l.drop k) := by
    rw [laysT_rows, laysT_rows, laysT_rows]
    have : ∀ a b : List (List Nat), rowsL (a ++ b) = rowsL a ++ rowsL b := fun a b => by induction a with
      | nil => simp [rowsL]
      | cons x a ih => simp [rowsL, ih]
    rw [← this, ← List.map_append, List.take_append_drop]
  rw [e, List.length_append]; omega
theorem layT_kid {l : List Cl} {k : Nat} (h : k < l.length) : (layT l[k]).length ≤ (laysT l).length := by
  have h1 := laysT_length l (k + 1)
  rw [laysT_take l h, List.length_append] at h1
  unfold rowL at h1
  rw [List.length_append] at h1
  omega
theorem kids_len (l : List Cl) : l.length ≤ (laysT l).length := by
  induction l with
  | nil => simp
  | cons c l ih =>
    rw [laysT, List.length_append, List.length_cons]
    have : 1 ≤ (rowL (layT c)).length := by
      unfold rowL
      rw [List.length_append, numL_size]
      have := (sizeN_le (layT c).length).1
      omega
    omega
end Go.Proofs.YteioacpfphigjaaGreatDoor
