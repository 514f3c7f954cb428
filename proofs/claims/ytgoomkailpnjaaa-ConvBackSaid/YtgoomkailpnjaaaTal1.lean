/-
  Slices of tallies, three cells each.
-/
import Derived.Test.YtgoomkailpnjaaaLaw
import Derived.WalkKit
import Derived.Laws.AppendOwn
namespace Go.Proofs.Ytgoomkailpnjaaa
open Go.RowKit
set_option linter.unusedVariables false

/-- A tally's three numbers. -/
structure Tal where
  a : Int
  n : Int
  s : Int
def Tal.add (x y : Tal) : Tal := ⟨x.a + y.a, x.n + y.n, x.s + y.s⟩
def Tal.zero : Tal := ⟨0, 0, 0⟩
instance : Inhabited Tal := ⟨Tal.zero⟩
def Tal.sum (x : Tal) (l : List Tal) : Tal := l.foldl Tal.add x

theorem Tal.sum_snoc (x : Tal) (l : List Tal) (y : Tal) : Tal.sum x (l ++ [y]) = (Tal.sum x l).add y := by simp [Tal.sum]
theorem Tal.add_right (x y z : Tal) : (x.add y).add z = (x.add z).add y := by
  simp only [Tal.add, Tal.mk.injEq]; omega
theorem Tal.sum_add (x y : Tal) (l : List Tal) : Tal.sum (x.add y) l = (Tal.sum x l).add y := by
  induction l generalizing x with
  | nil => rfl
  | cons z l ih => simp only [Tal.sum, List.foldl_cons] at ih ⊢; rw [Tal.add_right, ih]
theorem Tal.sum_reverse (x : Tal) (l : List Tal) : Tal.sum x l.reverse = Tal.sum x l := by
  induction l generalizing x with
  | nil => rfl
  | cons z l ih => rw [List.reverse_cons, Tal.sum_snoc, ih, ← Tal.sum_add]; rfl

/-- A slice reads as these tallies. -/
def RdT (w : World) (v : Value) (l : List Tal) : Prop :=
  (v = .slice none 0 0 ∧ l = []) ∨ ∃ a cap, v = .slice (some a) l.length cap ∧ l.length ≤ cap ∧
    ∀ i (h : i < l.length), ∃ blk off, a = ⟨blk, off, none⟩ ∧ blk < w.heap.size ∧ w.cell? ⟨blk, off + i * 3, none⟩ = some (.int .i64 l[i].a) ∧ w.cell? ⟨blk, off + i * 3 + 1, none⟩ = some (.int .i64 l[i].n) ∧ w.cell? ⟨blk, off + i * 3 + 2, none⟩ = some (.int .i64 l[i].s)

theorem RdT.below {w w' : World} {v : Value} {l : List Tal} (h : RdT w v l) (hb : Below w.heap.size w w') : RdT w' v l := by
  rcases h with h | ⟨a, cap, hv, hc, hcell⟩
  · exact .inl h
  · refine .inr ⟨a, cap, hv, hc, fun i hi => ?_⟩
    obtain ⟨blk, off, rfl, hl, h1, h2, h3⟩ := hcell i hi
    exact ⟨blk, off, rfl, Nat.lt_of_lt_of_le hl hb.size, (hb.cell (p := ⟨blk, _, none⟩) hl).trans h1, (hb.cell (p := ⟨blk, _, none⟩) hl).trans h2, (hb.cell (p := ⟨blk, _, none⟩) hl).trans h3⟩
theorem RdT.lenOf {w : World} {v : Value} {l : List Tal} (h : RdT w v l) : ∃ ao cap, v = .slice ao l.length cap := by
  rcases h with ⟨rfl, rfl⟩ | ⟨a, cap, rfl, -⟩
  · exact ⟨_, _, rfl⟩
  · exact ⟨_, _, rfl⟩
end Go.Proofs.Ytgoomkailpnjaaa
