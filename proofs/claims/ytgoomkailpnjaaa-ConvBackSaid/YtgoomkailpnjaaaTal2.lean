/-
  The document's sum of two tallies.
-/
import Derived.Test.YtgoomkailpnjaaaChecked
import Derived.WalkKit
import Derived.WalkSpells
import Derived.WalkLawsBesides
import Derived.Lib.Hide
import Derived.Below
import Derived.Test.YtgoomkailpnjaaaTal1
namespace Go.Proofs.Ytgoomkailpnjaaa
open Go.RowKit
set_option linter.unusedVariables false

abbrev talV (x : Tal) : Value := .agg #[.int .i64 x.a, .int .i64 x.n, .int .i64 x.s]
/-- No number of it is too great. -/
def Tal.In (x : Tal) : Prop := (-4611686018427387904 ≤ x.a ∧ x.a ≤ 4611686018427387904) ∧ (-4611686018427387904 ≤ x.n ∧ x.n ≤ 4611686018427387904) ∧ (-4611686018427387904 ≤ x.s ∧ x.s ≤ 4611686018427387904)

set_option maxHeartbeats 1000000 in
theorem ref_AddT (x y : Tal) (w : World) (h : (x.add y).In) :
    Calls Try.prog 31 #[talV x, talV y] w fun e w' => e = .returned (talV (x.add y)) ∧ Below w.heap.size w w' := by
  obtain ⟨xa, xn, xs⟩ := x
  obtain ⟨ya, yn, ys⟩ := y
  obtain ⟨⟨a1, a2⟩, ⟨b1, b2⟩, ⟨c1, c2⟩⟩ := h
  simp only [Tal.add] at a1 a2 b1 b2 c1 c2
  simp only [talV, Tal.add]
  go_enter Try.func31, Try.ntmps31
  go_wp2
  refine bodyPost_ret (v := .agg #[.int .i64 (xa + ya), .int .i64 (xn + yn), .int .i64 (xs + ys)]) (by simp [results, Try.results31, go_sem]) rfl ⟨rfl, ?_⟩
  exact (((Below.refl _ w).alloc (Nat.le_refl _) _).alloc (by simp) _).alloc (by simp; omega) _
end Go.Proofs.Ytgoomkailpnjaaa
