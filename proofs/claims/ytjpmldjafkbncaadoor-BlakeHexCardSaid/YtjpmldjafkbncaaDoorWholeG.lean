/-
  A row of cells loaded whole, where a guard stands before the load. Over any program.
-/
import Derived.Test.YtjpmldjafkbncaaDoorWhole
import Derived.BigFrame
namespace Go.Proofs.YtjpmldjafkbncaaDoor
open Go.RowKit
set_option linter.unusedVariables false
set_option linter.unusedSimpArgs false

theorem wpl_load_g {P : Program} {ops : Array Oper} {rest : List Oper} {o : Oper} {a : Act} {Q : Exit → Act → World → Prop} {w : World} (b : Nat) (ty t : TypeId) (x : Operand) (cs : Array Value) (fr : Nat × Nat) (d : TypeDesc) (hgd : Region.wanted o (yielded ops a.tmps) = true) (ho : o.op = .load ty x) (hx : a.eval x = .pointer (some ⟨b, 0, none⟩)) (hh : w.heap[b]? = some (.cells cs t fr)) (hu : P.underlying ty = some d)
    (hd : (match d with | .struct _ | .array _ _ => true | _ => false) = true) (hi : (P.info? ty).map (·.size) = some cs.size) (h : wpList P ops Q rest (a.put o.dst (.agg cs)) w) : wpList P ops Q (o :: rest) a w := by
  refine BigFrame.wpList_want hgd fun K hK => ?_
  unfold Oper.wp execOp
  simp only [ho, hx, Sem.run_bind, Sem.run_pure, run_loadAt_row b ty t cs fr d hh hu hd hi, Result.andThen_ok]
  exact hK _ _ h
end Go.Proofs.YtjpmldjafkbncaaDoor
