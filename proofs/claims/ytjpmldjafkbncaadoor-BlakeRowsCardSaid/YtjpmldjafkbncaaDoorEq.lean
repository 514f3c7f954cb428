/-
  Two digests compared.
-/
import Derived.Test.YtjpmldjafkbncaaDoorChecked
import Derived.Test.YtjpmldjafkbncaaDoorBlkM
import Derived.Test.YtjpmldjafkbncaaDoorBytes
import Derived.ChangeKeysEq
namespace Go.Proofs.YtjpmldjafkbncaaDoor
open Go.RowKit
set_option linter.unusedVariables false
set_option linter.unusedSimpArgs false

theorem Bs_at (l : List Nat) (i : Nat) (h : i < l.length) : (Bs l).toArray[i]? = some (.int .u8 (gt l i : Nat)) := by
  simp [Bs, gt, h]
theorem eqItems_Bs (w : World) (d : Nat) (a b : List Nat) : ∀ is : List Nat, (∀ i ∈ is, i < a.length ∧ i < b.length) →
    (Op.eqItems (d + 1) 5 1 (Bs a).toArray (Bs b).toArray is).run Tryd.prog w = .ok (is.all fun i => gt a i == gt b i) w
  | [], _ => by simp [Op.eqItems]
  | i :: is, h => by
    obtain ⟨ha, hb⟩ := h i (by simp)
    have he : Tryd.prog.plainKey 5 = true := by kernel_rfl
    have p1 := run_part_plain (P := Tryd.prog) w (e := 5) he (xs := (Bs a).toArray) (Bs_at a i ha)
    have p2 := run_part_plain (P := Tryd.prog) w (e := 5) he (xs := (Bs b).toArray) (Bs_at b i hb)
    simp only [Op.eqItems, Nat.mul_one, Sem.run_bind, p1, p2, Result.andThen_ok, run_equalIn_int w d 5 .u8 .u8 _ _ Tryd.underlying5]
    by_cases e : gt a i = gt b i
    · have e1 : ((gt a i : Int) == (gt b i : Int)) = true := by simp [e]
      have e2 : (gt a i == gt b i) = true := by simp [e]
      rw [e1]
      simp only [List.all_cons, e2, Bool.true_and, Bool.not_true, Bool.false_eq_true, if_false]
      exact eqItems_Bs w d a b is fun j hj => h j (by simp [hj])
    · have e1 : ((gt a i : Int) == (gt b i : Int)) = false := by simp; omega
      have e2 : (gt a i == gt b i) = false := by simpa using e
      rw [e1]
      simp [List.all_cons, e2, Sem.run_pure]
theorem all_range_eq (a b : List Nat) (ha : a.length = 32) (hb : b.length = 32) : ((List.range 32).all fun i => gt a i == gt b i) = decide (a = b) := by
  by_cases e : a = b
  · subst e; simp
  · rw [decide_eq_false e]
    cases h : (List.range 32).all fun i => gt a i == gt b i with
    | false => rfl
    | true =>
      refine absurd (ext_gt (by rw [ha, hb]) fun i hi => ?_) e
      rw [List.all_eq_true] at h
      simpa using h i (by simp; omega)
/-- Two digests are one just where their bytes are. -/
theorem run_eql_hash (w : World) (a b : List Nat) (ha : a.length = 32) (hb : b.length = 32) :
    (binOp .eql 24 (.agg (Bs a).toArray) (.agg (Bs b).toArray)).run Tryd.prog w = .ok (.bool (decide (a = b))) w := by
  rw [run_eql_struct, show (10000 : Nat) = 9998 + 1 + 1 from rfl, run_equalIn_array (i := (Tryd.prog.info? 5).getD default) w (9998 + 1) (e := 5) (n := 32) _ _ Tryd.underlying24 (by kernel_rfl)]
  rw [show Tryd.prog.cellsOf 5 = 1 from by kernel_rfl, eqItems_Bs w 9998 a b _ (by simp; omega), all_range_eq a b ha hb]
  rfl
theorem run_neq_hash (w : World) (a b : List Nat) (ha : a.length = 32) (hb : b.length = 32) :
    (binOp .neq 24 (.agg (Bs a).toArray) (.agg (Bs b).toArray)).run Tryd.prog w = .ok (.bool (!decide (a = b))) w := by
  rw [run_neq_struct, show (10000 : Nat) = 9998 + 1 + 1 from rfl, run_equalIn_array (i := (Tryd.prog.info? 5).getD default) w (9998 + 1) (e := 5) (n := 32) _ _ Tryd.underlying24 (by kernel_rfl)]
  rw [show Tryd.prog.cellsOf 5 = 1 from by kernel_rfl, eqItems_Bs w 9998 a b _ (by simp; omega), all_range_eq a b ha hb]
  rfl
end Go.Proofs.YtjpmldjafkbncaaDoor
