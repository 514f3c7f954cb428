/-
  What the row's tied variables tell the walks: the table of beginnings and the table of orders.
-/
import Derived.Test.YtjpmldjafkbncaaDoorRows
import Derived.Test.YtjpmldjafkbncaaDoorBlk8
import Derived.Lib.LaidTab
import Derived.LaidMore
import Derived.MakeChecks
import Derived.OpenShut
import Derived.FnData
namespace Go.Proofs.YtjpmldjafkbncaaDoor
open Go.ChangeShapes Go.WideShapes Go.ChangeAt Go.RowKit
set_option linter.unusedVariables false
set_option linter.unusedSimpArgs false

def laid2 : List (String × DataW Unit) := [("althing/blake.beginning", Rows.laid_althing_blake_beginning), ("althing/blake.orders", Rows.laid_althing_blake_orders)]
theorem gBeg : Tryd.prog.globalNamed "althing/blake.beginning" = some 0 := by kernel_rfl
theorem gOrd : Tryd.prog.globalNamed "althing/blake.orders" = some 1 := by kernel_rfl
theorem tBeg : (Tryd.prog.globals[0]?).map (·.type) = some 38 := by kernel_rfl
theorem tOrd : (Tryd.prog.globals[1]?).map (·.type) = some 59 := by kernel_rfl
theorem begTab : (Rows.laid_althing_blake_beginning : DataW Unit) = Lib.tabData .u64 (beginL.map fun (n : Nat) => (n : Int)) := rfl
theorem ordTab : (Rows.laid_althing_blake_orders : DataW Unit) = .agg ((List.range 10).map fun i => Lib.tabData .u8 ((orderL i).map fun (n : Nat) => (n : Int))) := rfl
theorem order_len (i : Nat) : (orderL i).length = 16 := by
  unfold orderL
  split <;> rfl
theorem glob_of_laid {W : World} (h : laidMetH Tryd.prog laid2 W) : Glob W := by
  rw [MakeChecks.laidMetH_plain _ _ _ (by kernel_rfl)] at h
  obtain ⟨ps, ⟨g0, t0, cs0, f0, p0, q0, hg0, ht0, hv0, hd0, ⟨g1, t1, cs1, f1, p1, q1, hg1, ht1, hv1, hd1, hq1, hps1⟩, hps0⟩, hnd, hfz⟩ := h
  obtain rfl := Option.some.inj (gBeg.symm.trans hg0)
  obtain rfl := Option.some.inj (gOrd.symm.trans hg1)
  obtain rfl := Option.some.inj (tBeg.symm.trans ht0)
  obtain rfl := Option.some.inj (tOrd.symm.trans ht1)
  rw [begTab] at hd0
  have e0 := Lib.cells_of_tab Tryd.underlying38 Tryd.underlying37 (by kernel_rfl) (by kernel_rfl) hd0
  have hcs : cs0 = Ws beginL := by
    obtain ⟨l⟩ := cs0
    simp only at e0
    rw [e0]
    rfl
  subst hcs
  have hsz : (Ws beginL).size = 8 := rfl
  have hm0 : MemPlace.cell 0 0 ∈ ps := by
    rw [hps0, hsz]
    simp [MemPlace.row]
  obtain ⟨⟨c, t, hct⟩, -⟩ := hfz 0 0 hm0
  have hb0 : W.heap[0]? = some (.cells (Ws beginL) t (0, 0)) := by
    have h2 := hv0
    simp only [World.var?, gBeg, Option.bind_some, hct, Option.some.injEq] at h2
    rw [hct, h2]
  obtain ⟨xs, m, rfl, hx, hl, hn, hel⟩ := DataW.trod_array Tryd.underlying59 hd1
  have ce : Tryd.prog.cellsOf 58 = 16 := by kernel_rfl
  rw [ordTab] at hx
  simp only [Prod.mk.injEq, DataW.agg.injEq] at hx
  have hrow : ∀ i, i < 10 → (cs1.toList.drop (i * 16)).take 16 = (orderL i).map fun (n : Nat) => Value.int .u8 (n : Int) := by
    intro i hi
    have h1 := hel i hi
    rw [ce] at h1
    have hxi : xs[i]?.map (·.1) = some (Lib.tabData .u8 ((orderL i).map fun (n : Nat) => (n : Int))) := by
      rw [← List.getElem?_map, ← hx.1]
      simp [hi]
    obtain ⟨x, hx1, hx2⟩ := Option.map_eq_some_iff.1 hxi
    obtain ⟨y, z⟩ := x
    simp only at hx2
    subst hx2
    have := Lib.cells_of_tab Tryd.underlying58 Tryd.underlying5 (by kernel_rfl) (by kernel_rfl) (h1.trans hx1)
    rw [this]
    simp
  have hlt : 1 < W.heap.size := by
    have h2 := hv1
    simp only [World.var?, gOrd, Option.bind_some] at h2
    by_cases hh : 1 < W.heap.size
    · exact hh
    · rw [Array.getElem?_eq_none (by omega)] at h2
      cases h2
  refine ⟨hlt, ⟨t, hb0⟩, fun i hi j hj => ?_⟩
  rw [World.var?_cell gOrd hv1]
  have h3 := congrArg (fun l => l[j]?) (hrow i hi)
  simp only [List.getElem?_take, List.getElem?_drop, if_pos hj] at h3
  rw [← Array.getElem?_toList, h3]
  have := order_len i
  simp [gt, this, hj]
theorem laid_door (os : Os) (args : Array Value) : laidMetH Tryd.prog laid2 ((World.doorLaid Tryd.prog 400 os).forCall (fun _ _ => 0) ⟨#[], args, []⟩).memory :=
  laidMetH_of_parts3 (fuel := 8) (laidMet_of_run' 8 (by kernel_rfl) (by kernel_rfl)) (by kernel_rfl) (by kernel_rfl)
end Go.Proofs.YtjpmldjafkbncaaDoor
