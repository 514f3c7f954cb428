/-
  A region that draws its order, in which loads come beside operations that make memory, and stores come last: loads are taken first, what stands behind is walked in each order. Over any program.
-/
import Derived.StillTail
import Derived.OrdersIn
import Derived.WalkKit
import Derived.TacticsIn
import Derived.TacticsInMore
import Derived.KernelRfl
namespace Go.Proofs.Ytlfngdfbimcjhaa
open Go.RowKit
set_option linter.unusedVariables false
section
variable {P : Program} {ops : Array Oper} {md : Region.Mode} {S : World → Prop} {R : Act → World → Prop} {t : Nat}
/-- One operation, that yields a value, or nothing. -/
def stepOp (P : Program) (ops : Array Oper) (i : Nat) (K : Act → World → Prop) (a : Act) (w : World) : Prop :=
  ∃ o, ops[i]? = some o ∧ o.guard = none ∧ (∀ c, o.op ≠ .defer c) ∧ ∃ v w', ((execOp a.eval o).run P w = .ok (.value v) w' ∨ ((execOp a.eval o).run P w = .ok .skip w' ∧ v = undef)) ∧ K (a.put o.dst v) w'
theorem stepOp_mono {i : Nat} {K K' : Act → World → Prop} {a : Act} {w : World} (h : ∀ a w, K a w → K' a w) (hs : stepOp P ops i K a w) : stepOp P ops i K' a w := by
  obtain ⟨o, h1, h2, h3, v, w', h4, h5⟩ := hs
  exact ⟨o, h1, h2, h3, v, w', h4, h _ _ h5⟩
/-- Whatever order is picked; S is shown behind each operation till number t has come up. -/
def AnyT (P : Program) (md : Region.Mode) (ops : Array Oper) (S : World → Prop) (t : Nat) (R : Act → World → Prop) : Nat → Array Bool → Act → World → Prop
  | 0, listed, a, w => Region.ready md ops listed = [] ∧ R a w
  | f + 1, listed, a, w => (Region.ready md ops listed = [] → R a w) ∧
    ∀ i ∈ Region.ready md ops listed, stepOp P ops i (fun a' w' => ((listed.setIfInBounds i true).getD t false = true ∨ S w') ∧ AnyT P md ops S t R f (listed.setIfInBounds i true) a' w') a w
theorem wanted_none {o : Oper} {f : Nat → Option Bool} (h : o.guard = none) : Region.wanted o f = true := by unfold Region.wanted; rw [h]
theorem wpAnyIn_of_T {F : Fence} {n : Nat} {Q : Exit → Act → World → Prop} (hfn : ∀ f, F.fn f) (hQ : ∀ a w, R a w → Q .normal a w) : ∀ (f : Nat) (listed : Array Bool) (a : Act) (w : World), AnyT P md ops S t R f listed a w → wpAnyIn F n P md ops Q f listed a w
  | 0, _, _, _, h => ⟨h.1, hQ _ _ h.2⟩
  | f + 1, listed, a, w, h => by
    refine ⟨fun h0 => hQ _ _ (h.1 h0), fun i hi => ?_⟩
    obtain ⟨o, h1, h2, h3, v, w', h4, h5⟩ := h.2 i hi
    have hn := wpAnyIn_of_T (n := n) hfn hQ f _ _ _ h5.2
    unfold wpOpIn
    simp only [h1, wanted_none h2, if_true]
    unfold Oper.wpIn
    refine ⟨fun g _ => hfn g, ?_⟩
    rw [show o.semAt F.round a.eval = execOp a.eval o from by cases hr : F.round with
      | none => rfl
      | some l => exact Oper.semAt_eq _ _ _ h3]
    rcases h4 with h4 | ⟨h4, rfl⟩
    · rw [h4]; exact hn
    · rw [h4]; exact hn
/-- In every world that meets S the operation yields this. -/
def YieldsS (P : Program) (S : World → Prop) (o : Oper) (v : Value) (a : Act) : Prop := ∀ w, S w → (execOp a.eval o).run P w = .ok (.value v) w
theorem stepOp_put {j : Nat} {oi oj : Oper} {v : Value} (hj : ops[j]? = some oj) (hap : oi.apart ops oj = true) (hsi : ∀ cs b, oi.op ≠ .select cs b) (hsj : ∀ cs b, oj.op ≠ .select cs b)
    {K : Act → World → Prop} {a : Act} {w : World} (hy : YieldsS P S oi v a) (h : stepOp P ops j K (a.put oi.dst v) w) : stepOp P ops j (fun a' w' => YieldsS P S oi v a' ∧ K (a'.put oi.dst v) w') a w := by
  obtain ⟨h1, h2, h3⟩ := Oper.apart_spec hap
  obtain ⟨o, e1, e2, e3, u, w', e4, e5⟩ := h
  have : oj = o := Option.some.inj (hj.symm.trans e1)
  subst this
  rw [execOp_put oj hsj a oi.dst v h1] at e4
  refine ⟨oj, e1, e2, e3, u, w', e4, fun w'' hS => ?_, ?_⟩
  · rw [execOp_put oi hsi a oj.dst u h3]; exact hy w'' hS
  · rw [← Act.put_comm a v u h2]; exact e5
theorem AnyT_first {i : Nat} {oi : Oper} {v : Value} (hi : ops[i]? = some oi) (hg : oi.guard = none) (hd : ∀ c, oi.op ≠ .defer c) (hsel : ∀ (j : Nat) (o : Oper) cs b, ops[j]? = some o → o.op ≠ .select cs b)
    (hti : ∀ listed, HeadInv md ops ops.size listed → listed.getD i false = false → listed.getD t false = false) (hit : i ≠ t) :
    ∀ (fuel : Nat) (listed : Array Bool) (a : Act) (w : World), HeadInv md ops ops.size listed →
      (∀ j oj, ops[j]? = some oj → j ≠ i → listed.getD j true = false → (∀ e ∈ oj.after, Region.binds md e = true → e.on ≠ i) → oi.apart ops oj = true) →
      i ∈ Region.ready md ops listed → YieldsS P S oi v a → S w →
      AnyT P md ops S t R fuel (listed.setIfInBounds i true) (a.put oi.dst v) w → AnyT P md ops S t R (fuel + 1) listed a w := by
  intro fuel
  induction fuel with
  | zero =>
    intro listed a w inv _ hr hy hS H
    refine ⟨fun h => (by rw [h] at hr; cases hr), fun j hj => ?_⟩
    by_cases hji : j = i
    · subst hji; exact ⟨oi, hi, hg, hd, v, w, .inl (hy w hS), .inr hS, H⟩
    · have := ready_mono hj hji
      rw [H.1] at this
      cases this
  | succ fuel ih =>
    intro listed a w inv hfree hr hy hS H
    refine ⟨fun h => (by rw [h] at hr; cases hr), fun j hj => ?_⟩
    by_cases hji : j = i
    · subst hji; exact ⟨oi, hi, hg, hd, v, w, .inl (hy w hS), .inr hS, H⟩
    · have h1 := H.2 j (ready_mono hj hji)
      obtain ⟨hjun, oj, hoj, hall⟩ := mem_ready.1 hj
      have hjl : j < ops.size := (Array.getElem?_eq_some_iff.1 hoj).1
      have hiun := (mem_ready.1 hr).1
      have hnot : ∀ e ∈ oj.after, Region.binds md e = true → e.on ≠ i := fun e he hb heq => by
        have h1 := hall e he hb
        rw [heq, getD_both hiun] at h1
        cases h1
      have inv' := inv.set hj hjl
      have hiun' : (listed.setIfInBounds j true).getD i false = false := by rw [getD_set_ne false hji]; exact getD_both hiun
      have ht' := hti _ inv' hiun'
      have h2 := stepOp_put hoj (hfree j oj hoj hji hjun hnot) (fun cs b => hsel i oi cs b hi) (fun cs b => hsel j oj cs b hoj) hy h1
      have hfree' : ∀ k ok, ops[k]? = some ok → k ≠ i → (listed.setIfInBounds j true).getD k true = false →
          (∀ e ∈ ok.after, Region.binds md e = true → e.on ≠ i) → oi.apart ops ok = true := fun k ok hk hki hun hno => by
        refine hfree k ok hk hki ?_ hno
        by_cases hjk : j = k
        · subst hjk; exact hjun
        · rw [getD_set_ne true hjk] at hun; exact hun
      refine stepOp_mono (fun a' w' h3 => ?_) h2
      have hS' : S w' := by
        refine h3.2.1.resolve_left (fun e => ?_)
        rw [Array.setIfInBounds_comm _ _ (Ne.symm hji), getD_set_ne false hit, ht'] at e
        cases e
      refine ⟨.inr hS', ih (listed.setIfInBounds j true) a' w' inv' hfree' (ready_mono hr (Ne.symm hji)) h3.1 hS' ?_⟩
      rw [Array.setIfInBounds_comm _ _ hji]
      exact h3.2.2
/-- Each on the path waits for the one ahead. -/
def pathB (md : Region.Mode) (ops : Array Oper) : List Nat → Bool
  | i :: j :: l => Region.waitsFor md ops j i && pathB md ops (j :: l)
  | _ => true
theorem path_spec : ∀ (l : List Nat) (i : Nat), pathB md ops (i :: l) = true → ∀ listed, HeadInv md ops ops.size listed → listed.getD i false = false → ∀ t ∈ i :: l, listed.getD t false = false
  | [], i, _, listed, _, h, t, ht => by
    rw [List.mem_singleton] at ht; subst ht; exact h
  | j :: l, i, hp, listed, inv, h, t, ht => by
    unfold pathB at hp
    rw [Bool.and_eq_true] at hp
    rcases List.mem_cons.1 ht with e | e
    · subst e; exact h
    · refine path_spec l j hp.2 listed inv ?_ t e
      cases hl : listed.getD j false with
      | false => rfl
      | true =>
        obtain ⟨oj, hoj, e, he, hb, hon⟩ := Region.waitsFor_spec hp.1
        have := inv.closed j oj hoj hl e he hb
        rw [hon, h] at this; cases this
/-- The listed so far are closed. -/
def closedB (md : Region.Mode) (ops : Array Oper) (listed : Array Bool) : Bool :=
  decide (listed.size = ops.size) && (List.range ops.size).all fun j => !listed.getD j false || (match ops[j]? with | some o => o.after.all (fun e => !Region.binds md e || listed.getD e.on false) | none => true)
theorem closed_spec {listed : Array Bool} (h : closedB md ops listed = true) : HeadInv md ops ops.size listed := by
  unfold closedB at h
  rw [Bool.and_eq_true, decide_eq_true_eq] at h
  refine ⟨h.1, fun j oj hj hl e he hb => ?_, fun t ht ht' => by omega⟩
  have := List.all_eq_true.1 h.2 j (List.mem_range.2 (Array.getElem?_eq_some_iff.1 hj).1)
  rw [hl, hj] at this
  simp only [Bool.not_true, Bool.false_or] at this
  have := Array.all_eq_true_iff_forall_mem.1 this e he
  rw [hb] at this
  simpa using this
theorem AnyT_take {i : Nat} {oi : Oper} {v : Value} {fuel : Nat} {listed : Array Bool} {a : Act} {w : World} (l : List Nat) (hi : ops[i]? = some oi) (hg : oi.guard = none) (hd : ∀ c, oi.op ≠ .defer c)
    (hB : (Region.noSelect ops && Region.free md ops listed i && (Region.ready md ops listed).contains i && pathB md ops (i :: l) && (i :: l).contains t && closedB md ops listed && !(i == t)) = true)
    (hS : S w) (hy : YieldsS P S oi v a) (h : AnyT P md ops S t R fuel (listed.setIfInBounds i true) (a.put oi.dst v) w) : AnyT P md ops S t R (fuel + 1) listed a w := by
  simp only [Bool.and_eq_true, Bool.not_eq_true', beq_eq_false_iff_ne] at hB
  obtain ⟨⟨⟨⟨⟨⟨b1, b2⟩, b3⟩, b4⟩, b5⟩, b6⟩, b7⟩ := hB
  exact AnyT_first hi hg hd (Region.noSelect_spec b1) (fun listed inv hun => path_spec l i b4 listed inv hun t (by simpa using b5)) b7 fuel listed a w (closed_spec b6) (Region.free_spec hi b2) (by simpa using b3) hy hS h
theorem AnyT_all {rs : List Nat} {fuel : Nat} {listed : Array Bool} {a : Act} {w : World} (hr : (decide (Region.ready md ops listed = rs) && !rs.isEmpty) = true)
    (h : ∀ i ∈ rs, stepOp P ops i (fun a' w' => ((listed.setIfInBounds i true).getD t false = true ∨ S w') ∧ AnyT P md ops S t R fuel (listed.setIfInBounds i true) a' w') a w) : AnyT P md ops S t R (fuel + 1) listed a w := by
  simp only [Bool.and_eq_true, decide_eq_true_eq, Bool.not_eq_true', List.isEmpty_eq_false_iff] at hr
  exact ⟨fun h0 => absurd (hr.1 ▸ h0) hr.2, hr.1 ▸ h⟩
theorem AnyT_done {fuel : Nat} {listed : Array Bool} {a : Act} {w : World} (hr : (Region.ready md ops listed).isEmpty = true) (h : R a w) : AnyT P md ops S t R fuel listed a w := by
  rw [List.isEmpty_iff] at hr
  cases fuel with
  | zero => exact ⟨hr, h⟩
  | succ f => exact ⟨fun _ => h, by rw [hr]; simp⟩
/-- One that yields a value. -/
theorem step_val {i : Nat} {o : Oper} {v : Value} {K : Act → World → Prop} {a : Act} {w w' : World} (ho : ops[i]? = some o) (hg : o.guard = none) (hd : ∀ c, o.op ≠ .defer c) (hr : (execOp a.eval o).run P w = .ok (.value v) w') (hK : K (a.put o.dst v) w') : stepOp P ops i K a w :=
  ⟨o, ho, hg, hd, v, w', .inl hr, hK⟩
theorem step_skip {i : Nat} {o : Oper} {K : Act → World → Prop} {a : Act} {w w' : World} (ho : ops[i]? = some o) (hg : o.guard = none) (hd : ∀ c, o.op ≠ .defer c) (hr : (execOp a.eval o).run P w = .ok .skip w') (hK : K (a.put o.dst undef) w') : stepOp P ops i K a w :=
  ⟨o, ho, hg, hd, undef, w', .inr ⟨hr, rfl⟩, hK⟩
/-- The region itself, in a round of a loop. -/
theorem wpIn_region_T {F : Fence} {n id : Nat} {Q : Exit → Act → World → Prop} {K : Act → World → Prop} {a : Act} {w : World} (hfn : ∀ f, F.fn f) (hm : P.follows .mixedOrders = true) (N : Nat) (hN : N = ops.size) (L : Array Bool) (hL : L = Array.replicate ops.size false) (h : AnyT P .any ops S t R N L a w.drew) (hK : ∀ a w, R a w → K a w) : (Code.region id ops true).wpIn F n P (Exit.then K Q) a w :=
  wpIn_region_any hm (wpAnyIn_of_T hfn (fun a w hr => hK a w hr) _ _ _ _ (by subst hN hL; exact h))
end
end Go.Proofs.Ytlfngdfbimcjhaa
