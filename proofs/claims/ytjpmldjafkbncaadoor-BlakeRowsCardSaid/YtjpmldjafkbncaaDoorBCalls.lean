/-
  The digests' contracts, as the laws call them.
-/
import Derived.Test.YtjpmldjafkbncaaDoorKnw
import Derived.Test.YtjpmldjafkbncaaDoorEq
namespace Go.Proofs.YtjpmldjafkbncaaDoor
open Go.RowKit
set_option linter.unusedVariables false
set_option linter.unusedSimpArgs false

/-- A slice of one row in a new block. -/
theorem rdBB_new {w : World} {v : Value} {l : List Nat} (t : TypeId) (hr : RdB w v l) : RdBB (w.alloc (.cells #[v] t)) (.slice (some ⟨w.heap.size, 0, none⟩) 1 1) [l] :=
  rdBB_one (by rw [World.cell?, heap_alloc_new w]; rfl) (hr.below ((Below.refl _ _).alloc (Nat.le_refl _) _))
theorem below_new (w : World) (o : Obj) : Below w.heap.size w (w.alloc o) := (Below.refl _ _).alloc (Nat.le_refl _) _
theorem keyedL_len (k p : List Nat) : (keyedL k p).length = 32 := outL_len _
/-- What a law's call keeps at hand while the world grows. -/
structure Hand (w0 : World) (w : World) : Prop where
  glob : Glob w
  old : Below w0.heap.size w0 w
theorem Hand.rd {w0 w : World} {v : Value} {l : List Nat} (h : Hand w0 w) (hr : RdB w0 v l) : RdB w v l := hr.below h.old
theorem Hand.rds {w0 w : World} {v : Value} {l : List (List Nat)} (h : Hand w0 w) (hr : RdBB w0 v l) : RdBB w v l := hr.below h.old
theorem Hand.on {w0 w w' : World} (h : Hand w0 w) (hb : Below w.heap.size w w') : Hand w0 w' := ⟨h.glob.below hb h.glob.lt, h.old.trans (hb.mono h.old.size)⟩
theorem Hand.new {w0 w : World} (h : Hand w0 w) (o : Obj) : Hand w0 (w.alloc o) := h.on (below_new w o)

section
variable {w0 w : World} {v u : Value} {key p : List Nat}
theorem call_Keyed (t : TypeId) (h : Hand w0 w) (hk : RdB w v key) (hp : RdB w0 u p) (bk : ∀ x ∈ key, x < 256) (bp : ∀ x ∈ p, x < 256) (lk : key.length ≤ 1000000) (lp : p.length ≤ 1000000) :
    Calls Tryd.prog 9 #[v, .slice (some ⟨w.heap.size, 0, none⟩) 1 1] (w.alloc (.cells #[u] t)) fun e w' => e = .returned (.agg (Bs (keyedL key p)).toArray) ∧ Hand w0 w' := by
  refine (blake_Keyed _ _ key [p] _ (h.new _).glob (hk.below (below_new _ _)) (rdBB_new t (h.rd hp)) bk (by simpa using bp) lk (by simpa using lp) (by simp)).mono fun e w' ⟨he, hb⟩ => ⟨?_, (h.new _).on hb⟩
  simpa using he
theorem call_Sum (t : TypeId) (h : Hand w0 w) (hp : RdB w0 u p) (bp : ∀ x ∈ p, x < 256) (lp : p.length ≤ 1000000) :
    Calls Tryd.prog 11 #[.slice (some ⟨w.heap.size, 0, none⟩) 1 1] (w.alloc (.cells #[u] t)) fun e w' => e = .returned (.agg (Bs (keyedL [] p)).toArray) ∧ Hand w0 w' := by
  refine (blake_Sum _ [p] _ (h.new _).glob (rdBB_new t (h.rd hp)) (by simpa using bp) (by simpa using lp) (by simp)).mono fun e w' ⟨he, hb⟩ => ⟨?_, (h.new _).on hb⟩
  simpa using he
theorem call_SumNil (h : Hand w0 w) :
    Calls Tryd.prog 11 #[.slice none 0 0] w fun e w' => e = .returned (.agg (Bs (keyedL [] [])).toArray) ∧ Hand w0 w' := by
  refine (blake_Sum _ [] _ h.glob (.inl ⟨rfl, rfl⟩) (by simp) (by simp) (by simp)).mono fun e w' ⟨he, hb⟩ => ⟨?_, h.on hb⟩
  simpa using he
theorem call_SumRows {L : List (List Nat)} (h : Hand w0 w) (hp : RdBB w0 u L) (bp : ∀ l ∈ L, ∀ x ∈ l, x < 256) (lp : L.flatten.length ≤ 1000000) (ll : (L.length : Int) ≤ 4611686018427387904) :
    Calls Tryd.prog 11 #[u] w fun e w' => e = .returned (.agg (Bs (keyedL [] L.flatten)).toArray) ∧ Hand w0 w' :=
  (blake_Sum _ L _ h.glob (h.rds hp) bp lp ll).mono fun e w' ⟨he, hb⟩ => ⟨he, h.on hb⟩
theorem call_KeyedRows {L : List (List Nat)} (h : Hand w0 w) (hk : RdB w0 v key) (hp : RdBB w0 u L) (bk : ∀ x ∈ key, x < 256) (bp : ∀ l ∈ L, ∀ x ∈ l, x < 256) (lk : key.length ≤ 1000000) (lp : L.flatten.length ≤ 1000000) (ll : (L.length : Int) ≤ 4611686018427387904) :
    Calls Tryd.prog 9 #[v, u] w fun e w' => e = .returned (.agg (Bs (keyedL key L.flatten)).toArray) ∧ Hand w0 w' :=
  (blake_Keyed _ _ key L _ h.glob (h.rd hk) (h.rds hp) bk bp lk lp ll).mono fun e w' ⟨he, hb⟩ => ⟨he, h.on hb⟩
theorem call_RKeyed (h : Hand w0 w) (hk : RdB w v key) (hp : RdB w0 u p) (bk : ∀ x ∈ key, x < 256) (bp : ∀ x ∈ p, x < 256) (lk : key.length ≤ 1000000) (lp : p.length ≤ 1000000) :
    Calls Tryd.prog 10 #[v, u] w fun e w' => e = .returned (.agg (Bs (keyedL key p)).toArray) ∧ Hand w0 w' :=
  (ref_Keyed _ _ key p _ hk (h.rd hp) bk bp lk lp).mono fun e w' ⟨he, hb⟩ => ⟨he, h.on hb⟩
theorem call_RSum (h : Hand w0 w) (hp : RdB w0 u p) (bp : ∀ x ∈ p, x < 256) (lp : p.length ≤ 1000000) :
    Calls Tryd.prog 12 #[u] w fun e w' => e = .returned (.agg (Bs (keyedL [] p)).toArray) ∧ Hand w0 w' :=
  (ref_Sum _ p _ (h.rd hp) bp lp).mono fun e w' ⟨he, hb⟩ => ⟨he, h.on hb⟩
theorem call_RSumNil (h : Hand w0 w) : Calls Tryd.prog 12 #[.slice none 0 0] w fun e w' => e = .returned (.agg (Bs (keyedL [] [])).toArray) ∧ Hand w0 w' :=
  (ref_Sum _ [] _ (.inl ⟨rfl, rfl⟩) (by simp) (by simp)).mono fun e w' ⟨he, hb⟩ => ⟨he, h.on hb⟩
theorem call_known (h : Hand w0 w) : Calls Tryd.prog 13 #[] w fun e w' => e = .returned (.bool true) ∧ Hand w0 w' :=
  (law_known _ h.glob).mono fun e w' ⟨he, hb⟩ => ⟨he, h.on hb⟩
end
theorem eqK (k q : List Nat) (w : World) : (binOp .eql 24 (.agg (Bs (keyedL k q)).toArray) (.agg (Bs (keyedL k q)).toArray)).run Tryd.prog w = .ok (.bool true) w := by
  rw [run_eql_hash w _ _ (keyedL_len _ _) (keyedL_len _ _)]
  simp
theorem guardH (op : BinOp) (x y : Operand) (xs ys : Array Value) (w : World) : (eqGuard op 24 x y (.agg xs) (.agg ys)).run Tryd.prog w = .ok () w :=
  run_eqGuard_agg w op _ x y xs ys (by kernel_rfl)
end Go.Proofs.YtjpmldjafkbncaaDoor
