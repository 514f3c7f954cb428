/-
  Rows of structs: owned, read, appended to; one loaded, laid, stored. Over any program, for any kind of struct.
-/
import Derived.WalkKit
import Derived.Lib.Hide
import Derived.Below
import Derived.OwnWalkIn
import Derived.Maps.OwnIn
import Derived.Maps.AppendAt
import Derived.Deep.MidRow
import Derived.Deep.WholeRow
import Derived.Great.BuildSlice
import Derived.RangeFuncBox
import Derived.Laws.Tables
namespace Go.Proofs.YtfgkaookgfghoaaGreat
open Go.RowKit
set_option linter.unusedVariables false
set_option linter.unusedSimpArgs false

/-- A kind of struct: its type, its rows' type, its cells. -/
structure RowTy (P : Program) (α : Type) where
  T : TypeId
  S : TypeId
  k : Nat
  f : α → List Value
  len : ∀ x, (f x).length = k
  one : ∀ x, ∀ u ∈ f x, u.oneCell' = true
  pos : 0 < k
  small : k ≤ 1000
  slice : P.underlying S = some (.slice T)
  info : ∃ i0 z b, P.info? T = some i0 ∧ i0.zero = some (.agg z) ∧ i0.size = k ∧ z.size = k ∧ i0.bytes = b ∧ b ≤ 8000
  row : ∃ d, P.underlying T = some d ∧ d.isRow = true

section
variable {P : Program} {α : Type} (r : RowTy P α)
def RowTy.all (xs : List α) : List Value := xs.flatMap r.f
theorem RowTy.all_nil : r.all [] = [] := rfl
theorem RowTy.all_one (x : α) : r.all [x] = r.f x := by simp [RowTy.all]
theorem RowTy.all_cons (x : α) (xs : List α) : r.all (x :: xs) = r.f x ++ r.all xs := by simp [RowTy.all]
theorem RowTy.all_append (a b : List α) : r.all (a ++ b) = r.all a ++ r.all b := by simp [RowTy.all]
theorem RowTy.all_len : ∀ xs : List α, (r.all xs).length = xs.length * r.k
  | [] => by simp [RowTy.all]
  | x :: xs => by rw [r.all_cons, List.length_append, r.len, RowTy.all_len xs, List.length_cons, Nat.add_mul, Nat.one_mul, Nat.add_comm]
theorem RowTy.all_ones (xs : List α) : ∀ u ∈ r.all xs, u.oneCell' = true := by
  intro u hu
  obtain ⟨t, -, h⟩ := List.mem_flatMap.1 hu
  exact r.one t u h
theorem RowTy.all_drop (xs : List α) (j : Nat) : (r.all xs).drop (j * r.k) = r.all (xs.drop j) := by
  by_cases h : j ≤ xs.length
  · have e : r.all xs = r.all (xs.take j) ++ r.all (xs.drop j) := by rw [← r.all_append, List.take_append_drop]
    have hl : (r.all (xs.take j)).length = j * r.k := by rw [r.all_len, List.length_take, Nat.min_eq_left h]
    rw [e, ← hl, List.drop_left]
  · have h1 : xs.length * r.k ≤ j * r.k := Nat.mul_le_mul_right _ (by omega)
    rw [List.drop_of_length_le (by rw [r.all_len]; exact h1), List.drop_of_length_le (by omega)]; rfl
theorem RowTy.all_at {xs : List α} {i : Nat} (hi : i < xs.length) {j : Nat} (hj : j < r.k) : (r.all xs)[i * r.k + j]? = (r.f xs[i])[j]? := by
  have h1 : (r.all xs)[i * r.k + j]? = ((r.all xs).drop (i * r.k))[j]? := by rw [List.getElem?_drop]
  rw [h1, r.all_drop, List.drop_eq_getElem_cons hi, r.all_cons, List.getElem?_append_left (by rw [r.len]; exact hj)]
theorem RowTy.sizeT : (P.info? r.T).map (·.size) = some r.k := by
  obtain ⟨i0, z, b, h1, h2, h3, _⟩ := r.info
  rw [h1]; simp [h3]

/-- Structs that the call owns. -/
def OwnR (B : Nat) (v : Value) (xs : List α) (w : World) : Prop := w.ownsRow B r.T r.k v xs.length (r.all xs)
/-- Structs that are only read. -/
def RdR (w : World) (v : Value) (xs : List α) : Prop :=
  (v = .slice none 0 0 ∧ xs = []) ∨ ∃ b off cap, v = .slice (some ⟨b, off, none⟩) xs.length cap ∧ xs.length ≤ cap ∧ b < w.heap.size ∧ w.rangeAt b off (r.all xs)
variable {r} {w w' : World} {v : Value} {xs : List α} {B : Nat}
theorem RdR.lenOf (h : RdR r w v xs) : ∃ ao cap, v = .slice ao xs.length cap := by
  rcases h with ⟨rfl, rfl⟩ | ⟨b, off, cap, rfl, -⟩
  · exact ⟨none, 0, rfl⟩
  · exact ⟨_, cap, rfl⟩
theorem rangeAt_block {b o : Nat} {cs : List Value} (h : w.rangeAt b o cs) (hk : w'.heap[b]? = w.heap[b]?) : w'.rangeAt b o cs := fun j u hj =>
  (World.cell?_of_block (a := ⟨b, o + j, none⟩) hk).trans (h j u hj)
theorem RdR.keep (h : RdR r w v xs) (hs : w.heap.size ≤ w'.heap.size) (hk : ∀ k, v.ownBlock = some k → w'.heap[k]? = w.heap[k]?) : RdR r w' v xs := by
  rcases h with h | ⟨b, off, cap, rfl, hl, hb, hr⟩
  · exact .inl h
  · exact .inr ⟨b, off, cap, rfl, hl, Nat.lt_of_lt_of_le hb hs, rangeAt_block hr (hk b rfl)⟩
theorem RdR.below (h : RdR r w v xs) (hb : Below w.heap.size w w') : RdR r w' v xs := by
  rcases h with h | ⟨b, off, cap, rfl, hl, hlt, hr⟩
  · exact .inl h
  · exact .inr ⟨b, off, cap, rfl, hl, Nat.lt_of_lt_of_le hlt hb.size, rangeAt_block hr (hb.block b hlt)⟩
theorem RdR.at {ao : Option Addr} {n cap : Nat} (h : RdR r w (.slice ao n cap) xs) {i : Nat} (hi : i < xs.length) :
    ∃ b off, ao = some ⟨b, off, none⟩ ∧ w.rangeAt b (off + i * r.k) (r.f xs[i]) ∧ b < w.heap.size := by
  rcases h with ⟨-, h2⟩ | ⟨b, off, c, h1, -, hlt, h3⟩
  · rw [h2] at hi; simp at hi
  · injection h1 with e1
    refine ⟨b, off, e1, fun j u hj => ?_, hlt⟩
    have hjk : j < r.k := by
      have := (List.getElem?_eq_some_iff.1 hj).1
      rwa [r.len] at this
    have := h3 (i * r.k + j) u (by rw [r.all_at hi hjk]; exact hj)
    rwa [show off + (i * r.k + j) = off + i * r.k + j by omega] at this
theorem OwnR.block (h : OwnR r B v xs w) {k : Nat} (hk : v.ownBlock = some k) : B ≤ k ∧ k < w.heap.size := World.ownsRow.lt h k hk
theorem OwnR.reads (h : OwnR r B v xs w) : RdR r w v xs := by
  have h0 := h
  obtain ⟨h1, h2⟩ := h
  rcases h2 with ⟨rfl, hn⟩ | ⟨g, cap, cur, rfl, hb, hg, hn, hm, hs, ht⟩
  · exact .inl ⟨rfl, List.eq_nil_of_length_eq_zero hn⟩
  · refine .inr ⟨g, 0, cap, rfl, hn, (h0.block rfl).2, fun j u hj => ?_⟩
    have : cur.toList[j]? = some u := by
      rw [← ht] at hj
      have := (List.getElem?_eq_some_iff.1 hj).1
      rw [List.length_take] at this
      rwa [List.getElem?_take_of_lt (by omega)] at hj
    rw [Nat.zero_add, World.cell?, hg]
    simpa using this
theorem OwnR.lenOf (h : OwnR r B v xs w) : ∃ ao cap, v = .slice ao xs.length cap := h.reads.lenOf
theorem OwnR.of {S' : Nat} (h : OwnR r B v xs w) (hS : S' ≤ B) (hk : ∀ k, v.ownBlock = some k → w'.heap[k]? = w.heap[k]?) : OwnR r S' v xs w' := by
  obtain ⟨h1, h2⟩ := h
  refine ⟨h1, ?_⟩
  rcases h2 with h2 | ⟨g, cap, cur, rfl, hb, hg, hn, hm, hs, ht⟩
  · exact .inl h2
  · exact .inr ⟨g, cap, cur, rfl, by omega, (hk g rfl).trans hg, hn, hm, hs, ht⟩
theorem OwnR.nil (w : World) (B : Nat) : OwnR r B (.slice none 0 0) [] w := World.ownsRow_nil w B _ r.k
/-- One more, appended. -/
theorem run_appR {ub : Nat} {y : α} (hown : OwnR r B v xs w) (hr : w.rangeAt ub 0 (r.f y)) (hlen : xs.length ≤ 1000000) (hB : B ≤ w.heap.size) (ty : TypeId) :
    ∃ v' w', (Builtin.append_ #[r.S, r.S] ty #[v, .slice (some ⟨ub, 0, none⟩) 1 1]).run P w = .ok v' w' ∧ OwnR r B v' (xs ++ [y]) w' ∧ w.grownBy w' v.ownBlock ∧ (v'.ownBlock = v.ownBlock ∨ v'.ownBlock = some w.heap.size) ∧ v' ≠ .slice none 0 0 := by
  obtain ⟨i0, z, b, h1, h2, h3, h4, h5, h6⟩ := r.info
  have hby : (xs.length + 1) * b ≤ 140737488355328 := Nat.le_trans (Nat.mul_le_mul (Nat.succ_le_succ hlen) h6) (by omega)
  obtain ⟨v', w', e1, e2, e3, e4, e5⟩ := run_append_own_at (P := P) (w := w) B r.S ty r.T i0 (.agg z) r.k b r.slice h1 h2 h3 h5 h4 r.pos v _ _ hown ⟨ub, 0, none⟩ 1 1 (r.f y) (by rw [r.len, Nat.one_mul])
    (fun j u hj => by rw [Addr.add_mid]; exact hr j u hj) (r.one y) (by unfold maxLen; omega) hby hB
  refine ⟨v', w', e1, ?_, e3, e5, fun e => by have := (e4.1 e).2; omega⟩
  unfold OwnR
  rw [r.all_append, r.all_one, List.length_append]
  exact e2
section
variable {F : Fence} {nF : Nat} {ops : Array Oper} {rest : List Oper} {o : Oper} {a : Act} {Q : Exit → Act → World → Prop}
theorem wplIn_appR {s x : Operand} {ub : Nat} {y : α} (hgd : o.guard = none) (ho : o.op = .call { callee := .builtin .append, args := #[s, x], argTypes := #[r.S, r.S] }) (hs : a.eval s = v) (hx : a.eval x = .slice (some ⟨ub, 0, none⟩) 1 1)
    (hown : OwnR r B v xs w) (hr : w.rangeAt ub 0 (r.f y)) (hlen : xs.length ≤ 1000000) (hB : B ≤ w.heap.size)
    (h : ∀ v' w', OwnR r B v' (xs ++ [y]) w' → w.grownBy w' v.ownBlock → (v'.ownBlock = v.ownBlock ∨ v'.ownBlock = some w.heap.size) → v' ≠ .slice none 0 0 → wpListIn F nF P ops Q rest (a.put o.dst v') w') : wpListIn F nF P ops Q (o :: rest) a w := by
  obtain ⟨v', w', hrun, h1, h2, h3, h4⟩ := run_appR hown hr hlen hB o.type
  refine wpListIn_plain hgd fun K hK => ?_
  unfold Oper.wpIn
  refine ⟨by simp [Oper.about, ho, resolve, Target.leads, Sem.run_pure], ?_⟩
  rw [Oper.semAt_plain F _ _ (by rw [ho]; intro c hc'; cases hc')]
  simp [execOp, ho, resolve, invoke, builtin, hs, hx, hrun, Result.andThen]
  exact hK _ _ (h v' w' h1 h2 h3 h4)
theorem wpl_appR {s x : Operand} {ub : Nat} {y : α} (hgd : o.guard = none) (ho : o.op = .call { callee := .builtin .append, args := #[s, x], argTypes := #[r.S, r.S] }) (hs : a.eval s = v) (hx : a.eval x = .slice (some ⟨ub, 0, none⟩) 1 1)
    (hown : OwnR r B v xs w) (hr : w.rangeAt ub 0 (r.f y)) (hlen : xs.length ≤ 1000000) (hB : B ≤ w.heap.size)
    (h : ∀ v' w', OwnR r B v' (xs ++ [y]) w' → w.grownBy w' v.ownBlock → (v'.ownBlock = v.ownBlock ∨ v'.ownBlock = some w.heap.size) → v' ≠ .slice none 0 0 → wpList P ops Q rest (a.put o.dst v') w') : wpList P ops Q (o :: rest) a w := by
  obtain ⟨v', w', hrun, h1, h2, h3, h4⟩ := run_appR hown hr hlen hB o.type
  refine wpList_plain hgd fun K hK => ?_
  unfold Oper.wp
  simp [execOp, ho, resolve, invoke, builtin, hs, hx, hrun, Result.andThen]
  exact hK _ _ (h v' w' h1 h2 h3 h4)
theorem run_loadR {b k : Nat} {t : α} (hr : w.rangeAt b k (r.f t)) : (Instr.loadAt r.T (.pointer (some ⟨b, k, none⟩))).run P w = .ok (.agg (r.f t).toArray) w := by
  obtain ⟨d, h1, h2⟩ := r.row
  exact run_loadAt_mid w b k r.T (r.f t) d hr h1 h2 (by rw [r.len]; exact r.sizeT)
theorem wplIn_loadR {b k : Nat} {t : α} (x : Operand) (hgd : o.guard = none) (ho : o.op = .load r.T x) (hx : a.eval x = .pointer (some ⟨b, k, none⟩)) (hr : w.rangeAt b k (r.f t))
    (h : wpListIn F nF P ops Q rest (a.put o.dst (.agg (r.f t).toArray)) w) : wpListIn F nF P ops Q (o :: rest) a w := by
  refine wpListIn_plain hgd fun K hK => ?_
  unfold Oper.wpIn
  refine ⟨by simp [Oper.about, ho], ?_⟩
  rw [Oper.semAt_plain F _ _ (by rw [ho]; intro c hc'; cases hc')]
  unfold execOp
  simp only [ho, hx, Sem.run_bind, Sem.run_pure, run_loadR hr, Result.andThen_ok]
  exact hK _ _ h
theorem wpl_loadR {b k : Nat} {t : α} (x : Operand) (hgd : o.guard = none) (ho : o.op = .load r.T x) (hx : a.eval x = .pointer (some ⟨b, k, none⟩)) (hr : w.rangeAt b k (r.f t))
    (h : wpList P ops Q rest (a.put o.dst (.agg (r.f t).toArray)) w) : wpList P ops Q (o :: rest) a w := by
  obtain ⟨d, h1, h2⟩ := r.row
  exact wpList_load_mid hgd r.T x ho b k hx (r.f t) d hr h1 h2 (by rw [r.len]; exact r.sizeT) h
/-- A new one's place. -/
theorem wplIn_allocR {ty : TypeId} (ht : ty = r.T) (hgd : o.guard = none) (ho : o.op = .alloc ty)
    (h : ∀ C : Array Value, C.size = r.k → wpListIn F nF P ops Q rest (a.put o.dst (.pointer (some ⟨w.heap.size, 0, none⟩))) (w.alloc (.cells C ty))) : wpListIn F nF P ops Q (o :: rest) a w := by
  subst ht
  obtain ⟨i0, z, b, hi, hz0, h3, h4, _⟩ := r.info
  refine wpListIn_plain hgd fun K hK => ?_
  unfold Oper.wpIn
  refine ⟨by simp [Oper.about, ho], ?_⟩
  rw [Oper.semAt_plain F _ _ (by rw [ho]; intro c hc'; cases hc')]
  have := h z h4
  unfold execOp
  simp [ho, Instr.alloc, zeroValue, typeInfo, hi, hz0, newVar, newRow, Value.cells, go_sem]
  exact hK _ _ this
theorem wplIn_storeR {ty : TypeId} {b : Nat} {t : α} {C : Array Value} (x y : Operand) (ht : ty = r.T) (hgd : o.guard = none) (ho : o.op = .store ty x y) (hx : a.eval x = .pointer (some ⟨b, 0, none⟩)) (hy : a.eval y = .agg (r.f t).toArray) (hh : w.heap[b]? = some (.cells C ty (0, 0))) (hC : C.size = r.k)
    (h : wpListIn F nF P ops Q rest (a.put o.dst undef) (w.setRow b (r.f t).toArray)) : wpListIn F nF P ops Q (o :: rest) a w := by
  subst ht
  refine wpListIn_plain hgd fun K hK => ?_
  unfold Oper.wpIn
  refine ⟨by simp [Oper.about, ho], ?_⟩
  rw [Oper.semAt_plain F _ _ (by rw [ho]; intro c hc'; cases hc')]
  unfold execOp
  have hr : (Instr.storeAt r.T (.pointer (some ⟨b, 0, none⟩)) (.agg (r.f t).toArray)).run P w = .ok () (w.setRow b (r.f t).toArray) := by
    simp only [Instr.storeAt, Instr.sureAddr, Sem.run_bind, Sem.run_pure, Result.andThen_ok, run_storeVar_row w b r.T r.T C (r.f t).toArray hh (by rw [List.size_toArray, r.len]; exact r.sizeT) (by simp [r.len, hC]) (by rw [Array.all_eq_true_iff_forall_mem]; intro u hu; exact r.one t u (by simpa using hu))]
  simp only [ho, hx, hy, Sem.run_bind, Sem.run_pure, hr, Result.andThen_ok]
  exact hK _ _ h
end
theorem rangeAt_whole {b : Nat} {T : TypeId} {cs : List Value} (h : w.heap[b]? = some (.cells cs.toArray T (0, 0))) : w.rangeAt b 0 cs := fun j u hj => by
  rw [Nat.zero_add, World.cell?, h]
  simpa using hj
end
end Go.Proofs.YtfgkaookgfghoaaGreat
