/-
  Joined texts.
-/
import Derived.WalkKit
import Derived.Lib.Hide
import Derived.Below
import Derived.OwnWalkIn
import Derived.Maps.OwnIn
import Derived.Maps.AppendAt
import Derived.Deep.MidRow
import Derived.Deep.WholeRow
import Derived.Great.BuildSlice
import Derived.RangeFuncBox
import Derived.Laws.Tables
import Derived.Deep.RegionLaw
import Derived.Laws.OwnMore
import Derived.Laws.Rows
import Derived.Test.YtpkamfbjgdmmoaaGreatChecked
import Derived.WalkSpells
import Derived.WalkLawsBesides
import Derived.Deep.QuietTactic
import Derived.BigQuiet
import Derived.Deep.RegionHeld3
import Derived.IntWalk
import Derived.RangeFuncNested
import Derived.RangeFuncBound
import Derived.RangeFuncCalls
import Derived.RangeFuncLeaves
import Derived.BigRegion
import Derived.RegionTactic
import Derived.Maps.OwnSet
import Derived.Lib.SlKeysI

section
namespace Go.Proofs.YtpkamfbjgdmmoaaGreat
open Go.RowKit
set_option linter.unusedVariables false
set_option linter.unusedSimpArgs false

/-- A kind of struct: its type, its rows' type, its cells. -/
structure RowTy (P : Program) (α : Type) where
  T : TypeId
  S : TypeId
  k : Nat
  f : α → List Value
  len : ∀ x, (f x).length = k
  one : ∀ x, ∀ u ∈ f x, u.oneCell' = true
  pos : 0 < k
  small : k ≤ 1000
  slice : P.underlying S = some (.slice T)
  info : ∃ i0 z b, P.info? T = some i0 ∧ i0.zero = some (.agg z) ∧ i0.size = k ∧ z.size = k ∧ i0.bytes = b ∧ b ≤ 8000
  row : ∃ d, P.underlying T = some d ∧ d.isRow = true

section
variable {P : Program} {α : Type} (r : RowTy P α)
def RowTy.all (xs : List α) : List Value := xs.flatMap r.f
theorem RowTy.all_one (x : α) : r.all [x] = r.f x := by simp [RowTy.all]
theorem RowTy.all_cons (x : α) (xs : List α) : r.all (x :: xs) = r.f x ++ r.all xs := by simp [RowTy.all]
theorem RowTy.all_append (a b : List α) : r.all (a ++ b) = r.all a ++ r.all b := by simp [RowTy.all]
theorem RowTy.all_len : ∀ xs : List α, (r.all xs).length = xs.length * r.k
  | [] => by simp [RowTy.all]
  | x :: xs => by rw [r.all_cons, List.length_append, r.len, RowTy.all_len xs, List.length_cons, Nat.add_mul, Nat.one_mul, Nat.add_comm]
theorem RowTy.all_ones (xs : List α) : ∀ u ∈ r.all xs, u.oneCell' = true := by
  intro u hu
  obtain ⟨t, -, h⟩ := List.mem_flatMap.1 hu
  exact r.one t u h
theorem RowTy.all_drop (xs : List α) (j : Nat) : (r.all xs).drop (j * r.k) = r.all (xs.drop j) := by
  by_cases h : j ≤ xs.length
  · have e : r.all xs = r.all (xs.take j) ++ r.all (xs.drop j) := by rw [← r.all_append, List.take_append_drop]
    have hl : (r.all (xs.take j)).length = j * r.k := by rw [r.all_len, List.length_take, Nat.min_eq_left h]
    rw [e, ← hl, List.drop_left]
  · have h1 : xs.length * r.k ≤ j * r.k := Nat.mul_le_mul_right _ (by omega)
    rw [List.drop_of_length_le (by rw [r.all_len]; exact h1), List.drop_of_length_le (by omega)]; rfl
theorem RowTy.all_at {xs : List α} {i : Nat} (hi : i < xs.length) {j : Nat} (hj : j < r.k) : (r.all xs)[i * r.k + j]? = (r.f xs[i])[j]? := by
  have h1 : (r.all xs)[i * r.k + j]? = ((r.all xs).drop (i * r.k))[j]? := by rw [List.getElem?_drop]
  rw [h1, r.all_drop, List.drop_eq_getElem_cons hi, r.all_cons, List.getElem?_append_left (by rw [r.len]; exact hj)]
theorem RowTy.sizeT : (P.info? r.T).map (·.size) = some r.k := by
  obtain ⟨i0, z, b, h1, h2, h3, _⟩ := r.info
  rw [h1]; simp [h3]

/-- Structs that the call owns. -/
def OwnR (B : Nat) (v : Value) (xs : List α) (w : World) : Prop := w.ownsRow B r.T r.k v xs.length (r.all xs)
/-- Structs that are only read. -/
def RdR (w : World) (v : Value) (xs : List α) : Prop :=
  (v = .slice none 0 0 ∧ xs = []) ∨ ∃ b off cap, v = .slice (some ⟨b, off, none⟩) xs.length cap ∧ xs.length ≤ cap ∧ b < w.heap.size ∧ w.rangeAt b off (r.all xs)
variable {r} {w w' : World} {v : Value} {xs : List α} {B : Nat}
theorem RdR.lenOf (h : RdR r w v xs) : ∃ ao cap, v = .slice ao xs.length cap := by
  rcases h with ⟨rfl, rfl⟩ | ⟨b, off, cap, rfl, -⟩
  · exact ⟨none, 0, rfl⟩
  · exact ⟨_, cap, rfl⟩
theorem rangeAt_block {b o : Nat} {cs : List Value} (h : w.rangeAt b o cs) (hk : w'.heap[b]? = w.heap[b]?) : w'.rangeAt b o cs := fun j u hj =>
  (World.cell?_of_block (a := ⟨b, o + j, none⟩) hk).trans (h j u hj)
theorem RdR.keep (h : RdR r w v xs) (hs : w.heap.size ≤ w'.heap.size) (hk : ∀ k, v.ownBlock = some k → w'.heap[k]? = w.heap[k]?) : RdR r w' v xs := by
  rcases h with h | ⟨b, off, cap, rfl, hl, hb, hr⟩
  · exact .inl h
  · exact .inr ⟨b, off, cap, rfl, hl, Nat.lt_of_lt_of_le hb hs, rangeAt_block hr (hk b rfl)⟩
theorem RdR.below (h : RdR r w v xs) (hb : Below w.heap.size w w') : RdR r w' v xs := by
  rcases h with h | ⟨b, off, cap, rfl, hl, hlt, hr⟩
  · exact .inl h
  · exact .inr ⟨b, off, cap, rfl, hl, Nat.lt_of_lt_of_le hlt hb.size, rangeAt_block hr (hb.block b hlt)⟩
theorem RdR.at {ao : Option Addr} {n cap : Nat} (h : RdR r w (.slice ao n cap) xs) {i : Nat} (hi : i < xs.length) :
    ∃ b off, ao = some ⟨b, off, none⟩ ∧ w.rangeAt b (off + i * r.k) (r.f xs[i]) ∧ b < w.heap.size := by
  rcases h with ⟨-, h2⟩ | ⟨b, off, c, h1, -, hlt, h3⟩
  · rw [h2] at hi; simp at hi
  · injection h1 with e1
    refine ⟨b, off, e1, fun j u hj => ?_, hlt⟩
    have hjk : j < r.k := by
      have := (List.getElem?_eq_some_iff.1 hj).1
      rwa [r.len] at this
    have := h3 (i * r.k + j) u (by rw [r.all_at hi hjk]; exact hj)
    rwa [show off + (i * r.k + j) = off + i * r.k + j by omega] at this
theorem OwnR.block (h : OwnR r B v xs w) {k : Nat} (hk : v.ownBlock = some k) : B ≤ k ∧ k < w.heap.size := World.ownsRow.lt h k hk
theorem OwnR.reads (h : OwnR r B v xs w) : RdR r w v xs := by
  have h0 := h
  obtain ⟨h1, h2⟩ := h
  rcases h2 with ⟨rfl, hn⟩ | ⟨g, cap, cur, rfl, hb, hg, hn, hm, hs, ht⟩
  · exact .inl ⟨rfl, List.eq_nil_of_length_eq_zero hn⟩
  · refine .inr ⟨g, 0, cap, rfl, hn, (h0.block rfl).2, fun j u hj => ?_⟩
    have : cur.toList[j]? = some u := by
      rw [← ht] at hj
      have := (List.getElem?_eq_some_iff.1 hj).1
      rw [List.length_take] at this
      rwa [List.getElem?_take_of_lt (by omega)] at hj
    rw [Nat.zero_add, World.cell?, hg]
    simpa using this
theorem OwnR.lenOf (h : OwnR r B v xs w) : ∃ ao cap, v = .slice ao xs.length cap := h.reads.lenOf
theorem OwnR.of {S' : Nat} (h : OwnR r B v xs w) (hS : S' ≤ B) (hk : ∀ k, v.ownBlock = some k → w'.heap[k]? = w.heap[k]?) : OwnR r S' v xs w' := by
  obtain ⟨h1, h2⟩ := h
  refine ⟨h1, ?_⟩
  rcases h2 with h2 | ⟨g, cap, cur, rfl, hb, hg, hn, hm, hs, ht⟩
  · exact .inl h2
  · exact .inr ⟨g, cap, cur, rfl, by omega, (hk g rfl).trans hg, hn, hm, hs, ht⟩
theorem OwnR.nil (w : World) (B : Nat) : OwnR r B (.slice none 0 0) [] w := World.ownsRow_nil w B _ r.k
/-- One more, appended. -/
theorem run_appR {ub : Nat} {y : α} (hown : OwnR r B v xs w) (hr : w.rangeAt ub 0 (r.f y)) (hlen : xs.length ≤ 1000000) (hB : B ≤ w.heap.size) (ty : TypeId) :
    ∃ v' w', (Builtin.append_ #[r.S, r.S] ty #[v, .slice (some ⟨ub, 0, none⟩) 1 1]).run P w = .ok v' w' ∧ OwnR r B v' (xs ++ [y]) w' ∧ w.grownBy w' v.ownBlock ∧ (v'.ownBlock = v.ownBlock ∨ v'.ownBlock = some w.heap.size) ∧ v' ≠ .slice none 0 0 := by
  obtain ⟨i0, z, b, h1, h2, h3, h4, h5, h6⟩ := r.info
  have hby : (xs.length + 1) * b ≤ 140737488355328 := Nat.le_trans (Nat.mul_le_mul (Nat.succ_le_succ hlen) h6) (by omega)
  obtain ⟨v', w', e1, e2, e3, e4, e5⟩ := run_append_own_at (P := P) (w := w) B r.S ty r.T i0 (.agg z) r.k b r.slice h1 h2 h3 h5 h4 r.pos v _ _ hown ⟨ub, 0, none⟩ 1 1 (r.f y) (by rw [r.len, Nat.one_mul])
    (fun j u hj => by rw [Addr.add_mid]; exact hr j u hj) (r.one y) (by unfold maxLen; omega) hby hB
  refine ⟨v', w', e1, ?_, e3, e5, fun e => by have := (e4.1 e).2; omega⟩
  unfold OwnR
  rw [r.all_append, r.all_one, List.length_append]
  exact e2
section
variable {F : Fence} {nF : Nat} {ops : Array Oper} {rest : List Oper} {o : Oper} {a : Act} {Q : Exit → Act → World → Prop}
theorem wplIn_appR {s x : Operand} {ub : Nat} {y : α} (hgd : o.guard = none) (ho : o.op = .call { callee := .builtin .append, args := #[s, x], argTypes := #[r.S, r.S] }) (hs : a.eval s = v) (hx : a.eval x = .slice (some ⟨ub, 0, none⟩) 1 1)
    (hown : OwnR r B v xs w) (hr : w.rangeAt ub 0 (r.f y)) (hlen : xs.length ≤ 1000000) (hB : B ≤ w.heap.size)
    (h : ∀ v' w', OwnR r B v' (xs ++ [y]) w' → w.grownBy w' v.ownBlock → (v'.ownBlock = v.ownBlock ∨ v'.ownBlock = some w.heap.size) → v' ≠ .slice none 0 0 → wpListIn F nF P ops Q rest (a.put o.dst v') w') : wpListIn F nF P ops Q (o :: rest) a w := by
  obtain ⟨v', w', hrun, h1, h2, h3, h4⟩ := run_appR hown hr hlen hB o.type
  refine wpListIn_plain hgd fun K hK => ?_
  unfold Oper.wpIn
  refine ⟨by simp [Oper.about, ho, resolve, Target.leads, Sem.run_pure], ?_⟩
  rw [Oper.semAt_plain F _ _ (by rw [ho]; intro c hc'; cases hc')]
  simp [execOp, ho, resolve, invoke, builtin, hs, hx, hrun, Result.andThen]
  exact hK _ _ (h v' w' h1 h2 h3 h4)
theorem run_loadR {b k : Nat} {t : α} (hr : w.rangeAt b k (r.f t)) : (Instr.loadAt r.T (.pointer (some ⟨b, k, none⟩))).run P w = .ok (.agg (r.f t).toArray) w := by
  obtain ⟨d, h1, h2⟩ := r.row
  exact run_loadAt_mid w b k r.T (r.f t) d hr h1 h2 (by rw [r.len]; exact r.sizeT)
theorem wplIn_loadR {b k : Nat} {t : α} (x : Operand) (hgd : o.guard = none) (ho : o.op = .load r.T x) (hx : a.eval x = .pointer (some ⟨b, k, none⟩)) (hr : w.rangeAt b k (r.f t))
    (h : wpListIn F nF P ops Q rest (a.put o.dst (.agg (r.f t).toArray)) w) : wpListIn F nF P ops Q (o :: rest) a w := by
  refine wpListIn_plain hgd fun K hK => ?_
  unfold Oper.wpIn
  refine ⟨by simp [Oper.about, ho], ?_⟩
  rw [Oper.semAt_plain F _ _ (by rw [ho]; intro c hc'; cases hc')]
  unfold execOp
  simp only [ho, hx, Sem.run_bind, Sem.run_pure, run_loadR hr, Result.andThen_ok]
  exact hK _ _ h
theorem wpl_loadR {b k : Nat} {t : α} (x : Operand) (hgd : o.guard = none) (ho : o.op = .load r.T x) (hx : a.eval x = .pointer (some ⟨b, k, none⟩)) (hr : w.rangeAt b k (r.f t))
    (h : wpList P ops Q rest (a.put o.dst (.agg (r.f t).toArray)) w) : wpList P ops Q (o :: rest) a w := by
  obtain ⟨d, h1, h2⟩ := r.row
  exact wpList_load_mid hgd r.T x ho b k hx (r.f t) d hr h1 h2 (by rw [r.len]; exact r.sizeT) h
/-- A new one's place. -/
theorem wplIn_allocR {ty : TypeId} (ht : ty = r.T) (hgd : o.guard = none) (ho : o.op = .alloc ty)
    (h : ∀ C : Array Value, C.size = r.k → wpListIn F nF P ops Q rest (a.put o.dst (.pointer (some ⟨w.heap.size, 0, none⟩))) (w.alloc (.cells C ty))) : wpListIn F nF P ops Q (o :: rest) a w := by
  subst ht
  obtain ⟨i0, z, b, hi, hz0, h3, h4, _⟩ := r.info
  refine wpListIn_plain hgd fun K hK => ?_
  unfold Oper.wpIn
  refine ⟨by simp [Oper.about, ho], ?_⟩
  rw [Oper.semAt_plain F _ _ (by rw [ho]; intro c hc'; cases hc')]
  have := h z h4
  unfold execOp
  simp [ho, Instr.alloc, zeroValue, typeInfo, hi, hz0, newVar, newRow, Value.cells, go_sem]
  exact hK _ _ this
theorem wplIn_storeR {ty : TypeId} {b : Nat} {t : α} {C : Array Value} (x y : Operand) (ht : ty = r.T) (hgd : o.guard = none) (ho : o.op = .store ty x y) (hx : a.eval x = .pointer (some ⟨b, 0, none⟩)) (hy : a.eval y = .agg (r.f t).toArray) (hh : w.heap[b]? = some (.cells C ty (0, 0))) (hC : C.size = r.k)
    (h : wpListIn F nF P ops Q rest (a.put o.dst undef) (w.setRow b (r.f t).toArray)) : wpListIn F nF P ops Q (o :: rest) a w := by
  subst ht
  refine wpListIn_plain hgd fun K hK => ?_
  unfold Oper.wpIn
  refine ⟨by simp [Oper.about, ho], ?_⟩
  rw [Oper.semAt_plain F _ _ (by rw [ho]; intro c hc'; cases hc')]
  unfold execOp
  have hr : (Instr.storeAt r.T (.pointer (some ⟨b, 0, none⟩)) (.agg (r.f t).toArray)).run P w = .ok () (w.setRow b (r.f t).toArray) := by
    simp only [Instr.storeAt, Instr.sureAddr, Sem.run_bind, Sem.run_pure, Result.andThen_ok, run_storeVar_row w b r.T r.T C (r.f t).toArray hh (by rw [List.size_toArray, r.len]; exact r.sizeT) (by simp [r.len, hC]) (by rw [Array.all_eq_true_iff_forall_mem]; intro u hu; exact r.one t u (by simpa using hu))]
  simp only [ho, hx, hy, Sem.run_bind, Sem.run_pure, hr, Result.andThen_ok]
  exact hK _ _ h
end
theorem rangeAt_whole {b : Nat} {T : TypeId} {cs : List Value} (h : w.heap[b]? = some (.cells cs.toArray T (0, 0))) : w.rangeAt b 0 cs := fun j u hj => by
  rw [Nat.zero_add, World.cell?, h]
  simpa using hj
end
end Go.Proofs.YtpkamfbjgdmmoaaGreat
end

section
namespace Go.Proofs.YtpkamfbjgdmmoaaGreat
open Go.RowKit Go.Maps
set_option linter.unusedVariables false
set_option linter.unusedSimpArgs false

section
variable {P : Program} {α : Type} {r : RowTy P α} {w w' : World} {v u : Value} {xs ys : List α} {B : Nat}
theorem RdR.take {ao : Option Addr} {n cap : Nat} (h : RdR r w (.slice ao n cap) xs) {k : Nat} (hk : k ≤ xs.length) : RdR r w (sliced ao 0 k cap r.k) (xs.take k) := by
  rcases h with ⟨e, rfl⟩ | ⟨b, off, c, e, hc, hb, hr⟩
  · injection e with e1 e2 e3
    subst e1 e2 e3
    have : k = 0 := by simpa using hk
    subst this
    exact .inl ⟨by simp [sliced], by simp⟩
  · injection e with e1 e2 e3
    subst e1 e3
    have hl : (xs.take k).length = k := by simp; omega
    refine .inr ⟨b, off, cap, by rw [hl]; simp [sliced, Addr.add], by rw [hl]; omega, hb, fun j u hj => hr j u ?_⟩
    rw [← List.take_append_drop k xs, r.all_append, List.getElem?_append_left (List.getElem?_eq_some_iff.1 hj).1]
    exact hj
theorem RdR.drop {ao : Option Addr} {n cap : Nat} (h : RdR r w (.slice ao n cap) xs) {k : Nat} (hk : k ≤ xs.length) : RdR r w (sliced ao k n cap r.k) (xs.drop k) := by
  rcases h with ⟨e, rfl⟩ | ⟨b, off, c, e, hc, hb, hr⟩
  · injection e with e1 e2 e3
    subst e1 e2 e3
    have : k = 0 := by simpa using hk
    subst this
    exact .inl ⟨by simp [sliced], by simp⟩
  · injection e with e1 e2 e3
    subst e1 e2 e3
    have hl : (xs.drop k).length = xs.length - k := by simp
    by_cases hkc : cap = k
    · have hd : xs.drop k = [] := List.drop_of_length_le (by omega)
      rw [hd]
      refine .inr ⟨b, off, 0, ?_, Nat.le_refl _, hb, fun j u hj => by simp [RowTy.all] at hj⟩
      simp only [sliced, if_pos hkc, List.length_nil]
      congr 1 <;> omega
    · refine .inr ⟨b, off + k * r.k, cap - k, by rw [hl]; simp [sliced, hkc, Addr.add], by rw [hl]; omega, hb, fun j u hj => ?_⟩
      have hdl : (r.all (xs.take k)).length = k * r.k := by rw [r.all_len, List.length_take, Nat.min_eq_left hk]
      have := hr (k * r.k + j) u (by
        rw [← List.take_append_drop k xs, r.all_append, List.getElem?_append_right (by rw [hdl]; omega), hdl, Nat.add_sub_cancel_left]
        exact hj)
      rwa [← Nat.add_assoc] at this
theorem OwnR.none {b : Nat} (h : w.heap[b]? = some (.cells #[] r.T (0, 0))) (hB : B ≤ b) : OwnR r B (.slice (some ⟨b, 0, none⟩) 0 0) [] w :=
  ⟨by simp [RowTy.all], .inr ⟨b, 0, #[], rfl, hB, h, Nat.le_refl _, by unfold maxLen; omega, by simp, by simp [RowTy.all]⟩⟩
theorem run_noneR (w : World) : (Instr.buildSlice r.S 0 #[]).run P w = .ok (.slice (some ⟨w.heap.size, 0, none⟩) 0 0) (w.alloc (.cells #[] r.T)) := by
  obtain ⟨i0, z, b, h1, h2, h3, h4, h5, h6⟩ := r.info
  simp [Instr.buildSlice, run_underlying r.slice, sizeOf, typeInfo, h1, newRow, Instr.fill]
  have e : ∀ f : Nat → Value, Array.map f (Array.range 0) = #[] := fun f => Array.eq_empty_of_size_eq_zero (by simp)
  rw [e]
theorem run_appsR (hown : OwnR r B v xs w) (hr : RdR r w u ys) (hlen : xs.length + ys.length ≤ 1000000) (hB : B ≤ w.heap.size) (ty : TypeId) :
    ∃ v' w', (Builtin.append_ #[r.S, r.S] ty #[v, u]).run P w = .ok v' w' ∧ OwnR r B v' (xs ++ ys) w' ∧ w.grownBy w' v.ownBlock ∧ (v'.ownBlock = v.ownBlock ∨ v'.ownBlock = some w.heap.size) := by
  obtain ⟨i0, z, b, h1, h2, h3, h4, h5, h6⟩ := r.info
  rcases hr with ⟨rfl, rfl⟩ | ⟨bb, off, cap, rfl, hc, hb, hcell⟩
  · exact ⟨v, w, run_append_owned_none (P := P) (w := w) B r.S ty r.T i0 r.k r.slice h1 v _ _ hown, by rw [List.append_nil]; exact hown, ⟨rfl, rfl, rfl, Nat.le_refl _, fun _ _ _ => rfl⟩, .inl rfl⟩
  · have hby : (xs.length + ys.length) * b ≤ 140737488355328 := Nat.le_trans (Nat.mul_le_mul hlen h6) (by omega)
    obtain ⟨v', w', e1, e2, e3, e4, e5⟩ := run_append_own_at (P := P) (w := w) B r.S ty r.T i0 (.agg z) r.k b r.slice h1 h2 h3 h5 h4 r.pos v _ _ hown ⟨bb, off, none⟩ ys.length cap (r.all ys) (r.all_len ys)
      (fun j u hj => by rw [Addr.add_mid]; exact hcell j u hj) (r.all_ones ys) (by unfold maxLen; omega) hby hB
    refine ⟨v', w', e1, ?_, e3, e5⟩
    unfold OwnR
    rw [r.all_append, List.length_append]
    exact e2
section
variable {ops : Array Oper} {rest : List Oper} {o : Oper} {a : Act} {Q : Exit → Act → World → Prop}
theorem wpl_appsR {s x : Operand} (hgd : o.guard = none) (ho : o.op = .call { callee := .builtin .append, args := #[s, x], argTypes := #[r.S, r.S] }) (hs : a.eval s = v) (hx : a.eval x = u)
    (hown : OwnR r B v xs w) (hr : RdR r w u ys) (hlen : xs.length + ys.length ≤ 1000000) (hB : B ≤ w.heap.size)
    (h : ∀ v' w', OwnR r B v' (xs ++ ys) w' → w.grownBy w' v.ownBlock → (v'.ownBlock = v.ownBlock ∨ v'.ownBlock = some w.heap.size) → wpList P ops Q rest (a.put o.dst v') w') : wpList P ops Q (o :: rest) a w := by
  obtain ⟨v', w', hrun, h1, h2, h3⟩ := run_appsR hown hr hlen hB o.type
  refine wpList_plain hgd fun K hK => ?_
  unfold Oper.wp
  simp [execOp, ho, resolve, invoke, builtin, hs, hx, hrun, Result.andThen]
  exact hK _ _ (h v' w' h1 h2 h3)
theorem wpl_noneR (hgd : o.guard = none) (ho : o.op = .buildSlice r.S 0 #[])
    (h : wpList P ops Q rest (a.put o.dst (.slice (some ⟨w.heap.size, 0, none⟩) 0 0)) (w.alloc (.cells #[] r.T))) : wpList P ops Q (o :: rest) a w := by
  refine wpList_plain hgd fun K hK => ?_
  unfold Oper.wp
  simp [execOp, ho, run_noneR, Result.andThen]
  exact hK _ _ h
end
end
end Go.Proofs.YtpkamfbjgdmmoaaGreat
end

section
namespace Go.Proofs.YtpkamfbjgdmmoaaGreat
open Go.RowKit Go.Maps
set_option linter.unusedVariables false
set_option linter.unusedSimpArgs false

section
variable {P : Program} {α : Type} {r : RowTy P α} {w : World} {ops : Array Oper} {rest : List Oper} {o : Oper} {a : Act} {Q : Exit → Act → World → Prop}
theorem wpl_allocR {ty : TypeId} (ht : ty = r.T) (hgd : o.guard = none) (ho : o.op = .alloc ty)
    (h : ∀ C : Array Value, C.size = r.k → wpList P ops Q rest (a.put o.dst (.pointer (some ⟨w.heap.size, 0, none⟩))) (w.alloc (.cells C ty))) : wpList P ops Q (o :: rest) a w := by
  subst ht
  obtain ⟨i0, z, b, hi, hz0, h3, h4, _⟩ := r.info
  refine wpList_plain hgd fun K hK => ?_
  have := h z h4
  unfold Oper.wp execOp
  simp [ho, Instr.alloc, zeroValue, typeInfo, hi, hz0, newVar, newRow, Value.cells, go_sem]
  exact hK _ _ this
theorem run_storeR {b : Nat} {t : α} {C : Array Value} (hh : w.heap[b]? = some (.cells C r.T (0, 0))) (hC : C.size = r.k) : (Instr.storeAt r.T (.pointer (some ⟨b, 0, none⟩)) (.agg (r.f t).toArray)).run P w = .ok () (w.setRow b (r.f t).toArray) := by
  simp only [Instr.storeAt, Instr.sureAddr, Sem.run_bind, Sem.run_pure, Result.andThen_ok, run_storeVar_row w b r.T r.T C (r.f t).toArray hh (by rw [List.size_toArray, r.len]; exact r.sizeT) (by simp [r.len, hC]) (by rw [Array.all_eq_true_iff_forall_mem]; intro u hu; exact r.one t u (by simpa using hu))]
theorem wpl_storeR {ty : TypeId} {b : Nat} {t : α} {C : Array Value} (x y : Operand) (ht : ty = r.T) (hgd : o.guard = none) (ho : o.op = .store ty x y) (hx : a.eval x = .pointer (some ⟨b, 0, none⟩)) (hy : a.eval y = .agg (r.f t).toArray) (hh : w.heap[b]? = some (.cells C ty (0, 0))) (hC : C.size = r.k)
    (h : wpList P ops Q rest (a.put o.dst undef) (w.setRow b (r.f t).toArray)) : wpList P ops Q (o :: rest) a w := by
  subst ht
  refine wpList_plain hgd fun K hK => ?_
  unfold Oper.wp execOp
  simp only [ho, hx, hy, Sem.run_bind, Sem.run_pure, run_storeR hh hC, Result.andThen_ok]
  exact hK _ _ h
theorem run_varR {b : Nat} {t : α} (hr : w.rangeAt b 0 (r.f t)) : (loadVar r.T ⟨b, 0, none⟩).run P w = .ok (.agg (r.f t).toArray) w := by
  obtain ⟨d, h1, h2⟩ := r.row
  exact run_loadVar_mid w b 0 r.T (r.f t) d hr h1 h2 (by rw [r.len]; exact r.sizeT)
/-- What is handed back lies in a place of its own, and beside it a number. -/
theorem results_R2 {fn : Func} {p q : Tmp} (hf : fn.results = #[.cell p r.T, .tmp q]) {tmps : Array Value} {b : Nat} {t : α} {u : Value} (hp : tmps.getD p undef = .pointer (some ⟨b, 0, none⟩)) (hq : tmps.getD q undef = u) (hr : w.rangeAt b 0 (r.f t)) :
    (results fn tmps).run P w = .ok (.tuple #[.agg (r.f t).toArray, u]) w := by
  have hp' : tmps[p]?.getD undef = .pointer (some ⟨b, 0, none⟩) := by simpa using hp
  have hq' : tmps[q]?.getD undef = u := by simpa using hq
  unfold results
  rw [hf]
  simp [Array.mapM_eq_mapM_toList, hp', hq', asAddr, Sem.run_bind, run_varR hr, Result.andThen]
theorem results_R1 {fn : Func} {p : Tmp} (hf : fn.results = #[.cell p r.T]) {tmps : Array Value} {b : Nat} {t : α} (hp : tmps.getD p undef = .pointer (some ⟨b, 0, none⟩)) (hr : w.rangeAt b 0 (r.f t)) :
    (results fn tmps).run P w = .ok (.agg (r.f t).toArray) w := by
  have hp' : tmps[p]?.getD undef = .pointer (some ⟨b, 0, none⟩) := by simpa using hp
  unfold results
  rw [hf]
  simp [Array.mapM_eq_mapM_toList, hp', asAddr, Sem.run_bind, run_varR hr, Result.andThen]
end
section
variable {P : Program} {α : Type} {r : RowTy P α} {w : World} {ops : Array Oper} {rest : List Oper} {o : Oper} {a : Act} {Q : Exit → Act → World → Prop} {F : Fence} {nF : Nat} {v u : Value} {xs ys : List α} {B : Nat}
end
end Go.Proofs.YtpkamfbjgdmmoaaGreat
end

section
namespace Go.Proofs.YtpkamfbjgdmmoaaGreat
open Go.RowKit
set_option linter.unusedVariables false

theorem cvRet_int {k : IntKind} {a b : Int} (h : a = b) : Ending.returned (.int k a) = .returned (.int k b) := by rw [h]
theorem cvRet_bool {a b : Bool} (h : a = b) : Ending.returned (.bool a) = .returned (.bool b) := by rw [h]
theorem mul_bd {a b : Int} {A B : Int} (h0 : 0 ≤ a) (h1 : a ≤ A) (h2 : 0 ≤ b) (h3 : b ≤ B) (hA : 0 ≤ A) : 0 ≤ a * b ∧ a * b ≤ A * B :=
  ⟨Int.mul_nonneg h0 h2, Int.mul_le_mul h1 h3 h2 hA⟩
theorem bcell {W w1 : World} (hb : Below W.heap.size W w1) : (∀ b o, b < W.heap.size → w1.cell? ⟨b, o, none⟩ = W.cell? ⟨b, o, none⟩) ∧ (∀ b o, b < W.heap.size → w1.frozen? ⟨b, o, none⟩ = W.frozen? ⟨b, o, none⟩) :=
  ⟨fun b o h => hb.cell (p := ⟨b, o, none⟩) h, fun b o h => hb.frozen (p := ⟨b, o, none⟩) h⟩
theorem below_box {w w1 : World} {o : Obj} (h : Below (w.alloc o).heap.size (w.alloc o) w1) : Below w.heap.size w w1 :=
  ((Below.refl _ _).alloc (Nat.le_refl _) o).trans (h.mono (by simp))
theorem below_dn {B : Nat} {a w : World} (h : Below B a w) (n : Nat) : Below B a (w.drewN n) := h.trans ⟨rfl, rfl, rfl, Nat.le_refl _, fun _ _ => rfl⟩

theorem below_new {w0 w : World} (h : Below w0.heap.size w0 w) (o : Obj) : Below w0.heap.size w0 (w.alloc o) := h.alloc h.size o

def withinB (n l m : Int) : Bool := decide (l ≤ n) && decide (n ≤ m)
theorem withinB_out {n l m : Int} (h : withinB n l m = true) : l ≤ n ∧ n ≤ m := by simpa [withinB] using h

def votesI (n level : Int) : Int := if level = 0 then n / 10 else n * level
def periodI (level period : Int) : Int := if level = 0 then 0 else period * 2 ^ (level - 1).toNat

theorem cvWithin (n l m : Int) (w : World) :
    Calls Tryz.prog 36 #[.int .i64 n, .int .i64 l, .int .i64 m] w fun e w' => e = .returned (.bool (withinB n l m)) ∧ w = w' := by
  by_cases h0 : l ≤ n
  · go_enter Tryz.func36, Tryz.ntmps36
    go_wp2
    go_ret
    exact ⟨cvRet_bool (by simp [withinB, h0]), rfl⟩
  · go_enter Tryz.func36, Tryz.ntmps36
    go_wp2
    go_ret
    exact ⟨cvRet_bool (by simp [withinB]; omega), rfl⟩

theorem cvBalance (n : Int) (w : World) :
    Calls Tryz.prog 71 #[.int .i64 n] w fun e w' => e = .returned (.bool (withinB n 0 1073741824)) ∧ w = w' := by
  go_enter Tryz.func71, Tryz.ntmps71
  go_wp2_with (go_at_call 36; refine (cvWithin _ _ _ _).mono ?_; rintro e w' ⟨rfl, rfl⟩)
  go_ret
  exact ⟨rfl, rfl⟩

/-- A balance weighs this (levels 0 to 6; balances up to 2^34). -/
theorem conv_Votes (n l : Int) (w : World) (h0 : 0 ≤ n) (h1 : n ≤ 17179869184) (l0 : 0 ≤ l) (l1 : l ≤ 6) :
    Calls Tryz.prog 88 #[.int .i64 n, .int .i64 l] w fun e w' => e = .returned (.int .i64 (votesI n l)) ∧ w = w' := by
  obtain ⟨m0, m1⟩ := mul_bd h0 h1 l0 l1 (by omega)
  by_cases hl : l = 0
  · subst hl
    go_enter Tryz.func88, Tryz.ntmps88
    go_wp2
    go_ret
    exact ⟨rfl, rfl⟩
  · have e : votesI n l = n * l := if_neg hl
    have E := Lib.hid e; clear e
    go_enter Tryz.func88, Tryz.ntmps88
    go_wp2
    go_ret
    rw [E.out]
    exact ⟨rfl, rfl⟩

theorem conv_Period (l p : Int) (w : World) (h0 : 0 ≤ p) (h1 : p ≤ 1073741824) (l0 : 0 ≤ l) (l1 : l ≤ 6) :
    Calls Tryz.prog 65 #[.int .i64 l, .int .i64 p] w fun e w' => e = .returned (.int .i64 (periodI l p)) ∧ w = w' := by
  have hl : l = 0 ∨ l = 1 ∨ l = 2 ∨ l = 3 ∨ l = 4 ∨ l = 5 ∨ l = 6 := by omega
  rcases hl with rfl | rfl | rfl | rfl | rfl | rfl | rfl
  all_goals
    go_enter Tryz.func65, Tryz.ntmps65
    go_wp2
    go_ret
    exact ⟨cvRet_int (by simp [periodI]), rfl⟩

abbrev vote (k : Int) (aye : Bool) (l a n s : Int) : Value := .agg #[.int .i64 k, .bool aye, .int .i64 l, .int .i64 a, .int .i64 n, .int .i64 s]
abbrev weight (v c : Int) : Value := .agg #[.int .i64 v, .int .i64 c]
abbrev tally (a n s : Int) : Value := .agg #[.int .i64 a, .int .i64 n, .int .i64 s]

def shapedB (k : Int) (aye : Bool) (l n s : Int) : Bool :=
  if k = 1 then withinB l 0 6 && (n == 0) && (s == 0)
  else if k = 2 then !aye && (l == 0) && (s == 0)
  else if k = 3 then !aye && (l == 0)
  else false
def voteB (k : Int) (aye : Bool) (l a n s : Int) : Bool :=
  shapedB k aye l n s && withinB a 0 1073741824 && withinB n 0 1073741824 && withinB s 0 1073741824 && withinB (a + n + s) 0 1073741824

theorem conv_shaped (k : Int) (aye : Bool) (l a n s : Int) (w : World) :
    Calls Tryz.prog 85 #[vote k aye l a n s] w fun e w' => e = .returned (.bool (shapedB k aye l n s)) ∧ Below w.heap.size w w' := by
  have hk : k = 1 ∨ k = 2 ∨ k = 3 ∨ (k ≠ 1 ∧ k ≠ 2 ∧ k ≠ 3) := by omega
  rcases hk with rfl | rfl | rfl | ⟨k1, k2, k3⟩
  · go_enter Tryz.func85, Tryz.ntmps85
    go_wp2_with (go_at_call 36; refine (cvWithin _ _ _ _).mono ?_; rintro e w' ⟨rfl, rfl⟩)
    all_goals
      go_ret
      exact ⟨cvRet_bool (by simp [shapedB, *]), (Below.refl _ _).alloc (Nat.le_refl _) _⟩
  · cases aye
    all_goals
      go_enter Tryz.func85, Tryz.ntmps85
      go_wp2_with (go_at_call 36; refine (cvWithin _ _ _ _).mono ?_; rintro e w' ⟨rfl, rfl⟩)
    all_goals
      go_ret
      exact ⟨cvRet_bool (by simp [shapedB, *]), (Below.refl _ _).alloc (Nat.le_refl _) _⟩
  · cases aye
    all_goals
      go_enter Tryz.func85, Tryz.ntmps85
      go_wp2_with (go_at_call 36; refine (cvWithin _ _ _ _).mono ?_; rintro e w' ⟨rfl, rfl⟩)
    all_goals
      go_ret
      exact ⟨cvRet_bool (by simp [shapedB, *]), (Below.refl _ _).alloc (Nat.le_refl _) _⟩
  · go_enter Tryz.func85, Tryz.ntmps85
    go_wp2
    go_ret
    exact ⟨cvRet_bool (by simp [shapedB, *]), (Below.refl _ _).alloc (Nat.le_refl _) _⟩

end Go.Proofs.YtpkamfbjgdmmoaaGreat
end

section
namespace Go.Proofs.YtpkamfbjgdmmoaaGreat
open Go.RowKit
set_option linter.unusedVariables false

def ratioI (a b : Int) : Int := if b = 0 then 0 else min (a * 1000000000 / b) 1000000000

theorem div_le_self' {a b : Int} (ha : 0 ≤ a) (hb : 0 < b) : 0 ≤ a / b ∧ a / b ≤ a :=
  ⟨Int.ediv_nonneg ha (by omega), by
    have h1 := Int.mul_ediv_add_emod a b
    have h2 := Int.emod_nonneg a (show b ≠ 0 by omega)
    have h3 := Int.ediv_nonneg ha (show 0 ≤ b by omega)
    have h4 : 1 * (a / b) ≤ b * (a / b) := Int.mul_le_mul_of_nonneg_right (by omega) h3
    omega⟩

theorem per_Ratio (a b : Int) (w : World) (h0 : 0 ≤ a) (h1 : a ≤ 8589934592) (h2 : 0 ≤ b) (h3 : b ≤ 8589934592) :
    Calls Tryz.prog 122 #[.int .i64 a, .int .i64 b] w fun e w' => e = .returned (.int .i64 (ratioI a b)) ∧ w = w' := by
  by_cases hb : b = 0
  · subst hb
    go_enter Tryz.func122, Tryz.ntmps122
    go_wp2
    go_ret
    exact ⟨rfl, rfl⟩
  · have hb1 : 0 < b := by omega
    obtain ⟨d0, d1⟩ := div_le_self' (a := a * 1000000000) (b := b) (by omega) hb1
    have e : ratioI a b = min (a * 1000000000 / b) 1000000000 := if_neg hb
    have E := Lib.hid e; clear e
    go_enter Tryz.func122, Tryz.ntmps122
    go_wp2
    all_goals
      go_ret
      rw [E.out]
      exact ⟨cvRet_int (by omega), rfl⟩

def fallsB (a b c : Int) : Bool := withinB a 0 1000000000 && withinB b 0 a && withinB c 1 1000000000
def isB (k a b c d : Int) : Bool :=
  if k = 1 then fallsB a b c && (d == 0)
  else if k = 2 then fallsB a b c && withinB d 1 1000000000
  else if k = 3 then withinB a 0 1000000000 && withinB b 1 1000000000 && withinB c 0 1000000000 && (d == 0)
  else false

def heldI (n : Int) : Int := min (max n 0) 1000000000
abbrev curve (k a b c d : Int) : Value := .agg #[.int .i64 k, .int .i64 a, .int .i64 b, .int .i64 c, .int .i64 d]

theorem ref4_in (n l m : Int) (w : World) :
    Calls Tryz.prog 129 #[.int .i64 n, .int .i64 l, .int .i64 m] w fun e w' => e = .returned (.bool (withinB n l m)) ∧ w = w' := by
  by_cases h0 : l ≤ n
  · go_enter Tryz.func129, Tryz.ntmps129
    go_wp2
    go_ret
    exact ⟨cvRet_bool (by simp [withinB, h0]), rfl⟩
  · go_enter Tryz.func129, Tryz.ntmps129
    go_wp2
    go_ret
    exact ⟨cvRet_bool (by simp [withinB]; omega), rfl⟩

theorem per_within (n l : Int) (w : World) :
    Calls Tryz.prog 128 #[.int .i64 n, .int .i64 l] w fun e w' => e = .returned (.bool (withinB n l 1000000000)) ∧ w = w' := by
  go_enter Tryz.func128, Tryz.ntmps128
  go_wp2_with (go_at_call 36; refine (cvWithin _ _ _ _).mono ?_; rintro e w' ⟨rfl, rfl⟩)
  go_ret
  exact ⟨rfl, rfl⟩

theorem per_held (n : Int) (w : World) :
    Calls Tryz.prog 142 #[.int .i64 n] w fun e w' => e = .returned (.int .i64 (heldI n)) ∧ w = w' := by
  go_enter Tryz.func142, Tryz.ntmps142
  go_wp2
  all_goals
    go_ret
    exact ⟨cvRet_int (by unfold heldI; omega), rfl⟩

theorem per_falls (k a b c d : Int) (w : World) :
    Calls Tryz.prog 127 #[curve k a b c d] w fun e w' => e = .returned (.bool (fallsB a b c)) ∧ Below w.heap.size w w' := by
  go_enter Tryz.func127, Tryz.ntmps127
  go_wp2_with (first | (go_at_call 36; refine (cvWithin _ _ _ _).mono ?_; rintro e w' ⟨rfl, rfl⟩) | (go_at_call 128; refine (per_within _ _ _).mono ?_; rintro e w' ⟨rfl, rfl⟩))
  all_goals
    go_ret
    exact ⟨cvRet_bool (by simp [fallsB, *]), (Below.refl _ _).alloc (Nat.le_refl _) _⟩

theorem per_Is (k a b c d : Int) (w : World) :
    Calls Tryz.prog 107 #[curve k a b c d] w fun e w' => e = .returned (.bool (isB k a b c d)) ∧ Below w.heap.size w w' := by
  by_cases k1 : k = 1
  · subst k1
    go_enter Tryz.func107, Tryz.ntmps107
    go_wp2_with (go_at_call 127; refine (per_falls _ _ _ _ _ _).mono ?_; rintro e w' ⟨rfl, hb⟩; obtain ⟨hc, hf⟩ := bcell hb)
    all_goals
      go_ret
      exact ⟨cvRet_bool (by simp [isB, *]), below_box hb⟩
  · by_cases k2 : k = 2
    · subst k2
      go_enter Tryz.func107, Tryz.ntmps107
      go_wp2_with (first | (go_at_call 127; refine (per_falls _ _ _ _ _ _).mono ?_; rintro e w' ⟨rfl, hb⟩; obtain ⟨hc, hf⟩ := bcell hb) | (go_at_call 128; refine (per_within _ _ _).mono ?_; rintro e w' ⟨rfl, rfl⟩))
      all_goals
        go_ret
        exact ⟨cvRet_bool (by simp [isB, *]), below_box hb⟩
    · by_cases k3 : k = 3
      · subst k3
        go_enter Tryz.func107, Tryz.ntmps107
        go_wp2_with (go_at_call 128; refine (per_within _ _ _).mono ?_; rintro e w' ⟨rfl, rfl⟩)
        all_goals
          go_ret
          exact ⟨cvRet_bool (by simp [isB, *]), (Below.refl _ _).alloc (Nat.le_refl _) _⟩
      · go_enter Tryz.func107, Tryz.ntmps107
        go_wp2
        go_ret
        exact ⟨cvRet_bool (by simp [isB, *]), (Below.refl _ _).alloc (Nat.le_refl _) _⟩

theorem ref4_Is (k a b c d : Int) (w : World) :
    Calls Tryz.prog 109 #[curve k a b c d] w fun e w' => e = .returned (.bool (isB k a b c d)) ∧ Below w.heap.size w w' := by
  by_cases k1 : k = 1
  · subst k1
    go_enter Tryz.func109, Tryz.ntmps109
    go_wp2_with (go_at_call 129; refine (ref4_in _ _ _ _).mono ?_; rintro e w' ⟨rfl, rfl⟩)
    all_goals
      go_ret
      exact ⟨cvRet_bool (by simp [isB, fallsB, *]), (Below.refl _ _).alloc (Nat.le_refl _) _⟩
  · by_cases k2 : k = 2
    · subst k2
      go_enter Tryz.func109, Tryz.ntmps109
      go_wp2_with (go_at_call 129; refine (ref4_in _ _ _ _).mono ?_; rintro e w' ⟨rfl, rfl⟩)
      all_goals
        go_ret
        exact ⟨cvRet_bool (by simp [isB, fallsB, *]), (Below.refl _ _).alloc (Nat.le_refl _) _⟩
    · by_cases k3 : k = 3
      · subst k3
        go_enter Tryz.func109, Tryz.ntmps109
        go_wp2_with (go_at_call 129; refine (ref4_in _ _ _ _).mono ?_; rintro e w' ⟨rfl, rfl⟩)
        all_goals
          go_ret
          exact ⟨cvRet_bool (by simp [isB, *]), (Below.refl _ _).alloc (Nat.le_refl _) _⟩
      · go_enter Tryz.func109, Tryz.ntmps109
        go_wp2
        go_ret
        exact ⟨cvRet_bool (by simp [isB, *]), (Below.refl _ _).alloc (Nat.le_refl _) _⟩

/-- The threshold of a curve that may be. -/
def atI (k a b c d x : Int) : Int :=
  if k = 1 then (if heldI x ≥ c then b else a - (a - b) * heldI x / c)
  else if k = 2 then max (a - c * (heldI x / d)) b
  else heldI (a * 1000000000 / (heldI x + b) - c)

theorem held_bd (x : Int) : 0 ≤ heldI x ∧ heldI x ≤ 1000000000 := by unfold heldI; omega

theorem is1_out {a b c d : Int} (h : isB 1 a b c d = true) : (0 ≤ a ∧ a ≤ 1000000000) ∧ (0 ≤ b ∧ b ≤ a) ∧ (1 ≤ c ∧ c ≤ 1000000000) ∧ d = 0 := by
  simpa [isB, fallsB, withinB, and_assoc] using h
theorem is2_out {a b c d : Int} (h : isB 2 a b c d = true) : (0 ≤ a ∧ a ≤ 1000000000) ∧ (0 ≤ b ∧ b ≤ a) ∧ (1 ≤ c ∧ c ≤ 1000000000) ∧ (1 ≤ d ∧ d ≤ 1000000000) := by
  simpa [isB, fallsB, withinB, and_assoc] using h
theorem is3_out {a b c d : Int} (h : isB 3 a b c d = true) : (0 ≤ a ∧ a ≤ 1000000000) ∧ (1 ≤ b ∧ b ≤ 1000000000) ∧ (0 ≤ c ∧ c ≤ 1000000000) ∧ d = 0 := by
  simpa [isB, withinB, and_assoc] using h

theorem at1_end {a b c d x : Int} (h : c ≤ heldI x) : atI 1 a b c d x = b := by simp [atI, h]
theorem at1_mid {a b c d x : Int} (h : heldI x < c) : atI 1 a b c d x = a - (a - b) * heldI x / c := by simp [atI, Int.not_le.2 h]
theorem at2_eq {a b c d x : Int} : atI 2 a b c d x = max (a - c * (heldI x / d)) b := by simp [atI]
theorem at3_eq {a b c d x : Int} : atI 3 a b c d x = heldI (a * 1000000000 / (heldI x + b) - c) := by simp [atI]

theorem per_At1 (a b c d x : Int) (w : World) (h : isB 1 a b c d = true) :
    Calls Tryz.prog 124 #[curve 1 a b c d, .int .i64 x] w fun e w' => e = .returned (.int .i64 (atI 1 a b c d x)) ∧ Below w.heap.size w w' := by
  obtain ⟨⟨a0, a1⟩, ⟨b0, b1⟩, ⟨c0, c1⟩, -⟩ := is1_out h
  obtain ⟨y0, y1⟩ := held_bd x
  by_cases hx : c ≤ heldI x
  · go_enter Tryz.func124, Tryz.ntmps124
    go_wp2_with (first | (go_at_call 107; refine (per_Is _ _ _ _ _ _).mono ?_; rintro e w' ⟨rfl, hb⟩; obtain ⟨hc, hf⟩ := bcell hb) | (go_at_call 142; refine (per_held _ _).mono ?_; rintro e w' ⟨rfl, rfl⟩))
    go_ret
    exact ⟨cvRet_int (at1_end hx).symm, below_box hb⟩
  · obtain ⟨m0, m1⟩ := mul_bd (a := a - b) (b := heldI x) (by omega) (show a - b ≤ 1000000000 by omega) y0 y1 (by omega)
    obtain ⟨d0, d1⟩ := div_le_self' (a := (a - b) * heldI x) (b := c) m0 (by omega)
    go_enter Tryz.func124, Tryz.ntmps124
    go_wp2_with (first | (go_at_call 107; refine (per_Is _ _ _ _ _ _).mono ?_; rintro e w' ⟨rfl, hb⟩; obtain ⟨hc, hf⟩ := bcell hb) | (go_at_call 142; refine (per_held _ _).mono ?_; rintro e w' ⟨rfl, rfl⟩))
    go_quiet (fail)
    go_wp2
    go_ret
    exact ⟨cvRet_int (at1_mid hx).symm, below_box (below_dn hb _)⟩

theorem per_At2 (a b c d x : Int) (w : World) (h : isB 2 a b c d = true) :
    Calls Tryz.prog 124 #[curve 2 a b c d, .int .i64 x] w fun e w' => e = .returned (.int .i64 (atI 2 a b c d x)) ∧ Below w.heap.size w w' := by
  obtain ⟨⟨a0, a1⟩, ⟨b0, b1⟩, ⟨c0, c1⟩, d0, d1⟩ := is2_out h
  obtain ⟨y0, y1⟩ := held_bd x
  obtain ⟨q0, q1⟩ := div_le_self' (a := heldI x) (b := d) y0 (by omega)
  obtain ⟨m0, m1⟩ := mul_bd (a := c) (b := heldI x / d) (by omega) c1 q0 (Int.le_trans q1 y1) (by omega)
  go_enter Tryz.func124, Tryz.ntmps124
  go_wp2_with (first | (go_at_call 107; refine (per_Is _ _ _ _ _ _).mono ?_; rintro e w' ⟨rfl, hb⟩; obtain ⟨hc, hf⟩ := bcell hb) | (go_at_call 142; refine (per_held _ _).mono ?_; rintro e w' ⟨rfl, rfl⟩))
  go_quiet (fail)
  all_goals go_wp2
  all_goals
    go_ret
    exact ⟨cvRet_int (by rw [at2_eq] <;> omega), below_box (below_dn hb _)⟩

theorem per_At3 (a b c d x : Int) (w : World) (h : isB 3 a b c d = true) :
    Calls Tryz.prog 124 #[curve 3 a b c d, .int .i64 x] w fun e w' => e = .returned (.int .i64 (atI 3 a b c d x)) ∧ Below w.heap.size w w' := by
  obtain ⟨⟨a0, a1⟩, ⟨b0, b1⟩, ⟨c0, c1⟩, -⟩ := is3_out h
  obtain ⟨y0, y1⟩ := held_bd x
  obtain ⟨q0, q1⟩ := div_le_self' (a := a * 1000000000) (b := heldI x + b) (by omega) (by omega)
  go_enter Tryz.func124, Tryz.ntmps124
  go_wp2_with (first | (go_at_call 107; refine (per_Is _ _ _ _ _ _).mono ?_; rintro e w' ⟨rfl, hb⟩; obtain ⟨hc, hf⟩ := bcell hb) | (go_at_call 142; refine (per_held _ _).mono ?_; rintro e w' ⟨rfl, rfl⟩))
  go_quiet ((go_at_call 142; exact Calls.quiet_of_same ((per_held _ _).mono fun e w' h => ⟨h.1, h.2.symm⟩)))
  all_goals go_wp2
  all_goals
    go_ret
    exact ⟨cvRet_int at3_eq.symm, below_box (below_dn hb _)⟩

theorem per_At (k a b c d x : Int) (w : World) (h : isB k a b c d = true) :
    Calls Tryz.prog 124 #[curve k a b c d, .int .i64 x] w fun e w' => e = .returned (.int .i64 (atI k a b c d x)) ∧ Below w.heap.size w w' := by
  by_cases k1 : k = 1
  · subst k1; exact per_At1 a b c d x w h
  by_cases k2 : k = 2
  · subst k2; exact per_At2 a b c d x w h
  by_cases k3 : k = 3
  · subst k3; exact per_At3 a b c d x w h
  · simp [isB, k1, k2, k3] at h

end Go.Proofs.YtpkamfbjgdmmoaaGreat
end

section
namespace Go.Proofs.YtpkamfbjgdmmoaaGreat
open Go.RowKit

/-- A curve lies in the first block behind w0's; what was there in w0 is as it was. -/
structure CBoxed (w0 : World) (k a b' c d : Int) (w : World) : Prop where
  c0 : w.cell? ⟨w0.heap.size, 0, none⟩ = some (.int .i64 k)
  c1 : w.cell? ⟨w0.heap.size, 1, none⟩ = some (.int .i64 a)
  c2 : w.cell? ⟨w0.heap.size, 2, none⟩ = some (.int .i64 b')
  c3 : w.cell? ⟨w0.heap.size, 3, none⟩ = some (.int .i64 c)
  c4 : w.cell? ⟨w0.heap.size, 4, none⟩ = some (.int .i64 d)
  lt : w0.heap.size < w.heap.size
  old : Below w0.heap.size w0 w

theorem CBoxed.all {w0 : World} {k a b' c d : Int} {w : World} (h : CBoxed w0 k a b' c d w) : w.cell? ⟨w0.heap.size, 0, none⟩ = some (.int .i64 k) ∧ w.cell? ⟨w0.heap.size, 1, none⟩ = some (.int .i64 a) ∧ w.cell? ⟨w0.heap.size, 2, none⟩ = some (.int .i64 b') ∧ w.cell? ⟨w0.heap.size, 3, none⟩ = some (.int .i64 c) ∧ w.cell? ⟨w0.heap.size, 4, none⟩ = some (.int .i64 d) := ⟨h.c0, h.c1, h.c2, h.c3, h.c4⟩
theorem CBoxed.below {w0 : World} {k a b' c d : Int} {w w' : World} (h : CBoxed w0 k a b' c d w) (hb : Below w.heap.size w w') : CBoxed w0 k a b' c d w' := by
  obtain ⟨hc, _⟩ := bcell hb
  exact ⟨(hc _ _ h.lt).trans h.c0, (hc _ _ h.lt).trans h.c1, (hc _ _ h.lt).trans h.c2, (hc _ _ h.lt).trans h.c3, (hc _ _ h.lt).trans h.c4, Nat.lt_of_lt_of_le h.lt hb.size, h.old.trans (hb.mono h.old.size)⟩
theorem CBoxed.drew {w0 : World} {k a b' c d : Int} {w : World} (h : CBoxed w0 k a b' c d w) : CBoxed w0 k a b' c d w.drew := ⟨h.c0, h.c1, h.c2, h.c3, h.c4, h.lt, h.old.drew⟩
theorem CBoxed.new {k a b' c d : Int} {w : World} {t : TypeId} : CBoxed w k a b' c d (w.alloc (.cells #[.int .i64 k, .int .i64 a, .int .i64 b', .int .i64 c, .int .i64 d] t)) := by
  constructor
  case old => exact (Below.refl _ _).alloc (Nat.le_refl _) _
  all_goals simp

end Go.Proofs.YtpkamfbjgdmmoaaGreat
end

section
namespace Go.Proofs.YtpkamfbjgdmmoaaGreat
open Go.RowKit
set_option linter.unusedVariables false

/-- A track's numbers, in their order. -/
structure Trk where
  most : Int
  dep : Int
  prep : Int
  dec : Int
  conf : Int
  en : Int
  ak : Int
  aa : Int
  ab : Int
  ac : Int
  ad : Int
  sk : Int
  sa : Int
  sb : Int
  sc : Int
  sd : Int
  cap : Int
  rank : Int

abbrev Trk.cells (t : Trk) : Array Value := #[.int .i64 t.most, .int .i64 t.dep, .int .i64 t.prep, .int .i64 t.dec, .int .i64 t.conf, .int .i64 t.en, .int .i64 t.ak, .int .i64 t.aa, .int .i64 t.ab, .int .i64 t.ac, .int .i64 t.ad, .int .i64 t.sk, .int .i64 t.sa, .int .i64 t.sb, .int .i64 t.sc, .int .i64 t.sd, .int .i64 t.cap, .int .i64 t.rank]
abbrev Trk.val (t : Trk) : Value := .agg t.cells

def trackB (t : Trk) : Bool :=
  withinB t.most 1 12 && withinB t.dep 0 1073741824 && withinB t.cap 0 1073741824 && withinB t.prep 0 1000 && withinB t.conf 0 1000 && withinB t.en 0 1000 && withinB t.dec 1 1000 &&
    isB t.ak t.aa t.ab t.ac t.ad && isB t.sk t.sa t.sb t.sc t.sd && withinB t.rank 0 2

/-- A track lies in the first block behind w0's. -/
structure KBox (w0 : World) (t : Trk) (w : World) : Prop where
  c0 : w.cell? ⟨w0.heap.size, 0, none⟩ = some (.int .i64 t.most)
  c1 : w.cell? ⟨w0.heap.size, 1, none⟩ = some (.int .i64 t.dep)
  c2 : w.cell? ⟨w0.heap.size, 2, none⟩ = some (.int .i64 t.prep)
  c3 : w.cell? ⟨w0.heap.size, 3, none⟩ = some (.int .i64 t.dec)
  c4 : w.cell? ⟨w0.heap.size, 4, none⟩ = some (.int .i64 t.conf)
  c5 : w.cell? ⟨w0.heap.size, 5, none⟩ = some (.int .i64 t.en)
  c6 : w.cell? ⟨w0.heap.size, 6, none⟩ = some (.int .i64 t.ak)
  c7 : w.cell? ⟨w0.heap.size, 7, none⟩ = some (.int .i64 t.aa)
  c8 : w.cell? ⟨w0.heap.size, 8, none⟩ = some (.int .i64 t.ab)
  c9 : w.cell? ⟨w0.heap.size, 9, none⟩ = some (.int .i64 t.ac)
  c10 : w.cell? ⟨w0.heap.size, 10, none⟩ = some (.int .i64 t.ad)
  c11 : w.cell? ⟨w0.heap.size, 11, none⟩ = some (.int .i64 t.sk)
  c12 : w.cell? ⟨w0.heap.size, 12, none⟩ = some (.int .i64 t.sa)
  c13 : w.cell? ⟨w0.heap.size, 13, none⟩ = some (.int .i64 t.sb)
  c14 : w.cell? ⟨w0.heap.size, 14, none⟩ = some (.int .i64 t.sc)
  c15 : w.cell? ⟨w0.heap.size, 15, none⟩ = some (.int .i64 t.sd)
  c16 : w.cell? ⟨w0.heap.size, 16, none⟩ = some (.int .i64 t.cap)
  c17 : w.cell? ⟨w0.heap.size, 17, none⟩ = some (.int .i64 t.rank)
  lt : w0.heap.size < w.heap.size
  old : Below w0.heap.size w0 w
theorem KBox.below {w0 : World} {t : Trk} {w w' : World} (h : KBox w0 t w) (hb : Below w.heap.size w w') : KBox w0 t w' := by
  obtain ⟨hc, _⟩ := bcell hb
  exact ⟨(hc _ _ h.lt).trans h.c0, (hc _ _ h.lt).trans h.c1, (hc _ _ h.lt).trans h.c2, (hc _ _ h.lt).trans h.c3, (hc _ _ h.lt).trans h.c4, (hc _ _ h.lt).trans h.c5, (hc _ _ h.lt).trans h.c6, (hc _ _ h.lt).trans h.c7, (hc _ _ h.lt).trans h.c8, (hc _ _ h.lt).trans h.c9,
    (hc _ _ h.lt).trans h.c10, (hc _ _ h.lt).trans h.c11, (hc _ _ h.lt).trans h.c12, (hc _ _ h.lt).trans h.c13, (hc _ _ h.lt).trans h.c14, (hc _ _ h.lt).trans h.c15, (hc _ _ h.lt).trans h.c16, (hc _ _ h.lt).trans h.c17, Nat.lt_of_lt_of_le h.lt hb.size, h.old.trans (hb.mono h.old.size)⟩
theorem KBox.new {t : Trk} {w : World} {T : TypeId} : KBox w t (w.alloc (.cells t.cells T)) := by
  constructor
  case old => exact (Below.refl _ _).alloc (Nat.le_refl _) _
  all_goals simp

theorem track_blocks (n l : Int) (w : World) :
    Calls Tryz.prog 106 #[.int .i64 n, .int .i64 l] w fun e w' => e = .returned (.bool (withinB n l 1000)) ∧ w = w' := by
  go_enter Tryz.func106, Tryz.ntmps106
  go_wp2_with (go_at_call 36; refine (cvWithin _ _ _ _).mono ?_; rintro e w' ⟨rfl, rfl⟩)
  go_ret
  exact ⟨rfl, rfl⟩

theorem ref10_in (n l m : Int) (w : World) :
    Calls Tryz.prog 108 #[.int .i64 n, .int .i64 l, .int .i64 m] w fun e w' => e = .returned (.bool (withinB n l m)) ∧ w = w' := by
  by_cases h0 : l ≤ n
  · go_enter Tryz.func108, Tryz.ntmps108
    go_wp2
    go_ret
    exact ⟨cvRet_bool (by simp [withinB, h0]), rfl⟩
  · go_enter Tryz.func108, Tryz.ntmps108
    go_wp2
    go_ret
    exact ⟨cvRet_bool (by simp [withinB]; omega), rfl⟩

set_option maxHeartbeats 4000000 in
theorem track_Is (t : Trk) (w : World) :
    Calls Tryz.prog 78 #[t.val] w fun e w' => e = .returned (.bool (trackB t)) ∧ Below w.heap.size w w' := by
  go_enter Tryz.func78, Tryz.ntmps78
  go_wp2_with (first | (go_at_call 36; refine (cvWithin _ _ _ _).mono ?_; rintro e w' ⟨rfl, rfl⟩) | (go_at_call 71; refine (cvBalance _ _).mono ?_; rintro e w' ⟨rfl, rfl⟩) | (go_at_call 106; refine (track_blocks _ _ _).mono ?_; rintro e w' ⟨rfl, rfl⟩) | (go_at_call 107; refine (per_Is _ _ _ _ _ _).mono ?_; rintro e w1 ⟨rfl, hb1⟩; first | (have B2 := B1.below hb1; clear hb1; have y17 := B2.c17) | (have B1 := (KBox.new (t := t)).below hb1; clear hb1; have x11 := B1.c11; have x12 := B1.c12; have x13 := B1.c13; have x14 := B1.c14; have x15 := B1.c15; have x16 := B1.c16; have x17 := B1.c17)) | fail)
  all_goals
    go_ret
    exact ⟨cvRet_bool (by simp [trackB, *]), (by first | exact B2.old | exact B1.old | exact below_new (Below.refl _ _) _)⟩

set_option maxHeartbeats 4000000 in
theorem ref10_Is (t : Trk) (w : World) :
    Calls Tryz.prog 81 #[t.val] w fun e w' => e = .returned (.bool (trackB t)) ∧ Below w.heap.size w w' := by
  go_enter Tryz.func81, Tryz.ntmps81
  go_wp2_with (first | (go_at_call 108; refine (ref10_in _ _ _ _).mono ?_; rintro e w' ⟨rfl, rfl⟩) | (go_at_call 109; refine (ref4_Is _ _ _ _ _ _).mono ?_; rintro e w1 ⟨rfl, hb1⟩; first | (have B2 := B1.below hb1; clear hb1; have y17 := B2.c17) | (have B1 := (KBox.new (t := t)).below hb1; clear hb1; have x11 := B1.c11; have x12 := B1.c12; have x13 := B1.c13; have x14 := B1.c14; have x15 := B1.c15; have x16 := B1.c16; have x17 := B1.c17)) | fail)
  all_goals
    go_ret
    exact ⟨cvRet_bool (by simp [trackB, *]), (by first | exact B2.old | exact B1.old | exact below_new (Below.refl _ _) _)⟩

/-- A tally that may be asked. -/
def Fits10 (x y s issued : Int) : Prop := 0 ≤ x ∧ 0 ≤ y ∧ x + y ≤ 8589934592 ∧ 0 ≤ s ∧ s ≤ 8589934592 ∧ 0 ≤ issued ∧ issued ≤ 8589934592

theorem track_Shares (x y s i : Int) (w : World) (h : Fits10 x y s i) :
    Calls Tryz.prog 123 #[tally x y s, .int .i64 i] w fun e w' => e = .returned (.tuple #[.int .i64 (ratioI x (x + y)), .int .i64 (ratioI s i)]) ∧ Below w.heap.size w w' := by
  obtain ⟨x0, y0, xy, s0, s1, i0, i1⟩ := h
  have W1 : IntKind.i64.wrap (x + y) = x + y := IntWalk.i64_in _ (by omega)
  go_enter Tryz.func123, Tryz.ntmps123
  go_wp2_with fail
  go_quiet ((go_at_call 122; exact Calls.quiet_of_same ((per_Ratio _ _ _ (by omega) (by omega) (by omega) (by omega)).mono fun e w' h => ⟨h.1, h.2.symm⟩)))
  go_wp2
  go_ret2
  exact ⟨rfl, below_dn (below_new (Below.refl _ _) _) _⟩

end Go.Proofs.YtpkamfbjgdmmoaaGreat
end

section
namespace Go.Proofs.YtpkamfbjgdmmoaaGreat
open Go.RowKit
set_option linter.unusedVariables false
set_option linter.unusedSimpArgs false

def trkL (t : Trk) : List Value := t.cells.toList
theorem trkL_ones (t : Trk) : ∀ u ∈ trkL t, u.oneCell' = true := by
  intro u hu
  simp only [trkL, Trk.cells, List.mem_cons, List.not_mem_nil, or_false] at hu
  rcases hu with rfl | rfl | rfl | rfl | rfl | rfl | rfl | rfl | rfl | rfl | rfl | rfl | rfl | rfl | rfl | rfl | rfl | rfl <;> rfl
def trk0 : Trk := ⟨0, 0, 0, 0, 0, 0, 0, 0, 0, 0, 0, 0, 0, 0, 0, 0, 0, 0⟩
theorem trackSize : (Tryz.prog.info? 26).map (fun i => (i.size, i.bytes)) = some (18, 144) := by kernel_rfl
theorem trackZero : (Tryz.prog.info? 26).bind (fun i => i.zero.map (fun z => decide ((match z with | .agg a => a.size | _ => 0) = 18))) = some true := by kernel_rfl
theorem trackInfo : ∃ i0 z b, Tryz.prog.info? 26 = some i0 ∧ i0.zero = some (.agg z) ∧ i0.size = 18 ∧ z.size = 18 ∧ i0.bytes = b ∧ b ≤ 8000 := by
  obtain ⟨i0, hi, hz⟩ := Option.map_eq_some_iff.1 trackSize
  simp only [Prod.mk.injEq] at hz
  have h := trackZero
  rw [hi] at h
  simp only [Option.bind_some, Option.map_eq_some_iff] at h
  obtain ⟨z, h1, h2⟩ := h
  have h3 := of_decide_eq_true h2
  cases z with
  | agg a => exact ⟨i0, a, _, hi, h1, hz.1, h3, hz.2, by decide⟩
  | _ => cases h3
def trkR : RowTy Tryz.prog Trk where
  T := 26
  S := 30
  k := 18
  f := trkL
  len := fun _ => rfl
  one := trkL_ones
  pos := by decide
  small := by decide
  slice := Tryz.underlying30
  info := trackInfo
  row := ⟨_, Tryz.underlying26, rfl⟩
end Go.Proofs.YtpkamfbjgdmmoaaGreat
end

section
namespace Go.Proofs.YtpkamfbjgdmmoaaGreat
open Go.RowKit
set_option linter.unusedVariables false
set_option linter.unusedSimpArgs false

theorem bound_Within (n a b : Int) (w : World) : Calls Tryz.prog 36 #[.int .i64 n, .int .i64 a, .int .i64 b] w fun e w' => e = .returned (.bool (decide (a ≤ n ∧ n ≤ b))) ∧ w' = w := by
  go_enter Tryz.func36, Tryz.ntmps36
  by_cases c : a ≤ n
  · by_cases d : n ≤ b
    · go_wp2
      exact bodyPost_ret (v := .bool true) (by simp [results, Tryz.results36, go_sem]) rfl ⟨by simp [c, d], rfl⟩
    · have hd : decide (n ≤ b) = false := by simpa using d
      go_wp2
      exact bodyPost_ret (v := .bool false) (by simp [results, Tryz.results36, go_sem]) rfl ⟨by simp <;> omega, rfl⟩
  · have hc : decide (a ≤ n) = false := by simpa using c
    go_wp2
    exact bodyPost_ret (v := .bool false) (by simp [results, Tryz.results36, go_sem]) rfl ⟨by simp <;> omega, rfl⟩
theorem bound_Below (n b : Int) (w : World) : Calls Tryz.prog 77 #[.int .i64 n, .int .i64 b] w fun e w' => e = .returned (.bool (decide (0 ≤ n ∧ n < b))) ∧ w' = w := by
  go_enter Tryz.func77, Tryz.ntmps77
  by_cases c : 0 ≤ n
  · by_cases d : n < b
    · go_wp2
      exact bodyPost_ret (v := .bool true) (by simp [results, Tryz.results77, go_sem]) rfl ⟨by simp [c, d], rfl⟩
    · have hd : decide (n < b) = false := by simpa using d
      go_wp2
      exact bodyPost_ret (v := .bool false) (by simp [results, Tryz.results77, go_sem]) rfl ⟨by simp <;> omega, rfl⟩
  · have hc : decide (0 ≤ n) = false := by simpa using c
    go_wp2
    exact bodyPost_ret (v := .bool false) (by simp [results, Tryz.results77, go_sem]) rfl ⟨by simp <;> omega, rfl⟩
theorem bound_Account (n : Int) (w : World) : Calls Tryz.prog 35 #[.int .i64 n] w fun e w' => e = .returned (.bool (decide (0 ≤ n ∧ n < 10))) ∧ w' = w := by
  go_enter Tryz.func35, Tryz.ntmps35
  go_wp2_with (first | (go_at_call 77; refine (bound_Below n 10 _).mono ?_; rintro e w' ⟨rfl, rfl⟩) | fail)
  exact bodyPost_ret (v := .bool (decide (0 ≤ n ∧ n < 10))) (by simp [results, Tryz.results35, go_sem]) rfl ⟨rfl, rfl⟩
theorem bound_Balance (n : Int) (w : World) : Calls Tryz.prog 71 #[.int .i64 n] w fun e w' => e = .returned (.bool (decide (0 ≤ n ∧ n ≤ 1073741824))) ∧ w' = w := by
  go_enter Tryz.func71, Tryz.ntmps71
  go_wp2_with (first | (go_at_call 36; refine (bound_Within n 0 1073741824 _).mono ?_; rintro e w' ⟨rfl, rfl⟩) | fail)
  exact bodyPost_ret (v := .bool (decide (0 ≤ n ∧ n ≤ 1073741824))) (by simp [results, Tryz.results71, go_sem]) rfl ⟨rfl, rfl⟩
end Go.Proofs.YtpkamfbjgdmmoaaGreat
end

section
namespace Go.Proofs.YtpkamfbjgdmmoaaGreat
open Go.RowKit
set_option linter.unusedVariables false

abbrev FP := Nat → Prop

/-- The streams are as they were; no block has gone. -/
structure Grow (W W' : World) : Prop where
  os : W'.os = W.os
  tape : W'.tape = W.tape
  output : W'.output = W.output
  size : W.heap.size ≤ W'.heap.size

theorem Grow.refl (W : World) : Grow W W := ⟨rfl, rfl, rfl, Nat.le_refl _⟩
theorem Grow.trans {A B C : World} (h : Grow A B) (k : Grow B C) : Grow A C := ⟨k.os.trans h.os, k.tape.trans h.tape, k.output.trans h.output, Nat.le_trans h.size k.size⟩
theorem Grow.of_below {N : Nat} {A B : World} (h : Below N A B) : Grow A B := ⟨h.os, h.tape, h.output, h.size⟩

/-- Besides the blocks of Ψ and of Φ, what was there is as it was. -/
structure Only (Ψ Φ : FP) (W W' : World) : Prop where
  grow : Grow W W'
  block : ∀ k, k < W.heap.size → ¬ Ψ k → ¬ Φ k → W'.heap[k]? = W.heap[k]?

theorem Only.refl (Ψ Φ : FP) (W : World) : Only Ψ Φ W W := ⟨Grow.refl W, fun _ _ _ _ => rfl⟩
theorem Only.trans {Ψ Φ Φ' : FP} {A B C : World} (h : Only Ψ Φ A B) (k : Only Ψ Φ' B C) (hΦ : ∀ j, Φ' j → Φ j ∨ A.heap.size ≤ j) : Only Ψ Φ A C :=
  ⟨h.grow.trans k.grow, fun j hj h1 h2 => (k.block j (Nat.lt_of_lt_of_le hj h.grow.size) h1 (fun h' => (hΦ j h').elim h2 (fun h => by omega))).trans (h.block j hj h1 h2)⟩
theorem Only.of_later {Ψ Φ : FP} {A B : World} (h : Below A.heap.size A B) : Only Ψ Φ A B := ⟨Grow.of_below h, fun j hj _ _ => h.block j hj⟩
theorem Only.below {Ψ Φ : FP} {A B : World} {N : Nat} (h : Only Ψ Φ A B) (hN : N ≤ A.heap.size) (hΨ : ∀ k, Ψ k → N ≤ k) (hΦ : ∀ k, Φ k → N ≤ k) : Below N A B :=
  ⟨h.grow.os, h.grow.tape, h.grow.output, h.grow.size, fun k hk => h.block k (by omega) (fun h' => by have := hΨ k h'; omega) (fun h' => by have := hΦ k h'; omega)⟩

/-- An assertion that depends on the blocks below B, and on those of Φ, which lie from B on. -/
def Stab {α : Type} (B : Nat) (J : List α → FP → World → Prop) : Prop :=
  ∀ pre Φ W, J pre Φ W → (∀ k, Φ k → B ≤ k ∧ k < W.heap.size) ∧ B ≤ W.heap.size ∧ ∀ W', Grow W W' → (∀ k, k < B ∨ Φ k → W'.heap[k]? = W.heap[k]?) → J pre Φ W'

/-- How a round, or a whole iteration, leaves the world. -/
def Leaves (Ψ Φ : FP) (W : World) (R : FP → World → Prop) (W' : World) : Prop :=
  ∃ Φ', (∀ k, Φ' k → Φ k ∨ W.heap.size ≤ k) ∧ Only Ψ Φ W W' ∧ R Φ' W'

/-- A call of yield. -/
def RoundOk {α : Type} (P : Program) (n l : Nat) (encs : α → Array Value) (Ψ : FP) (J Jx : List α → FP → World → Prop) (pre : List α) (x : α) (Φ : FP) (W : World) : Prop :=
  YieldAt Fence.wide n P l (encs x) W fun e W' => Leaves Ψ Φ W (fun Φ' W' => (e = .returned (.bool true) ∧ J (pre ++ [x]) Φ' W') ∨ (e = .returned (.bool false) ∧ Jx (pre ++ [x]) Φ' W')) W'

/-- AN ITERATOR's PROMISE: function gf, which has captured lb, tells xs, one behind the other, to whatever body, till that says no; its data lie in the blocks of G, as they lay in w. -/
def Iter {α : Type} (P : Program) (n : Nat) (gf : Nat) (lb : Array Value) (encs : α → Array Value) (xs : List α) (G : FP) (w : World) : Prop :=
  ∀ (l B : Nat) (Ψ : FP) (J Jx : List α → FP → World → Prop) (Φ0 : FP) (W : World), Grow w W → (∀ k, G k → k < w.heap.size ∧ W.heap[k]? = w.heap[k]?) → (∀ k, Ψ k → k < B ∧ ¬ G k) → (∀ k, Φ0 k → ¬ G k) → Stab B J → Stab B Jx →
    (∀ pre x Φ W1, (pre ++ [x]) <+: xs → J pre Φ W1 → RoundOk P n l encs Ψ J Jx pre x Φ W1) → J [] Φ0 W →
    CallsIn Fence.wide (n + 1) P gf (#[.func (.yield l) #[] #[]] ++ lb) W fun e W' => (∃ v, e = .returned v) ∧ Leaves Ψ Φ0 W (fun Φ' W' => J xs Φ' W' ∨ ∃ pre, pre <+: xs ∧ Jx pre Φ' W') W'

/-- How the body of a round may be left. -/
def bodyI {α : Type} (Ψ Φ : FP) (I : List α → FP → World → Prop) (Ix : Code → List α → FP → World → Prop) (ys : List α) (W : World) : Exit → Act → World → Prop
  | .normal, _, W' => Leaves Ψ Φ W (fun Φ' W' => I ys Φ' W') W'
  | .ret, _, W' => Leaves Ψ Φ W (fun Φ' W' => Ix .ret ys Φ' W') W'
  | .exit id, _, W' => Leaves Ψ Φ W (fun Φ' W' => Ix (.exit id) ys Φ' W') W'
  | .goto t, _, W' => Leaves Ψ Φ W (fun Φ' W' => Ix (.goto t) ys Φ' W') W'
  | .panic _, _, _ => False
  | .outgrown, _, _ => False

section
variable {P : Program} {α : Type}

theorem put_grow (W : World) (l : Nat) (o : Obj) : Grow W (W.putObj l o) := ⟨rfl, rfl, rfl, by simp [World.putObj]⟩
theorem put_other {W : World} {l k : Nat} {o : Obj} (h : k ≠ l) : (W.putObj l o).heap[k]? = W.heap[k]? := World.putObj_heap_other h

/-- A loop's record. -/
def recOf (fn : FuncId) (tm : Array Value) (ps : Array Tmp) (assign body : Code) (dfr : Nat) (st : LoopState) (pe : Option Code) : Loop := { state := st, pending := pe, fn, tmps := tm, params := ps, assign, body, defers := dfr }

/-- What a loop's invariant is to its iterator. -/
def InvJ (I : List α → FP → World → Prop) (l : Nat) (D : Option Nat) (r : Loop) (pre : List α) (Φ : FP) (W : World) : Prop :=
  I pre Φ W ∧ (∀ k, Φ k → l + 1 ≤ k) ∧ W.heap[l]? = some (.loop r) ∧ ∀ d, D = some d → W.heap[d]? = some (.deferred (some []))

theorem InvJ.stab {B l : Nat} {D : Option Nat} {I : List α → FP → World → Prop} {r : Loop} (hI : Stab B I) (hB : B ≤ l) (hD : ∀ d, D = some d → d < l) : Stab (l + 1) (InvJ I l D r) := by
  rintro pre Φ W ⟨hi, hΦ, hl, hd⟩
  obtain ⟨h1, h2, h3⟩ := hI _ _ _ hi
  have hlt : l < W.heap.size := (Array.getElem?_eq_some_iff.1 hl).1
  refine ⟨fun k hk => ⟨hΦ k hk, (h1 k hk).2⟩, hlt, fun W' hg hk => ⟨h3 W' hg (fun k hk' => hk k (hk'.imp (fun h => by omega) id)), hΦ, (hk l (.inl (by omega))).trans hl, fun d hdd => (hk d (.inl (by have := hD d hdd; omega))).trans (hd d hdd)⟩⟩

/-- One round, out of its body's walk: the record turns busy, then ready, or done. -/
theorem round_of_body {n l : Nat} {fn : FuncId} {encs : α → Array Value} {ps : Array Tmp} {assign body : Code} {tm : Array Value} {dfr : Nat} {Ψ : FP} {I : List α → FP → World → Prop} {Ix : Code → List α → FP → World → Prop} {B : Nat} (hI : Stab B I) (hIx : ∀ c, Stab B (Ix c))
    (hBJ : B ≤ l) (hΨ : ∀ k, Ψ k → k < B) (hps : ∀ x, (encs x).size = ps.size) {D : Option Nat} (hD : ∀ d, D = some d → B ≤ d ∧ d < l) (a₁ : α → Act) {pre : List α} {x : α} {Φ : FP} {W : World}
    (hJ : InvJ I l D (recOf fn tm ps assign body dfr .ready none) pre Φ W)
    (hassign : ∀ (W : World) (K : Act → World → Prop), K (a₁ x) W → assign.wpIn (Fence.wide.inRound l) n P (Exit.then K (fun _ _ _ => False)) { tmps := (ps.zip (encs x)).foldl (fun t (p, v) => t.setIfInBounds p v) tm, defers := [] } W)
    (hbody : ∀ W, I pre Φ W → (∀ k, Φ k → l + 1 ≤ k) → (∃ r, W.heap[l]? = some (.loop r)) → body.wpIn (Fence.wide.inRound l) n P (bodyI Ψ Φ I Ix (pre ++ [x]) W) (a₁ x) W) :
    RoundOk P n l encs (fun k => Ψ k ∨ k = l) (InvJ I l D (recOf fn tm ps assign body dfr .ready none))
      (fun pre Φ W => ∃ c, InvJ (Ix c) l D (recOf fn tm ps assign body dfr .done (some c)) pre Φ W) pre x Φ W := by
  obtain ⟨hi, hΦ, hl, hDW⟩ := hJ
  have hlt : l < W.heap.size := (Array.getElem?_eq_some_iff.1 hl).1
  have hy := run_yield (P := P) (args := encs x) hl (hps x)
  refine ⟨fn, _, assign, body, hy, roundIn_of_wpIn trivial (hassign W _ ⟨_, run_beginRound hl rfl, ?_⟩)⟩
  obtain ⟨W2, hW2⟩ : ∃ W2, W2 = W.putObj l (.loop { recOf fn tm ps assign body dfr .ready none with state := .busy }) := ⟨_, rfl⟩
  rw [← hW2]
  have hl2 : W2.heap[l]? = some (.loop (recOf fn tm ps assign body dfr .busy none)) := by rw [hW2]; exact World.putObj_heap_same hlt
  have hnl : ∀ k, Φ k → k ≠ l := fun k hk e => by have := hΦ k hk; omega
  have ho2 : ∀ k, k ≠ l → W2.heap[k]? = W.heap[k]? := fun k hk => by rw [hW2]; exact put_other hk
  have hi2 : I pre Φ W2 := (hI _ _ _ hi).2.2 _ (by rw [hW2]; exact put_grow _ _ _) (fun k hk => ho2 k (hk.elim (fun h => by omega) (fun h => hnl k h)))
  have hsz : W2.heap.size = W.heap.size := by rw [hW2]; simp [World.putObj]
  have hg2 : Grow W W2 := by rw [hW2]; exact put_grow _ _ _
  clear hW2
  refine wpIn_mono (hbody _ hi2 hΦ ⟨_, hl2⟩) ?_
  have fin : ∀ (jump : Option Code) (Φ' : FP) (W3 : World) (R : List α → FP → World → Prop), Only Ψ Φ W2 W3 → (∀ k, Φ' k → Φ k ∨ W2.heap.size ≤ k) → Stab B R → R (pre ++ [x]) Φ' W3 →
      ∃ W4, (Instr.endRound l jump).run P W3 = .ok (.bool jump.isNone) W4 ∧ (∀ k, Φ' k → Φ k ∨ W.heap.size ≤ k) ∧ Only (fun k => Ψ k ∨ k = l) Φ W W4 ∧
        InvJ R l D (recOf fn tm ps assign body dfr (if jump.isNone then .ready else .done) jump) (pre ++ [x]) Φ' W4 := by
    intro jump Φ' W3 R ho hn hS hR
    have hl3 : W3.heap[l]? = some (.loop (recOf fn tm ps assign body dfr .busy none)) := (ho.block l (by rw [hsz]; exact hlt) (fun h => by have := hΨ l h; omega) (fun h => hnl l h rfl)).trans hl2
    have hlt3 : l < W3.heap.size := (Array.getElem?_eq_some_iff.1 hl3).1
    rw [hsz] at hn
    have hΦ' : ∀ k, Φ' k → l + 1 ≤ k := fun k hk => (hn k hk).elim (hΦ k) (fun h => by omega)
    refine ⟨_, run_endRound (P := P) jump hl3, hn, ⟨(hg2.trans ho.grow).trans (put_grow _ _ _), fun k hk h1 h2 => ?_⟩, (hS _ _ _ hR).2.2 _ (put_grow _ _ _) (fun k hk => put_other ?_), hΦ', World.putObj_heap_same hlt3, fun d hd => ?_⟩
    · have hkl : k ≠ l := fun e => h1 (.inr e)
      exact (put_other hkl).trans ((ho.block k (by rw [hsz]; exact hk) (fun h => h1 (.inl h)) h2).trans (ho2 k hkl))
    · rcases hk with h | h
      · omega
      · have := hΦ' k h; omega
    · obtain ⟨d1, d2⟩ := hD d hd
      exact (put_other (by omega)).trans ((ho.block d (by omega) (fun h => by have := hΨ d h; omega) (fun h => by have := hΦ d h; omega)).trans ((ho2 d (by omega)).trans (hDW d hd)))
  rintro e a3 W3 hp
  cases e with
  | normal =>
    obtain ⟨Φ', hn, ho, hR⟩ := hp
    obtain ⟨W4, hr, h1, h2, h3⟩ := fin none Φ' W3 I ho hn hI hR
    exact ⟨_, _, hr, Φ', h1, h2, .inl ⟨rfl, h3⟩⟩
  | ret =>
    obtain ⟨Φ', hn, ho, hR⟩ := hp
    obtain ⟨W4, hr, h1, h2, h3⟩ := fin (some .ret) Φ' W3 (Ix .ret) ho hn (hIx _) hR
    exact ⟨_, _, hr, Φ', h1, h2, .inr ⟨rfl, .ret, h3⟩⟩
  | exit id =>
    obtain ⟨Φ', hn, ho, hR⟩ := hp
    obtain ⟨W4, hr, h1, h2, h3⟩ := fin (some (.exit id)) Φ' W3 (Ix (.exit id)) ho hn (hIx _) hR
    exact ⟨_, _, hr, Φ', h1, h2, .inr ⟨rfl, .exit id, h3⟩⟩
  | goto t =>
    obtain ⟨Φ', hn, ho, hR⟩ := hp
    obtain ⟨W4, hr, h1, h2, h3⟩ := fin (some (.goto t)) Φ' W3 (Ix (.goto t)) ho hn (hIx _) hR
    exact ⟨_, _, hr, Φ', h1, h2, .inr ⟨rfl, .goto t, h3⟩⟩
  | panic ch => exact hp.elim
  | outgrown => exact hp.elim

/-- **A LOOP OVER AN ITERATOR, in a function's own frame.** -/
theorem range_outer {n : Nat} {g : Operand} {ps : Array Tmp} {assign body : Code} {Q : Exit → Act → World → Prop} {a : Act} {w : World} {gf : Nat} {lb : Array Value} (hg : a.eval g = .func (.func gf) #[] lb) (eg : ∀ args w, (callFunc gf args).run P w = .ok (.enter gf args) w)
    {encs : α → Array Value} {xs : List α} {G : FP} {w0 : World} (hit : Iter P n gf lb encs xs G w0) (hg0 : Grow w0 w) (hG : ∀ k, G k → k < w0.heap.size ∧ w.heap[k]? = w0.heap[k]?) (hps : ∀ x, (encs x).size = ps.size)
    (Ψ : FP) (hΨ : ∀ k, Ψ k → k < w.heap.size ∧ ¬ G k) (I : List α → FP → World → Prop) (Ix : Code → List α → FP → World → Prop) (hI : Stab w.heap.size I) (hIx : ∀ c, Stab w.heap.size (Ix c)) (h0 : I [] (fun _ => False) w) (a₁ : α → Act)
    (hassign : ∀ (l : Nat) (x : α) (W : World) (K : Act → World → Prop), K (a₁ x) W → assign.wpIn (Fence.wide.inRound l) n P (Exit.then K (fun _ _ _ => False)) { tmps := (ps.zip (encs x)).foldl (fun t (p, v) => t.setIfInBounds p v) a.tmps, defers := [] } W)
    (hbody : ∀ (l : Nat) (pre : List α) (x : α) (Φ : FP) (W : World), (pre ++ [x]) <+: xs → I pre Φ W → w.heap.size < l → (∀ k, Φ k → l + 1 ≤ k) → (∃ r, W.heap[l]? = some (.loop r)) → body.wpIn (Fence.wide.inRound l) n P (bodyI Ψ Φ I Ix (pre ++ [x]) W) (a₁ x) W)
    (hdone : ∀ (D : Nat) (Φ : FP) (W : World), I xs Φ W → Only Ψ (fun _ => False) w W → w.heap.size ≤ D → ¬ Φ D → W.heap[D]? = some (.deferred (some [])) → Q .normal { a with defers := { target := .collected D, args := #[] } :: a.defers } W)
    (hstop : ∀ (D : Nat) (Φ : FP) (c : Code) (pre : List α) (W : World), pre <+: xs → Ix c pre Φ W → Only Ψ (fun _ => False) w W → w.heap.size ≤ D → ¬ Φ D → W.heap[D]? = some (.deferred (some [])) → c.wpIn Fence.wide (n + 2) P Q { a with defers := { target := .collected D, args := #[] } :: a.defers } W) :
    (Code.rangeFunc g ps assign body).wpIn Fence.wide (n + 2) P Q a w := by
  refine wpIn_rangeFunc ?_
  intro fn hfn
  obtain ⟨W1, hW1⟩ : ∃ W1, (w.alloc (.deferred (some []))).alloc (.loop (recOf fn a.tmps ps assign body w.heap.size .ready none)) = W1 := ⟨_, rfl⟩
  have hL1 : W1.heap[w.heap.size + 1]? = some (.loop (recOf fn a.tmps ps assign body w.heap.size .ready none)) := by
    rw [← hW1]; have := World.alloc_heap_new (w.alloc (.deferred (some []))) (.loop (recOf fn a.tmps ps assign body w.heap.size .ready none)); rwa [World.size_alloc] at this
  have hK1 : W1.heap[w.heap.size]? = some (.deferred (some [])) := by
    rw [← hW1]; exact (Below.heap_alloc _ _ _ (by simp)).trans (World.alloc_heap_new w _)
  have hB1 : Below w.heap.size w W1 := by rw [← hW1]; exact ((Below.refl _ w).alloc (Nat.le_refl _) _).alloc (by simp) _
  have hsz : W1.heap.size = w.heap.size + 2 := by rw [← hW1]; simp
  have hi1 : I [] (fun _ => False) W1 := (hI _ _ _ h0).2.2 _ (Grow.of_below hB1) (fun k hk => hk.elim (fun h => hB1.block k h) (fun h => h.elim))
  refine ⟨w.heap.size + 1, [{ target := .collected w.heap.size, args := #[] }], W1, { target := .fn (.func gf) lb, args := #[.func (.yield (w.heap.size + 1)) #[] #[]] }, W1, gf,
    #[.func (.yield (w.heap.size + 1)) #[] #[]] ++ lb, W1, ?_, ?_, ?_, ?_, fun h => by simp [Fence.wide] at h, ?_⟩
  · rw [← hW1]; exact run_enterLoop_outer _ _ _ _ _
  · simp only [resolve, hg]
    simp [go_sem]
  · intro f' hf'; simp [Target.leads] at hf'; subst hf'; trivial
  · simp [invoke, go_sem, eg]
  · have hD : ∀ d, some w.heap.size = some d → w.heap.size ≤ d ∧ d < w.heap.size + 1 := fun d hd => by cases hd; omega
    refine (hit (w.heap.size + 1) (w.heap.size + 2) (fun k => Ψ k ∨ k = w.heap.size + 1) (InvJ I (w.heap.size + 1) (some w.heap.size) (recOf fn a.tmps ps assign body w.heap.size .ready none))
      (fun pre Φ W => ∃ c, InvJ (Ix c) (w.heap.size + 1) (some w.heap.size) (recOf fn a.tmps ps assign body w.heap.size .done (some c)) pre Φ W) (fun _ => False) W1 (hg0.trans (Grow.of_below hB1))
      (fun k hk => ⟨(hG k hk).1, (hB1.block k (Nat.lt_of_lt_of_le (hG k hk).1 hg0.size)).trans (hG k hk).2⟩) (fun k hk => ?_) (fun _ h => h.elim) (InvJ.stab hI (by omega) (fun d hd => (hD d hd).2)) ?_ ?_ ⟨hi1, fun _ h => h.elim, hL1, fun d hd => by cases hd; exact hK1⟩).mono ?_
    · rcases hk with h | h
      · exact ⟨by have := (hΨ k h).1; omega, (hΨ k h).2⟩
      · exact ⟨by omega, fun hg' => by have := (hG k hg').1; have := hg0.size; omega⟩
    · rintro pre Φ W ⟨c, hc⟩
      obtain ⟨h1, h2, h3⟩ := InvJ.stab (hIx c) (by omega) (fun d hd => (hD d hd).2) _ _ _ hc
      exact ⟨h1, h2, fun W' hg' hk => ⟨c, h3 W' hg' hk⟩⟩
    · intro pre x Φ W hpx hJ
      exact round_of_body hI hIx (by omega) (fun k hk => (hΨ k hk).1) hps hD a₁ hJ (fun W K hK => hassign _ x W K hK) (fun W hi hΦ hr => hbody _ pre x Φ W hpx hi (by omega) hΦ hr)
    · have fine : ∀ W2, Only (fun k => Ψ k ∨ k = w.heap.size + 1) (fun _ => False) W1 W2 → ∀ r, Only Ψ (fun _ => False) w (W2.putObj (w.heap.size + 1) (.loop r)) := fun W2 ho r =>
        ⟨((Grow.of_below hB1).trans ho.grow).trans (put_grow _ _ _), fun k hk h1 h2 => (put_other (by omega)).trans ((ho.block k (by omega) (fun h => h.elim h1 (by omega)) h2).trans (hB1.block k hk))⟩
      rintro e W2 ⟨⟨v, rfl⟩, Φ', hn, ho, (⟨hi, hΦ, hl, hk⟩ | ⟨pre, hpre, c, hi, hΦ, hl, hk⟩)⟩
      · have hnD : ¬ Φ' w.heap.size := fun h => by have := hΦ _ h; omega
        refine ⟨none, _, run_endLoop (P := P) hl (by simp [recOf]), hdone _ Φ' _ ?_ (fine W2 ho _) (Nat.le_refl _) hnD ((put_other (by omega)).trans (hk _ rfl))⟩
        exact (hI _ _ _ hi).2.2 _ (put_grow _ _ _) (fun k hk' => put_other (hk'.elim (fun h => by omega) (fun h => by have := hΦ k h; omega)))
      · have hnD : ¬ Φ' w.heap.size := fun h => by have := hΦ _ h; omega
        refine ⟨some c, _, run_endLoop (P := P) hl (by simp [recOf]), hstop _ Φ' c pre _ hpre ?_ (fine W2 ho _) (Nat.le_refl _) hnD ((put_other (by omega)).trans (hk _ rfl))⟩
        exact (hIx c _ _ _ hi).2.2 _ (put_grow _ _ _) (fun k hk' => put_other (hk'.elim (fun h => by omega) (fun h => by have := hΦ k h; omega)))

end
end Go.Proofs.YtpkamfbjgdmmoaaGreat
end

section
namespace Go.Proofs.YtpkamfbjgdmmoaaGreat
open Go.RowKit Go.Maps
set_option linter.unusedVariables false
set_option linter.unusedSimpArgs false

/-- Tracks, and a table of referenda, which lie in the blocks of F. -/
def ReAt (F : FP) (r : Nat) (ts : List Trk) (w : World) : Prop :=
  ∃ tb cap gp, w.heap[r]? = some (.cells #[.slice (some ⟨tb, 0, none⟩) ts.length cap, gp] 93 (0, 0)) ∧ w.rangeAt tb 0 (trkR.all ts) ∧ F r ∧ F tb ∧ tb < w.heap.size ∧ ts.length ≤ 100
section
variable {F : FP} {r : Nat} {ts : List Trk} {w w' : World}
theorem ReAt.keep (h : ReAt F r ts w) (hs : w.heap.size ≤ w'.heap.size) (hk : ∀ k, F k → k < w.heap.size → w'.heap[k]? = w.heap[k]?) : ReAt F r ts w' := by
  obtain ⟨tb, cap, gp, h1, h2, h3, h4, h5, h6⟩ := h
  exact ⟨tb, cap, gp, (hk r h3 (Array.getElem?_eq_some_iff.1 h1).1).trans h1, rangeAt_block h2 (hk tb h4 h5), h3, h4, Nat.lt_of_lt_of_le h5 hs, h6⟩
theorem ReAt.below (h : ReAt F r ts w) (hb : Below w.heap.size w w') : ReAt F r ts w' := h.keep hb.size (fun k _ hk => hb.block k hk)
theorem ReAt.mono {F' : FP} (h : ReAt F r ts w) (hF : ∀ k, F k → F' k) : ReAt F' r ts w := by
  obtain ⟨tb, cap, gp, h1, h2, h3, h4, h5⟩ := h
  exact ⟨tb, cap, gp, h1, h2, hF _ h3, hF _ h4, h5⟩
end
set_option maxRecDepth 100000 in
set_option maxHeartbeats 4000000 in
theorem refer_Track {F : FP} {r : Nat} {ts : List Trk} {w : World} (h : ReAt F r ts w) {k : Nat} (hk : k < ts.length) :
    Calls Tryz.prog 30 #[.pointer (some ⟨r, 0, none⟩), .int .i64 k] w fun e w' => e = .returned (.tuple #[.agg (trkR.f ts[k]).toArray, .bool true]) ∧ Below w.heap.size w w' := by
  obtain ⟨tb, cap, gp, h1, h2, h3, h4, h5, h6⟩ := h
  obtain ⟨n, hn⟩ : ∃ n, n = ts.length := ⟨_, rfl⟩
  rw [← hn] at h1
  have c0 : w.cell? ⟨r, 0, none⟩ = some (.slice (some ⟨tb, 0, none⟩) n cap) := by rw [World.cell?, h1]; rfl
  have hr : w.rangeAt tb (k * 18) (trkR.f ts[k]) := fun j u hj => by
    have hj18 : j < 18 := by have := (List.getElem?_eq_some_iff.1 hj).1; rwa [trkR.len] at this
    have := h2 (k * 18 + j) u (by rw [show k * 18 + j = k * trkR.k + j from rfl, trkR.all_at hk hj18]; exact hj)
    rwa [Nat.zero_add] at this
  obtain ⟨t, ht⟩ : ∃ t, t = ts[k] := ⟨_, rfl⟩
  rw [← ht] at hr ⊢
  have hrlt : r < w.heap.size := (Array.getElem?_eq_some_iff.1 h1).1
  have hkn : (k : Int) < n := by omega
  have hk0 : (0 : Int) ≤ k := by omega
  have hd : decide ((0 : Int) ≤ (k : Int) ∧ (k : Int) < (n : Int)) = true := decide_eq_true ⟨hk0, hkn⟩
  have hkn' : k < n := by omega
  have HD := Lib.hid hd
  have c0' : ∀ C, (w.alloc (.cells C 26)).cell? ⟨r, 0, none⟩ = some (.slice (some ⟨tb, 0, none⟩) n cap) := fun C => (World.cell?_of_block (Below.heap_alloc _ _ _ hrlt)).trans c0
  have hr' : ∀ C, (w.alloc (.cells C 26)).rangeAt tb (k * 18) (trkR.f t) := fun C => rangeAt_block hr (Below.heap_alloc _ _ _ h5)
  have HR := Lib.hid hr'
  have HC := Lib.hid c0'
  clear h1 h2 h3 h4 ht hn hd hr hr' c0' hk h6 c0
  go_enter Tryz.func30, Tryz.ntmps30
  go_wp2_with (first
    | (refine wpl_allocR (r := trkR) (ty := 26) rfl rfl rfl ?_; intro C hC; have c1 := HC.out C)
    | (go_at_call 77; refine (bound_Below _ _ _).mono ?_; rw [HD.out]; rintro e w' ⟨rfl, hw⟩; rw [hw]; clear hw w')
    | (refine wpl_loadR (r := trkR) (t := t) _ rfl rfl rfl (HR.out C) ?_)
    | (refine wpl_storeR (r := trkR) (ty := 26) (t := t) (C := C) _ _ rfl rfl rfl rfl rfl (World.alloc_heap_new w _) hC ?_; rw [World.setRow_alloc_new])
    | fail)
  exact bodyPost_ret (v := .tuple #[.agg (trkR.f t).toArray, .bool true]) (by exact results_R2 (r := trkR) (t := t) (b := w.heap.size) Tryz.results30 rfl rfl (rangeAt_whole (T := 26) (World.alloc_heap_new _ _))) rfl ⟨rfl, (Below.refl _ w).alloc (Nat.le_refl _) _⟩
set_option maxRecDepth 100000 in
set_option maxHeartbeats 4000000 in
theorem refer_Track_no {F : FP} {r : Nat} {ts : List Trk} {w : World} (h : ReAt F r ts w) {k : Int} (hk : ¬ (0 ≤ k ∧ k < ts.length)) :
    Calls Tryz.prog 30 #[.pointer (some ⟨r, 0, none⟩), .int .i64 k] w fun e w' => e = .returned (.tuple #[.agg (trkR.f trk0).toArray, .bool false]) ∧ Below w.heap.size w w' := by
  obtain ⟨tb, cap, gp, h1, h2, h3, h4, h5, h6⟩ := h
  obtain ⟨n, hn⟩ : ∃ n, n = ts.length := ⟨_, rfl⟩
  rw [← hn] at h1 hk
  have c0 : w.cell? ⟨r, 0, none⟩ = some (.slice (some ⟨tb, 0, none⟩) n cap) := by rw [World.cell?, h1]; rfl
  have hrlt : r < w.heap.size := (Array.getElem?_eq_some_iff.1 h1).1
  have hd : decide ((0 : Int) ≤ k ∧ k < (n : Int)) = false := decide_eq_false hk
  have HD := Lib.hid hd
  have c0' : ∀ C, (w.alloc (.cells C 26)).cell? ⟨r, 0, none⟩ = some (.slice (some ⟨tb, 0, none⟩) n cap) := fun C => (World.cell?_of_block (Below.heap_alloc _ _ _ hrlt)).trans c0
  have HC := Lib.hid c0'
  clear h1 h2 h3 h4 hn hd c0' hk h6 c0
  go_enter Tryz.func30, Tryz.ntmps30
  go_wp2_with (first
    | (refine wpl_allocR (r := trkR) (ty := 26) rfl rfl rfl ?_; intro C hC; have c1 := HC.out C)
    | (go_at_call 77; refine (bound_Below _ _ _).mono ?_; rw [HD.out]; rintro e w' ⟨rfl, hw⟩; rw [hw]; clear hw w')
    | (refine wpl_storeR (r := trkR) (ty := 26) (t := trk0) (C := C) _ _ rfl rfl rfl rfl rfl (World.alloc_heap_new w _) hC ?_; rw [World.setRow_alloc_new])
    | fail)
  exact bodyPost_ret (v := .tuple #[.agg (trkR.f trk0).toArray, .bool false]) (by exact results_R2 (r := trkR) (t := trk0) (b := w.heap.size) Tryz.results30 rfl rfl (rangeAt_whole (T := 26) (World.alloc_heap_new _ _))) rfl ⟨rfl, (Below.refl _ w).alloc (Nat.le_refl _) _⟩
end Go.Proofs.YtpkamfbjgdmmoaaGreat
end

section
namespace Go.Proofs.YtpkamfbjgdmmoaaGreat
open Go.RowKit Go.Maps
set_option linter.unusedVariables false
set_option linter.unusedSimpArgs false

end Go.Proofs.YtpkamfbjgdmmoaaGreat
end

section
namespace Go.Proofs.YtpkamfbjgdmmoaaGreat
open Go.RowKit Go.Maps
set_option linter.unusedVariables false
set_option linter.unusedSimpArgs false

/-- Tracks that may be. -/
def newB (ts : List Trk) : Bool := decide (1 ≤ ts.length ∧ ts.length ≤ 4) && ts.all trackB
theorem slices_CloneT {v : Value} {ts : List Trk} {w : World} {b cap : Nat} (hr : w.rangeAt b 0 (trkR.all ts)) (hb : b < w.heap.size) (hc : ts.length ≤ cap) (hl : ts.length ≤ 1000) :
    Calls Tryz.prog 79 #[.slice (some ⟨b, 0, none⟩) ts.length cap] w fun e w' => ∃ g c, e = .returned (.slice (some ⟨g, 0, none⟩) ts.length c) ∧ w.heap.size ≤ g ∧ OwnR trkR w.heap.size (.slice (some ⟨g, 0, none⟩) ts.length c) ts w' ∧ Below w.heap.size w w' := by
  have NS : ∀ (a : Addr) (n c : Nat) (w : World), (binOp .eql 30 (.slice (some a) n c) (.slice none 0 0)).run Tryz.prog w = .ok (.bool false) w := fun a n c w => by
    have h1 : ∀ d, (Op.equalIn (d + 1) 30 (.slice (some a) n c) (.slice none 0 0)).run Tryz.prog w = .ok false w := fun d => by simp [Op.equalIn, run_underlying Tryz.underlying30]
    have h2 := h1 9999
    rw [show (9999 + 1 : Nat) = 10000 from rfl] at h2
    simp only [binOp]
    simp [Op.equal, Op.maxDepth, h2]
  obtain ⟨n, hn⟩ : ∃ n, n = ts.length := ⟨_, rfl⟩
  have hrd : RdR trkR w (.slice (some ⟨b, 0, none⟩) n cap) ts := by rw [hn]; exact .inr ⟨b, 0, cap, rfl, hc, hb, hr⟩
  have hown : OwnR trkR w.heap.size (.slice (some ⟨w.heap.size, 0, none⟩) 0 0) [] (w.alloc (.cells #[] 26)) := OwnR.none (r := trkR) (World.alloc_heap_new w _) (Nat.le_refl _)
  have HRD := Lib.hid (hrd.below ((Below.refl _ w).alloc (Nat.le_refl _) (.cells #[] 26)))
  have HO := Lib.hid hown
  have HL := Lib.hid hl
  rw [← hn]
  have HN := Lib.hid hn
  clear hr hb hc hl hrd hown hn
  go_enter Tryz.func79, Tryz.ntmps79
  go_wp2_with (first
    | (refine wpl_noneR (r := trkR) rfl rfl ?_)
    | (refine wpl_appsR (r := trkR) (u := .slice (some ⟨b, 0, none⟩) n cap) (v := .slice (some ⟨w.heap.size, 0, none⟩) 0 0) (xs := []) (ys := ts) rfl rfl rfl rfl HO.out HRD.out (by have := HL.out; simp; omega) (by simp) ?_; intro v1 w1 ho hg hat; have H1 := Lib.hid (And.intro ho (And.intro hg hat)); clear ho hg hat)
    | fail)
  have ho := H1.out.1
  rw [List.nil_append] at ho
  have hb1 : Below w.heap.size w w1 := Below.grown ((Below.refl _ w).alloc (Nat.le_refl _) _) H1.out.2.1 (by simp) (fun k hk => by have hk' : some w.heap.size = some k := hk; injection hk' with hk'; omega)
  rcases ho.2 with ⟨rfl, h0⟩ | ⟨g, c, cur, rfl, h1, -⟩
  · exfalso
    rcases H1.out.2.2 with e | e <;> cases e
  · rw [← HN.out] at ho ⊢
    exact bodyPost_ret (v := .slice (some ⟨g, 0, none⟩) n c) (by simp [results, Tryz.results79, go_sem]) rfl ⟨g, c, rfl, h1, ho, hb1⟩
theorem track_IsR (t : Trk) (w : World) : Calls Tryz.prog 78 #[.agg (trkR.f t).toArray] w fun e w' => e = .returned (.bool (trackB t)) ∧ Below w.heap.size w w' := track_Is t w
end Go.Proofs.YtpkamfbjgdmmoaaGreat
end

section
namespace Go.Proofs.YtpkamfbjgdmmoaaGreat
set_option linter.unusedVariables false
set_option linter.unusedSimpArgs false

section ext
variable {α : Type} {r : α → α → Prop}
theorem sorted_ext (irr : ∀ a, ¬ r a a) (tr : ∀ a b c, r a b → r b c → r a c) : ∀ {l m : List α}, l.Pairwise r → m.Pairwise r → (∀ x, x ∈ l ↔ x ∈ m) → l = m
  | [], [], _, _, _ => rfl
  | [], b :: m, _, _, h => by have := (h b).2 (by simp); simp at this
  | a :: l, [], _, _, h => by have := (h a).1 (by simp); simp at this
  | a :: l, b :: m, h1, h2, h => by
    have hp1 := List.pairwise_cons.1 h1
    have hp2 := List.pairwise_cons.1 h2
    have e : a = b := by
      rcases List.mem_cons.1 ((h a).1 (by simp)) with e | e
      · exact e
      · rcases List.mem_cons.1 ((h b).2 (by simp)) with e' | e'
        · exact e'.symm
        · exact absurd (tr _ _ _ (hp2.1 a e) (hp1.1 b e')) (irr b)
    subst e
    rw [sorted_ext irr tr hp1.2 hp2.2 (fun x => ?_)]
    have hx := h x
    constructor
    · intro hm
      rcases List.mem_cons.1 (hx.1 (List.mem_cons_of_mem _ hm)) with e | e
      · subst e; exact absurd (hp1.1 x hm) (irr x)
      · exact e
    · intro hm
      rcases List.mem_cons.1 (hx.2 (List.mem_cons_of_mem _ hm)) with e | e
      · subst e; exact absurd (hp2.1 x hm) (irr x)
      · exact e
end ext

/-- Sorted by number. -/
def SrtK {β : Type} (m : List (Int × β)) : Prop := m.Pairwise (fun x y => x.1 < y.1)
def lexlt (a b : Int × Int) : Prop := a.1 < b.1 ∨ (a.1 = b.1 ∧ a.2 < b.2)
instance : DecidableRel lexlt := fun a b => by unfold lexlt; infer_instance
/-- Sorted by both numbers. -/
def SrtC {β : Type} (m : List ((Int × Int) × β)) : Prop := m.Pairwise (fun x y => lexlt x.1 y.1)

section
variable {κ β : Type}
def ins (lt : κ → κ → Prop) [DecidableRel lt] (x : κ × β) : List (κ × β) → List (κ × β)
  | [] => [x]
  | y :: l => if lt x.1 y.1 then x :: y :: l else y :: ins lt x l
theorem mem_ins (lt : κ → κ → Prop) [DecidableRel lt] (x z : κ × β) : ∀ l, z ∈ ins lt x l ↔ z = x ∨ z ∈ l
  | [] => by simp [ins]
  | y :: l => by
    unfold ins
    split
    · simp
    · rw [List.mem_cons, mem_ins lt x z l, List.mem_cons]
      constructor
      · rintro (h | h | h)
        · exact .inr (.inl h)
        · exact .inl h
        · exact .inr (.inr h)
      · rintro (h | h | h)
        · exact .inr (.inl h)
        · exact .inl h
        · exact .inr (.inr h)
theorem length_ins (lt : κ → κ → Prop) [DecidableRel lt] (x : κ × β) : ∀ l, (ins lt x l).length = l.length + 1
  | [] => rfl
  | y :: l => by
    unfold ins
    split
    · rfl
    · simp [length_ins lt x l]
theorem srt_ins (lt : κ → κ → Prop) [DecidableRel lt] (tr : ∀ a b c, lt a b → lt b c → lt a c) (x : κ × β) : ∀ l : List (κ × β), l.Pairwise (fun a b => lt a.1 b.1) → (∀ y ∈ l, lt x.1 y.1 ∨ lt y.1 x.1) → (ins lt x l).Pairwise (fun a b => lt a.1 b.1)
  | [], _, _ => by simp [ins]
  | y :: l, h, ht => by
    have hp := List.pairwise_cons.1 h
    unfold ins
    split
    · rename_i hlt
      refine List.pairwise_cons.2 ⟨fun z hz => ?_, h⟩
      rcases List.mem_cons.1 hz with e | e
      · rw [e]; exact hlt
      · exact tr _ _ _ hlt (hp.1 z e)
    · rename_i hlt
      refine List.pairwise_cons.2 ⟨fun z hz => ?_, srt_ins lt tr x l hp.2 (fun z hz => ht z (List.mem_cons_of_mem _ hz))⟩
      rcases (mem_ins lt x z l).1 hz with e | e
      · rw [e]; exact (ht y (by simp)).resolve_left hlt
      · exact hp.1 z e
end

section
variable {β : Type}
def sget (m : List (Int × β)) (k : Int) : Option β := (m.find? (fun x => x.1 == k)).map (·.2)
def sdel (m : List (Int × β)) (k : Int) : List (Int × β) := m.filter (fun x => !(x.1 == k))
def sput (m : List (Int × β)) (k : Int) (v : β) : List (Int × β) := ins (fun a b : Int => a < b) (k, v) (sdel m k)
theorem mem_sdel {m : List (Int × β)} {k : Int} {x : Int × β} : x ∈ sdel m k ↔ x ∈ m ∧ x.1 ≠ k := by simp [sdel]
theorem mem_sput {m : List (Int × β)} {k : Int} {v : β} {x : Int × β} : x ∈ sput m k v ↔ x = (k, v) ∨ (x ∈ m ∧ x.1 ≠ k) := by rw [sput, mem_ins, mem_sdel]
theorem SrtK.del {m : List (Int × β)} (h : SrtK m) (k : Int) : SrtK (sdel m k) := List.Pairwise.filter _ h
theorem SrtK.put {m : List (Int × β)} (h : SrtK m) (k : Int) (v : β) : SrtK (sput m k v) := by
  refine srt_ins (fun a b : Int => a < b) (fun a b c h1 h2 => Int.lt_trans h1 h2) (k, v) _ (h.del k) (fun y hy => ?_)
  have := (mem_sdel.1 hy).2
  show k < y.1 ∨ y.1 < k
  omega
theorem SrtK.ext {m m' : List (Int × β)} (h : SrtK m) (h' : SrtK m') (hm : ∀ x, x ∈ m ↔ x ∈ m') : m = m' :=
  sorted_ext (r := fun x y : Int × β => x.1 < y.1) (fun a h => by omega) (fun a b c h1 h2 => by omega) h h' hm
theorem SrtK.one {m : List (Int × β)} (h : SrtK m) {x y : Int × β} (hx : x ∈ m) (hy : y ∈ m) (e : x.1 = y.1) : x = y := by
  induction m with
  | nil => simp at hx
  | cons a m ih =>
    have hp := List.pairwise_cons.1 h
    rcases List.mem_cons.1 hx with rfl | hx' <;> rcases List.mem_cons.1 hy with rfl | hy'
    · rfl
    · have := hp.1 y hy'; omega
    · have := hp.1 x hx'; omega
    · exact ih hp.2 hx' hy'
theorem sget_mem {m : List (Int × β)} {k : Int} {v : β} (h : sget m k = some v) : (k, v) ∈ m := by
  unfold sget at h
  obtain ⟨x, hx, e⟩ := Option.map_eq_some_iff.1 h
  have h1 := List.find?_some hx
  have h2 := List.mem_of_find?_eq_some hx
  simp at h1
  obtain ⟨a, b⟩ := x
  simp at h1 e
  subst h1 e
  exact h2
theorem sget_none {m : List (Int × β)} {k : Int} : sget m k = none ↔ ∀ v, (k, v) ∉ m := by
  unfold sget
  rw [Option.map_eq_none_iff, List.find?_eq_none]
  constructor
  · intro h v hm
    exact h _ hm (by simp)
  · rintro h ⟨a, b⟩ hm e
    simp at e
    subst e
    exact h b hm
theorem SrtK.get {m : List (Int × β)} (h : SrtK m) {k : Int} {v : β} : sget m k = some v ↔ (k, v) ∈ m := by
  refine ⟨sget_mem, fun hm => ?_⟩
  cases e : sget m k with
  | none => exact absurd hm (sget_none.1 e v)
  | some u =>
    have := h.one (sget_mem e) hm rfl
    simpa using this
theorem SrtK.get_put {m : List (Int × β)} (h : SrtK m) (k j : Int) (v : β) : sget (sput m k v) j = if j = k then some v else sget m j := by
  by_cases e : j = k
  · subst e; simp only [if_true]
    exact (h.put j v).get.2 (mem_sput.2 (.inl rfl))
  · simp only [e, if_false]
    cases e' : sget m j with
    | none => exact sget_none.2 (fun u hu => by
        rcases mem_sput.1 hu with h' | h'
        · simp at h'; exact e h'.1
        · exact sget_none.1 e' u h'.1)
    | some u => exact (h.put k v).get.2 (mem_sput.2 (.inr ⟨sget_mem e', e⟩))
theorem SrtK.get_del {m : List (Int × β)} (h : SrtK m) (k j : Int) : sget (sdel m k) j = if j = k then none else sget m j := by
  by_cases e : j = k
  · subst e; simp only [if_true]
    exact sget_none.2 (fun u hu => (mem_sdel.1 hu).2 rfl)
  · simp only [e, if_false]
    cases e' : sget m j with
    | none => exact sget_none.2 (fun u hu => sget_none.1 e' u (mem_sdel.1 hu).1)
    | some u => exact (h.del k).get.2 (mem_sdel.2 ⟨sget_mem e', e⟩)
theorem sdel_none {m : List (Int × β)} {k : Int} (h : sget m k = none) : sdel m k = m := by
  unfold sdel
  rw [List.filter_eq_self]
  rintro ⟨a, b⟩ hm
  simp
  rintro rfl
  exact sget_none.1 h b hm
theorem SrtK.length_del {m : List (Int × β)} (h : SrtK m) (k : Int) : (sdel m k).length + (if (sget m k).isSome then 1 else 0) = m.length := by
  induction m with
  | nil => rfl
  | cons x m ih =>
    have hp := List.pairwise_cons.1 h
    by_cases e : x.1 = k
    · have h1 : sdel m k = m := sdel_none (sget_none.2 (fun v hv => by have := hp.1 _ hv; simp at this; omega))
      have h2 : sdel (x :: m) k = m := by rw [← h1]; simp [sdel, e]
      have h3 : sget (x :: m) k = some x.2 := by simp [sget, e]
      rw [h2, h3]; rfl
    · have h2 : sdel (x :: m) k = x :: sdel m k := by simp [sdel, e]
      have h3 : sget (x :: m) k = sget m k := by simp [sget, e]
      rw [h2, h3, List.length_cons, List.length_cons, ← ih hp.2]
      omega
theorem SrtK.length_put {m : List (Int × β)} (h : SrtK m) (k : Int) (v : β) : (sput m k v).length = if (sget m k).isSome then m.length else m.length + 1 := by
  have := h.length_del k
  rw [sput, length_ins]
  split <;> simp_all <;> omega
end

section
variable {β : Type}
abbrev Cls (β : Type) := List ((Int × Int) × β)
def rowOf (M : Cls β) (a : Int) : List (Int × β) := M.filterMap (fun c => if c.1.1 = a then some (c.1.2, c.2) else none)
def colOf (M : Cls β) (b : Int) : List (Int × β) := M.filterMap (fun c => if c.1.2 = b then some (c.1.1, c.2) else none)
def cget (M : Cls β) (a b : Int) : Option β := sget (rowOf M a) b
def cdel (M : Cls β) (a b : Int) : Cls β := M.filter (fun x => !(x.1 == (a, b)))
def cput (M : Cls β) (a b : Int) (v : β) : Cls β := ins lexlt ((a, b), v) (cdel M a b)
theorem mem_rowOf {M : Cls β} {a : Int} {x : Int × β} : x ∈ rowOf M a ↔ ((a, x.1), x.2) ∈ M := by
  simp only [rowOf, List.mem_filterMap]
  constructor
  · rintro ⟨⟨⟨i, j⟩, v⟩, hm, h⟩
    simp at h
    obtain ⟨rfl, rfl⟩ := h
    exact hm
  · intro h
    exact ⟨_, h, by simp⟩
theorem mem_colOf {M : Cls β} {b : Int} {x : Int × β} : x ∈ colOf M b ↔ ((x.1, b), x.2) ∈ M := by
  simp only [colOf, List.mem_filterMap]
  constructor
  · rintro ⟨⟨⟨i, j⟩, v⟩, hm, h⟩
    simp at h
    obtain ⟨rfl, rfl⟩ := h
    exact hm
  · intro h
    exact ⟨_, h, by simp⟩
theorem mem_cdel {M : Cls β} {a b : Int} {x : (Int × Int) × β} : x ∈ cdel M a b ↔ x ∈ M ∧ x.1 ≠ (a, b) := by simp [cdel]
theorem mem_cput {M : Cls β} {a b : Int} {v : β} {x : (Int × Int) × β} : x ∈ cput M a b v ↔ x = ((a, b), v) ∨ (x ∈ M ∧ x.1 ≠ (a, b)) := by rw [cput, mem_ins, mem_cdel]
theorem lexlt_tr (a b c : Int × Int) (h : lexlt a b) (k : lexlt b c) : lexlt a c := by unfold lexlt at *; omega
theorem lexlt_ir (a : Int × Int) : ¬ lexlt a a := by unfold lexlt; omega
theorem lexlt_tot {a b : Int × Int} (h : b ≠ a) : lexlt a b ∨ lexlt b a := by
  obtain ⟨a1, a2⟩ := a
  obtain ⟨b1, b2⟩ := b
  simp [lexlt] at *
  omega
theorem SrtC.del {M : Cls β} (h : SrtC M) (a b : Int) : SrtC (cdel M a b) := List.Pairwise.filter _ h
theorem SrtC.put {M : Cls β} (h : SrtC M) (a b : Int) (v : β) : SrtC (cput M a b v) :=
  srt_ins _ lexlt_tr _ _ (h.del a b) (fun y hy => lexlt_tot (mem_cdel.1 hy).2)
theorem SrtC.ext {M M' : Cls β} (h : SrtC M) (h' : SrtC M') (hm : ∀ x, x ∈ M ↔ x ∈ M') : M = M' :=
  sorted_ext (r := fun x y : (Int × Int) × β => lexlt x.1 y.1) (fun a => lexlt_ir _) (fun a b c => lexlt_tr _ _ _) h h' hm
theorem SrtC.row {M : Cls β} (h : SrtC M) (a : Int) : SrtK (rowOf M a) := by
  refine List.Pairwise.filterMap _ ?_ h
  rintro ⟨⟨i, j⟩, v⟩ ⟨⟨i', j'⟩, v'⟩ hlt x hx y hy
  simp at hx hy
  obtain ⟨rfl, rfl⟩ := hx
  obtain ⟨rfl, rfl⟩ := hy
  simp [lexlt] at hlt
  exact hlt
theorem SrtC.col {M : Cls β} (h : SrtC M) (b : Int) : SrtK (colOf M b) := by
  refine List.Pairwise.filterMap _ ?_ h
  rintro ⟨⟨i, j⟩, v⟩ ⟨⟨i', j'⟩, v'⟩ hlt x hx y hy
  simp at hx hy
  obtain ⟨rfl, rfl⟩ := hx
  obtain ⟨rfl, rfl⟩ := hy
  simp [lexlt] at hlt
  exact hlt
theorem SrtC.row_put {M : Cls β} (h : SrtC M) (a b : Int) (v : β) (i : Int) : rowOf (cput M a b v) i = if i = a then sput (rowOf M a) b v else rowOf M i := by
  split
  · rename_i e; subst e
    refine ((h.put _ _ _).row _).ext ((h.row _).put _ _) ?_
    rintro ⟨j, u⟩
    rw [mem_rowOf, mem_cput, mem_sput, mem_rowOf]
    simp
  · rename_i e
    refine ((h.put _ _ _).row _).ext (h.row _) ?_
    rintro ⟨j, u⟩
    rw [mem_rowOf, mem_cput, mem_rowOf]
    simp [e]
theorem SrtC.col_put {M : Cls β} (h : SrtC M) (a b : Int) (v : β) (j : Int) : colOf (cput M a b v) j = if j = b then sput (colOf M b) a v else colOf M j := by
  split
  · rename_i e; subst e
    refine ((h.put _ _ _).col _).ext ((h.col _).put _ _) ?_
    rintro ⟨i, u⟩
    rw [mem_colOf, mem_cput, mem_sput, mem_colOf]
    simp
  · rename_i e
    refine ((h.put _ _ _).col _).ext (h.col _) ?_
    rintro ⟨i, u⟩
    rw [mem_colOf, mem_cput, mem_colOf]
    simp [e]
theorem SrtC.row_del {M : Cls β} (h : SrtC M) (a b : Int) (i : Int) : rowOf (cdel M a b) i = if i = a then sdel (rowOf M a) b else rowOf M i := by
  split
  · rename_i e; subst e
    refine ((h.del _ _).row _).ext ((h.row _).del _) ?_
    rintro ⟨j, u⟩
    rw [mem_rowOf, mem_cdel, mem_sdel, mem_rowOf]
    simp
  · rename_i e
    refine ((h.del _ _).row _).ext (h.row _) ?_
    rintro ⟨j, u⟩
    rw [mem_rowOf, mem_cdel, mem_rowOf]
    simp [e]
theorem SrtC.col_del {M : Cls β} (h : SrtC M) (a b : Int) (j : Int) : colOf (cdel M a b) j = if j = b then sdel (colOf M b) a else colOf M j := by
  split
  · rename_i e; subst e
    refine ((h.del _ _).col _).ext ((h.col _).del _) ?_
    rintro ⟨i, u⟩
    rw [mem_colOf, mem_cdel, mem_sdel, mem_colOf]
    simp
  · rename_i e
    refine ((h.del _ _).col _).ext (h.col _) ?_
    rintro ⟨i, u⟩
    rw [mem_colOf, mem_cdel, mem_colOf]
    simp [e]
theorem SrtC.get {M : Cls β} (h : SrtC M) {a b : Int} {v : β} : cget M a b = some v ↔ ((a, b), v) ∈ M := by
  rw [cget, (h.row a).get, mem_rowOf]
theorem cdel_none {M : Cls β} {a b : Int} (h : cget M a b = none) : cdel M a b = M := by
  unfold cdel
  rw [List.filter_eq_self]
  rintro ⟨⟨i, j⟩, v⟩ hm
  simp
  rintro rfl rfl
  exact sget_none.1 h v (mem_rowOf.2 hm)
theorem SrtC.length_del {M : Cls β} (h : SrtC M) (a b : Int) : (cdel M a b).length + (if (cget M a b).isSome then 1 else 0) = M.length := by
  induction M with
  | nil => rfl
  | cons x M ih =>
    have hp := List.pairwise_cons.1 h
    obtain ⟨⟨i, j⟩, u⟩ := x
    by_cases e : (i, j) = (a, b)
    · have h0 : cget M a b = none := sget_none.2 (fun v hv => by
        have := hp.1 _ (mem_rowOf.1 hv)
        rw [e] at this
        exact lexlt_ir _ this)
      have h1 : cdel M a b = M := cdel_none h0
      have h2 : cdel (((i, j), u) :: M) a b = M := by rw [← h1]; simp [cdel, e]
      have h3 : cget (((i, j), u) :: M) a b = some u := h.get.2 (by rw [e]; simp)
      rw [h2, h3]; rfl
    · have h2 : cdel (((i, j), u) :: M) a b = ((i, j), u) :: cdel M a b := by
        unfold cdel
        rw [List.filter_cons_of_pos]
        simpa using e
      have h3 : cget (((i, j), u) :: M) a b = cget M a b := by
        by_cases e1 : i = a
        · subst e1
          have : j ≠ b := fun e2 => e (by rw [e2])
          simp [cget, rowOf, sget, this]
        · simp [cget, rowOf, e1]
      rw [h2, h3, List.length_cons, List.length_cons, ← ih hp.2]
      omega
theorem SrtC.length_put {M : Cls β} (h : SrtC M) (a b : Int) (v : β) : (cput M a b v).length = if (cget M a b).isSome then M.length else M.length + 1 := by
  have := h.length_del a b
  rw [cput, length_ins]
  split <;> simp_all <;> omega
theorem row_length (M : Cls β) (a : Int) : (rowOf M a).length ≤ M.length := List.length_filterMap_le _ _
theorem col_length (M : Cls β) (b : Int) : (colOf M b).length ≤ M.length := List.length_filterMap_le _ _
/-- All cells, row by row. -/
theorem SrtC.flat {M : Cls β} (h : SrtC M) {ks : List Int} (hk : ks.Pairwise (· < ·)) (hm : ∀ a, a ∈ ks ↔ rowOf M a ≠ []) : ks.flatMap (fun a => (rowOf M a).map (fun x => ((a, x.1), x.2))) = M := by
  refine SrtC.ext ?_ h ?_
  · unfold SrtC
    rw [List.pairwise_flatMap]
    refine ⟨fun a ha => List.pairwise_map.2 ((h.row a).imp (fun {x y} hxy => .inr ⟨rfl, hxy⟩)), hk.imp (fun {a b} hab x hx y hy => ?_)⟩
    obtain ⟨x', _, rfl⟩ := List.mem_map.1 hx
    obtain ⟨y', _, rfl⟩ := List.mem_map.1 hy
    exact .inl hab
  · rintro ⟨⟨i, j⟩, v⟩
    rw [List.mem_flatMap]
    constructor
    · rintro ⟨a, _, hx⟩
      obtain ⟨x', hx', e⟩ := List.mem_map.1 hx
      have := mem_rowOf.1 hx'
      simp at e
      obtain ⟨⟨rfl, rfl⟩, rfl⟩ := e
      exact this
    · intro hM
      have hr : (j, v) ∈ rowOf M i := mem_rowOf.2 hM
      exact ⟨i, (hm i).2 (List.ne_nil_of_mem hr), List.mem_map.2 ⟨_, hr, rfl⟩⟩
end
end Go.Proofs.YtpkamfbjgdmmoaaGreat
end

section
namespace Go.Proofs.YtpkamfbjgdmmoaaGreat
open Go.RowKit Go.Maps
set_option linter.unusedVariables false
set_option linter.unusedSimpArgs false

/-- How a map's elements are read. -/
structure Cod (β : Type) where
  enc : β → Value
  R : Value → Option (DataW Unit × List MemPlace)
  dat : β → DataW Unit
  hR : ∀ x, R (enc x) = some (dat x, [])
  inv : ∀ v z, R v = some z → ∃ x, v = enc x ∧ z = (dat x, [])
  inj : ∀ x y, dat x = dat y → x = y

def codI : Cod Int where
  enc := .int .i64
  R := fun v => match v with | .int .i64 a => some (.lit (.int .i64 a), []) | _ => none
  dat := fun a => .lit (.int .i64 a)
  hR := fun _ => rfl
  inv := fun v z h => by
    split at h
    · cases h; exact ⟨_, rfl, rfl⟩
    · cases h
  inj := fun x y h => by simpa using h
def codU : Cod Unit where
  enc := fun _ => .agg #[]
  R := unitElem
  dat := fun _ => .agg []
  hR := fun _ => unitElem_mk
  inv := fun v z h => by
    obtain ⟨rfl, h2⟩ := unitElem_inv h
    exact ⟨(), rfl, h2⟩
  inj := fun _ _ _ => rfl
def codM : Cod (Option Nat) where
  enc := .map
  R := fun v => match v with | .map none => some (.nil, []) | .map (some b) => some (.lit (.int .i64 b), []) | _ => none
  dat := fun b => match b with | none => .nil | some b => .lit (.int .i64 b)
  hR := fun b => by cases b <;> rfl
  inv := fun v z h => by
    split at h
    · cases h; exact ⟨none, rfl, rfl⟩
    · cases h; exact ⟨some _, rfl, rfl⟩
    · cases h
  inj := fun x y h => by
    cases x <;> cases y <;> simp at h ⊢
    omega

theorem keyedI : Keyed Tryz.prog 3 := int_keyed Tryz.underlying3
theorem keyI {k : Int} (h : (Lit.int .i64 k).wf = true) : keyOf Tryz.prog 3 (.int .i64 k) = some (.int .i64 k) := keyOf_int_mk Tryz.underlying3 h

section
variable {β : Type} {c : Cod β} {b : Nat} {m : List (Int × β)} {w : World}

/-- Block b is a map that holds m. -/
structure MapAt (c : Cod β) (b : Nat) (m : List (Int × β)) (w : World) : Prop where
  srt : SrtK m
  own : ∃ n D, w.ownsMap Tryz.prog 3 c.R b n D ∧ (∀ k, Maps.has D (.int .i64 k) = (sget m k).isSome) ∧ ∀ k v, sget m k = some v → ∀ z, D.atKey (.int .i64 k) z = c.dat v

theorem MapAt.lt (h : MapAt c b m w) : b < w.heap.size := by obtain ⟨n, D, ho, _⟩ := h.own; exact ho.lt
theorem MapAt.kept {w' : World} {row : Option Nat} (h : MapAt c b m w) (hg : w.grownBy w' row) (hne : some b ≠ row) : MapAt c b m w' := by
  obtain ⟨n, D, ho, h1, h2⟩ := h.own
  exact ⟨h.srt, n, D, ho.kept hg hne, h1, h2⟩
theorem MapAt.block {w' : World} (h : MapAt c b m w) (hb : w'.heap[b]? = w.heap[b]?) : MapAt c b m w' := by
  obtain ⟨n, D, ⟨es, clock, hh, F, hs, hD⟩, h1, h2⟩ := h.own
  exact ⟨h.srt, n, D, ⟨es, clock, hb.trans hh, F, hs, hD⟩, h1, h2⟩
/-- How the map's block stands in the heap: it is a map. -/
theorem MapAt.isMap (h : MapAt c b m w) : ∃ es clock, w.heap[b]? = some (.map es clock) := by
  obtain ⟨n, D, ⟨es, clock, hh, _⟩, _⟩ := h.own
  exact ⟨es, clock, hh⟩
theorem MapAt.made (c : Cod β) (w : World) : MapAt c w.heap.size [] (w.alloc (.map #[] 0)) :=
  ⟨List.Pairwise.nil, 0, _, World.ownsMap_made _ _ _ _, fun k => by simp [Maps.has, sget], fun k v h => by simp [sget] at h⟩
/-- The keys, as they lie in the datum. -/
theorem MapAt.keys {n : Nat} {D : DataW Unit} (hs : SrtK m) (ho : w.ownsMap Tryz.prog 3 c.R b n D) (h1 : ∀ k, Maps.has D (.int .i64 k) = (sget m k).isSome) : (m.map (·.1)).Perm (intKeys D) := by
  have hc : CollectedI D (fun _ => false) (m.map (·.1)) := by
    refine ⟨?_, fun x => ?_⟩
    · refine (List.pairwise_map.2 (hs.imp (fun {a b} hab => ?_)))
      omega
    · rw [h1]
      simp only [List.mem_map, and_true]
      constructor
      · rintro ⟨y, hy, rfl⟩
        have : sget m y.1 = some y.2 := hs.get.2 hy
        simp [this]
      · intro h
        obtain ⟨v, hv⟩ := Option.isSome_iff_exists.1 h
        exact ⟨_, sget_mem hv, rfl⟩
  exact hc.perm ho keyedI Tryz.underlying3 (fun _ => rfl)
theorem MapAt.size {n : Nat} {D : DataW Unit} (hs : SrtK m) (ho : w.ownsMap Tryz.prog 3 c.R b n D) (h1 : ∀ k, Maps.has D (.int .i64 k) = (sget m k).isSome) : Maps.size D = m.length := by
  have h := (MapAt.keys hs ho h1).length_eq
  obtain ⟨es, clock, hb, F, hs', rfl⟩ := ho
  simpa [intKeys, Maps.size] using h.symm
theorem MapAt.wf (h : MapAt c b m w) {x : Int × β} (hx : x ∈ m) : (Lit.int .i64 x.1).wf = true := by
  obtain ⟨n, D, ho, h1, _⟩ := h.own
  exact intKeys_wf ho Tryz.underlying3 x.1 ((MapAt.keys h.srt ho h1).mem_iff.1 (List.mem_map_of_mem hx))
/-- What stands at a key. -/
theorem MapAt.atKey (h : MapAt c b m w) {e : TypeId} {z0 : β} {n : Nat} {D : DataW Unit} (h1 : ∀ k, Maps.has D (.int .i64 k) = (sget m k).isSome) (h2 : ∀ k v, sget m k = some v → ∀ z, D.atKey (.int .i64 k) z = c.dat v) (k : Int) : D.atKey (.int .i64 k) (c.dat z0) = c.dat ((sget m k).getD z0) := by
  cases e : sget m k with
  | some v => exact h2 k v e _
  | none =>
    refine atKey_of_not_has ?_ _
    rw [h1, e]; rfl
theorem MapAt.look {t e : TypeId} {z0 : β} (h : MapAt c b m w) (ht : Tryz.prog.underlying t = some (.map 3 e)) (hz : (zeroValue e).run Tryz.prog w = .ok (c.enc z0) w) {k : Int} (hk : (Lit.int .i64 k).wf = true) :
    (Instr.lookup t (.map (some b)) (.int .i64 k) false).run Tryz.prog w = .ok (c.enc ((sget m k).getD z0)) w := by
  obtain ⟨n, D, ho, h1, h2⟩ := h.own
  obtain ⟨v, ps, hr, hv⟩ := ho.lookup keyedI ht hz (c.hR z0) (keyI hk)
  rw [h.atKey (e := e) (n := n) h1 h2] at hv
  obtain ⟨x, rfl, hx⟩ := c.inv _ _ hv
  have := c.inj _ _ (congrArg Prod.fst hx)
  rw [hr, this]
theorem MapAt.look_ok {t e : TypeId} {z0 : β} (h : MapAt c b m w) (ht : Tryz.prog.underlying t = some (.map 3 e)) (hz : (zeroValue e).run Tryz.prog w = .ok (c.enc z0) w) {k : Int} (hk : (Lit.int .i64 k).wf = true) :
    (Instr.lookup t (.map (some b)) (.int .i64 k) true).run Tryz.prog w = .ok (.tuple #[c.enc ((sget m k).getD z0), .bool (sget m k).isSome]) w := by
  obtain ⟨n, D, ho, h1, h2⟩ := h.own
  obtain ⟨v, ps, hr, hv⟩ := ho.look_ok keyedI ht hz (c.hR z0) (keyI hk)
  rw [h.atKey (e := e) (n := n) h1 h2] at hv
  obtain ⟨x, rfl, hx⟩ := c.inv _ _ hv
  have := c.inj _ _ (congrArg Prod.fst hx)
  rw [hr, this, h1]
theorem MapAt.len {t e : TypeId} (h : MapAt c b m w) (ht : Tryz.prog.underlying t = some (.map 3 e)) (ty : TypeId) : (Builtin.len_ #[t] ty #[.map (some b)]).run Tryz.prog w = .ok (.int .i64 m.length) w := by
  obtain ⟨n, D, ho, h1, h2⟩ := h.own
  rw [ho.len ht, MapAt.size h.srt ho h1]
theorem MapAt.drop {t e : TypeId} (h : MapAt c b m w) (ht : Tryz.prog.underlying t = some (.map 3 e)) {k : Int} (hk : (Lit.int .i64 k).wf = true) (ty : TypeId) :
    ∃ w', (Builtin.delete_ #[t, 3] ty #[.map (some b), .int .i64 k]).run Tryz.prog w = .ok (.tuple #[]) w' ∧ MapAt c b (sdel m k) w' ∧ w.grownBy w' (some b) ∧ w'.heap.size = w.heap.size := by
  obtain ⟨n, D, ho, h1, h2⟩ := h.own
  obtain ⟨w', hr, ho', ht'⟩ := ho.drop keyedI ht (keyI hk) ty
  refine ⟨w', hr, ⟨h.srt.del k, n, _, ho', fun j => ?_, fun j v hj z => ?_⟩, ht'.grown, ?_⟩
  · rw [h.srt.get_del]
    by_cases e : j = k
    · subst e; simpa using has_del_same
    · rw [has_del_other (by simp [e]), h1]; simp [e]
  · rw [h.srt.get_del] at hj
    by_cases e : j = k
    · subst e; simp at hj
    · rw [atKey_del_other (by simp [e])]
      simp [e] at hj
      exact h2 j v hj z
  · obtain ⟨es, clock, es', clock', _, rfl⟩ := ht'
    simp [Go.ChangeMaps.setBlock]
theorem MapAt.store {t e : TypeId} (h : MapAt c b m w) (ht : Tryz.prog.underlying t = some (.map 3 e)) (hn : m.length < maxLen) {k : Int} (hk : (Lit.int .i64 k).wf = true) (v : β) :
    ∃ w', (Instr.mapUpdate t (.map (some b)) (.int .i64 k) (c.enc v)).run Tryz.prog w = .ok () w' ∧ MapAt c b (sput m k v) w' ∧ w.grownBy w' (some b) ∧ w'.heap.size = w.heap.size := by
  obtain ⟨n, D, ho, h1, h2⟩ := h.own
  have hsz := MapAt.size h.srt ho h1
  have hmap := ho.isMap
  have ho1 : w.ownsMap Tryz.prog 3 c.R b m.length D := by
    obtain ⟨es, clock, hb, F, hs, rfl⟩ := ho
    refine ⟨es, clock, hb, F, ?_, rfl⟩
    rw [← hsz]
    simp [Maps.size, length_sorted]
  obtain ⟨w', hr, ho', ht'⟩ := ho1.store keyedI ht hn (keyI hk) (c.hR v)
  refine ⟨w', hr, ⟨h.srt.put k v, _, _, ho', fun j => ?_, fun j u hj z => ?_⟩, ht'.grown, ?_⟩
  · rw [h.srt.get_put]
    by_cases e : j = k
    · subst e; simpa using has_put_same hmap (keyedI.key (keyI hk)) _
    · rw [has_put_other (by simp [e]), h1]; simp [e]
  · rw [h.srt.get_put] at hj
    by_cases e : j = k
    · subst e; simp at hj; subst hj
      exact atKey_put_same hmap (keyedI.key (keyI hk)) _ _
    · rw [atKey_put_other (by simp [e])]
      simp [e] at hj
      exact h2 j u hj z
  · obtain ⟨es, clock, es', clock', _, rfl⟩ := ht'
    simp [Go.ChangeMaps.setBlock]
end

/-- A nil map. -/
theorem nil_look {w : World} {t e : TypeId} {z : Value} (ht : Tryz.prog.underlying t = some (.map 3 e)) (hz : (zeroValue e).run Tryz.prog w = .ok z w) {k : Int} (hk : (Lit.int .i64 k).wf = true) (c : Bool) :
    (Instr.lookup t (.map none) (.int .i64 k) c).run Tryz.prog w = .ok (if c then .tuple #[z, .bool false] else z) w := Maps.look_nil c keyedI ht hz (keyI hk)
end Go.Proofs.YtpkamfbjgdmmoaaGreat
end
