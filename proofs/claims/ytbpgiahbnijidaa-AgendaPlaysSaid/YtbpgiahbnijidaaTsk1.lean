/-
  Tasks in memory: their cells, rows of them.
-/
import Derived.Test.YtbpgiahbnijidaaChecked
import Derived.WalkKit
import Derived.Lib.Hide
import Derived.Below
import Derived.IntWalk
import Derived.BigFrame
import Derived.Laws.AppendOwn
import Derived.Laws.AppendOwnNone
import Derived.Laws.CopyRow
import Derived.Laws.Rows
import Derived.Laws.Tables
import Derived.Deep.MidRow
namespace Go.Proofs.Ytbpgiahbnijidaa
open Go.RowKit
set_option linter.unusedVariables false
set_option linter.unusedSimpArgs false

/-- A task. -/
structure Tk where
  name : Int
  due : Int
  prio : Int
  sum : List Nat
  track : Int
  ok : sum.length = 32
deriving DecidableEq
def Bs (l : List Nat) : List Value := l.map fun (b : Nat) => Value.int .u8 (b : Int)
theorem Bs_inj : ∀ {a b : List Nat}, Bs a = Bs b → a = b
  | [], [], _ => rfl
  | [], _ :: _, h => by simp [Bs] at h
  | _ :: _, [], h => by simp [Bs] at h
  | x :: a, y :: b, h => by
    simp only [Bs, List.map_cons, List.cons.injEq, Value.int.injEq, true_and] at h
    have h1 : x = y := by omega
    have h2 := Bs_inj (a := a) (b := b) h.2
    rw [h1, h2]
/-- A task's cells. -/
def tc (t : Tk) : List Value := .int .i64 t.name :: .int .i64 t.due :: .int .i64 t.prio :: (Bs t.sum ++ [.int .i64 t.track])
theorem tc_len (t : Tk) : (tc t).length = 36 := by simp [tc, Bs, t.ok]
theorem tc_one (t : Tk) : ∀ u ∈ tc t, u.oneCell' = true := by
  intro u hu
  simp only [tc, Bs, List.mem_cons, List.mem_append, List.mem_map, List.not_mem_nil, or_false] at hu
  rcases hu with rfl | rfl | rfl | ⟨x, -, rfl⟩ | rfl <;> rfl
/-- The cells of many. -/
def Tc (ts : List Tk) : List Value := ts.flatMap tc
theorem Tc_nil : Tc [] = [] := rfl
theorem Tc_one (t : Tk) : Tc [t] = tc t := by simp [Tc]
theorem Tc_cons (t : Tk) (ts : List Tk) : Tc (t :: ts) = tc t ++ Tc ts := by simp [Tc]
theorem Tc_append (a b : List Tk) : Tc (a ++ b) = Tc a ++ Tc b := by simp [Tc]
theorem Tc_len : ∀ ts : List Tk, (Tc ts).length = ts.length * 36
  | [] => rfl
  | t :: ts => by rw [Tc_cons, List.length_append, tc_len, Tc_len ts, List.length_cons]; omega
theorem Tc_ones (ts : List Tk) : ∀ u ∈ Tc ts, u.oneCell' = true := by
  intro u hu
  obtain ⟨t, -, h⟩ := List.mem_flatMap.1 hu
  exact tc_one t u h
theorem Tc_take (ts : List Tk) (k : Nat) : (Tc ts).take (k * 36) = Tc (ts.take k) := by
  by_cases h : k ≤ ts.length
  · have e : Tc ts = Tc (ts.take k) ++ Tc (ts.drop k) := by rw [← Tc_append, List.take_append_drop]
    rw [e, List.take_append_of_le_length (by rw [Tc_len, List.length_take]; omega), List.take_of_length_le (by rw [Tc_len, List.length_take]; omega)]
  · rw [List.take_of_length_le (by rw [Tc_len]; omega), List.take_of_length_le (by omega)]
theorem Tc_drop (ts : List Tk) (k : Nat) : (Tc ts).drop (k * 36) = Tc (ts.drop k) := by
  by_cases h : k ≤ ts.length
  · have e : Tc ts = Tc (ts.take k) ++ Tc (ts.drop k) := by rw [← Tc_append, List.take_append_drop]
    have hl : (Tc (ts.take k)).length = k * 36 := by rw [Tc_len, List.length_take]; omega
    rw [e, ← hl, List.drop_left]
  · rw [List.drop_of_length_le (by rw [Tc_len]; omega), List.drop_of_length_le (by omega)]; rfl
theorem Tc_at {ts : List Tk} {i : Nat} (hi : i < ts.length) {j : Nat} (hj : j < 36) : (Tc ts)[i * 36 + j]? = (tc ts[i])[j]? := by
  have h1 : (Tc ts)[i * 36 + j]? = ((Tc ts).drop (i * 36))[j]? := by rw [List.getElem?_drop]
  rw [h1, Tc_drop, List.drop_eq_getElem_cons hi, Tc_cons, List.getElem?_append_left (by rw [tc_len]; exact hj)]
theorem tc_inj {a b : Tk} (h : tc a = tc b) : a = b := by
  obtain ⟨n, d, p, s, t, ok⟩ := a
  obtain ⟨n', d', p', s', t', ok'⟩ := b
  simp only [tc, List.cons.injEq, Value.int.injEq, true_and] at h
  obtain ⟨rfl, rfl, rfl, h⟩ := h
  have hl : (Bs s).length = (Bs s').length := by simp [Bs, ok, ok']
  obtain ⟨h1, h2⟩ := List.append_inj h hl
  have hs : s = s' := Bs_inj h1
  subst hs
  simp only [List.cons.injEq, Value.int.injEq, true_and, and_true] at h2
  subst h2
  rfl

theorem infoT : (Try.prog.info? 32).map (fun i => (i.zero.map (·.cells.size), i.size, i.bytes)) = some (some 36, 36, 64) := by kernel_rfl
theorem sizeT : (Try.prog.info? 32).map (·.size) = some 36 := by kernel_rfl

/-- Tasks that the call owns. -/
def OwnT (B : Nat) (v : Value) (ts : List Tk) (w : World) : Prop := w.ownsRow B 32 36 v ts.length (Tc ts)
/-- Tasks that are only read. -/
def RdT (w : World) (v : Value) (ts : List Tk) : Prop :=
  (v = .slice none 0 0 ∧ ts = []) ∨ ∃ b off cap, v = .slice (some ⟨b, off, none⟩) ts.length cap ∧ ts.length ≤ cap ∧ w.rangeAt b off (Tc ts)

section
variable {w w' : World} {v : Value} {ts : List Tk} {B : Nat}
theorem RdT.lenOf (h : RdT w v ts) : ∃ ao cap, v = .slice ao ts.length cap := by
  rcases h with ⟨rfl, rfl⟩ | ⟨b, off, cap, rfl, -⟩
  · exact ⟨none, 0, rfl⟩
  · exact ⟨_, cap, rfl⟩
theorem rangeAt_of_block {b o : Nat} {cs : List Value} (h : w.rangeAt b o cs) (hk : w'.heap[b]? = w.heap[b]?) : w'.rangeAt b o cs := fun j u hj =>
  (World.cell?_of_block (a := ⟨b, o + j, none⟩) hk).trans (h j u hj)
theorem rangeAt_lt {b o : Nat} {cs : List Value} (h : w.rangeAt b o cs) (hc : cs ≠ []) : b < w.heap.size := by
  cases cs with
  | nil => exact absurd rfl hc
  | cons u cs => exact block_lt_of_cell (a := ⟨b, o + 0, none⟩) (h 0 u rfl)
theorem RdT.below (h : RdT w v ts) (hb : Below w.heap.size w w') : RdT w' v ts := by
  rcases h with h | ⟨b, off, cap, rfl, hl, hr⟩
  · exact .inl h
  · refine .inr ⟨b, off, cap, rfl, hl, ?_⟩
    by_cases hc : Tc ts = []
    · rw [hc]; intro j u hj; simp at hj
    · exact rangeAt_of_block hr (hb.block b (rangeAt_lt hr hc))
theorem RdT.at {ao : Option Addr} {n cap : Nat} (h : RdT w (.slice ao n cap) ts) {i : Nat} (hi : i < ts.length) :
    ∃ b off, ao = some ⟨b, off, none⟩ ∧ w.rangeAt b (off + i * 36) (tc ts[i]) ∧ b < w.heap.size := by
  rcases h with ⟨-, h2⟩ | ⟨b, off, c, h1, -, h3⟩
  · rw [h2] at hi; simp at hi
  · injection h1 with e1
    have hne : Tc ts ≠ [] := by
      intro e
      have := Tc_len ts
      rw [e] at this
      simp at this
      omega
    refine ⟨b, off, e1, fun j u hj => ?_, rangeAt_lt h3 hne⟩
    have hj36 : j < 36 := by
      have := (List.getElem?_eq_some_iff.1 hj).1
      rwa [tc_len] at this
    have := h3 (i * 36 + j) u (by rw [Tc_at hi hj36]; exact hj)
    rwa [show off + (i * 36 + j) = off + i * 36 + j by omega] at this
theorem OwnT.reads (h : OwnT B v ts w) : RdT w v ts := by
  obtain ⟨h1, h2⟩ := h
  rcases h2 with ⟨rfl, hn⟩ | ⟨g, cap, cur, rfl, hb, hg, hn, hm, hs, ht⟩
  · exact .inl ⟨rfl, List.eq_nil_of_length_eq_zero hn⟩
  · refine .inr ⟨g, 0, cap, rfl, hn, fun j u hj => ?_⟩
    have : cur.toList[j]? = some u := by
      rw [← ht] at hj
      have := (List.getElem?_eq_some_iff.1 hj).1
      rw [List.length_take] at this
      rwa [List.getElem?_take_of_lt (by omega)] at hj
    rw [Nat.zero_add, World.cell?, hg]
    simpa using this
theorem OwnT.of {S' : Nat} (h : OwnT B v ts w) (hS : S' ≤ B) (hk : ∀ k, v.ownBlock = some k → w'.heap[k]? = w.heap[k]?) : OwnT S' v ts w' := by
  obtain ⟨h1, h2⟩ := h
  refine ⟨h1, ?_⟩
  rcases h2 with h2 | ⟨g, cap, cur, rfl, hb, hg, hn, hm, hs, ht⟩
  · exact .inl h2
  · exact .inr ⟨g, cap, cur, rfl, by omega, (hk g rfl).trans hg, hn, hm, hs, ht⟩
theorem OwnT.nil (w : World) (B : Nat) : OwnT B (.slice none 0 0) [] w := World.ownsRow_nil w B _ 36
end

section
variable {w : World} {ops : Array Oper} {rest : List Oper} {o : Oper} {a : Act} {Q : Exit → Act → World → Prop}
/-- A task loaded whole. -/
theorem wpl_loadT {b k : Nat} {t : Tk} (x : Operand) (hgd : o.guard = none) (ho : o.op = .load 32 x) (hx : a.eval x = .pointer (some ⟨b, k, none⟩)) (hr : w.rangeAt b k (tc t))
    (h : wpList Try.prog ops Q rest (a.put o.dst (.agg (tc t).toArray)) w) : wpList Try.prog ops Q (o :: rest) a w :=
  wpList_load_mid hgd 32 x ho b k hx (tc t) _ hr Try.underlying32 rfl (by rw [tc_len]; exact sizeT) h
theorem wpl_loadT_g {b k : Nat} {t : Tk} (x : Operand) (hgd : Region.wanted o (yielded ops a.tmps) = true) (ho : o.op = .load 32 x) (hx : a.eval x = .pointer (some ⟨b, k, none⟩)) (hr : w.rangeAt b k (tc t))
    (h : wpList Try.prog ops Q rest (a.put o.dst (.agg (tc t).toArray)) w) : wpList Try.prog ops Q (o :: rest) a w := by
  refine BigFrame.wpList_want hgd fun K hK => ?_
  exact wp_load_mid 32 x ho b k hx (tc t) _ hr Try.underlying32 rfl (by rw [tc_len]; exact sizeT) (hK _ _ h)
/-- 'append(v, u...)' of tasks. -/
theorem wp_app_T {s x : Operand} {B : Nat} {v u : Value} {xs ys : List Tk} (hgd : o.guard = none)
    (ho : o.op = .call { callee := .builtin .append, args := #[s, x], argTypes := #[26, 26] }) (hs : a.eval s = v) (hx : a.eval x = u)
    (hown : OwnT B v xs w) (hr : RdT w u ys) (hlen : xs.length + ys.length ≤ 1000000) (hB : B ≤ w.heap.size)
    (h : ∀ v' w', OwnT B v' (xs ++ ys) w' → Below B w w' → B ≤ w'.heap.size → w.grownBy w' v.ownBlock → (v' = .slice none 0 0 ↔ v = .slice none 0 0 ∧ ys = []) ∨ ys = [] → wpList Try.prog ops Q rest (a.put o.dst v') w') : wpList Try.prog ops Q (o :: rest) a w := by
  obtain ⟨i0, hi, hz⟩ := Option.map_eq_some_iff.1 infoT
  simp only [Prod.mk.injEq] at hz
  obtain ⟨hz0, hz1, hz2⟩ := hz
  obtain ⟨z, hzz, hzs⟩ := Option.map_eq_some_iff.1 hz0
  have hr' := hr
  rcases hr with ⟨rfl, rfl⟩ | ⟨b, off, cap, rfl, hc, hcell⟩
  · refine wpList_append_own_none hgd s x _ ho B 32 i0 36 Try.underlying26 hi v _ _ hs hown hx ?_
    exact h v w (by rw [List.append_nil]; exact hown) (Below.refl _ _) hB ⟨rfl, rfl, rfl, Nat.le_refl _, fun _ _ _ => rfl⟩ (.inr rfl)
  · refine wpList_append_own _ hgd s x _ ho B 32 i0 z 36 64 Try.underlying26 hi hzz hz1 hz2 hzs (by decide) v _ _ hs hown ⟨b, off, none⟩ ys.length cap (Tc ys) hx (Tc_len ys)
      (fun j u hj => by rw [Addr.add_mid]; exact hcell j u hj) (Tc_ones ys) (by unfold maxLen; omega) (by omega) hB ?_
    intro v' w' h1 h2 h3
    refine h v' w' ?_ ((Below.refl _ _).grown h2 hB (fun k hk => (World.ownsRow.lt hown k hk).1)) (Nat.le_trans hB h2.size) h2 (.inl ?_)
    · unfold OwnT
      rw [Tc_append, List.length_append]
      exact h1
    · rw [h3]
      constructor
      · rintro ⟨e, e2⟩; exact ⟨e, List.eq_nil_of_length_eq_zero e2⟩
      · rintro ⟨e, e2⟩; exact ⟨e, by rw [e2]; rfl⟩
end
end Go.Proofs.Ytbpgiahbnijidaa
