/-
  Joined texts.
-/
import Derived.Test.YteioacpfphigjaaGreatChecked
import Derived.WalkKit
import Derived.Lib.Hide
import Derived.Below
import Derived.IntWalk
import Derived.BigFrame
import Derived.Laws.AppendOwn
import Derived.Laws.AppendOwnNone
import Derived.Laws.CopyRow
import Derived.Laws.Rows
import Derived.Laws.Tables
import Derived.Deep.MidRow
import Derived.Maps.AppendAt
import Derived.Lib.Overlaps
import Derived.Shelf.Spec.SlicesInsert
import Derived.Deep.Quiet
import Derived.Deep.DeepCutAuto
import Derived.Test.YteioacpfphigjaaGreatMzc

section
namespace Go.Proofs.YteioacpfphigjaaGreat
open Go.RowKit
set_option linter.unusedVariables false
set_option linter.unusedSimpArgs false

/-- A task. -/
structure Tk where
  name : Int
  due : Int
  prio : Int
  sum : List Nat
  track : Int
  ok : sum.length = 32
deriving DecidableEq
def Bs (l : List Nat) : List Value := l.map fun (b : Nat) => Value.int .u8 (b : Int)
theorem Bs_inj : ∀ {a b : List Nat}, Bs a = Bs b → a = b
  | [], [], _ => rfl
  | [], _ :: _, h => by simp [Bs] at h
  | _ :: _, [], h => by simp [Bs] at h
  | x :: a, y :: b, h => by
    simp only [Bs, List.map_cons, List.cons.injEq, Value.int.injEq, true_and] at h
    have h1 : x = y := by omega
    have h2 := Bs_inj (a := a) (b := b) h.2
    rw [h1, h2]
/-- A task's cells. -/
def tc (t : Tk) : List Value := .int .i64 t.name :: .int .i64 t.due :: .int .i64 t.prio :: (Bs t.sum ++ [.int .i64 t.track])
theorem tc_len (t : Tk) : (tc t).length = 36 := by simp [tc, Bs, t.ok]
theorem tc_one (t : Tk) : ∀ u ∈ tc t, u.oneCell' = true := by
  intro u hu
  simp only [tc, Bs, List.mem_cons, List.mem_append, List.mem_map, List.not_mem_nil, or_false] at hu
  rcases hu with rfl | rfl | rfl | ⟨x, -, rfl⟩ | rfl <;> rfl
/-- The cells of many. -/
def Tc (ts : List Tk) : List Value := ts.flatMap tc
theorem Tc_nil : Tc [] = [] := rfl
theorem Tc_one (t : Tk) : Tc [t] = tc t := by simp [Tc]
theorem Tc_cons (t : Tk) (ts : List Tk) : Tc (t :: ts) = tc t ++ Tc ts := by simp [Tc]
theorem Tc_append (a b : List Tk) : Tc (a ++ b) = Tc a ++ Tc b := by simp [Tc]
theorem Tc_len : ∀ ts : List Tk, (Tc ts).length = ts.length * 36
  | [] => rfl
  | t :: ts => by rw [Tc_cons, List.length_append, tc_len, Tc_len ts, List.length_cons]; omega
theorem Tc_ones (ts : List Tk) : ∀ u ∈ Tc ts, u.oneCell' = true := by
  intro u hu
  obtain ⟨t, -, h⟩ := List.mem_flatMap.1 hu
  exact tc_one t u h
theorem Tc_take (ts : List Tk) (k : Nat) : (Tc ts).take (k * 36) = Tc (ts.take k) := by
  by_cases h : k ≤ ts.length
  · have e : Tc ts = Tc (ts.take k) ++ Tc (ts.drop k) := by rw [← Tc_append, List.take_append_drop]
    rw [e, List.take_append_of_le_length (by rw [Tc_len, List.length_take]; omega), List.take_of_length_le (by rw [Tc_len, List.length_take]; omega)]
  · rw [List.take_of_length_le (by rw [Tc_len]; omega), List.take_of_length_le (by omega)]
theorem Tc_drop (ts : List Tk) (k : Nat) : (Tc ts).drop (k * 36) = Tc (ts.drop k) := by
  by_cases h : k ≤ ts.length
  · have e : Tc ts = Tc (ts.take k) ++ Tc (ts.drop k) := by rw [← Tc_append, List.take_append_drop]
    have hl : (Tc (ts.take k)).length = k * 36 := by rw [Tc_len, List.length_take]; omega
    rw [e, ← hl, List.drop_left]
  · rw [List.drop_of_length_le (by rw [Tc_len]; omega), List.drop_of_length_le (by omega)]; rfl
theorem Tc_at {ts : List Tk} {i : Nat} (hi : i < ts.length) {j : Nat} (hj : j < 36) : (Tc ts)[i * 36 + j]? = (tc ts[i])[j]? := by
  have h1 : (Tc ts)[i * 36 + j]? = ((Tc ts).drop (i * 36))[j]? := by rw [List.getElem?_drop]
  rw [h1, Tc_drop, List.drop_eq_getElem_cons hi, Tc_cons, List.getElem?_append_left (by rw [tc_len]; exact hj)]
theorem tc_inj {a b : Tk} (h : tc a = tc b) : a = b := by
  obtain ⟨n, d, p, s, t, ok⟩ := a
  obtain ⟨n', d', p', s', t', ok'⟩ := b
  simp only [tc, List.cons.injEq, Value.int.injEq, true_and] at h
  obtain ⟨rfl, rfl, rfl, h⟩ := h
  have hl : (Bs s).length = (Bs s').length := by simp [Bs, ok, ok']
  obtain ⟨h1, h2⟩ := List.append_inj h hl
  have hs : s = s' := Bs_inj h1
  subst hs
  simp only [List.cons.injEq, Value.int.injEq, true_and, and_true] at h2
  subst h2
  rfl

theorem infoT : (Tryz.prog.info? 143).map (fun i => (i.zero.map (·.cells.size), i.size, i.bytes)) = some (some 36, 36, 64) := by kernel_rfl
theorem sizeT : (Tryz.prog.info? 143).map (·.size) = some 36 := by kernel_rfl

/-- Tasks that the call owns. -/
def OwnT (B : Nat) (v : Value) (ts : List Tk) (w : World) : Prop := w.ownsRow B 143 36 v ts.length (Tc ts)
/-- Tasks that are only read. -/
def RdT (w : World) (v : Value) (ts : List Tk) : Prop :=
  (v = .slice none 0 0 ∧ ts = []) ∨ ∃ b off cap, v = .slice (some ⟨b, off, none⟩) ts.length cap ∧ ts.length ≤ cap ∧ w.rangeAt b off (Tc ts)

section
variable {w w' : World} {v : Value} {ts : List Tk} {B : Nat}
theorem RdT.lenOf (h : RdT w v ts) : ∃ ao cap, v = .slice ao ts.length cap := by
  rcases h with ⟨rfl, rfl⟩ | ⟨b, off, cap, rfl, -⟩
  · exact ⟨none, 0, rfl⟩
  · exact ⟨_, cap, rfl⟩
theorem rangeAt_of_block {b o : Nat} {cs : List Value} (h : w.rangeAt b o cs) (hk : w'.heap[b]? = w.heap[b]?) : w'.rangeAt b o cs := fun j u hj =>
  (World.cell?_of_block (a := ⟨b, o + j, none⟩) hk).trans (h j u hj)
theorem rangeAt_lt {b o : Nat} {cs : List Value} (h : w.rangeAt b o cs) (hc : cs ≠ []) : b < w.heap.size := by
  cases cs with
  | nil => exact absurd rfl hc
  | cons u cs => exact block_lt_of_cell (a := ⟨b, o + 0, none⟩) (h 0 u rfl)
theorem RdT.below (h : RdT w v ts) (hb : Below w.heap.size w w') : RdT w' v ts := by
  rcases h with h | ⟨b, off, cap, rfl, hl, hr⟩
  · exact .inl h
  · refine .inr ⟨b, off, cap, rfl, hl, ?_⟩
    by_cases hc : Tc ts = []
    · rw [hc]; intro j u hj; simp at hj
    · exact rangeAt_of_block hr (hb.block b (rangeAt_lt hr hc))
theorem RdT.at {ao : Option Addr} {n cap : Nat} (h : RdT w (.slice ao n cap) ts) {i : Nat} (hi : i < ts.length) :
    ∃ b off, ao = some ⟨b, off, none⟩ ∧ w.rangeAt b (off + i * 36) (tc ts[i]) ∧ b < w.heap.size := by
  rcases h with ⟨-, h2⟩ | ⟨b, off, c, h1, -, h3⟩
  · rw [h2] at hi; simp at hi
  · injection h1 with e1
    have hne : Tc ts ≠ [] := by
      intro e
      have := Tc_len ts
      rw [e] at this
      simp at this
      omega
    refine ⟨b, off, e1, fun j u hj => ?_, rangeAt_lt h3 hne⟩
    have hj36 : j < 36 := by
      have := (List.getElem?_eq_some_iff.1 hj).1
      rwa [tc_len] at this
    have := h3 (i * 36 + j) u (by rw [Tc_at hi hj36]; exact hj)
    rwa [show off + (i * 36 + j) = off + i * 36 + j by omega] at this
theorem OwnT.reads (h : OwnT B v ts w) : RdT w v ts := by
  obtain ⟨h1, h2⟩ := h
  rcases h2 with ⟨rfl, hn⟩ | ⟨g, cap, cur, rfl, hb, hg, hn, hm, hs, ht⟩
  · exact .inl ⟨rfl, List.eq_nil_of_length_eq_zero hn⟩
  · refine .inr ⟨g, 0, cap, rfl, hn, fun j u hj => ?_⟩
    have : cur.toList[j]? = some u := by
      rw [← ht] at hj
      have := (List.getElem?_eq_some_iff.1 hj).1
      rw [List.length_take] at this
      rwa [List.getElem?_take_of_lt (by omega)] at hj
    rw [Nat.zero_add, World.cell?, hg]
    simpa using this
theorem OwnT.of {S' : Nat} (h : OwnT B v ts w) (hS : S' ≤ B) (hk : ∀ k, v.ownBlock = some k → w'.heap[k]? = w.heap[k]?) : OwnT S' v ts w' := by
  obtain ⟨h1, h2⟩ := h
  refine ⟨h1, ?_⟩
  rcases h2 with h2 | ⟨g, cap, cur, rfl, hb, hg, hn, hm, hs, ht⟩
  · exact .inl h2
  · exact .inr ⟨g, cap, cur, rfl, by omega, (hk g rfl).trans hg, hn, hm, hs, ht⟩
theorem OwnT.nil (w : World) (B : Nat) : OwnT B (.slice none 0 0) [] w := World.ownsRow_nil w B _ 36
end

section
variable {w : World} {ops : Array Oper} {rest : List Oper} {o : Oper} {a : Act} {Q : Exit → Act → World → Prop}
/-- A task loaded whole. -/
theorem wpl_loadT {b k : Nat} {t : Tk} (x : Operand) (hgd : o.guard = none) (ho : o.op = .load 143 x) (hx : a.eval x = .pointer (some ⟨b, k, none⟩)) (hr : w.rangeAt b k (tc t))
    (h : wpList Tryz.prog ops Q rest (a.put o.dst (.agg (tc t).toArray)) w) : wpList Tryz.prog ops Q (o :: rest) a w :=
  wpList_load_mid hgd 143 x ho b k hx (tc t) _ hr Tryz.underlying143 rfl (by rw [tc_len]; exact sizeT) h
theorem wpl_loadT_g {b k : Nat} {t : Tk} (x : Operand) (hgd : Region.wanted o (yielded ops a.tmps) = true) (ho : o.op = .load 143 x) (hx : a.eval x = .pointer (some ⟨b, k, none⟩)) (hr : w.rangeAt b k (tc t))
    (h : wpList Tryz.prog ops Q rest (a.put o.dst (.agg (tc t).toArray)) w) : wpList Tryz.prog ops Q (o :: rest) a w := by
  refine BigFrame.wpList_want hgd fun K hK => ?_
  exact wp_load_mid 143 x ho b k hx (tc t) _ hr Tryz.underlying143 rfl (by rw [tc_len]; exact sizeT) (hK _ _ h)
/-- 'append(v, u...)' of tasks. -/
theorem wp_app_T {s x : Operand} {B : Nat} {v u : Value} {xs ys : List Tk} (hgd : o.guard = none)
    (ho : o.op = .call { callee := .builtin .append, args := #[s, x], argTypes := #[62, 62] }) (hs : a.eval s = v) (hx : a.eval x = u)
    (hown : OwnT B v xs w) (hr : RdT w u ys) (hlen : xs.length + ys.length ≤ 1000000) (hB : B ≤ w.heap.size)
    (h : ∀ v' w', OwnT B v' (xs ++ ys) w' → Below B w w' → B ≤ w'.heap.size → w.grownBy w' v.ownBlock → (v' = .slice none 0 0 ↔ v = .slice none 0 0 ∧ ys = []) ∨ ys = [] → wpList Tryz.prog ops Q rest (a.put o.dst v') w') : wpList Tryz.prog ops Q (o :: rest) a w := by
  obtain ⟨i0, hi, hz⟩ := Option.map_eq_some_iff.1 infoT
  simp only [Prod.mk.injEq] at hz
  obtain ⟨hz0, hz1, hz2⟩ := hz
  obtain ⟨z, hzz, hzs⟩ := Option.map_eq_some_iff.1 hz0
  have hr' := hr
  rcases hr with ⟨rfl, rfl⟩ | ⟨b, off, cap, rfl, hc, hcell⟩
  · refine wpList_append_own_none hgd s x _ ho B 143 i0 36 Tryz.underlying62 hi v _ _ hs hown hx ?_
    exact h v w (by rw [List.append_nil]; exact hown) (Below.refl _ _) hB ⟨rfl, rfl, rfl, Nat.le_refl _, fun _ _ _ => rfl⟩ (.inr rfl)
  · refine wpList_append_own _ hgd s x _ ho B 143 i0 z 36 64 Tryz.underlying62 hi hzz hz1 hz2 hzs (by decide) v _ _ hs hown ⟨b, off, none⟩ ys.length cap (Tc ys) hx (Tc_len ys)
      (fun j u hj => by rw [Addr.add_mid]; exact hcell j u hj) (Tc_ones ys) (by unfold maxLen; omega) (by omega) hB ?_
    intro v' w' h1 h2 h3
    refine h v' w' ?_ ((Below.refl _ _).grown h2 hB (fun k hk => (World.ownsRow.lt hown k hk).1)) (Nat.le_trans hB h2.size) h2 (.inl ?_)
    · unfold OwnT
      rw [Tc_append, List.length_append]
      exact h1
    · rw [h3]
      constructor
      · rintro ⟨e, e2⟩; exact ⟨e, List.eq_nil_of_length_eq_zero e2⟩
      · rintro ⟨e, e2⟩; exact ⟨e, by rw [e2]; rfl⟩
end
end Go.Proofs.YteioacpfphigjaaGreat
end

section
namespace Go.Proofs.YteioacpfphigjaaGreat
open Go.RowKit
set_option linter.unusedVariables false
set_option linter.unusedSimpArgs false

section
variable {P : Program}
/-- 'copy' of elements of k cells each. -/
theorem run_copy_rows (w : World) (k : Nat) (dT sT ty elem : TypeId) (g o dLen dCap : Nat) (a : Addr) (sLen sCap : Nat) (cur : Array Value) (t : TypeId) (cs : List Value)
    (hu : P.underlying dT = some (.slice elem)) (hs : (P.info? elem).map (·.size) = some k)
    (hg : w.heap[g]? = some (.cells cur t (0, 0))) (hn : cs.length = Nat.min sLen dLen * k)
    (hsrc : ∀ j v, cs[j]? = some v → w.cell? (a.add j) = some v) (hfit : o + cs.length ≤ cur.size) (h1 : ∀ v ∈ cs, v.oneCell' = true) :
    (Builtin.copy_ #[dT, sT] ty #[.slice (some ⟨g, o, none⟩) dLen dCap, .slice (some a) sLen sCap]).run P w =
      .ok (goInt (Nat.min sLen dLen)) (w.setRow g (cur.toList.take o ++ cs ++ cur.toList.drop (o + cs.length)).toArray) := by
  have hl := run_loadCells_list (P := P) w a cs hsrc
  have hst := run_storeCells_at P g o t cs 0 cur w hg (by simpa using hfit) h1
  cases hq : P.info? elem with
  | none => simp [hq] at hs
  | some i =>
    have hi : i.size = k := by simpa [hq] using hs
    simp [Builtin.copy_, run_underlying hu, Builtin.lenOf, Builtin.firstCells, sizeOf, typeInfo, hq, hi, ← hn, hl, hst]
end

theorem zeroT : ∃ z : Value, ((Tryz.prog.info? 143).bind (·.zero)) = some z ∧ z.cells.size = 36 ∧ z.cells.all (·.oneCell') = true := by
  refine ⟨.agg (Array.replicate 36 undef |>.mapIdx fun i _ => if i < 3 then Value.int .i64 0 else if i < 35 then .int .u8 0 else .int .i64 0), ?_, by decide +kernel, by decide +kernel⟩
  kernel_rfl
theorem zeroCells_ones {z : Array Value} (hz : z.size = 36) (h1 : z.all (·.oneCell') = true) (n : Nat) : (Builtin.zeroCells z n).size = n * 36 ∧ ∀ u ∈ (Builtin.zeroCells z n).toList, u.oneCell' = true := by
  refine ⟨by simp [Builtin.zeroCells, hz], fun u hu => ?_⟩
  simp only [Builtin.zeroCells, Array.toList_map, List.mem_map] at hu
  obtain ⟨i, -, rfl⟩ := hu
  have hlt : i % z.size < z.size := Nat.mod_lt _ (by omega)
  rw [getElem!_pos z _ hlt]
  exact Array.all_eq_true_iff_forall_mem.1 h1 _ (Array.getElem_mem hlt)

/-- 'clear' of tasks. -/
theorem wpl_clearT {ops : Array Oper} {rest : List Oper} {o : Oper} {a : Act} {Q : Exit → Act → World → Prop} {w : World} (x : Operand) (b k n c : Nat) (cur : Array Value) (t : TypeId) (hgd : o.guard = none) (ho : o.op = .call { callee := .builtin .clear, args := #[x], argTypes := #[62] })
    (hx : a.eval x = .slice (some ⟨b, k, none⟩) n c) (hh : w.heap[b]? = some (.cells cur t (0, 0))) (hfit : k + n * 36 ≤ cur.size)
    (h : ∀ Z : List Value, Z.length = n * 36 → wpList Tryz.prog ops Q rest (a.put o.dst (.tuple #[])) (w.setRow b (cur.toList.take k ++ Z ++ cur.toList.drop (k + n * 36)).toArray)) : wpList Tryz.prog ops Q (o :: rest) a w := by
  obtain ⟨z, hz, hzs, hz1⟩ := zeroT
  obtain ⟨i0, hi, hz0⟩ := Option.bind_eq_some_iff.1 hz
  refine wpList_plain hgd fun K hK => ?_
  unfold Oper.wp execOp
  by_cases h0 : n = 0
  · subst h0
    have hr : (Builtin.clear_ #[62] o.type #[.slice (some ⟨b, k, none⟩) 0 c]).run Tryz.prog w = .ok (.tuple #[]) w := by
      simp [Builtin.clear_, run_underlying Tryz.underlying62]
    simp only [ho, resolve, invoke, builtin, Sem.run_bind, Sem.run_pure, Result.andThen_ok, List.map_toArray, List.map_cons, List.map_nil, hx, hr]
    have := h [] (by simp)
    have e : (cur.toList.take k ++ [] ++ cur.toList.drop (k + 0 * 36)).toArray = cur := by simp
    rw [e, setRow_self w b cur t (0, 0) hh] at this
    exact hK _ _ this
  · obtain ⟨hzl, hzo⟩ := zeroCells_ones hzs hz1 n
    have hst := run_storeCells_at Tryz.prog b k t (Builtin.zeroCells z.cells n).toList 0 cur w hh (by rw [Array.length_toList, hzl]; omega) hzo
    simp only [Nat.add_zero, Array.length_toList, hzl] at hst
    have hr : (Builtin.clear_ #[62] o.type #[.slice (some ⟨b, k, none⟩) n c]).run Tryz.prog w = .ok (.tuple #[]) (w.setRow b (cur.toList.take k ++ (Builtin.zeroCells z.cells n).toList ++ cur.toList.drop (k + n * 36)).toArray) := by
      match n, h0 with
      | m + 1, _ =>
        simp only [Builtin.clear_]
        simp [run_underlying Tryz.underlying62, zeroValue, typeInfo, hi, hz0]
        rw [hst]
        simp [Result.andThen, List.append_assoc]
    simp only [ho, resolve, invoke, builtin, Sem.run_bind, Sem.run_pure, Result.andThen_ok, List.map_toArray, List.map_cons, List.map_nil, hx, hr]
    exact hK _ _ (h _ (by rw [Array.length_toList, hzl]))

/-- 'append(s, make([]T, m)...)' where there is no room: a new row. -/
theorem run_app_zerosT (w : World) (ti ty : TypeId) (hti : Tryz.prog.underlying ti = some (.int .i64)) (base g n cap m : Nat) (xs : List Value) (cur : Array Value) (hg : w.heap[g]? = some (.cells cur 143 (0, 0))) (hnc : n ≤ cap) (hcs : cur.size = cap * 36)
    (htake : cur.toList.take (n * 36) = xs) (hm : 0 < m) (hm1 : m ≤ 1000) (hn1 : n ≤ 1000) (hc1 : cap ≤ 1000000) (hroom : ¬ n + m ≤ cap) (hbase : base ≤ w.heap.size) :
    ∃ (cap' : Nat) (w' : World) (Z : List Value), (Builtin.append_ #[62, ti] ty #[.slice (some ⟨g, 0, none⟩) n cap, .int .i64 (m : Nat)]).run Tryz.prog w = .ok (.slice (some ⟨w.heap.size, 0, none⟩) (n + m) cap') w' ∧
      w'.ownsRow base 143 36 (.slice (some ⟨w.heap.size, 0, none⟩) (n + m) cap') (n + m) (xs ++ Z) ∧ Z.length = m * 36 ∧ w.grownBy w' none := by
  obtain ⟨i0, hi, hz⟩ := Option.map_eq_some_iff.1 infoT
  simp only [Prod.mk.injEq] at hz
  obtain ⟨-, hsize, hby⟩ := hz
  obtain ⟨z, hz, hzs, hz1⟩ := zeroT
  obtain ⟨i1, hi1, hz0⟩ := Option.bind_eq_some_iff.1 hz
  have hii : i1 = i0 := Option.some.inj (hi1.symm.trans hi)
  subst hii
  have hxl : xs.length = n * 36 := by rw [← htake, List.length_take, Array.length_toList, hcs]; omega
  have hwr : IntKind.i64.wrap (m : Int) = (m : Int) := IntWalk.i64_in _ (by omega)
  have hneg : ¬ ((m : Int) < 0) := by omega
  have hbig : ¬ (281474976710656 < (m : Int) * 64) := by omega
  have h0 : m ≠ 0 := by omega
  have h63' : ¬ (9223372036854775807 < ((n : Int) + (m : Int))) := by omega
  have h48' : ¬ (281474976710656 < Builtin.nextslicecap (n + m) cap * 64) := by
    have := growslice_fits (need := n + m) (old := cap) (bytes := 64) (by omega) (by omega)
    omega
  have holds : ∀ j u, xs[j]? = some u → w.cell? ((⟨g, 0, none⟩ : Addr).add j) = some u := by
    intro j u hj
    rw [← htake] at hj
    have hlt := (List.getElem?_eq_some_iff.1 hj).1
    rw [List.length_take] at hlt
    rw [List.getElem?_take_of_lt (by omega)] at hj
    rw [Addr.add_mid, Nat.zero_add, World.cell?, hg]
    simpa using hj
  have hfo := run_firstCells_some (P := Tryz.prog) w.drew 36 n ⟨g, 0, none⟩ n cap xs hxl (by simpa using holds)
  obtain ⟨hzl, -⟩ := zeroCells_ones hzs hz1 m
  have hge := grownCap_ge w (n + m) cap 143
  have hcm : grownCap w (n + m) cap 143 ≤ maxLen := grownCap_le_maxLen w (n + m) cap 143 (by simp only [maxLen]; omega)
  have hlen : (xs ++ (Builtin.zeroCells z.cells m).toList).length = (n + m) * 36 := by simp [hzl, hxl]; omega
  refine ⟨grownCap w (n + m) cap 143, w.drew.alloc (.cells (xs.toArray ++ Builtin.zeroCells z.cells m ++ Builtin.zeroCells z.cells (grownCap w (n + m) cap 143 - (n + m))) 143), (Builtin.zeroCells z.cells m).toList, ?_, ⟨hlen, .inr ⟨w.heap.size, _, _, rfl, hbase, heap_alloc_new w.drew _, hge, hcm, ?_, ?_⟩⟩, by rw [Array.length_toList, hzl], ⟨rfl, rfl, rfl, by simp, fun k hk _ => heap_alloc_old w.drew _ hk⟩⟩
  · simp [Builtin.append_, run_underlying Tryz.underlying62, run_underlying hti, sizeOf, typeInfo, zeroValue, hi, hz0, asInt, asIntOf, hwr, hneg, hbig, hby, hsize, h0, hroom, h63', h48', Question.forced, hfo, newRow, grownCap]
    intro hh
    omega
  · simp only [Array.size_append, List.size_toArray, hxl, hzl, (zeroCells_ones hzs hz1 _).1]
    omega
  · simp only [Array.toList_append, List.append_assoc]
    rw [← List.append_assoc, ← hlen]
    exact List.take_left
end Go.Proofs.YteioacpfphigjaaGreat
end

section
namespace Go.Proofs.YteioacpfphigjaaGreat
open Go.RowKit
set_option linter.unusedVariables false
set_option linter.unusedSimpArgs false

/-- Tasks that were put in. -/
def insAt (ts : List Tk) (i : Nat) (t : Tk) : List Tk := ts.take i ++ t :: ts.drop i
theorem insAt_len (ts : List Tk) (i : Nat) (t : Tk) (h : i ≤ ts.length) : (insAt ts i t).length = ts.length + 1 := by simp [insAt]; omega
/-- A new row's block is the old one's, or new. -/
def Fresh (w : World) (v v' : Value) : Prop := ∀ k, v'.ownBlock = some k → v.ownBlock = some k ∨ w.heap.size ≤ k
theorem Fresh.of {w : World} {v v' : Value} (h : v'.ownBlock = v.ownBlock ∨ v'.ownBlock = some w.heap.size) : Fresh w v v' := fun k hk => by
  rcases h with h | h
  · exact .inl (h.symm.trans hk)
  · rw [h] at hk; injection hk with e; exact .inr (by omega)
theorem Fresh.same {w : World} {v v' : Value} (h : v'.ownBlock = v.ownBlock) : Fresh w v v' := .of (.inl h)
section
variable {w : World} {ops : Array Oper} {rest : List Oper} {o : Oper} {a : Act} {Q : Exit → Act → World → Prop}
/-- 'append(v, u...)' of tasks. -/
theorem wp_app_T_at {s x : Operand} {B : Nat} {v u : Value} {xs ys : List Tk} (hgd : o.guard = none)
    (ho : o.op = .call { callee := .builtin .append, args := #[s, x], argTypes := #[62, 62] }) (hs : a.eval s = v) (hx : a.eval x = u)
    (hown : OwnT B v xs w) (hr : RdT w u ys) (hlen : xs.length + ys.length ≤ 1000000) (hB : B ≤ w.heap.size)
    (h : ∀ v' w', OwnT B v' (xs ++ ys) w' → Below B w w' → B ≤ w'.heap.size → w.grownBy w' v.ownBlock → (v' = .slice none 0 0 ↔ v = .slice none 0 0 ∧ ys = []) ∨ ys = [] → (v'.ownBlock = v.ownBlock ∨ v'.ownBlock = some w.heap.size) → wpList Tryz.prog ops Q rest (a.put o.dst v') w') : wpList Tryz.prog ops Q (o :: rest) a w := by
  obtain ⟨i0, hi, hz⟩ := Option.map_eq_some_iff.1 infoT
  simp only [Prod.mk.injEq] at hz
  obtain ⟨hz0, hz1, hz2⟩ := hz
  obtain ⟨z, hzz, hzs⟩ := Option.map_eq_some_iff.1 hz0
  have hr' := hr
  rcases hr with ⟨rfl, rfl⟩ | ⟨b, off, cap, rfl, hc, hcell⟩
  · refine wpList_append_own_none hgd s x _ ho B 143 i0 36 Tryz.underlying62 hi v _ _ hs hown hx ?_
    exact h v w (by rw [List.append_nil]; exact hown) (Below.refl _ _) hB ⟨rfl, rfl, rfl, Nat.le_refl _, fun _ _ _ => rfl⟩ (.inr rfl) (.inl rfl)
  · refine wpList_append_own_at _ hgd s x _ ho B 143 i0 z 36 64 Tryz.underlying62 hi hzz hz1 hz2 hzs (by decide) v _ _ hs hown ⟨b, off, none⟩ ys.length cap (Tc ys) hx (Tc_len ys)
      (fun j u hj => by rw [Addr.add_mid]; exact hcell j u hj) (Tc_ones ys) (by unfold maxLen; omega) (by omega) hB ?_
    intro v' w' h1 h2 h3 h4
    refine h v' w' ?_ ((Below.refl _ _).grown h2 hB (fun k hk => (World.ownsRow.lt hown k hk).1)) (Nat.le_trans hB h2.size) h2 (.inl ?_) h4
    · unfold OwnT
      rw [Tc_append, List.length_append]
      exact h1
    · rw [h3]
      constructor
      · rintro ⟨e, e2⟩; exact ⟨e, List.eq_nil_of_length_eq_zero e2⟩
      · rintro ⟨e, e2⟩; exact ⟨e, by rw [e2]; rfl⟩
end
/-- What Insert hands back. -/
def Inserted (B : Nat) (v : Value) (ts : List Tk) (i : Nat) (t : Tk) (w : World) (e : Ending) (w' : World) : Prop :=
  ∃ v', e = .returned v' ∧ OwnT B v' (insAt ts i t) w' ∧ w.grownBy w' v.ownBlock ∧ v' ≠ .slice none 0 0 ∧ Fresh w v v'
theorem RdT_one {w : World} {b c : Nat} {t : Tk} (h : w.heap[b]? = some (.cells (tc t).toArray 143 (0, 0))) (hc : 1 ≤ c) : RdT w (.slice (some ⟨b, 0, none⟩) 1 c) [t] :=
  .inr ⟨b, 0, c, rfl, hc, fun j u hj => by
    rw [Tc_one] at hj
    rw [Nat.zero_add, World.cell?, h]; simpa using hj⟩
theorem OwnT.cast {B : Nat} {v : Value} {a b : List Tk} {w : World} (h : OwnT B v a w) (e : a = b) : OwnT B v b w := e ▸ h

set_option maxHeartbeats 4000000 in
set_option maxRecDepth 100000 in
/-- At the end. -/
theorem insert_end (B : Nat) (v : Value) (ts : List Tk) (t : Tk) (ub : Nat) (w : World) (hown : OwnT B v ts w) (hu : w.heap[ub]? = some (.cells (tc t).toArray 143 (0, 0))) (hl : ts.length ≤ 1000) (hB : B ≤ w.heap.size) :
    Calls Tryz.prog 85 #[v, .int .i64 (ts.length : Nat), .slice (some ⟨ub, 0, none⟩) 1 1] w (Inserted B v ts ts.length t w) := by
  have HO := Lib.hid hown
  obtain ⟨ao, cap, rfl⟩ := hown.reads.lenOf
  have hne : (.slice ao (ts ++ [t]).length cap : Value) ≠ .slice none 0 0 := by
    intro e; injection e with _ e2 _; simp at e2
  have hcap : ts.length ≤ cap := by
    rcases hown.2 with ⟨h1, h2⟩ | ⟨g, c, cur, h1, -, -, h2, -⟩
    · rw [h2]; omega
    · injection h1 with e1 e2 e3; omega
  have hcap' : (ts.length : Int) ≤ cap := by omega
  have HR := Lib.hid (RdT_one hu (Nat.le_refl 1))
  have e : insAt ts ts.length t = ts ++ [t] := by simp [insAt]
  have HL := Lib.hid hl
  have HB := Lib.hid hB
  clear hown hu hne hl hB
  by_cases hcc : cap = ts.length
  · subst hcc
    go_enter Tryz.func85, Tryz.ntmps85
    go_wp2_with (first | (at_builtin; refine wp_app_T_at (B := B) (v := .slice ao ts.length ts.length) rfl rfl rfl rfl HO.out HR.out (by have := HL.out; simp; omega) HB.out ?_; intro v1 w1 ho1 hb1 hs1 hg1 hn1 hf1; have HF1 := Lib.hid (Fresh.of hf1); have HO1 := Lib.hid ho1; have HG1 := Lib.hid hg1; have HN1 := Lib.hid hn1; clear ho1 hb1 hs1 hg1 hn1 hf1) | fail)
    go_ret
    refine ⟨v1, rfl, HO1.out.cast e.symm, HG1.out, ?_, HF1.out⟩
    rcases HN1.out with h | h
    · intro e1
      have := (h.1 e1).2
      cases this
    · cases h
  · have hcf : (cap = ts.length) = False := by simp [hcc]
    go_enter Tryz.func85, Tryz.ntmps85
    go_wp2_with (first | (at_builtin; refine wp_app_T_at (B := B) (v := .slice ao ts.length cap) rfl rfl rfl rfl HO.out HR.out (by have := HL.out; simp; omega) HB.out ?_; intro v1 w1 ho1 hb1 hs1 hg1 hn1 hf1; have HF1 := Lib.hid (Fresh.of hf1); have HO1 := Lib.hid ho1; have HG1 := Lib.hid hg1; have HN1 := Lib.hid hn1; clear ho1 hb1 hs1 hg1 hn1 hf1) | fail)
    go_ret
    refine ⟨v1, rfl, HO1.out.cast e.symm, HG1.out, ?_, HF1.out⟩
    rcases HN1.out with h | h
    · intro e1
      have := (h.1 e1).2
      cases this
    · cases h

theorem sizeOfT (w : World) : (Go.sizeOf 143).run Tryz.prog w = .ok 36 w := by
  obtain ⟨i0, hi, hz⟩ := Option.map_eq_some_iff.1 sizeT
  simp [sizeOf, typeInfo, hi, hz]
theorem take_setRow (X Y : List Value) (o : Nat) (h : o ≤ X.length) : (X.take o ++ Y ++ X.drop (o + Y.length)).length = max X.length (o + Y.length) := by
  simp only [List.length_append, List.length_take, List.length_drop]; omega
/-- What two copies leave where one stands between: X is the row, n of its elements count. -/
theorem shifted (X : List Value) (ts : List Tk) (t : Tk) (i : Nat) (hi : i < ts.length) (hX : (ts.length + 1) * 36 ≤ X.length) (ht : X.take (ts.length * 36) = Tc ts) :
    ((X.take ((i + 1) * 36) ++ Tc (ts.drop i) ++ X.drop ((i + 1) * 36 + (Tc (ts.drop i)).length)).take (i * 36) ++ tc t ++ (X.take ((i + 1) * 36) ++ Tc (ts.drop i) ++ X.drop ((i + 1) * 36 + (Tc (ts.drop i)).length)).drop (i * 36 + (tc t).length)).take ((ts.length + 1) * 36) = Tc (insAt ts i t) := by
  obtain ⟨D, hD⟩ : ∃ D, D = Tc (ts.drop i) := ⟨_, rfl⟩
  have hDl : D.length = (ts.length - i) * 36 := by rw [hD, Tc_len, List.length_drop]
  have h36 := tc_len t
  have e1 : (X.take ((i + 1) * 36) ++ D ++ X.drop ((i + 1) * 36 + D.length)).take (i * 36) = Tc (ts.take i) := by
    rw [List.append_assoc, List.take_append_of_le_length (by rw [List.length_take]; omega), List.take_take, Nat.min_eq_left (by omega), ← Tc_take, ← ht, List.take_take, Nat.min_eq_left (by omega)]
  have e2 : (X.take ((i + 1) * 36) ++ D ++ X.drop ((i + 1) * 36 + D.length)).drop (i * 36 + (tc t).length) = D ++ X.drop ((i + 1) * 36 + D.length) := by
    have hl : (X.take ((i + 1) * 36)).length = i * 36 + (tc t).length := by rw [List.length_take, h36]; omega
    rw [List.append_assoc, ← hl, List.drop_left]
  rw [← hD, e1, e2]
  have hlen : (Tc (ts.take i) ++ tc t ++ D).length = (ts.length + 1) * 36 := by
    rw [List.length_append, List.length_append, Tc_len, List.length_take, h36, hDl]; omega
  rw [← List.append_assoc, List.take_append_of_le_length (by omega), List.take_of_length_le (by omega), hD]
  unfold insAt
  rw [Tc_append, Tc_cons, List.append_assoc]

/-- What two copies leave in a new row. -/
theorem laidIn (X : List Value) (ts : List Tk) (t : Tk) (i : Nat) (hi : i ≤ ts.length) (hX : (ts.length + 1) * 36 ≤ X.length) (ht : X.take (i * 36) = Tc (ts.take i)) :
    ((X.take (i * 36) ++ tc t ++ X.drop (i * 36 + (tc t).length)).take ((i + 1) * 36) ++ Tc (ts.drop i) ++ (X.take (i * 36) ++ tc t ++ X.drop (i * 36 + (tc t).length)).drop ((i + 1) * 36 + (Tc (ts.drop i)).length)).take ((ts.length + 1) * 36) = Tc (insAt ts i t) := by
  have h36 := tc_len t
  have hl : (X.take (i * 36) ++ tc t).length = (i + 1) * 36 := by rw [List.length_append, List.length_take, h36]; omega
  have e1 : (X.take (i * 36) ++ tc t ++ X.drop (i * 36 + (tc t).length)).take ((i + 1) * 36) = Tc (ts.take i) ++ tc t := by
    rw [List.take_append_of_le_length (by omega), List.take_of_length_le (by omega), ht]
  rw [e1]
  have hlen : (Tc (ts.take i) ++ tc t ++ Tc (ts.drop i)).length = (ts.length + 1) * 36 := by
    rw [List.length_append, List.length_append, Tc_len, List.length_take, h36, Tc_len, List.length_drop]; omega
  rw [List.take_append_of_le_length (by omega), List.take_of_length_le (by omega)]
  unfold insAt
  rw [Tc_append, Tc_cons, List.append_assoc]
theorem wpl_run_append {w : World} {ops : Array Oper} {rest : List Oper} {o : Oper} {a : Act} {Q : Exit → Act → World → Prop} (hgd : o.guard = none) (s x : Operand) (t t' : TypeId)
    (ho : o.op = .call { callee := .builtin .append, args := #[s, x], argTypes := #[t, t'] }) (v u : Value) (hs : a.eval s = v) (hx : a.eval x = u) {v' : Value} {w' : World}
    (hr : (Builtin.append_ #[t, t'] o.type #[v, u]).run Tryz.prog w = .ok v' w') (h : wpList Tryz.prog ops Q rest (a.put o.dst v') w') : wpList Tryz.prog ops Q (o :: rest) a w := by
  refine wpList_plain hgd fun K hK => ?_
  unfold Oper.wp
  simp [execOp, ho, resolve, invoke, builtin, hs, hx, hr, Result.andThen]
  exact hK _ _ h

set_option maxHeartbeats 4000000 in
set_option maxRecDepth 100000 in
/-- Ahead of others, in a new row. -/
theorem insert_grow (B : Nat) (ts : List Tk) (t : Tk) (i ub g cap : Nat) (cur : Array Value) (w : World) (hi : i < ts.length) (hg : w.heap[g]? = some (.cells cur 143 (0, 0))) (hBg : B ≤ g) (hnc : ts.length ≤ cap) (hroom : ¬ ts.length + 1 ≤ cap) (hcs : cur.size = cap * 36) (htake : cur.toList.take (ts.length * 36) = Tc ts)
    (hu : w.heap[ub]? = some (.cells (tc t).toArray 143 (0, 0))) (hl : ts.length ≤ 900) (hB : B ≤ w.heap.size) :
    Calls Tryz.prog 85 #[.slice (some ⟨g, 0, none⟩) ts.length cap, .int .i64 (i : Nat), .slice (some ⟨ub, 0, none⟩) 1 1] w (Inserted B (.slice (some ⟨g, 0, none⟩) ts.length cap) ts i t w) := by
  obtain ⟨n, hn⟩ : ∃ n, n = ts.length := ⟨_, rfl⟩
  rw [← hn] at hi hroom htake hl hnc ⊢
  have mixed : Tryz.prog.follows .mixedOrders = true := by kernel_rfl
  have hcl : cur.toList.length = cap * 36 := by simpa using hcs
  have hglt : g < w.heap.size := by
    by_cases h : g < w.heap.size
    · exact h
    · rw [Array.getElem?_eq_none (by omega)] at hg; cases hg
  have hublt : ub < w.heap.size := by
    by_cases h : ub < w.heap.size
    · exact h
    · rw [Array.getElem?_eq_none (by omega)] at hu; cases hu
  have hz2 : ((i : Int) = (n : Int)) = False := by simp; omega
  have hD : (Tc (ts.drop i)).length = (n - i) * 36 := by rw [Tc_len, List.length_drop, ← hn]
  have hw1 : IntKind.i64.wrap ((i : Int) + 1) = ((i + 1 : Nat) : Int) := by rw [IntWalk.i64_in _ (by omega)]; omega
  have hw2 : IntKind.i64.wrap ((n : Int) + 1) = ((n + 1 : Nat) : Int) := by rw [IntWalk.i64_in _ (by omega)]; omega
  have hw3 : IntKind.i64.wrap (((n + 1 : Nat) : Int) - (i : Int)) = ((n + 1 - i : Nat) : Int) := by rw [IntWalk.i64_in _ (by omega)]; omega
  obtain ⟨cap', w1, Z, hrun, hown, hZ, hgr⟩ := run_app_zerosT w 3 62 Tryz.underlying3 B g i cap (n + 1 - i) (Tc (ts.take i)) cur hg (by omega) hcs (by rw [← Tc_take, ← htake, List.take_take, Nat.min_eq_left (by omega)]) (by omega) (by omega) (by omega) (by omega) (by omega) hB
  rw [show i + (n + 1 - i) = n + 1 by omega] at hrun hown
  obtain ⟨nb, hnb⟩ : ∃ nb, nb = w.heap.size := ⟨_, rfl⟩
  obtain ⟨i1, hi1⟩ : ∃ i1, i1 = i + 1 := ⟨_, rfl⟩
  obtain ⟨n1, hn1⟩ : ∃ n1, n1 = n + 1 := ⟨_, rfl⟩
  obtain ⟨m, hm⟩ : ∃ m, m = n1 - i := ⟨_, rfl⟩
  rw [← hi1] at hw1
  rw [← hn1] at hw2 hw3 hroom hrun hown hZ
  rw [← hm] at hw3 hrun hZ
  rw [← hnb] at hrun hown
  obtain ⟨-, hown⟩ := hown
  rcases hown with ⟨h, -⟩ | ⟨g', c', cur', hv', hBn, hgn, hnc', hmc', hcs', htk'⟩
  · cases h
  injection hv' with e1 e2 e3
  injection e1 with e1
  injection e1 with e1
  subst e1 e3
  have hcl' : cur'.toList.length = cap' * 36 := by simpa using hcs'
  have htki : cur'.toList.take (i * 36) = Tc (ts.take i) := by
    have h1 := congrArg (fun l => l.take (i * 36)) htk'
    simp only [List.take_take] at h1
    rw [Nat.min_eq_left (by omega), List.take_append_of_le_length (by rw [Tc_len, List.length_take]; omega), List.take_of_length_le (l := Tc (ts.take i)) (by rw [Tc_len, List.length_take]; omega)] at h1
    exact h1
  have hsh := laidIn cur'.toList ts t i (by omega) (by omega) htki
  rw [← hi1, ← hn, ← hn1] at hsh
  obtain ⟨C1, hC1⟩ : ∃ C1, C1 = cur'.toList.take (i * 36) ++ tc t ++ cur'.toList.drop (i * 36 + (tc t).length) := ⟨_, rfl⟩
  rw [← hC1] at hsh
  have hC1l : C1.length = cap' * 36 := by
    rw [hC1, take_setRow _ _ _ (by omega), hcl', tc_len]; omega
  obtain ⟨W1, hW1⟩ : ∃ W1, W1 = w1.setRow nb C1.toArray := ⟨_, rfl⟩
  have hW1g : W1.heap[nb]? = some (.cells C1.toArray 143 (0, 0)) := by rw [hW1]; exact setRow_heap w1 nb _ _ _ _ hgn
  have hold : ∀ k, k < nb → W1.heap[k]? = w.heap[k]? := fun k hk => by
    rw [hW1, setRow_other w1 nb k _ (by omega)]
    exact hgr.block k (by omega) (by simp)
  have hcp1 : ∀ ty dc, (Builtin.copy_ #[62, 62] ty #[.slice (some ⟨nb, i * 36, none⟩) (n1 - i) dc, .slice (some ⟨ub, 0, none⟩) 1 1]).run Tryz.prog w1 = .ok (goInt (Nat.min 1 (n1 - i))) W1 := fun ty dc => by
    rw [hW1, hC1]
    exact run_copy_rows w1 36 _ _ ty 143 nb (i * 36) (n1 - i) dc ⟨ub, 0, none⟩ 1 1 cur' 143 (tc t) Tryz.underlying62 sizeT hgn (by rw [tc_len]; simp only [Nat.min_def]; split <;> omega)
      (fun j u hj => by
        rw [Addr.add_mid, Nat.zero_add]
        have e1 : w1.heap[ub]? = some (.cells (tc t).toArray 143 (0, 0)) := (hgr.block ub (by omega) (by simp)).trans hu
        rw [World.cell?, e1]; simpa using hj) (by rw [hcs', tc_len]; omega) (tc_one t)
  have hcp2 : ∀ ty dc sc, (Builtin.copy_ #[62, 62] ty #[.slice (some ⟨nb, i1 * 36, none⟩) (n1 - i1) dc, .slice (some ⟨g, i * 36, none⟩) (n - i) sc]).run Tryz.prog W1.drew = .ok (goInt (Nat.min (n - i) (n1 - i1))) (W1.drew.setRow nb (C1.take (i1 * 36) ++ Tc (ts.drop i) ++ C1.drop (i1 * 36 + (Tc (ts.drop i)).length)).toArray) := fun ty dc sc =>
    run_copy_rows W1.drew 36 _ _ ty 143 nb (i1 * 36) (n1 - i1) dc ⟨g, i * 36, none⟩ (n - i) sc C1.toArray 143 (Tc (ts.drop i)) Tryz.underlying62 sizeT hW1g (by rw [hD]; simp only [Nat.min_def]; split <;> omega)
      (fun j u hj => by
        have hjl := (List.getElem?_eq_some_iff.1 hj).1
        rw [hD] at hjl
        rw [← Tc_drop, ← htake, List.getElem?_drop, List.getElem?_take_of_lt (by omega)] at hj
        rw [Addr.add_mid]
        have e1 : W1.drew.heap[g]? = some (.cells cur 143 (0, 0)) := (hold g (by omega)).trans hg
        rw [World.cell?, e1]; simpa using hj) (by rw [List.size_toArray, hC1l, hD]; omega) (Tc_ones _)
  have hlenF : (C1.take (i1 * 36) ++ Tc (ts.drop i) ++ C1.drop (i1 * 36 + (Tc (ts.drop i)).length)).length = cap' * 36 := by
    rw [take_setRow _ _ _ (by omega), hC1l, hD]; omega
  obtain ⟨C2, hC2⟩ : ∃ C2, C2 = C1.take (i1 * 36) ++ Tc (ts.drop i) ++ C1.drop (i1 * 36 + (Tc (ts.drop i)).length) := ⟨_, rfl⟩
  rw [← hC2] at hcp2 hsh hlenF
  have hins := insAt_len ts i t (by omega)
  rw [← hn, ← hn1] at hins
  have hfin : Inserted B (.slice (some ⟨g, 0, none⟩) n cap) ts i t w (.returned (.slice (some ⟨nb, 0, none⟩) n1 cap')) (W1.drew.setRow nb C2.toArray) := by
    refine ⟨_, rfl, ?_, ?_, (by intro e; cases e), Fresh.of (.inr (by rw [← hnb]; rfl))⟩
    · unfold OwnT
      rw [hins]
      exact ⟨by rw [Tc_len, hins], .inr ⟨nb, cap', C2.toArray, rfl, hBn, setRow_heap W1.drew nb _ _ _ _ hW1g, hnc', hmc', by rw [List.size_toArray, hlenF], by simpa using hsh⟩⟩
    · rw [hW1]
      refine ⟨hgr.os, hgr.tape, hgr.output, ?_, fun k hk hr => ?_⟩
      · have := hgr.size
        simpa using this
      · rw [setRow_other _ nb k _ (by omega)]
        show (w1.setRow nb C1.toArray).heap[k]? = _
        rw [setRow_other _ nb k _ (by omega)]
        exact hgr.block k hk (by simp)
  have HF := Lib.hid hfin
  have hb1 : ((cap : Int) < (n1 : Int)) := by omega
  have hb2 : (cap' = i1) = False := by simp; omega
  have hb3 : (cap' = i) = False := by simp; omega
  have hb4 : (cap = i) = False := by simp; omega
  have hb5 : (i : Int) ≤ n := by omega
  have hb6 : (i : Int) ≤ n1 := by omega
  have hb7 : (i1 : Int) ≤ n1 := by omega
  have hb8 : (i : Int) ≤ cap := by omega
  have hb9 : (n1 : Int) ≤ cap' := by omega
  clear hfin hC2 hlenF hins hsh hW1g hC1l hW1 hC1 hcl htake hcs hg hD hu hn hi1 hn1 hm hold htki hcl' hcs' htk' hgn hgr hZ hnb
  go_enter Tryz.func85, Tryz.ntmps85
  go_wp2_with (first
    | (at_builtin; refine wpl_run_append rfl _ _ 62 3 rfl _ _ rfl rfl hrun ?_)
    | (at_builtin; refine wpList_copy_runI _ rfl _ _ 62 62 rfl _ _ rfl rfl (hcp1 _ _) ?_)
    | fail)
  go_region_law_o (refine step_copy_runI rfl _ _ 62 62 rfl _ _ (by simp [Act.eval, Act.put]) (by simp [Act.eval, Act.put]) (hcp2 _ _ _) ?_)
  go_wp2
  go_ret
  exact HF.out

end Go.Proofs.YteioacpfphigjaaGreat
end

section
namespace Go.Proofs.YteioacpfphigjaaGreat
open Go.RowKit
set_option linter.unusedVariables false
set_option linter.unusedSimpArgs false

/-- 'append' where there is room. -/
theorem run_app_fitsT (w : World) (ty : TypeId) (g n cap m c : Nat) (ad : Addr) (news : List Value) (cur : Array Value) (t : TypeId) (hg : w.heap[g]? = some (.cells cur t (0, 0))) (hroom : n + m ≤ cap) (hcs : cur.size = cap * 36)
    (hl : news.length = m * 36) (hnews : ∀ j u, news[j]? = some u → w.cell? (ad.add j) = some u) (h1 : ∀ u ∈ news, u.oneCell' = true) :
    (Builtin.append_ #[62, 62] ty #[.slice (some ⟨g, 0, none⟩) n cap, .slice (some ad) m c]).run Tryz.prog w = .ok (.slice (some ⟨g, 0, none⟩) (n + m) cap) (w.setRow g (cur.toList.take (n * 36) ++ news ++ cur.toList.drop (n * 36 + news.length)).toArray) := by
  obtain ⟨i0, hi, hz⟩ := Option.map_eq_some_iff.1 infoT
  simp only [Prod.mk.injEq] at hz
  obtain ⟨-, hsize, hby⟩ := hz
  have hld := run_loadCells_list (P := Tryz.prog) w ad news hnews
  rw [hl] at hld
  have hst := run_storeCells_at Tryz.prog g (n * 36) t news 0 cur w hg (by simp; omega) h1
  simp only [Nat.add_zero] at hst
  simp [Builtin.append_, run_underlying Tryz.underlying62, sizeOf, typeInfo, hi, hsize, Builtin.lenOf, Builtin.firstCells, hroom, hld, Addr.add_lit, hst]
theorem step_append_runT {ops : Array Oper} {o : Oper} {a : Act} {w : World} {K : Act → World → Prop} {Q : Exit → Act → World → Prop} {E : Prop}
    (hg : o.guard = none) (d x : Operand) (dT sT : TypeId) (hop : o.op = Op.call { callee := Callee.builtin Builtin.append, args := #[d, x], argTypes := #[dT, sT] })
    (v u : Value) (hd : a.eval d = v) (hx : a.eval x = u) {v' : Value} {w' : World} (hr : (Builtin.append_ #[dT, sT] o.type #[v, u]).run Tryz.prog w = .ok v' w') (hK : K (a.put o.dst v') w') :
    if Region.wanted o (yielded ops a.tmps) = true then Oper.wp Tryz.prog o a w K Q else E := by
  have hw : Region.wanted o (yielded ops a.tmps) = true := by simp [Region.wanted, hg]
  rw [if_pos hw]
  unfold Oper.wp
  simp [execOp, hop, resolve, invoke, builtin, hd, hx, hr, Result.andThen]
  exact hK

/-- Tasks of which some were taken away. -/
def delAt (ts : List Tk) (i j : Nat) : List Tk := ts.take i ++ ts.drop j
def Left (B : Nat) (v : Value) (ts : List Tk) (w : World) (e : Ending) (w' : World) : Prop :=
  ∃ v', e = .returned v' ∧ OwnT B v' ts w' ∧ w.grownBy w' v.ownBlock ∧ v'.ownBlock = v.ownBlock

set_option maxHeartbeats 4000000 in
set_option maxRecDepth 100000 in
theorem delete_some (B : Nat) (ts : List Tk) (i j g cap : Nat) (cur : Array Value) (w : World) (hij : i < j) (hj : j ≤ ts.length) (hg : w.heap[g]? = some (.cells cur 143 (0, 0))) (hBg : B ≤ g) (hnc : ts.length ≤ cap) (hm : cap ≤ maxLen) (hcs : cur.size = cap * 36) (htake : cur.toList.take (ts.length * 36) = Tc ts) (hl : ts.length ≤ 900) :
    Calls Tryz.prog 46 #[.slice (some ⟨g, 0, none⟩) ts.length cap, .int .i64 (i : Nat), .int .i64 (j : Nat)] w (Left B (.slice (some ⟨g, 0, none⟩) ts.length cap) (delAt ts i j) w) := by
  obtain ⟨n, hn⟩ : ∃ n, n = ts.length := ⟨_, rfl⟩
  rw [← hn] at hj htake hl hnc ⊢
  have mixed : Tryz.prog.follows .mixedOrders = true := by kernel_rfl
  have hcl : cur.toList.length = cap * 36 := by simpa using hcs
  have hz2 : ((i : Int) = (j : Int)) = False := by simp; omega
  have hD : (Tc (ts.drop j)).length = (n - j) * 36 := by rw [Tc_len, List.length_drop, ← hn]
  have hT : (Tc (ts.take i)).length = i * 36 := by rw [Tc_len, List.length_take]; omega
  obtain ⟨C1, hC1⟩ : ∃ C1, C1 = cur.toList.take (i * 36) ++ Tc (ts.drop j) ++ cur.toList.drop (i * 36 + (Tc (ts.drop j)).length) := ⟨_, rfl⟩
  have hC1l : C1.length = cap * 36 := by rw [hC1, take_setRow _ _ _ (by omega), hcl, hD]; omega
  have htki : cur.toList.take (i * 36) = Tc (ts.take i) := by
    rw [← Tc_take, ← htake, List.take_take, Nat.min_eq_left (by omega)]
  obtain ⟨n', hn'⟩ : ∃ n', n' = i + (n - j) := ⟨_, rfl⟩
  have hC1t : C1.take (n' * 36) = Tc (delAt ts i j) := by
    rw [hC1, htki, List.take_append_of_le_length (by rw [List.length_append, hT, hD]; omega), List.take_of_length_le (by rw [List.length_append, hT, hD]; omega)]
    unfold delAt
    rw [Tc_append]
  have hdl : (delAt ts i j).length = n' := by unfold delAt; rw [List.length_append, List.length_take, List.length_drop, ← hn]; omega
  obtain ⟨W1, hW1⟩ : ∃ W1, W1 = w.drew.setRow g C1.toArray := ⟨_, rfl⟩
  have hW1g : W1.heap[g]? = some (.cells C1.toArray 143 (0, 0)) := by rw [hW1]; exact setRow_heap w.drew g _ _ _ _ hg
  have hrd : ∀ k u, (Tc (ts.drop j))[k]? = some u → w.drew.cell? ⟨g, j * 36 + k, none⟩ = some u := fun k u hk => by
    have hkl := (List.getElem?_eq_some_iff.1 hk).1
    rw [hD] at hkl
    rw [← Tc_drop, ← htake, List.getElem?_drop, List.getElem?_take_of_lt (by omega)] at hk
    show w.cell? _ = _
    rw [World.cell?, hg]; simpa using hk
  have hap : ∀ ty, (Builtin.append_ #[62, 62] ty #[.slice (some ⟨g, 0, none⟩) i cap, .slice (if cap = j then some ⟨g, 0, none⟩ else some ⟨g, j * 36, none⟩) (n - j) (cap - j)]).run Tryz.prog w.drew = .ok (.slice (some ⟨g, 0, none⟩) n' cap) W1 := fun ty => by
    rw [hW1, hC1, hn']
    by_cases hcj : cap = j
    · rw [if_pos hcj]
      have h0 : Tc (ts.drop j) = [] := List.eq_nil_of_length_eq_zero (by rw [hD]; omega)
      rw [h0]
      exact run_app_fitsT w.drew ty g i cap (n - j) (cap - j) ⟨g, 0, none⟩ [] cur 143 hg (by omega) hcs (by simp; omega) (fun k u hk => by simp at hk) (fun u hu => by cases hu)
    · rw [if_neg hcj]
      exact run_app_fitsT w.drew ty g i cap (n - j) (cap - j) ⟨g, j * 36, none⟩ _ cur 143 hg (by omega) hcs hD (fun k u hk => by rw [Addr.add_mid]; exact hrd k u hk) (Tc_ones _)
  have hfin : ∀ Z : List Value, Z.length = (n - n') * 36 → Left B (.slice (some ⟨g, 0, none⟩) n cap) (delAt ts i j) w (.returned (.slice (some ⟨g, 0, none⟩) n' cap)) (W1.setRow g (C1.take (n' * 36) ++ Z ++ C1.drop (n' * 36 + (n - n') * 36)).toArray) := fun Z hZ => by
    refine ⟨_, rfl, ?_, ?_, rfl⟩
    · unfold OwnT
      rw [hdl]
      refine ⟨by rw [Tc_len, hdl], .inr ⟨g, cap, _, rfl, hBg, setRow_heap W1 g _ _ _ _ hW1g, by omega, hm, ?_, ?_⟩⟩
      · rw [List.size_toArray, ← hZ, take_setRow _ _ _ (by omega), hC1l]; omega
      · simp only [List.append_assoc]
        rw [List.take_append_of_le_length (by rw [List.length_take]; omega), List.take_of_length_le (by rw [List.length_take]; omega), hC1t]
    · rw [hW1]
      exact ⟨rfl, rfl, rfl, by simp, fun k hk hr => by
        have hne : k ≠ g := fun e => hr (by rw [e]; rfl)
        rw [setRow_other _ g k _ hne, setRow_other _ g k _ hne]; rfl⟩
  have HF := Lib.hid hfin
  have HG1 := Lib.hid hW1g
  have HC := Lib.hid (show n' * 36 + (n - n') * 36 ≤ C1.toArray.size by rw [List.size_toArray, hC1l]; omega)
  have hb1 : (i : Int) ≤ j := by omega
  have hb2 : (j : Int) ≤ n := by omega
  have hb3 : (n : Int) ≤ cap := by omega
  have hb4 : (i : Int) ≤ cap := by omega
  have hb5 : (n' : Int) ≤ n := by omega
  have hb6 : (cap = n') = False := by simp; omega
  have hb7 : (j : Int) ≤ cap := by omega
  have hb8 : (i : Int) ≤ n := by omega
  clear hfin hW1g hW1 hC1t htki hC1l hC1 hT hD hcl htake hcs hg hn hdl hn' hrd
  by_cases hcj : cap = j
  · rw [if_pos hcj] at hap
    subst hcj
    rw [Nat.sub_self, Nat.sub_eq_zero_of_le hnc] at hap
    go_enter Tryz.func46, Tryz.ntmps46
    go_wp2
    go_region_law_o (refine step_append_runT rfl _ _ 62 62 rfl _ _ (by simp [Act.eval, Act.put]) (by simp [Act.eval, Act.put]) (hap _) ?_)
    go_wp2_with (first | (at_builtin; fail) | (refine wpl_clearT _ g (n' * 36) (n - n') (cap - n') C1.toArray 143 rfl rfl rfl HG1.out HC.out ?_; intro Z hZ) | fail)
    go_ret
    have hlast := HF.out Z hZ
    rw [List.append_assoc] at hlast
    exact hlast
  · rw [if_neg hcj] at hap
    have hcf : (cap = j) = False := by simp [hcj]
    go_enter Tryz.func46, Tryz.ntmps46
    go_wp2
    go_region_law_o (refine step_append_runT rfl _ _ 62 62 rfl _ _ (by simp [Act.eval, Act.put]) (by simp [Act.eval, Act.put]) (hap _) ?_)
    go_wp2_with (first | (at_builtin; fail) | (refine wpl_clearT _ g (n' * 36) (n - n') (cap - n') C1.toArray 143 rfl rfl rfl HG1.out HC.out ?_; intro Z hZ) | fail)
    go_ret
    have hlast := HF.out Z hZ
    rw [List.append_assoc] at hlast
    exact hlast

set_option maxHeartbeats 4000000 in
set_option maxRecDepth 100000 in
theorem delete_none (B : Nat) (v : Value) (ts : List Tk) (i : Nat) (w : World) (hown : OwnT B v ts w) (hi : i ≤ ts.length) :
    Calls Tryz.prog 46 #[v, .int .i64 (i : Nat), .int .i64 (i : Nat)] w (Left B v ts w) := by
  have HF := Lib.hid (⟨v, rfl, hown, ⟨rfl, rfl, rfl, Nat.le_refl _, fun _ _ _ => rfl⟩, rfl⟩ : Left B v ts w (.returned v) w)
  rcases hown.2 with ⟨rfl, h2⟩ | ⟨g, cap, cur, rfl, -, -, hnc, -⟩
  · have hi0 : i = 0 := by omega
    subst hi0
    clear hown
    go_enter Tryz.func46, Tryz.ntmps46
    go_wp2
    go_ret
    exact HF.out
  · have hb1 : (i : Int) ≤ ts.length := by omega
    have hb2 : (ts.length : Int) ≤ cap := by omega
    clear hown
    by_cases hin : i = ts.length
    · subst hin
      go_enter Tryz.func46, Tryz.ntmps46
      go_wp2
      go_ret
      exact HF.out
    · have hcf : (ts.length = i) = False := by simp; omega
      go_enter Tryz.func46, Tryz.ntmps46
      go_wp2
      go_ret
      exact HF.out
/-- slices.Delete of tasks. -/
theorem delete_ts (B : Nat) (v : Value) (ts : List Tk) (i j : Nat) (w : World) (hown : OwnT B v ts w) (hij : i ≤ j) (hj : j ≤ ts.length) (hl : ts.length ≤ 900) :
    Calls Tryz.prog 46 #[v, .int .i64 (i : Nat), .int .i64 (j : Nat)] w (Left B v (delAt ts i j) w) := by
  by_cases he : i = j
  · subst he
    have := delete_none B v ts i w hown hj
    have e : delAt ts i i = ts := List.take_append_drop i ts
    rwa [e]
  · rcases hown.2 with ⟨rfl, h2⟩ | ⟨g, cap, cur, rfl, hBg, hg, hnc, hm, hcs, ht⟩
    · omega
    · exact delete_some B ts i j g cap cur w (by omega) hj hg hBg hnc hm hcs ht hl

theorem nil_in_some (a : Addr) (n c d : Nat) (w : World) : (Op.equalIn (d + 1) 62 (.slice (some a) n c) (.slice none 0 0)).run Tryz.prog w = .ok false w := by
  simp [Op.equalIn, run_underlying Tryz.underlying62]
theorem nil_in_none (d : Nat) (w : World) : (Op.equalIn (d + 1) 62 (.slice none 0 0) (.slice none 0 0)).run Tryz.prog w = .ok true w := by
  simp [Op.equalIn, run_underlying Tryz.underlying62]
theorem eql_slice_run (u v : Value) (a b : Option Addr) (n c m k : Nat) (hu : u = .slice a n c) (hv : v = .slice b m k) (w : World) (r : Bool) (h : ∀ d, (Op.equalIn (d + 1) 62 u v).run Tryz.prog w = .ok r w) : (binOp .eql 62 u v).run Tryz.prog w = .ok (.bool r) w := by
  subst hu; subst hv
  have h2 := h 9999
  rw [show (9999 + 1 : Nat) = 10000 from rfl] at h2
  simp only [binOp]
  simp [Op.equal, Op.maxDepth, h2]
theorem nil_eql_some (a : Addr) (n c : Nat) (w : World) : (binOp .eql 62 (.slice (some a) n c) (.slice none 0 0)).run Tryz.prog w = .ok (.bool false) w :=
  eql_slice_run _ _ _ _ _ _ _ _ rfl rfl w false fun d => nil_in_some a n c d w
theorem nil_eql_none (w : World) : (binOp .eql 62 (.slice none 0 0) (.slice none 0 0)).run Tryz.prog w = .ok (.bool true) w :=
  eql_slice_run _ _ _ _ _ _ _ _ rfl rfl w true fun d => nil_in_none d w
set_option maxHeartbeats 4000000 in
set_option maxRecDepth 100000 in
/-- slices.Clone of tasks. -/
theorem clone_ts (v : Value) (ts : List Tk) (w : World) (hr : RdT w v ts) (hl : ts.length ≤ 900) :
    Calls Tryz.prog 65 #[v] w fun e w' => ∃ v', e = .returned v' ∧ OwnT w.heap.size v' ts w' ∧ Below w.heap.size w w' := by
  have HR := Lib.hid hr
  have NS := nil_eql_some
  have NN := nil_eql_none
  rcases hr with ⟨rfl, rfl⟩ | ⟨b, off, cap, rfl, hc, -⟩
  · go_enter Tryz.func65, Tryz.ntmps65
    go_wp2
    go_ret
    exact ⟨_, rfl, OwnT.nil _ _, Below.refl _ _⟩
  · go_enter Tryz.func65, Tryz.ntmps65
    have HOWN := Lib.hid (show OwnT w.heap.size (.slice (some ⟨w.heap.size, 0, none⟩) 0 0) [] (w.alloc (.cells #[] 143)) from ⟨rfl, .inr ⟨w.heap.size, 0, #[], rfl, Nat.le_refl _, heap_alloc_new w _, Nat.le_refl _, by simp, rfl, rfl⟩⟩)
    have HRR := Lib.hid (HR.out.below ((Below.refl w.heap.size w).alloc (Nat.le_refl _) (.cells #[] 143)))
    have HL := Lib.hid hl
    clear hl hc
    go_wp2_with (first | (at_builtin; refine wp_app_T (B := w.heap.size) (xs := []) rfl rfl rfl rfl HOWN.out HRR.out (by have := HL.out; simp; omega) (by simp) ?_; intro v1 w1 ho1 hb1 hs1 hg1 hn1; have HO1 := Lib.hid ho1; have HB1 := Lib.hid hb1; clear ho1 hb1 hs1 hg1 hn1) | fail)
    go_ret
    exact ⟨v1, rfl, HO1.out, ((Below.refl w.heap.size w).alloc (Nat.le_refl _) _).trans HB1.out⟩
end Go.Proofs.YteioacpfphigjaaGreat
end

section
namespace Go.Proofs.YteioacpfphigjaaGreat
open Go.RowKit Go.BigFrame
set_option linter.unusedVariables false

section
variable {P : Program} {ops : Array Oper} {L : World → World → Prop}

/-- What is said of an operation's value: it is the same in every later world; it is this one; it meets this, in whatever world is later. -/
inductive Sp where
  | pure
  | pin (c : Value)
  | any (R : World → Value → Prop)

/-- What an operation leaves. -/
def DoesUpon (P : Program) (L : World → World → Prop) (w : World) (R : World → Value → Prop) : Result Next → Prop
  | .ok (.value u) w' => L w w' ∧ R w' u
  | .ok .skip w' => L w w' ∧ R w' undef
  | .ok (.enter f args) w' => Calls P f args w' (fun e w'' => ∃ v, e = .returned v ∧ L w w'' ∧ R w'' v)
  | .ok (.row row args) w' => Rows P row args w' (fun v w'' => L w w'' ∧ R w'' v)
  | _ => False

def Does (P : Program) (L : World → World → Prop) (o : Oper) (a : Act) (w : World) (R : World → Value → Prop) : Prop := DoesUpon P L w R ((execOp a.eval o).run P w)

theorem wp_of_does {o : Oper} {a : Act} {w : World} {R : World → Value → Prop} {K : Act → World → Prop} {Q : Exit → Act → World → Prop} (h : Does P L o a w R) (hK : ∀ v w', L w w' → R w' v → K (a.put o.dst v) w') : o.wp P a w K Q := by
  unfold Does at h
  unfold Oper.wp
  generalize (execOp a.eval o).run P w = r at *
  cases r with
  | ok n w' =>
    cases n <;> simp only [DoesUpon] at h <;> simp only [Oper.upon]
    case value u => exact hK _ _ h.1 h.2
    case skip => exact hK _ _ h.1 h.2
    case enter f args =>
      refine h.mono ?_
      rintro e w'' ⟨v, rfl, h1, h2⟩
      exact hK _ _ h1 h2
    case row row args => exact h.mono fun v w'' h2 => hK _ _ h2.1 h2.2
  | halt x w' => simp only [DoesUpon] at h

/-- Which operation's value an operand is: that of one that it waits for. -/
def srcOf (ops : Array Oper) (o : Oper) (t : Tmp) : Option Nat :=
  o.after.toList.findSome? fun e => if Region.binds .any e && ((ops[e.on]?).bind (·.dst)) == some t then some e.on else none

def waitsFor (o : Oper) (j : Nat) : Bool := o.after.any fun e => Region.binds .any e && e.on == j

/-- The region is in order: who waits, waits for what stands ahead; no slot is written twice; a slot that is written and read: one waits for the other. -/
def monoB (ops : Array Oper) (n : Nat) : Bool :=
  ops.toList.zipIdx.all fun (o, i) =>
    (o.after.all fun e => !Region.binds .any e || decide (e.on < i)) &&
    (match o.dst with | some t => decide (t < n) | none => true) &&
    ops.toList.zipIdx.all fun (x, j) =>
      match x.dst with
      | some t => (i == j || o.dst != some t) && (!(o.looksAt ops).contains t || (srcOf ops o t).isSome || i == j || waitsFor x i)
      | none => true

theorem getD_of_lt {l : Array Bool} {i : Nat} (h : i < l.size) (b c : Bool) : l.getD i b = l.getD i c := by
  simp [Array.getD, h]

theorem eval_put_same {a : Act} {t : Tmp} {v : Value} (h : t < a.tmps.size) : (a.put (some t) v).eval (.tmp t) = v := by
  simp [Act.eval, Act.put, Array.getD, h]
theorem eval_put_other {a : Act} {t u : Tmp} {v : Value} (h : u ≠ t) : (a.put (some u) v).eval (.tmp t) = a.eval (.tmp t) := by
  simp [Act.eval, Act.put, Array.getElem?_setIfInBounds_ne h]

theorem monoB_spec {n : Nat} (h : monoB ops n = true) {i : Nat} {o : Oper} (ho : ops[i]? = some o) :
    (∀ e ∈ o.after, Region.binds .any e = true → e.on < i) ∧ (∀ t, o.dst = some t → t < n) ∧
    ∀ (j : Nat) (x : Oper) (t : Tmp), ops[j]? = some x → x.dst = some t → (i = j ∨ o.dst ≠ some t) ∧ (t ∈ o.looksAt ops → (srcOf ops o t).isSome = true ∨ i = j ∨ waitsFor x i = true) := by
  unfold monoB at h
  rw [List.all_eq_true] at h
  have mem : ∀ (j : Nat) (x : Oper), ops[j]? = some x → (x, j) ∈ ops.toList.zipIdx := fun j x hx => by
    rw [List.mem_zipIdx_iff_getElem?]; simpa using hx
  have h1 := h _ (mem i o ho)
  simp only [Bool.and_eq_true, List.all_eq_true] at h1
  obtain ⟨⟨h1, h2⟩, h3⟩ := h1
  refine ⟨fun e he hb => ?_, fun t ht => ?_, fun j x t hx hxt => ?_⟩
  · have := Array.all_eq_true_iff_forall_mem.1 h1 e he
    simp only [hb, Bool.not_true, Bool.false_or, decide_eq_true_eq] at this
    exact this
  · rw [ht] at h2; simpa using h2
  · have := h3 _ (mem j x hx)
    simp only [hxt, Bool.and_eq_true, Bool.or_eq_true, beq_iff_eq, bne_iff_ne, Bool.not_eq_true', List.contains_eq_mem] at this
    refine ⟨this.1, fun hm => ?_⟩
    rcases this.2 with ((h4 | h4) | h4) | h4
    · simp [hm] at h4
    · exact .inl h4
    · exact .inr (.inl h4)
    · exact .inr (.inr h4)

theorem srcOf_spec {o : Oper} {t : Tmp} {j : Nat} (h : srcOf ops o t = some j) : ∃ e ∈ o.after, Region.binds .any e = true ∧ e.on = j ∧ ∃ x, ops[j]? = some x ∧ x.dst = some t := by
  unfold srcOf at h
  obtain ⟨e, he, h1⟩ := List.exists_of_findSome?_eq_some h
  split at h1
  · rename_i hc
    simp only [Bool.and_eq_true, beq_iff_eq] at hc
    simp only [Option.some.injEq] at h1
    subst h1
    obtain ⟨hb, hd⟩ := hc
    obtain ⟨x, hx, hxt⟩ := Option.bind_eq_some_iff.1 hd
    exact ⟨e, by simpa using he, hb, rfl, x, hx, hxt⟩
  · simp at h1

/-- No operation chooses among channels; a guard's slot is one of the frame's. -/
def planB (ops : Array Oper) (n : Nat) : Bool :=
  ops.toList.all fun o => (match o.op with | .select .. => false | _ => true) && (match o.guard with | some (g, _) => (match (ops[g]?).bind (·.dst) with | some t => decide (t < n) | none => true) | none => true)

theorem planB_spec {n : Nat} (h : planB ops n = true) {i : Nat} {o : Oper} (ho : ops[i]? = some o) : (∀ cs b, o.op ≠ .select cs b) ∧ ∀ g b t, o.guard = some (g, b) → (ops[g]?).bind (·.dst) = some t → t < n := by
  unfold planB at h
  rw [List.all_eq_true] at h
  have := h o (by simpa using Array.mem_of_getElem? ho)
  rw [Bool.and_eq_true] at this
  refine ⟨fun cs b hc => by rw [hc] at this; simp at this, fun g b t hg ht => ?_⟩
  have := this.2
  rw [hg] at this
  simp only [ht, decide_eq_true_eq] at this
  exact this

/-- Two frames alike where an operation looks. -/
theorem exec_congr {o : Oper} {a b : Act} (hsel : ∀ cs b, o.op ≠ .select cs b) (hag : ∀ t ∈ o.looksAt ops, a.eval (.tmp t) = b.eval (.tmp t)) : execOp a.eval o = execOp b.eval o :=
  execOp_congr o hsel (fun x hx => by
    cases x with
    | tmp t => exact hag t (List.mem_append_left _ (List.mem_filterMap.2 ⟨.tmp t, by simpa using hx, rfl⟩))
    | _ => rfl)
theorem wanted_congr {o : Oper} {a b : Act} {n : Nat} (ha : a.tmps.size = n) (hb : b.tmps.size = n) (hgb : ∀ g b t, o.guard = some (g, b) → (ops[g]?).bind (·.dst) = some t → t < n)
    (hag : ∀ t ∈ o.looksAt ops, a.eval (.tmp t) = b.eval (.tmp t)) : Region.wanted o (yielded ops a.tmps) = Region.wanted o (yielded ops b.tmps) := by
  unfold Region.wanted
  cases hg : o.guard with
  | none => rfl
  | some gw =>
    obtain ⟨g, want⟩ := gw
    have hy : yielded ops a.tmps g = yielded ops b.tmps g := by
      unfold yielded
      cases ht : (ops[g]?).bind (·.dst) with
      | none => rfl
      | some t =>
        have h1 := hag t (List.mem_append_right _ (by rw [hg]; simp [ht]))
        have hlt := hgb g want t hg ht
        have e1 : a.tmps[t]? = some (a.eval (.tmp t)) := by simp [Act.eval, ha, hlt]
        have e2 : b.tmps[t]? = some (b.eval (.tmp t)) := by simp [Act.eval, hb, hlt]
        simp only [Option.bind_some, e1, e2, h1]
    simp only [hy]

/-- In every later world the operation yields this. -/
def PureAt (P : Program) (ops : Array Oper) (L : World → World → Prop) (w1 : World) (a : Act) (o : Oper) (v : Value) : Prop :=
  if Region.wanted o (yielded ops a.tmps) = true then ∀ w, L w1 w → (execOp a.eval o).run P w = .ok (.value v) w else v = undef

theorem PureAt.det {w1 : World} {a : Act} {o : Oper} {u v : Value} (hr : L w1 w1) (h : PureAt P ops L w1 a o u) (k : PureAt P ops L w1 a o v) : u = v := by
  unfold PureAt at h k
  split at h
  · rename_i hw
    rw [if_pos hw] at k
    have := (h w1 hr).symm.trans (k w1 hr)
    injection this with this
    injection this
  · rename_i hw
    rw [if_neg hw] at k
    rw [h, k]

theorem PureAt.congr {w1 : World} {a b : Act} {o : Oper} {v : Value} {n : Nat} (ha : a.tmps.size = n) (hb : b.tmps.size = n) (hsel : ∀ cs b, o.op ≠ .select cs b) (hgb : ∀ g b t, o.guard = some (g, b) → (ops[g]?).bind (·.dst) = some t → t < n)
    (hag : ∀ t ∈ o.looksAt ops, a.eval (.tmp t) = b.eval (.tmp t)) (h : PureAt P ops L w1 a o v) : PureAt P ops L w1 b o v := by
  unfold PureAt at *
  rwa [← wanted_congr ha hb hgb hag, ← exec_congr hsel hag]

def snap (ops : Array Oper) (a0 a : Act) (o : Oper) (t : Tmp) : Value := match srcOf ops o t with | some _ => a.eval (.tmp t) | none => a0.eval (.tmp t)

/-- What holds of a value that an operation has made. -/
def Holds (P : Program) (ops : Array Oper) (L : World → World → Prop) (plan : List Sp) (n : Nat) (a0 : Act) (w1 : World) (i : Nat) (o : Oper) (a : Act) (w : World) (v : Value) : Prop :=
  match plan[i]? with
  | some .pure => ∀ b : Act, b.tmps.size = n → (∀ t ∈ o.looksAt ops, b.eval (.tmp t) = snap ops a0 a o t) → PureAt P ops L w1 b o v
  | some (.pin c) => v = c
  | some (.any R) => R w v
  | none => True

structure St (P : Program) (ops : Array Oper) (L : World → World → Prop) (plan : List Sp) (n : Nat) (a0 : Act) (w1 : World) (listed : Array Bool) (a : Act) (w : World) : Prop where
  later : L w1 w
  defers : a.defers = a0.defers
  size : a.tmps.size = n
  lsize : listed.size = ops.size
  shut : ∀ (j : Nat) (o : Oper), ops[j]? = some o → listed.getD j false = true → ∀ e ∈ o.after, Region.binds .any e = true → listed.getD e.on false = true
  new : ∀ (j : Nat) (o : Oper) (t : Tmp), ops[j]? = some o → listed.getD j false = true → o.dst = some t → Holds P ops L plan n a0 w1 j o a w (a.eval (.tmp t))
  old : ∀ t, (∀ (j : Nat) (o : Oper), ops[j]? = some o → listed.getD j false = true → o.dst ≠ some t) → a.eval (.tmp t) = a0.eval (.tmp t)

section
variable {plan : List Sp} {n : Nat} {a0 : Act} {w1 : World} {listed : Array Bool} {a : Act} {w : World}

theorem St.unlisted (st : St P ops L plan n a0 w1 listed a w) {i : Nat} {o : Oper} (ho : ops[i]? = some o) (hun : listed.getD i true = false) : listed.getD i false = false := by
  rw [getD_of_lt (by rw [st.lsize]; exact (Array.getElem?_eq_some_iff.1 ho).1) false true]; exact hun

theorem St.step (hstab : ∀ (i : Nat) R, plan[i]? = some (.any R) → ∀ w w' v, L w w' → R w v → R w' v) (htr : ∀ a b c, L a b → L b c → L a c) (hB : monoB ops n = true)
    (st : St P ops L plan n a0 w1 listed a w) {i : Nat} {o : Oper} (ho : ops[i]? = some o) (hun : listed.getD i true = false)
    (hall : ∀ e ∈ o.after, Region.binds .any e = true → listed.getD e.on false = true) {v : Value} {w' : World} (hL : L w w') (hR : ∀ t, o.dst = some t → Holds P ops L plan n a0 w1 i o (a.put o.dst v) w' v) :
    St P ops L plan n a0 w1 (listed.setIfInBounds i true) (a.put o.dst v) w' := by
  obtain ⟨m1, m2, m3⟩ := monoB_spec hB ho
  have hi : i < ops.size := (Array.getElem?_eq_some_iff.1 ho).1
  have hif := st.unlisted ho hun
  have gd : ∀ j, (listed.setIfInBounds i true).getD j false = true ↔ j = i ∨ listed.getD j false = true := by
    intro j
    by_cases hj : j = i
    · subst hj; simp [Array.getD, st.lsize, hi]
    · rw [Array.getD_eq_getD_getElem?, Array.getElem?_setIfInBounds_ne (Ne.symm hj), ← Array.getD_eq_getD_getElem?]; simp [hj]
  have keep : ∀ (j : Nat) (x : Oper) (t : Tmp), ops[j]? = some x → j ≠ i → x.dst = some t → (a.put o.dst v).eval (.tmp t) = a.eval (.tmp t) := by
    intro j x t hx hji ht
    have hne := (m3 j x t hx ht).1.resolve_left (Ne.symm hji)
    cases hd : o.dst with
    | none => rfl
    | some u => exact eval_put_other (fun h => hne (by rw [hd, h]))
  refine ⟨htr _ _ _ st.later hL, by cases o.dst <;> exact st.defers, ?_, by simp [st.lsize], ?_, ?_, ?_⟩
  · cases hd : o.dst with
    | none => exact st.size
    | some t => simp [Act.put, st.size]
  · intro j x hx hl e he hb
    rw [gd] at hl ⊢
    right
    rcases hl with rfl | hl
    · rw [ho] at hx; cases hx; exact hall e he hb
    · exact st.shut j x hx hl e he hb
  · intro j x t hx hl ht
    rw [gd] at hl
    by_cases hji : j = i
    · subst hji
      rw [ho] at hx; cases hx
      rw [ht, eval_put_same (by rw [st.size]; exact m2 t ht), ← ht]
      exact hR t ht
    · have hl' : listed.getD j false = true := hl.resolve_left hji
      have := st.new j x t hx hl' ht
      rw [keep j x t hx hji ht]
      unfold Holds at this ⊢
      split at this
      · rename_i hp
        refine fun b hb hag => this b hb (fun u hu => (hag u hu).trans ?_)
        unfold snap
        cases hs : srcOf ops x u with
        | none => rfl
        | some k =>
          obtain ⟨e, he, hb', rfl, y, hy, hyt⟩ := srcOf_spec hs
          have hkl := st.shut j x hx hl' e he hb'
          exact keep e.on y u hy (fun h => by rw [h, hif] at hkl; cases hkl) hyt
      · exact this
      · rename_i R hp; exact hstab j R hp _ _ _ hL this
      · trivial
  · intro t hno
    have h1 := hno i o ho ((gd i).2 (.inl rfl))
    have e : (a.put o.dst v).eval (.tmp t) = a.eval (.tmp t) := by
      cases hd : o.dst with
      | none => rfl
      | some u => exact eval_put_other (fun h => h1 (by rw [hd, h]))
    rw [e]
    exact st.old t (fun j x hx hl => hno j x hx ((gd j).2 (.inr hl)))

/-- An operand that no operation ahead makes is what it was. -/
theorem St.olds (hB : monoB ops n = true) (st : St P ops L plan n a0 w1 listed a w) {i : Nat} {o : Oper} (ho : ops[i]? = some o) (hun : listed.getD i true = false) {t : Tmp} (ht : t ∈ o.looksAt ops) (hs : srcOf ops o t = none) : a.eval (.tmp t) = a0.eval (.tmp t) := by
  obtain ⟨m1, m2, m3⟩ := monoB_spec hB ho
  have hif := st.unlisted ho hun
  refine st.old t (fun j x hx hl hxt => ?_)
  rcases (m3 j x t hx hxt).2 ht with h | h | h
  · rw [hs] at h; cases h
  · subst h; rw [hif] at hl; cases hl
  · unfold waitsFor at h
    rw [Array.any_eq_true] at h
    obtain ⟨k, hk, h⟩ := h
    simp only [Bool.and_eq_true, beq_iff_eq] at h
    have := st.shut j x hx hl x.after[k] (Array.getElem_mem hk) h.1
    rw [h.2, hif] at this
    cases this
end

theorem all_listed {n : Nat} (hB : monoB ops n = true) {listed : Array Bool} (hs : listed.size = ops.size) (hr : Region.ready .any ops listed = []) : ∀ j, j < ops.size → listed.getD j false = true := by
  intro j
  induction j using Nat.strongRecOn with
  | ind j ih =>
    intro hj
    cases hl : listed.getD j false with
    | true => rfl
    | false =>
      have ho : ops[j]? = some ops[j] := Array.getElem?_eq_getElem hj
      have : j ∈ Region.ready .any ops listed := mem_ready.2 ⟨by rw [getD_of_lt (by rw [hs]; exact hj) true false]; exact hl, _, ho, fun e he hb => ih e.on ((monoB_spec hB ho).1 e he hb) (Nat.lt_trans ((monoB_spec hB ho).1 e he hb) hj)⟩
      rw [hr] at this; cases this

theorem act_ext {a b : Act} (h1 : a.tmps.size = b.tmps.size) (h2 : a.defers = b.defers) (h3 : ∀ t, a.eval (.tmp t) = b.eval (.tmp t)) : a = b := by
  obtain ⟨x, d⟩ := a
  obtain ⟨y, d'⟩ := b
  simp only at h1 h2
  subst h2
  have : x = y := by
    refine Array.ext h1 (fun i hi hi' => ?_)
    have := h3 i
    simpa [Act.eval, Array.getD, hi, hi'] using this
  rw [this]

/-- How one operation ends. -/
def QR (L : World → World → Prop) (o : Oper) (R : World → Value → Prop) (a : Act) (w : World) (e : Exit) (a' : Act) (w' : World) : Prop :=
  e = .normal ∧ a'.defers = a.defers ∧ L w w' ∧ ∀ t, o.dst = some t → R w' (a'.eval (.tmp t))

/-- What is known of the operands that operations of the region have made. -/
def Know (ops : Array Oper) (plan : List Sp) (o : Oper) (a : Act) (w : World) : Prop :=
  ∀ t ∈ o.looksAt ops, ∀ j R, srcOf ops o t = some j → plan[j]? = some (.any R) → R w (a.eval (.tmp t))

/-- What is known of all. -/
def KnowAll (ops : Array Oper) (plan : List Sp) (a : Act) (w : World) : Prop :=
  ∀ (j : Nat) (o : Oper) (t : Tmp) R, ops[j]? = some o → o.dst = some t → plan[j]? = some (.any R) → R w (a.eval (.tmp t))

/-- The operations in the text's order, each by what is said of it. -/
def WM (P : Program) (ops : Array Oper) (L : World → World → Prop) (plan : List Sp) (w1 : World) (Q : Act → World → Prop) : List Oper → List Sp → Act → Prop
  | o :: l, .pure :: ps, a => ∃ c, PureAt P ops L w1 a o c ∧ WM P ops L plan w1 Q l ps (a.put o.dst c)
  | o :: l, .pin c :: ps, a => (∀ w, L w1 w → Know ops plan o a w → wpList P ops (QR L o (fun _ v => v = c) a w) [o] a w) ∧ WM P ops L plan w1 Q l ps (a.put o.dst c)
  | o :: l, .any R :: ps, a => (∀ w, L w1 w → Know ops plan o a w → wpList P ops (QR L o R a w) [o] a w) ∧ ∀ v, WM P ops L plan w1 Q l ps (a.put o.dst v)
  | [], [], a => ∀ w, L w1 w → KnowAll ops plan a w → Q a w
  | _, _, _ => False

theorem does_of_wpList {o : Oper} {R : World → Value → Prop} {al a : Act} {w : World} {n : Nat} (hal : al.tmps.size = n) (ha : a.tmps.size = n) (hsel : ∀ cs b, o.op ≠ .select cs b) (hgb : ∀ g b t, o.guard = some (g, b) → (ops[g]?).bind (·.dst) = some t → t < n)
    (hd : ∀ t, o.dst = some t → t < n) (hag : ∀ t ∈ o.looksAt ops, a.eval (.tmp t) = al.eval (.tmp t))
    (h : wpList P ops (QR L o R al w) [o] al w) : if Region.wanted o (yielded ops a.tmps) = true then Does P L o a w (fun w' v => ∀ t, o.dst = some t → R w' v) else L w w ∧ ∀ t, o.dst = some t → R w undef := by
  have he := exec_congr hsel hag
  have hw := wanted_congr ha hal hgb hag
  have val : ∀ v w', QR L o R al w .normal (al.put o.dst v) w' → L w w' ∧ ∀ t, o.dst = some t → R w' v := by
    rintro v w' ⟨-, -, h1, h2⟩
    refine ⟨h1, fun t hdst => ?_⟩
    have := h2 t hdst
    rwa [hdst, eval_put_same (by rw [hal]; exact hd t hdst)] at this
  rw [hw]
  unfold wpList at h
  split
  · rename_i hwt
    rw [if_pos hwt] at h
    have h : o.wp P al w (wpList P ops (QR L o R al w) []) (QR L o R al w) := by
      rcases h with h | ⟨-, a', w', h, -⟩
      · exact h
      · cases h
    unfold Oper.wp at h
    unfold Does
    rw [he]
    generalize (execOp al.eval o).run P w = r at *
    cases r with
    | ok x w' =>
      cases x <;> simp only [Oper.upon] at h <;> simp only [DoesUpon]
      case value u => exact val u w' h
      case skip => exact val undef w' h
      case defer d =>
        obtain ⟨-, h2, -⟩ := h
        have : ((({ al with defers := d :: al.defers } : Act).put o.dst undef)).defers = d :: al.defers := by cases o.dst <;> rfl
        rw [this] at h2
        have := congrArg List.length h2
        simp at this
      case enter f args =>
        refine Calls.mono h ?_
        intro e w'' h2
        cases e with
        | returned v => exact ⟨v, rfl, val v w'' h2⟩
        | panicked c => cases h2.1
        | outgrown => obtain ⟨a', w3, h3, -⟩ := h2; cases h3
      case row row args => exact Rows.mono h fun v w'' h2 => val v w'' h2
    | halt x w' => cases x <;> simp only [Oper.upon] at h <;> first | exact h.elim | (cases h.1)
  · rename_i hwt
    rw [if_neg hwt] at h
    exact val undef w h

section
variable {plan : List Sp} {n : Nat} {a0 : Act} {w1 : World} {listed : Array Bool} {a : Act} {w : World} {QF : Act → World → Prop}

/-- The text's frame: alike where what stands there has come up. -/
theorem lex_reach (hrefl : ∀ w, L w w) (hB : monoB ops n = true) (hn : a0.tmps.size = n) (st : St P ops L plan n a0 w1 listed a w) (h : WM P ops L plan w1 QF ops.toList plan a0) : ∀ k, k ≤ ops.size →
    ∃ al : Act, WM P ops L plan w1 QF (ops.toList.drop k) (plan.drop k) al ∧ al.tmps.size = n ∧ al.defers = a0.defers ∧
      (∀ (j : Nat) (x : Oper) (t : Tmp), j < k → ops[j]? = some x → x.dst = some t → listed.getD j false = true → al.eval (.tmp t) = a.eval (.tmp t)) ∧
      (∀ t, (∀ (j : Nat) (x : Oper), j < k → ops[j]? = some x → x.dst ≠ some t) → al.eval (.tmp t) = a0.eval (.tmp t)) := by
  intro k
  induction k with
  | zero => exact fun _ => ⟨a0, by simpa using h, hn, rfl, fun j _ _ hj => by omega, fun _ _ => rfl⟩
  | succ k ih =>
    intro hk
    obtain ⟨al, hw, hs, hdf, h1, h2⟩ := ih (by omega)
    have hkl : k < ops.toList.length := by simp; omega
    have ho : ops[k]? = some ops[k] := Array.getElem?_eq_getElem (by omega)
    obtain ⟨o, hoo⟩ : ∃ o, o = ops[k] := ⟨_, rfl⟩
    rw [← hoo] at ho
    obtain ⟨m1, m2, m3⟩ := monoB_spec hB ho
    have hdrop : ops.toList.drop k = o :: ops.toList.drop (k + 1) := by rw [List.drop_eq_getElem_cons hkl]; simp [hoo]
    rw [hdrop] at hw
    have ext : ∀ c, (listed.getD k false = true → ∀ t, o.dst = some t → c = a.eval (.tmp t)) → (al.put o.dst c).tmps.size = n ∧ (al.put o.dst c).defers = a0.defers ∧
        (∀ (j : Nat) (x : Oper) (t : Tmp), j < k + 1 → ops[j]? = some x → x.dst = some t → listed.getD j false = true → (al.put o.dst c).eval (.tmp t) = a.eval (.tmp t)) ∧
        (∀ t, (∀ (j : Nat) (x : Oper), j < k + 1 → ops[j]? = some x → x.dst ≠ some t) → (al.put o.dst c).eval (.tmp t) = a0.eval (.tmp t)) := by
      intro c hc
      refine ⟨?_, ?_, fun j x t hj hx hxt hl => ?_, fun t hno => ?_⟩
      · cases hd : o.dst <;> simp [Act.put, hs]
      · cases o.dst <;> exact hdf
      · by_cases hjk : j = k
        · subst hjk
          rw [ho] at hx; cases hx
          rw [hxt, eval_put_same (by rw [hs]; exact m2 t hxt)]
          exact hc hl t hxt
        · have hne := (m3 j x t hx hxt).1.resolve_left (fun h => hjk h.symm)
          have : (al.put o.dst c).eval (.tmp t) = al.eval (.tmp t) := by
            cases hd : o.dst with
            | none => rfl
            | some u => exact eval_put_other (fun h => hne (by rw [hd, h]))
          rw [this]; exact h1 j x t (by omega) hx hxt hl
      · have hne := hno k o (by omega) ho
        have : (al.put o.dst c).eval (.tmp t) = al.eval (.tmp t) := by
          cases hd : o.dst with
          | none => rfl
          | some u => exact eval_put_other (fun h => hne (by rw [hd, h]))
        rw [this]; exact h2 t (fun j x hj hx => hno j x (by omega) hx)
    cases hp : plan.drop k with
    | nil => rw [hp] at hw; exact hw.elim
    | cons s ps =>
      rw [hp] at hw
      have hpk : plan[k]? = some s := by have := congrArg List.head? hp; simpa using this
      have hps : plan.drop (k + 1) = ps := by rw [← List.drop_drop, hp]; rfl
      rw [hps]
      cases s with
      | pure =>
        obtain ⟨c, hc, hw⟩ := hw
        refine ⟨al.put o.dst c, hw, ext c (fun hl t ht => ?_)⟩
        have hH := st.new k o t ho hl ht
        unfold Holds at hH
        rw [hpk] at hH
        refine PureAt.det (hrefl w1) hc (hH al hs (fun u hu => ?_))
        unfold snap
        cases hsr : srcOf ops o u with
        | none =>
          refine h2 u (fun j x hj hx hxt => ?_)
          rcases (m3 j x u hx hxt).2 hu with h | h | h
          · rw [hsr] at h; cases h
          · omega
          · unfold waitsFor at h
            rw [Array.any_eq_true] at h
            obtain ⟨i, hi, h⟩ := h
            simp only [Bool.and_eq_true, beq_iff_eq] at h
            have := (monoB_spec hB hx).1 x.after[i] (Array.getElem_mem hi) h.1
            omega
        | some j =>
          obtain ⟨e, he, hb, rfl, x, hx, hxt⟩ := srcOf_spec hsr
          exact h1 e.on x u (m1 e he hb) hx hxt (st.shut k o ho hl e he hb)
      | pin c =>
        refine ⟨al.put o.dst c, hw.2, ext c (fun hl t ht => ?_)⟩
        have hH := st.new k o t ho hl ht
        unfold Holds at hH
        rw [hpk] at hH
        exact hH.symm
      | any R =>
        cases hd : o.dst with
        | none => exact ⟨al.put o.dst undef, by have := hw.2 undef; exact this, ext undef (fun _ t ht => by rw [hd] at ht; cases ht)⟩
        | some t => exact ⟨al.put o.dst (a.eval (.tmp t)), hw.2 _, ext _ (fun _ u hu => by rw [hd] at hu; cases hu; rfl)⟩
end

/-- What is said stays true. -/
def StabAll (L : World → World → Prop) : List Sp → Prop
  | [] => True
  | .any R :: ps => (∀ w w' v, L w w' → R w v → R w' v) ∧ StabAll L ps
  | .pure :: ps => StabAll L ps
  | .pin _ :: ps => StabAll L ps
theorem stabAll_at : ∀ (ps : List Sp), StabAll L ps → ∀ (i : Nat) R, ps[i]? = some (.any R) → ∀ w w' v, L w w' → R w v → R w' v
  | [], _, i, R, h => by simp at h
  | .any R' :: ps, h, 0, R, hi => by simp at hi; subst hi; exact h.1
  | .pure :: ps, h, 0, R, hi => by simp at hi
  | .pin _ :: ps, h, 0, R, hi => by simp at hi
  | .any R' :: ps, h, i + 1, R, hi => stabAll_at ps h.2 i R (by simpa using hi)
  | .pure :: ps, h, i + 1, R, hi => stabAll_at ps h i R (by simpa using hi)
  | .pin _ :: ps, h, i + 1, R, hi => stabAll_at ps h i R (by simpa using hi)

/-- **A region that draws its order, walked in the text's order.** -/
theorem wp_region_plan_lit {id : Nat} {Q : Exit → Act → World → Prop} {a0 : Act} {w0 : World} {l : List Oper} (n : Nat) (plan : List Sp) (hm : P.follows .mixedOrders = true) (hB : (monoB l.toArray n && planB l.toArray n) = true) (hn : a0.tmps.size = n)
    (hrefl : ∀ w, L w w) (htr : ∀ a b c, L a b → L b c → L a c) (hstab' : StabAll L plan)
    (h : WM P l.toArray L plan w0.drew (fun a w => Q .normal a w) l plan a0) : (Code.region id l.toArray true).wp P Q a0 w0 := by
  have hstab := stabAll_at plan hstab'
  obtain ⟨ops, hops⟩ : ∃ ops, ops = l.toArray := ⟨_, rfl⟩
  have hl : l = ops.toList := by rw [hops]
  rw [← hops] at hB h ⊢
  rw [hl] at h
  clear hl hops
  rw [Bool.and_eq_true] at hB
  obtain ⟨hB, hP⟩ := hB
  have fin : ∀ listed a w, St P ops L plan n a0 w0.drew listed a w → Region.ready .any ops listed = [] → Q .normal a w := by
    intro listed a w st hr
    have hl := all_listed hB st.lsize hr
    obtain ⟨al, hw, hs, hdf, h1, h2⟩ := lex_reach hrefl hB hn st h ops.size (Nat.le_refl _)
    have hlt : ∀ (i : Nat) (o : Oper), ops[i]? = some o → i < ops.size := fun i o ho => (Array.getElem?_eq_some_iff.1 ho).1
    have heq : al = a := by
      refine act_ext (hs.trans st.size.symm) (hdf.trans st.defers.symm) (fun t => ?_)
      by_cases ht : ∃ (i : Nat) (o : Oper), ops[i]? = some o ∧ o.dst = some t
      · obtain ⟨i, o, ho, hot⟩ := ht
        exact h1 i o t (hlt i o ho) ho hot (hl i (hlt i o ho))
      · rw [h2 t (fun i o _ ho hot => ht ⟨i, o, ho, hot⟩)]
        exact (st.old t (fun j o ho _ hot => ht ⟨j, o, ho, hot⟩)).symm
    rw [heq] at hw
    have e1 : ops.toList.drop ops.size = [] := by rw [List.drop_eq_nil_iff]; simp
    rw [e1] at hw
    cases hp : plan.drop ops.size with
    | cons s ps => rw [hp] at hw; exact hw.elim
    | nil =>
      rw [hp] at hw
      refine hw w st.later (fun j o t R ho hot hpl => ?_)
      have := st.new j o t ho (hl j (hlt j o ho)) hot
      unfold Holds at this
      rw [hpl] at this
      exact this
  have go : ∀ (fuel : Nat) (listed : Array Bool) (a : Act) (w : World), St P ops L plan n a0 w0.drew listed a w → (fuel = 0 → Region.ready .any ops listed = []) → (∀ i, i ∈ Region.ready .any ops listed → (listed.toList.filter (! ·)).length ≤ fuel) →
      wpAny P .any ops Q fuel listed a w := by
    intro fuel
    induction fuel with
    | zero => intro listed a w st h0 _; exact ⟨h0 rfl, fin listed a w st (h0 rfl)⟩
    | succ fuel ih =>
      intro listed a w st _ hc
      refine ⟨fun hr => fin listed a w st hr, fun i hi => ?_⟩
      obtain ⟨hun, o, ho, hall⟩ := mem_ready.1 hi
      have hil : i < listed.size := by rw [st.lsize]; exact (Array.getElem?_eq_some_iff.1 ho).1
      have hcount : ((listed.setIfInBounds i true).toList.filter (! ·)).length + 1 = (listed.toList.filter (! ·)).length := by
        have hget : listed.toList[i]? = some false := by
          have : listed.getD i true = false := hun
          simp [Array.getD, hil] at this
          simp [hil, this]
        have aux : ∀ (l : List Bool) (i : Nat), l[i]? = some false → ((l.set i true).filter (! ·)).length + 1 = (l.filter (! ·)).length := by
          intro l
          induction l with
          | nil => intro i h; simp at h
          | cons b l ih =>
            intro i h
            cases i with
            | zero => simp at h; subst h; simp
            | succ i =>
              have := ih i (by simpa using h)
              cases b <;> simp <;> omega
        rw [Array.toList_setIfInBounds]
        exact aux _ _ hget
      have hnext : ∀ v w', L w w' → (∀ t, o.dst = some t → Holds P ops L plan n a0 w0.drew i o (a.put o.dst v) w' v) → wpAny P .any ops Q fuel (listed.setIfInBounds i true) (a.put o.dst v) w' := by
        intro v w' hL hR
        have st' := st.step hstab htr hB ho hun hall hL hR
        have hle := hc i hi
        refine ih _ _ _ st' (fun h0 => ?_) (fun j hj => by omega)
        subst h0
        have hz : ((listed.setIfInBounds i true).toList.filter (! ·)).length = 0 := by omega
        cases hr : Region.ready .any ops (listed.setIfInBounds i true) with
        | nil => rfl
        | cons j l =>
          have hj : j ∈ Region.ready .any ops (listed.setIfInBounds i true) := by rw [hr]; exact List.mem_cons_self ..
          obtain ⟨hu, x, hx, -⟩ := mem_ready.1 hj
          have hjl : j < (listed.setIfInBounds i true).size := by rw [st'.lsize]; exact (Array.getElem?_eq_some_iff.1 hx).1
          have hmem : false ∈ (listed.setIfInBounds i true).toList := by
            obtain ⟨l2, hl2⟩ : ∃ l2, l2 = listed.setIfInBounds i true := ⟨_, rfl⟩
            rw [← hl2] at hu hjl ⊢
            have h2 : l2[j] = false := by simpa [Array.getD, hjl] using hu
            rw [← h2]
            exact Array.mem_toList_iff.2 (Array.getElem_mem hjl)
          have : false ∈ (listed.setIfInBounds i true).toList.filter (! ·) := List.mem_filter.2 ⟨hmem, rfl⟩
          rw [List.length_eq_zero_iff.1 hz] at this; cases this
      obtain ⟨m1, m2, m3⟩ := monoB_spec hB ho
      obtain ⟨q1, q2⟩ := planB_spec hP ho
      have hio : i < ops.size := (Array.getElem?_eq_some_iff.1 ho).1
      obtain ⟨al, hw, hs, hdf, h1, h2⟩ := lex_reach hrefl hB hn st h i (Nat.le_of_lt hio)
      have halno : ∀ t ∈ o.looksAt ops, srcOf ops o t = none → al.eval (.tmp t) = a0.eval (.tmp t) := by
        intro t ht hsr
        refine h2 t (fun j x hj hx hxt => ?_)
        rcases (m3 j x t hx hxt).2 ht with h | h | h
        · rw [hsr] at h; cases h
        · omega
        · unfold waitsFor at h
          rw [Array.any_eq_true] at h
          obtain ⟨k, hk, h⟩ := h
          simp only [Bool.and_eq_true, beq_iff_eq] at h
          have := (monoB_spec hB hx).1 x.after[k] (Array.getElem_mem hk) h.1
          omega
      have hag : ∀ t ∈ o.looksAt ops, a.eval (.tmp t) = al.eval (.tmp t) := by
        intro t ht
        cases hsr : srcOf ops o t with
        | none => rw [halno t ht hsr]; exact st.olds hB ho hun ht hsr
        | some j =>
          obtain ⟨e, he, hb, rfl, x, hx, hxt⟩ := srcOf_spec hsr
          exact (h1 e.on x t (m1 e he hb) hx hxt (hall e he hb)).symm
      have hkn : Know ops plan o al w := by
        intro t ht j R hsr hpl
        rw [← hag t ht]
        obtain ⟨e, he, hb, rfl, x, hx, hxt⟩ := srcOf_spec hsr
        have := st.new e.on x t hx (hall e he hb) hxt
        unfold Holds at this
        rw [hpl] at this
        exact this
      have hkl : i < ops.toList.length := by simpa using hio
      have hdrop : ops.toList.drop i = o :: ops.toList.drop (i + 1) := by
        rw [List.drop_eq_getElem_cons hkl]
        have := (Array.getElem?_eq_some_iff.1 ho).2
        simp [this]
      rw [hdrop] at hw
      cases hp : plan.drop i with
      | nil => rw [hp] at hw; exact hw.elim
      | cons s ps =>
        rw [hp] at hw
        have hpk : plan[i]? = some s := by have := congrArg List.head? hp; simpa using this
        unfold wpOp
        simp only [ho]
        cases s with
        | pure =>
          obtain ⟨c, hc, -⟩ := hw
          have hHc : ∀ t, o.dst = some t → Holds P ops L plan n a0 w0.drew i o (a.put o.dst c) w c := by
            intro td htd
            unfold Holds
            rw [hpk]
            intro b hb hbag
            refine PureAt.congr hs hb q1 q2 (fun t ht => ?_) hc
            rw [hbag t ht]
            unfold snap
            cases hsr : srcOf ops o t with
            | none => exact halno t ht hsr
            | some j =>
              obtain ⟨e, he, hb', rfl, x, hx, hxt⟩ := srcOf_spec hsr
              have hne := (m3 e.on x t hx hxt).1.resolve_left (fun h => by have := m1 e he hb'; omega)
              rw [← hag t ht]
              cases hd : o.dst with
              | none => rfl
              | some u => exact (eval_put_other (fun h => hne (by rw [hd, h]))).symm
          have hca := PureAt.congr hs st.size q1 q2 (fun t ht => (hag t ht).symm) hc
          unfold PureAt at hca
          split
          · rename_i hwt
            rw [if_pos hwt] at hca
            refine .inl ?_
            unfold Oper.wp
            rw [hca w st.later]
            exact hnext c w (hrefl w) hHc
          · rename_i hwt
            rw [if_neg hwt] at hca
            subst hca
            exact hnext _ w (hrefl w) hHc
        | pin c =>
          have hdo := does_of_wpList hs st.size q1 q2 m2 hag (hw.1 w st.later hkn)
          split
          · rename_i hwt
            rw [if_pos hwt] at hdo
            exact .inl (wp_of_does hdo fun v w' hL hv => hnext v w' hL fun t ht => by unfold Holds; rw [hpk]; exact hv t ht)
          · rename_i hwt
            rw [if_neg hwt] at hdo
            exact hnext _ w (hrefl w) fun t ht => by unfold Holds; rw [hpk]; exact hdo.2 t ht
        | any R =>
          have hdo := does_of_wpList hs st.size q1 q2 m2 hag (hw.1 w st.later hkn)
          split
          · rename_i hwt
            rw [if_pos hwt] at hdo
            exact .inl (wp_of_does hdo fun v w' hL hv => hnext v w' hL fun t ht => by unfold Holds; rw [hpk]; exact hv t ht)
          · rename_i hwt
            rw [if_neg hwt] at hdo
            exact hnext _ w (hrefl w) fun t ht => by unfold Holds; rw [hpk]; exact hdo.2 t ht
  refine wp_region_any hm (go ops.size _ a0 _ ⟨hrefl _, rfl, hn, by simp, ?_, ?_, fun _ _ => rfl⟩ ?_ ?_)
  · intro j o _ hl
    simp [Array.getD] at hl
  · intro j o t _ hl
    simp [Array.getD] at hl
  · intro h0
    unfold Region.ready; rw [h0]; rfl
  · intro i _
    exact Nat.le_trans (List.length_filter_le _ _) (by simp)

section
variable {plan : List Sp} {w1 : World} {QF : Act → World → Prop} {o : Oper} {l : List Oper} {ps : List Sp} {a : Act}
theorem wm_skip (hw : Region.wanted o (yielded ops a.tmps) = false) (h : ∀ K : Act → Prop, (∀ a, WM P ops L plan w1 QF l ps a → K a) → K (a.put o.dst undef)) : WM P ops L plan w1 QF (o :: l) (.pure :: ps) a :=
  ⟨undef, by unfold PureAt; rw [if_neg (by rw [hw]; exact Bool.false_ne_true)], h _ fun _ h => h⟩
theorem wm_move {x : Operand} (hw : Region.wanted o (yielded ops a.tmps) = true) (ho : o.op = .move x ∨ o.op = .assign x) (h : ∀ K : Act → Prop, (∀ a, WM P ops L plan w1 QF l ps a → K a) → K (a.put o.dst (a.eval x))) : WM P ops L plan w1 QF (o :: l) (.pure :: ps) a :=
  ⟨a.eval x, by
    unfold PureAt; rw [if_pos hw]
    intro w _
    rcases ho with ho | ho
    · exact run_move x ho w
    · exact run_assign x ho w, h _ fun _ h => h⟩
theorem wm_run (hw : Region.wanted o (yielded ops a.tmps) = true) (h : ∀ K : Act → Prop, (∀ a, WM P ops L plan w1 QF l ps a → K a) → ∃ c, (∀ w, L w1 w → (execOp a.eval o).run P w = .ok (.value c) w) ∧ K (a.put o.dst c)) :
    WM P ops L plan w1 QF (o :: l) (.pure :: ps) a := by
  obtain ⟨c, h1, h2⟩ := h _ fun _ h => h
  exact ⟨c, by unfold PureAt; rw [if_pos hw]; exact h1, h2⟩
theorem wm_pin {c : Value} (h : ∀ K : Act → Prop, (∀ a, WM P ops L plan w1 QF l ps a → K a) → (∀ w, L w1 w → Know ops plan o a w → wpList P ops (QR L o (fun _ v => v = c) a w) [o] a w) ∧ K (a.put o.dst c)) :
    WM P ops L plan w1 QF (o :: l) (.pin c :: ps) a := h _ (fun _ h => h)
theorem wm_any {Rv : World → Value → Prop} (h : ∀ K : Act → Prop, (∀ a, WM P ops L plan w1 QF l ps a → K a) → (∀ w, L w1 w → Know ops plan o a w → wpList P ops (QR L o Rv a w) [o] a w) ∧ ∀ v, K (a.put o.dst v)) :
    WM P ops L plan w1 QF (o :: l) (.any Rv :: ps) a := h _ (fun _ h => h)
theorem wm_end (h : ∀ w, L w1 w → KnowAll ops plan a w → QF a w) : WM P ops L plan w1 QF [] [] a := h

theorem Know.get {w : World} (hk : Know ops plan o a w) (t j : Nat) {Rv : World → Value → Prop} (h : ((o.looksAt ops).contains t && srcOf ops o t == some j) = true) (hp : plan[j]? = some (.any Rv)) : Rv w (a.eval (.tmp t)) := by
  simp only [Bool.and_eq_true, List.contains_eq_mem, decide_eq_true_eq, beq_iff_eq] at h
  exact hk t h.1 j Rv h.2 hp
theorem KnowAll.get {w : World} (hk : KnowAll ops plan a w) (j t : Nat) {Rv : World → Value → Prop} (h : ((ops[j]?).bind (·.dst) == some t) = true) (hp : plan[j]? = some (.any Rv)) : Rv w (a.eval (.tmp t)) := by
  rw [beq_iff_eq] at h
  obtain ⟨x, hx, hxt⟩ := Option.bind_eq_some_iff.1 h
  exact hk j x t Rv hx hxt hp

theorem qr_pin {c : Value} {t : Tmp} {m : List Value} {d : List Deferred} {w w' : World} (hd : o.dst = some t) (hv : m[t]? = some c) (hdef : d = a.defers) (hL : L w w') :
    QR L o (fun _ v => v = c) a w .normal ⟨m.toArray, d⟩ w' := ⟨rfl, hdef, hL, fun u hu => by
  rw [hd] at hu; cases hu
  simp [Act.eval, hv]⟩
theorem qr_any {Rv : World → Value → Prop} {t : Tmp} {v : Value} {m : List Value} {d : List Deferred} {w w' : World} (hd : o.dst = some t) (hv : m[t]? = some v) (hdef : d = a.defers) (hL : L w w') (hR : Rv w' v) :
    QR L o Rv a w .normal ⟨m.toArray, d⟩ w' := ⟨rfl, hdef, hL, fun u hu => by
  rw [hd] at hu; cases hu
  simpa [Act.eval, hv] using hR⟩
end

/-- Later: only new memory. -/
abbrev Later (w w' : World) : Prop := Below w.heap.size w w'
theorem Later.tr (a b c : World) (h : Later a b) (k : Later b c) : Later a c := h.trans (k.mono h.size)

end
end Go.Proofs.YteioacpfphigjaaGreat
end

section
namespace Go.Proofs.YteioacpfphigjaaGreat
open Go.RowKit
set_option linter.unusedVariables false
set_option linter.unusedSimpArgs false

def cmpI (a b : Int) : Int := if a < b then -1 else if b < a then 1 else 0
def cmpT (a b : Tk) : Int := if cmpI a.due b.due ≠ 0 then cmpI a.due b.due else if cmpI a.prio b.prio ≠ 0 then cmpI a.prio b.prio else cmpI a.name b.name
theorem isNaN_int (a : Int) (w : World) : Calls Tryz.prog 95 #[.int .i64 a] w fun e w' => e = .returned (.bool false) ∧ w' = w := by
  go_enter Tryz.func95, Tryz.ntmps95
  go_wp2
  go_ret
  exact ⟨rfl, rfl⟩
theorem cmp_Compare (a b : Int) (w : World) : Calls Tryz.prog 73 #[.int .i64 a, .int .i64 b] w fun e w' => e = .returned (.int .i64 (cmpI a b)) ∧ w' = w := by
  unfold cmpI
  by_cases h1 : a < b
  · rw [if_pos h1]
    go_enter Tryz.func73, Tryz.ntmps73
    go_wp2_with (first | (go_at_call 95; refine (isNaN_int _ _).mono ?_; rintro e w' ⟨rfl, rfl⟩) | fail)
    go_ret
    exact ⟨rfl, rfl⟩
  · rw [if_neg h1]
    by_cases h2 : b < a
    · rw [if_pos h2]
      go_enter Tryz.func73, Tryz.ntmps73
      go_wp2_with (first | (go_at_call 95; refine (isNaN_int _ _).mono ?_; rintro e w' ⟨rfl, rfl⟩) | fail)
      go_ret
      exact ⟨rfl, rfl⟩
    · rw [if_neg h2]
      go_enter Tryz.func73, Tryz.ntmps73
      go_wp2_with (first | (go_at_call 95; refine (isNaN_int _ _).mono ?_; rintro e w' ⟨rfl, rfl⟩) | fail)
      go_ret
      exact ⟨rfl, rfl⟩
/-- Three numbers in a slice of their own. -/
def Three (w : World) (v : Value) (x y z : Int) : Prop := ∃ b, v = .slice (some ⟨b, 0, none⟩) 3 3 ∧ w.cell? ⟨b, 0, none⟩ = some (.int .i64 x) ∧ w.cell? ⟨b, 1, none⟩ = some (.int .i64 y) ∧ w.cell? ⟨b, 2, none⟩ = some (.int .i64 z)
theorem Three.later {w w' : World} {v : Value} {x y z : Int} (h : Three w v x y z) (hb : Below w.heap.size w w') : Three w' v x y z := by
  obtain ⟨b, h1, h2, h3, h4⟩ := h
  have hl := block_lt_of_cell h2
  exact ⟨b, h1, (hb.cell (p := ⟨b, 0, none⟩) hl).trans h2, (hb.cell (p := ⟨b, 1, none⟩) hl).trans h3, (hb.cell (p := ⟨b, 2, none⟩) hl).trans h4⟩
theorem Three.new (w : World) (t : TypeId) (x y z : Int) : Three (w.alloc (.cells #[.int .i64 x, .int .i64 y, .int .i64 z] t)) (.slice (some ⟨w.heap.size, 0, none⟩) 3 3) x y z :=
  ⟨_, rfl, by rw [World.cell?, heap_alloc_new w]; rfl, by rw [World.cell?, heap_alloc_new w]; rfl, by rw [World.cell?, heap_alloc_new w]; rfl⟩
def orI (x y z : Int) : Int := if x ≠ 0 then x else if y ≠ 0 then y else z
set_option maxHeartbeats 4000000 in
theorem cmp_Or (v : Value) (x y z : Int) (w : World) (h : Three w v x y z) : Calls Tryz.prog 106 #[v] w fun e w' => e = .returned (.int .i64 (orI x y z)) ∧ w' = w := by
  obtain ⟨b, rfl, h0, h1, h2⟩ := h
  go_enter Tryz.func106, Tryz.ntmps106
  go_wp2
  go_loopw [8] (fun i wr => ∃ n : Nat, n ≤ 3 ∧ i = .int .i64 n ∧ wr = w ∧ (1 ≤ n → x = 0) ∧ (2 ≤ n → y = 0) ∧ (3 ≤ n → z = 0)) (fun i _ => 3 - (intOf i).toNat)
  case atStart => exact ⟨0, by omega, rfl, rfl, by omega, by omega, by omega⟩
  case round =>
    obtain ⟨n, hn, rfl, rfl, q1, q2, q3⟩ := hrel
    have hc : n = 0 ∨ n = 1 ∨ n = 2 ∨ n = 3 := by omega
    rcases hc with rfl | rfl | rfl | rfl
    · clear q1 q2 q3
      rw [show ((0 : Nat) : Int) = 0 from rfl]
      by_cases e0 : x = 0
      · subst e0
        go_wp2
        exact ⟨⟨1, by omega, rfl, trivial, fun _ => trivial, by omega, by omega⟩, by simp [intOf]⟩
      · go_wp2
        go_ret
        exact ⟨by simp [orI, e0], rfl⟩
    · have := q1 (by omega)
      subst this
      clear q1 q2 q3
      rw [show ((1 : Nat) : Int) = 1 from rfl]
      by_cases e0 : y = 0
      · subst e0
        go_wp2
        exact ⟨⟨2, by omega, rfl, trivial, fun _ => trivial, fun _ => trivial, by omega⟩, by simp [intOf]⟩
      · go_wp2
        go_ret
        exact ⟨by simp [orI, e0], rfl⟩
    · have := q1 (by omega)
      subst this
      have := q2 (by omega)
      subst this
      clear q1 q2 q3
      rw [show ((2 : Nat) : Int) = 2 from rfl]
      by_cases e0 : z = 0
      · subst e0
        go_wp2
        exact ⟨⟨3, by omega, rfl, trivial, fun _ => trivial, fun _ => trivial, fun _ => trivial⟩, by simp [intOf]⟩
      · go_wp2
        go_ret
        exact ⟨by simp [orI, e0], rfl⟩
    · have := q1 (by omega)
      subst this
      have := q2 (by omega)
      subst this
      have := q3 (by omega)
      subst this
      clear q1 q2 q3
      rw [show ((3 : Nat) : Int) = 3 from rfl]
      go_wp2
      go_ret
      exact ⟨by simp [orI], rfl⟩
theorem cmpT_or (a b : Tk) : cmpT a b = orI (cmpI a.due b.due) (cmpI a.prio b.prio) (cmpI a.name b.name) := rfl
set_option maxHeartbeats 4000000 in
set_option maxRecDepth 100000 in
theorem agenda_compare (a b : Tk) (w : World) : Calls Tryz.prog 84 #[.agg (tc a).toArray, .agg (tc b).toArray] w fun e w' => e = .returned (.int .i64 (cmpT a b)) ∧ Below w.heap.size w w' := by
  rw [cmpT_or]
  obtain ⟨x, hx⟩ : ∃ x, x = cmpI a.due b.due := ⟨_, rfl⟩
  obtain ⟨y, hy⟩ : ∃ y, y = cmpI a.prio b.prio := ⟨_, rfl⟩
  obtain ⟨z, hz⟩ : ∃ z, z = cmpI a.name b.name := ⟨_, rfl⟩
  rw [← hx, ← hy, ← hz]
  have CX := Lib.hid (cmp_Compare a.due b.due)
  have CY := Lib.hid (cmp_Compare a.prio b.prio)
  have CZ := Lib.hid (cmp_Compare a.name b.name)
  rw [← hx] at CX
  rw [← hy] at CY
  rw [← hz] at CZ
  clear hx hy hz
  go_enter Tryz.func84, Tryz.ntmps84
  obtain ⟨wz, hwz⟩ : ∃ wz, wz = (w.alloc (.cells (tc a).toArray 143)).alloc (.cells (tc b).toArray 143) := ⟨_, rfl⟩
  go_upto_region 1 with fail
  rw [← hwz]
  have hz0 : wz.heap[w.heap.size]? = some (.cells (tc a).toArray 143 (0, 0)) := by rw [hwz]; exact (Below.heap_alloc _ _ _ (by simp)).trans (heap_alloc_new w _)
  have hz1 : wz.heap[w.heap.size + 1]? = some (.cells (tc b).toArray 143 (0, 0)) := by
    have := heap_alloc_new (w.alloc (.cells (tc a).toArray 143)) (.cells (tc b).toArray 143)
    rw [hwz]
    simpa using this
  have hzs : wz.heap.size = w.heap.size + 2 := by rw [hwz]; simp
  have hzB : Below w.heap.size w wz := by rw [hwz]; exact ((Below.refl _ _).alloc (Nat.le_refl _) _).alloc (by simp) _
  have A0 : wz.cell? ⟨w.heap.size, 0, none⟩ = some (.int .i64 a.name) := by rw [World.cell?, hz0]; rfl
  have A1 : wz.cell? ⟨w.heap.size, 1, none⟩ = some (.int .i64 a.due) := by rw [World.cell?, hz0]; rfl
  have A2 : wz.cell? ⟨w.heap.size, 2, none⟩ = some (.int .i64 a.prio) := by rw [World.cell?, hz0]; rfl
  have B0 : wz.cell? ⟨w.heap.size + 1, 0, none⟩ = some (.int .i64 b.name) := by rw [World.cell?, hz1]; rfl
  have B1 : wz.cell? ⟨w.heap.size + 1, 1, none⟩ = some (.int .i64 b.due) := by rw [World.cell?, hz1]; rfl
  have B2 : wz.cell? ⟨w.heap.size + 1, 2, none⟩ = some (.int .i64 b.prio) := by rw [World.cell?, hz1]; rfl
  have LA : ∀ k v w', wz.cell? ⟨w.heap.size, k, none⟩ = some v → Later wz.drew w' → w'.cell? ⟨w.heap.size, k, none⟩ = some v := fun k v w' h hL => (hL.cell (p := ⟨w.heap.size, k, none⟩) (by show w.heap.size < wz.heap.size; omega)).trans h
  have LB : ∀ k v w', wz.cell? ⟨w.heap.size + 1, k, none⟩ = some v → Later wz.drew w' → w'.cell? ⟨w.heap.size + 1, k, none⟩ = some v := fun k v w' h hL => (hL.cell (p := ⟨w.heap.size + 1, k, none⟩) (by show w.heap.size + 1 < wz.heap.size; omega)).trans h
  have HZB := Lib.hid hzB
  have LA0 := fun w' hL => LA 0 _ w' A0 hL
  have LA1 := fun w' hL => LA 1 _ w' A1 hL
  have LA2 := fun w' hL => LA 2 _ w' A2 hL
  have LB0 := fun w' hL => LB 0 _ w' B0 hL
  have LB1 := fun w' hL => LB 1 _ w' B1 hL
  have LB2 := fun w' hL => LB 2 _ w' B2 hL
  clear hz0 hz1 hzB hwz A0 A1 A2 B0 B1 B2 LA LB
  refine wp_region_plan_lit (L := Later) 22 [.pure, .pure, .pure, .pure, .pin (.int .i64 x), .pure, .pure, .pure, .pure, .pin (.int .i64 y), .pure, .pure, .pure, .pure, .pin (.int .i64 z), .any (fun w v => Three w v x y z), .pin (.int .i64 (orI x y z)), .pure] (by kernel_rfl) (by kernel_rfl) rfl (fun w => Below.refl _ w) Later.tr ⟨fun w w' v hL hR => Three.later hR hL, trivial⟩ ?_
  iterate 4
    first
    | (refine wm_skip (by rfl) (fun K hK => ?_))
    | (refine wm_move (by rfl) (.inl rfl) (fun K hK => ?_))
    | (refine wm_move (by rfl) (.inr rfl) (fun K hK => ?_))
    | (refine wm_run (by rfl) (fun K hK => ?_)
       apply Exists.intro
       apply And.intro
       · intro w hL
         simp [go_sem, (LA1 w hL), (LB1 w hL)]
         rfl)
    simp only [Act.put, Act.eval, List.setIfInBounds_toArray, List.set_cons_succ, List.set_cons_zero]
    refine hK _ ?_
    clear hK K
  refine wm_pin (fun K hK => ⟨fun w' hL hk => ?_, ?_⟩)
  · go_wp2_with (first | (go_at_call 73; refine (CX.out _).mono ?_; rintro e wn ⟨rfl, rfl⟩) | fail)
    exact qr_pin rfl rfl rfl (Below.refl _ _)
  simp only [Act.put, Act.eval, List.setIfInBounds_toArray, List.set_cons_succ, List.set_cons_zero]
  refine hK _ ?_
  clear hK K
  iterate 4
    first
    | (refine wm_skip (by rfl) (fun K hK => ?_))
    | (refine wm_move (by rfl) (.inl rfl) (fun K hK => ?_))
    | (refine wm_move (by rfl) (.inr rfl) (fun K hK => ?_))
    | (refine wm_run (by rfl) (fun K hK => ?_)
       apply Exists.intro
       apply And.intro
       · intro w hL
         simp [go_sem, (LA2 w hL), (LB2 w hL)]
         rfl)
    simp only [Act.put, Act.eval, List.setIfInBounds_toArray, List.set_cons_succ, List.set_cons_zero]
    refine hK _ ?_
    clear hK K
  refine wm_pin (fun K hK => ⟨fun w' hL hk => ?_, ?_⟩)
  · go_wp2_with (first | (go_at_call 73; refine (CY.out _).mono ?_; rintro e wn ⟨rfl, rfl⟩) | fail)
    exact qr_pin rfl rfl rfl (Below.refl _ _)
  simp only [Act.put, Act.eval, List.setIfInBounds_toArray, List.set_cons_succ, List.set_cons_zero]
  refine hK _ ?_
  clear hK K
  iterate 4
    first
    | (refine wm_skip (by rfl) (fun K hK => ?_))
    | (refine wm_move (by rfl) (.inl rfl) (fun K hK => ?_))
    | (refine wm_move (by rfl) (.inr rfl) (fun K hK => ?_))
    | (refine wm_run (by rfl) (fun K hK => ?_)
       apply Exists.intro
       apply And.intro
       · intro w hL
         simp [go_sem, (LA0 w hL), (LB0 w hL)]
         rfl)
    simp only [Act.put, Act.eval, List.setIfInBounds_toArray, List.set_cons_succ, List.set_cons_zero]
    refine hK _ ?_
    clear hK K
  refine wm_pin (fun K hK => ⟨fun w' hL hk => ?_, ?_⟩)
  · go_wp2_with (first | (go_at_call 73; refine (CZ.out _).mono ?_; rintro e wn ⟨rfl, rfl⟩) | fail)
    exact qr_pin rfl rfl rfl (Below.refl _ _)
  simp only [Act.put, Act.eval, List.setIfInBounds_toArray, List.set_cons_succ, List.set_cons_zero]
  refine hK _ ?_
  clear hK K
  refine wm_any (fun K hK => ⟨fun w' hL hk => ?_, fun v20 => ?_⟩)
  · go_wp2_with (fail)
    exact qr_any rfl rfl rfl (Below.alloc (Below.refl _ _) (Nat.le_refl _) _) (Three.new _ _ _ _ _)
  simp only [Act.put, Act.eval, List.setIfInBounds_toArray, List.set_cons_succ, List.set_cons_zero]
  refine hK _ ?_
  clear hK K
  refine wm_pin (fun K hK => ⟨fun w' hL hk => ?_, ?_⟩)
  · have h20 : Three w' v20 x y z := hk.get 20 15 (by kernel_rfl) rfl
    go_wp2_with (first | (go_at_call 106; refine (cmp_Or _ _ _ _ _ h20).mono ?_; rintro e wn ⟨rfl, rfl⟩) | fail)
    exact qr_pin rfl rfl rfl (Below.refl _ _)
  simp only [Act.put, Act.eval, List.setIfInBounds_toArray, List.set_cons_succ, List.set_cons_zero]
  refine hK _ ?_
  clear hK K
  iterate 1
    first
    | (refine wm_skip (by rfl) (fun K hK => ?_))
    | (refine wm_move (by rfl) (.inl rfl) (fun K hK => ?_))
    | (refine wm_move (by rfl) (.inr rfl) (fun K hK => ?_))
    | (refine wm_run (by rfl) (fun K hK => ?_)
       apply Exists.intro
       apply And.intro
       · intro w hL
         simp [go_sem]
         rfl)
    simp only [Act.put, Act.eval, List.setIfInBounds_toArray, List.set_cons_succ, List.set_cons_zero]
    refine hK _ ?_
    clear hK K
  refine wm_end (fun w' hL hk => ?_)
  clear hk
  go_wp2
  go_ret
  exact ⟨rfl, HZB.out.trans ((Below.refl _ _).drew.trans (hL.mono (by show w.heap.size ≤ wz.heap.size; omega)))⟩
end Go.Proofs.YteioacpfphigjaaGreat
end
