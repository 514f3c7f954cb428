/-
  Tasks copied, cleared, and what 'append(s, make([]T, n)...)' makes.
-/
import Derived.Test.YtbpgiahbnijidaaTsk1
namespace Go.Proofs.Ytbpgiahbnijidaa
open Go.RowKit
set_option linter.unusedVariables false
set_option linter.unusedSimpArgs false

section
variable {P : Program}
/-- 'copy' of elements of k cells each. -/
theorem run_copy_rows (w : World) (k : Nat) (dT sT ty elem : TypeId) (g o dLen dCap : Nat) (a : Addr) (sLen sCap : Nat) (cur : Array Value) (t : TypeId) (cs : List Value)
    (hu : P.underlying dT = some (.slice elem)) (hs : (P.info? elem).map (·.size) = some k)
    (hg : w.heap[g]? = some (.cells cur t (0, 0))) (hn : cs.length = Nat.min sLen dLen * k)
    (hsrc : ∀ j v, cs[j]? = some v → w.cell? (a.add j) = some v) (hfit : o + cs.length ≤ cur.size) (h1 : ∀ v ∈ cs, v.oneCell' = true) :
    (Builtin.copy_ #[dT, sT] ty #[.slice (some ⟨g, o, none⟩) dLen dCap, .slice (some a) sLen sCap]).run P w =
      .ok (goInt (Nat.min sLen dLen)) (w.setRow g (cur.toList.take o ++ cs ++ cur.toList.drop (o + cs.length)).toArray) := by
  have hl := run_loadCells_list (P := P) w a cs hsrc
  have hst := run_storeCells_at P g o t cs 0 cur w hg (by simpa using hfit) h1
  cases hq : P.info? elem with
  | none => simp [hq] at hs
  | some i =>
    have hi : i.size = k := by simpa [hq] using hs
    simp [Builtin.copy_, run_underlying hu, Builtin.lenOf, Builtin.firstCells, sizeOf, typeInfo, hq, hi, ← hn, hl, hst]
end

theorem zeroT : ∃ z : Value, ((Try.prog.info? 32).bind (·.zero)) = some z ∧ z.cells.size = 36 ∧ z.cells.all (·.oneCell') = true := by
  refine ⟨.agg (Array.replicate 36 undef |>.mapIdx fun i _ => if i < 3 then Value.int .i64 0 else if i < 35 then .int .u8 0 else .int .i64 0), ?_, by decide +kernel, by decide +kernel⟩
  kernel_rfl
theorem zeroCells_ones {z : Array Value} (hz : z.size = 36) (h1 : z.all (·.oneCell') = true) (n : Nat) : (Builtin.zeroCells z n).size = n * 36 ∧ ∀ u ∈ (Builtin.zeroCells z n).toList, u.oneCell' = true := by
  refine ⟨by simp [Builtin.zeroCells, hz], fun u hu => ?_⟩
  simp only [Builtin.zeroCells, Array.toList_map, List.mem_map] at hu
  obtain ⟨i, -, rfl⟩ := hu
  have hlt : i % z.size < z.size := Nat.mod_lt _ (by omega)
  rw [getElem!_pos z _ hlt]
  exact Array.all_eq_true_iff_forall_mem.1 h1 _ (Array.getElem_mem hlt)

/-- 'clear' of tasks. -/
theorem wpl_clearT {ops : Array Oper} {rest : List Oper} {o : Oper} {a : Act} {Q : Exit → Act → World → Prop} {w : World} (x : Operand) (b k n c : Nat) (cur : Array Value) (t : TypeId) (hgd : o.guard = none) (ho : o.op = .call { callee := .builtin .clear, args := #[x], argTypes := #[26] })
    (hx : a.eval x = .slice (some ⟨b, k, none⟩) n c) (hh : w.heap[b]? = some (.cells cur t (0, 0))) (hfit : k + n * 36 ≤ cur.size)
    (h : ∀ Z : List Value, Z.length = n * 36 → wpList Try.prog ops Q rest (a.put o.dst (.tuple #[])) (w.setRow b (cur.toList.take k ++ Z ++ cur.toList.drop (k + n * 36)).toArray)) : wpList Try.prog ops Q (o :: rest) a w := by
  obtain ⟨z, hz, hzs, hz1⟩ := zeroT
  obtain ⟨i0, hi, hz0⟩ := Option.bind_eq_some_iff.1 hz
  refine wpList_plain hgd fun K hK => ?_
  unfold Oper.wp execOp
  by_cases h0 : n = 0
  · subst h0
    have hr : (Builtin.clear_ #[26] o.type #[.slice (some ⟨b, k, none⟩) 0 c]).run Try.prog w = .ok (.tuple #[]) w := by
      simp [Builtin.clear_, run_underlying Try.underlying26]
    simp only [ho, resolve, invoke, builtin, Sem.run_bind, Sem.run_pure, Result.andThen_ok, List.map_toArray, List.map_cons, List.map_nil, hx, hr]
    have := h [] (by simp)
    have e : (cur.toList.take k ++ [] ++ cur.toList.drop (k + 0 * 36)).toArray = cur := by simp
    rw [e, setRow_self w b cur t (0, 0) hh] at this
    exact hK _ _ this
  · obtain ⟨hzl, hzo⟩ := zeroCells_ones hzs hz1 n
    have hst := run_storeCells_at Try.prog b k t (Builtin.zeroCells z.cells n).toList 0 cur w hh (by rw [Array.length_toList, hzl]; omega) hzo
    simp only [Nat.add_zero, Array.length_toList, hzl] at hst
    have hr : (Builtin.clear_ #[26] o.type #[.slice (some ⟨b, k, none⟩) n c]).run Try.prog w = .ok (.tuple #[]) (w.setRow b (cur.toList.take k ++ (Builtin.zeroCells z.cells n).toList ++ cur.toList.drop (k + n * 36)).toArray) := by
      match n, h0 with
      | m + 1, _ =>
        simp only [Builtin.clear_]
        simp [run_underlying Try.underlying26, zeroValue, typeInfo, hi, hz0]
        rw [hst]
        simp [Result.andThen, List.append_assoc]
    simp only [ho, resolve, invoke, builtin, Sem.run_bind, Sem.run_pure, Result.andThen_ok, List.map_toArray, List.map_cons, List.map_nil, hx, hr]
    exact hK _ _ (h _ (by rw [Array.length_toList, hzl]))

/-- 'append(s, make([]T, m)...)' where there is no room: a new row. -/
theorem run_app_zerosT (w : World) (ti ty : TypeId) (hti : Try.prog.underlying ti = some (.int .i64)) (base g n cap m : Nat) (xs : List Value) (cur : Array Value) (hg : w.heap[g]? = some (.cells cur 32 (0, 0))) (hnc : n ≤ cap) (hcs : cur.size = cap * 36)
    (htake : cur.toList.take (n * 36) = xs) (hm : 0 < m) (hm1 : m ≤ 1000) (hn1 : n ≤ 1000) (hc1 : cap ≤ 1000000) (hroom : ¬ n + m ≤ cap) (hbase : base ≤ w.heap.size) :
    ∃ (cap' : Nat) (w' : World) (Z : List Value), (Builtin.append_ #[26, ti] ty #[.slice (some ⟨g, 0, none⟩) n cap, .int .i64 (m : Nat)]).run Try.prog w = .ok (.slice (some ⟨w.heap.size, 0, none⟩) (n + m) cap') w' ∧
      w'.ownsRow base 32 36 (.slice (some ⟨w.heap.size, 0, none⟩) (n + m) cap') (n + m) (xs ++ Z) ∧ Z.length = m * 36 ∧ w.grownBy w' none := by
  obtain ⟨i0, hi, hz⟩ := Option.map_eq_some_iff.1 infoT
  simp only [Prod.mk.injEq] at hz
  obtain ⟨-, hsize, hby⟩ := hz
  obtain ⟨z, hz, hzs, hz1⟩ := zeroT
  obtain ⟨i1, hi1, hz0⟩ := Option.bind_eq_some_iff.1 hz
  have hii : i1 = i0 := Option.some.inj (hi1.symm.trans hi)
  subst hii
  have hxl : xs.length = n * 36 := by rw [← htake, List.length_take, Array.length_toList, hcs]; omega
  have hwr : IntKind.i64.wrap (m : Int) = (m : Int) := IntWalk.i64_in _ (by omega)
  have hneg : ¬ ((m : Int) < 0) := by omega
  have hbig : ¬ (281474976710656 < (m : Int) * 64) := by omega
  have h0 : m ≠ 0 := by omega
  have h63' : ¬ (9223372036854775807 < ((n : Int) + (m : Int))) := by omega
  have h48' : ¬ (281474976710656 < Builtin.nextslicecap (n + m) cap * 64) := by
    have := growslice_fits (need := n + m) (old := cap) (bytes := 64) (by omega) (by omega)
    omega
  have holds : ∀ j u, xs[j]? = some u → w.cell? ((⟨g, 0, none⟩ : Addr).add j) = some u := by
    intro j u hj
    rw [← htake] at hj
    have hlt := (List.getElem?_eq_some_iff.1 hj).1
    rw [List.length_take] at hlt
    rw [List.getElem?_take_of_lt (by omega)] at hj
    rw [Addr.add_mid, Nat.zero_add, World.cell?, hg]
    simpa using hj
  have hfo := run_firstCells_some (P := Try.prog) w.drew 36 n ⟨g, 0, none⟩ n cap xs hxl (by simpa using holds)
  obtain ⟨hzl, -⟩ := zeroCells_ones hzs hz1 m
  have hge := grownCap_ge w (n + m) cap 32
  have hcm : grownCap w (n + m) cap 32 ≤ maxLen := grownCap_le_maxLen w (n + m) cap 32 (by simp only [maxLen]; omega)
  have hlen : (xs ++ (Builtin.zeroCells z.cells m).toList).length = (n + m) * 36 := by simp [hzl, hxl]; omega
  refine ⟨grownCap w (n + m) cap 32, w.drew.alloc (.cells (xs.toArray ++ Builtin.zeroCells z.cells m ++ Builtin.zeroCells z.cells (grownCap w (n + m) cap 32 - (n + m))) 32), (Builtin.zeroCells z.cells m).toList, ?_, ⟨hlen, .inr ⟨w.heap.size, _, _, rfl, hbase, heap_alloc_new w.drew _, hge, hcm, ?_, ?_⟩⟩, by rw [Array.length_toList, hzl], ⟨rfl, rfl, rfl, by simp, fun k hk _ => heap_alloc_old w.drew _ hk⟩⟩
  · simp [Builtin.append_, run_underlying Try.underlying26, run_underlying hti, sizeOf, typeInfo, zeroValue, hi, hz0, asInt, asIntOf, hwr, hneg, hbig, hby, hsize, h0, hroom, h63', h48', Question.forced, hfo, newRow, grownCap]
    intro hh
    omega
  · simp only [Array.size_append, List.size_toArray, hxl, hzl, (zeroCells_ones hzs hz1 _).1]
    omega
  · simp only [Array.toList_append, List.append_assoc]
    rw [← List.append_assoc, ← hlen]
    exact List.take_left
end Go.Proofs.Ytbpgiahbnijidaa
