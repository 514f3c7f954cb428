/-
  slices.Delete and slices.Clone of tasks.
-/
import Derived.Test.YtbpgiahbnijidaaTsk3
namespace Go.Proofs.Ytbpgiahbnijidaa
open Go.RowKit
set_option linter.unusedVariables false
set_option linter.unusedSimpArgs false

/-- 'append' where there is room. -/
theorem run_app_fitsT (w : World) (ty : TypeId) (g n cap m c : Nat) (ad : Addr) (news : List Value) (cur : Array Value) (t : TypeId) (hg : w.heap[g]? = some (.cells cur t (0, 0))) (hroom : n + m ≤ cap) (hcs : cur.size = cap * 36)
    (hl : news.length = m * 36) (hnews : ∀ j u, news[j]? = some u → w.cell? (ad.add j) = some u) (h1 : ∀ u ∈ news, u.oneCell' = true) :
    (Builtin.append_ #[26, 26] ty #[.slice (some ⟨g, 0, none⟩) n cap, .slice (some ad) m c]).run Try.prog w = .ok (.slice (some ⟨g, 0, none⟩) (n + m) cap) (w.setRow g (cur.toList.take (n * 36) ++ news ++ cur.toList.drop (n * 36 + news.length)).toArray) := by
  obtain ⟨i0, hi, hz⟩ := Option.map_eq_some_iff.1 infoT
  simp only [Prod.mk.injEq] at hz
  obtain ⟨-, hsize, hby⟩ := hz
  have hld := run_loadCells_list (P := Try.prog) w ad news hnews
  rw [hl] at hld
  have hst := run_storeCells_at Try.prog g (n * 36) t news 0 cur w hg (by simp; omega) h1
  simp only [Nat.add_zero] at hst
  simp [Builtin.append_, run_underlying Try.underlying26, sizeOf, typeInfo, hi, hsize, Builtin.lenOf, Builtin.firstCells, hroom, hld, Addr.add_lit, hst]
theorem step_append_runT {ops : Array Oper} {o : Oper} {a : Act} {w : World} {K : Act → World → Prop} {Q : Exit → Act → World → Prop} {E : Prop}
    (hg : o.guard = none) (d x : Operand) (dT sT : TypeId) (hop : o.op = Op.call { callee := Callee.builtin Builtin.append, args := #[d, x], argTypes := #[dT, sT] })
    (v u : Value) (hd : a.eval d = v) (hx : a.eval x = u) {v' : Value} {w' : World} (hr : (Builtin.append_ #[dT, sT] o.type #[v, u]).run Try.prog w = .ok v' w') (hK : K (a.put o.dst v') w') :
    if Region.wanted o (yielded ops a.tmps) = true then Oper.wp Try.prog o a w K Q else E := by
  have hw : Region.wanted o (yielded ops a.tmps) = true := by simp [Region.wanted, hg]
  rw [if_pos hw]
  unfold Oper.wp
  simp [execOp, hop, resolve, invoke, builtin, hd, hx, hr, Result.andThen]
  exact hK

/-- Tasks of which some were taken away. -/
def delAt (ts : List Tk) (i j : Nat) : List Tk := ts.take i ++ ts.drop j
def Left (B : Nat) (v : Value) (ts : List Tk) (w : World) (e : Ending) (w' : World) : Prop :=
  ∃ v', e = .returned v' ∧ OwnT B v' ts w' ∧ w.grownBy w' v.ownBlock ∧ v'.ownBlock = v.ownBlock

set_option maxHeartbeats 4000000 in
set_option maxRecDepth 100000 in
theorem delete_some (B : Nat) (ts : List Tk) (i j g cap : Nat) (cur : Array Value) (w : World) (hij : i < j) (hj : j ≤ ts.length) (hg : w.heap[g]? = some (.cells cur 32 (0, 0))) (hBg : B ≤ g) (hnc : ts.length ≤ cap) (hm : cap ≤ maxLen) (hcs : cur.size = cap * 36) (htake : cur.toList.take (ts.length * 36) = Tc ts) (hl : ts.length ≤ 900) :
    Calls Try.prog 28 #[.slice (some ⟨g, 0, none⟩) ts.length cap, .int .i64 (i : Nat), .int .i64 (j : Nat)] w (Left B (.slice (some ⟨g, 0, none⟩) ts.length cap) (delAt ts i j) w) := by
  obtain ⟨n, hn⟩ : ∃ n, n = ts.length := ⟨_, rfl⟩
  rw [← hn] at hj htake hl hnc ⊢
  have mixed : Try.prog.follows .mixedOrders = true := by kernel_rfl
  have hcl : cur.toList.length = cap * 36 := by simpa using hcs
  have hz2 : ((i : Int) = (j : Int)) = False := by simp; omega
  have hD : (Tc (ts.drop j)).length = (n - j) * 36 := by rw [Tc_len, List.length_drop, ← hn]
  have hT : (Tc (ts.take i)).length = i * 36 := by rw [Tc_len, List.length_take]; omega
  obtain ⟨C1, hC1⟩ : ∃ C1, C1 = cur.toList.take (i * 36) ++ Tc (ts.drop j) ++ cur.toList.drop (i * 36 + (Tc (ts.drop j)).length) := ⟨_, rfl⟩
  have hC1l : C1.length = cap * 36 := by rw [hC1, take_setRow _ _ _ (by omega), hcl, hD]; omega
  have htki : cur.toList.take (i * 36) = Tc (ts.take i) := by
    rw [← Tc_take, ← htake, List.take_take, Nat.min_eq_left (by omega)]
  obtain ⟨n', hn'⟩ : ∃ n', n' = i + (n - j) := ⟨_, rfl⟩
  have hC1t : C1.take (n' * 36) = Tc (delAt ts i j) := by
    rw [hC1, htki, List.take_append_of_le_length (by rw [List.length_append, hT, hD]; omega), List.take_of_length_le (by rw [List.length_append, hT, hD]; omega)]
    unfold delAt
    rw [Tc_append]
  have hdl : (delAt ts i j).length = n' := by unfold delAt; rw [List.length_append, List.length_take, List.length_drop, ← hn]; omega
  obtain ⟨W1, hW1⟩ : ∃ W1, W1 = w.drew.setRow g C1.toArray := ⟨_, rfl⟩
  have hW1g : W1.heap[g]? = some (.cells C1.toArray 32 (0, 0)) := by rw [hW1]; exact setRow_heap w.drew g _ _ _ _ hg
  have hrd : ∀ k u, (Tc (ts.drop j))[k]? = some u → w.drew.cell? ⟨g, j * 36 + k, none⟩ = some u := fun k u hk => by
    have hkl := (List.getElem?_eq_some_iff.1 hk).1
    rw [hD] at hkl
    rw [← Tc_drop, ← htake, List.getElem?_drop, List.getElem?_take_of_lt (by omega)] at hk
    show w.cell? _ = _
    rw [World.cell?, hg]; simpa using hk
  have hap : ∀ ty, (Builtin.append_ #[26, 26] ty #[.slice (some ⟨g, 0, none⟩) i cap, .slice (if cap = j then some ⟨g, 0, none⟩ else some ⟨g, j * 36, none⟩) (n - j) (cap - j)]).run Try.prog w.drew = .ok (.slice (some ⟨g, 0, none⟩) n' cap) W1 := fun ty => by
    rw [hW1, hC1, hn']
    by_cases hcj : cap = j
    · rw [if_pos hcj]
      have h0 : Tc (ts.drop j) = [] := List.eq_nil_of_length_eq_zero (by rw [hD]; omega)
      rw [h0]
      exact run_app_fitsT w.drew ty g i cap (n - j) (cap - j) ⟨g, 0, none⟩ [] cur 32 hg (by omega) hcs (by simp; omega) (fun k u hk => by simp at hk) (fun u hu => by cases hu)
    · rw [if_neg hcj]
      exact run_app_fitsT w.drew ty g i cap (n - j) (cap - j) ⟨g, j * 36, none⟩ _ cur 32 hg (by omega) hcs hD (fun k u hk => by rw [Addr.add_mid]; exact hrd k u hk) (Tc_ones _)
  have hfin : ∀ Z : List Value, Z.length = (n - n') * 36 → Left B (.slice (some ⟨g, 0, none⟩) n cap) (delAt ts i j) w (.returned (.slice (some ⟨g, 0, none⟩) n' cap)) (W1.setRow g (C1.take (n' * 36) ++ Z ++ C1.drop (n' * 36 + (n - n') * 36)).toArray) := fun Z hZ => by
    refine ⟨_, rfl, ?_, ?_, rfl⟩
    · unfold OwnT
      rw [hdl]
      refine ⟨by rw [Tc_len, hdl], .inr ⟨g, cap, _, rfl, hBg, setRow_heap W1 g _ _ _ _ hW1g, by omega, hm, ?_, ?_⟩⟩
      · rw [List.size_toArray, ← hZ, take_setRow _ _ _ (by omega), hC1l]; omega
      · simp only [List.append_assoc]
        rw [List.take_append_of_le_length (by rw [List.length_take]; omega), List.take_of_length_le (by rw [List.length_take]; omega), hC1t]
    · rw [hW1]
      exact ⟨rfl, rfl, rfl, by simp, fun k hk hr => by
        have hne : k ≠ g := fun e => hr (by rw [e]; rfl)
        rw [setRow_other _ g k _ hne, setRow_other _ g k _ hne]; rfl⟩
  have HF := Lib.hid hfin
  have HG1 := Lib.hid hW1g
  have HC := Lib.hid (show n' * 36 + (n - n') * 36 ≤ C1.toArray.size by rw [List.size_toArray, hC1l]; omega)
  have hb1 : (i : Int) ≤ j := by omega
  have hb2 : (j : Int) ≤ n := by omega
  have hb3 : (n : Int) ≤ cap := by omega
  have hb4 : (i : Int) ≤ cap := by omega
  have hb5 : (n' : Int) ≤ n := by omega
  have hb6 : (cap = n') = False := by simp; omega
  have hb7 : (j : Int) ≤ cap := by omega
  have hb8 : (i : Int) ≤ n := by omega
  clear hfin hW1g hW1 hC1t htki hC1l hC1 hT hD hcl htake hcs hg hn hdl hn' hrd
  by_cases hcj : cap = j
  · rw [if_pos hcj] at hap
    subst hcj
    rw [Nat.sub_self, Nat.sub_eq_zero_of_le hnc] at hap
    go_enter Try.func28, Try.ntmps28
    go_wp2
    go_region_law_o (refine step_append_runT rfl _ _ 26 26 rfl _ _ (by simp [Act.eval, Act.put]) (by simp [Act.eval, Act.put]) (hap _) ?_)
    go_wp2_with (first | (at_builtin; fail) | (refine wpl_clearT _ g (n' * 36) (n - n') (cap - n') C1.toArray 32 rfl rfl rfl HG1.out HC.out ?_; intro Z hZ) | fail)
    go_ret
    have hlast := HF.out Z hZ
    rw [List.append_assoc] at hlast
    exact hlast
  · rw [if_neg hcj] at hap
    have hcf : (cap = j) = False := by simp [hcj]
    go_enter Try.func28, Try.ntmps28
    go_wp2
    go_region_law_o (refine step_append_runT rfl _ _ 26 26 rfl _ _ (by simp [Act.eval, Act.put]) (by simp [Act.eval, Act.put]) (hap _) ?_)
    go_wp2_with (first | (at_builtin; fail) | (refine wpl_clearT _ g (n' * 36) (n - n') (cap - n') C1.toArray 32 rfl rfl rfl HG1.out HC.out ?_; intro Z hZ) | fail)
    go_ret
    have hlast := HF.out Z hZ
    rw [List.append_assoc] at hlast
    exact hlast

set_option maxHeartbeats 4000000 in
set_option maxRecDepth 100000 in
theorem delete_none (B : Nat) (v : Value) (ts : List Tk) (i : Nat) (w : World) (hown : OwnT B v ts w) (hi : i ≤ ts.length) :
    Calls Try.prog 28 #[v, .int .i64 (i : Nat), .int .i64 (i : Nat)] w (Left B v ts w) := by
  have HF := Lib.hid (⟨v, rfl, hown, ⟨rfl, rfl, rfl, Nat.le_refl _, fun _ _ _ => rfl⟩, rfl⟩ : Left B v ts w (.returned v) w)
  rcases hown.2 with ⟨rfl, h2⟩ | ⟨g, cap, cur, rfl, -, -, hnc, -⟩
  · have hi0 : i = 0 := by omega
    subst hi0
    clear hown
    go_enter Try.func28, Try.ntmps28
    go_wp2
    go_ret
    exact HF.out
  · have hb1 : (i : Int) ≤ ts.length := by omega
    have hb2 : (ts.length : Int) ≤ cap := by omega
    clear hown
    by_cases hin : i = ts.length
    · subst hin
      go_enter Try.func28, Try.ntmps28
      go_wp2
      go_ret
      exact HF.out
    · have hcf : (ts.length = i) = False := by simp; omega
      go_enter Try.func28, Try.ntmps28
      go_wp2
      go_ret
      exact HF.out
/-- slices.Delete of tasks. -/
theorem delete_ts (B : Nat) (v : Value) (ts : List Tk) (i j : Nat) (w : World) (hown : OwnT B v ts w) (hij : i ≤ j) (hj : j ≤ ts.length) (hl : ts.length ≤ 900) :
    Calls Try.prog 28 #[v, .int .i64 (i : Nat), .int .i64 (j : Nat)] w (Left B v (delAt ts i j) w) := by
  by_cases he : i = j
  · subst he
    have := delete_none B v ts i w hown hj
    have e : delAt ts i i = ts := List.take_append_drop i ts
    rwa [e]
  · rcases hown.2 with ⟨rfl, h2⟩ | ⟨g, cap, cur, rfl, hBg, hg, hnc, hm, hcs, ht⟩
    · omega
    · exact delete_some B ts i j g cap cur w (by omega) hj hg hBg hnc hm hcs ht hl

theorem nil_in_some (a : Addr) (n c d : Nat) (w : World) : (Op.equalIn (d + 1) 26 (.slice (some a) n c) (.slice none 0 0)).run Try.prog w = .ok false w := by
  simp [Op.equalIn, run_underlying Try.underlying26]
theorem nil_in_none (d : Nat) (w : World) : (Op.equalIn (d + 1) 26 (.slice none 0 0) (.slice none 0 0)).run Try.prog w = .ok true w := by
  simp [Op.equalIn, run_underlying Try.underlying26]
theorem eql_slice_run (u v : Value) (a b : Option Addr) (n c m k : Nat) (hu : u = .slice a n c) (hv : v = .slice b m k) (w : World) (r : Bool) (h : ∀ d, (Op.equalIn (d + 1) 26 u v).run Try.prog w = .ok r w) : (binOp .eql 26 u v).run Try.prog w = .ok (.bool r) w := by
  subst hu; subst hv
  have h2 := h 9999
  rw [show (9999 + 1 : Nat) = 10000 from rfl] at h2
  simp only [binOp]
  simp [Op.equal, Op.maxDepth, h2]
theorem nil_eql_some (a : Addr) (n c : Nat) (w : World) : (binOp .eql 26 (.slice (some a) n c) (.slice none 0 0)).run Try.prog w = .ok (.bool false) w :=
  eql_slice_run _ _ _ _ _ _ _ _ rfl rfl w false fun d => nil_in_some a n c d w
theorem nil_eql_none (w : World) : (binOp .eql 26 (.slice none 0 0) (.slice none 0 0)).run Try.prog w = .ok (.bool true) w :=
  eql_slice_run _ _ _ _ _ _ _ _ rfl rfl w true fun d => nil_in_none d w
set_option maxHeartbeats 4000000 in
set_option maxRecDepth 100000 in
/-- slices.Clone of tasks. -/
theorem clone_ts (v : Value) (ts : List Tk) (w : World) (hr : RdT w v ts) (hl : ts.length ≤ 900) :
    Calls Try.prog 30 #[v] w fun e w' => ∃ v', e = .returned v' ∧ OwnT w.heap.size v' ts w' ∧ Below w.heap.size w w' := by
  have HR := Lib.hid hr
  have NS := nil_eql_some
  have NN := nil_eql_none
  rcases hr with ⟨rfl, rfl⟩ | ⟨b, off, cap, rfl, hc, -⟩
  · go_enter Try.func30, Try.ntmps30
    go_wp2
    go_ret
    exact ⟨_, rfl, OwnT.nil _ _, Below.refl _ _⟩
  · go_enter Try.func30, Try.ntmps30
    have HOWN := Lib.hid (show OwnT w.heap.size (.slice (some ⟨w.heap.size, 0, none⟩) 0 0) [] (w.alloc (.cells #[] 32)) from ⟨rfl, .inr ⟨w.heap.size, 0, #[], rfl, Nat.le_refl _, heap_alloc_new w _, Nat.le_refl _, by simp, rfl, rfl⟩⟩)
    have HRR := Lib.hid (HR.out.below ((Below.refl w.heap.size w).alloc (Nat.le_refl _) (.cells #[] 32)))
    have HL := Lib.hid hl
    clear hl hc
    go_wp2_with (first | (at_builtin; refine wp_app_T (B := w.heap.size) (xs := []) rfl rfl rfl rfl HOWN.out HRR.out (by have := HL.out; simp; omega) (by simp) ?_; intro v1 w1 ho1 hb1 hs1 hg1 hn1; have HO1 := Lib.hid ho1; have HB1 := Lib.hid hb1; clear ho1 hb1 hs1 hg1 hn1) | fail)
    go_ret
    exact ⟨v1, rfl, HO1.out, ((Below.refl w.heap.size w).alloc (Nat.le_refl _) _).trans HB1.out⟩
end Go.Proofs.Ytbpgiahbnijidaa
