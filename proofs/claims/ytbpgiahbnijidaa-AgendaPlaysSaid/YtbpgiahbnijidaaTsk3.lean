/-
  slices.Insert of one task.
-/
import Derived.Test.YtbpgiahbnijidaaTsk2
import Derived.Maps.AppendAt
import Derived.Lib.Overlaps
import Derived.Shelf.Spec.SlicesInsert
namespace Go.Proofs.Ytbpgiahbnijidaa
open Go.RowKit
set_option linter.unusedVariables false
set_option linter.unusedSimpArgs false

/-- Tasks that were put in. -/
def insAt (ts : List Tk) (i : Nat) (t : Tk) : List Tk := ts.take i ++ t :: ts.drop i
theorem insAt_len (ts : List Tk) (i : Nat) (t : Tk) (h : i ≤ ts.length) : (insAt ts i t).length = ts.length + 1 := by simp [insAt]; omega
/-- A new row's block is the old one's, or new. -/
def Fresh (w : World) (v v' : Value) : Prop := ∀ k, v'.ownBlock = some k → v.ownBlock = some k ∨ w.heap.size ≤ k
theorem Fresh.of {w : World} {v v' : Value} (h : v'.ownBlock = v.ownBlock ∨ v'.ownBlock = some w.heap.size) : Fresh w v v' := fun k hk => by
  rcases h with h | h
  · exact .inl (h.symm.trans hk)
  · rw [h] at hk; injection hk with e; exact .inr (by omega)
theorem Fresh.same {w : World} {v v' : Value} (h : v'.ownBlock = v.ownBlock) : Fresh w v v' := .of (.inl h)
section
variable {w : World} {ops : Array Oper} {rest : List Oper} {o : Oper} {a : Act} {Q : Exit → Act → World → Prop}
/-- 'append(v, u...)' of tasks. -/
theorem wp_app_T_at {s x : Operand} {B : Nat} {v u : Value} {xs ys : List Tk} (hgd : o.guard = none)
    (ho : o.op = .call { callee := .builtin .append, args := #[s, x], argTypes := #[26, 26] }) (hs : a.eval s = v) (hx : a.eval x = u)
    (hown : OwnT B v xs w) (hr : RdT w u ys) (hlen : xs.length + ys.length ≤ 1000000) (hB : B ≤ w.heap.size)
    (h : ∀ v' w', OwnT B v' (xs ++ ys) w' → Below B w w' → B ≤ w'.heap.size → w.grownBy w' v.ownBlock → (v' = .slice none 0 0 ↔ v = .slice none 0 0 ∧ ys = []) ∨ ys = [] → (v'.ownBlock = v.ownBlock ∨ v'.ownBlock = some w.heap.size) → wpList Try.prog ops Q rest (a.put o.dst v') w') : wpList Try.prog ops Q (o :: rest) a w := by
  obtain ⟨i0, hi, hz⟩ := Option.map_eq_some_iff.1 infoT
  simp only [Prod.mk.injEq] at hz
  obtain ⟨hz0, hz1, hz2⟩ := hz
  obtain ⟨z, hzz, hzs⟩ := Option.map_eq_some_iff.1 hz0
  have hr' := hr
  rcases hr with ⟨rfl, rfl⟩ | ⟨b, off, cap, rfl, hc, hcell⟩
  · refine wpList_append_own_none hgd s x _ ho B 32 i0 36 Try.underlying26 hi v _ _ hs hown hx ?_
    exact h v w (by rw [List.append_nil]; exact hown) (Below.refl _ _) hB ⟨rfl, rfl, rfl, Nat.le_refl _, fun _ _ _ => rfl⟩ (.inr rfl) (.inl rfl)
  · refine wpList_append_own_at _ hgd s x _ ho B 32 i0 z 36 64 Try.underlying26 hi hzz hz1 hz2 hzs (by decide) v _ _ hs hown ⟨b, off, none⟩ ys.length cap (Tc ys) hx (Tc_len ys)
      (fun j u hj => by rw [Addr.add_mid]; exact hcell j u hj) (Tc_ones ys) (by unfold maxLen; omega) (by omega) hB ?_
    intro v' w' h1 h2 h3 h4
    refine h v' w' ?_ ((Below.refl _ _).grown h2 hB (fun k hk => (World.ownsRow.lt hown k hk).1)) (Nat.le_trans hB h2.size) h2 (.inl ?_) h4
    · unfold OwnT
      rw [Tc_append, List.length_append]
      exact h1
    · rw [h3]
      constructor
      · rintro ⟨e, e2⟩; exact ⟨e, List.eq_nil_of_length_eq_zero e2⟩
      · rintro ⟨e, e2⟩; exact ⟨e, by rw [e2]; rfl⟩
end
/-- What Insert hands back. -/
def Inserted (B : Nat) (v : Value) (ts : List Tk) (i : Nat) (t : Tk) (w : World) (e : Ending) (w' : World) : Prop :=
  ∃ v', e = .returned v' ∧ OwnT B v' (insAt ts i t) w' ∧ w.grownBy w' v.ownBlock ∧ v' ≠ .slice none 0 0 ∧ Fresh w v v'
theorem RdT_one {w : World} {b c : Nat} {t : Tk} (h : w.heap[b]? = some (.cells (tc t).toArray 32 (0, 0))) (hc : 1 ≤ c) : RdT w (.slice (some ⟨b, 0, none⟩) 1 c) [t] :=
  .inr ⟨b, 0, c, rfl, hc, fun j u hj => by
    rw [Tc_one] at hj
    rw [Nat.zero_add, World.cell?, h]; simpa using hj⟩
theorem OwnT.cast {B : Nat} {v : Value} {a b : List Tk} {w : World} (h : OwnT B v a w) (e : a = b) : OwnT B v b w := e ▸ h

set_option maxHeartbeats 4000000 in
set_option maxRecDepth 100000 in
/-- At the end. -/
theorem insert_end (B : Nat) (v : Value) (ts : List Tk) (t : Tk) (ub : Nat) (w : World) (hown : OwnT B v ts w) (hu : w.heap[ub]? = some (.cells (tc t).toArray 32 (0, 0))) (hl : ts.length ≤ 1000) (hB : B ≤ w.heap.size) :
    Calls Try.prog 26 #[v, .int .i64 (ts.length : Nat), .slice (some ⟨ub, 0, none⟩) 1 1] w (Inserted B v ts ts.length t w) := by
  have HO := Lib.hid hown
  obtain ⟨ao, cap, rfl⟩ := hown.reads.lenOf
  have hne : (.slice ao (ts ++ [t]).length cap : Value) ≠ .slice none 0 0 := by
    intro e; injection e with _ e2 _; simp at e2
  have hcap : ts.length ≤ cap := by
    rcases hown.2 with ⟨h1, h2⟩ | ⟨g, c, cur, h1, -, -, h2, -⟩
    · rw [h2]; omega
    · injection h1 with e1 e2 e3; omega
  have hcap' : (ts.length : Int) ≤ cap := by omega
  have HR := Lib.hid (RdT_one hu (Nat.le_refl 1))
  have e : insAt ts ts.length t = ts ++ [t] := by simp [insAt]
  have HL := Lib.hid hl
  have HB := Lib.hid hB
  clear hown hu hne hl hB
  by_cases hcc : cap = ts.length
  · subst hcc
    go_enter Try.func26, Try.ntmps26
    go_wp2_with (first | (at_builtin; refine wp_app_T_at (B := B) (v := .slice ao ts.length ts.length) rfl rfl rfl rfl HO.out HR.out (by have := HL.out; simp; omega) HB.out ?_; intro v1 w1 ho1 hb1 hs1 hg1 hn1 hf1; have HF1 := Lib.hid (Fresh.of hf1); have HO1 := Lib.hid ho1; have HG1 := Lib.hid hg1; have HN1 := Lib.hid hn1; clear ho1 hb1 hs1 hg1 hn1 hf1) | fail)
    go_ret
    refine ⟨v1, rfl, HO1.out.cast e.symm, HG1.out, ?_, HF1.out⟩
    rcases HN1.out with h | h
    · intro e1
      have := (h.1 e1).2
      cases this
    · cases h
  · have hcf : (cap = ts.length) = False := by simp [hcc]
    go_enter Try.func26, Try.ntmps26
    go_wp2_with (first | (at_builtin; refine wp_app_T_at (B := B) (v := .slice ao ts.length cap) rfl rfl rfl rfl HO.out HR.out (by have := HL.out; simp; omega) HB.out ?_; intro v1 w1 ho1 hb1 hs1 hg1 hn1 hf1; have HF1 := Lib.hid (Fresh.of hf1); have HO1 := Lib.hid ho1; have HG1 := Lib.hid hg1; have HN1 := Lib.hid hn1; clear ho1 hb1 hs1 hg1 hn1 hf1) | fail)
    go_ret
    refine ⟨v1, rfl, HO1.out.cast e.symm, HG1.out, ?_, HF1.out⟩
    rcases HN1.out with h | h
    · intro e1
      have := (h.1 e1).2
      cases this
    · cases h

theorem sizeOfT (w : World) : (Go.sizeOf 32).run Try.prog w = .ok 36 w := by
  obtain ⟨i0, hi, hz⟩ := Option.map_eq_some_iff.1 sizeT
  simp [sizeOf, typeInfo, hi, hz]
theorem take_setRow (X Y : List Value) (o : Nat) (h : o ≤ X.length) : (X.take o ++ Y ++ X.drop (o + Y.length)).length = max X.length (o + Y.length) := by
  simp only [List.length_append, List.length_take, List.length_drop]; omega
/-- What two copies leave where one stands between: X is the row, n of its elements count. -/
theorem shifted (X : List Value) (ts : List Tk) (t : Tk) (i : Nat) (hi : i < ts.length) (hX : (ts.length + 1) * 36 ≤ X.length) (ht : X.take (ts.length * 36) = Tc ts) :
    ((X.take ((i + 1) * 36) ++ Tc (ts.drop i) ++ X.drop ((i + 1) * 36 + (Tc (ts.drop i)).length)).take (i * 36) ++ tc t ++ (X.take ((i + 1) * 36) ++ Tc (ts.drop i) ++ X.drop ((i + 1) * 36 + (Tc (ts.drop i)).length)).drop (i * 36 + (tc t).length)).take ((ts.length + 1) * 36) = Tc (insAt ts i t) := by
  obtain ⟨D, hD⟩ : ∃ D, D = Tc (ts.drop i) := ⟨_, rfl⟩
  have hDl : D.length = (ts.length - i) * 36 := by rw [hD, Tc_len, List.length_drop]
  have h36 := tc_len t
  have e1 : (X.take ((i + 1) * 36) ++ D ++ X.drop ((i + 1) * 36 + D.length)).take (i * 36) = Tc (ts.take i) := by
    rw [List.append_assoc, List.take_append_of_le_length (by rw [List.length_take]; omega), List.take_take, Nat.min_eq_left (by omega), ← Tc_take, ← ht, List.take_take, Nat.min_eq_left (by omega)]
  have e2 : (X.take ((i + 1) * 36) ++ D ++ X.drop ((i + 1) * 36 + D.length)).drop (i * 36 + (tc t).length) = D ++ X.drop ((i + 1) * 36 + D.length) := by
    have hl : (X.take ((i + 1) * 36)).length = i * 36 + (tc t).length := by rw [List.length_take, h36]; omega
    rw [List.append_assoc, ← hl, List.drop_left]
  rw [← hD, e1, e2]
  have hlen : (Tc (ts.take i) ++ tc t ++ D).length = (ts.length + 1) * 36 := by
    rw [List.length_append, List.length_append, Tc_len, List.length_take, h36, hDl]; omega
  rw [← List.append_assoc, List.take_append_of_le_length (by omega), List.take_of_length_le (by omega), hD]
  unfold insAt
  rw [Tc_append, Tc_cons, List.append_assoc]

set_option maxHeartbeats 4000000 in
set_option maxRecDepth 100000 in
/-- Ahead of others, in place. -/
theorem insert_shift (B : Nat) (v : Value) (ts : List Tk) (t : Tk) (i ub g cap : Nat) (cur : Array Value) (w : World) (hi : i < ts.length) (hub : ub ≠ g) (hg : w.heap[g]? = some (.cells cur 32 (0, 0))) (hBg : B ≤ g) (hroom : ts.length + 1 ≤ cap) (hm : cap ≤ maxLen) (hcs : cur.size = cap * 36) (htake : cur.toList.take (ts.length * 36) = Tc ts)
    (hu : w.heap[ub]? = some (.cells (tc t).toArray 32 (0, 0))) (hl : ts.length ≤ 1000) :
    Calls Try.prog 26 #[.slice (some ⟨g, 0, none⟩) ts.length cap, .int .i64 (i : Nat), .slice (some ⟨ub, 0, none⟩) 1 1] w (Inserted B (.slice (some ⟨g, 0, none⟩) ts.length cap) ts i t w) := by
  obtain ⟨n, hn⟩ : ∃ n, n = ts.length := ⟨_, rfl⟩
  rw [← hn] at hi hroom htake hl ⊢
  have hsa : w.shape? ub = some (32, 36) := by unfold World.shape?; rw [hu]; simp [tc_len]
  have hsb : w.shape? g = some (32, cap * 36) := by unfold World.shape?; rw [hg]; simp [hcs]
  have hfa : w.frozen? ⟨ub, 0, none⟩ = false := by simp [World.frozen?, hu]
  have hfe : w.frozen? ⟨ub, 36, none⟩ = false := by simp [World.frozen?, hu]
  have hov : ∀ lb cb, (callFunc 33 #[.slice (some ⟨ub, 0, none⟩) 1 1, .slice (some ⟨g, (i + 1) * 36, none⟩) lb cb]).run Try.prog w = .ok (.value (.bool false)) w := fun lb cb => by
    rw [run_callFunc_extern Try.func33 (by kernel_rfl) (by kernel_rfl) (by kernel_rfl) (e := Extern.SlicesOverlaps.overlaps #[26, 26] #[4]) (by kernel_rfl),
      Lib.run_overlaps_apart w 26 4 32 Try.underlying26 36 sizeOfT ⟨ub, 0, none⟩ ⟨g, (i + 1) * 36, none⟩ 1 1 lb cb hub 32 32 36 (cap * 36) hsa hsb (by omega) hfa hfe]
    rfl
  have hz2 : ((i : Int) = (n : Int)) = False := by simp; omega
  have hD : (Tc (ts.drop i)).length = (n - i) * 36 := by rw [Tc_len, List.length_drop, ← hn]
  have hw1 : IntKind.i64.wrap ((i : Int) + 1) = ((i + 1 : Nat) : Int) := by rw [IntWalk.i64_in _ (by omega)]; omega
  have hw2 : IntKind.i64.wrap ((n : Int) + 1) = ((n + 1 : Nat) : Int) := by rw [IntWalk.i64_in _ (by omega)]; omega
  obtain ⟨i1, hi1⟩ : ∃ i1, i1 = i + 1 := ⟨_, rfl⟩
  obtain ⟨n1, hn1⟩ : ∃ n1, n1 = n + 1 := ⟨_, rfl⟩
  rw [← hi1] at hw1 hov
  rw [← hn1] at hw2 hroom
  have hb1 : (n1 : Int) ≤ cap := by omega
  have hb2 : (cap = i1) = False := by simp; omega
  have hb4 : (cap = i) = False := by simp; omega
  have hb5 : (i : Int) ≤ n := by omega
  have hb6 : (i : Int) ≤ n1 := by omega
  have hb7 : (i1 : Int) ≤ n1 := by omega
  have hb8 : ((cap : Int) < (n1 : Int)) = False := by simp; omega
  have hb9 : (i1 : Int) ≤ cap := by omega
  have hcl : cur.toList.length = cap * 36 := by simpa using hcs
  have mixed : Try.prog.follows .mixedOrders = true := by kernel_rfl
  have hsh := shifted cur.toList ts t i (by omega) (by omega) (by rw [← hn]; exact htake)
  rw [← hi1, ← hn, ← hn1] at hsh
  obtain ⟨C1, hC1⟩ : ∃ C1, C1 = cur.toList.take (i1 * 36) ++ Tc (ts.drop i) ++ cur.toList.drop (i1 * 36 + (Tc (ts.drop i)).length) := ⟨_, rfl⟩
  rw [← hC1] at hsh
  have hC1l : C1.length = cap * 36 := by
    rw [hC1, take_setRow _ _ _ (by omega), hcl, hD]; omega
  obtain ⟨W1, hW1⟩ : ∃ W1, W1 = w.drew.setRow g C1.toArray := ⟨_, rfl⟩
  have hW1g : W1.heap[g]? = some (.cells C1.toArray 32 (0, 0)) := by rw [hW1]; exact setRow_heap w.drew g _ _ _ _ hg
  have hcp1 : ∀ ty dc sc, (Builtin.copy_ #[26, 26] ty #[.slice (some ⟨g, i1 * 36, none⟩) (n1 - i1) dc, .slice (some ⟨g, i * 36, none⟩) (n1 - i) sc]).run Try.prog w.drew = .ok (goInt (Nat.min (n1 - i) (n1 - i1))) W1 := fun ty dc sc => by
    rw [hW1, hC1]
    exact run_copy_rows w.drew 36 _ _ ty 32 g (i1 * 36) (n1 - i1) dc ⟨g, i * 36, none⟩ (n1 - i) sc cur 32 (Tc (ts.drop i)) Try.underlying26 sizeT hg (by rw [hD]; simp only [Nat.min_def]; split <;> omega)
      (fun j u hj => by
        have hjl := (List.getElem?_eq_some_iff.1 hj).1
        rw [hD] at hjl
        rw [← Tc_drop, ← htake, List.getElem?_drop, List.getElem?_take_of_lt (by omega)] at hj
        rw [Addr.add_mid]
        show w.cell? _ = _
        rw [World.cell?, hg]; simpa using hj) (by rw [hD, hcs]; omega) (Tc_ones _)
  have hcp2 : ∀ ty dc, (Builtin.copy_ #[26, 26] ty #[.slice (some ⟨g, i * 36, none⟩) (n1 - i) dc, .slice (some ⟨ub, 0, none⟩) 1 1]).run Try.prog W1 = .ok (goInt (Nat.min 1 (n1 - i))) (W1.setRow g (C1.take (i * 36) ++ tc t ++ C1.drop (i * 36 + (tc t).length)).toArray) := fun ty dc =>
    run_copy_rows W1 36 _ _ ty 32 g (i * 36) (n1 - i) dc ⟨ub, 0, none⟩ 1 1 C1.toArray 32 (tc t) Try.underlying26 sizeT hW1g (by rw [tc_len]; simp only [Nat.min_def]; split <;> omega)
      (fun j u hj => by
        rw [Addr.add_mid, Nat.zero_add, hW1]
        have e1 : (w.drew.setRow g C1.toArray).heap[ub]? = some (.cells (tc t).toArray 32 (0, 0)) := (setRow_other w.drew g ub _ hub).trans hu
        rw [World.cell?, e1]; simpa using hj) (by rw [List.size_toArray, hC1l, tc_len]; omega) (tc_one t)
  have hlenF : (C1.take (i * 36) ++ tc t ++ C1.drop (i * 36 + (tc t).length)).length = cap * 36 := by
    rw [take_setRow _ _ _ (by omega), hC1l, tc_len]; omega
  obtain ⟨C2, hC2⟩ : ∃ C2, C2 = C1.take (i * 36) ++ tc t ++ C1.drop (i * 36 + (tc t).length) := ⟨_, rfl⟩
  rw [← hC2] at hcp2 hsh hlenF
  have hins := insAt_len ts i t (by omega)
  rw [← hn, ← hn1] at hins
  have hfin : Inserted B (.slice (some ⟨g, 0, none⟩) n cap) ts i t w (.returned (.slice (some ⟨g, 0, none⟩) n1 cap)) (W1.setRow g C2.toArray) := by
    refine ⟨_, rfl, ?_, ?_, (by intro e; cases e), Fresh.same rfl⟩
    · unfold OwnT
      rw [hins]
      exact ⟨by rw [Tc_len, hins], .inr ⟨g, cap, C2.toArray, rfl, hBg, setRow_heap W1 g _ _ _ _ hW1g, hroom, hm, by rw [List.size_toArray, hlenF], by simpa using hsh⟩⟩
    · rw [hW1]
      exact ⟨rfl, rfl, rfl, by simp, fun k hk hr => by
        have hne : k ≠ g := fun e => hr (by rw [e]; rfl)
        rw [setRow_other _ g k _ hne, setRow_other _ g k _ hne]; rfl⟩
  have HF := Lib.hid hfin
  clear hfin hC2 hlenF hins hsh hW1g hC1l hW1 hC1 hcl htake hcs hg hsa hsb hfa hfe hD hu hn hi1 hn1
  go_enter Try.func26, Try.ntmps26
  go_wp2_with (simp only [hov])
  go_region_law_o (refine step_copy_runI rfl _ _ 26 26 rfl _ _ (by simp [Act.eval, Act.put]) (by simp [Act.eval, Act.put]) (hcp1 _ _ _) ?_)
  go_wp2_with (at_builtin; refine wpList_copy_runI _ rfl _ _ 26 26 rfl _ _ rfl rfl (hcp2 _ _) ?_)
  go_ret
  exact HF.out

/-- What two copies leave in a new row. -/
theorem laidIn (X : List Value) (ts : List Tk) (t : Tk) (i : Nat) (hi : i ≤ ts.length) (hX : (ts.length + 1) * 36 ≤ X.length) (ht : X.take (i * 36) = Tc (ts.take i)) :
    ((X.take (i * 36) ++ tc t ++ X.drop (i * 36 + (tc t).length)).take ((i + 1) * 36) ++ Tc (ts.drop i) ++ (X.take (i * 36) ++ tc t ++ X.drop (i * 36 + (tc t).length)).drop ((i + 1) * 36 + (Tc (ts.drop i)).length)).take ((ts.length + 1) * 36) = Tc (insAt ts i t) := by
  have h36 := tc_len t
  have hl : (X.take (i * 36) ++ tc t).length = (i + 1) * 36 := by rw [List.length_append, List.length_take, h36]; omega
  have e1 : (X.take (i * 36) ++ tc t ++ X.drop (i * 36 + (tc t).length)).take ((i + 1) * 36) = Tc (ts.take i) ++ tc t := by
    rw [List.take_append_of_le_length (by omega), List.take_of_length_le (by omega), ht]
  rw [e1]
  have hlen : (Tc (ts.take i) ++ tc t ++ Tc (ts.drop i)).length = (ts.length + 1) * 36 := by
    rw [List.length_append, List.length_append, Tc_len, List.length_take, h36, Tc_len, List.length_drop]; omega
  rw [List.take_append_of_le_length (by omega), List.take_of_length_le (by omega)]
  unfold insAt
  rw [Tc_append, Tc_cons, List.append_assoc]
theorem wpl_run_append {w : World} {ops : Array Oper} {rest : List Oper} {o : Oper} {a : Act} {Q : Exit → Act → World → Prop} (hgd : o.guard = none) (s x : Operand) (t t' : TypeId)
    (ho : o.op = .call { callee := .builtin .append, args := #[s, x], argTypes := #[t, t'] }) (v u : Value) (hs : a.eval s = v) (hx : a.eval x = u) {v' : Value} {w' : World}
    (hr : (Builtin.append_ #[t, t'] o.type #[v, u]).run Try.prog w = .ok v' w') (h : wpList Try.prog ops Q rest (a.put o.dst v') w') : wpList Try.prog ops Q (o :: rest) a w := by
  refine wpList_plain hgd fun K hK => ?_
  unfold Oper.wp
  simp [execOp, ho, resolve, invoke, builtin, hs, hx, hr, Result.andThen]
  exact hK _ _ h

set_option maxHeartbeats 4000000 in
set_option maxRecDepth 100000 in
/-- Ahead of others, in a new row. -/
theorem insert_grow (B : Nat) (ts : List Tk) (t : Tk) (i ub g cap : Nat) (cur : Array Value) (w : World) (hi : i < ts.length) (hg : w.heap[g]? = some (.cells cur 32 (0, 0))) (hBg : B ≤ g) (hnc : ts.length ≤ cap) (hroom : ¬ ts.length + 1 ≤ cap) (hcs : cur.size = cap * 36) (htake : cur.toList.take (ts.length * 36) = Tc ts)
    (hu : w.heap[ub]? = some (.cells (tc t).toArray 32 (0, 0))) (hl : ts.length ≤ 900) (hB : B ≤ w.heap.size) :
    Calls Try.prog 26 #[.slice (some ⟨g, 0, none⟩) ts.length cap, .int .i64 (i : Nat), .slice (some ⟨ub, 0, none⟩) 1 1] w (Inserted B (.slice (some ⟨g, 0, none⟩) ts.length cap) ts i t w) := by
  obtain ⟨n, hn⟩ : ∃ n, n = ts.length := ⟨_, rfl⟩
  rw [← hn] at hi hroom htake hl hnc ⊢
  have mixed : Try.prog.follows .mixedOrders = true := by kernel_rfl
  have hcl : cur.toList.length = cap * 36 := by simpa using hcs
  have hglt : g < w.heap.size := by
    by_cases h : g < w.heap.size
    · exact h
    · rw [Array.getElem?_eq_none (by omega)] at hg; cases hg
  have hublt : ub < w.heap.size := by
    by_cases h : ub < w.heap.size
    · exact h
    · rw [Array.getElem?_eq_none (by omega)] at hu; cases hu
  have hz2 : ((i : Int) = (n : Int)) = False := by simp; omega
  have hD : (Tc (ts.drop i)).length = (n - i) * 36 := by rw [Tc_len, List.length_drop, ← hn]
  have hw1 : IntKind.i64.wrap ((i : Int) + 1) = ((i + 1 : Nat) : Int) := by rw [IntWalk.i64_in _ (by omega)]; omega
  have hw2 : IntKind.i64.wrap ((n : Int) + 1) = ((n + 1 : Nat) : Int) := by rw [IntWalk.i64_in _ (by omega)]; omega
  have hw3 : IntKind.i64.wrap (((n + 1 : Nat) : Int) - (i : Int)) = ((n + 1 - i : Nat) : Int) := by rw [IntWalk.i64_in _ (by omega)]; omega
  obtain ⟨cap', w1, Z, hrun, hown, hZ, hgr⟩ := run_app_zerosT w 3 26 Try.underlying3 B g i cap (n + 1 - i) (Tc (ts.take i)) cur hg (by omega) hcs (by rw [← Tc_take, ← htake, List.take_take, Nat.min_eq_left (by omega)]) (by omega) (by omega) (by omega) (by omega) (by omega) hB
  rw [show i + (n + 1 - i) = n + 1 by omega] at hrun hown
  obtain ⟨nb, hnb⟩ : ∃ nb, nb = w.heap.size := ⟨_, rfl⟩
  obtain ⟨i1, hi1⟩ : ∃ i1, i1 = i + 1 := ⟨_, rfl⟩
  obtain ⟨n1, hn1⟩ : ∃ n1, n1 = n + 1 := ⟨_, rfl⟩
  obtain ⟨m, hm⟩ : ∃ m, m = n1 - i := ⟨_, rfl⟩
  rw [← hi1] at hw1
  rw [← hn1] at hw2 hw3 hroom hrun hown hZ
  rw [← hm] at hw3 hrun hZ
  rw [← hnb] at hrun hown
  obtain ⟨-, hown⟩ := hown
  rcases hown with ⟨h, -⟩ | ⟨g', c', cur', hv', hBn, hgn, hnc', hmc', hcs', htk'⟩
  · cases h
  injection hv' with e1 e2 e3
  injection e1 with e1
  injection e1 with e1
  subst e1 e3
  have hcl' : cur'.toList.length = cap' * 36 := by simpa using hcs'
  have htki : cur'.toList.take (i * 36) = Tc (ts.take i) := by
    have h1 := congrArg (fun l => l.take (i * 36)) htk'
    simp only [List.take_take] at h1
    rw [Nat.min_eq_left (by omega), List.take_append_of_le_length (by rw [Tc_len, List.length_take]; omega), List.take_of_length_le (l := Tc (ts.take i)) (by rw [Tc_len, List.length_take]; omega)] at h1
    exact h1
  have hsh := laidIn cur'.toList ts t i (by omega) (by omega) htki
  rw [← hi1, ← hn, ← hn1] at hsh
  obtain ⟨C1, hC1⟩ : ∃ C1, C1 = cur'.toList.take (i * 36) ++ tc t ++ cur'.toList.drop (i * 36 + (tc t).length) := ⟨_, rfl⟩
  rw [← hC1] at hsh
  have hC1l : C1.length = cap' * 36 := by
    rw [hC1, take_setRow _ _ _ (by omega), hcl', tc_len]; omega
  obtain ⟨W1, hW1⟩ : ∃ W1, W1 = w1.setRow nb C1.toArray := ⟨_, rfl⟩
  have hW1g : W1.heap[nb]? = some (.cells C1.toArray 32 (0, 0)) := by rw [hW1]; exact setRow_heap w1 nb _ _ _ _ hgn
  have hold : ∀ k, k < nb → W1.heap[k]? = w.heap[k]? := fun k hk => by
    rw [hW1, setRow_other w1 nb k _ (by omega)]
    exact hgr.block k (by omega) (by simp)
  have hcp1 : ∀ ty dc, (Builtin.copy_ #[26, 26] ty #[.slice (some ⟨nb, i * 36, none⟩) (n1 - i) dc, .slice (some ⟨ub, 0, none⟩) 1 1]).run Try.prog w1 = .ok (goInt (Nat.min 1 (n1 - i))) W1 := fun ty dc => by
    rw [hW1, hC1]
    exact run_copy_rows w1 36 _ _ ty 32 nb (i * 36) (n1 - i) dc ⟨ub, 0, none⟩ 1 1 cur' 32 (tc t) Try.underlying26 sizeT hgn (by rw [tc_len]; simp only [Nat.min_def]; split <;> omega)
      (fun j u hj => by
        rw [Addr.add_mid, Nat.zero_add]
        have e1 : w1.heap[ub]? = some (.cells (tc t).toArray 32 (0, 0)) := (hgr.block ub (by omega) (by simp)).trans hu
        rw [World.cell?, e1]; simpa using hj) (by rw [hcs', tc_len]; omega) (tc_one t)
  have hcp2 : ∀ ty dc sc, (Builtin.copy_ #[26, 26] ty #[.slice (some ⟨nb, i1 * 36, none⟩) (n1 - i1) dc, .slice (some ⟨g, i * 36, none⟩) (n - i) sc]).run Try.prog W1.drew = .ok (goInt (Nat.min (n - i) (n1 - i1))) (W1.drew.setRow nb (C1.take (i1 * 36) ++ Tc (ts.drop i) ++ C1.drop (i1 * 36 + (Tc (ts.drop i)).length)).toArray) := fun ty dc sc =>
    run_copy_rows W1.drew 36 _ _ ty 32 nb (i1 * 36) (n1 - i1) dc ⟨g, i * 36, none⟩ (n - i) sc C1.toArray 32 (Tc (ts.drop i)) Try.underlying26 sizeT hW1g (by rw [hD]; simp only [Nat.min_def]; split <;> omega)
      (fun j u hj => by
        have hjl := (List.getElem?_eq_some_iff.1 hj).1
        rw [hD] at hjl
        rw [← Tc_drop, ← htake, List.getElem?_drop, List.getElem?_take_of_lt (by omega)] at hj
        rw [Addr.add_mid]
        have e1 : W1.drew.heap[g]? = some (.cells cur 32 (0, 0)) := (hold g (by omega)).trans hg
        rw [World.cell?, e1]; simpa using hj) (by rw [List.size_toArray, hC1l, hD]; omega) (Tc_ones _)
  have hlenF : (C1.take (i1 * 36) ++ Tc (ts.drop i) ++ C1.drop (i1 * 36 + (Tc (ts.drop i)).length)).length = cap' * 36 := by
    rw [take_setRow _ _ _ (by omega), hC1l, hD]; omega
  obtain ⟨C2, hC2⟩ : ∃ C2, C2 = C1.take (i1 * 36) ++ Tc (ts.drop i) ++ C1.drop (i1 * 36 + (Tc (ts.drop i)).length) := ⟨_, rfl⟩
  rw [← hC2] at hcp2 hsh hlenF
  have hins := insAt_len ts i t (by omega)
  rw [← hn, ← hn1] at hins
  have hfin : Inserted B (.slice (some ⟨g, 0, none⟩) n cap) ts i t w (.returned (.slice (some ⟨nb, 0, none⟩) n1 cap')) (W1.drew.setRow nb C2.toArray) := by
    refine ⟨_, rfl, ?_, ?_, (by intro e; cases e), Fresh.of (.inr (by rw [← hnb]; rfl))⟩
    · unfold OwnT
      rw [hins]
      exact ⟨by rw [Tc_len, hins], .inr ⟨nb, cap', C2.toArray, rfl, hBn, setRow_heap W1.drew nb _ _ _ _ hW1g, hnc', hmc', by rw [List.size_toArray, hlenF], by simpa using hsh⟩⟩
    · rw [hW1]
      refine ⟨hgr.os, hgr.tape, hgr.output, ?_, fun k hk hr => ?_⟩
      · have := hgr.size
        simpa using this
      · rw [setRow_other _ nb k _ (by omega)]
        show (w1.setRow nb C1.toArray).heap[k]? = _
        rw [setRow_other _ nb k _ (by omega)]
        exact hgr.block k hk (by simp)
  have HF := Lib.hid hfin
  have hb1 : ((cap : Int) < (n1 : Int)) := by omega
  have hb2 : (cap' = i1) = False := by simp; omega
  have hb3 : (cap' = i) = False := by simp; omega
  have hb4 : (cap = i) = False := by simp; omega
  have hb5 : (i : Int) ≤ n := by omega
  have hb6 : (i : Int) ≤ n1 := by omega
  have hb7 : (i1 : Int) ≤ n1 := by omega
  have hb8 : (i : Int) ≤ cap := by omega
  have hb9 : (n1 : Int) ≤ cap' := by omega
  clear hfin hC2 hlenF hins hsh hW1g hC1l hW1 hC1 hcl htake hcs hg hD hu hn hi1 hn1 hm hold htki hcl' hcs' htk' hgn hgr hZ hnb
  go_enter Try.func26, Try.ntmps26
  go_wp2_with (first
    | (at_builtin; refine wpl_run_append rfl _ _ 26 3 rfl _ _ rfl rfl hrun ?_)
    | (at_builtin; refine wpList_copy_runI _ rfl _ _ 26 26 rfl _ _ rfl rfl (hcp1 _ _) ?_)
    | fail)
  go_region_law_o (refine step_copy_runI rfl _ _ 26 26 rfl _ _ (by simp [Act.eval, Act.put]) (by simp [Act.eval, Act.put]) (hcp2 _ _ _) ?_)
  go_wp2
  go_ret
  exact HF.out

/-- slices.Insert of one task that lies in a block of its own. -/
theorem insert_one (B : Nat) (v : Value) (ts : List Tk) (t : Tk) (i ub : Nat) (w : World) (hown : OwnT B v ts w) (hu : w.heap[ub]? = some (.cells (tc t).toArray 32 (0, 0))) (hne : v.ownBlock ≠ some ub) (hi : i ≤ ts.length) (hl : ts.length ≤ 900) (hB : B ≤ w.heap.size) :
    Calls Try.prog 26 #[v, .int .i64 (i : Nat), .slice (some ⟨ub, 0, none⟩) 1 1] w (Inserted B v ts i t w) := by
  by_cases he : i = ts.length
  · subst he
    exact insert_end B v ts t ub w hown hu (by omega) hB
  · obtain ⟨h1, h2⟩ := hown
    rcases h2 with ⟨rfl, h2⟩ | ⟨g, cap, cur, rfl, hBg, hg, hnc, hm, hcs, ht⟩
    · omega
    · by_cases hr : ts.length + 1 ≤ cap
      · exact insert_shift B (.slice (some ⟨g, 0, none⟩) ts.length cap) ts t i ub g cap cur w (by omega) (fun e => hne (by rw [e]; rfl)) hg hBg hr hm hcs ht hu (by omega)
      · exact insert_grow B ts t i ub g cap cur w (by omega) hg hBg hnc hr hcs ht hu hl hB
end Go.Proofs.Ytbpgiahbnijidaa
