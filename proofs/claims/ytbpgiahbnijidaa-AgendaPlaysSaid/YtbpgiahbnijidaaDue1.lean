/-
  AgendaDue: what lists of tasks come to when tasks are put and taken; a place of a task's own.
-/
import Derived.Test.YtbpgiahbnijidaaCar1
namespace Go.Proofs.Ytbpgiahbnijidaa
open Go.RowKit Go.Shelf
set_option linter.unusedVariables false
set_option linter.unusedSimpArgs false

theorem insP_cut (ts : List Tk) (t : Tk) : ∃ A D, ts = A ++ D ∧ insP ts t = A ++ t :: D ∧ (∀ u ∈ A, cmpT u t < 0) ∧ (∀ u r, D = u :: r → ¬ cmpT u t < 0) := by
  refine ⟨ts.takeWhile (aheadB t), ts.dropWhile (aheadB t), List.takeWhile_append_dropWhile.symm, rfl, fun u hu => ?_, fun u r e => ?_⟩
  · have h : ∀ (l : List Tk), u ∈ l.takeWhile (aheadB t) → aheadB t u = true := by
      intro l
      induction l with
      | nil => intro h; simp at h
      | cons x l ih =>
        intro h
        by_cases hx : aheadB t x = true
        · rw [List.takeWhile_cons_of_pos hx] at h
          rcases List.mem_cons.1 h with rfl | h
          · exact hx
          · exact ih h
        · rw [List.takeWhile_cons_of_neg hx] at h; simp at h
    have := h ts hu
    simpa [aheadB] using this
  · have h : ∀ (l : List Tk), l.dropWhile (aheadB t) = u :: r → aheadB t u = false := by
      intro l
      induction l with
      | nil => intro h; simp at h
      | cons x l ih =>
        intro h
        by_cases hx : aheadB t x = true
        · rw [List.dropWhile_cons_of_pos hx] at h; exact ih h
        · rw [List.dropWhile_cons_of_neg hx] at h
          injection h with h1 _
          subst h1; simpa using hx
    have := h ts e
    simpa [aheadB] using this
theorem insP_perm (ts : List Tk) (t : Tk) : (insP ts t).Perm (t :: ts) := by
  obtain ⟨A, D, h1, h2, -, -⟩ := insP_cut ts t
  rw [h2, h1]
  exact List.perm_middle
theorem insP_len (ts : List Tk) (t : Tk) : (insP ts t).length = ts.length + 1 := by simpa using (insP_perm ts t).length_eq
theorem cmpT_total {a b : Tk} (h : ¬ cmpT a b < 0) (hn : a.name ≠ b.name) : cmpT b a < 0 := by
  rw [cmpT_lt] at *; omega
theorem srt_insP {ts : List Tk} {t : Tk} (hs : Srt ts) (hn : ∀ u ∈ ts, u.name ≠ t.name) : Srt (insP ts t) := by
  obtain ⟨A, D, h1, h2, h3, h4⟩ := insP_cut ts t
  rw [h2]
  rw [h1] at hs hn
  unfold Srt at *
  rw [List.pairwise_append] at hs ⊢
  obtain ⟨hA, hD, hAD⟩ := hs
  have ht : ∀ u ∈ D, cmpT t u < 0 := by
    cases D with
    | nil => simp
    | cons d D =>
      have hd := cmpT_total (h4 d D rfl) (hn d (by simp))
      intro u hu
      rcases List.mem_cons.1 hu with rfl | hu
      · exact hd
      · exact cmpT_trans hd (List.rel_of_pairwise_cons hD hu)
  refine ⟨hA, List.pairwise_cons.2 ⟨ht, hD⟩, fun a ha b hb => ?_⟩
  rcases List.mem_cons.1 hb with rfl | hb
  · exact h3 a ha
  · exact hAD a ha b hb
/-- So many are due. -/
def cntD (now : Int) (ts : List Tk) : Nat := ts.countP fun t => decide (t.due ≤ now)
theorem cntD_ins (now : Int) (ts : List Tk) (t : Tk) : cntD now (insP ts t) = cntD now ts + (if t.due ≤ now then 1 else 0) := by
  unfold cntD
  rw [(insP_perm ts t).countP_eq, List.countP_cons]
  simp
theorem cntD_le (now : Int) (ts : List Tk) : cntD now ts ≤ ts.length := List.countP_le_length
theorem dueL_due : ∀ (ts : List Tk) (now most : Int), ∀ t ∈ dueL ts now most, t.due ≤ now
  | [], now, most, t, h => by simp [dueL] at h
  | u :: ts, now, most, t, h => by
    unfold dueL at h
    split at h
    · rename_i hc
      rcases List.mem_cons.1 h with rfl | h
      · exact hc.1
      · exact dueL_due ts now (most - 1) t h
    · simp at h
theorem cnt_taken (ts : List Tk) (now most : Int) : cntD now ts = (dueL ts now most).length + cntD now (ts.drop (dueL ts now most).length) := by
  have h1 := dueL_len ts now most
  have h2 := dueL_due ts now most
  obtain ⟨n, hn⟩ : ∃ n, n = (dueL ts now most).length := ⟨_, rfl⟩
  rw [← hn] at h1 ⊢
  have e : cntD now (ts.take n) = n := by
    rw [← h1, hn]
    unfold cntD
    rw [List.countP_eq_length]
    intro t ht; simpa using h2 t ht
  have e2 := congrArg (cntD now) (List.take_append_drop n ts)
  unfold cntD at *
  rw [List.countP_append] at e2
  omega
theorem cmpT_due {a b : Tk} (h : cmpT a b < 0) : a.due ≤ b.due := by rw [cmpT_lt] at h; omega
theorem dueL_few : ∀ {ts : List Tk} {now most : Int}, Srt ts → ((dueL ts now most).length : Int) < most → cntD now ts = (dueL ts now most).length
  | [], now, most, _, _ => rfl
  | u :: ts, now, most, hs, h => by
    unfold dueL at h ⊢
    split
    · rename_i hc
      rw [if_pos hc] at h
      simp only [List.length_cons] at h ⊢
      have := dueL_few (ts := ts) (now := now) (most := most - 1) (List.Pairwise.of_cons hs) (by omega)
      unfold cntD at *
      rw [List.countP_cons, this]
      simp [hc.1]
    · rename_i hc
      rw [if_neg hc] at h
      have hu : now < u.due := by simp at h; omega
      unfold cntD
      simp only [List.length_nil, List.countP_eq_zero]
      intro t ht
      rcases List.mem_cons.1 ht with rfl | ht
      · simp; omega
      · have := cmpT_due (List.rel_of_pairwise_cons hs ht)
        simp; omega
theorem dueL_zero (ts : List Tk) (now : Int) : dueL ts now 0 = [] := by
  cases ts with
  | nil => rfl
  | cons t ts => unfold dueL; rw [if_neg (by omega)]
theorem dueL_most' : ∀ (ts : List Tk) (now most : Int), 0 ≤ most → ((dueL ts now most).length : Int) ≤ most
  | [], now, most, h => by simpa [dueL] using h
  | t :: ts, now, most, h => by
    unfold dueL
    split
    · rename_i hc
      have := dueL_most' ts now (most - 1) (by omega)
      simp only [List.length_cons]; omega
    · simpa using h
/-- The tasks named 0 to i - 1, in order, so many of them due. -/
structure Dues (now : Int) (i c : Nat) (ts : List Tk) : Prop where
  srt : Srt ts
  len : ts.length = i
  names : ∀ u ∈ ts, u.name < (i : Int)
  cnt : cntD now ts = c
theorem Dues.nil (now : Int) : Dues now 0 0 [] := ⟨srt_nil, rfl, by simp, rfl⟩
theorem Dues.put {now : Int} {i c : Nat} {ts : List Tk} (h : Dues now i c ts) (x : Int) (hx : 0 ≤ x) (hi : i < 12) : putE ts (mkT (i : Nat) x) = 0 ∧ Dues now (i + 1) (c + if x ≤ now then 1 else 0) (putL ts (mkT (i : Nat) x)) := by
  have hn : ∀ u ∈ ts, u.name ≠ (mkT (i : Nat) x).name := fun u hu e => by
    have h1 := h.names u hu
    have h2 : (mkT (i : Nat) x).name = (i : Nat) := rfl
    omega
  have he : putE ts (mkT (i : Nat) x) = 0 := putE_ok (bad_mkT (by omega) hx) hn (by rw [h.len]; exact hi)
  refine ⟨he, ?_⟩
  rw [putL_ok he]
  refine ⟨srt_insP h.srt hn, by rw [insP_len, h.len], fun u hu => ?_, ?_⟩
  · rcases List.mem_cons.1 ((insP_perm _ _).mem_iff.1 hu) with rfl | hu
    · show ((i : Nat) : Int) < ((i + 1 : Nat) : Int); omega
    · have := h.names u hu; omega
  · rw [cntD_ins, h.cnt]; rfl
theorem n64_in (d : Nat) (h : d < 1000000) : IntKind.i64.wrap (d : Int) = (d : Int) := by rw [IntWalk.i64_in _ (by omega)]
theorem n64_in' (d : Nat) (h : d < 1000000) : wrap64 (d : Int) = (d : Int) := by unfold wrap64; omega
theorem n64_sub (a b d : Nat) (h : b + d = a) (hd : a < 1000000) : IntKind.i64.wrap ((a : Int) - (b : Int)) = (d : Int) := by rw [IntWalk.i64_in _ (by omega)]; omega
theorem n64_add (a b d : Nat) (h : a + b = d) (hd : d < 1000000) : IntKind.i64.wrap ((a : Int) + (b : Int)) = (d : Int) := by rw [IntWalk.i64_in _ (by omega)]; omega
theorem srt_drop {ts : List Tk} (h : Srt ts) (k : Nat) : Srt (ts.drop k) := List.Pairwise.drop h
theorem i64_and63 (x : Int) : ∃ y : Int, bits .and .i64 x 63 = y ∧ 0 ≤ y ∧ y ≤ 63 := by
  refine ⟨_, rfl, ?_⟩
  have h2 : (BitVec.ofInt 64 (63 : Int)).toNat = 63 := by decide
  have h3 : (BitVec.ofInt 64 x).toNat &&& 63 ≤ 63 := Nat.and_le_right
  have e : bits .and .i64 x 63 = IntKind.i64.wrap (((BitVec.ofInt 64 x).toNat &&& 63 : Nat) : Int) := by
    show IntKind.i64.wrap ((BitVec.ofInt 64 x &&& BitVec.ofInt 64 (63 : Int)).toNat : Int) = _
    rw [BitVec.toNat_and, h2]
  rw [e, IntWalk.i64_in _ (by omega)]
  omega
section
variable {w : World} {ops : Array Oper} {rest : List Oper} {o : Oper} {a : Act} {Q : Exit → Act → World → Prop}
/-- A new task's place. -/
theorem wpl_allocT (hgd : o.guard = none) (ho : o.op = .alloc 32)
    (h : ∀ C : Array Value, C.size = 36 → wpList Try.prog ops Q rest (a.put o.dst (.pointer (some ⟨w.heap.size, 0, none⟩))) (w.alloc (.cells C 32))) : wpList Try.prog ops Q (o :: rest) a w := by
  obtain ⟨zc, hz, hzs⟩ := zeroTA
  obtain ⟨i0, hi, hz0⟩ := Option.bind_eq_some_iff.1 hz
  refine wpList_plain hgd fun K hK => ?_
  have := h zc hzs
  unfold Oper.wp execOp
  simp [ho, Instr.alloc, zeroValue, typeInfo, hi, hz0, newVar, newRow, Value.cells, go_sem]
  exact hK _ _ this
theorem wpl_storeT {b : Nat} {t : Tk} {C : Array Value} (x y : Operand) (hgd : o.guard = none) (ho : o.op = .store 32 x y) (hx : a.eval x = .pointer (some ⟨b, 0, none⟩)) (hy : a.eval y = .agg (tc t).toArray) (hh : w.heap[b]? = some (.cells C 32 (0, 0))) (hC : C.size = 36)
    (h : wpList Try.prog ops Q rest (a.put o.dst undef) (w.setRow b (tc t).toArray)) : wpList Try.prog ops Q (o :: rest) a w := by
  refine wpList_plain hgd fun K hK => ?_
  unfold Oper.wp execOp
  have hr : (Instr.storeAt 32 (.pointer (some ⟨b, 0, none⟩)) (.agg (tc t).toArray)).run Try.prog w = .ok () (w.setRow b (tc t).toArray) := by
    simp only [Instr.storeAt, Instr.sureAddr, Sem.run_bind, Sem.run_pure, Result.andThen_ok, run_storeVar_row w b 32 32 C (tc t).toArray hh (by rw [List.size_toArray, tc_len]; exact sizeT) (by simp [tc_len, hC]) (by rw [Array.all_eq_true_iff_forall_mem]; intro u hu; exact tc_one t u (by simpa using hu))]
  simp only [ho, hx, hy, Sem.run_bind, Sem.run_pure, hr, Result.andThen_ok]
  exact hK _ _ h
end
end Go.Proofs.Ytbpgiahbnijidaa
