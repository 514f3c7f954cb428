/-
  Two rows of tasks that are one: the laws' same.
-/
import Derived.Test.YtbpgiahbnijidaaAll
import Derived.ChangeKeysEq
import Derived.BigRegion
import Derived.RegionTactic
namespace Go.Proofs.Ytbpgiahbnijidaa
open Go.RowKit Go.Shelf
set_option linter.unusedVariables false
set_option linter.unusedSimpArgs false

theorem eqItems_same (w : World) (d : Nat) (xs : Array Value) : ∀ is : List Nat, (∀ i ∈ is, ∃ n : Int, xs[i]? = some (.int .u8 n)) → (Op.eqItems (d + 1) 5 1 xs xs is).run Try.prog w = .ok true w
  | [], _ => by simp [Op.eqItems]
  | i :: is, h => by
    obtain ⟨n, hn⟩ := h i (by simp)
    have he : Try.prog.plainKey 5 = true := by kernel_rfl
    have p1 := run_part_plain (P := Try.prog) w (e := 5) he (xs := xs) hn
    simp only [Op.eqItems, Nat.mul_one, Sem.run_bind, p1, Result.andThen_ok, run_equalIn_int w d 5 .u8 .u8 _ _ Try.underlying5, beq_self_eq_true, Bool.not_true, Bool.false_eq_true, if_false]
    exact eqItems_same w d xs is fun j hj => h j (by simp [hj])
theorem run_eq_hash_same (w : World) (l : List Nat) (hl : l.length = 32) : (Op.equalIn 9999 30 (.agg (Bs l).toArray) (.agg (Bs l).toArray)).run Try.prog w = .ok true w := by
  rw [show (9999 : Nat) = 9997 + 1 + 1 from rfl, run_equalIn_array (i := (Try.prog.info? 5).getD default) w (9997 + 1) (e := 5) (n := 32) _ _ Try.underlying30 (by kernel_rfl)]
  rw [show Try.prog.cellsOf 5 = 1 from by kernel_rfl]
  refine eqItems_same w 9997 _ _ fun i hi => ?_
  have hi2 : i < l.length := by rw [hl]; simpa using hi
  exact ⟨((l[i] : Nat) : Int), by simp [Bs, hi2]⟩
theorem part_hash (t : Tk) (w : World) : (part 30 (tc t).toArray 3).run Try.prog w = .ok (.agg (Bs t.sum).toArray) w := by
  have h1 : (isAgg 30).run Try.prog w = .ok true w := by kernel_rfl
  have h2 : (sizeOf 30).run Try.prog w = .ok 32 w := by kernel_rfl
  have h3 : (tc t).toArray.extract 3 (3 + 32) = (Bs t.sum).toArray := by
    have hb : (Bs t.sum).length = 32 := by simp [Bs, t.ok]
    apply Array.ext'
    simp only [Array.toList_extract, List.extract_eq_take_drop, tc]
    simp [List.take_append, hb]
  simp only [part, Sem.run_bind, h1, Result.andThen_ok, if_true, h2, Sem.run_pure, h3]
theorem run_neq_task (t : Tk) (w : World) : (binOp .neq 32 (.agg (tc t).toArray) (.agg (tc t).toArray)).run Try.prog w = .ok (.bool false) w := by
  have hi : Try.prog.plainKey 3 = true := by kernel_rfl
  have p0 := run_part_plain (P := Try.prog) w (e := 3) hi (xs := (tc t).toArray) (off := 0) (v := .int .i64 t.name) (by simp [tc])
  have p1 := run_part_plain (P := Try.prog) w (e := 3) hi (xs := (tc t).toArray) (off := 1) (v := .int .i64 t.due) (by simp [tc])
  have p2 := run_part_plain (P := Try.prog) w (e := 3) hi (xs := (tc t).toArray) (off := 2) (v := .int .i64 t.prio) (by simp [tc])
  have p3 := part_hash t w
  have p4 := run_part_plain (P := Try.prog) w (e := 3) hi (xs := (tc t).toArray) (off := 35) (v := .int .i64 t.track) (by simp [tc, Bs, t.ok, List.getElem?_append])
  have eI := fun a => run_equalIn_int w 9998 3 .i64 .i64 a a Try.underlying3
  have eH := run_eq_hash_same w t.sum t.ok
  have hf : Try.prog.underlying 32 = some (.struct (Try.prog.fieldsOf 32)) := by kernel_rfl
  rw [run_neq_struct, show (10000 : Nat) = 9999 + 1 from rfl, run_equalIn_struct w 9999 32 _ _ hf (by kernel_rfl)]
  simp [Program.fieldsOf, Try.underlying32, Op.eqFields, p0, p1, p2, p3, p4, eI, eH, Result.andThen]
theorem run_loadTask_at {w : World} {b k : Nat} {t : Tk} (h : w.rangeAt b k (tc t)) : (loadTask (.pointer (some ⟨b, k, none⟩))).run Try.prog w = .ok (.agg (tc t).toArray) w :=
  run_loadAt_mid w b k 32 (tc t) _ h Try.underlying32 rfl (by rw [tc_len]; exact sizeT)
theorem rangeAt_drew {w : World} {b k : Nat} {cs : List Value} (h : w.rangeAt b k cs) : w.drew.rangeAt b k cs := h
def neqTask (x y : Value) : Sem Value := binOp .neq 32 x y
theorem neq_task (x y : Value) : binOp .neq 32 x y = neqTask x y := rfl
theorem run_neqTask (t : Tk) (w : World) : (neqTask (.agg (tc t).toArray) (.agg (tc t).toArray)).run Try.prog w = .ok (.bool false) w := run_neq_task t w
attribute [local go_sem ↓] loadAt_task neq_task
set_option maxHeartbeats 4000000 in
set_option maxRecDepth 100000 in
theorem law_same (v1 v2 : Value) (ts : List Tk) (w : World) (h1 : RdT w v1 ts) (h2 : RdT w v2 ts) (hl : ts.length ≤ 900) :
    Calls Try.prog 16 #[v1, v2] w fun e w' => e = .returned (.bool true) ∧ Below w.heap.size w w' := by
  obtain ⟨a1, c1, rfl⟩ := h1.lenOf
  obtain ⟨a2, c2, rfl⟩ := h2.lenOf
  obtain ⟨n, hn⟩ : ∃ n, n = ts.length := ⟨_, rfl⟩
  rw [← hn] at h1 h2 hl ⊢
  have H1 := Lib.hid h1
  have H2 := Lib.hid h2
  have HN := Lib.hid hn
  have RN := run_neqTask
  clear h1 h2 hn
  go_enter Try.func16, Try.ntmps16
  go_wp2_with fail
  go_loopw [5] (fun i wr => ∃ (k : Nat), k ≤ n ∧ i = .int .i64 k ∧ Below w.heap.size w wr) (fun i _ => n - (intOf i).toNat)
  case atStart => exact ⟨0, by omega, rfl, Below.refl _ _⟩
  case round =>
    obtain ⟨k, hk, rfl, hb⟩ := hrel
    have HB := Lib.hid hb
    by_cases hlt : k < n
    · have hlt' : (k : Int) < n := by omega
      have hkl : k < ts.length := by rw [← HN.out]; exact hlt
      obtain ⟨b1, o1, rfl, r1, -⟩ := (H1.out.below hb).at hkl
      obtain ⟨b2, o2, rfl, r2, -⟩ := (H2.out.below hb).at hkl
      obtain ⟨t, ht⟩ : ∃ t, t = ts[k] := ⟨_, rfl⟩
      rw [← ht] at r1 r2
      have L1 := run_loadTask_at r1
      have L2 := run_loadTask_at r2
      have L3 := run_loadTask_at (rangeAt_drew r1)
      have L4 := run_loadTask_at (rangeAt_drew r2)
      clear r1 r2 ht hb hkl
      go_wp2_with fail
      go_region
      go_wp2_with fail
      exact ⟨⟨k + 1, by omega, by go_num, HB.out.drew⟩, by simp [intOf]; omega⟩
    · have hkn : k = n := by omega
      subst hkn
      clear hb
      go_wp2_with fail
      exact bodyPost_ret (v := .bool true) (by simp [results, Try.results16, go_sem]) rfl ⟨rfl, HB.out⟩
end Go.Proofs.Ytbpgiahbnijidaa
