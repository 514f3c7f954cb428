/-
  The reference's Put.
-/
import Derived.Test.YtbpgiahbnijidaaRef1
import Derived.StillTailTactics
namespace Go.Proofs.Ytbpgiahbnijidaa
open Go.RowKit Go.Shelf
set_option linter.unusedVariables false
set_option linter.unusedSimpArgs false

/-- The reference's agenda: its struct, its row. -/
structure RefA (B yb : Nat) (v : Value) (ts : List Tk) (w : World) : Prop where
  at_ : Boxed w yb 28 v
  own : OwnT B v ts w
  lo : B ≤ yb
/-- What a call on it leaves: the struct may have been written; its row is as it was, or new. -/
def LeftR (B yb : Nat) (v : Value) (ts : List Tk) (w w' : World) : Prop := ∃ v', RefA B yb v' ts w' ∧ Only (fun k => k = yb) (fun _ => False) w w' ∧ Fresh w v v'
theorem RefA.of {B yb : Nat} {v : Value} {ts : List Tk} {w w' : World} (h : RefA B yb v ts w) (hg : w'.heap[yb]? = w.heap[yb]?) (hk : ∀ k, v.ownBlock = some k → w'.heap[k]? = w.heap[k]?) : RefA B yb v ts w' :=
  ⟨hg.trans h.at_, h.own.of (Nat.le_refl _) hk, h.lo⟩
theorem RefA.later {B yb : Nat} {v : Value} {ts : List Tk} {w w' : World} (h : RefA B yb v ts w) (hb : Below w.heap.size w w') : RefA B yb v ts w' :=
  h.of (hb.block yb h.at_.lt) (fun k hk => hb.block k (h.own.block hk).2)
theorem LeftR.same {B yb : Nat} {v : Value} {ts : List Tk} {w w' : World} (h : RefA B yb v ts w) (hb : Below w.heap.size w w') : LeftR B yb v ts w w' :=
  ⟨v, h.later hb, Only.of_later hb, Fresh.same rfl⟩
theorem insP_at {ts : List Tk} {t : Tk} {k : Nat} (hk : k ≤ ts.length) (h1 : ∀ j (hj : j < ts.length), j < k → cmpT ts[j] t < 0) (h2 : ∀ h : k < ts.length, ¬ cmpT ts[k] t < 0) : insP ts t = ts.take k ++ t :: ts.drop k := by
  have hall : ∀ u ∈ ts.take k, aheadB t u = true := by
    intro u hu
    obtain ⟨j, hj, rfl⟩ := List.mem_iff_getElem.1 hu
    rw [List.length_take] at hj
    simp only [List.getElem_take, aheadB, decide_eq_true_eq]
    exact h1 j (by omega) (by omega)
  have hdr : ∀ u r, ts.drop k = u :: r → aheadB t u = false := by
    intro u r e
    by_cases hi : k < ts.length
    · rw [List.drop_eq_getElem_cons hi] at e
      injection e with e1 _
      subst e1
      simpa [aheadB] using h2 hi
    · rw [List.drop_of_length_le (by omega)] at e; cases e
  have hts : ts = ts.take k ++ ts.drop k := (List.take_append_drop k ts).symm
  obtain ⟨A, hA⟩ : ∃ A, A = ts.take k := ⟨_, rfl⟩
  obtain ⟨D, hD⟩ : ∃ D, D = ts.drop k := ⟨_, rfl⟩
  rw [← hA] at hall hts ⊢
  rw [← hD] at hts hdr ⊢
  subst hts
  unfold insP
  have e1 : (A ++ D).takeWhile (aheadB t) = A := by
    rw [List.takeWhile_append_of_pos hall]
    cases D with
    | nil => simp
    | cons u r => rw [List.takeWhile_cons_of_neg (by rw [hdr u r rfl]; simp)]; simp
  have e2 : (A ++ D).dropWhile (aheadB t) = D := by
    rw [List.dropWhile_append_of_pos hall]
    cases D with
    | nil => simp
    | cons u r => rw [List.dropWhile_cons_of_neg (by rw [hdr u r rfl]; simp)]
  rw [e1, e2]
/-- Does the k-th stand ahead of t? -/
def aheadAt (ts : List Tk) (t : Tk) (k : Nat) : Bool := match ts[k]? with
  | some x => decide (cmpT x t < 0)
  | none => false
theorem aheadAt_in {ts : List Tk} {t : Tk} {k : Nat} (h : k < ts.length) : aheadAt ts t k = decide (cmpT ts[k] t < 0) := by simp [aheadAt, h]
theorem aheadAt_out {ts : List Tk} {t : Tk} {k : Nat} (h : ¬ k < ts.length) : aheadAt ts t k = false := by simp [aheadAt, h]
end Go.Proofs.Ytbpgiahbnijidaa
