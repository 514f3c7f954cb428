/-
  A ledger in memory; account, Free, Held.
-/
import Derived.Test.YtfgkaookgfghoaaGreatLd0
import Derived.Test.YtfgkaookgfghoaaGreatGrK
import Derived.Test.YtfgkaookgfghoaaGreatCod1
import Derived.Deep.MidRow
namespace Go.Proofs.YtfgkaookgfghoaaGreat
open Go.RowKit Go.Maps Go.Shelf
set_option linter.unusedVariables false
set_option linter.unusedSimpArgs false

/-- The accounts' cells. -/
def accs (A : Acc) : Nat → List Value
  | 0 => []
  | n + 1 => accs A n ++ [.int .i64 (A n).1, .int .i64 (A n).2]
theorem accs_len (A : Acc) : ∀ n, (accs A n).length = 2 * n
  | 0 => rfl
  | n + 1 => by rw [accs, List.length_append, accs_len A n]; simp; omega
theorem accs_at (A : Acc) : ∀ {n k : Nat}, k < n → (accs A n)[k * 2]? = some (.int .i64 (A k).1) ∧ (accs A n)[k * 2 + 1]? = some (.int .i64 (A k).2)
  | n + 1, k, h => by
    rw [accs]
    by_cases e : k = n
    · subst e
      have hl := accs_len A k
      rw [List.getElem?_append_right (by omega), List.getElem?_append_right (by omega), show k * 2 - (accs A k).length = 0 by omega, show k * 2 + 1 - (accs A k).length = 1 by omega]
      exact ⟨rfl, rfl⟩
    · have hl := accs_len A n
      have := accs_at A (n := n) (k := k) (by omega)
      rw [List.getElem?_append_left (by omega), List.getElem?_append_left (by omega)]
      exact this
theorem accs_free (A : Acc) {n a : Nat} (h : a < n) (v : Int) : (accs A n).set (a * 2) (.int .i64 v) = accs (upd A a (v, (A a).2)) n := by
  refine List.ext_getElem? (fun i => ?_)
  have hl := accs_len A n
  have hl' := accs_len (upd A a (v, (A a).2)) n
  by_cases hi : i < 2 * n
  · obtain ⟨k, e⟩ : ∃ k, i = k * 2 ∨ i = k * 2 + 1 := ⟨i / 2, by omega⟩
    have hk : k < n := by omega
    have h1 := accs_at A hk
    have h2 := accs_at (upd A a (v, (A a).2)) hk
    rcases e with e | e
    · subst e
      rw [h2.1]
      by_cases c : k = a
      · subst c; rw [List.getElem?_set_self (by omega), upd_same]
      · rw [List.getElem?_set_ne (by omega), h1.1, upd_other A _ c]
    · subst e
      rw [h2.2, List.getElem?_set_ne (by omega), h1.2]
      by_cases c : k = a
      · subst c; rw [upd_same]
      · rw [upd_other A _ c]
  · rw [List.getElem?_eq_none (by simp; omega), List.getElem?_eq_none (by omega)]
theorem accs_held (A : Acc) {n a : Nat} (h : a < n) (v : Int) : (accs A n).set (a * 2 + 1) (.int .i64 v) = accs (upd A a ((A a).1, v)) n := by
  refine List.ext_getElem? (fun i => ?_)
  have hl := accs_len A n
  have hl' := accs_len (upd A a ((A a).1, v)) n
  by_cases hi : i < 2 * n
  · obtain ⟨k, e⟩ : ∃ k, i = k * 2 ∨ i = k * 2 + 1 := ⟨i / 2, by omega⟩
    have hk : k < n := by omega
    have h1 := accs_at A hk
    have h2 := accs_at (upd A a ((A a).1, v)) hk
    rcases e with e | e
    · subst e
      rw [h2.1, List.getElem?_set_ne (by omega), h1.1]
      by_cases c : k = a
      · subst c; rw [upd_same]
      · rw [upd_other A _ c]
    · subst e
      rw [h2.2]
      by_cases c : k = a
      · subst c; rw [List.getElem?_set_self (by omega), upd_same]
      · rw [List.getElem?_set_ne (by omega), h1.2, upd_other A _ c]
  · rw [List.getElem?_eq_none (by simp; omega), List.getElem?_eq_none (by omega)]

/-- The ledger's cells. -/
def lcells (A : Acc) (gl : Nat) : List Value := accs A 10 ++ [.pointer (some ⟨gl, 0, none⟩)]
/-- A ledger of the call's own: its struct lies in g, its locks' table in gl. -/
structure LdAt (N g gl : Nat) (A : Acc) (M : Cls Int) (w : World) : Prop where
  blk : w.heap[g]? = some (.cells (lcells A gl).toArray 86 (0, 0))
  gr : ∃ F, GrAt codI 146 gl M F w ∧ ∀ k, F k → N ≤ k ∧ k ≠ g
  lo : N ≤ g
  ok : AccOk A
  len : M.length ≤ 10000
section
variable {N g gl : Nat} {A : Acc} {M : Cls Int} {w w' : World}
theorem LdAt.lt (h : LdAt N g gl A M w) : g < w.heap.size := (Array.getElem?_eq_some_iff.1 h.blk).1
theorem LdAt.below (h : LdAt N g gl A M w) (hb : Below w.heap.size w w') : LdAt N g gl A M w' := by
  obtain ⟨F, h1, h2⟩ := h.gr
  exact ⟨(hb.block g h.lt).trans h.blk, ⟨F, h1.keep (Grow.of_below hb) (fun k hk => hb.block k (h1.2.2.1 k hk)), h2⟩, h.lo, h.ok, h.len⟩
theorem lcells_acc {k : Nat} (hk : k < 10) : (lcells A gl)[k * 2]? = some (.int .i64 (A k).1) ∧ (lcells A gl)[k * 2 + 1]? = some (.int .i64 (A k).2) := by
  have hl := accs_len A 10
  unfold lcells
  rw [List.getElem?_append_left (by omega), List.getElem?_append_left (by omega)]
  exact accs_at A hk
theorem lcells_ptr : (lcells A gl)[20]? = some (.pointer (some ⟨gl, 0, none⟩)) := by
  have hl := accs_len A 10
  unfold lcells
  rw [List.getElem?_append_right (by omega), hl]
  rfl
theorem cell_of {b i : Nat} {l : List Value} {T : TypeId} {v : Value} (h : w.heap[b]? = some (.cells l.toArray T (0, 0))) (hv : l[i]? = some v) : w.cell? ⟨b, i, none⟩ = some v := by
  rw [World.cell?, h]; simpa using hv
theorem LdAt.free (h : LdAt N g gl A M w) {k : Nat} (hk : k < 10) : w.cell? ⟨g, k * 2, none⟩ = some (.int .i64 (A k).1) := cell_of h.blk (lcells_acc hk).1
theorem LdAt.held (h : LdAt N g gl A M w) {k : Nat} (hk : k < 10) : w.cell? ⟨g, k * 2 + 1, none⟩ = some (.int .i64 (A k).2) := cell_of h.blk (lcells_acc hk).2
theorem LdAt.ptr (h : LdAt N g gl A M w) : w.cell? ⟨g, 20, none⟩ = some (.pointer (some ⟨gl, 0, none⟩)) := cell_of h.blk lcells_ptr
theorem LdAt.frozen (h : LdAt N g gl A M w) (i : Nat) : w.frozen? ⟨g, i, none⟩ = false := by simp [World.frozen?, h.blk]
theorem setCell_at {b i : Nat} {l : List Value} {T : TypeId} {v : Value} (h : w.heap[b]? = some (.cells l.toArray T (0, 0))) : (w.setCell ⟨b, i, none⟩ v).heap[b]? = some (.cells (l.set i v).toArray T (0, 0)) := by
  simp [World.setCell, Array.getElem?_modify, h]
theorem grow_set {b i : Nat} {v : Value} : Grow w (w.setCell ⟨b, i, none⟩ v) := ⟨rfl, rfl, rfl, by simp [World.setCell]⟩
theorem below_set {b i : Nat} {v : Value} (h : N ≤ b) : Below N w (w.setCell ⟨b, i, none⟩ v) := ⟨rfl, rfl, rfl, by simp [World.setCell], fun k hk => Below.heap_setCell _ _ _ k (by show k ≠ b; omega)⟩
theorem LdAt.put {i : Nat} {v : Value} {A' : Acc} (h : LdAt N g gl A M w) (hA : (lcells A gl).set i v = lcells A' gl) (hok : AccOk A') : LdAt N g gl A' M (w.setCell ⟨g, i, none⟩ v) ∧ Below N w (w.setCell ⟨g, i, none⟩ v) := by
  obtain ⟨F, h1, h2⟩ := h.gr
  refine ⟨⟨?_, ⟨F, h1.keep grow_set (fun k hk => Below.heap_setCell _ _ _ k (h2 k hk).2), h2⟩, h.lo, hok, h.len⟩, below_set h.lo⟩
  rw [setCell_at h.blk, hA]
theorem lcells_free {a : Nat} (ha : a < 10) (v : Int) : (lcells A gl).set (a * 2) (.int .i64 v) = lcells (upd A a (v, (A a).2)) gl := by
  unfold lcells
  rw [List.set_append_left _ _ (by rw [accs_len]; omega), accs_free A ha]
theorem lcells_held {a : Nat} (ha : a < 10) (v : Int) : (lcells A gl).set (a * 2 + 1) (.int .i64 v) = lcells (upd A a ((A a).1, v)) gl := by
  unfold lcells
  rw [List.set_append_left _ _ (by rw [accs_len]; omega), accs_held A ha]
theorem LdAt.setFree (h : LdAt N g gl A M w) {a : Nat} (ha : a < 10) (v : Int) (hok : AccOk (upd A a (v, (A a).2))) : LdAt N g gl (upd A a (v, (A a).2)) M (w.setCell ⟨g, a * 2, none⟩ (.int .i64 v)) ∧ Below N w (w.setCell ⟨g, a * 2, none⟩ (.int .i64 v)) := h.put (lcells_free ha v) hok
end

theorem isAcc_nat {a : Int} (h : isAcc a) : ∃ k : Nat, a = k ∧ k < 10 := by unfold isAcc at h; exact ⟨a.toNat, by omega, by omega⟩
set_option maxRecDepth 100000 in
theorem ledger_account {g k : Nat} (hk : k < 10) (w : World) : Calls Tryz.prog 19 #[.pointer (some ⟨g, 0, none⟩), .int .i64 (k : Int)] w fun e w' => e = .returned (.pointer (some ⟨g, k * 2, none⟩)) ∧ w' = w := by
  have c1 : decide (0 ≤ (k : Int) ∧ (k : Int) < 10) = true := by simp; omega
  have h1 : (k : Int) < 10 := by omega
  have h0 : ¬ (k : Int) < 0 := by omega
  have C1 := Lib.hid c1
  clear c1
  go_enter Tryz.func19, Tryz.ntmps19
  go_wp2_with (first | (go_at_call 37; refine (bound_Account _ _).mono ?_; rw [C1.out]; rintro e w' ⟨rfl, rfl⟩) | fail)
  exact bodyPost_ret (v := .pointer (some ⟨g, k * 2, none⟩)) (by simp [results, Tryz.results19, go_sem]) rfl ⟨rfl, rfl⟩
theorem ledger_account_no {g : Nat} {a : Int} (ha : ¬ isAcc a) (w : World) : Calls Tryz.prog 19 #[.pointer (some ⟨g, 0, none⟩), .int .i64 a] w fun e w' => e = .returned (.pointer none) ∧ w' = w := by
  have c1 : decide (0 ≤ a ∧ a < 10) = false := by unfold isAcc at ha; exact decide_eq_false ha
  have C1 := Lib.hid c1
  clear c1 ha
  go_enter Tryz.func19, Tryz.ntmps19
  go_wp2_with (first | (go_at_call 37; refine (bound_Account _ _).mono ?_; rw [C1.out]; rintro e w' ⟨rfl, rfl⟩) | fail)
  exact bodyPost_ret (v := .pointer none) (by simp [results, Tryz.results19, go_sem]) rfl ⟨rfl, rfl⟩
theorem ledger_account_nil (a : Int) (w : World) : Calls Tryz.prog 19 #[.pointer none, .int .i64 a] w fun e w' => e = .returned (.pointer none) ∧ w' = w := by
  go_enter Tryz.func19, Tryz.ntmps19
  go_wp2
  exact bodyPost_ret (v := .pointer none) (by simp [results, Tryz.results19, go_sem]) rfl ⟨rfl, rfl⟩
def accOf (A : Acc) (a : Int) : Int × Int := if isAcc a then A a.toNat else (0, 0)
theorem ledger_Free {N g gl : Nat} {A : Acc} {M : Cls Int} {w : World} (h : LdAt N g gl A M w) (a : Int) : Calls Tryz.prog 7 #[.pointer (some ⟨g, 0, none⟩), .int .i64 a] w fun e w' => e = .returned (.int .i64 (accOf A a).1) ∧ w' = w := by
  by_cases ha : isAcc a
  · rw [accOf, if_pos ha]
    obtain ⟨k, rfl, hk⟩ := isAcc_nat ha
    have hc := h.free hk
    rw [Int.toNat_natCast]
    obtain ⟨v, hv⟩ : ∃ v, v = (A k).1 := ⟨_, rfl⟩
    rw [← hv] at hc ⊢
    clear hv h ha
    have HK := Lib.hid hk
    clear hk
    go_enter Tryz.func7, Tryz.ntmps7
    go_wp2_with (first | (go_at_call 19; refine (ledger_account HK.out w).mono ?_; rintro e w' ⟨rfl, rfl⟩) | fail)
    exact bodyPost_ret (v := .int .i64 v) (by simp [results, Tryz.results7, go_sem]) rfl ⟨rfl, rfl⟩
  · rw [accOf, if_neg ha]
    have HA := Lib.hid ha
    clear h ha
    go_enter Tryz.func7, Tryz.ntmps7
    go_wp2_with (first | (go_at_call 19; refine (ledger_account_no HA.out w).mono ?_; rintro e w' ⟨rfl, rfl⟩) | fail)
    exact bodyPost_ret (v := .int .i64 0) (by simp [results, Tryz.results7, go_sem]) rfl ⟨rfl, rfl⟩
theorem ledger_Free_nil (a : Int) (w : World) : Calls Tryz.prog 7 #[.pointer none, .int .i64 a] w fun e w' => e = .returned (.int .i64 0) ∧ w' = w := by
  go_enter Tryz.func7, Tryz.ntmps7
  go_wp2_with (first | (go_at_call 19; refine (ledger_account_nil a w).mono ?_; rintro e w' ⟨rfl, rfl⟩) | fail)
  exact bodyPost_ret (v := .int .i64 0) (by simp [results, Tryz.results7, go_sem]) rfl ⟨rfl, rfl⟩
end Go.Proofs.YtfgkaookgfghoaaGreat
