/-
  Joined texts.
-/
import Derived.Deep.MidRow
import Derived.BigRegion
import Derived.RegionTactic
import Derived.Shelf.Abstract
import Derived.Shelf.RegionOpen
import Derived.LoopNIn
import Derived.LoopIn
import Derived.Deep.RegionHeld3
import Derived.Deep.QuietTactic
import Derived.Test.YtlnjcfgihklppaaGreatChecked
import Derived.WalkKit
import Derived.WalkSpells
import Derived.WalkLawsBesides
import Derived.Lib.Hide
import Derived.Below
import Derived.BigQuiet
import Derived.IntWalk
import Derived.Test.YtlnjcfgihklppaaGreatMgf

section
namespace Go.Proofs.YtlnjcfgihklppaaGreat
open Go.RowKit Go.Maps Go.Shelf
set_option linter.unusedVariables false
set_option linter.unusedSimpArgs false

/-- The accounts' cells. -/
def accs (A : Acc) : Nat → List Value
  | 0 => []
  | n + 1 => accs A n ++ [.int .i64 (A n).1, .int .i64 (A n).2]
theorem accs_len (A : Acc) : ∀ n, (accs A n).length = 2 * n
  | 0 => rfl
  | n + 1 => by rw [accs, List.length_append, accs_len A n]; simp; omega
theorem accs_at (A : Acc) : ∀ {n k : Nat}, k < n → (accs A n)[k * 2]? = some (.int .i64 (A k).1) ∧ (accs A n)[k * 2 + 1]? = some (.int .i64 (A k).2)
  | n + 1, k, h => by
    rw [accs]
    by_cases e : k = n
    · subst e
      have hl := accs_len A k
      rw [List.getElem?_append_right (by omega), List.getElem?_append_right (by omega), show k * 2 - (accs A k).length = 0 by omega, show k * 2 + 1 - (accs A k).length = 1 by omega]
      exact ⟨rfl, rfl⟩
    · have hl := accs_len A n
      have := accs_at A (n := n) (k := k) (by omega)
      rw [List.getElem?_append_left (by omega), List.getElem?_append_left (by omega)]
      exact this
theorem accs_free (A : Acc) {n a : Nat} (h : a < n) (v : Int) : (accs A n).set (a * 2) (.int .i64 v) = accs (upd A a (v, (A a).2)) n := by
  refine List.ext_getElem? (fun i => ?_)
  have hl := accs_len A n
  have hl' := accs_len (upd A a (v, (A a).2)) n
  by_cases hi : i < 2 * n
  · obtain ⟨k, e⟩ : ∃ k, i = k * 2 ∨ i = k * 2 + 1 := ⟨i / 2, by omega⟩
    have hk : k < n := by omega
    have h1 := accs_at A hk
    have h2 := accs_at (upd A a (v, (A a).2)) hk
    rcases e with e | e
    · subst e
      rw [h2.1]
      by_cases c : k = a
      · subst c; rw [List.getElem?_set_self (by omega), upd_same]
      · rw [List.getElem?_set_ne (by omega), h1.1, upd_other A _ c]
    · subst e
      rw [h2.2, List.getElem?_set_ne (by omega), h1.2]
      by_cases c : k = a
      · subst c; rw [upd_same]
      · rw [upd_other A _ c]
  · rw [List.getElem?_eq_none (by simp; omega), List.getElem?_eq_none (by omega)]
theorem accs_held (A : Acc) {n a : Nat} (h : a < n) (v : Int) : (accs A n).set (a * 2 + 1) (.int .i64 v) = accs (upd A a ((A a).1, v)) n := by
  refine List.ext_getElem? (fun i => ?_)
  have hl := accs_len A n
  have hl' := accs_len (upd A a ((A a).1, v)) n
  by_cases hi : i < 2 * n
  · obtain ⟨k, e⟩ : ∃ k, i = k * 2 ∨ i = k * 2 + 1 := ⟨i / 2, by omega⟩
    have hk : k < n := by omega
    have h1 := accs_at A hk
    have h2 := accs_at (upd A a ((A a).1, v)) hk
    rcases e with e | e
    · subst e
      rw [h2.1, List.getElem?_set_ne (by omega), h1.1]
      by_cases c : k = a
      · subst c; rw [upd_same]
      · rw [upd_other A _ c]
    · subst e
      rw [h2.2]
      by_cases c : k = a
      · subst c; rw [List.getElem?_set_self (by omega), upd_same]
      · rw [List.getElem?_set_ne (by omega), h1.2, upd_other A _ c]
  · rw [List.getElem?_eq_none (by simp; omega), List.getElem?_eq_none (by omega)]

/-- The ledger's cells. -/
def lcells (A : Acc) (gl : Nat) : List Value := accs A 10 ++ [.pointer (some ⟨gl, 0, none⟩)]
/-- A ledger of the call's own: its struct lies in g, its locks' table in gl. -/
structure LdAt (N g gl : Nat) (A : Acc) (M : Cls Int) (w : World) : Prop where
  blk : w.heap[g]? = some (.cells (lcells A gl).toArray 79 (0, 0))
  gr : ∃ F, GrAt codI 130 gl M F w ∧ ∀ k, F k → N ≤ k ∧ k ≠ g
  lo : N ≤ g
  ok : AccOk A
  len : M.length ≤ 10000
section
variable {N g gl : Nat} {A : Acc} {M : Cls Int} {w w' : World}
theorem LdAt.lt (h : LdAt N g gl A M w) : g < w.heap.size := (Array.getElem?_eq_some_iff.1 h.blk).1
theorem LdAt.below (h : LdAt N g gl A M w) (hb : Below w.heap.size w w') : LdAt N g gl A M w' := by
  obtain ⟨F, h1, h2⟩ := h.gr
  exact ⟨(hb.block g h.lt).trans h.blk, ⟨F, h1.keep (Grow.of_below hb) (fun k hk => hb.block k (h1.2.2.1 k hk)), h2⟩, h.lo, h.ok, h.len⟩
theorem lcells_acc {k : Nat} (hk : k < 10) : (lcells A gl)[k * 2]? = some (.int .i64 (A k).1) ∧ (lcells A gl)[k * 2 + 1]? = some (.int .i64 (A k).2) := by
  have hl := accs_len A 10
  unfold lcells
  rw [List.getElem?_append_left (by omega), List.getElem?_append_left (by omega)]
  exact accs_at A hk
theorem lcells_ptr : (lcells A gl)[20]? = some (.pointer (some ⟨gl, 0, none⟩)) := by
  have hl := accs_len A 10
  unfold lcells
  rw [List.getElem?_append_right (by omega), hl]
  rfl
theorem cell_of {b i : Nat} {l : List Value} {T : TypeId} {v : Value} (h : w.heap[b]? = some (.cells l.toArray T (0, 0))) (hv : l[i]? = some v) : w.cell? ⟨b, i, none⟩ = some v := by
  rw [World.cell?, h]; simpa using hv
theorem LdAt.free (h : LdAt N g gl A M w) {k : Nat} (hk : k < 10) : w.cell? ⟨g, k * 2, none⟩ = some (.int .i64 (A k).1) := cell_of h.blk (lcells_acc hk).1
theorem LdAt.held (h : LdAt N g gl A M w) {k : Nat} (hk : k < 10) : w.cell? ⟨g, k * 2 + 1, none⟩ = some (.int .i64 (A k).2) := cell_of h.blk (lcells_acc hk).2
theorem LdAt.ptr (h : LdAt N g gl A M w) : w.cell? ⟨g, 20, none⟩ = some (.pointer (some ⟨gl, 0, none⟩)) := cell_of h.blk lcells_ptr
theorem LdAt.frozen (h : LdAt N g gl A M w) (i : Nat) : w.frozen? ⟨g, i, none⟩ = false := by simp [World.frozen?, h.blk]
theorem setCell_at {b i : Nat} {l : List Value} {T : TypeId} {v : Value} (h : w.heap[b]? = some (.cells l.toArray T (0, 0))) : (w.setCell ⟨b, i, none⟩ v).heap[b]? = some (.cells (l.set i v).toArray T (0, 0)) := by
  simp [World.setCell, Array.getElem?_modify, h]
theorem grow_set {b i : Nat} {v : Value} : Grow w (w.setCell ⟨b, i, none⟩ v) := ⟨rfl, rfl, rfl, by simp [World.setCell]⟩
theorem below_set {b i : Nat} {v : Value} (h : N ≤ b) : Below N w (w.setCell ⟨b, i, none⟩ v) := ⟨rfl, rfl, rfl, by simp [World.setCell], fun k hk => Below.heap_setCell _ _ _ k (by show k ≠ b; omega)⟩
theorem LdAt.put {i : Nat} {v : Value} {A' : Acc} (h : LdAt N g gl A M w) (hA : (lcells A gl).set i v = lcells A' gl) (hok : AccOk A') : LdAt N g gl A' M (w.setCell ⟨g, i, none⟩ v) ∧ Below N w (w.setCell ⟨g, i, none⟩ v) := by
  obtain ⟨F, h1, h2⟩ := h.gr
  refine ⟨⟨?_, ⟨F, h1.keep grow_set (fun k hk => Below.heap_setCell _ _ _ k (h2 k hk).2), h2⟩, h.lo, hok, h.len⟩, below_set h.lo⟩
  rw [setCell_at h.blk, hA]
theorem lcells_free {a : Nat} (ha : a < 10) (v : Int) : (lcells A gl).set (a * 2) (.int .i64 v) = lcells (upd A a (v, (A a).2)) gl := by
  unfold lcells
  rw [List.set_append_left _ _ (by rw [accs_len]; omega), accs_free A ha]
theorem lcells_held {a : Nat} (ha : a < 10) (v : Int) : (lcells A gl).set (a * 2 + 1) (.int .i64 v) = lcells (upd A a ((A a).1, v)) gl := by
  unfold lcells
  rw [List.set_append_left _ _ (by rw [accs_len]; omega), accs_held A ha]
theorem LdAt.setFree (h : LdAt N g gl A M w) {a : Nat} (ha : a < 10) (v : Int) (hok : AccOk (upd A a (v, (A a).2))) : LdAt N g gl (upd A a (v, (A a).2)) M (w.setCell ⟨g, a * 2, none⟩ (.int .i64 v)) ∧ Below N w (w.setCell ⟨g, a * 2, none⟩ (.int .i64 v)) := h.put (lcells_free ha v) hok
end

theorem isAcc_nat {a : Int} (h : isAcc a) : ∃ k : Nat, a = k ∧ k < 10 := by unfold isAcc at h; exact ⟨a.toNat, by omega, by omega⟩
set_option maxRecDepth 100000 in
theorem ledger_account {g k : Nat} (hk : k < 10) (w : World) : Calls Tryz.prog 74 #[.pointer (some ⟨g, 0, none⟩), .int .i64 (k : Int)] w fun e w' => e = .returned (.pointer (some ⟨g, k * 2, none⟩)) ∧ w' = w := by
  have c1 : decide (0 ≤ (k : Int) ∧ (k : Int) < 10) = true := by simp; omega
  have h1 : (k : Int) < 10 := by omega
  have h0 : ¬ (k : Int) < 0 := by omega
  have C1 := Lib.hid c1
  clear c1
  go_enter Tryz.func74, Tryz.ntmps74
  go_wp2_with (first | (go_at_call 46; refine (bound_Account _ _).mono ?_; rw [C1.out]; rintro e w' ⟨rfl, rfl⟩) | fail)
  exact bodyPost_ret (v := .pointer (some ⟨g, k * 2, none⟩)) (by simp [results, Tryz.results74, go_sem]) rfl ⟨rfl, rfl⟩
theorem ledger_account_no {g : Nat} {a : Int} (ha : ¬ isAcc a) (w : World) : Calls Tryz.prog 74 #[.pointer (some ⟨g, 0, none⟩), .int .i64 a] w fun e w' => e = .returned (.pointer none) ∧ w' = w := by
  have c1 : decide (0 ≤ a ∧ a < 10) = false := by unfold isAcc at ha; exact decide_eq_false ha
  have C1 := Lib.hid c1
  clear c1 ha
  go_enter Tryz.func74, Tryz.ntmps74
  go_wp2_with (first | (go_at_call 46; refine (bound_Account _ _).mono ?_; rw [C1.out]; rintro e w' ⟨rfl, rfl⟩) | fail)
  exact bodyPost_ret (v := .pointer none) (by simp [results, Tryz.results74, go_sem]) rfl ⟨rfl, rfl⟩
theorem ledger_account_nil (a : Int) (w : World) : Calls Tryz.prog 74 #[.pointer none, .int .i64 a] w fun e w' => e = .returned (.pointer none) ∧ w' = w := by
  go_enter Tryz.func74, Tryz.ntmps74
  go_wp2
  exact bodyPost_ret (v := .pointer none) (by simp [results, Tryz.results74, go_sem]) rfl ⟨rfl, rfl⟩
def accOf (A : Acc) (a : Int) : Int × Int := if isAcc a then A a.toNat else (0, 0)
theorem ledger_Free {N g gl : Nat} {A : Acc} {M : Cls Int} {w : World} (h : LdAt N g gl A M w) (a : Int) : Calls Tryz.prog 50 #[.pointer (some ⟨g, 0, none⟩), .int .i64 a] w fun e w' => e = .returned (.int .i64 (accOf A a).1) ∧ w' = w := by
  by_cases ha : isAcc a
  · rw [accOf, if_pos ha]
    obtain ⟨k, rfl, hk⟩ := isAcc_nat ha
    have hc := h.free hk
    rw [Int.toNat_natCast]
    obtain ⟨v, hv⟩ : ∃ v, v = (A k).1 := ⟨_, rfl⟩
    rw [← hv] at hc ⊢
    clear hv h ha
    have HK := Lib.hid hk
    clear hk
    go_enter Tryz.func50, Tryz.ntmps50
    go_wp2_with (first | (go_at_call 74; refine (ledger_account HK.out w).mono ?_; rintro e w' ⟨rfl, rfl⟩) | fail)
    exact bodyPost_ret (v := .int .i64 v) (by simp [results, Tryz.results50, go_sem]) rfl ⟨rfl, rfl⟩
  · rw [accOf, if_neg ha]
    have HA := Lib.hid ha
    clear h ha
    go_enter Tryz.func50, Tryz.ntmps50
    go_wp2_with (first | (go_at_call 74; refine (ledger_account_no HA.out w).mono ?_; rintro e w' ⟨rfl, rfl⟩) | fail)
    exact bodyPost_ret (v := .int .i64 0) (by simp [results, Tryz.results50, go_sem]) rfl ⟨rfl, rfl⟩
theorem ledger_Free_nil (a : Int) (w : World) : Calls Tryz.prog 50 #[.pointer none, .int .i64 a] w fun e w' => e = .returned (.int .i64 0) ∧ w' = w := by
  go_enter Tryz.func50, Tryz.ntmps50
  go_wp2_with (first | (go_at_call 74; refine (ledger_account_nil a w).mono ?_; rintro e w' ⟨rfl, rfl⟩) | fail)
  exact bodyPost_ret (v := .int .i64 0) (by simp [results, Tryz.results50, go_sem]) rfl ⟨rfl, rfl⟩
end Go.Proofs.YtlnjcfgihklppaaGreat
end

section
namespace Go.Proofs.YtlnjcfgihklppaaGreat
open Go.RowKit Go.Maps
set_option linter.unusedVariables false
set_option linter.unusedSimpArgs false

section
variable {P : Program} {α : Type}
theorem range_outerF1 {n : Nat} {g : Operand} {ps : Array Tmp} {assign body : Code} {id : Nat} {Q0 : Exit → Act → World → Prop} {a : Act} {w : World} {gf : Nat} {lb : Array Value} (hg : a.eval g = .func (.func gf) #[] lb) (eg : ∀ args w, (callFunc gf args).run P w = .ok (.enter gf args) w)
    {encs : α → Array Value} {xs : List α} {G : FP} {w0 : World} (hit : IterF P n gf lb encs xs G w0) (hg0 : Grow w0 w) (hG : ∀ k, G k → k < w0.heap.size ∧ w.heap[k]? = w0.heap[k]?) (hps : ∀ x, (encs x).size = ps.size)
    (Ψ : FP) (hΨ : ∀ k, Ψ k → k < w.heap.size) (I : List α → FP → World → Prop) (Ix : Code → List α → FP → World → Prop) (hI : Stab w.heap.size I) (hIx : ∀ c, Stab w.heap.size (Ix c)) (h0 : I [] (fun _ => False) w) (a₁ : α → Act)
    (hassign : ∀ (l : Nat) (x : α) (W : World) (K : Act → World → Prop), K (a₁ x) W → assign.wpIn (Fence.wide.inRound l) n P (Exit.then K (fun _ _ _ => False)) { tmps := (ps.zip (encs x)).foldl (fun t (p, v) => t.setIfInBounds p v) a.tmps, defers := [] } W)
    (hbody : ∀ (l : Nat) (pre : List α) (x : α) (Φ : FP) (W : World), (pre ++ [x]) <+: xs → I pre Φ W → w.heap.size < l → (∀ k, Φ k → l + 1 ≤ k) → (∃ r, W.heap[l]? = some (.loop r)) → body.wpIn (Fence.wide.inRound l) n P (bodyI Ψ Φ I Ix (pre ++ [x]) W) (a₁ x) W)
    (Fin : FP → World → Prop) (hF1 : ∀ Φ W, I xs Φ W → Fin Φ W) (hF2 : ∀ c pre Φ W, pre <+: xs → Ix c pre Φ W → c = .exit id ∧ Fin Φ W)
    (hfin : ∀ (D : Nat) (Φ : FP) (W : World), Fin Φ W → Only Ψ (fun _ => False) w W → w.heap.size ≤ D → ¬ Φ D → W.heap[D]? = some (.deferred (some [])) → Exit.inBlock id Q0 .normal { a with defers := { target := .collected D, args := #[] } :: a.defers } W) :
    (Code.rangeFunc g ps assign body).wpIn Fence.wide (n + 2) P (Exit.inBlock id Q0) a w := by
  refine range_outerF hg eg hit hg0 hG hps Ψ hΨ I Ix hI hIx h0 a₁ hassign hbody (fun D Φ W h => hfin D Φ W (hF1 Φ W h)) ?_
  intro D Φ c pre W hpre hix hon hD hnD hK
  obtain ⟨rfl, hf⟩ := hF2 c pre Φ W hpre hix
  have h := hfin D Φ W hf hon hD hnD hK
  refine wpIn_exit ?_
  unfold Exit.inBlock at h ⊢
  simpa using h
theorem range_outerU {n : Nat} {g : Operand} {ps : Array Tmp} {assign body : Code} {id : Nat} {Q0 : Exit → Act → World → Prop} {a : Act} {w : World} {gf : Nat} {lb : Array Value} (hg : a.eval g = .func (.func gf) #[] lb) (eg : ∀ args w, (callFunc gf args).run P w = .ok (.enter gf args) w)
    {encs : α → Array Value} {xs : List α} {G : FP} {w0 : World} (hit : IterF P n gf lb encs xs G w0) (hg0 : Grow w0 w) (hG : ∀ k, G k → k < w0.heap.size ∧ w.heap[k]? = w0.heap[k]?) (hps : ∀ x, (encs x).size = ps.size)
    (Ψ : FP) (hΨ : ∀ k, Ψ k → k < w.heap.size) (I : List α → FP → World → Prop) (Ix : Code → List α → FP → World → Prop) (hI : Stab w.heap.size I) (hIx : ∀ c, Stab w.heap.size (Ix c)) (h0 : I [] (fun _ => False) w) (up : α → Array Value → Array Value)
    (hassign : ∀ (l : Nat) (x : α) (W : World) (K : Act → World → Prop), K { tmps := up x a.tmps, defers := [] } W → assign.wpIn (Fence.wide.inRound l) n P (Exit.then K (fun _ _ _ => False)) { tmps := (ps.zip (encs x)).foldl (fun t (p, v) => t.setIfInBounds p v) a.tmps, defers := [] } W)
    (hbody : ∀ (l : Nat) (pre : List α) (x : α) (Φ : FP) (W : World), (pre ++ [x]) <+: xs → I pre Φ W → w.heap.size < l → (∀ k, Φ k → l + 1 ≤ k) → (∃ r, W.heap[l]? = some (.loop r)) → body.wpIn (Fence.wide.inRound l) n P (bodyI Ψ Φ I Ix (pre ++ [x]) W) { tmps := up x a.tmps, defers := [] } W)
    (Fin : FP → World → Prop) (hF1 : ∀ Φ W, I xs Φ W → Fin Φ W) (hF2 : ∀ c pre Φ W, pre <+: xs → Ix c pre Φ W → c = .exit id ∧ Fin Φ W)
    (hfin : ∀ (D : Nat) (Φ : FP) (W : World), Fin Φ W → Only Ψ (fun _ => False) w W → w.heap.size ≤ D → ¬ Φ D → W.heap[D]? = some (.deferred (some [])) → Exit.inBlock id Q0 .normal { a with defers := { target := .collected D, args := #[] } :: a.defers } W) :
    (Code.rangeFunc g ps assign body).wpIn Fence.wide (n + 2) P (Exit.inBlock id Q0) a w :=
  range_outerF1 hg eg hit hg0 hG hps Ψ hΨ I Ix hI hIx h0 (fun x => { tmps := up x a.tmps, defers := [] }) hassign hbody Fin hF1 hF2 hfin
end

/-- A cross: row 3 and column 3, k of each. -/
structure Cross (M : Cls Int) (k : Nat) : Prop where
  s : SrtC M
  m : ∀ a b v, ((a, b), v) ∈ M ↔ (a = 3 ∧ 0 ≤ b ∧ b < k ∧ v = b) ∨ (b = 3 ∧ 0 ≤ a ∧ a < k ∧ v = a)
  l : M.length ≤ 2 * k
theorem Cross.nil : Cross [] 0 := ⟨List.Pairwise.nil, fun a b v => by simp; omega, Nat.le_refl _⟩
theorem length_put_le {M : Cls Int} (h : SrtC M) (a b v : Int) : (cput M a b v).length ≤ M.length + 1 := by
  rw [h.length_put]; split <;> omega
theorem Cross.step {M : Cls Int} {k : Nat} (h : Cross M k) : Cross (cput (cput M 3 k k) k 3 k) (k + 1) := by
  refine ⟨(h.s.put _ _ _).put _ _ _, fun a b v => ?_, ?_⟩
  · rw [mem_cput, mem_cput, h.m a b v]
    simp only [ne_eq, Prod.mk.injEq]
    have e : ((k + 1 : Nat) : Int) = (k : Int) + 1 := by omega
    rw [e]
    constructor
    · rintro (⟨⟨rfl, rfl⟩, rfl⟩ | ⟨⟨⟨rfl, rfl⟩, rfl⟩ | ⟨h, h1⟩, h2⟩) <;> omega
    · intro h
      by_cases e1 : a = k ∧ b = 3
      · left; omega
      · right
        refine ⟨?_, e1⟩
        by_cases e2 : a = 3 ∧ b = k
        · left; omega
        · right
          refine ⟨?_, e2⟩
          omega
  · have h1 := length_put_le h.s 3 k k
    have h2 := length_put_le (h.s.put 3 k k) k 3 k
    have := h.l
    omega
def diag (n : Nat) : List (Int × Int) := (List.range n).map (fun i : Nat => ((i : Int), (i : Int)))
theorem diag_len (n : Nat) : (diag n).length = n := by simp [diag]
theorem diag_at {n k : Nat} (h : k < (diag n).length) : (diag n)[k] = ((k : Int), (k : Int)) := by simp [diag]
theorem diag_srt (n : Nat) : SrtK (diag n) := by
  refine List.pairwise_map.2 (List.Pairwise.imp ?_ List.pairwise_lt_range)
  intro a b h
  show (a : Int) < (b : Int)
  omega
theorem mem_diag {n : Nat} {x : Int × Int} : x ∈ diag n ↔ 0 ≤ x.1 ∧ x.1 < n ∧ x.2 = x.1 := by
  simp only [diag, List.mem_map, List.mem_range]
  constructor
  · rintro ⟨i, hi, rfl⟩
    exact ⟨by show (0:Int) ≤ (i : Int); omega, by show (i : Int) < n; omega, rfl⟩
  · rintro ⟨h1, h2, h3⟩
    refine ⟨x.1.toNat, by omega, ?_⟩
    apply Prod.ext
    · show ((x.1.toNat : Nat) : Int) = x.1; omega
    · show ((x.1.toNat : Nat) : Int) = x.2; omega
theorem Cross.row {M : Cls Int} {k : Nat} (h : Cross M k) : rowOf M 3 = diag k :=
  (h.s.row 3).ext (diag_srt k) (fun x => by rw [mem_rowOf, mem_diag, h.m]; omega)
theorem Cross.col {M : Cls Int} {k : Nat} (h : Cross M k) : colOf M 3 = diag k :=
  (h.s.col 3).ext (diag_srt k) (fun x => by rw [mem_colOf, mem_diag, h.m]; omega)
/-- A prefix of the diagonal. -/
theorem diag_pre {n : Nat} {pre : List (Int × Int)} {x : Int × Int} (h : (pre ++ [x]) <+: diag n) : x = ((pre.length : Int), (pre.length : Int)) ∧ pre.length < n := by
  have hl := h.length_le
  rw [List.length_append, List.length_singleton, diag_len] at hl
  obtain ⟨t, ht⟩ := h
  have e : (diag n)[pre.length]? = some x := by
    rw [← ht, List.append_assoc, List.getElem?_append_right (Nat.le_refl _), Nat.sub_self]
    rfl
  have hk : pre.length < (diag n).length := by rw [diag_len]; omega
  have e2 := List.getElem?_eq_getElem hk
  rw [e, diag_at hk] at e2
  exact ⟨Option.some.inj e2, by omega⟩
/-- What such a loop holds: the limit in its box, the count in its own. -/
structure StpI (N0 sb jb t j : Nat) (Φ : FP) (W : World) : Prop where
  bs : Boxed W sb 3 (.int .i64 (t : Nat))
  bj : Boxed W jb 3 (.int .i64 (j : Nat))
  no : ∀ k, ¬ Φ k
  sz : N0 ≤ W.heap.size
theorem StpI.keep {N0 sb jb t j : Nat} {Φ : FP} {W W' : World} (h : StpI N0 sb jb t j Φ W) (h1 : sb < N0) (h2 : jb < N0) (hg : Grow W W') (hk : ∀ k, (k < N0 ∨ Φ k) → W'.heap[k]? = W.heap[k]?) : StpI N0 sb jb t j Φ W' :=
  ⟨(hk sb (.inl h1)).trans h.bs, (hk jb (.inl h2)).trans h.bj, h.no, Nat.le_trans h.sz hg.size⟩
def StpA (N0 sb jb t : Nat) (pre : List (Int × Int)) (Φ : FP) (W : World) : Prop := pre.length < t ∧ StpI N0 sb jb t pre.length Φ W
def StpX (id N0 sb jb t : Nat) (c : Code) (pre : List (Int × Int)) (Φ : FP) (W : World) : Prop := c = .exit id ∧ pre.length = t ∧ StpI N0 sb jb t pre.length Φ W
theorem StpA.stab {N0 sb jb t : Nat} (h1 : sb < N0) (h2 : jb < N0) : Stab N0 (StpA N0 sb jb t) := by
  rintro pre Φ W ⟨h0, h⟩
  exact ⟨fun k hk => (h.no k hk).elim, h.sz, fun W' hg hk => ⟨h0, h.keep h1 h2 hg hk⟩⟩
theorem StpX.stab {id N0 sb jb t : Nat} (h1 : sb < N0) (h2 : jb < N0) (c : Code) : Stab N0 (StpX id N0 sb jb t c) := by
  rintro pre Φ W ⟨h0, h01, h⟩
  exact ⟨fun k hk => (h.no k hk).elim, h.sz, fun W' hg hk => ⟨h0, h01, h.keep h1 h2 hg hk⟩⟩
/-- One more. -/
theorem StpI.step {N0 sb jb t j : Nat} {Φ : FP} {W : World} (h : StpI N0 sb jb t j Φ W) (hne : sb ≠ jb) (j1 : Nat) :
    StpI N0 sb jb t j1 Φ (W.setCell ⟨jb, 0, none⟩ (.int .i64 (j1 : Nat))) ∧ Only (fun k => k = jb) Φ W (W.setCell ⟨jb, 0, none⟩ (.int .i64 (j1 : Nat))) :=
  ⟨⟨(Below.heap_setCell _ _ _ sb hne).trans h.bs, h.bj.set _, h.no, by rw [show (W.setCell ⟨jb, 0, none⟩ (.int .i64 (j1 : Nat))).heap.size = W.heap.size by simp [World.setCell]]; exact h.sz⟩,
    ⟨⟨rfl, rfl, rfl, by simp [World.setCell]⟩, fun k hk h1 h2 => Below.heap_setCell _ _ _ k h1⟩⟩
end Go.Proofs.YtlnjcfgihklppaaGreat
end

section
namespace Go.Proofs.YtlnjcfgihklppaaGreat
open Go.RowKit Go.Maps Go.Shelf
attribute [local go_sem] Oper.semAt_some
set_option linter.unusedVariables false
set_option linter.unusedSimpArgs false

theorem wpl_index {P : Program} {w : World} {ops : Array Oper} {rest : List Oper} {o : Oper} {a : Act} {Q : Exit → Act → World → Prop} (hg : o.guard = none) (x i : Operand) (t : TypeId) (hop : o.op = Op.index t x i) {xv iv r : Value} (hx : a.eval x = xv) (hi : a.eval i = iv) (hr : (Instr.index t xv iv).run P w = .ok r w)
    (h : wpList P ops Q rest (a.put o.dst r) w) : wpList P ops Q (o :: rest) a w := by
  refine wpList_plain hg fun K hK => ?_
  unfold Oper.wp
  simp [execOp, hop, hx, hi, hr, Result.andThen]
  exact hK _ _ h
theorem accInfo : (Tryz.prog.info? 77).map (·.size) = some 20 := by kernel_rfl
theorem acc1Info : (Tryz.prog.info? 76).map (·.size) = some 2 := by kernel_rfl
theorem run_acc0 (A : Acc) (w : World) : (Instr.index 77 (.agg (accs A 10).toArray) (.int .i64 0)).run Tryz.prog w = .ok (.agg #[.int .i64 (A 0).1, .int .i64 (A 0).2]) w := by kernel_rfl
theorem run_acc1 (A : Acc) (w : World) : (Instr.index 77 (.agg (accs A 10).toArray) (.int .i64 1)).run Tryz.prog w = .ok (.agg #[.int .i64 (A 1).1, .int .i64 (A 1).2]) w := by kernel_rfl
theorem run_acc2 (A : Acc) (w : World) : (Instr.index 77 (.agg (accs A 10).toArray) (.int .i64 2)).run Tryz.prog w = .ok (.agg #[.int .i64 (A 2).1, .int .i64 (A 2).2]) w := by kernel_rfl
theorem run_acc3 (A : Acc) (w : World) : (Instr.index 77 (.agg (accs A 10).toArray) (.int .i64 3)).run Tryz.prog w = .ok (.agg #[.int .i64 (A 3).1, .int .i64 (A 3).2]) w := by kernel_rfl
theorem run_acc4 (A : Acc) (w : World) : (Instr.index 77 (.agg (accs A 10).toArray) (.int .i64 4)).run Tryz.prog w = .ok (.agg #[.int .i64 (A 4).1, .int .i64 (A 4).2]) w := by kernel_rfl
theorem run_acc5 (A : Acc) (w : World) : (Instr.index 77 (.agg (accs A 10).toArray) (.int .i64 5)).run Tryz.prog w = .ok (.agg #[.int .i64 (A 5).1, .int .i64 (A 5).2]) w := by kernel_rfl
theorem run_acc6 (A : Acc) (w : World) : (Instr.index 77 (.agg (accs A 10).toArray) (.int .i64 6)).run Tryz.prog w = .ok (.agg #[.int .i64 (A 6).1, .int .i64 (A 6).2]) w := by kernel_rfl
theorem run_acc7 (A : Acc) (w : World) : (Instr.index 77 (.agg (accs A 10).toArray) (.int .i64 7)).run Tryz.prog w = .ok (.agg #[.int .i64 (A 7).1, .int .i64 (A 7).2]) w := by kernel_rfl
theorem run_acc8 (A : Acc) (w : World) : (Instr.index 77 (.agg (accs A 10).toArray) (.int .i64 8)).run Tryz.prog w = .ok (.agg #[.int .i64 (A 8).1, .int .i64 (A 8).2]) w := by kernel_rfl
theorem run_acc9 (A : Acc) (w : World) : (Instr.index 77 (.agg (accs A 10).toArray) (.int .i64 9)).run Tryz.prog w = .ok (.agg #[.int .i64 (A 9).1, .int .i64 (A 9).2]) w := by kernel_rfl
theorem run_acc (A : Acc) {k : Nat} (hk : k < 10) (w : World) : (Instr.index 77 (.agg (accs A 10).toArray) (.int .i64 (k : Int))).run Tryz.prog w = .ok (.agg #[.int .i64 (A k).1, .int .i64 (A k).2]) w :=
  match k, hk with
  | 0, _ => run_acc0 A w
  | 1, _ => run_acc1 A w
  | 2, _ => run_acc2 A w
  | 3, _ => run_acc3 A w
  | 4, _ => run_acc4 A w
  | 5, _ => run_acc5 A w
  | 6, _ => run_acc6 A w
  | 7, _ => run_acc7 A w
  | 8, _ => run_acc8 A w
  | 9, _ => run_acc9 A w
set_option maxRecDepth 100000 in
set_option maxHeartbeats 1000000 in
theorem ledger_Issued {N g gl : Nat} {A : Acc} {M : Cls Int} {w : World} (h : LdAt N g gl A M w) : Calls Tryz.prog 37 #[.pointer (some ⟨g, 0, none⟩)] w fun e w' => e = .returned (.int .i64 (sumTo A 10)) ∧ Below w.heap.size w w' := by
  have hrg : w.rangeAt g 0 (accs A 10) := fun i v hv => by
    have hl := accs_len A 10
    have hi := (List.getElem?_eq_some_iff.1 hv).1
    rw [Nat.zero_add]
    refine cell_of h.blk ?_
    unfold lcells
    rw [List.getElem?_append_left hi]; exact hv
  have hok := h.ok
  obtain ⟨cs, hcs⟩ : ∃ cs, cs = (accs A 10).toArray := ⟨_, rfl⟩
  have hix := fun (k : Nat) (hk : k < 10) (w : World) => run_acc A hk w
  rw [← hcs] at hix
  have HRG := Lib.hid hrg
  have HIX := Lib.hid hix
  have HOK := Lib.hid hok
  have HCS := Lib.hid hcs
  clear h hrg hix hok hcs
  go_enter Tryz.func37, Tryz.ntmps37
  go_wp2_with (first
    | (refine wpList_load_mid rfl 77 _ rfl g 0 rfl (accs A 10) _ HRG.out Tryz.underlying77 rfl (by rw [accs_len]; exact accInfo) ?_; rw [← HCS.out])
    | fail)
  have tok1 : True := trivial
  go_loopw [3, 12] (fun s i wr => ∃ k : Nat, k ≤ 10 ∧ i = .int .i64 k ∧ s = .int .i64 (sumTo A k) ∧ Below w.heap.size w wr) (fun _ i _ => 10 - (intOf i).toNat)
  case atStart => exact ⟨0, by omega, rfl, rfl, Below.refl _ w⟩
  case round =>
    obtain ⟨k, hk, rfl, rfl, hb⟩ := hrel
    have HB := Lib.hid hb
    clear hb
    by_cases hlt : k < 10
    · have hlt' : (k : Int) < 10 := by omega
      obtain ⟨p, hp⟩ : ∃ p, p = (A k).1 := ⟨_, rfl⟩
      obtain ⟨q, hq⟩ : ∃ q, q = (A k).2 := ⟨_, rfl⟩
      obtain ⟨s0, hs0⟩ : ∃ s0, s0 = sumTo A k := ⟨_, rfl⟩
      have hix := HIX.out k hlt
      rw [← hp, ← hq] at hix
      have HI := Lib.hid hix
      have hn1 : IntKind.i64.wrap (p + q) = p + q := IntWalk.i64_in _ (by have := HOK.out.one hlt; have := HOK.out.free k; have := HOK.out.held k; unfold both at *; omega)
      have hn2 : IntKind.i64.wrap (s0 + (p + q)) = s0 + (p + q) := IntWalk.i64_in _ (by have := HOK.out.one hlt; have := HOK.out.sum k; have := HOK.out.part (n := k) (by omega); unfold both at *; omega)
      have hs1 : sumTo A (k + 1) = s0 + (p + q) := by rw [sumTo, hs0, hp, hq]; rfl
      have HS1 := Lib.hid hs1
      rw [← hs0]
      clear hix hs1 hp hq hs0
      go_wp2_with (first
        | (refine wpl_index rfl _ _ _ rfl rfl rfl (HI.out _) ?_)
        | fail)
      go_roundw
      case rel => exact ⟨k + 1, by omega, by go_num, by rw [HS1.out], HB.out.trans ((Below.refl _ wr).alloc (Nat.le_refl _) _ |>.mono HB.out.size)⟩
      case measure => simp [intOf]; omega
    · have hge : ¬ (k : Int) < 10 := by omega
      obtain rfl : k = 10 := by omega
      go_wp2_with fail
      exact bodyPost_ret (v := .int .i64 (sumTo A 10)) (by simp [results, Tryz.results37, go_sem]) rfl ⟨rfl, HB.out⟩
end Go.Proofs.YtlnjcfgihklppaaGreat
end

section
namespace Go.Proofs.YtlnjcfgihklppaaGreat
open Go.RowKit Go.Maps Go.Shelf
attribute [local go_sem] Oper.semAt_some
set_option linter.unusedVariables false
set_option linter.unusedSimpArgs false

section
variable {P : Program} {α : Type}
/-- A range that is never left, whatever stands in the frame. -/
theorem range_outerV {n : Nat} {g : Operand} {ps : Array Tmp} {assign body : Code} {Q : Exit → Act → World → Prop} {a : Act} {w : World} {gf : Nat} {lb : Array Value} (hg : a.eval g = .func (.func gf) #[] lb) (eg : ∀ args w, (callFunc gf args).run P w = .ok (.enter gf args) w)
    {encs : α → Array Value} {xs : List α} {G : FP} {w0 : World} (hit : IterF P n gf lb encs xs G w0) (hg0 : Grow w0 w) (hG : ∀ k, G k → k < w0.heap.size ∧ w.heap[k]? = w0.heap[k]?) (hps : ∀ x, (encs x).size = ps.size)
    (Ψ : FP) (hΨ : ∀ k, Ψ k → k < w.heap.size) (I : List α → FP → World → Prop) (hI : Stab w.heap.size I) (h0 : I [] (fun _ => False) w) (up : α → Array Value → Array Value)
    (hassign : ∀ (l : Nat) (x : α) (W : World) (K : Act → World → Prop), K { tmps := up x a.tmps, defers := [] } W → assign.wpIn (Fence.wide.inRound l) n P (Exit.then K (fun _ _ _ => False)) { tmps := (ps.zip (encs x)).foldl (fun t (p, v) => t.setIfInBounds p v) a.tmps, defers := [] } W)
    (hbody : ∀ (l : Nat) (pre : List α) (x : α) (Φ : FP) (W : World), (pre ++ [x]) <+: xs → I pre Φ W → w.heap.size < l → (∀ k, Φ k → l + 1 ≤ k) → (∃ r, W.heap[l]? = some (.loop r)) → body.wpIn (Fence.wide.inRound l) n P (bodyI Ψ Φ I (fun _ _ _ _ => False) (pre ++ [x]) W) { tmps := up x a.tmps, defers := [] } W)
    (hdone : ∀ (D : Nat) (Φ : FP) (W : World), I xs Φ W → Only Ψ (fun _ => False) w W → w.heap.size ≤ D → ¬ Φ D → W.heap[D]? = some (.deferred (some [])) → Q .normal { a with defers := { target := .collected D, args := #[] } :: a.defers } W) :
    (Code.rangeFunc g ps assign body).wpIn Fence.wide (n + 2) P Q a w :=
  range_outerF hg eg hit hg0 hG hps Ψ hΨ I (fun _ _ _ _ => False) hI (fun c _ _ _ h => h.elim) h0 (fun x => { tmps := up x a.tmps, defers := [] }) hassign hbody hdone (fun D Φ c pre W _ h => h.elim)
end

set_option maxRecDepth 100000 in
theorem ledger_row {N g gl : Nat} {A : Acc} {M : Cls Int} {w : World} (h : LdAt N g gl A M w) {a : Int} (ha : (Lit.int .i64 a).wf = true) : Calls Tryz.prog 73 #[.pointer (some ⟨g, 0, none⟩), .int .i64 a] w fun e w' => ∃ f, e = .returned f ∧ Way Tryz.prog encs_I f (rowOf M a) w' ∧ Below w.heap.size w w' := by
  have hp := h.ptr
  obtain ⟨F, hF, -⟩ := h.gr
  have HF := Lib.hid (And.intro hF (And.intro h.len ha))
  clear h hF ha
  go_enter Tryz.func73, Tryz.ntmps73
  go_wp2_with (first | (go_at_call 96; refine (grid_Row_I HF.out.1 (by have := HF.out.2.1; omega) HF.out.2.2).mono ?_; rintro e w' ⟨f, rfl, hw, hb⟩; have HW := Lib.hid (And.intro hw hb); clear hw hb) | fail)
  go_ret
  exact ⟨_, rfl, HW.out⟩
theorem ledger_row_nil (a : Int) (w : World) : Calls Tryz.prog 73 #[.pointer none, .int .i64 a] w fun e w' => ∃ f, e = .returned f ∧ Way Tryz.prog encs_I f [] w' ∧ Below w.heap.size w w' := by
  go_enter Tryz.func73, Tryz.ntmps73
  go_wp2_with (first | (go_at_call 96; refine (grid_Row_nil_I a w).mono ?_; rintro e w' ⟨f, rfl, hw, hb⟩; have HW := Lib.hid (And.intro hw hb); clear hw hb) | fail)
  go_ret
  exact ⟨_, rfl, HW.out⟩

/-- What Locked's range holds. -/
def LckJ (N0 gb : Nat) (pre : List (Int × Int)) (Φ : FP) (W : World) : Prop := (∀ k, ¬ Φ k) ∧ Boxed W gb 3 (.int .i64 (maxTo pre)) ∧ N0 ≤ W.heap.size
theorem LckJ.stab {N0 gb : Nat} (h1 : gb < N0) : Stab N0 (LckJ N0 gb) := by
  rintro pre Φ W ⟨h0, h, hs⟩
  exact ⟨fun k hk => (h0 k hk).elim, hs, fun W' hg hk => ⟨h0, (hk gb (.inl h1)).trans h, Nat.le_trans hs hg.size⟩⟩
set_option maxHeartbeats 4000000 in
set_option maxRecDepth 100000 in
theorem locked_of (l : Value) (a : Int) (xs : List (Int × Int)) (w : World) (hrow : ∀ w', Below w.heap.size w w' → Calls Tryz.prog 73 #[l, .int .i64 a] w' fun e w'' => ∃ f, e = .returned f ∧ Way Tryz.prog encs_I f xs w'' ∧ Below w'.heap.size w' w'') :
    Calls Tryz.prog 30 #[l, .int .i64 a] w fun e w' => e = .returned (.int .i64 (maxTo xs)) ∧ Below w.heap.size w w' := by
  refine (callsIn_wide (n := 2)).1 ?_
  refine callsIn_of_wp_marks Tryz.func30 rfl trivial ?_ rfl
  simp only [Tryz.ntmps30, List.size_toArray, List.length_cons, List.length_nil, Nat.reduceAdd, Nat.reduceSub, Array.replicate_succ, Array.replicate_zero, List.push_toArray, List.append_toArray, List.nil_append, List.cons_append]
  have HROW := Lib.hid hrow
  clear hrow
  obtain ⟨w1, hw1⟩ : ∃ w1, w1 = w.alloc (.cells #[.int .i64 0] 3) := ⟨_, rfl⟩
  have hb1 : Below w.heap.size w w1 := by rw [hw1]; exact (Below.refl _ w).alloc (Nat.le_refl _) _
  have x0 : Boxed w1 w.heap.size 3 (.int .i64 0) := by rw [hw1]; exact Boxed.new w _ _
  have hs1 : w1.heap.size = w.heap.size + 1 := by rw [hw1]; simp
  have HW1 := Lib.hid hw1
  have H1 := Lib.hid (And.intro hb1 (And.intro x0 hs1))
  clear hw1 hb1 x0 hs1
  gi_wp2_with (first
    | (refine ⟨trivial, ?_⟩; gi_at_call 73; rw [← HW1.out]; refine (callsIn_wide.2 (HROW.out w1 H1.out.1)).mono ?_; rintro e w2 ⟨f, rfl, hway, hb⟩; obtain ⟨gf, lb, rfl, hit⟩ := hway; have H2 := Lib.hid (And.intro hit hb); clear hit hb)
    | fail)
  obtain ⟨gb, hgb⟩ : ∃ gb, gb = w.heap.size := ⟨_, rfl⟩
  obtain ⟨hb1, x0, hs1⟩ := H1.out
  rw [← hgb] at x0 hs1 ⊢
  obtain ⟨hit, hb2⟩ := H2.out
  have x2 : Boxed w2 gb 3 (.int .i64 (maxTo [])) := (hb2.block gb (by omega)).trans x0
  have hs2 := hb2.size
  have hgl : gb < w2.heap.size := by omega
  have HGB := Lib.hid hgb
  clear hgb
  refine range_outerV (n := 0) (gf := gf) (lb := lb) rfl hit.1 (hit.2 0) (Grow.refl w2) (fun k hk => ⟨hk, rfl⟩) (fun _ => rfl)
    (fun k => k = gb) (by rintro k rfl; exact hgl) (LckJ w2.heap.size gb) (LckJ.stab hgl) ⟨fun _ h => h, x2, Nat.le_refl _⟩
    (fun x T => ((T.setIfInBounds 11 (.int .i64 x.1)).setIfInBounds 12 (.int .i64 x.2)).setIfInBounds 7 (.int .i64 x.2)) ?assign ?body ?done
  case assign =>
    intro l x W K hK
    simp only [encs_I]
    gi_wp2
    exact hK
  case body =>
    rintro l pre x Φ W hpx ⟨hno, hbx, hsz⟩ hl hΦ -
    have c1 := hbx.cell
    have f1 := hbx.frozen
    have hset : Boxed (W.setCell ⟨gb, 0, none⟩ (.int .i64 (max (maxTo pre) x.2))) gb 3 (.int .i64 (max (maxTo pre) x.2)) := hbx.set _
    obtain ⟨m, hm⟩ : ∃ m, m = maxTo pre := ⟨_, rfl⟩
    obtain ⟨y, hy⟩ : ∃ y, y = x.2 := ⟨_, rfl⟩
    rw [← hm] at c1 hset
    rw [← hy] at hset ⊢
    have hmx : maxTo (pre ++ [x]) = max m y := by rw [maxTo_snoc, hm, hy]
    have HS := Lib.hid (And.intro hset (And.intro hno (And.intro hsz hmx)))
    clear hbx hset hno hsz hmx hm hy
    gi_wp2_with fail
    obtain ⟨hset, hno, hsz, hmx⟩ := HS.out
    exact ⟨Φ, fun k h => .inl h, ⟨grow_set, fun k hk h1 h2 => Below.heap_setCell _ _ _ k h1⟩, hno, by rw [hmx]; exact hset, by simp [World.setCell]; exact hsz⟩
  case done =>
    rintro D Φ W3 ⟨hno, hbx, hsz⟩ hon hD hnD hK
    have c1 := hbx.cell
    have HD := Lib.hid (And.intro hno (And.intro hon (And.intro hD hK)))
    clear hno hbx hon hD hK hnD
    gi_wp2_with fail
    obtain ⟨hno, hon, hD, hK⟩ := HD.out
    have hgb := HGB.out
    refine marks_leave [D] W3 (by simp) (fun d hd => ?_) (fun w' hg hk => ⟨.int .i64 (maxTo xs), by simp [results, Tryz.results30, go_sem], rfl, ?_⟩)
    · simp only [List.mem_cons, List.not_mem_nil, or_false] at hd
      subst hd; exact hK
    · have hg0 : Grow w w' := ((Grow.of_below hb1).trans (Grow.of_below hb2)).trans (hon.grow.trans hg)
      refine ⟨hg0.os, hg0.tape, hg0.output, hg0.size, fun j hj => ?_⟩
      rw [hk j (by simp; omega), hon.block j (by omega) (by omega) (fun h => h), hb2.block j (by omega)]
      exact hb1.block j hj
theorem ledger_Locked {N g gl : Nat} {A : Acc} {M : Cls Int} {w : World} (h : LdAt N g gl A M w) {a : Int} (ha : (Lit.int .i64 a).wf = true) : Calls Tryz.prog 30 #[.pointer (some ⟨g, 0, none⟩), .int .i64 a] w fun e w' => e = .returned (.int .i64 (lockedOf M a)) ∧ Below w.heap.size w w' :=
  locked_of _ a (rowOf M a) w (fun w' hb => ledger_row (h.below hb) ha)
theorem ledger_Locked_nil (a : Int) (w : World) : Calls Tryz.prog 30 #[.pointer none, .int .i64 a] w fun e w' => e = .returned (.int .i64 0) ∧ Below w.heap.size w w' :=
  locked_of _ a [] w (fun w' hb => ledger_row_nil a w')
end Go.Proofs.YtlnjcfgihklppaaGreat
end

section
namespace Go.Proofs.YtlnjcfgihklppaaGreat
open Go.RowKit Go.Maps Go.Shelf
set_option linter.unusedVariables false
set_option linter.unusedSimpArgs false

theorem LdAt.drewd {N g gl : Nat} {A : Acc} {M : Cls Int} {w : World} (h : LdAt N g gl A M w) : LdAt N g gl A M w.drew := h.below (Below.refl _ w).drew
def spent (A : Acc) (M : Cls Int) (a n : Int) (back : Bool) : Acc := if spendE A M a n back = 0 then spendA A a n else A
set_option maxRecDepth 100000 in
set_option maxHeartbeats 4000000 in
theorem ledger_spend {N g gl : Nat} {A : Acc} {M : Cls Int} {w : World} (h : LdAt N g gl A M w) (hN : N ≤ w.heap.size) {a n : Int} (ha : (Lit.int .i64 a).wf = true) (back : Bool) :
    Calls Tryz.prog 75 #[.pointer (some ⟨g, 0, none⟩), .int .i64 a, .int .i64 n, .bool back] w fun e w' => e = .returned (.int .i64 (spendE A M a n back)) ∧ LdAt N g gl (spent A M a n back) M w' ∧ Below N w w' := by
  by_cases hac : isAcc a
  · obtain ⟨k, rfl, hk⟩ := isAcc_nat hac
    have HK := Lib.hid hk
    by_cases hbal : isBal n
    · have hbal' := hbal
      unfold isBal at hbal'
      have hd : decide (0 ≤ n ∧ n ≤ 1073741824) = true := decide_eq_true hbal'
      have HD := Lib.hid hd
      have hfree := h.free hk
      have hfroz := h.frozen (k * 2)
      obtain ⟨f, hf⟩ : ∃ f, f = (A k).1 := ⟨_, rfl⟩
      rw [← hf] at hfree
      have hf0 : 0 ≤ f := by rw [hf]; exact h.ok.free k
      have hf1 : f ≤ 1073741824 := by have := h.ok.one hk; have := h.ok.held k; unfold both at *; omega
      have HB := Lib.hid hbal'
      have HH := Lib.hid (And.intro h (And.intro hN (And.intro ha hac)))
      by_cases hlo : f < n
      · have e : spendE A M k n back = 6 := by unfold spendE; rw [if_neg (by simp [hac, hbal]), if_pos (by rw [Int.toNat_natCast, ← hf]; exact hlo)]
        have e2 : spent A M k n back = A := by unfold spent; rw [e]; rfl
        rw [e, e2]
        clear hk hac hbal hbal' hd h hN ha hf e e2
        go_enter Tryz.func75, Tryz.ntmps75
        go_wp2_with (first
          | (go_at_call 74; refine (ledger_account HK.out w).mono ?_; rintro e w' ⟨rfl, rfl⟩)
          | (go_at_call 36; refine (bound_Balance _ _).mono ?_; rw [HD.out]; rintro e w' ⟨rfl, rfl⟩)
          | fail)
        exact bodyPost_ret (v := .int .i64 6) (by simp [results, Tryz.results75, go_sem]) rfl ⟨rfl, HH.out.1, Below.refl _ _⟩
      · have hn1 : IntKind.i64.wrap (f - n) = f - n := IntWalk.i64_in _ (by omega)
        have hpay : ∀ w', LdAt N g gl A M w' → LdAt N g gl (spendA A k n) M (w'.setCell ⟨g, k * 2, none⟩ (.int .i64 (f - n))) ∧ Below N w' (w'.setCell ⟨g, k * 2, none⟩ (.int .i64 (f - n))) := fun w' h' => by
          have := h'.setFree hk (f - n) (by have := spendA_ok h.ok hac hbal (by rw [Int.toNat_natCast, ← hf]; omega); rw [spendA, Int.toNat_natCast, ← hf] at this; exact this)
          rw [spendA, Int.toNat_natCast, ← hf]; exact this
        have HP := Lib.hid hpay
        have hno : ¬ f < n := hlo
        have hspend : ∀ c : Bool, (0 < n ∧ back = false ∧ f - n < lockedOf M k ↔ c = true) → spendE A M k n back = if c then 7 else 0 := fun c hc => by
          unfold spendE
          rw [if_neg (by simp [hac, hbal]), Int.toNat_natCast, ← hf, if_neg hlo]
          cases c
          · rw [if_neg (by rw [hc]; simp)]; rfl
          · rw [if_pos (hc.2 rfl)]; rfl
        by_cases hn0 : 0 < n ∧ back = false
        · obtain ⟨hn0, rfl⟩ := hn0
          obtain ⟨lk, hlk⟩ : ∃ lk, lk = lockedOf M k := ⟨_, rfl⟩
          have hlck : ∀ w', LdAt N g gl A M w' → Calls Tryz.prog 30 #[.pointer (some ⟨g, 0, none⟩), .int .i64 k] w' fun e w'' => e = .returned (.int .i64 lk) ∧ Below w'.heap.size w' w'' := fun w' h' => by rw [hlk]; exact ledger_Locked h' ha
          have hld : LdAt N g gl A M w.drew := h.drewd
          have hfd : w.drew.cell? ⟨g, k * 2, none⟩ = some (.int .i64 f) := hfree
          have hwd : ∀ w2, Below w.drew.heap.size w.drew w2 → w2.cell? ⟨g, k * 2, none⟩ = some (.int .i64 f) ∧ (LdAt N g gl A M w2 ∧ Below N w w2) := fun w2 hb => by
            have h2 : LdAt N g gl A M w2 := h.below ⟨hb.os, hb.tape, hb.output, hb.size, hb.block⟩
            refine ⟨by rw [hf]; exact h2.free hk, h2, ⟨hb.os, hb.tape, hb.output, hb.size, fun j hj => hb.block j (show j < w.heap.size by omega)⟩⟩
          have HFD := Lib.hid hfd
          have HW := Lib.hid hwd
          have HL := Lib.hid (hlck w.drew hld)
          clear hlck hld hfd hwd
          rw [← hlk] at hspend
          by_cases hc : f - n < lk
          · have e := hspend true (by simp [hn0, hc])
            have e2 : spent A M k n false = A := by unfold spent; rw [e]; rfl
            rw [e, e2]
            clear hk hac hbal hbal' hd h hN ha hf e e2 hlo hpay hspend hlk
            go_enter Tryz.func75, Tryz.ntmps75
            go_upto_region 6 with (first
              | (go_at_call 74; refine (ledger_account HK.out w).mono ?_; rintro e w' ⟨rfl, hw⟩; rw [hw]; clear hw w')
              | (go_at_call 36; refine (bound_Balance _ _).mono ?_; rw [HD.out]; rintro e w' ⟨rfl, hw⟩; rw [hw]; clear hw w')
              | fail)
            go_region_held3 (fun wc => wc.cell? ⟨g, k * 2, none⟩ = some (.int .i64 f)) (first | exact hfree | exact HFD.out | exact H2.out.1) (first
              | (go_at_call 30; with_reducible refine HL.out.mono ?_; rintro e w2 ⟨rfl, hb⟩; have H2 := Lib.hid (And.intro (HW.out w2 hb).1 (HW.out w2 hb).2); clear hb)
              | fail)
            all_goals
              go_wp2_with fail
              exact bodyPost_ret (v := .int .i64 7) (by simp [results, Tryz.results75, go_sem]) rfl ⟨rfl, H2.out.2.1, H2.out.2.2⟩
          · have e := hspend false (by simp [hc])
            have e2 : spent A M k n false = spendA A k n := by unfold spent; rw [e]; rfl
            rw [e, e2]
            clear hk hac hbal hbal' hd h hN ha hf e e2 hlo hpay hspend hlk
            go_enter Tryz.func75, Tryz.ntmps75
            go_upto_region 6 with (first
              | (go_at_call 74; refine (ledger_account HK.out w).mono ?_; rintro e w' ⟨rfl, hw⟩; rw [hw]; clear hw w')
              | (go_at_call 36; refine (bound_Balance _ _).mono ?_; rw [HD.out]; rintro e w' ⟨rfl, hw⟩; rw [hw]; clear hw w')
              | fail)
            go_region_held3 (fun wc => wc.cell? ⟨g, k * 2, none⟩ = some (.int .i64 f)) (first | exact hfree | exact HFD.out | exact H2.out.1) (first
              | (go_at_call 30; with_reducible refine HL.out.mono ?_; rintro e w2 ⟨rfl, hb⟩; have H2 := Lib.hid (And.intro (HW.out w2 hb).1 (HW.out w2 hb).2); clear hb)
              | fail)
            all_goals
              have hfree2 := H2.out.1
              have hfroz2 := H2.out.2.1.frozen (k * 2)
              go_wp2_with fail
              exact bodyPost_ret (v := .int .i64 0) (by simp [results, Tryz.results75, go_sem]) rfl ⟨rfl, (HP.out _ H2.out.2.1).1, H2.out.2.2.trans (HP.out _ H2.out.2.1).2⟩
        · have hex : ¬ 0 < n ∨ (0 < n ∧ back = true) := by
            rcases Bool.eq_false_or_eq_true back with h | h
            · by_cases h0 : 0 < n
              · exact .inr ⟨h0, h⟩
              · exact .inl h0
            · exact .inl (fun h0 => hn0 ⟨h0, h⟩)
          have e := hspend false (by constructor; exact fun h => absurd ⟨h.1, h.2.1⟩ hn0; simp)
          have e2 : spent A M k n back = spendA A k n := by unfold spent; rw [e]; rfl
          rw [e, e2]
          clear hn0
          rcases hex with hn0 | ⟨hn0, rfl⟩
          · obtain rfl : n = 0 := by omega
            have hpay2 := hpay
            simp only [Int.sub_zero] at hpay2 hn1
            have HP := Lib.hid hpay2
            clear hpay2 hn0
            clear hk hac hbal hbal' hd h hN ha hf e e2 hlo hpay hspend hno HB HD
            go_enter Tryz.func75, Tryz.ntmps75
            go_upto_region 6 with (first
              | (go_at_call 74; refine (ledger_account HK.out w).mono ?_; rintro e w' ⟨rfl, hw⟩; rw [hw]; clear hw w')
              | (go_at_call 36; refine (bound_Balance _ _).mono ?_; rw [show decide ((0:Int) ≤ 0 ∧ (0:Int) ≤ 1073741824) = true from rfl]; rintro e w' ⟨rfl, hw⟩; rw [hw]; clear hw w')
              | fail)
            go_quiet (fail)
            go_wp2_with fail
            exact bodyPost_ret (v := .int .i64 0) (by simp [results, Tryz.results75, go_sem]) rfl ⟨rfl, (HP.out (w.drewN nq) (HH.out.1.below ⟨rfl, rfl, rfl, Nat.le_refl _, fun _ _ => rfl⟩)).1, Below.trans (b := w.drewN nq) ⟨rfl, rfl, rfl, Nat.le_refl _, fun _ _ => rfl⟩ (HP.out (w.drewN nq) (HH.out.1.below ⟨rfl, rfl, rfl, Nat.le_refl _, fun _ _ => rfl⟩)).2⟩
          · clear hk hac hbal hbal' hd h hN ha hf e e2 hlo hpay hspend
            go_enter Tryz.func75, Tryz.ntmps75
            go_upto_region 6 with (first
              | (go_at_call 74; refine (ledger_account HK.out w).mono ?_; rintro e w' ⟨rfl, hw⟩; rw [hw]; clear hw w')
              | (go_at_call 36; refine (bound_Balance _ _).mono ?_; rw [HD.out]; rintro e w' ⟨rfl, hw⟩; rw [hw]; clear hw w')
              | fail)
            go_quiet (fail)
            go_wp2_with fail
            exact bodyPost_ret (v := .int .i64 0) (by simp [results, Tryz.results75, go_sem]) rfl ⟨rfl, (HP.out (w.drewN nq) (HH.out.1.below ⟨rfl, rfl, rfl, Nat.le_refl _, fun _ _ => rfl⟩)).1, Below.trans (b := w.drewN nq) ⟨rfl, rfl, rfl, Nat.le_refl _, fun _ _ => rfl⟩ (HP.out (w.drewN nq) (HH.out.1.below ⟨rfl, rfl, rfl, Nat.le_refl _, fun _ _ => rfl⟩)).2⟩
    · have e : spendE A M k n back = 1 := by unfold spendE; rw [if_pos (.inr hbal)]
      have e2 : spent A M k n back = A := by unfold spent; rw [e]; rfl
      have hd : decide (0 ≤ n ∧ n ≤ 1073741824) = false := by unfold isBal at hbal; exact decide_eq_false hbal
      have HD := Lib.hid hd
      have HH := Lib.hid h
      rw [e, e2]
      clear hk hac hbal hd h hN ha e e2
      go_enter Tryz.func75, Tryz.ntmps75
      go_wp2_with (first
        | (go_at_call 74; refine (ledger_account HK.out w).mono ?_; rintro e w' ⟨rfl, hw⟩; rw [hw]; clear hw w')
        | (go_at_call 36; refine (bound_Balance _ _).mono ?_; rw [HD.out]; rintro e w' ⟨rfl, hw⟩; rw [hw]; clear hw w')
        | fail)
      exact bodyPost_ret (v := .int .i64 1) (by simp [results, Tryz.results75, go_sem]) rfl ⟨rfl, HH.out, Below.refl _ _⟩
  · have e : spendE A M a n back = 1 := by unfold spendE; rw [if_pos (.inl hac)]
    have e2 : spent A M a n back = A := by unfold spent; rw [e]; rfl
    have HD := Lib.hid hac
    have HH := Lib.hid h
    rw [e, e2]
    clear hac h hN ha e e2
    go_enter Tryz.func75, Tryz.ntmps75
    go_wp2_with (first
      | (go_at_call 74; refine (ledger_account_no HD.out w).mono ?_; rintro e w' ⟨rfl, hw⟩; rw [hw]; clear hw w')
      | fail)
    exact bodyPost_ret (v := .int .i64 1) (by simp [results, Tryz.results75, go_sem]) rfl ⟨rfl, HH.out, Below.refl _ _⟩
theorem ledger_spend_nil (a n : Int) (back : Bool) (w : World) : Calls Tryz.prog 75 #[.pointer none, .int .i64 a, .int .i64 n, .bool back] w fun e w' => e = .returned (.int .i64 1) ∧ w' = w := by
  go_enter Tryz.func75, Tryz.ntmps75
  go_wp2_with (first
    | (go_at_call 74; refine (ledger_account_nil a w).mono ?_; rintro e w' ⟨rfl, hw⟩; rw [hw]; clear hw w')
    | fail)
  exact bodyPost_ret (v := .int .i64 1) (by simp [results, Tryz.results75, go_sem]) rfl ⟨rfl, rfl⟩
end Go.Proofs.YtlnjcfgihklppaaGreat
end

section
namespace Go.Proofs.YtlnjcfgihklppaaGreat
open Go.RowKit Go.Maps Go.Shelf
set_option linter.unusedVariables false
set_option linter.unusedSimpArgs false

section
variable {N g gl : Nat} {A : Acc} {M : Cls Int} {w w' : World}
theorem LdAt.setHeld (h : LdAt N g gl A M w) {a : Nat} (ha : a < 10) (v : Int) (hok : AccOk (upd A a ((A a).1, v))) : LdAt N g gl (upd A a ((A a).1, v)) M (w.setCell ⟨g, a * 2 + 1, none⟩ (.int .i64 v)) ∧ Below N w (w.setCell ⟨g, a * 2 + 1, none⟩ (.int .i64 v)) := h.put (lcells_held ha v) hok
end
/-- More for an account that has so much. -/
def giveA (A : Acc) (a : Nat) (n : Int) : Acc := upd A a ((A a).1 + n, (A a).2)
theorem giveA_ok {A : Acc} (h : AccOk A) {a : Nat} (ha : a < 10) {n : Int} (hn : 0 ≤ n) (hs : sumTo A 10 + n ≤ 1073741824) : AccOk (giveA A a n) := by
  have := h.free a
  exact h.upd ha (by simp only; omega) (h.held a) (by unfold both; simp only; omega)
theorem sum_spendA (A : Acc) {a : Int} (ha : isAcc a) (n : Int) : sumTo (spendA A a n) 10 = sumTo A 10 - n := by
  unfold isAcc at ha
  rw [spendA, sumTo_upd, if_pos (by omega)]; unfold both; simp only; omega
theorem sum_giveA (A : Acc) {a : Nat} (ha : a < 10) (n : Int) : sumTo (giveA A a n) 10 = sumTo A 10 + n := by
  rw [giveA, sumTo_upd, if_pos ha]; unfold both; simp only; omega
def takeA (A : Acc) (a : Nat) (m : Int) : Acc := upd A a ((A a).1, (A a).2 - m)
theorem takeA_ok {A : Acc} (h : AccOk A) {a : Nat} (ha : a < 10) {m : Int} (h0 : 0 ≤ m) (h1 : m ≤ (A a).2) : AccOk (takeA A a m) ∧ sumTo (takeA A a m) 10 = sumTo A 10 - m := by
  have e : sumTo (takeA A a m) 10 = sumTo A 10 - m := by rw [takeA, sumTo_upd, if_pos ha]; unfold both; simp only; omega
  exact ⟨⟨fun k => by unfold takeA; by_cases c : k = a; subst c; rw [upd_same]; exact h.free k; rw [upd_other A _ c]; exact h.free k, fun k => by unfold takeA; by_cases c : k = a; subst c; rw [upd_same]; simp only; omega; rw [upd_other A _ c]; exact h.held k, by have := h.all; omega⟩, e⟩
def heldM (A : Acc) (a n : Int) : Int := if isAcc a then min (max n 0) (A a.toNat).2 else 0
def unheld (A : Acc) (a n b : Int) : Acc := if isAcc a then giveA (takeA A a.toNat (heldM A a n)) b.toNat (heldM A a n) else A

end Go.Proofs.YtlnjcfgihklppaaGreat
end

section
namespace Go.Proofs.YtlnjcfgihklppaaGreat
open Go.RowKit Go.Maps Go.Shelf
set_option linter.unusedVariables false
set_option linter.unusedSimpArgs false

section
variable {N g gl : Nat} {A : Acc} {M : Cls Int} {w : World}
theorem unheld_noacc {a n b : Int} (h : ¬ isAcc a) : unheld A a n b = A := by rw [unheld, if_neg h]
def reserveA (A : Acc) (M : Cls Int) (a n : Int) : Acc := if spendE A M a n false = 0 then upd (spendA A a n) a.toNat ((spendA A a n a.toNat).1, (spendA A a n a.toNat).2 + n) else A
def transE (A : Acc) (M : Cls Int) (a b n : Int) : Int := if isAcc b then spendE A M a n (decide (a = b)) else 1
def transA (A : Acc) (M : Cls Int) (a b n : Int) : Acc := if transE A M a b n = 0 then giveA (spendA A a n) b.toNat n else A
set_option maxRecDepth 100000 in
set_option maxHeartbeats 1000000 in
theorem ledger_Transfer (h : LdAt N g gl A M w) (hN : N ≤ w.heap.size) {a : Int} (ha : (Lit.int .i64 a).wf = true) (b n : Int) : Calls Tryz.prog 34 #[.pointer (some ⟨g, 0, none⟩), .int .i64 a, .int .i64 b, .int .i64 n] w fun e w' => e = .returned (.int .i64 (transE A M a b n)) ∧ LdAt N g gl (transA A M a b n) M w' ∧ Below N w w' := by
  have hok := h.ok
  have HH := Lib.hid (And.intro h (And.intro hN ha))
  clear h hN ha
  by_cases hb : isAcc b
  · have hT : transE A M a b n = spendE A M a n (decide (a = b)) := by rw [transE, if_pos hb]
    obtain ⟨q, hq⟩ : ∃ q, q = decide (a = b) := ⟨_, rfl⟩
    rw [← hq] at hT
    obtain ⟨E, hE⟩ : ∃ E, E = spendE A M a n q := ⟨_, rfl⟩
    have hQ : (a == b) = q := by rw [hq]; exact Bool.eq_iff_iff.2 (by simp)
    obtain ⟨j, rfl, hj⟩ := isAcc_nat hb
    by_cases h0 : E = 0
    · obtain ⟨hac, hbal, hfr⟩ := spendE_ok (hE.symm.trans h0)
      have hA : transA A M a j n = giveA (spendA A a n) j n := by rw [transA, hT, ← hE, if_pos h0, Int.toNat_natCast]
      have hS : spent A M a n q = spendA A a n := by rw [spent, ← hE, if_pos h0]
      rw [hA, hT, ← hE, h0]
      have ok1 := spendA_ok hok hac hbal hfr
      have sm1 := sum_spendA A hac n
      obtain ⟨B, hB⟩ : ∃ B, B = spendA A a n := ⟨_, rfl⟩
      rw [← hB] at hS ok1 sm1 ⊢
      unfold isBal at hbal
      have ok2 : AccOk (giveA B j n) := giveA_ok ok1 hj hbal.1 (by have := hok.all; omega)
      obtain ⟨v, hv⟩ : ∃ v, v = (B j).1 := ⟨_, rfl⟩
      have hv0 : 0 ≤ v ∧ v ≤ 1073741824 := by have := ok1.one hj; have := ok1.held j; have := ok1.free j; unfold both at *; omega
      have hn1 : IntKind.i64.wrap (v + n) = v + n := IntWalk.i64_in _ (by omega)
      have hE0 : spendE A M a n q = 0 := by rw [← hE, h0]
      have hpay : ∀ w1, LdAt N g gl B M w1 → w1.cell? ⟨g, j * 2, none⟩ = some (.int .i64 v) ∧ LdAt N g gl (giveA B j n) M (w1.setCell ⟨g, j * 2, none⟩ (.int .i64 (v + n))) ∧ Below N w1 (w1.setCell ⟨g, j * 2, none⟩ (.int .i64 (v + n))) := fun w1 h1 => ⟨by rw [hv]; exact h1.free hj, by rw [hv]; exact h1.setFree hj _ ok2⟩
      have HP := Lib.hid hpay
      have HK := Lib.hid hj
      have HE := Lib.hid (And.intro hE0 hS)
      clear hok hac hbal hfr hA hS ok1 sm1 hj hB ok2 hv hE0 hpay h0 hE hq hb hT
      go_enter Tryz.func34, Tryz.ntmps34
      go_wp2_with (first
        | (go_at_call 75; refine (ledger_spend HH.out.1 HH.out.2.1 HH.out.2.2 q).mono ?_; rw [HE.out.1, HE.out.2]; rintro e w1 ⟨rfl, h1, h2⟩; have hc1 := (HP.out w1 h1).1; have hf1 := h1.frozen (j * 2); have H1 := Lib.hid (And.intro h1 h2); clear h1 h2)
        | (go_at_call 74; refine (ledger_account HK.out _).mono ?_; rintro e w' ⟨rfl, hw⟩; rw [hw]; clear hw w')
        | fail)
      go_ret
      exact ⟨rfl, (HP.out _ H1.out.1).2.1, H1.out.2.trans (HP.out _ H1.out.1).2.2⟩
    · have hA : transA A M a j n = A := by rw [transA, hT, ← hE, if_neg h0]
      have hS : spent A M a n q = A := by rw [spent, ← hE, if_neg h0]
      rw [hA, hT, ← hE]
      have HK := Lib.hid hj
      have HE := Lib.hid (And.intro hE hS)
      clear hA hS hE hok hb hj hT hq
      go_enter Tryz.func34, Tryz.ntmps34
      go_wp2_with (first
        | (go_at_call 75; refine (ledger_spend HH.out.1 HH.out.2.1 HH.out.2.2 q).mono ?_; rw [← HE.out.1, HE.out.2]; rintro e w1 ⟨rfl, h1, h2⟩; have H1 := Lib.hid (And.intro h1 h2); clear h1 h2)
        | (go_at_call 74; refine (ledger_account HK.out _).mono ?_; rintro e w' ⟨rfl, hw⟩; rw [hw]; clear hw w')
        | fail)
      go_ret
      exact ⟨rfl, H1.out⟩
  · have hT : transE A M a b n = 1 := by rw [transE, if_neg hb]
    have hA : transA A M a b n = A := by rw [transA, hT]; rfl
    rw [hT, hA]
    have HB := Lib.hid hb
    clear hT hA hb hok
    go_enter Tryz.func34, Tryz.ntmps34
    go_wp2_with (first
      | (go_at_call 74; refine (ledger_account_no HB.out _).mono ?_; rintro e w' ⟨rfl, hw⟩; rw [hw]; clear hw w')
      | fail)
    exact bodyPost_ret (v := .int .i64 1) (by simp [results, Tryz.results34, go_sem]) rfl ⟨rfl, HH.out.1, Below.refl _ _⟩
end
end Go.Proofs.YtlnjcfgihklppaaGreat
end

section
namespace Go.Proofs.YtlnjcfgihklppaaGreat
open Go.RowKit Go.Maps Go.Shelf
set_option linter.unusedVariables false
set_option linter.unusedSimpArgs false

def mintE (A : Acc) (a n : Int) : Int := if ¬ isAcc a ∨ ¬ isBal n then 1 else if 1073741824 < sumTo A 10 + n then 10 else 0
def mintA (A : Acc) (a n : Int) : Acc := if mintE A a n = 0 then giveA A a.toNat n else A
def lockM (M : Cls Int) (a i n : Int) : Cls Int := if ¬ isAcc a then M else if n = 0 ∨ ¬ isBal n then cdel M a i else cput M a i n
theorem lockM_len {M : Cls Int} (h : SrtC M) (a i n : Int) : (lockM M a i n).length ≤ M.length + 1 := by
  unfold lockM
  split
  · omega
  · split
    · have := h.length_del a i; omega
    · rw [h.length_put]; split <;> omega
section
variable {N g gl : Nat} {A : Acc} {M : Cls Int} {w : World}
theorem LdAt.relock {M' : Cls Int} {w' : World} (h : LdAt N g gl A M w) (hN : N ≤ w.heap.size) (hl : M'.length ≤ 10000) {F : FP} (hF : ∀ k, F k → N ≤ k ∧ k ≠ g) (ht : GrTo codI 130 gl M' F w w') : LdAt N g gl A M' w' ∧ Below N w w' := by
  obtain ⟨F', h1, h2, h3⟩ := ht
  refine ⟨⟨(h3.block g h.lt (fun hf => (hF g hf).2 rfl) (fun h => h)).trans h.blk, ⟨F', h1, fun k hk => (h2 k hk).elim (hF k) (fun hk => by have := h.lt; omega)⟩, h.lo, h.ok, hl⟩, h3.below hN (fun k hk => (hF k hk).1) (fun k h => h.elim)⟩
theorem LdAt.srt (h : LdAt N g gl A M w) : SrtC M := by obtain ⟨F, h1, _⟩ := h.gr; exact h1.1
set_option maxRecDepth 100000 in
set_option maxHeartbeats 1000000 in
theorem ledger_Lock (h : LdAt N g gl A M w) (hN : N ≤ w.heap.size) (hlen : M.length < 10000) {a i : Int} (ha : (Lit.int .i64 a).wf = true) (hi : (Lit.int .i64 i).wf = true) (n : Int) : Calls Tryz.prog 67 #[.pointer (some ⟨g, 0, none⟩), .int .i64 a, .int .i64 i, .int .i64 n] w fun e w' => e = .returned (.tuple #[]) ∧ LdAt N g gl A (lockM M a i n) w' ∧ Below N w w' := by
  by_cases hac : isAcc a
  · have hM : (lockM M a i n).length ≤ 10000 := by have := lockM_len h.srt a i n; omega
    obtain ⟨F, hF, hF2⟩ := h.gr
    have hp := h.ptr
    have hdel : n = 0 ∨ ¬ isBal n → Calls Tryz.prog 90 #[.pointer (some ⟨gl, 0, none⟩), .int .i64 a, .int .i64 i] w fun e w' => e = .returned (.bool (cget M a i).isSome) ∧ LdAt N g gl A (lockM M a i n) w' ∧ Below N w w' := fun hc => by
      have e : lockM M a i n = cdel M a i := by unfold lockM; rw [if_neg (by simp [hac]), if_pos hc]
      rw [e] at hM ⊢
      refine (grid_Del_I hF (by have := h.len; omega) ha hi).mono ?_
      rintro e w' ⟨rfl, h3⟩
      exact ⟨rfl, h.relock hN hM hF2 h3⟩
    have hset : ¬ (n = 0 ∨ ¬ isBal n) → Calls Tryz.prog 91 #[.pointer (some ⟨gl, 0, none⟩), .int .i64 a, .int .i64 i, .int .i64 n] w fun e w' => e = .returned (.tuple #[]) ∧ LdAt N g gl A (lockM M a i n) w' ∧ Below N w w' := fun hc => by
      have e : lockM M a i n = cput M a i n := by unfold lockM; rw [if_neg (by simp [hac]), if_neg hc]
      rw [e] at hM ⊢
      refine (grid_Set_I hF (by have := h.len; omega) ha hi n).mono ?_
      rintro e w' ⟨rfl, h3⟩
      exact ⟨rfl, h.relock hN hM hF2 h3⟩
    obtain ⟨k, rfl, hk⟩ := isAcc_nat hac
    have HK := Lib.hid hk
    have hex : n = 0 ∨ (¬ n = 0 ∧ ¬ isBal n) ∨ (¬ n = 0 ∧ isBal n) := by by_cases h1 : n = 0; exact .inl h1; by_cases h2 : isBal n; exact .inr (.inr ⟨h1, h2⟩); exact .inr (.inl ⟨h1, h2⟩)
    rcases hex with hn | ⟨hn, hbal⟩ | ⟨hn, hbal⟩
    · have HD := Lib.hid (hdel (.inl hn))
      clear h hN hlen ha hi hac hM hF hF2 hdel hset hk
      go_enter Tryz.func67, Tryz.ntmps67
      go_wp2_with (first
        | (go_at_call 74; refine (ledger_account HK.out _).mono ?_; rintro e w' ⟨rfl, hw⟩; rw [hw]; clear hw w')
        | (go_at_call 90; refine HD.out.mono ?_; rintro e w1 ⟨rfl, h1⟩; have H1 := Lib.hid h1; clear h1)
        | fail)
      exact bodyPost_end (results_none rfl _ _ _) rfl ⟨rfl, H1.out⟩
    · have HD := Lib.hid (hdel (.inr hbal))
      have hd : decide (0 ≤ n ∧ n ≤ 1073741824) = false := by unfold isBal at hbal; exact decide_eq_false hbal
      have HB := Lib.hid hd
      clear h hN hlen ha hi hac hM hF hF2 hdel hset hk hd hbal
      go_enter Tryz.func67, Tryz.ntmps67
      go_wp2_with (first
        | (go_at_call 74; refine (ledger_account HK.out _).mono ?_; rintro e w' ⟨rfl, hw⟩; rw [hw]; clear hw w')
        | (go_at_call 36; refine (bound_Balance n _).mono ?_; rw [HB.out]; rintro e w' ⟨rfl, hw⟩; rw [hw]; clear hw w')
        | (go_at_call 90; refine HD.out.mono ?_; rintro e w1 ⟨rfl, h1⟩; have H1 := Lib.hid h1; clear h1)
        | fail)
      exact bodyPost_end (results_none rfl _ _ _) rfl ⟨rfl, H1.out⟩
    · have HD := Lib.hid (hset (by simp [hn, hbal]))
      have hd : decide (0 ≤ n ∧ n ≤ 1073741824) = true := by unfold isBal at hbal; exact decide_eq_true hbal
      have HB := Lib.hid hd
      clear h hN hlen ha hi hac hM hF hF2 hdel hset hk hd hbal
      go_enter Tryz.func67, Tryz.ntmps67
      go_wp2_with (first
        | (go_at_call 74; refine (ledger_account HK.out _).mono ?_; rintro e w' ⟨rfl, hw⟩; rw [hw]; clear hw w')
        | (go_at_call 36; refine (bound_Balance n _).mono ?_; rw [HB.out]; rintro e w' ⟨rfl, hw⟩; rw [hw]; clear hw w')
        | (go_at_call 91; refine HD.out.mono ?_; rintro e w1 ⟨rfl, h1⟩; have H1 := Lib.hid h1; clear h1)
        | fail)
      exact bodyPost_end (results_none rfl _ _ _) rfl ⟨rfl, H1.out⟩
  · have e : lockM M a i n = M := by unfold lockM; rw [if_pos hac]
    rw [e]
    have HH := Lib.hid (And.intro h hac)
    clear h hN hlen ha hi hac e
    go_enter Tryz.func67, Tryz.ntmps67
    go_wp2_with (first
      | (go_at_call 74; refine (ledger_account_no HH.out.2 _).mono ?_; rintro e w' ⟨rfl, hw⟩; rw [hw]; clear hw w')
      | fail)
    exact bodyPost_end (results_none rfl _ _ _) rfl ⟨rfl, HH.out.1, Below.refl _ _⟩
end
end Go.Proofs.YtlnjcfgihklppaaGreat
end

section
namespace Go.Proofs.YtlnjcfgihklppaaGreat
open Go.RowKit Go.Maps Go.Shelf
set_option linter.unusedVariables false
set_option linter.unusedSimpArgs false

/-- Every block but g is as it was. -/
def Off (g : Nat) (w w' : World) : Prop := ∀ k, k < w.heap.size → k ≠ g → w'.heap[k]? = w.heap[k]?
theorem Off.refl (g : Nat) (w : World) : Off g w w := fun _ _ _ => rfl
theorem Off.trans {g : Nat} {a b c : World} (h : Off g a b) (hs : a.heap.size ≤ b.heap.size) (k : Off g b c) : Off g a c := fun j hj hn => (k j (by omega) hn).trans (h j hj hn)
theorem Off.set {g i : Nat} {w : World} {v : Value} : Off g w (w.setCell ⟨g, i, none⟩ v) := fun j _ hn => Below.heap_setCell _ _ _ j hn
set_option maxRecDepth 100000 in
set_option maxHeartbeats 4000000 in
theorem ledger_spendF {N g gl : Nat} {A : Acc} {M : Cls Int} {w : World} (h : LdAt N g gl A M w) (hN : N ≤ w.heap.size) {a n : Int} (ha : (Lit.int .i64 a).wf = true) (back : Bool) :
    Calls Tryz.prog 75 #[.pointer (some ⟨g, 0, none⟩), .int .i64 a, .int .i64 n, .bool back] w fun e w' => e = .returned (.int .i64 (spendE A M a n back)) ∧ LdAt N g gl (spent A M a n back) M w' ∧ Below N w w' ∧ Off g w w' := by
  by_cases hac : isAcc a
  · obtain ⟨k, rfl, hk⟩ := isAcc_nat hac
    have HK := Lib.hid hk
    by_cases hbal : isBal n
    · have hbal' := hbal
      unfold isBal at hbal'
      have hd : decide (0 ≤ n ∧ n ≤ 1073741824) = true := decide_eq_true hbal'
      have HD := Lib.hid hd
      have hfree := h.free hk
      have hfroz := h.frozen (k * 2)
      obtain ⟨f, hf⟩ : ∃ f, f = (A k).1 := ⟨_, rfl⟩
      rw [← hf] at hfree
      have hf0 : 0 ≤ f := by rw [hf]; exact h.ok.free k
      have hf1 : f ≤ 1073741824 := by have := h.ok.one hk; have := h.ok.held k; unfold both at *; omega
      have HB := Lib.hid hbal'
      have HH := Lib.hid (And.intro h (And.intro hN (And.intro ha hac)))
      by_cases hlo : f < n
      · have e : spendE A M k n back = 6 := by unfold spendE; rw [if_neg (by simp [hac, hbal]), if_pos (by rw [Int.toNat_natCast, ← hf]; exact hlo)]
        have e2 : spent A M k n back = A := by unfold spent; rw [e]; rfl
        rw [e, e2]
        clear hk hac hbal hbal' hd h hN ha hf e e2
        go_enter Tryz.func75, Tryz.ntmps75
        go_wp2_with (first
          | (go_at_call 74; refine (ledger_account HK.out w).mono ?_; rintro e w' ⟨rfl, rfl⟩)
          | (go_at_call 36; refine (bound_Balance _ _).mono ?_; rw [HD.out]; rintro e w' ⟨rfl, rfl⟩)
          | fail)
        exact bodyPost_ret (v := .int .i64 6) (by simp [results, Tryz.results75, go_sem]) rfl ⟨rfl, HH.out.1, Below.refl _ _, Off.refl _ _⟩
      · have hn1 : IntKind.i64.wrap (f - n) = f - n := IntWalk.i64_in _ (by omega)
        have hpay : ∀ w', LdAt N g gl A M w' → LdAt N g gl (spendA A k n) M (w'.setCell ⟨g, k * 2, none⟩ (.int .i64 (f - n))) ∧ Below N w' (w'.setCell ⟨g, k * 2, none⟩ (.int .i64 (f - n))) ∧ Off g w' (w'.setCell ⟨g, k * 2, none⟩ (.int .i64 (f - n))) := fun w' h' => by
          have := h'.setFree hk (f - n) (by have := spendA_ok h.ok hac hbal (by rw [Int.toNat_natCast, ← hf]; omega); rw [spendA, Int.toNat_natCast, ← hf] at this; exact this)
          rw [spendA, Int.toNat_natCast, ← hf]; exact ⟨this.1, this.2, Off.set⟩
        have HP := Lib.hid hpay
        have hno : ¬ f < n := hlo
        have hspend : ∀ c : Bool, (0 < n ∧ back = false ∧ f - n < lockedOf M k ↔ c = true) → spendE A M k n back = if c then 7 else 0 := fun c hc => by
          unfold spendE
          rw [if_neg (by simp [hac, hbal]), Int.toNat_natCast, ← hf, if_neg hlo]
          cases c
          · rw [if_neg (by rw [hc]; simp)]; rfl
          · rw [if_pos (hc.2 rfl)]; rfl
        by_cases hn0 : 0 < n ∧ back = false
        · obtain ⟨hn0, rfl⟩ := hn0
          obtain ⟨lk, hlk⟩ : ∃ lk, lk = lockedOf M k := ⟨_, rfl⟩
          have hlck : ∀ w', LdAt N g gl A M w' → Calls Tryz.prog 30 #[.pointer (some ⟨g, 0, none⟩), .int .i64 k] w' fun e w'' => e = .returned (.int .i64 lk) ∧ Below w'.heap.size w' w'' := fun w' h' => by rw [hlk]; exact ledger_Locked h' ha
          have hld : LdAt N g gl A M w.drew := h.drewd
          have hfd : w.drew.cell? ⟨g, k * 2, none⟩ = some (.int .i64 f) := hfree
          have hwd : ∀ w2, Below w.drew.heap.size w.drew w2 → w2.cell? ⟨g, k * 2, none⟩ = some (.int .i64 f) ∧ (LdAt N g gl A M w2 ∧ Below N w w2 ∧ Off g w w2) := fun w2 hb => by
            have h2 : LdAt N g gl A M w2 := h.below ⟨hb.os, hb.tape, hb.output, hb.size, hb.block⟩
            refine ⟨by rw [hf]; exact h2.free hk, h2, ⟨hb.os, hb.tape, hb.output, hb.size, fun j hj => hb.block j (show j < w.heap.size by omega)⟩, fun j hj _ => hb.block j hj⟩
          have HFD := Lib.hid hfd
          have HW := Lib.hid hwd
          have HL := Lib.hid (hlck w.drew hld)
          clear hlck hld hfd hwd
          rw [← hlk] at hspend
          by_cases hc : f - n < lk
          · have e := hspend true (by simp [hn0, hc])
            have e2 : spent A M k n false = A := by unfold spent; rw [e]; rfl
            rw [e, e2]
            clear hk hac hbal hbal' hd h hN ha hf e e2 hlo hpay hspend hlk
            go_enter Tryz.func75, Tryz.ntmps75
            go_upto_region 6 with (first
              | (go_at_call 74; refine (ledger_account HK.out w).mono ?_; rintro e w' ⟨rfl, hw⟩; rw [hw]; clear hw w')
              | (go_at_call 36; refine (bound_Balance _ _).mono ?_; rw [HD.out]; rintro e w' ⟨rfl, hw⟩; rw [hw]; clear hw w')
              | fail)
            go_region_held3 (fun wc => wc.cell? ⟨g, k * 2, none⟩ = some (.int .i64 f)) (first | exact hfree | exact HFD.out | exact H2.out.1) (first
              | (go_at_call 30; with_reducible refine HL.out.mono ?_; rintro e w2 ⟨rfl, hb⟩; have H2 := Lib.hid (And.intro (HW.out w2 hb).1 (HW.out w2 hb).2); clear hb)
              | fail)
            all_goals
              go_wp2_with fail
              exact bodyPost_ret (v := .int .i64 7) (by simp [results, Tryz.results75, go_sem]) rfl ⟨rfl, H2.out.2.1, H2.out.2.2⟩
          · have e := hspend false (by simp [hc])
            have e2 : spent A M k n false = spendA A k n := by unfold spent; rw [e]; rfl
            rw [e, e2]
            clear hk hac hbal hbal' hd h hN ha hf e e2 hlo hpay hspend hlk
            go_enter Tryz.func75, Tryz.ntmps75
            go_upto_region 6 with (first
              | (go_at_call 74; refine (ledger_account HK.out w).mono ?_; rintro e w' ⟨rfl, hw⟩; rw [hw]; clear hw w')
              | (go_at_call 36; refine (bound_Balance _ _).mono ?_; rw [HD.out]; rintro e w' ⟨rfl, hw⟩; rw [hw]; clear hw w')
              | fail)
            go_region_held3 (fun wc => wc.cell? ⟨g, k * 2, none⟩ = some (.int .i64 f)) (first | exact hfree | exact HFD.out | exact H2.out.1) (first
              | (go_at_call 30; with_reducible refine HL.out.mono ?_; rintro e w2 ⟨rfl, hb⟩; have H2 := Lib.hid (And.intro (HW.out w2 hb).1 (HW.out w2 hb).2); clear hb)
              | fail)
            all_goals
              have hfree2 := H2.out.1
              have hfroz2 := H2.out.2.1.frozen (k * 2)
              go_wp2_with fail
              exact bodyPost_ret (v := .int .i64 0) (by simp [results, Tryz.results75, go_sem]) rfl ⟨rfl, (HP.out _ H2.out.2.1).1, H2.out.2.2.1.trans (HP.out _ H2.out.2.1).2.1, H2.out.2.2.2.trans H2.out.2.2.1.size (HP.out _ H2.out.2.1).2.2⟩
        · have hex : ¬ 0 < n ∨ (0 < n ∧ back = true) := by
            rcases Bool.eq_false_or_eq_true back with h | h
            · by_cases h0 : 0 < n
              · exact .inr ⟨h0, h⟩
              · exact .inl h0
            · exact .inl (fun h0 => hn0 ⟨h0, h⟩)
          have e := hspend false (by constructor; exact fun h => absurd ⟨h.1, h.2.1⟩ hn0; simp)
          have e2 : spent A M k n back = spendA A k n := by unfold spent; rw [e]; rfl
          rw [e, e2]
          clear hn0
          rcases hex with hn0 | ⟨hn0, rfl⟩
          · obtain rfl : n = 0 := by omega
            have hpay2 := hpay
            simp only [Int.sub_zero] at hpay2 hn1
            have HP := Lib.hid hpay2
            clear hpay2 hn0
            clear hk hac hbal hbal' hd h hN ha hf e e2 hlo hpay hspend hno HB HD
            go_enter Tryz.func75, Tryz.ntmps75
            go_upto_region 6 with (first
              | (go_at_call 74; refine (ledger_account HK.out w).mono ?_; rintro e w' ⟨rfl, hw⟩; rw [hw]; clear hw w')
              | (go_at_call 36; refine (bound_Balance _ _).mono ?_; rw [show decide ((0:Int) ≤ 0 ∧ (0:Int) ≤ 1073741824) = true from rfl]; rintro e w' ⟨rfl, hw⟩; rw [hw]; clear hw w')
              | fail)
            go_quiet (fail)
            go_wp2_with fail
            exact bodyPost_ret (v := .int .i64 0) (by simp [results, Tryz.results75, go_sem]) rfl ⟨rfl, (HP.out (w.drewN nq) (HH.out.1.below ⟨rfl, rfl, rfl, Nat.le_refl _, fun _ _ => rfl⟩)).1, Below.trans (b := w.drewN nq) ⟨rfl, rfl, rfl, Nat.le_refl _, fun _ _ => rfl⟩ (HP.out (w.drewN nq) (HH.out.1.below ⟨rfl, rfl, rfl, Nat.le_refl _, fun _ _ => rfl⟩)).2.1, (HP.out (w.drewN nq) (HH.out.1.below ⟨rfl, rfl, rfl, Nat.le_refl _, fun _ _ => rfl⟩)).2.2⟩
          · clear hk hac hbal hbal' hd h hN ha hf e e2 hlo hpay hspend
            go_enter Tryz.func75, Tryz.ntmps75
            go_upto_region 6 with (first
              | (go_at_call 74; refine (ledger_account HK.out w).mono ?_; rintro e w' ⟨rfl, hw⟩; rw [hw]; clear hw w')
              | (go_at_call 36; refine (bound_Balance _ _).mono ?_; rw [HD.out]; rintro e w' ⟨rfl, hw⟩; rw [hw]; clear hw w')
              | fail)
            go_quiet (fail)
            go_wp2_with fail
            exact bodyPost_ret (v := .int .i64 0) (by simp [results, Tryz.results75, go_sem]) rfl ⟨rfl, (HP.out (w.drewN nq) (HH.out.1.below ⟨rfl, rfl, rfl, Nat.le_refl _, fun _ _ => rfl⟩)).1, Below.trans (b := w.drewN nq) ⟨rfl, rfl, rfl, Nat.le_refl _, fun _ _ => rfl⟩ (HP.out (w.drewN nq) (HH.out.1.below ⟨rfl, rfl, rfl, Nat.le_refl _, fun _ _ => rfl⟩)).2.1, (HP.out (w.drewN nq) (HH.out.1.below ⟨rfl, rfl, rfl, Nat.le_refl _, fun _ _ => rfl⟩)).2.2⟩
    · have e : spendE A M k n back = 1 := by unfold spendE; rw [if_pos (.inr hbal)]
      have e2 : spent A M k n back = A := by unfold spent; rw [e]; rfl
      have hd : decide (0 ≤ n ∧ n ≤ 1073741824) = false := by unfold isBal at hbal; exact decide_eq_false hbal
      have HD := Lib.hid hd
      have HH := Lib.hid h
      rw [e, e2]
      clear hk hac hbal hd h hN ha e e2
      go_enter Tryz.func75, Tryz.ntmps75
      go_wp2_with (first
        | (go_at_call 74; refine (ledger_account HK.out w).mono ?_; rintro e w' ⟨rfl, hw⟩; rw [hw]; clear hw w')
        | (go_at_call 36; refine (bound_Balance _ _).mono ?_; rw [HD.out]; rintro e w' ⟨rfl, hw⟩; rw [hw]; clear hw w')
        | fail)
      exact bodyPost_ret (v := .int .i64 1) (by simp [results, Tryz.results75, go_sem]) rfl ⟨rfl, HH.out, Below.refl _ _, Off.refl _ _⟩
  · have e : spendE A M a n back = 1 := by unfold spendE; rw [if_pos (.inl hac)]
    have e2 : spent A M a n back = A := by unfold spent; rw [e]; rfl
    have HD := Lib.hid hac
    have HH := Lib.hid h
    rw [e, e2]
    clear hac h hN ha e e2
    go_enter Tryz.func75, Tryz.ntmps75
    go_wp2_with (first
      | (go_at_call 74; refine (ledger_account_no HD.out w).mono ?_; rintro e w' ⟨rfl, hw⟩; rw [hw]; clear hw w')
      | fail)
    exact bodyPost_ret (v := .int .i64 1) (by simp [results, Tryz.results75, go_sem]) rfl ⟨rfl, HH.out, Below.refl _ _, Off.refl _ _⟩
section
variable {N g gl : Nat} {A : Acc} {M : Cls Int} {w : World}
end
end Go.Proofs.YtlnjcfgihklppaaGreat
end

section
namespace Go.Proofs.YtlnjcfgihklppaaGreat
open Go.RowKit Go.Maps Go.Shelf
set_option linter.unusedVariables false
set_option linter.unusedSimpArgs false

section
variable {N g gl : Nat} {A : Acc} {M : Cls Int} {w : World}
set_option maxRecDepth 100000 in
set_option maxHeartbeats 1000000 in
theorem ledger_TransferF (h : LdAt N g gl A M w) (hN : N ≤ w.heap.size) {a : Int} (ha : (Lit.int .i64 a).wf = true) (b n : Int) : Calls Tryz.prog 34 #[.pointer (some ⟨g, 0, none⟩), .int .i64 a, .int .i64 b, .int .i64 n] w fun e w' => e = .returned (.int .i64 (transE A M a b n)) ∧ LdAt N g gl (transA A M a b n) M w' ∧ Below N w w' ∧ Off g w w' := by
  have hok := h.ok
  have HH := Lib.hid (And.intro h (And.intro hN ha))
  clear h hN ha
  by_cases hb : isAcc b
  · have hT : transE A M a b n = spendE A M a n (decide (a = b)) := by rw [transE, if_pos hb]
    obtain ⟨q, hq⟩ : ∃ q, q = decide (a = b) := ⟨_, rfl⟩
    rw [← hq] at hT
    obtain ⟨E, hE⟩ : ∃ E, E = spendE A M a n q := ⟨_, rfl⟩
    have hQ : (a == b) = q := by rw [hq]; exact Bool.eq_iff_iff.2 (by simp)
    obtain ⟨j, rfl, hj⟩ := isAcc_nat hb
    by_cases h0 : E = 0
    · obtain ⟨hac, hbal, hfr⟩ := spendE_ok (hE.symm.trans h0)
      have hA : transA A M a j n = giveA (spendA A a n) j n := by rw [transA, hT, ← hE, if_pos h0, Int.toNat_natCast]
      have hS : spent A M a n q = spendA A a n := by rw [spent, ← hE, if_pos h0]
      rw [hA, hT, ← hE, h0]
      have ok1 := spendA_ok hok hac hbal hfr
      have sm1 := sum_spendA A hac n
      obtain ⟨B, hB⟩ : ∃ B, B = spendA A a n := ⟨_, rfl⟩
      rw [← hB] at hS ok1 sm1 ⊢
      unfold isBal at hbal
      have ok2 : AccOk (giveA B j n) := giveA_ok ok1 hj hbal.1 (by have := hok.all; omega)
      obtain ⟨v, hv⟩ : ∃ v, v = (B j).1 := ⟨_, rfl⟩
      have hv0 : 0 ≤ v ∧ v ≤ 1073741824 := by have := ok1.one hj; have := ok1.held j; have := ok1.free j; unfold both at *; omega
      have hn1 : IntKind.i64.wrap (v + n) = v + n := IntWalk.i64_in _ (by omega)
      have hE0 : spendE A M a n q = 0 := by rw [← hE, h0]
      have hpay : ∀ w1, LdAt N g gl B M w1 → w1.cell? ⟨g, j * 2, none⟩ = some (.int .i64 v) ∧ LdAt N g gl (giveA B j n) M (w1.setCell ⟨g, j * 2, none⟩ (.int .i64 (v + n))) ∧ Below N w1 (w1.setCell ⟨g, j * 2, none⟩ (.int .i64 (v + n))) := fun w1 h1 => ⟨by rw [hv]; exact h1.free hj, by rw [hv]; exact h1.setFree hj _ ok2⟩
      have HP := Lib.hid hpay
      have HK := Lib.hid hj
      have HE := Lib.hid (And.intro hE0 hS)
      clear hok hac hbal hfr hA hS ok1 sm1 hj hB ok2 hv hE0 hpay h0 hE hq hb hT
      go_enter Tryz.func34, Tryz.ntmps34
      go_wp2_with (first
        | (go_at_call 75; refine (ledger_spendF HH.out.1 HH.out.2.1 HH.out.2.2 q).mono ?_; rw [HE.out.1, HE.out.2]; rintro e w1 ⟨rfl, h1, h2, h2o⟩; have hc1 := (HP.out w1 h1).1; have hf1 := h1.frozen (j * 2); have H1 := Lib.hid (And.intro h1 (And.intro h2 h2o)); clear h1 h2 h2o)
        | (go_at_call 74; refine (ledger_account HK.out _).mono ?_; rintro e w' ⟨rfl, hw⟩; rw [hw]; clear hw w')
        | fail)
      go_ret
      exact ⟨rfl, (HP.out _ H1.out.1).2.1, H1.out.2.1.trans (HP.out _ H1.out.1).2.2, H1.out.2.2.trans H1.out.2.1.size Off.set⟩
    · have hA : transA A M a j n = A := by rw [transA, hT, ← hE, if_neg h0]
      have hS : spent A M a n q = A := by rw [spent, ← hE, if_neg h0]
      rw [hA, hT, ← hE]
      have HK := Lib.hid hj
      have HE := Lib.hid (And.intro hE hS)
      clear hA hS hE hok hb hj hT hq
      go_enter Tryz.func34, Tryz.ntmps34
      go_wp2_with (first
        | (go_at_call 75; refine (ledger_spendF HH.out.1 HH.out.2.1 HH.out.2.2 q).mono ?_; rw [← HE.out.1, HE.out.2]; rintro e w1 ⟨rfl, h1, h2, h2o⟩; have H1 := Lib.hid (And.intro h1 (And.intro h2 h2o)); clear h1 h2 h2o)
        | (go_at_call 74; refine (ledger_account HK.out _).mono ?_; rintro e w' ⟨rfl, hw⟩; rw [hw]; clear hw w')
        | fail)
      go_ret
      exact ⟨rfl, H1.out⟩
  · have hT : transE A M a b n = 1 := by rw [transE, if_neg hb]
    have hA : transA A M a b n = A := by rw [transA, hT]; rfl
    rw [hT, hA]
    have HB := Lib.hid hb
    clear hT hA hb hok
    go_enter Tryz.func34, Tryz.ntmps34
    go_wp2_with (first
      | (go_at_call 74; refine (ledger_account_no HB.out _).mono ?_; rintro e w' ⟨rfl, hw⟩; rw [hw]; clear hw w')
      | fail)
    exact bodyPost_ret (v := .int .i64 1) (by simp [results, Tryz.results34, go_sem]) rfl ⟨rfl, HH.out.1, Below.refl _ _, Off.refl _ _⟩
end
end Go.Proofs.YtlnjcfgihklppaaGreat
end

section
namespace Go.Proofs.YtlnjcfgihklppaaGreat
open Go.RowKit
set_option linter.unusedVariables false

theorem cvRet_int {k : IntKind} {a b : Int} (h : a = b) : Ending.returned (.int k a) = .returned (.int k b) := by rw [h]
theorem cvRet_bool {a b : Bool} (h : a = b) : Ending.returned (.bool a) = .returned (.bool b) := by rw [h]
theorem mul_bd {a b : Int} {A B : Int} (h0 : 0 ≤ a) (h1 : a ≤ A) (h2 : 0 ≤ b) (h3 : b ≤ B) (hA : 0 ≤ A) : 0 ≤ a * b ∧ a * b ≤ A * B :=
  ⟨Int.mul_nonneg h0 h2, Int.mul_le_mul h1 h3 h2 hA⟩
theorem bcell {W w1 : World} (hb : Below W.heap.size W w1) : (∀ b o, b < W.heap.size → w1.cell? ⟨b, o, none⟩ = W.cell? ⟨b, o, none⟩) ∧ (∀ b o, b < W.heap.size → w1.frozen? ⟨b, o, none⟩ = W.frozen? ⟨b, o, none⟩) :=
  ⟨fun b o h => hb.cell (p := ⟨b, o, none⟩) h, fun b o h => hb.frozen (p := ⟨b, o, none⟩) h⟩
theorem below_box {w w1 : World} {o : Obj} (h : Below (w.alloc o).heap.size (w.alloc o) w1) : Below w.heap.size w w1 :=
  ((Below.refl _ _).alloc (Nat.le_refl _) o).trans (h.mono (by simp))
theorem below_dn {B : Nat} {a w : World} (h : Below B a w) (n : Nat) : Below B a (w.drewN n) := h.trans ⟨rfl, rfl, rfl, Nat.le_refl _, fun _ _ => rfl⟩

theorem below_new {w0 w : World} (h : Below w0.heap.size w0 w) (o : Obj) : Below w0.heap.size w0 (w.alloc o) := h.alloc h.size o

def inB (n b : Int) : Bool := decide (0 ≤ n) && decide (n ≤ b)
theorem inB_out {n b : Int} (h : inB n b = true) : 0 ≤ n ∧ n ≤ b := by simpa [inB] using h
def withinB (n l m : Int) : Bool := decide (l ≤ n) && decide (n ≤ m)
theorem withinB_out {n l m : Int} (h : withinB n l m = true) : l ≤ n ∧ n ≤ m := by simpa [withinB] using h

def votesI (n level : Int) : Int := if level = 0 then n / 10 else n * level
def periodI (level period : Int) : Int := if level = 0 then 0 else period * 2 ^ (level - 1).toNat

theorem cvWithin (n l m : Int) (w : World) :
    Calls Tryz.prog 45 #[.int .i64 n, .int .i64 l, .int .i64 m] w fun e w' => e = .returned (.bool (withinB n l m)) ∧ w = w' := by
  by_cases h0 : l ≤ n
  · go_enter Tryz.func45, Tryz.ntmps45
    go_wp2
    go_ret
    exact ⟨cvRet_bool (by simp [withinB, h0]), rfl⟩
  · go_enter Tryz.func45, Tryz.ntmps45
    go_wp2
    go_ret
    exact ⟨cvRet_bool (by simp [withinB]; omega), rfl⟩

theorem cvBalance (n : Int) (w : World) :
    Calls Tryz.prog 36 #[.int .i64 n] w fun e w' => e = .returned (.bool (withinB n 0 1073741824)) ∧ w = w' := by
  go_enter Tryz.func36, Tryz.ntmps36
  go_wp2_with (go_at_call 45; refine (cvWithin _ _ _ _).mono ?_; rintro e w' ⟨rfl, rfl⟩)
  go_ret
  exact ⟨rfl, rfl⟩

theorem ref5_in (n l m : Int) (w : World) :
    Calls Tryz.prog 69 #[.int .i64 n, .int .i64 l, .int .i64 m] w fun e w' => e = .returned (.bool (withinB n l m)) ∧ w = w' := by
  by_cases h0 : l ≤ n
  · go_enter Tryz.func69, Tryz.ntmps69
    go_wp2
    go_ret
    exact ⟨cvRet_bool (by simp [withinB, h0]), rfl⟩
  · go_enter Tryz.func69, Tryz.ntmps69
    go_wp2
    go_ret
    exact ⟨cvRet_bool (by simp [withinB]; omega), rfl⟩

/-- A balance weighs this (levels 0 to 6; balances up to 2^34). -/
theorem conv_Votes (n l : Int) (w : World) (h0 : 0 ≤ n) (h1 : n ≤ 17179869184) (l0 : 0 ≤ l) (l1 : l ≤ 6) :
    Calls Tryz.prog 63 #[.int .i64 n, .int .i64 l] w fun e w' => e = .returned (.int .i64 (votesI n l)) ∧ w = w' := by
  obtain ⟨m0, m1⟩ := mul_bd h0 h1 l0 l1 (by omega)
  by_cases hl : l = 0
  · subst hl
    go_enter Tryz.func63, Tryz.ntmps63
    go_wp2
    go_ret
    exact ⟨rfl, rfl⟩
  · have e : votesI n l = n * l := if_neg hl
    have E := Lib.hid e; clear e
    go_enter Tryz.func63, Tryz.ntmps63
    go_wp2
    go_ret
    rw [E.out]
    exact ⟨rfl, rfl⟩

theorem ref_Votes (n l : Int) (w : World) (h0 : 0 ≤ n) (h1 : n ≤ 17179869184) (l0 : 0 ≤ l) (l1 : l ≤ 6) :
    Calls Tryz.prog 31 #[.int .i64 n, .int .i64 l] w fun e w' => e = .returned (.int .i64 (votesI n l)) ∧ w = w' := by
  obtain ⟨m0, m1⟩ := mul_bd h0 h1 l0 l1 (by omega)
  by_cases hl : l = 0
  · subst hl
    go_enter Tryz.func31, Tryz.ntmps31
    go_wp2
    go_ret
    exact ⟨rfl, rfl⟩
  · have e : votesI n l = n * l := if_neg hl
    have E := Lib.hid e; clear e
    go_enter Tryz.func31, Tryz.ntmps31
    go_wp2
    go_ret
    rw [E.out]
    exact ⟨rfl, rfl⟩

theorem conv_Period (l p : Int) (w : World) (h0 : 0 ≤ p) (h1 : p ≤ 1073741824) (l0 : 0 ≤ l) (l1 : l ≤ 6) :
    Calls Tryz.prog 60 #[.int .i64 l, .int .i64 p] w fun e w' => e = .returned (.int .i64 (periodI l p)) ∧ w = w' := by
  have hl : l = 0 ∨ l = 1 ∨ l = 2 ∨ l = 3 ∨ l = 4 ∨ l = 5 ∨ l = 6 := by omega
  rcases hl with rfl | rfl | rfl | rfl | rfl | rfl | rfl
  all_goals
    go_enter Tryz.func60, Tryz.ntmps60
    go_wp2
    go_ret
    exact ⟨cvRet_int (by simp [periodI]), rfl⟩

theorem ref_Period (l p : Int) (w : World) (h0 : 0 ≤ p) (h1 : p ≤ 1073741824) (l0 : 0 ≤ l) (l1 : l ≤ 6) :
    Calls Tryz.prog 33 #[.int .i64 l, .int .i64 p] w fun e w' => e = .returned (.int .i64 (periodI l p)) ∧ w = w' := by
  have hl : l = 0 ∨ l = 1 ∨ l = 2 ∨ l = 3 ∨ l = 4 ∨ l = 5 ∨ l = 6 := by omega
  rcases hl with rfl | rfl | rfl | rfl | rfl | rfl | rfl
  all_goals
    go_enter Tryz.func33, Tryz.ntmps33
    go_wp2
    go_ret
    exact ⟨cvRet_int (by simp [periodI]), rfl⟩

abbrev vote (k : Int) (aye : Bool) (l a n s : Int) : Value := .agg #[.int .i64 k, .bool aye, .int .i64 l, .int .i64 a, .int .i64 n, .int .i64 s]
abbrev weight (v c : Int) : Value := .agg #[.int .i64 v, .int .i64 c]
abbrev tally (a n s : Int) : Value := .agg #[.int .i64 a, .int .i64 n, .int .i64 s]

def shapedB (k : Int) (aye : Bool) (l n s : Int) : Bool :=
  if k = 1 then withinB l 0 6 && (n == 0) && (s == 0)
  else if k = 2 then !aye && (l == 0) && (s == 0)
  else if k = 3 then !aye && (l == 0)
  else false
def voteB (k : Int) (aye : Bool) (l a n s : Int) : Bool :=
  shapedB k aye l n s && withinB a 0 1073741824 && withinB n 0 1073741824 && withinB s 0 1073741824 && withinB (a + n + s) 0 1073741824

theorem conv_shaped (k : Int) (aye : Bool) (l a n s : Int) (w : World) :
    Calls Tryz.prog 77 #[vote k aye l a n s] w fun e w' => e = .returned (.bool (shapedB k aye l n s)) ∧ Below w.heap.size w w' := by
  have hk : k = 1 ∨ k = 2 ∨ k = 3 ∨ (k ≠ 1 ∧ k ≠ 2 ∧ k ≠ 3) := by omega
  rcases hk with rfl | rfl | rfl | ⟨k1, k2, k3⟩
  · go_enter Tryz.func77, Tryz.ntmps77
    go_wp2_with (go_at_call 45; refine (cvWithin _ _ _ _).mono ?_; rintro e w' ⟨rfl, rfl⟩)
    all_goals
      go_ret
      exact ⟨cvRet_bool (by simp [shapedB, *]), (Below.refl _ _).alloc (Nat.le_refl _) _⟩
  · cases aye
    all_goals
      go_enter Tryz.func77, Tryz.ntmps77
      go_wp2_with (go_at_call 45; refine (cvWithin _ _ _ _).mono ?_; rintro e w' ⟨rfl, rfl⟩)
    all_goals
      go_ret
      exact ⟨cvRet_bool (by simp [shapedB, *]), (Below.refl _ _).alloc (Nat.le_refl _) _⟩
  · cases aye
    all_goals
      go_enter Tryz.func77, Tryz.ntmps77
      go_wp2_with (go_at_call 45; refine (cvWithin _ _ _ _).mono ?_; rintro e w' ⟨rfl, rfl⟩)
    all_goals
      go_ret
      exact ⟨cvRet_bool (by simp [shapedB, *]), (Below.refl _ _).alloc (Nat.le_refl _) _⟩
  · go_enter Tryz.func77, Tryz.ntmps77
    go_wp2
    go_ret
    exact ⟨cvRet_bool (by simp [shapedB, *]), (Below.refl _ _).alloc (Nat.le_refl _) _⟩

end Go.Proofs.YtlnjcfgihklppaaGreat
end

section
namespace Go.Proofs.YtlnjcfgihklppaaGreat
open Go.RowKit
set_option linter.unusedVariables false

theorem conv_Capital (k : Int) (aye : Bool) (l a n s : Int) (w : World) (ha : 0 ≤ a ∧ a ≤ 1073741824) (hn : 0 ≤ n ∧ n ≤ 1073741824) (hs : 0 ≤ s ∧ s ≤ 1073741824) :
    Calls Tryz.prog 49 #[vote k aye l a n s] w fun e w' => e = .returned (.int .i64 (a + n + s)) ∧ Below w.heap.size w w' := by
  go_enter Tryz.func49, Tryz.ntmps49
  go_wp2
  go_ret
  exact ⟨rfl, (Below.refl _ _).alloc (Nat.le_refl _) _⟩

theorem ref_Capital (k : Int) (aye : Bool) (l a n s : Int) (w : World) (ha : 0 ≤ a ∧ a ≤ 1073741824) (hn : 0 ≤ n ∧ n ≤ 1073741824) (hs : 0 ≤ s ∧ s ≤ 1073741824) :
    Calls Tryz.prog 28 #[vote k aye l a n s] w fun e w' => e = .returned (.int .i64 (a + n + s)) ∧ Below w.heap.size w w' := by
  go_enter Tryz.func28, Tryz.ntmps28
  go_wp2
  go_ret
  exact ⟨rfl, (Below.refl _ _).alloc (Nat.le_refl _) _⟩

/-- A vote lies in the first block behind w0's. -/
structure VBox (w0 : World) (k : Int) (aye : Bool) (l a n s : Int) (w : World) : Prop where
  c0 : w.cell? ⟨w0.heap.size, 0, none⟩ = some (.int .i64 k)
  c1 : w.cell? ⟨w0.heap.size, 1, none⟩ = some (.bool aye)
  c2 : w.cell? ⟨w0.heap.size, 2, none⟩ = some (.int .i64 l)
  c3 : w.cell? ⟨w0.heap.size, 3, none⟩ = some (.int .i64 a)
  c4 : w.cell? ⟨w0.heap.size, 4, none⟩ = some (.int .i64 n)
  c5 : w.cell? ⟨w0.heap.size, 5, none⟩ = some (.int .i64 s)
  lt : w0.heap.size < w.heap.size
  old : Below w0.heap.size w0 w
theorem VBox.all {w0 : World} {k : Int} {aye : Bool} {l a n s : Int} {w : World} (h : VBox w0 k aye l a n s w) : w.cell? ⟨w0.heap.size, 0, none⟩ = some (.int .i64 k) ∧ w.cell? ⟨w0.heap.size, 1, none⟩ = some (.bool aye) ∧ w.cell? ⟨w0.heap.size, 2, none⟩ = some (.int .i64 l) ∧ w.cell? ⟨w0.heap.size, 3, none⟩ = some (.int .i64 a) ∧ w.cell? ⟨w0.heap.size, 4, none⟩ = some (.int .i64 n) ∧ w.cell? ⟨w0.heap.size, 5, none⟩ = some (.int .i64 s) := ⟨h.c0, h.c1, h.c2, h.c3, h.c4, h.c5⟩
theorem VBox.below {w0 : World} {k : Int} {aye : Bool} {l a n s : Int} {w w' : World} (h : VBox w0 k aye l a n s w) (hb : Below w.heap.size w w') : VBox w0 k aye l a n s w' := by
  obtain ⟨hc, _⟩ := bcell hb
  exact ⟨(hc _ _ h.lt).trans h.c0, (hc _ _ h.lt).trans h.c1, (hc _ _ h.lt).trans h.c2, (hc _ _ h.lt).trans h.c3, (hc _ _ h.lt).trans h.c4, (hc _ _ h.lt).trans h.c5, Nat.lt_of_lt_of_le h.lt hb.size, h.old.trans (hb.mono h.old.size)⟩
theorem VBox.drew {w0 : World} {k : Int} {aye : Bool} {l a n s : Int} {w : World} (h : VBox w0 k aye l a n s w) : VBox w0 k aye l a n s w.drew := ⟨h.c0, h.c1, h.c2, h.c3, h.c4, h.c5, h.lt, h.old.drew⟩
theorem VBox.new {k : Int} {aye : Bool} {l a n s : Int} {w : World} {t : TypeId} : VBox w k aye l a n s (w.alloc (.cells #[.int .i64 k, .bool aye, .int .i64 l, .int .i64 a, .int .i64 n, .int .i64 s] t)) := by
  constructor
  case old => exact (Below.refl _ _).alloc (Nat.le_refl _) _
  all_goals simp

set_option maxHeartbeats 1000000 in
theorem conv_Is (k : Int) (aye : Bool) (l a n s : Int) (w : World) :
    Calls Tryz.prog 47 #[vote k aye l a n s] w fun e w' => e = .returned (.bool (voteB k aye l a n s)) ∧ Below w.heap.size w w' := by
  go_enter Tryz.func47, Tryz.ntmps47
  go_wp2_with (first | (go_at_call 77; refine (conv_shaped _ _ _ _ _ _ _).mono ?_; rintro e w1 ⟨rfl, hb1⟩; have B := VBox.new.below hb1; clear hb1; obtain ⟨c0, c1, c2, c3, c4, c5⟩ := B.all) | (go_at_call 36; refine (cvBalance _ _).mono ?_; rintro e w' ⟨rfl, rfl⟩) | (go_at_call 49; refine (conv_Capital _ _ _ _ _ _ _ (withinB_out (by assumption)) (withinB_out (by assumption)) (withinB_out (by assumption))).mono ?_; rintro e w1 ⟨rfl, hb1⟩; have B2 := B.below hb1) | fail)
  all_goals
    go_ret
    exact ⟨cvRet_bool (by simp [voteB, *]), (by first | exact B2.old | exact B.old)⟩

set_option maxHeartbeats 1000000 in
theorem ref_Is5_fits (k : Int) (aye : Bool) (l a n s : Int) (w : World) (h1 : withinB a 0 1073741824 = true) (h2 : withinB n 0 1073741824 = true) (h3 : withinB s 0 1073741824 = true) (hs : a + n + s ≤ 1073741824) :
    Calls Tryz.prog 27 #[vote k aye l a n s] w fun e w' => e = .returned (.bool (voteB k aye l a n s)) ∧ Below w.heap.size w w' := by
  obtain ⟨a0, a1⟩ := withinB_out h1
  obtain ⟨n0, n1⟩ := withinB_out h2
  obtain ⟨s0, s1⟩ := withinB_out h3
  have hw : withinB (a + n + s) 0 1073741824 = true := by simp [withinB, hs]; omega
  have hd : decide (1073741824 < a + n + s) = false := by simp; omega
  have e : voteB k aye l a n s = shapedB k aye l n s := by simp [voteB, h1, h2, h3, hw]
  have E := Lib.hid e
  clear e hw hs
  have hk : k = 1 ∨ k = 2 ∨ k = 3 ∨ (k ≠ 1 ∧ k ≠ 2 ∧ k ≠ 3) := by omega
  rcases hk with rfl | rfl | rfl | ⟨k1, k2, k3⟩ <;> cases aye
  all_goals
    go_enter Tryz.func27, Tryz.ntmps27
    go_wp2_with (first | (go_at_call 69; refine (ref5_in _ _ _ _).mono ?_; rintro e w' ⟨rfl, rfl⟩) | fail)
  all_goals
    go_ret
    exact ⟨cvRet_bool (by rw [E.out]; simp [shapedB, *]), (Below.refl _ _).alloc (Nat.le_refl _) _⟩

set_option maxHeartbeats 1000000 in
theorem ref_Is5_over (k : Int) (aye : Bool) (l a n s : Int) (w : World) (h1 : withinB a 0 1073741824 = true) (h2 : withinB n 0 1073741824 = true) (h3 : withinB s 0 1073741824 = true) (hs : ¬ a + n + s ≤ 1073741824) :
    Calls Tryz.prog 27 #[vote k aye l a n s] w fun e w' => e = .returned (.bool (voteB k aye l a n s)) ∧ Below w.heap.size w w' := by
  obtain ⟨a0, a1⟩ := withinB_out h1
  obtain ⟨n0, n1⟩ := withinB_out h2
  obtain ⟨s0, s1⟩ := withinB_out h3
  have hw : withinB (a + n + s) 0 1073741824 = false := by simp [withinB]; omega
  have hd : decide (1073741824 < a + n + s) = true := by simp; omega
  have e : voteB k aye l a n s = false := by simp [voteB, hw]
  have E := Lib.hid e
  clear hs hw e
  go_enter Tryz.func27, Tryz.ntmps27
  go_wp2_with (first | (go_at_call 69; refine (ref5_in _ _ _ _).mono ?_; rintro e w' ⟨rfl, rfl⟩) | fail)
  go_ret
  exact ⟨cvRet_bool E.out.symm, (Below.refl _ _).alloc (Nat.le_refl _) _⟩

set_option maxHeartbeats 1000000 in
theorem ref_Is5 (k : Int) (aye : Bool) (l a n s : Int) (w : World) :
    Calls Tryz.prog 27 #[vote k aye l a n s] w fun e w' => e = .returned (.bool (voteB k aye l a n s)) ∧ Below w.heap.size w w' := by
  by_cases hb : withinB a 0 1073741824 = true ∧ withinB n 0 1073741824 = true ∧ withinB s 0 1073741824 = true
  · obtain ⟨h1, h2, h3⟩ := hb
    by_cases hs : a + n + s ≤ 1073741824
    · exact ref_Is5_fits k aye l a n s w h1 h2 h3 hs
    · exact ref_Is5_over k aye l a n s w h1 h2 h3 hs
  · have e : voteB k aye l a n s = false := by
      cases h1 : withinB a 0 1073741824 <;> cases h2 : withinB n 0 1073741824 <;> cases h3 : withinB s 0 1073741824 <;> simp_all [voteB]
    have E := Lib.hid e
    have hq : withinB a 0 1073741824 = false ∨ (withinB a 0 1073741824 = true ∧ withinB n 0 1073741824 = false) ∨ (withinB a 0 1073741824 = true ∧ withinB n 0 1073741824 = true ∧ withinB s 0 1073741824 = false) := by
      cases h1 : withinB a 0 1073741824 <;> cases h2 : withinB n 0 1073741824 <;> cases h3 : withinB s 0 1073741824 <;> simp_all
    clear hb e
    rcases hq with h1 | ⟨h1, h2⟩ | ⟨h1, h2, h3⟩
    all_goals
      go_enter Tryz.func27, Tryz.ntmps27
      go_wp2_with (first | (go_at_call 69; refine (ref5_in _ _ _ _).mono ?_; rintro e w' ⟨rfl, rfl⟩) | fail)
      go_ret
      exact ⟨cvRet_bool E.out.symm, (Below.refl _ _).alloc (Nat.le_refl _) _⟩

/-- What a vote gains, its three numbers. -/
def gainA (k : Int) (aye : Bool) (l a v : Int) : Int := if k = 1 then (if aye then votesI a l + v else 0) else votesI a 0
def gainN (k : Int) (aye : Bool) (l a n v : Int) : Int := if k = 1 then (if aye then 0 else votesI a l + v) else votesI n 0
def gainS (k : Int) (aye : Bool) (a s c : Int) : Int := if k = 1 then (if aye then a + c else 0) else a + s

theorem votes_bd {n l : Int} (h0 : 0 ≤ n) (l0 : 0 ≤ l) : 0 ≤ votesI n l ∧ votesI n l ≤ n * (l + 1) := by
  unfold votesI
  have m := Int.mul_nonneg h0 l0
  have e : n * (l + 1) = n * l + n := by rw [Int.mul_add]; omega
  split <;> omega

set_option maxHeartbeats 1000000 in
theorem conv_Gain1 (aye : Bool) (l a n s v c : Int) (w : World) (ha : 0 ≤ a ∧ a ≤ 1073741824) (hl : 0 ≤ l ∧ l ≤ 6) (hv : 0 ≤ v ∧ v ≤ 1099511627776) (hc : 0 ≤ c ∧ c ≤ 1099511627776) :
    Calls Tryz.prog 53 #[vote 1 aye l a n s, weight v c] w fun e w' => e = .returned (tally (gainA 1 aye l a v) (gainN 1 aye l a n v) (gainS 1 aye a s c)) ∧ Below w.heap.size w w' := by
  obtain ⟨q0, q1⟩ := votes_bd ha.1 hl.1
  obtain ⟨m0, m1⟩ := mul_bd ha.1 ha.2 (show 0 ≤ l + 1 by omega) (show l + 1 ≤ 7 by omega) (by omega)
  obtain ⟨a0, a1⟩ := ha
  obtain ⟨l0, l1⟩ := hl
  obtain ⟨v0, v1⟩ := hv
  obtain ⟨c0, c1⟩ := hc
  have W1 : IntKind.i64.wrap (votesI a l + v) = votesI a l + v := IntWalk.i64_in _ (by omega)
  cases aye
  · go_enter Tryz.func53, Tryz.ntmps53
    go_wp2_with fail
    go_quiet ((go_at_call 63; exact Calls.quiet_of_same ((conv_Votes _ _ _ (by omega) (by omega) (by omega) (by omega)).mono fun e w' h => ⟨h.1, h.2.symm⟩)))
    go_wp2
    exact bodyPost_ret (v := tally (gainA 1 false l a v) (gainN 1 false l a n v) (gainS 1 false a s c)) (by simp [results, Tryz.results53, go_sem, gainA, gainN, gainS]) rfl ⟨rfl, (by repeat (first | exact Below.refl _ _ | refine below_dn ?_ _ | refine Below.drew ?_ | refine below_new ?_ _ | refine Below.setCell ?_ (Nat.le_refl _) _ | refine Below.setCell ?_ (Nat.le_succ _) _ | refine Below.setCell ?_ (Nat.le_trans (Nat.le_succ _) (Nat.le_succ _)) _))⟩
  · go_enter Tryz.func53, Tryz.ntmps53
    go_wp2_with fail
    go_quiet ((go_at_call 63; exact Calls.quiet_of_same ((conv_Votes _ _ _ (by omega) (by omega) (by omega) (by omega)).mono fun e w' h => ⟨h.1, h.2.symm⟩)))
    go_wp2
    exact bodyPost_ret (v := tally (gainA 1 true l a v) (gainN 1 true l a n v) (gainS 1 true a s c)) (by simp [results, Tryz.results53, go_sem, gainA, gainN, gainS]) rfl ⟨rfl, (by repeat (first | exact Below.refl _ _ | refine below_dn ?_ _ | refine Below.drew ?_ | refine below_new ?_ _ | refine Below.setCell ?_ (Nat.le_refl _) _ | refine Below.setCell ?_ (Nat.le_succ _) _ | refine Below.setCell ?_ (Nat.le_trans (Nat.le_succ _) (Nat.le_succ _)) _))⟩

set_option maxHeartbeats 1000000 in
theorem conv_Gain2 (k : Int) (hk : k = 2 ∨ k = 3) (aye : Bool) (l a n s v c : Int) (w : World) (a0 : 0 ≤ a) (a1 : a ≤ 1073741824) (n0 : 0 ≤ n) (n1 : n ≤ 1073741824) (s0 : 0 ≤ s) (s1 : s ≤ 1073741824) :
    Calls Tryz.prog 53 #[vote k aye l a n s, weight v c] w fun e w' => e = .returned (tally (gainA k aye l a v) (gainN k aye l a n v) (gainS k aye a s c)) ∧ Below w.heap.size w w' := by
  have W1 : IntKind.i64.wrap (a + s) = a + s := IntWalk.i64_in _ (by omega)
  rcases hk with rfl | rfl
  · go_enter Tryz.func53, Tryz.ntmps53
    go_wp2_with fail
    have B1 : VBox w 2 aye l a n s (((w.alloc (.cells #[.int .i64 2, .bool aye, .int .i64 l, .int .i64 a, .int .i64 n, .int .i64 s] 23)).alloc (.cells #[.int .i64 v, .int .i64 c] 49)).alloc (.cells #[.int .i64 0, .int .i64 0, .int .i64 0] 46)) := (VBox.new.below (below_new (Below.refl _ _) _)).below (below_new (Below.refl _ _) _)
    have B2 : VBox w 2 aye l a n s (((w.alloc (.cells #[.int .i64 2, .bool aye, .int .i64 l, .int .i64 a, .int .i64 n, .int .i64 s] 23)).alloc (.cells #[.int .i64 v, .int .i64 c] 49)).alloc (.cells #[.int .i64 (votesI a 0), .int .i64 (votesI n 0), .int .i64 (a + s)] 46)) := (VBox.new.below (below_new (Below.refl _ _) _)).below (below_new (Below.refl _ _) _)
    go_region_held3 (fun w' => w'.cell? ⟨w.heap.size, 0, none⟩ = some (.int .i64 2) ∧ w'.cell? ⟨w.heap.size, 1, none⟩ = some (.bool aye) ∧ w'.cell? ⟨w.heap.size, 2, none⟩ = some (.int .i64 l) ∧ w'.cell? ⟨w.heap.size, 3, none⟩ = some (.int .i64 a) ∧ w'.cell? ⟨w.heap.size, 4, none⟩ = some (.int .i64 n) ∧ w'.cell? ⟨w.heap.size, 5, none⟩ = some (.int .i64 s)) (first | exact B1.all | exact B2.all | fail) (first | (go_at_call 63; refine (conv_Votes _ _ _ (by omega) (by omega) (by omega) (by omega)).mono ?_; rintro e w' ⟨rfl, rfl⟩) | fail)
    go_wp2
    exact bodyPost_ret (v := tally (gainA 2 aye l a v) (gainN 2 aye l a n v) (gainS 2 aye a s c)) (by simp [results, Tryz.results53, go_sem, gainA, gainN, gainS]) rfl ⟨rfl, (by repeat (first | exact Below.refl _ _ | refine below_dn ?_ _ | refine Below.drew ?_ | refine below_new ?_ _ | refine Below.setCell ?_ (Nat.le_refl _) _ | refine Below.setCell ?_ (Nat.le_succ _) _ | refine Below.setCell ?_ (Nat.le_trans (Nat.le_succ _) (Nat.le_succ _)) _))⟩
  · go_enter Tryz.func53, Tryz.ntmps53
    go_wp2_with fail
    have B1 : VBox w 3 aye l a n s (((w.alloc (.cells #[.int .i64 3, .bool aye, .int .i64 l, .int .i64 a, .int .i64 n, .int .i64 s] 23)).alloc (.cells #[.int .i64 v, .int .i64 c] 49)).alloc (.cells #[.int .i64 0, .int .i64 0, .int .i64 0] 46)) := (VBox.new.below (below_new (Below.refl _ _) _)).below (below_new (Below.refl _ _) _)
    have B2 : VBox w 3 aye l a n s (((w.alloc (.cells #[.int .i64 3, .bool aye, .int .i64 l, .int .i64 a, .int .i64 n, .int .i64 s] 23)).alloc (.cells #[.int .i64 v, .int .i64 c] 49)).alloc (.cells #[.int .i64 (votesI a 0), .int .i64 (votesI n 0), .int .i64 (a + s)] 46)) := (VBox.new.below (below_new (Below.refl _ _) _)).below (below_new (Below.refl _ _) _)
    go_region_held3 (fun w' => w'.cell? ⟨w.heap.size, 0, none⟩ = some (.int .i64 3) ∧ w'.cell? ⟨w.heap.size, 1, none⟩ = some (.bool aye) ∧ w'.cell? ⟨w.heap.size, 2, none⟩ = some (.int .i64 l) ∧ w'.cell? ⟨w.heap.size, 3, none⟩ = some (.int .i64 a) ∧ w'.cell? ⟨w.heap.size, 4, none⟩ = some (.int .i64 n) ∧ w'.cell? ⟨w.heap.size, 5, none⟩ = some (.int .i64 s)) (first | exact B1.all | exact B2.all | fail) (first | (go_at_call 63; refine (conv_Votes _ _ _ (by omega) (by omega) (by omega) (by omega)).mono ?_; rintro e w' ⟨rfl, rfl⟩) | fail)
    go_wp2
    exact bodyPost_ret (v := tally (gainA 3 aye l a v) (gainN 3 aye l a n v) (gainS 3 aye a s c)) (by simp [results, Tryz.results53, go_sem, gainA, gainN, gainS]) rfl ⟨rfl, (by repeat (first | exact Below.refl _ _ | refine below_dn ?_ _ | refine Below.drew ?_ | refine below_new ?_ _ | refine Below.setCell ?_ (Nat.le_refl _) _ | refine Below.setCell ?_ (Nat.le_succ _) _ | refine Below.setCell ?_ (Nat.le_trans (Nat.le_succ _) (Nat.le_succ _)) _))⟩

theorem conv_Gain (k : Int) (aye : Bool) (l a n s v c : Int) (w : World) (h : voteB k aye l a n s = true) (hv : 0 ≤ v ∧ v ≤ 1099511627776) (hc : 0 ≤ c ∧ c ≤ 1099511627776) :
    Calls Tryz.prog 53 #[vote k aye l a n s, weight v c] w fun e w' => e = .returned (tally (gainA k aye l a v) (gainN k aye l a n v) (gainS k aye a s c)) ∧ Below w.heap.size w w' := by
  simp only [voteB, Bool.and_eq_true] at h
  obtain ⟨⟨⟨⟨h0, h1⟩, h2⟩, h3⟩, -⟩ := h
  obtain ⟨a0, a1⟩ := withinB_out h1
  obtain ⟨n0, n1⟩ := withinB_out h2
  obtain ⟨s0, s1⟩ := withinB_out h3
  by_cases k1 : k = 1
  · subst k1
    simp only [shapedB, if_true, Bool.and_eq_true] at h0
    exact conv_Gain1 aye l a n s v c w ⟨a0, a1⟩ (withinB_out h0.1.1) hv hc
  · by_cases k2 : k = 2
    · exact conv_Gain2 k (.inl k2) aye l a n s v c w a0 a1 n0 n1 s0 s1
    · by_cases k3 : k = 3
      · exact conv_Gain2 k (.inr k3) aye l a n s v c w a0 a1 n0 n1 s0 s1
      · simp [shapedB, k1, k2, k3] at h0

end Go.Proofs.YtlnjcfgihklppaaGreat
end
