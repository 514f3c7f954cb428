/-
  A batch that is laid up.
-/
import Derived.Test.YtfgkaookgfghoaaGreatRowA
import Derived.Deep.MidRow
import Derived.Laws.Rows
import Derived.Test.YtfgkaookgfghoaaGreatChecked
import Derived.WalkKit
import Derived.WalkSpells
import Derived.WalkLawsBesides
import Derived.Lib.Hide
import Derived.Below
import Derived.Deep.QuietTactic
import Derived.BigQuiet
import Derived.Deep.RegionHeld3
import Derived.IntWalk
import Derived.Test.YtfgkaookgfghoaaGreatCod1
import Derived.Test.YtfgkaookgfghoaaGreatIter
import Derived.Deep.WholeRow
import Derived.BigRegion
import Derived.RegionTactic
import Derived.Test.YtfgkaookgfghoaaGreatOpI
import Derived.Test.YtfgkaookgfghoaaGreatLd8
import Derived.Laws.MakeOwn
import Derived.StillTailTactics
import Derived.Deep.DeepCutAuto
import Derived.RangeFuncBox
import Derived.Test.YtfgkaookgfghoaaGreatLdE
import Derived.Test.YtfgkaookgfghoaaGreatLdBg
import Derived.Test.YtfgkaookgfghoaaGreatCel
import Derived.Test.YtfgkaookgfghoaaGreatStill
import Derived.Test.YtfgkaookgfghoaaGreatNow
import Derived.Test.YtfgkaookgfghoaaGreatIterAI
import Derived.ChangeKeysEq

section
namespace Go.Proofs.YtfgkaookgfghoaaGreat
open Go.RowKit Go.Maps
set_option linter.unusedVariables false
set_option linter.unusedSimpArgs false

section
variable {P : Program} {α : Type} {r : RowTy P α} {w : World} {ops : Array Oper} {rest : List Oper} {o : Oper} {a : Act} {Q : Exit → Act → World → Prop}
theorem wpl_allocR {ty : TypeId} (ht : ty = r.T) (hgd : o.guard = none) (ho : o.op = .alloc ty)
    (h : ∀ C : Array Value, C.size = r.k → wpList P ops Q rest (a.put o.dst (.pointer (some ⟨w.heap.size, 0, none⟩))) (w.alloc (.cells C ty))) : wpList P ops Q (o :: rest) a w := by
  subst ht
  obtain ⟨i0, z, b, hi, hz0, h3, h4, _⟩ := r.info
  refine wpList_plain hgd fun K hK => ?_
  have := h z h4
  unfold Oper.wp execOp
  simp [ho, Instr.alloc, zeroValue, typeInfo, hi, hz0, newVar, newRow, Value.cells, go_sem]
  exact hK _ _ this
theorem run_storeR {b : Nat} {t : α} {C : Array Value} (hh : w.heap[b]? = some (.cells C r.T (0, 0))) (hC : C.size = r.k) : (Instr.storeAt r.T (.pointer (some ⟨b, 0, none⟩)) (.agg (r.f t).toArray)).run P w = .ok () (w.setRow b (r.f t).toArray) := by
  simp only [Instr.storeAt, Instr.sureAddr, Sem.run_bind, Sem.run_pure, Result.andThen_ok, run_storeVar_row w b r.T r.T C (r.f t).toArray hh (by rw [List.size_toArray, r.len]; exact r.sizeT) (by simp [r.len, hC]) (by rw [Array.all_eq_true_iff_forall_mem]; intro u hu; exact r.one t u (by simpa using hu))]
theorem wpl_storeR {ty : TypeId} {b : Nat} {t : α} {C : Array Value} (x y : Operand) (ht : ty = r.T) (hgd : o.guard = none) (ho : o.op = .store ty x y) (hx : a.eval x = .pointer (some ⟨b, 0, none⟩)) (hy : a.eval y = .agg (r.f t).toArray) (hh : w.heap[b]? = some (.cells C ty (0, 0))) (hC : C.size = r.k)
    (h : wpList P ops Q rest (a.put o.dst undef) (w.setRow b (r.f t).toArray)) : wpList P ops Q (o :: rest) a w := by
  subst ht
  refine wpList_plain hgd fun K hK => ?_
  unfold Oper.wp execOp
  simp only [ho, hx, hy, Sem.run_bind, Sem.run_pure, run_storeR hh hC, Result.andThen_ok]
  exact hK _ _ h
theorem run_varR {b : Nat} {t : α} (hr : w.rangeAt b 0 (r.f t)) : (loadVar r.T ⟨b, 0, none⟩).run P w = .ok (.agg (r.f t).toArray) w := by
  obtain ⟨d, h1, h2⟩ := r.row
  exact run_loadVar_mid w b 0 r.T (r.f t) d hr h1 h2 (by rw [r.len]; exact r.sizeT)
/-- What is handed back lies in a place of its own, and beside it a number. -/
theorem results_R2 {fn : Func} {p q : Tmp} (hf : fn.results = #[.cell p r.T, .tmp q]) {tmps : Array Value} {b : Nat} {t : α} {u : Value} (hp : tmps.getD p undef = .pointer (some ⟨b, 0, none⟩)) (hq : tmps.getD q undef = u) (hr : w.rangeAt b 0 (r.f t)) :
    (results fn tmps).run P w = .ok (.tuple #[.agg (r.f t).toArray, u]) w := by
  have hp' : tmps[p]?.getD undef = .pointer (some ⟨b, 0, none⟩) := by simpa using hp
  have hq' : tmps[q]?.getD undef = u := by simpa using hq
  unfold results
  rw [hf]
  simp [Array.mapM_eq_mapM_toList, hp', hq', asAddr, Sem.run_bind, run_varR hr, Result.andThen]
theorem results_R1 {fn : Func} {p : Tmp} (hf : fn.results = #[.cell p r.T]) {tmps : Array Value} {b : Nat} {t : α} (hp : tmps.getD p undef = .pointer (some ⟨b, 0, none⟩)) (hr : w.rangeAt b 0 (r.f t)) :
    (results fn tmps).run P w = .ok (.agg (r.f t).toArray) w := by
  have hp' : tmps[p]?.getD undef = .pointer (some ⟨b, 0, none⟩) := by simpa using hp
  unfold results
  rw [hf]
  simp [Array.mapM_eq_mapM_toList, hp', asAddr, Sem.run_bind, run_varR hr, Result.andThen]
end
section
variable {P : Program} {α : Type} {r : RowTy P α} {w : World} {ops : Array Oper} {rest : List Oper} {o : Oper} {a : Act} {Q : Exit → Act → World → Prop} {F : Fence} {nF : Nat} {v u : Value} {xs ys : List α} {B : Nat}
theorem wplIn_appsR {s x : Operand} (hgd : o.guard = none) (ho : o.op = .call { callee := .builtin .append, args := #[s, x], argTypes := #[r.S, r.S] }) (hs : a.eval s = v) (hx : a.eval x = u)
    (hown : OwnR r B v xs w) (hr : RdR r w u ys) (hlen : xs.length + ys.length ≤ 1000000) (hB : B ≤ w.heap.size)
    (h : ∀ v' w', OwnR r B v' (xs ++ ys) w' → w.grownBy w' v.ownBlock → (v'.ownBlock = v.ownBlock ∨ v'.ownBlock = some w.heap.size) → wpListIn F nF P ops Q rest (a.put o.dst v') w') : wpListIn F nF P ops Q (o :: rest) a w := by
  obtain ⟨v', w', hrun, h1, h2, h3⟩ := run_appsR hown hr hlen hB o.type
  refine wpListIn_plain hgd fun K hK => ?_
  unfold Oper.wpIn
  refine ⟨by simp [Oper.about, ho, resolve, Target.leads, Sem.run_pure], ?_⟩
  rw [Oper.semAt_plain F _ _ (by rw [ho]; intro c hc'; cases hc')]
  simp [execOp, ho, resolve, invoke, builtin, hs, hx, hrun, Result.andThen]
  exact hK _ _ (h v' w' h1 h2 h3)
end
end Go.Proofs.YtfgkaookgfghoaaGreat
end

section
namespace Go.Proofs.YtfgkaookgfghoaaGreat
open Go.RowKit
set_option linter.unusedVariables false

theorem cvRet_int {k : IntKind} {a b : Int} (h : a = b) : Ending.returned (.int k a) = .returned (.int k b) := by rw [h]
theorem cvRet_bool {a b : Bool} (h : a = b) : Ending.returned (.bool a) = .returned (.bool b) := by rw [h]
theorem mul_bd {a b : Int} {A B : Int} (h0 : 0 ≤ a) (h1 : a ≤ A) (h2 : 0 ≤ b) (h3 : b ≤ B) (hA : 0 ≤ A) : 0 ≤ a * b ∧ a * b ≤ A * B :=
  ⟨Int.mul_nonneg h0 h2, Int.mul_le_mul h1 h3 h2 hA⟩
theorem bcell {W w1 : World} (hb : Below W.heap.size W w1) : (∀ b o, b < W.heap.size → w1.cell? ⟨b, o, none⟩ = W.cell? ⟨b, o, none⟩) ∧ (∀ b o, b < W.heap.size → w1.frozen? ⟨b, o, none⟩ = W.frozen? ⟨b, o, none⟩) :=
  ⟨fun b o h => hb.cell (p := ⟨b, o, none⟩) h, fun b o h => hb.frozen (p := ⟨b, o, none⟩) h⟩
theorem below_box {w w1 : World} {o : Obj} (h : Below (w.alloc o).heap.size (w.alloc o) w1) : Below w.heap.size w w1 :=
  ((Below.refl _ _).alloc (Nat.le_refl _) o).trans (h.mono (by simp))
theorem below_dn {B : Nat} {a w : World} (h : Below B a w) (n : Nat) : Below B a (w.drewN n) := h.trans ⟨rfl, rfl, rfl, Nat.le_refl _, fun _ _ => rfl⟩

theorem below_new {w0 w : World} (h : Below w0.heap.size w0 w) (o : Obj) : Below w0.heap.size w0 (w.alloc o) := h.alloc h.size o

def inB (n b : Int) : Bool := decide (0 ≤ n) && decide (n ≤ b)
theorem inB_out {n b : Int} (h : inB n b = true) : 0 ≤ n ∧ n ≤ b := by simpa [inB] using h
def withinB (n l m : Int) : Bool := decide (l ≤ n) && decide (n ≤ m)
theorem withinB_out {n l m : Int} (h : withinB n l m = true) : l ≤ n ∧ n ≤ m := by simpa [withinB] using h

def votesI (n level : Int) : Int := if level = 0 then n / 10 else n * level
def periodI (level period : Int) : Int := if level = 0 then 0 else period * 2 ^ (level - 1).toNat

theorem cvWithin (n l m : Int) (w : World) :
    Calls Tryz.prog 27 #[.int .i64 n, .int .i64 l, .int .i64 m] w fun e w' => e = .returned (.bool (withinB n l m)) ∧ w = w' := by
  by_cases h0 : l ≤ n
  · go_enter Tryz.func27, Tryz.ntmps27
    go_wp2
    go_ret
    exact ⟨cvRet_bool (by simp [withinB, h0]), rfl⟩
  · go_enter Tryz.func27, Tryz.ntmps27
    go_wp2
    go_ret
    exact ⟨cvRet_bool (by simp [withinB]; omega), rfl⟩

theorem cvBalance (n : Int) (w : World) :
    Calls Tryz.prog 25 #[.int .i64 n] w fun e w' => e = .returned (.bool (withinB n 0 1073741824)) ∧ w = w' := by
  go_enter Tryz.func25, Tryz.ntmps25
  go_wp2_with (go_at_call 27; refine (cvWithin _ _ _ _).mono ?_; rintro e w' ⟨rfl, rfl⟩)
  go_ret
  exact ⟨rfl, rfl⟩

abbrev vote (k : Int) (aye : Bool) (l a n s : Int) : Value := .agg #[.int .i64 k, .bool aye, .int .i64 l, .int .i64 a, .int .i64 n, .int .i64 s]
abbrev weight (v c : Int) : Value := .agg #[.int .i64 v, .int .i64 c]
abbrev tally (a n s : Int) : Value := .agg #[.int .i64 a, .int .i64 n, .int .i64 s]

def shapedB (k : Int) (aye : Bool) (l n s : Int) : Bool :=
  if k = 1 then withinB l 0 6 && (n == 0) && (s == 0)
  else if k = 2 then !aye && (l == 0) && (s == 0)
  else if k = 3 then !aye && (l == 0)
  else false
def voteB (k : Int) (aye : Bool) (l a n s : Int) : Bool :=
  shapedB k aye l n s && withinB a 0 1073741824 && withinB n 0 1073741824 && withinB s 0 1073741824 && withinB (a + n + s) 0 1073741824

end Go.Proofs.YtfgkaookgfghoaaGreat
end

section
namespace Go.Proofs.YtfgkaookgfghoaaGreat
open Go.RowKit
set_option linter.unusedVariables false

def ratioI (a b : Int) : Int := if b = 0 then 0 else min (a * 1000000000 / b) 1000000000

theorem div_le_self' {a b : Int} (ha : 0 ≤ a) (hb : 0 < b) : 0 ≤ a / b ∧ a / b ≤ a :=
  ⟨Int.ediv_nonneg ha (by omega), by
    have h1 := Int.mul_ediv_add_emod a b
    have h2 := Int.emod_nonneg a (show b ≠ 0 by omega)
    have h3 := Int.ediv_nonneg ha (show 0 ≤ b by omega)
    have h4 : 1 * (a / b) ≤ b * (a / b) := Int.mul_le_mul_of_nonneg_right (by omega) h3
    omega⟩

def fallsB (a b c : Int) : Bool := withinB a 0 1000000000 && withinB b 0 a && withinB c 1 1000000000
def isB (k a b c d : Int) : Bool :=
  if k = 1 then fallsB a b c && (d == 0)
  else if k = 2 then fallsB a b c && withinB d 1 1000000000
  else if k = 3 then withinB a 0 1000000000 && withinB b 1 1000000000 && withinB c 0 1000000000 && (d == 0)
  else false

def heldI (n : Int) : Int := min (max n 0) 1000000000
abbrev curve (k a b c d : Int) : Value := .agg #[.int .i64 k, .int .i64 a, .int .i64 b, .int .i64 c, .int .i64 d]

theorem ref4_in (n l m : Int) (w : World) :
    Calls Tryz.prog 73 #[.int .i64 n, .int .i64 l, .int .i64 m] w fun e w' => e = .returned (.bool (withinB n l m)) ∧ w = w' := by
  by_cases h0 : l ≤ n
  · go_enter Tryz.func73, Tryz.ntmps73
    go_wp2
    go_ret
    exact ⟨cvRet_bool (by simp [withinB, h0]), rfl⟩
  · go_enter Tryz.func73, Tryz.ntmps73
    go_wp2
    go_ret
    exact ⟨cvRet_bool (by simp [withinB]; omega), rfl⟩

theorem per_within (n l : Int) (w : World) :
    Calls Tryz.prog 72 #[.int .i64 n, .int .i64 l] w fun e w' => e = .returned (.bool (withinB n l 1000000000)) ∧ w = w' := by
  go_enter Tryz.func72, Tryz.ntmps72
  go_wp2_with (go_at_call 27; refine (cvWithin _ _ _ _).mono ?_; rintro e w' ⟨rfl, rfl⟩)
  go_ret
  exact ⟨rfl, rfl⟩

theorem per_falls (k a b c d : Int) (w : World) :
    Calls Tryz.prog 71 #[curve k a b c d] w fun e w' => e = .returned (.bool (fallsB a b c)) ∧ Below w.heap.size w w' := by
  go_enter Tryz.func71, Tryz.ntmps71
  go_wp2_with (first | (go_at_call 27; refine (cvWithin _ _ _ _).mono ?_; rintro e w' ⟨rfl, rfl⟩) | (go_at_call 72; refine (per_within _ _ _).mono ?_; rintro e w' ⟨rfl, rfl⟩))
  all_goals
    go_ret
    exact ⟨cvRet_bool (by simp [fallsB, *]), (Below.refl _ _).alloc (Nat.le_refl _) _⟩

theorem per_Is (k a b c d : Int) (w : World) :
    Calls Tryz.prog 54 #[curve k a b c d] w fun e w' => e = .returned (.bool (isB k a b c d)) ∧ Below w.heap.size w w' := by
  by_cases k1 : k = 1
  · subst k1
    go_enter Tryz.func54, Tryz.ntmps54
    go_wp2_with (go_at_call 71; refine (per_falls _ _ _ _ _ _).mono ?_; rintro e w' ⟨rfl, hb⟩; obtain ⟨hc, hf⟩ := bcell hb)
    all_goals
      go_ret
      exact ⟨cvRet_bool (by simp [isB, *]), below_box hb⟩
  · by_cases k2 : k = 2
    · subst k2
      go_enter Tryz.func54, Tryz.ntmps54
      go_wp2_with (first | (go_at_call 71; refine (per_falls _ _ _ _ _ _).mono ?_; rintro e w' ⟨rfl, hb⟩; obtain ⟨hc, hf⟩ := bcell hb) | (go_at_call 72; refine (per_within _ _ _).mono ?_; rintro e w' ⟨rfl, rfl⟩))
      all_goals
        go_ret
        exact ⟨cvRet_bool (by simp [isB, *]), below_box hb⟩
    · by_cases k3 : k = 3
      · subst k3
        go_enter Tryz.func54, Tryz.ntmps54
        go_wp2_with (go_at_call 72; refine (per_within _ _ _).mono ?_; rintro e w' ⟨rfl, rfl⟩)
        all_goals
          go_ret
          exact ⟨cvRet_bool (by simp [isB, *]), (Below.refl _ _).alloc (Nat.le_refl _) _⟩
      · go_enter Tryz.func54, Tryz.ntmps54
        go_wp2
        go_ret
        exact ⟨cvRet_bool (by simp [isB, *]), (Below.refl _ _).alloc (Nat.le_refl _) _⟩

theorem ref4_Is (k a b c d : Int) (w : World) :
    Calls Tryz.prog 56 #[curve k a b c d] w fun e w' => e = .returned (.bool (isB k a b c d)) ∧ Below w.heap.size w w' := by
  by_cases k1 : k = 1
  · subst k1
    go_enter Tryz.func56, Tryz.ntmps56
    go_wp2_with (go_at_call 73; refine (ref4_in _ _ _ _).mono ?_; rintro e w' ⟨rfl, rfl⟩)
    all_goals
      go_ret
      exact ⟨cvRet_bool (by simp [isB, fallsB, *]), (Below.refl _ _).alloc (Nat.le_refl _) _⟩
  · by_cases k2 : k = 2
    · subst k2
      go_enter Tryz.func56, Tryz.ntmps56
      go_wp2_with (go_at_call 73; refine (ref4_in _ _ _ _).mono ?_; rintro e w' ⟨rfl, rfl⟩)
      all_goals
        go_ret
        exact ⟨cvRet_bool (by simp [isB, fallsB, *]), (Below.refl _ _).alloc (Nat.le_refl _) _⟩
    · by_cases k3 : k = 3
      · subst k3
        go_enter Tryz.func56, Tryz.ntmps56
        go_wp2_with (go_at_call 73; refine (ref4_in _ _ _ _).mono ?_; rintro e w' ⟨rfl, rfl⟩)
        all_goals
          go_ret
          exact ⟨cvRet_bool (by simp [isB, *]), (Below.refl _ _).alloc (Nat.le_refl _) _⟩
      · go_enter Tryz.func56, Tryz.ntmps56
        go_wp2
        go_ret
        exact ⟨cvRet_bool (by simp [isB, *]), (Below.refl _ _).alloc (Nat.le_refl _) _⟩

/-- The threshold of a curve that may be. -/
def atI (k a b c d x : Int) : Int :=
  if k = 1 then (if heldI x ≥ c then b else a - (a - b) * heldI x / c)
  else if k = 2 then max (a - c * (heldI x / d)) b
  else heldI (a * 1000000000 / (heldI x + b) - c)

theorem held_bd (x : Int) : 0 ≤ heldI x ∧ heldI x ≤ 1000000000 := by unfold heldI; omega

theorem is1_out {a b c d : Int} (h : isB 1 a b c d = true) : (0 ≤ a ∧ a ≤ 1000000000) ∧ (0 ≤ b ∧ b ≤ a) ∧ (1 ≤ c ∧ c ≤ 1000000000) ∧ d = 0 := by
  simpa [isB, fallsB, withinB, and_assoc] using h
theorem is2_out {a b c d : Int} (h : isB 2 a b c d = true) : (0 ≤ a ∧ a ≤ 1000000000) ∧ (0 ≤ b ∧ b ≤ a) ∧ (1 ≤ c ∧ c ≤ 1000000000) ∧ (1 ≤ d ∧ d ≤ 1000000000) := by
  simpa [isB, fallsB, withinB, and_assoc] using h
theorem is3_out {a b c d : Int} (h : isB 3 a b c d = true) : (0 ≤ a ∧ a ≤ 1000000000) ∧ (1 ≤ b ∧ b ≤ 1000000000) ∧ (0 ≤ c ∧ c ≤ 1000000000) ∧ d = 0 := by
  simpa [isB, withinB, and_assoc] using h

theorem at1_end {a b c d x : Int} (h : c ≤ heldI x) : atI 1 a b c d x = b := by simp [atI, h]
theorem at1_mid {a b c d x : Int} (h : heldI x < c) : atI 1 a b c d x = a - (a - b) * heldI x / c := by simp [atI, Int.not_le.2 h]
theorem at2_eq {a b c d x : Int} : atI 2 a b c d x = max (a - c * (heldI x / d)) b := by simp [atI]
theorem at3_eq {a b c d x : Int} : atI 3 a b c d x = heldI (a * 1000000000 / (heldI x + b) - c) := by simp [atI]

end Go.Proofs.YtfgkaookgfghoaaGreat
end

section
namespace Go.Proofs.YtfgkaookgfghoaaGreat
open Go.RowKit

theorem held_cases (x : Int) : (x < 0 ∧ heldI x = 0) ∨ (1000000000 < x ∧ heldI x = 1000000000) ∨ (0 ≤ x ∧ x ≤ 1000000000 ∧ heldI x = x) := by unfold heldI; omega

theorem ratio_bd {a b : Int} (h0 : 0 ≤ a) (h2 : 0 ≤ b) : 0 ≤ ratioI a b ∧ ratioI a b ≤ 1000000000 := by
  unfold ratioI; split
  · omega
  · have := Int.ediv_nonneg (show 0 ≤ a * 1000000000 by omega) h2; omega
theorem ratio_iff {a b t : Int} (hb : 0 < b) (ht : t ≤ 1000000000) : t ≤ ratioI a b ↔ t * b ≤ a * 1000000000 := by
  unfold ratioI; rw [if_neg (by omega), ← Int.le_ediv_iff_mul_le hb]; omega
theorem ratio_self {n : Int} (h : 0 ≤ n) : ratioI n n = if 0 < n then 1000000000 else 0 := by
  unfold ratioI
  by_cases hn : n = 0
  · subst hn; simp
  · have : n * 1000000000 / n = 1000000000 := Int.mul_ediv_cancel_left _ hn
    rw [if_neg hn, if_pos (by omega), this]; omega

theorem held_mono {x y : Int} (h : x ≤ y) : heldI x ≤ heldI y := by unfold heldI; omega

theorem lin_bd {a b c h : Int} (hb : b ≤ a) (hc : 0 < c) (h0 : 0 ≤ h) (h1 : h ≤ c) : 0 ≤ (a - b) * h / c ∧ (a - b) * h / c ≤ a - b := by
  have m0 := Int.mul_nonneg (show 0 ≤ a - b by omega) h0
  have m1 := Int.mul_le_mul_of_nonneg_left h1 (show 0 ≤ a - b by omega)
  exact ⟨Int.ediv_nonneg m0 (by omega), Int.ediv_le_of_le_mul hc m1⟩

theorem div_anti {A y z : Int} (hA : 0 ≤ A) (hy : 0 < y) (h : y ≤ z) : A / z ≤ A / y := by
  apply Int.le_ediv_of_mul_le hy
  have h1 := Int.ediv_nonneg hA (show 0 ≤ z by omega)
  have h2 := Int.mul_le_mul_of_nonneg_left h h1
  have h3 := Int.ediv_mul_le A (show z ≠ 0 by omega)
  omega

theorem is_kind {k a b c d : Int} (h : isB k a b c d = true) : k = 1 ∨ k = 2 ∨ k = 3 := by
  by_cases k1 : k = 1
  · exact .inl k1
  by_cases k2 : k = 2
  · exact .inr (.inl k2)
  by_cases k3 : k = 3
  · exact .inr (.inr k3)
  · simp [isB, k1, k2, k3] at h

theorem at_bd {k a b c d : Int} (h : isB k a b c d = true) (x : Int) : 0 ≤ atI k a b c d x ∧ atI k a b c d x ≤ 1000000000 := by
  obtain ⟨y0, y1⟩ := held_bd x
  rcases is_kind h with rfl | rfl | rfl
  · obtain ⟨⟨a0, a1⟩, ⟨b0, b1⟩, ⟨c0, c1⟩, -⟩ := is1_out h
    by_cases hx : c ≤ heldI x
    · rw [at1_end hx]; omega
    · have := lin_bd (h := heldI x) b1 (show 0 < c by omega) y0 (by omega)
      rw [at1_mid (by omega)]; omega
  · obtain ⟨⟨a0, a1⟩, ⟨b0, b1⟩, ⟨c0, c1⟩, d0, d1⟩ := is2_out h
    have q0 := Int.ediv_nonneg y0 (show 0 ≤ d by omega)
    have m0 := Int.mul_nonneg (show 0 ≤ c by omega) q0
    rw [at2_eq]; omega
  · rw [at3_eq]; exact held_bd _

theorem at_falls {k a b c d : Int} (h : isB k a b c d = true) {x y : Int} (hxy : x ≤ y) : atI k a b c d y ≤ atI k a b c d x := by
  obtain ⟨x0, x1⟩ := held_bd x
  obtain ⟨y0, y1⟩ := held_bd y
  have hm := held_mono hxy
  rcases is_kind h with rfl | rfl | rfl
  · obtain ⟨⟨a0, a1⟩, ⟨b0, b1⟩, ⟨c0, c1⟩, -⟩ := is1_out h
    by_cases hx : c ≤ heldI x
    · rw [at1_end hx, at1_end (by omega)]; omega
    · have l1 := lin_bd (h := heldI x) b1 (show 0 < c by omega) x0 (by omega)
      rw [at1_mid (show heldI x < c by omega)]
      by_cases hy : c ≤ heldI y
      · rw [at1_end hy]; omega
      · rw [at1_mid (show heldI y < c by omega)]
        have := Int.ediv_le_ediv (show 0 < c by omega) (Int.mul_le_mul_of_nonneg_left hm (show 0 ≤ a - b by omega))
        omega
  · obtain ⟨⟨a0, a1⟩, ⟨b0, b1⟩, ⟨c0, c1⟩, d0, d1⟩ := is2_out h
    have q := Int.ediv_le_ediv (show 0 < d by omega) hm
    have m := Int.mul_le_mul_of_nonneg_left q (show 0 ≤ c by omega)
    rw [at2_eq, at2_eq]; omega
  · obtain ⟨⟨a0, a1⟩, ⟨b0, b1⟩, ⟨c0, c1⟩, -⟩ := is3_out h
    have q := div_anti (A := a * 1000000000) (by omega) (show 0 < heldI x + b by omega) (show heldI x + b ≤ heldI y + b by omega)
    rw [at3_eq, at3_eq]; exact held_mono (by omega)

/-- A curve lies in the first block behind w0's; what was there in w0 is as it was. -/
structure CBoxed (w0 : World) (k a b' c d : Int) (w : World) : Prop where
  c0 : w.cell? ⟨w0.heap.size, 0, none⟩ = some (.int .i64 k)
  c1 : w.cell? ⟨w0.heap.size, 1, none⟩ = some (.int .i64 a)
  c2 : w.cell? ⟨w0.heap.size, 2, none⟩ = some (.int .i64 b')
  c3 : w.cell? ⟨w0.heap.size, 3, none⟩ = some (.int .i64 c)
  c4 : w.cell? ⟨w0.heap.size, 4, none⟩ = some (.int .i64 d)
  lt : w0.heap.size < w.heap.size
  old : Below w0.heap.size w0 w

theorem CBoxed.all {w0 : World} {k a b' c d : Int} {w : World} (h : CBoxed w0 k a b' c d w) : w.cell? ⟨w0.heap.size, 0, none⟩ = some (.int .i64 k) ∧ w.cell? ⟨w0.heap.size, 1, none⟩ = some (.int .i64 a) ∧ w.cell? ⟨w0.heap.size, 2, none⟩ = some (.int .i64 b') ∧ w.cell? ⟨w0.heap.size, 3, none⟩ = some (.int .i64 c) ∧ w.cell? ⟨w0.heap.size, 4, none⟩ = some (.int .i64 d) := ⟨h.c0, h.c1, h.c2, h.c3, h.c4⟩
theorem CBoxed.below {w0 : World} {k a b' c d : Int} {w w' : World} (h : CBoxed w0 k a b' c d w) (hb : Below w.heap.size w w') : CBoxed w0 k a b' c d w' := by
  obtain ⟨hc, _⟩ := bcell hb
  exact ⟨(hc _ _ h.lt).trans h.c0, (hc _ _ h.lt).trans h.c1, (hc _ _ h.lt).trans h.c2, (hc _ _ h.lt).trans h.c3, (hc _ _ h.lt).trans h.c4, Nat.lt_of_lt_of_le h.lt hb.size, h.old.trans (hb.mono h.old.size)⟩
theorem CBoxed.drew {w0 : World} {k a b' c d : Int} {w : World} (h : CBoxed w0 k a b' c d w) : CBoxed w0 k a b' c d w.drew := ⟨h.c0, h.c1, h.c2, h.c3, h.c4, h.lt, h.old.drew⟩
theorem CBoxed.new {k a b' c d : Int} {w : World} {t : TypeId} : CBoxed w k a b' c d (w.alloc (.cells #[.int .i64 k, .int .i64 a, .int .i64 b', .int .i64 c, .int .i64 d] t)) := by
  constructor
  case old => exact (Below.refl _ _).alloc (Nat.le_refl _) _
  all_goals simp

end Go.Proofs.YtfgkaookgfghoaaGreat
end

section
namespace Go.Proofs.YtfgkaookgfghoaaGreat
open Go.RowKit
set_option linter.unusedVariables false

/-- A track's numbers, in their order. -/
structure Trk where
  most : Int
  dep : Int
  prep : Int
  dec : Int
  conf : Int
  en : Int
  ak : Int
  aa : Int
  ab : Int
  ac : Int
  ad : Int
  sk : Int
  sa : Int
  sb : Int
  sc : Int
  sd : Int
  cap : Int
  rank : Int

abbrev Trk.cells (t : Trk) : Array Value := #[.int .i64 t.most, .int .i64 t.dep, .int .i64 t.prep, .int .i64 t.dec, .int .i64 t.conf, .int .i64 t.en, .int .i64 t.ak, .int .i64 t.aa, .int .i64 t.ab, .int .i64 t.ac, .int .i64 t.ad, .int .i64 t.sk, .int .i64 t.sa, .int .i64 t.sb, .int .i64 t.sc, .int .i64 t.sd, .int .i64 t.cap, .int .i64 t.rank]
abbrev Trk.val (t : Trk) : Value := .agg t.cells

def trackB (t : Trk) : Bool :=
  withinB t.most 1 12 && withinB t.dep 0 1073741824 && withinB t.cap 0 1073741824 && withinB t.prep 0 1000 && withinB t.conf 0 1000 && withinB t.en 0 1000 && withinB t.dec 1 1000 &&
    isB t.ak t.aa t.ab t.ac t.ad && isB t.sk t.sa t.sb t.sc t.sd && withinB t.rank 0 2

/-- A track lies in the first block behind w0's. -/
structure KBox (w0 : World) (t : Trk) (w : World) : Prop where
  c0 : w.cell? ⟨w0.heap.size, 0, none⟩ = some (.int .i64 t.most)
  c1 : w.cell? ⟨w0.heap.size, 1, none⟩ = some (.int .i64 t.dep)
  c2 : w.cell? ⟨w0.heap.size, 2, none⟩ = some (.int .i64 t.prep)
  c3 : w.cell? ⟨w0.heap.size, 3, none⟩ = some (.int .i64 t.dec)
  c4 : w.cell? ⟨w0.heap.size, 4, none⟩ = some (.int .i64 t.conf)
  c5 : w.cell? ⟨w0.heap.size, 5, none⟩ = some (.int .i64 t.en)
  c6 : w.cell? ⟨w0.heap.size, 6, none⟩ = some (.int .i64 t.ak)
  c7 : w.cell? ⟨w0.heap.size, 7, none⟩ = some (.int .i64 t.aa)
  c8 : w.cell? ⟨w0.heap.size, 8, none⟩ = some (.int .i64 t.ab)
  c9 : w.cell? ⟨w0.heap.size, 9, none⟩ = some (.int .i64 t.ac)
  c10 : w.cell? ⟨w0.heap.size, 10, none⟩ = some (.int .i64 t.ad)
  c11 : w.cell? ⟨w0.heap.size, 11, none⟩ = some (.int .i64 t.sk)
  c12 : w.cell? ⟨w0.heap.size, 12, none⟩ = some (.int .i64 t.sa)
  c13 : w.cell? ⟨w0.heap.size, 13, none⟩ = some (.int .i64 t.sb)
  c14 : w.cell? ⟨w0.heap.size, 14, none⟩ = some (.int .i64 t.sc)
  c15 : w.cell? ⟨w0.heap.size, 15, none⟩ = some (.int .i64 t.sd)
  c16 : w.cell? ⟨w0.heap.size, 16, none⟩ = some (.int .i64 t.cap)
  c17 : w.cell? ⟨w0.heap.size, 17, none⟩ = some (.int .i64 t.rank)
  lt : w0.heap.size < w.heap.size
  old : Below w0.heap.size w0 w
theorem KBox.below {w0 : World} {t : Trk} {w w' : World} (h : KBox w0 t w) (hb : Below w.heap.size w w') : KBox w0 t w' := by
  obtain ⟨hc, _⟩ := bcell hb
  exact ⟨(hc _ _ h.lt).trans h.c0, (hc _ _ h.lt).trans h.c1, (hc _ _ h.lt).trans h.c2, (hc _ _ h.lt).trans h.c3, (hc _ _ h.lt).trans h.c4, (hc _ _ h.lt).trans h.c5, (hc _ _ h.lt).trans h.c6, (hc _ _ h.lt).trans h.c7, (hc _ _ h.lt).trans h.c8, (hc _ _ h.lt).trans h.c9,
    (hc _ _ h.lt).trans h.c10, (hc _ _ h.lt).trans h.c11, (hc _ _ h.lt).trans h.c12, (hc _ _ h.lt).trans h.c13, (hc _ _ h.lt).trans h.c14, (hc _ _ h.lt).trans h.c15, (hc _ _ h.lt).trans h.c16, (hc _ _ h.lt).trans h.c17, Nat.lt_of_lt_of_le h.lt hb.size, h.old.trans (hb.mono h.old.size)⟩
theorem KBox.new {t : Trk} {w : World} {T : TypeId} : KBox w t (w.alloc (.cells t.cells T)) := by
  constructor
  case old => exact (Below.refl _ _).alloc (Nat.le_refl _) _
  all_goals simp

theorem track_blocks (n l : Int) (w : World) :
    Calls Tryz.prog 53 #[.int .i64 n, .int .i64 l] w fun e w' => e = .returned (.bool (withinB n l 1000)) ∧ w = w' := by
  go_enter Tryz.func53, Tryz.ntmps53
  go_wp2_with (go_at_call 27; refine (cvWithin _ _ _ _).mono ?_; rintro e w' ⟨rfl, rfl⟩)
  go_ret
  exact ⟨rfl, rfl⟩

theorem ref10_in (n l m : Int) (w : World) :
    Calls Tryz.prog 55 #[.int .i64 n, .int .i64 l, .int .i64 m] w fun e w' => e = .returned (.bool (withinB n l m)) ∧ w = w' := by
  by_cases h0 : l ≤ n
  · go_enter Tryz.func55, Tryz.ntmps55
    go_wp2
    go_ret
    exact ⟨cvRet_bool (by simp [withinB, h0]), rfl⟩
  · go_enter Tryz.func55, Tryz.ntmps55
    go_wp2
    go_ret
    exact ⟨cvRet_bool (by simp [withinB]; omega), rfl⟩

set_option maxHeartbeats 4000000 in
theorem track_Is (t : Trk) (w : World) :
    Calls Tryz.prog 28 #[t.val] w fun e w' => e = .returned (.bool (trackB t)) ∧ Below w.heap.size w w' := by
  go_enter Tryz.func28, Tryz.ntmps28
  go_wp2_with (first | (go_at_call 27; refine (cvWithin _ _ _ _).mono ?_; rintro e w' ⟨rfl, rfl⟩) | (go_at_call 25; refine (cvBalance _ _).mono ?_; rintro e w' ⟨rfl, rfl⟩) | (go_at_call 53; refine (track_blocks _ _ _).mono ?_; rintro e w' ⟨rfl, rfl⟩) | (go_at_call 54; refine (per_Is _ _ _ _ _ _).mono ?_; rintro e w1 ⟨rfl, hb1⟩; first | (have B2 := B1.below hb1; clear hb1; have y17 := B2.c17) | (have B1 := (KBox.new (t := t)).below hb1; clear hb1; have x11 := B1.c11; have x12 := B1.c12; have x13 := B1.c13; have x14 := B1.c14; have x15 := B1.c15; have x16 := B1.c16; have x17 := B1.c17)) | fail)
  all_goals
    go_ret
    exact ⟨cvRet_bool (by simp [trackB, *]), (by first | exact B2.old | exact B1.old | exact below_new (Below.refl _ _) _)⟩

set_option maxHeartbeats 4000000 in
theorem ref10_Is (t : Trk) (w : World) :
    Calls Tryz.prog 32 #[t.val] w fun e w' => e = .returned (.bool (trackB t)) ∧ Below w.heap.size w w' := by
  go_enter Tryz.func32, Tryz.ntmps32
  go_wp2_with (first | (go_at_call 55; refine (ref10_in _ _ _ _).mono ?_; rintro e w' ⟨rfl, rfl⟩) | (go_at_call 56; refine (ref4_Is _ _ _ _ _ _).mono ?_; rintro e w1 ⟨rfl, hb1⟩; first | (have B2 := B1.below hb1; clear hb1; have y17 := B2.c17) | (have B1 := (KBox.new (t := t)).below hb1; clear hb1; have x11 := B1.c11; have x12 := B1.c12; have x13 := B1.c13; have x14 := B1.c14; have x15 := B1.c15; have x16 := B1.c16; have x17 := B1.c17)) | fail)
  all_goals
    go_ret
    exact ⟨cvRet_bool (by simp [trackB, *]), (by first | exact B2.old | exact B1.old | exact below_new (Below.refl _ _) _)⟩

/-- A tally that may be asked. -/
def Fits10 (x y s issued : Int) : Prop := 0 ≤ x ∧ 0 ≤ y ∧ x + y ≤ 8589934592 ∧ 0 ≤ s ∧ s ≤ 8589934592 ∧ 0 ≤ issued ∧ issued ≤ 8589934592

end Go.Proofs.YtfgkaookgfghoaaGreat
end

section
namespace Go.Proofs.YtfgkaookgfghoaaGreat
open Go.RowKit
set_option linter.unusedVariables false
set_option linter.unusedSimpArgs false

def trkL (t : Trk) : List Value := t.cells.toList
theorem trkL_ones (t : Trk) : ∀ u ∈ trkL t, u.oneCell' = true := by
  intro u hu
  simp only [trkL, Trk.cells, List.mem_cons, List.not_mem_nil, or_false] at hu
  rcases hu with rfl | rfl | rfl | rfl | rfl | rfl | rfl | rfl | rfl | rfl | rfl | rfl | rfl | rfl | rfl | rfl | rfl | rfl <;> rfl
def trk0 : Trk := ⟨0, 0, 0, 0, 0, 0, 0, 0, 0, 0, 0, 0, 0, 0, 0, 0, 0, 0⟩
theorem trackSize : (Tryz.prog.info? 72).map (fun i => (i.size, i.bytes)) = some (18, 144) := by kernel_rfl
theorem trackZero : (Tryz.prog.info? 72).bind (fun i => i.zero.map (fun z => decide ((match z with | .agg a => a.size | _ => 0) = 18))) = some true := by kernel_rfl
theorem trackInfo : ∃ i0 z b, Tryz.prog.info? 72 = some i0 ∧ i0.zero = some (.agg z) ∧ i0.size = 18 ∧ z.size = 18 ∧ i0.bytes = b ∧ b ≤ 8000 := by
  obtain ⟨i0, hi, hz⟩ := Option.map_eq_some_iff.1 trackSize
  simp only [Prod.mk.injEq] at hz
  have h := trackZero
  rw [hi] at h
  simp only [Option.bind_some, Option.map_eq_some_iff] at h
  obtain ⟨z, h1, h2⟩ := h
  have h3 := of_decide_eq_true h2
  cases z with
  | agg a => exact ⟨i0, a, _, hi, h1, hz.1, h3, hz.2, by decide⟩
  | _ => cases h3
def trkR : RowTy Tryz.prog Trk where
  T := 72
  S := 53
  k := 18
  f := trkL
  len := fun _ => rfl
  one := trkL_ones
  pos := by decide
  small := by decide
  slice := Tryz.underlying53
  info := trackInfo
  row := ⟨_, Tryz.underlying72, rfl⟩
end Go.Proofs.YtfgkaookgfghoaaGreat
end

section
namespace Go.Proofs.YtfgkaookgfghoaaGreat
open Go.RowKit Go.Maps
set_option linter.unusedVariables false
set_option linter.unusedSimpArgs false

/-- Tracks, and a table of referenda, which lie in the blocks of F. -/
def ReAt (F : FP) (r : Nat) (ts : List Trk) (w : World) : Prop :=
  ∃ tb cap gp, w.heap[r]? = some (.cells #[.slice (some ⟨tb, 0, none⟩) ts.length cap, gp] 105 (0, 0)) ∧ w.rangeAt tb 0 (trkR.all ts) ∧ F r ∧ F tb ∧ tb < w.heap.size ∧ ts.length ≤ 100
section
variable {F : FP} {r : Nat} {ts : List Trk} {w w' : World}
theorem ReAt.keep (h : ReAt F r ts w) (hs : w.heap.size ≤ w'.heap.size) (hk : ∀ k, F k → k < w.heap.size → w'.heap[k]? = w.heap[k]?) : ReAt F r ts w' := by
  obtain ⟨tb, cap, gp, h1, h2, h3, h4, h5, h6⟩ := h
  exact ⟨tb, cap, gp, (hk r h3 (Array.getElem?_eq_some_iff.1 h1).1).trans h1, rangeAt_block h2 (hk tb h4 h5), h3, h4, Nat.lt_of_lt_of_le h5 hs, h6⟩
theorem ReAt.below (h : ReAt F r ts w) (hb : Below w.heap.size w w') : ReAt F r ts w' := h.keep hb.size (fun k _ hk => hb.block k hk)
theorem ReAt.mono {F' : FP} (h : ReAt F r ts w) (hF : ∀ k, F k → F' k) : ReAt F' r ts w := by
  obtain ⟨tb, cap, gp, h1, h2, h3, h4, h5⟩ := h
  exact ⟨tb, cap, gp, h1, h2, hF _ h3, hF _ h4, h5⟩
end
set_option maxRecDepth 100000 in
set_option maxHeartbeats 4000000 in
theorem refer_Track {F : FP} {r : Nat} {ts : List Trk} {w : World} (h : ReAt F r ts w) {k : Nat} (hk : k < ts.length) :
    Calls Tryz.prog 20 #[.pointer (some ⟨r, 0, none⟩), .int .i64 k] w fun e w' => e = .returned (.tuple #[.agg (trkR.f ts[k]).toArray, .bool true]) ∧ Below w.heap.size w w' := by
  obtain ⟨tb, cap, gp, h1, h2, h3, h4, h5, h6⟩ := h
  obtain ⟨n, hn⟩ : ∃ n, n = ts.length := ⟨_, rfl⟩
  rw [← hn] at h1
  have c0 : w.cell? ⟨r, 0, none⟩ = some (.slice (some ⟨tb, 0, none⟩) n cap) := by rw [World.cell?, h1]; rfl
  have hr : w.rangeAt tb (k * 18) (trkR.f ts[k]) := fun j u hj => by
    have hj18 : j < 18 := by have := (List.getElem?_eq_some_iff.1 hj).1; rwa [trkR.len] at this
    have := h2 (k * 18 + j) u (by rw [show k * 18 + j = k * trkR.k + j from rfl, trkR.all_at hk hj18]; exact hj)
    rwa [Nat.zero_add] at this
  obtain ⟨t, ht⟩ : ∃ t, t = ts[k] := ⟨_, rfl⟩
  rw [← ht] at hr ⊢
  have hrlt : r < w.heap.size := (Array.getElem?_eq_some_iff.1 h1).1
  have hkn : (k : Int) < n := by omega
  have hk0 : (0 : Int) ≤ k := by omega
  have hd : decide ((0 : Int) ≤ (k : Int) ∧ (k : Int) < (n : Int)) = true := decide_eq_true ⟨hk0, hkn⟩
  have hkn' : k < n := by omega
  have HD := Lib.hid hd
  have c0' : ∀ C, (w.alloc (.cells C 72)).cell? ⟨r, 0, none⟩ = some (.slice (some ⟨tb, 0, none⟩) n cap) := fun C => (World.cell?_of_block (Below.heap_alloc _ _ _ hrlt)).trans c0
  have hr' : ∀ C, (w.alloc (.cells C 72)).rangeAt tb (k * 18) (trkR.f t) := fun C => rangeAt_block hr (Below.heap_alloc _ _ _ h5)
  have HR := Lib.hid hr'
  have HC := Lib.hid c0'
  clear h1 h2 h3 h4 ht hn hd hr hr' c0' hk h6 c0
  go_enter Tryz.func20, Tryz.ntmps20
  go_wp2_with (first
    | (refine wpl_allocR (r := trkR) (ty := 72) rfl rfl rfl ?_; intro C hC; have c1 := HC.out C)
    | (go_at_call 47; refine (bound_Below _ _ _).mono ?_; rw [HD.out]; rintro e w' ⟨rfl, hw⟩; rw [hw]; clear hw w')
    | (refine wpl_loadR (r := trkR) (t := t) _ rfl rfl rfl (HR.out C) ?_)
    | (refine wpl_storeR (r := trkR) (ty := 72) (t := t) (C := C) _ _ rfl rfl rfl rfl rfl (World.alloc_heap_new w _) hC ?_; rw [World.setRow_alloc_new])
    | fail)
  exact bodyPost_ret (v := .tuple #[.agg (trkR.f t).toArray, .bool true]) (by exact results_R2 (r := trkR) (t := t) (b := w.heap.size) Tryz.results20 rfl rfl (rangeAt_whole (T := 72) (World.alloc_heap_new _ _))) rfl ⟨rfl, (Below.refl _ w).alloc (Nat.le_refl _) _⟩
set_option maxRecDepth 100000 in
set_option maxHeartbeats 4000000 in
theorem refer_Track_no {F : FP} {r : Nat} {ts : List Trk} {w : World} (h : ReAt F r ts w) {k : Int} (hk : ¬ (0 ≤ k ∧ k < ts.length)) :
    Calls Tryz.prog 20 #[.pointer (some ⟨r, 0, none⟩), .int .i64 k] w fun e w' => e = .returned (.tuple #[.agg (trkR.f trk0).toArray, .bool false]) ∧ Below w.heap.size w w' := by
  obtain ⟨tb, cap, gp, h1, h2, h3, h4, h5, h6⟩ := h
  obtain ⟨n, hn⟩ : ∃ n, n = ts.length := ⟨_, rfl⟩
  rw [← hn] at h1 hk
  have c0 : w.cell? ⟨r, 0, none⟩ = some (.slice (some ⟨tb, 0, none⟩) n cap) := by rw [World.cell?, h1]; rfl
  have hrlt : r < w.heap.size := (Array.getElem?_eq_some_iff.1 h1).1
  have hd : decide ((0 : Int) ≤ k ∧ k < (n : Int)) = false := decide_eq_false hk
  have HD := Lib.hid hd
  have c0' : ∀ C, (w.alloc (.cells C 72)).cell? ⟨r, 0, none⟩ = some (.slice (some ⟨tb, 0, none⟩) n cap) := fun C => (World.cell?_of_block (Below.heap_alloc _ _ _ hrlt)).trans c0
  have HC := Lib.hid c0'
  clear h1 h2 h3 h4 hn hd c0' hk h6 c0
  go_enter Tryz.func20, Tryz.ntmps20
  go_wp2_with (first
    | (refine wpl_allocR (r := trkR) (ty := 72) rfl rfl rfl ?_; intro C hC; have c1 := HC.out C)
    | (go_at_call 47; refine (bound_Below _ _ _).mono ?_; rw [HD.out]; rintro e w' ⟨rfl, hw⟩; rw [hw]; clear hw w')
    | (refine wpl_storeR (r := trkR) (ty := 72) (t := trk0) (C := C) _ _ rfl rfl rfl rfl rfl (World.alloc_heap_new w _) hC ?_; rw [World.setRow_alloc_new])
    | fail)
  exact bodyPost_ret (v := .tuple #[.agg (trkR.f trk0).toArray, .bool false]) (by exact results_R2 (r := trkR) (t := trk0) (b := w.heap.size) Tryz.results20 rfl rfl (rangeAt_whole (T := 72) (World.alloc_heap_new _ _))) rfl ⟨rfl, (Below.refl _ w).alloc (Nat.le_refl _) _⟩
end Go.Proofs.YtfgkaookgfghoaaGreat
end

section
namespace Go.Proofs.YtfgkaookgfghoaaGreat
open Go.RowKit Go.Maps
set_option linter.unusedVariables false
set_option linter.unusedSimpArgs false

theorem gridNew (w : World) : Calls Tryz.prog 33 #[] w fun e w' => ∃ b, e = .returned (.pointer (some ⟨b, 0, none⟩)) ∧ Below w.heap.size w w' := by
  go_enter Tryz.func33, Tryz.ntmps33
  go_wp2
  go_ret
  exact ⟨_, rfl, (Below.refl _ w).alloc (Nat.le_refl _) _⟩
theorem gridNew_d (w : World) : Calls Tryz.prog 34 #[] w fun e w' => ∃ b, e = .returned (.pointer (some ⟨b, 0, none⟩)) ∧ Below w.heap.size w w' := by
  go_enter Tryz.func34, Tryz.ntmps34
  go_wp2
  go_ret
  exact ⟨_, rfl, (Below.refl _ w).alloc (Nat.le_refl _) _⟩
theorem gridNew_w (w : World) : Calls Tryz.prog 35 #[] w fun e w' => ∃ b, e = .returned (.pointer (some ⟨b, 0, none⟩)) ∧ Below w.heap.size w w' := by
  go_enter Tryz.func35, Tryz.ntmps35
  go_wp2
  go_ret
  exact ⟨_, rfl, (Below.refl _ w).alloc (Nat.le_refl _) _⟩
theorem gridNew_p (w : World) : Calls Tryz.prog 36 #[] w fun e w' => ∃ b, e = .returned (.pointer (some ⟨b, 0, none⟩)) ∧ Below w.heap.size w w' := by
  go_enter Tryz.func36, Tryz.ntmps36
  go_wp2
  go_ret
  exact ⟨_, rfl, (Below.refl _ w).alloc (Nat.le_refl _) _⟩
theorem gridNew_r (w : World) : Calls Tryz.prog 30 #[] w fun e w' => ∃ b, e = .returned (.pointer (some ⟨b, 0, none⟩)) ∧ Below w.heap.size w w' := by
  go_enter Tryz.func30, Tryz.ntmps30
  go_wp2
  go_ret
  exact ⟨_, rfl, (Below.refl _ w).alloc (Nat.le_refl _) _⟩
set_option maxRecDepth 100000 in
set_option maxHeartbeats 4000000 in
theorem voting_New (w : World) : Calls Tryz.prog 15 #[] w fun e w' => ∃ b, e = .returned (.pointer (some ⟨b, 0, none⟩)) ∧ Below w.heap.size w w' := by
  go_enter Tryz.func15, Tryz.ntmps15
  go_wp2_with (first
    | (go_at_call 33; refine (gridNew _).mono ?_; rintro e w1 ⟨b1, rfl, hb⟩; have H1 := Lib.hid hb; clear hb)
    | (go_at_call 34; refine (gridNew_d _).mono ?_; rintro e w2 ⟨b2, rfl, hb⟩; have H2 := Lib.hid hb; clear hb)
    | (go_at_call 35; refine (gridNew_w _).mono ?_; rintro e w3 ⟨b3, rfl, hb⟩; have H3 := Lib.hid hb; clear hb)
    | (go_at_call 36; refine (gridNew_p _).mono ?_; rintro e w4 ⟨b4, rfl, hb⟩; have H4 := Lib.hid hb; clear hb)
    | fail)
  go_ret
  have h1 := H1.out
  have h2 := h1.trans (H2.out.mono h1.size)
  have h3 := h2.trans (H3.out.mono h2.size)
  have h4 := h3.trans (H4.out.mono h3.size)
  exact ⟨_, rfl, h4.alloc h4.size _⟩
end Go.Proofs.YtfgkaookgfghoaaGreat
end

section
namespace Go.Proofs.YtfgkaookgfghoaaGreat
open Go.RowKit Go.Maps
set_option linter.unusedVariables false
set_option linter.unusedSimpArgs false

/-- Tracks that may be. -/
def newB (ts : List Trk) : Bool := decide (1 ≤ ts.length ∧ ts.length ≤ 4) && ts.all trackB
theorem slices_CloneT {v : Value} {ts : List Trk} {w : World} {b cap : Nat} (hr : w.rangeAt b 0 (trkR.all ts)) (hb : b < w.heap.size) (hc : ts.length ≤ cap) (hl : ts.length ≤ 1000) :
    Calls Tryz.prog 29 #[.slice (some ⟨b, 0, none⟩) ts.length cap] w fun e w' => ∃ g c, e = .returned (.slice (some ⟨g, 0, none⟩) ts.length c) ∧ w.heap.size ≤ g ∧ OwnR trkR w.heap.size (.slice (some ⟨g, 0, none⟩) ts.length c) ts w' ∧ Below w.heap.size w w' := by
  have NS : ∀ (a : Addr) (n c : Nat) (w : World), (binOp .eql 53 (.slice (some a) n c) (.slice none 0 0)).run Tryz.prog w = .ok (.bool false) w := fun a n c w => by
    have h1 : ∀ d, (Op.equalIn (d + 1) 53 (.slice (some a) n c) (.slice none 0 0)).run Tryz.prog w = .ok false w := fun d => by simp [Op.equalIn, run_underlying Tryz.underlying53]
    have h2 := h1 9999
    rw [show (9999 + 1 : Nat) = 10000 from rfl] at h2
    simp only [binOp]
    simp [Op.equal, Op.maxDepth, h2]
  obtain ⟨n, hn⟩ : ∃ n, n = ts.length := ⟨_, rfl⟩
  have hrd : RdR trkR w (.slice (some ⟨b, 0, none⟩) n cap) ts := by rw [hn]; exact .inr ⟨b, 0, cap, rfl, hc, hb, hr⟩
  have hown : OwnR trkR w.heap.size (.slice (some ⟨w.heap.size, 0, none⟩) 0 0) [] (w.alloc (.cells #[] 72)) := OwnR.none (r := trkR) (World.alloc_heap_new w _) (Nat.le_refl _)
  have HRD := Lib.hid (hrd.below ((Below.refl _ w).alloc (Nat.le_refl _) (.cells #[] 72)))
  have HO := Lib.hid hown
  have HL := Lib.hid hl
  rw [← hn]
  have HN := Lib.hid hn
  clear hr hb hc hl hrd hown hn
  go_enter Tryz.func29, Tryz.ntmps29
  go_wp2_with (first
    | (refine wpl_noneR (r := trkR) rfl rfl ?_)
    | (refine wpl_appsR (r := trkR) (u := .slice (some ⟨b, 0, none⟩) n cap) (v := .slice (some ⟨w.heap.size, 0, none⟩) 0 0) (xs := []) (ys := ts) rfl rfl rfl rfl HO.out HRD.out (by have := HL.out; simp; omega) (by simp) ?_; intro v1 w1 ho hg hat; have H1 := Lib.hid (And.intro ho (And.intro hg hat)); clear ho hg hat)
    | fail)
  have ho := H1.out.1
  rw [List.nil_append] at ho
  have hb1 : Below w.heap.size w w1 := Below.grown ((Below.refl _ w).alloc (Nat.le_refl _) _) H1.out.2.1 (by simp) (fun k hk => by have hk' : some w.heap.size = some k := hk; injection hk' with hk'; omega)
  rcases ho.2 with ⟨rfl, h0⟩ | ⟨g, c, cur, rfl, h1, -⟩
  · exfalso
    rcases H1.out.2.2 with e | e <;> cases e
  · rw [← HN.out] at ho ⊢
    exact bodyPost_ret (v := .slice (some ⟨g, 0, none⟩) n c) (by simp [results, Tryz.results29, go_sem]) rfl ⟨g, c, rfl, h1, ho, hb1⟩
theorem track_IsR (t : Trk) (w : World) : Calls Tryz.prog 28 #[.agg (trkR.f t).toArray] w fun e w' => e = .returned (.bool (trackB t)) ∧ Below w.heap.size w w' := track_Is t w
set_option maxRecDepth 100000 in
set_option maxHeartbeats 4000000 in
theorem refer_New {ts : List Trk} {w : World} {b cap : Nat} (hr : w.rangeAt b 0 (trkR.all ts)) (hb : b < w.heap.size) (hc : ts.length ≤ cap) (hl : ts.length ≤ 100) :
    Calls Tryz.prog 12 #[.slice (some ⟨b, 0, none⟩) ts.length cap] w fun e w' => Below w.heap.size w w' ∧ ((newB ts = true ∧ ∃ r, e = .returned (.tuple #[.pointer (some ⟨r, 0, none⟩), .int .i64 0]) ∧ ReAt (fun k => w.heap.size ≤ k) r ts w') ∨ (newB ts = false ∧ e = .returned (.tuple #[.pointer none, .int .i64 1]))) := by
  obtain ⟨n, hn⟩ : ∃ n, n = ts.length := ⟨_, rfl⟩
  rw [← hn] at hc hl ⊢
  have HR := Lib.hid (And.intro hr (And.intro hb (And.intro hc hn)))
  clear hr hb hc
  by_cases hlen : 1 ≤ n ∧ n ≤ 4
  · have hd : decide ((1 : Int) ≤ (n : Int) ∧ (n : Int) ≤ 4) = true := decide_eq_true (by omega)
    have HD := Lib.hid hd
    have hn4 : n ≤ 4 := hlen.2
    have HLN := Lib.hid (And.intro hlen hn)
    clear hd hlen hn
    go_enter Tryz.func12, Tryz.ntmps12
    go_wp2_with (first
      | (go_at_call 27; refine (bound_Within _ _ _ _).mono ?_; rw [HD.out]; rintro e w' ⟨rfl, hw⟩; rw [hw]; clear hw w')
      | fail)
    go_loopw [12] (fun i wr => ∃ k : Nat, k ≤ n ∧ i = .int .i64 k ∧ (ts.take k).all trackB = true ∧ Below w.heap.size w wr) (fun i _ => n - (intOf i).toNat)
    case atStart => exact ⟨0, by omega, rfl, by simp, Below.refl _ _⟩
    case round =>
      obtain ⟨k, hk, rfl, hall, hbl⟩ := hrel
      by_cases hlt : k < n
      · have hlt' : (k : Int) < n := by omega
        have hkl : k < ts.length := by rw [← HLN.out.2]; exact hlt
        have hrk : wr.rangeAt b (k * 18) (trkR.f ts[k]) := fun j u hj => by
          have hj18 : j < 18 := by have := (List.getElem?_eq_some_iff.1 hj).1; rwa [trkR.len] at this
          have := rangeAt_block HR.out.1 (hbl.block b HR.out.2.1) (k * 18 + j) u (by rw [show k * 18 + j = k * trkR.k + j from rfl, trkR.all_at hkl hj18]; exact hj)
          rwa [Nat.zero_add] at this
        have hts : (ts.take (k + 1)).all trackB = ((ts.take k).all trackB && trackB ts[k]) := by rw [List.take_succ_eq_append_getElem hkl, List.all_append]; simp
        have hna : trackB ts[k] = false → ts.all trackB = false := fun h => by
          rw [Bool.eq_false_iff]
          intro hall
          rw [List.all_eq_true] at hall
          rw [hall _ (List.getElem_mem hkl)] at h
          cases h
        obtain ⟨t, ht⟩ : ∃ t, t = ts[k] := ⟨_, rfl⟩
        rw [← ht] at hrk hts hna
        obtain ⟨W1, hW1⟩ : ∃ W1, W1 = wr.alloc (.cells (trkR.f t).toArray 72) := ⟨_, rfl⟩
        have hr1 : W1.rangeAt wr.heap.size 0 (trkR.f t) := by rw [hW1]; exact rangeAt_whole (T := 72) (World.alloc_heap_new _ _)
        have hb1 : Below w.heap.size w W1 := by rw [hW1]; exact hbl.alloc hbl.size _
        have his := track_IsR t W1
        obtain ⟨q, hq⟩ : ∃ q, q = trackB t := ⟨_, rfl⟩
        rw [← hq] at his hts hna
        have HRK := Lib.hid hrk
        have HA := Lib.hid (And.intro hall (And.intro hts hna))
        have HB := Lib.hid hbl
        have HW1 := Lib.hid hW1
        have HR1 := Lib.hid hr1
        have HB1 := Lib.hid hb1
        have HIS := Lib.hid his
        clear hrk hts hna ht hW1 hr1 hb1 his hq hall hbl hkl
        cases q
        · go_wp2_with (first
            | (refine wpl_allocR (r := trkR) (ty := 72) rfl rfl rfl ?_; intro C hC)
            | (refine wpl_loadR (r := trkR) (t := t) (b := b) (k := k * 18) _ rfl rfl rfl HRK.out ?_)
            | (refine wpl_loadR (r := trkR) (t := t) (b := wr.heap.size) (k := 0) _ rfl rfl rfl HR1.out ?_)
            | (refine wpl_storeR (r := trkR) (ty := 72) (t := t) (C := C) _ _ rfl rfl rfl rfl rfl (World.alloc_heap_new wr _) hC ?_; rw [World.setRow_alloc_new]; rw [show wr.alloc (.cells (trkR.f t).toArray 72) = W1 from HW1.out.symm])
            | (go_at_call 28; refine HIS.out.mono ?_; rintro e w2 ⟨rfl, hb⟩; have H2 := Lib.hid hb; clear hb)
            | fail)
          exact bodyPost_ret (v := .tuple #[.pointer none, .int .i64 1]) (by simp [results, Tryz.results12, go_sem]) rfl ⟨HB1.out.trans (H2.out.mono HB1.out.size), .inr ⟨by unfold newB; rw [HA.out.2.2 (by first | rfl | trivial), Bool.and_false], rfl⟩⟩
        · go_wp2_with (first
            | (refine wpl_allocR (r := trkR) (ty := 72) rfl rfl rfl ?_; intro C hC)
            | (refine wpl_loadR (r := trkR) (t := t) (b := b) (k := k * 18) _ rfl rfl rfl HRK.out ?_)
            | (refine wpl_loadR (r := trkR) (t := t) (b := wr.heap.size) (k := 0) _ rfl rfl rfl HR1.out ?_)
            | (refine wpl_storeR (r := trkR) (ty := 72) (t := t) (C := C) _ _ rfl rfl rfl rfl rfl (World.alloc_heap_new wr _) hC ?_; rw [World.setRow_alloc_new]; rw [show wr.alloc (.cells (trkR.f t).toArray 72) = W1 from HW1.out.symm])
            | (go_at_call 28; refine HIS.out.mono ?_; rintro e w2 ⟨rfl, hb⟩; have H2 := Lib.hid hb; clear hb)
            | fail)
          go_roundw
          case rel => exact ⟨k + 1, by omega, by go_num, by rw [HA.out.2.1, HA.out.1]; rfl, HB1.out.trans (H2.out.mono HB1.out.size)⟩
          case measure => simp [intOf]; omega
      · have hge : ¬ (k : Int) < n := by omega
        have hkn : k = n := by omega
        subst hkn
        have hfull : ts.all trackB = true := by rw [HLN.out.2, List.take_length] at hall; exact hall
        have hcl := slices_CloneT (v := .nilFunc) (rangeAt_block HR.out.1 (hbl.block b HR.out.2.1)) (Nat.lt_of_lt_of_le HR.out.2.1 hbl.size) (by rw [← HR.out.2.2.2]; exact HR.out.2.2.1) (by have := HLN.out; omega) (ts := ts) (cap := cap)
        rw [← HLN.out.2] at hcl
        have hnb : newB ts = true := by unfold newB; rw [hfull, ← HLN.out.2, decide_eq_true HLN.out.1]; rfl
        have HCL := Lib.hid hcl
        have HBL := Lib.hid hbl
        have HNB := Lib.hid hnb
        clear hall hbl hfull hcl hnb hk hlt
        go_wp2_with (first
          | (go_at_call 29; refine HCL.out.mono ?_; rintro e w3 ⟨g, c, rfl, hg, ho, hb⟩; have H3 := Lib.hid (And.intro hg (And.intro ho hb)); clear hg ho hb)
          | (go_at_call 30; refine (gridNew_r _).mono ?_; rintro e w4 ⟨gb, rfl, hb⟩; have H4 := Lib.hid hb; clear hb)
          | fail)
        have hb3 := HBL.out.trans (H3.out.2.2.mono HBL.out.size)
        have hb4 := hb3.trans (H4.out.mono hb3.size)
        obtain ⟨W5, hW5⟩ : ∃ W5, W5 = w4.alloc (.cells #[.slice (some ⟨g, 0, none⟩) k c, .pointer (some ⟨gb, 0, none⟩)] 105) := ⟨_, rfl⟩
        have hb5 : Below w4.heap.size w4 W5 := by rw [hW5]; exact (Below.refl _ w4).alloc (Nat.le_refl _) _
        have hown := H3.out.2.1
        have hglt : g < w3.heap.size := (hown.block rfl).2
        have hrg : w3.rangeAt g 0 (trkR.all ts) := by
          rcases hown.reads with ⟨e, -⟩ | ⟨b', o', c', e, -, -, hr⟩
          · cases e
          · injection e with e1 e2 e3
            injection e1 with e1
            injection e1 with e4 e5
            subst e4 e5
            exact hr
        have hre : ReAt (fun j => w.heap.size ≤ j) w4.heap.size ts W5 := by
          refine ⟨g, c, .pointer (some ⟨gb, 0, none⟩), by rw [hW5, ← HLN.out.2]; exact World.alloc_heap_new _ _, rangeAt_block hrg ((hb5.block g (by have := H4.out.size; omega)).trans (H4.out.block g hglt)), hb4.size, Nat.le_trans HBL.out.size H3.out.1, by have := H4.out.size; have := hb5.size; omega, by have := HLN.out; omega⟩
        rw [← hW5]
        exact bodyPost_ret (v := .tuple #[.pointer (some ⟨w4.heap.size, 0, none⟩), .int .i64 0]) (by simp [results, Tryz.results12, go_sem]) rfl ⟨hb4.trans (hb5.mono hb4.size), .inl ⟨HNB.out, _, rfl, hre⟩⟩
  · have hd : decide ((1 : Int) ≤ (n : Int) ∧ (n : Int) ≤ 4) = false := decide_eq_false (by omega)
    have HD := Lib.hid hd
    have hnb : newB ts = false := by unfold newB; rw [← hn, decide_eq_false hlen]; rfl
    have HNB := Lib.hid hnb
    clear hd hlen hn hnb
    go_enter Tryz.func12, Tryz.ntmps12
    go_wp2_with (first
      | (go_at_call 27; refine (bound_Within _ _ _ _).mono ?_; rw [HD.out]; rintro e w' ⟨rfl, hw⟩; rw [hw]; clear hw w')
      | fail)
    exact bodyPost_ret (v := .tuple #[.pointer none, .int .i64 1]) (by simp [results, Tryz.results12, go_sem]) rfl ⟨Below.refl _ _, .inr ⟨HNB.out, rfl⟩⟩
end Go.Proofs.YtfgkaookgfghoaaGreat
end

section
namespace Go.Proofs.YtfgkaookgfghoaaGreat
open Go.RowKit Go.Maps
set_option linter.unusedVariables false
set_option linter.unusedSimpArgs false

theorem run_makeV {P : Program} (t e : TypeId) (n s by_ : Nat) (ht : P.underlying t = some (.slice e)) (hi : (P.info? e).map (fun i => (i.size, i.bytes)) = some (s, by_)) (hz : ((P.info? e).bind (·.zero)).isSome = true) (hz2 : ((P.info? e).bind (·.zero)).map (fun z => decide (z.cells.size = s)) = some true) (hb : by_ * n ≤ 1000000) (hn : n ≤ 1000000) :
    ∃ C : Array Value, C.size = n * s ∧ ∀ w : World, (Instr.makeSlice t (.int .i64 (n : Int)) (.int .i64 (n : Int))).run P w = .ok (.slice (some ⟨w.heap.size, 0, none⟩) n n) (w.alloc (.cells C e)) := by
  obtain ⟨i, hi0, hi1⟩ := Option.map_eq_some_iff.1 hi
  simp only [Prod.mk.injEq] at hi1
  obtain ⟨z, hz0⟩ := Option.isSome_iff_exists.1 hz
  rw [hi0] at hz0
  have hz1 : i.zero = some z := by simpa using hz0
  refine ⟨madeCells z.cells (n * i.size), by simp [madeCells, hi1.1], fun w => ?_⟩
  have hbb : (i.bytes : Int) * (n : Int) ≤ 281474976710656 := by
    rw [hi1.2]
    have : ((by_ * n : Nat) : Int) ≤ 281474976710656 := by omega
    rwa [Int.natCast_mul] at this
  have := run_make (P := P) w t e i z ht hi0 hz1 .i64 .i64 n n (by omega) (by omega) hbb (by omega)
  simpa using this
set_option maxRecDepth 100000 in
set_option maxHeartbeats 4000000 in
theorem ref11_New (w : World) : Calls Tryz.prog 16 #[] w fun e w' => ∃ p, e = .returned (.pointer p) ∧ Below w.heap.size w w' := by
  obtain ⟨C1, -, h1⟩ := run_makeV (P := Tryz.prog) 131 169 12 7 56 Tryz.underlying131 (by kernel_rfl) (by kernel_rfl) (by kernel_rfl) (by decide) (by decide)
  obtain ⟨C2, -, h2⟩ := run_makeV (P := Tryz.prog) 132 259 40 9 88 Tryz.underlying132 (by kernel_rfl) (by kernel_rfl) (by kernel_rfl) (by decide) (by decide)
  have h1' : ∀ w : World, (Instr.makeSlice 131 (.int .i64 12) (.int .i64 12)).run Tryz.prog w = .ok (.slice (some ⟨w.heap.size, 0, none⟩) 12 12) (w.alloc (.cells C1 169)) := h1
  have h2' : ∀ w : World, (Instr.makeSlice 132 (.int .i64 40) (.int .i64 40)).run Tryz.prog w = .ok (.slice (some ⟨w.heap.size, 0, none⟩) 40 40) (w.alloc (.cells C2 259)) := h2
  clear h1 h2
  go_enter Tryz.func16, Tryz.ntmps16
  go_upto_region 1 with fail
  go_region
  all_goals go_wp2_with fail
  all_goals go_ret
  all_goals exact ⟨_, rfl, (((((Below.refl _ w).drew).alloc (by show w.heap.size ≤ w.heap.size; omega) _).alloc (by rw [World.size_alloc]; show w.heap.size ≤ w.heap.size + 1; omega) _).alloc (by rw [World.size_alloc, World.size_alloc]; show w.heap.size ≤ w.heap.size + 1 + 1; omega) _)⟩
/-- The document's ledger, as far as it is looked at: ten accounts of something. -/
structure R6 (w0 : World) (lb ab : Nat) (w : World) : Prop where
  l : w.heap[lb]? = some (.cells #[.slice (some ⟨ab, 0, none⟩) 10 10] 91 (0, 0))
  a : ∃ C, w.heap[ab]? = some (.cells C 94 (0, 0)) ∧ C.size = 30
  ll : w0.heap.size ≤ lb
  la : w0.heap.size ≤ ab
  ne : lb ≠ ab
  old : Below w0.heap.size w0 w
theorem R6.below {w0 w w' : World} {lb ab : Nat} (h : R6 w0 lb ab w) (hb : Below w.heap.size w w') : R6 w0 lb ab w' := by
  obtain ⟨C, h1, h2⟩ := h.a
  exact ⟨(hb.block lb (Array.getElem?_eq_some_iff.1 h.l).1).trans h.l, ⟨C, (hb.block ab (Array.getElem?_eq_some_iff.1 h1).1).trans h1, h2⟩, h.ll, h.la, h.ne, h.old.trans (hb.mono h.old.size)⟩
theorem R6.set {w0 w : World} {lb ab i : Nat} {v : Value} (h : R6 w0 lb ab w) : R6 w0 lb ab (w.setCell ⟨ab, i, none⟩ v) := by
  obtain ⟨C, h1, h2⟩ := h.a
  refine ⟨(Below.heap_setCell _ _ _ lb h.ne).trans h.l, ⟨C.setIfInBounds i v, ?_, by simp [h2]⟩, h.ll, h.la, h.ne, h.old.trans ⟨rfl, rfl, rfl, by simp [World.setCell], fun k hk => Below.heap_setCell _ _ _ k ?_⟩⟩
  · simp [World.setCell, Array.getElem?_modify, h1]
  · have := h.la; show k ≠ ab; omega
theorem R6.drew {w0 w : World} {lb ab : Nat} (h : R6 w0 lb ab w) : R6 w0 lb ab w.drew := h.below (Below.refl _ w).drew
set_option maxRecDepth 100000 in
set_option maxHeartbeats 4000000 in
theorem ref6_New (v : Value) (l : List Int) (w : World) (hr : RdI w v l) (hl : l.length ≤ 10) : Calls Tryz.prog 11 #[v] w fun e w' => ∃ p c, e = .returned (.tuple #[.pointer p, .int .i64 c]) ∧ Below w.heap.size w w' := by
  obtain ⟨C, hC, h1⟩ := run_makeV (P := Tryz.prog) 89 94 10 3 40 Tryz.underlying89 (by kernel_rfl) (by kernel_rfl) (by kernel_rfl) (by decide) (by decide)
  have h1' : ∀ w : World, (Instr.makeSlice 89 (.int .i64 10) (.int .i64 10)).run Tryz.prog w = .ok (.slice (some ⟨w.heap.size, 0, none⟩) 10 10) (w.alloc (.cells C 94)) := h1
  clear h1
  obtain ⟨ao, cap, rfl⟩ := hr.lenOf
  obtain ⟨L, hL⟩ : ∃ L, L = l.length := ⟨_, rfl⟩
  rw [← hL] at hr hl ⊢
  have HR := Lib.hid (And.intro hr hL)
  clear hr hL
  have c0 : ¬ (10 : Int) < (L : Int) := by omega
  obtain ⟨W0, hW0⟩ : ∃ W0, W0 = (w.alloc (.cells C 94)).alloc (.cells #[.slice (some ⟨w.heap.size, 0, none⟩) 10 10] 91) := ⟨_, rfl⟩
  obtain ⟨ab, hab⟩ : ∃ ab, ab = w.heap.size := ⟨_, rfl⟩
  obtain ⟨lb, hlb⟩ : ∃ lb, lb = ab + 1 := ⟨_, rfl⟩
  have h6 : R6 w lb ab W0 := by
    refine ⟨?_, ⟨C, ?_, hC⟩, by omega, by omega, by omega, by rw [hW0]; exact ((Below.refl _ w).alloc (Nat.le_refl _) _).alloc (by simp) _⟩
    · have := World.alloc_heap_new (w.alloc (.cells C 94)) (.cells #[.slice (some ⟨w.heap.size, 0, none⟩) 10 10] 91)
      rw [World.size_alloc] at this
      rw [hW0, hlb, hab]; exact this
    · rw [hW0, hab]; exact (Below.heap_alloc _ _ _ (by simp)).trans (World.alloc_heap_new w _)
  have H6 := Lib.hid h6
  have HW0 := Lib.hid (And.intro hW0 (And.intro hab hlb))
  clear hW0 h6 hC hab hlb
  go_enter Tryz.func11, Tryz.ntmps11
  go_upto_region 4 with fail
  rw [← HW0.out.1, ← HW0.out.2.1, ← HW0.out.2.2]
  go_wp2_with fail
  go_loopw [5, 6] (fun z i wr => ∃ (k : Nat) (zz : Int), k ≤ L ∧ z = .int .i64 zz ∧ i = .int .i64 k ∧ R6 w lb ab wr) (fun _ i _ => L - (intOf i).toNat)
  case atStart => exact ⟨0, 0, by omega, rfl, rfl, H6.out⟩
  case round =>
    obtain ⟨k, zz, hk, rfl, rfl, h6⟩ := hrel
    by_cases hlt : k < L
    · have hlt' : (k : Int) < L := by omega
      obtain ⟨a, rfl, ca⟩ := (HR.out.1.below h6.old).at (show k < l.length by rw [← HR.out.2]; exact hlt)
      obtain ⟨x, hx⟩ : ∃ x, x = l.getD k 0 := ⟨_, rfl⟩
      have hca : ∀ W, Below w.heap.size w W → W.cell? (a.add k) = some (.int .i64 x) := fun W hW => by
        obtain ⟨a', hv, ca'⟩ := (HR.out.1.below hW).at (show k < l.length by rw [← HR.out.2]; exact hlt)
        injection hv with hv
        subst hv
        rw [hx]; exact ca'
      have HCA := Lib.hid hca
      clear hca
      rw [← hx] at ca
      have h6k := h6
      obtain ⟨C6, ha6, hs6⟩ := h6.a
      have cl : wr.cell? ⟨lb, 0, none⟩ = some (.slice (some ⟨ab, 0, none⟩) 10 10) := by rw [World.cell?, h6.l]; rfl
      have hk10 : (k : Int) < 10 := by omega
      have hk3 : k * 3 < C6.size := by omega
      have cc : ∃ v0, wr.cell? ⟨ab, k * 3, none⟩ = some v0 := ⟨C6[k * 3], by rw [World.cell?, ha6]; simp [hk3]⟩
      obtain ⟨v0, cc⟩ := cc
      have cf : wr.frozen? ⟨ab, k * 3, none⟩ = false := by simp [World.frozen?, ha6]
      have HX := Lib.hid h6k
      clear h6 h6k ha6 hs6 hk3 hx
      by_cases hb : x < 0
      · go_wp2_with fail
        exact bodyPost_ret (v := .tuple #[.pointer none, .int .i64 1]) (by simp [results, Tryz.results11, go_sem]) rfl (by first | exact ⟨_, _, rfl, HX.out.old⟩ | exact ⟨⟨_, _, rfl⟩, HX.out.old⟩)
      · by_cases hb2 : 1073741824 < x
        · go_wp2_with fail
          exact bodyPost_ret (v := .tuple #[.pointer none, .int .i64 1]) (by simp [results, Tryz.results11, go_sem]) rfl (by first | exact ⟨_, _, rfl, HX.out.old⟩ | exact ⟨⟨_, _, rfl⟩, HX.out.old⟩)
        · go_upto_region 10 with fail
          go_still_tail 11, (by kernel_rfl)
          change wpList _ _ _ _ _ wr.drew
          have hs := HX.out.drew.set (i := k * 3) (v := .int .i64 x)
          have ca2 := HCA.out _ hs.old
          have ca3 := HCA.out _ (HX.out.set (i := k * 3) (v := .int .i64 x)).old
          have ca4 := HCA.out _ (HX.out.set (i := k * 3) (v := .int .i64 x)).drew.old
          have HS2 := Lib.hid (HX.out.set (i := k * 3) (v := .int .i64 x)).drew
          have HS := Lib.hid hs
          clear hs
          go_wp2_with fail
          go_roundw
          case rel => exact ⟨k + 1, _, by omega, rfl, by go_num, HS2.out⟩
          case measure => simp [intOf]; omega
    · have hge : ¬ (k : Int) < L := by omega
      by_cases hz : 1073741824 < zz
      · go_wp2_with fail
        exact bodyPost_ret (v := .tuple #[.pointer none, .int .i64 1]) (by simp [results, Tryz.results11, go_sem]) rfl (by first | exact ⟨_, _, rfl, h6.old⟩ | exact ⟨⟨_, _, rfl⟩, h6.old⟩)
      · go_wp2_with fail
        exact bodyPost_ret (v := .tuple #[.pointer (some ⟨lb, 0, none⟩), .int .i64 0]) (by simp [results, Tryz.results11, go_sem]) rfl (by first | exact ⟨_, _, rfl, h6.old⟩ | exact ⟨⟨_, _, rfl⟩, h6.old⟩)
theorem ref10_IsR (t : Trk) (w : World) : Calls Tryz.prog 32 #[.agg (trkR.f t).toArray] w fun e w' => e = .returned (.bool (trackB t)) ∧ Below w.heap.size w w' := ref10_Is t w
set_option maxRecDepth 100000 in
set_option maxHeartbeats 4000000 in
theorem ref12_New {ts : List Trk} {w : World} {b cap : Nat} (hr : w.rangeAt b 0 (trkR.all ts)) (hb : b < w.heap.size) (hc : ts.length ≤ cap) (hl : ts.length ≤ 100) :
    Calls Tryz.prog 14 #[.slice (some ⟨b, 0, none⟩) ts.length cap] w fun e w' => Below w.heap.size w w' ∧ ((newB ts = true ∧ ∃ r, e = .returned (.tuple #[.pointer (some ⟨r, 0, none⟩), .int .i64 0])) ∨ (newB ts = false ∧ e = .returned (.tuple #[.pointer none, .int .i64 1]))) := by
  obtain ⟨n, hn⟩ : ∃ n, n = ts.length := ⟨_, rfl⟩
  rw [← hn] at hc hl ⊢
  have HR := Lib.hid (And.intro hr (And.intro hb (And.intro hc hn)))
  clear hr hb hc
  by_cases hl1 : n < 1
  · have hnb : newB ts = false := by unfold newB; rw [← hn, decide_eq_false (by omega)]; rfl
    have hi1 : (n : Int) < 1 := by omega
    have HNB := Lib.hid hnb
    clear hl1 hn hnb
    go_enter Tryz.func14, Tryz.ntmps14
    go_wp2_with fail
    exact bodyPost_ret (v := .tuple #[.pointer none, .int .i64 1]) (by simp [results, Tryz.results14, go_sem]) rfl ⟨Below.refl _ _, .inr ⟨HNB.out, rfl⟩⟩
  by_cases hl4 : 4 < n
  · have hnb : newB ts = false := by unfold newB; rw [← hn, decide_eq_false (by omega)]; rfl
    have hi1 : ¬ (n : Int) < 1 := by omega
    have hi2 : (4 : Int) < n := by omega
    have HNB := Lib.hid hnb
    clear hl1 hl4 hn hnb
    go_enter Tryz.func14, Tryz.ntmps14
    go_wp2_with fail
    exact bodyPost_ret (v := .tuple #[.pointer none, .int .i64 1]) (by simp [results, Tryz.results14, go_sem]) rfl ⟨Below.refl _ _, .inr ⟨HNB.out, rfl⟩⟩
  have hlen : 1 ≤ n ∧ n ≤ 4 := by omega
  have hi1 : ¬ (n : Int) < 1 := by omega
  have hi2 : ¬ (4 : Int) < n := by omega
  have hn4 : n ≤ 4 := hlen.2
  have HLN := Lib.hid (And.intro hlen hn)
  clear hlen hn hl1 hl4
  go_enter Tryz.func14, Tryz.ntmps14
  go_wp2_with fail
  go_loopw [4] (fun i wr => ∃ k : Nat, k ≤ n ∧ i = .int .i64 k ∧ (ts.take k).all trackB = true ∧ Below w.heap.size w wr) (fun i _ => n - (intOf i).toNat)
  case atStart => exact ⟨0, by omega, rfl, by simp, Below.refl _ _⟩
  case round =>
    obtain ⟨k, hk, rfl, hall, hbl⟩ := hrel
    by_cases hlt : k < n
    · have hlt' : (k : Int) < n := by omega
      have hkl : k < ts.length := by rw [← HLN.out.2]; exact hlt
      have hrk : wr.rangeAt b (k * 18) (trkR.f ts[k]) := fun j u hj => by
        have hj18 : j < 18 := by have := (List.getElem?_eq_some_iff.1 hj).1; rwa [trkR.len] at this
        have := rangeAt_block HR.out.1 (hbl.block b HR.out.2.1) (k * 18 + j) u (by rw [show k * 18 + j = k * trkR.k + j from rfl, trkR.all_at hkl hj18]; exact hj)
        rwa [Nat.zero_add] at this
      have hts : (ts.take (k + 1)).all trackB = ((ts.take k).all trackB && trackB ts[k]) := by rw [List.take_succ_eq_append_getElem hkl, List.all_append]; simp
      have hna : trackB ts[k] = false → ts.all trackB = false := fun h => by
        rw [Bool.eq_false_iff]
        intro hall
        rw [List.all_eq_true] at hall
        rw [hall _ (List.getElem_mem hkl)] at h
        cases h
      obtain ⟨t, ht⟩ : ∃ t, t = ts[k] := ⟨_, rfl⟩
      rw [← ht] at hrk hts hna
      have his := ref10_IsR t wr
      obtain ⟨q, hq⟩ : ∃ q, q = trackB t := ⟨_, rfl⟩
      rw [← hq] at his hts hna
      have HRK := Lib.hid hrk
      have HA := Lib.hid (And.intro hall (And.intro hts hna))
      have HB := Lib.hid hbl
      have HIS := Lib.hid his
      clear hrk hts hna ht his hq hall hbl hkl
      cases q
      · go_wp2_with (first
          | (refine wpl_loadR (r := trkR) (t := t) (b := b) (k := k * 18) _ rfl rfl rfl HRK.out ?_)
          | (go_at_call 32; refine HIS.out.mono ?_; rintro e w2 ⟨rfl, hb⟩; have H2 := Lib.hid hb; clear hb)
          | fail)
        exact bodyPost_ret (v := .tuple #[.pointer none, .int .i64 1]) (by simp [results, Tryz.results14, go_sem]) rfl ⟨HB.out.trans (H2.out.mono HB.out.size), .inr ⟨by unfold newB; rw [HA.out.2.2 (by first | rfl | trivial), Bool.and_false], rfl⟩⟩
      · go_wp2_with (first
          | (refine wpl_loadR (r := trkR) (t := t) (b := b) (k := k * 18) _ rfl rfl rfl HRK.out ?_)
          | (go_at_call 32; refine HIS.out.mono ?_; rintro e w2 ⟨rfl, hb⟩; have H2 := Lib.hid hb; clear hb)
          | fail)
        go_roundw
        case rel => exact ⟨k + 1, by omega, by go_num, by rw [HA.out.2.1, HA.out.1]; rfl, HB.out.trans (H2.out.mono HB.out.size)⟩
        case measure => simp [intOf]; omega
    · have hge : ¬ (k : Int) < n := by omega
      have hkn : k = n := by omega
      subst hkn
      have hfull : ts.all trackB = true := by rw [HLN.out.2, List.take_length] at hall; exact hall
      have hrd : RdR trkR wr (.slice (some ⟨b, 0, none⟩) k cap) ts := by rw [HLN.out.2]; exact .inr ⟨b, 0, cap, rfl, by rw [← HLN.out.2]; exact HR.out.2.2.1, Nat.lt_of_lt_of_le HR.out.2.1 hbl.size, rangeAt_block HR.out.1 (hbl.block b HR.out.2.1)⟩
      have hown : OwnR trkR wr.heap.size (.slice (some ⟨wr.heap.size, 0, none⟩) 0 0) [] (wr.alloc (.cells #[] 72)) := OwnR.none (r := trkR) (World.alloc_heap_new wr _) (Nat.le_refl _)
      have hnb : newB ts = true := by unfold newB; rw [hfull, ← HLN.out.2, decide_eq_true HLN.out.1]; rfl
      have HRD := Lib.hid (hrd.below ((Below.refl _ wr).alloc (Nat.le_refl _) (.cells #[] 72)))
      have HO := Lib.hid hown
      have HBL := Lib.hid hbl
      have HNB := Lib.hid hnb
      clear hall hbl hfull hnb hk hlt hrd hown
      go_wp2_with (first
        | (refine wpl_noneR (r := trkR) rfl rfl ?_)
        | (refine wpl_appsR (r := trkR) (u := .slice (some ⟨b, 0, none⟩) k cap) (v := .slice (some ⟨wr.heap.size, 0, none⟩) 0 0) (xs := []) (ys := ts) rfl rfl rfl rfl HO.out HRD.out (by have := HLN.out; simp; omega) (by simp) ?_; intro v1 w1 ho hg hat; have H1 := Lib.hid (And.intro ho (And.intro hg hat)); obtain ⟨o1, n1, c1, rfl⟩ : ∃ o n c, v1 = .slice o n c := (by { obtain ⟨a, c, e⟩ := ho.lenOf; exact ⟨a, _, c, e⟩ }); clear ho hg hat)
        | fail)
      have hb1 : Below wr.heap.size wr w1 := Below.grown ((Below.refl _ wr).alloc (Nat.le_refl _) _) H1.out.2.1 (by simp) (fun j hj => by have hj' : some wr.heap.size = some j := hj; injection hj' with hj'; omega)
      have hb2 := HBL.out.trans (hb1.mono HBL.out.size)
      exact bodyPost_ret (v := .tuple #[.pointer (some ⟨w1.heap.size, 0, none⟩), .int .i64 0]) (by simp [results, Tryz.results14, go_sem]) rfl ⟨hb2.alloc hb2.size _, .inl ⟨HNB.out, _, rfl⟩⟩
end Go.Proofs.YtfgkaookgfghoaaGreat
end

section
namespace Go.Proofs.YtfgkaookgfghoaaGreat
open Go.RowKit Go.Maps
set_option linter.unusedVariables false
set_option linter.unusedSimpArgs false

def tkA : Trk := ⟨1, 20, 2, 10, 3, 1, 1, 500000000, 500000000, 1, 0, 1, 0, 0, 1, 0, 5, 0⟩
def tkB : Trk := ⟨1, 20, 2, 10, 3, 1, 1, 500000000, 500000000, 1, 0, 1, 0, 0, 1, 0, 50, 1⟩
def tkC : Trk := ⟨1, 20, 2, 10, 3, 1, 1, 500000000, 500000000, 1, 0, 1, 0, 0, 1, 0, 5000, 2⟩
def allocTrk (h : Bool) (v : Value) : Sem Value := Instr.alloc 72 h v
theorem alloc_trk (h : Bool) (v : Value) : Instr.alloc 72 h v = allocTrk h v := rfl
theorem zeroTrk : ∃ Z : Array Value, ((Tryz.prog.info? 72).bind (·.zero)) = some (.agg Z) ∧ Z.size = 18 := by
  obtain ⟨i0, z, b, h1, h2, h3, h4, -⟩ := trackInfo
  exact ⟨z, by rw [h1]; exact h2, h4⟩
theorem run_allocTrk {Z : Array Value} (hz : ((Tryz.prog.info? 72).bind (·.zero)) = some (.agg Z)) (v : Value) (w : World) : (allocTrk true v).run Tryz.prog w = .ok (.pointer (some ⟨w.heap.size, 0, none⟩)) (w.alloc (.cells Z 72)) := by
  obtain ⟨i0, hi, hz0⟩ := Option.bind_eq_some_iff.1 hz
  unfold allocTrk
  simp [Instr.alloc, zeroValue, typeInfo, hi, hz0, newVar, newRow, Value.cells, go_sem]
def loadTrk (v : Value) : Sem Value := Instr.loadAt 72 v
theorem load_trk (v : Value) : Instr.loadAt 72 v = loadTrk v := rfl
theorem run_loadTrk {w : World} {b o : Nat} {t : Trk} (h : w.rangeAt b o (trkR.f t)) : (loadTrk (.pointer (some ⟨b, o, none⟩))).run Tryz.prog w = .ok (.agg (trkR.f t).toArray) w := run_loadR (r := trkR) h
def storeTrk (p v : Value) : Sem Unit := Instr.storeAt 72 p v
theorem store_trk (p v : Value) : Instr.storeAt 72 p v = storeTrk p v := rfl
theorem run_storeTrk {w : World} {b : Nat} {t : Trk} {C : Array Value} (hh : w.heap[b]? = some (.cells C 72 (0, 0))) (hC : C.size = 18) : (storeTrk (.pointer (some ⟨b, 0, none⟩)) (.agg (trkR.f t).toArray)).run Tryz.prog w = .ok () (w.setRow b (trkR.f t).toArray) := run_storeR (r := trkR) hh hC
attribute [local go_sem ↓] alloc_trk load_trk store_trk
theorem law_flat (a : Int) (w : World) : Calls Tryz.prog 31 #[.int .i64 a] w fun e w' => e = .returned (.agg #[.int .i64 1, .int .i64 a, .int .i64 a, .int .i64 1, .int .i64 0]) ∧ Below w.heap.size w w' := by
  go_enter Tryz.func31, Tryz.ntmps31
  go_wp2_with fail
  exact bodyPost_ret (v := .agg #[.int .i64 1, .int .i64 a, .int .i64 a, .int .i64 1, .int .i64 0]) (by simp [results, Tryz.results31, go_sem]) rfl ⟨rfl, (Below.refl _ w).alloc (Nat.le_refl _) _⟩
/-- Two copies of a track, beside it. -/
structure TwoT (w : World) (b2 b3 : Nat) (t u : Trk) (wx : World) : Prop where
  r2 : wx.heap[b2]? = some (.cells (trkR.f t).toArray 72 (0, 0))
  r3 : wx.heap[b3]? = some (.cells (trkR.f u).toArray 72 (0, 0))
  ne : b2 ≠ b3
  l2 : w.heap.size ≤ b2
  l3 : w.heap.size ≤ b3
  old : Below w.heap.size w wx
theorem two_trk (w : World) (Z : Array Value) : ((w.alloc (.cells Z 72)).alloc (.cells Z 72)).drew.heap[w.heap.size]? = some (.cells Z 72 (0, 0)) ∧ ((w.alloc (.cells Z 72)).alloc (.cells Z 72)).drew.heap[w.heap.size + 1]? = some (.cells Z 72 (0, 0)) := by
  have h1 := World.alloc_heap_new w (.cells Z 72)
  have h2 := World.alloc_heap_new (w.alloc (.cells Z 72)) (.cells Z 72)
  rw [World.size_alloc] at h2
  exact ⟨(Below.heap_alloc _ _ _ (by simp)).trans h1, h2⟩
theorem setRow_trk (w : World) (b k : Nat) (cs : Array Value) (h : k ≠ b) : (w.setRow b cs).heap[k]? = w.heap[k]? := by
  simp only [World.setRow, Array.getElem?_modify]
  rw [if_neg (fun e => h e.symm)]
theorem setRow_at {w : World} {b : Nat} {C : Array Value} {T : TypeId} (cs : Array Value) (h : w.heap[b]? = some (.cells C T (0, 0))) : (w.setRow b cs).heap[b]? = some (.cells cs T (0, 0)) := by
  simp [World.setRow, Array.getElem?_modify, h]
theorem twoT_new {w : World} (Z : Array Value) (t u : Trk) {p q : Nat} (h : (p = w.heap.size ∧ q = w.heap.size + 1) ∨ (p = w.heap.size + 1 ∧ q = w.heap.size)) :
    TwoT w p q t u ((((w.alloc (.cells Z 72)).alloc (.cells Z 72)).drew.setRow p (trkR.f t).toArray).setRow q (trkR.f u).toArray) := by
  obtain ⟨h1, h2⟩ := two_trk w Z
  have hb : Below w.heap.size w ((w.alloc (.cells Z 72)).alloc (.cells Z 72)).drew := (((Below.refl _ w).alloc (Nat.le_refl _) _).alloc (by simp) _).drew
  obtain ⟨W, hW⟩ : ∃ W, W = ((w.alloc (.cells Z 72)).alloc (.cells Z 72)).drew := ⟨_, rfl⟩
  rw [← hW] at h1 h2 hb ⊢
  have hs : ∀ (V : World) (b : Nat) (cs : Array Value), (V.setRow b cs).heap.size = V.heap.size := fun V b cs => by simp [World.setRow]
  have hp : ∃ C, W.heap[p]? = some (.cells C 72 (0, 0)) := by rcases h with ⟨rfl, -⟩ | ⟨rfl, -⟩ <;> exact ⟨_, by assumption⟩
  have hq : ∃ C, W.heap[q]? = some (.cells C 72 (0, 0)) := by rcases h with ⟨-, rfl⟩ | ⟨-, rfl⟩ <;> exact ⟨_, by assumption⟩
  obtain ⟨C, hp⟩ := hp
  obtain ⟨D, hq⟩ := hq
  have hne : p ≠ q := by omega
  refine ⟨?_, ?_, hne, by omega, by omega, ?_⟩
  · rw [setRow_trk _ _ _ _ hne]; exact setRow_at _ hp
  · exact setRow_at (w := W.setRow p _) _ ((setRow_trk _ _ _ _ (fun e => hne e.symm)).trans hq)
  · refine hb.trans ⟨rfl, rfl, rfl, by rw [hs, hs]; exact Nat.le_refl _, fun k hk => ?_⟩
    rw [setRow_trk _ _ _ _ (by omega), setRow_trk _ _ _ _ (by omega)]
theorem fill_trk : (Tryz.prog.info? 72).bind (fun ie => ie.zero.bind (fun z => Instr.fill (fun i => some (i * 18, 18)) ((Array.range (3 * 18)).map (z.cells[· % z.cells.size]!)) [(0, .agg (trkL tkA).toArray), (1, .agg (trkL tkB).toArray), (2, .agg (trkL tkC).toArray)])) = some ((trkL tkA ++ trkL tkB ++ trkL tkC).toArray) := by kernel_rfl
theorem wpl_buildTk {w : World} {ops : Array Oper} {rest : List Oper} {o : Oper} {a : Act} {Q : Exit → Act → World → Prop} (x y z : Operand) (hgd : o.guard = none) (ho : o.op = .buildSlice 53 3 #[(0, x), (1, y), (2, z)])
    (hx : a.eval x = .agg (trkR.f tkA).toArray) (hy : a.eval y = .agg (trkR.f tkB).toArray) (hz : a.eval z = .agg (trkR.f tkC).toArray)
    (h : wpList Tryz.prog ops Q rest (a.put o.dst (.slice (some ⟨w.heap.size, 0, none⟩) 3 3)) (w.alloc (.cells (trkR.all [tkA, tkB, tkC]).toArray 72))) : wpList Tryz.prog ops Q (o :: rest) a w := by
  have hf := fill_trk
  obtain ⟨ie, hie, hf⟩ := Option.bind_eq_some_iff.1 hf
  obtain ⟨z0, hz0, hf⟩ := Option.bind_eq_some_iff.1 hf
  have hsz : ie.size = 18 := by have := trackSize; rw [hie] at this; simpa using congrArg (Option.map Prod.fst) this
  refine wpList_buildSlice hgd 53 72 3 _ ho (trkR.all [tkA, tkB, tkC]).toArray ie z0 Tryz.underlying53 hie hz0 (by rw [hsz]; decide) (by rw [hsz]; decide) ?_ h
  rw [hsz]
  have e : (Array.map (fun x => match x with | (i, x) => (i, a.eval x)) #[(0, x), (1, y), (2, z)]).toList = [(0, .agg (trkL tkA).toArray), (1, .agg (trkL tkB).toArray), (2, .agg (trkL tkC).toArray)] := by
    simp only [List.map_toArray, List.map_cons, List.map_nil, hx, hy, hz]; rfl
  rw [e, hf]
  rfl
set_option maxRecDepth 100000 in
set_option maxHeartbeats 4000000 in
theorem law_tracks (w : World) : Calls Tryz.prog 13 #[] w fun e w' => ∃ b, e = .returned (.slice (some ⟨b, 0, none⟩) 3 3) ∧ w'.rangeAt b 0 (trkR.all [tkA, tkB, tkC]) ∧ w.heap.size ≤ b ∧ b < w'.heap.size ∧ Below w.heap.size w w' := by
  obtain ⟨Z, hZ, hZs⟩ := zeroTrk
  have RA := run_allocTrk hZ
  clear hZ
  have tok : True := trivial
  go_enter Tryz.func13, Tryz.ntmps13
  go_upto_region 2 with (first
    | (go_at_call 31; have _t := tok; refine (law_flat _ _).mono ?_; rintro e w1 ⟨rfl, hb⟩; have H1 := Lib.hid hb; clear hb tok)
    | (go_at_call 31; refine (law_flat _ _).mono ?_; rintro e w2 ⟨rfl, hb⟩; have H2 := Lib.hid hb; clear hb)
    | (refine wpl_allocR (r := trkR) (ty := 72) rfl rfl rfl ?_; intro C hC)
    | (refine wpl_storeR (r := trkR) (ty := 72) (t := tkA) (C := C) _ _ rfl rfl rfl rfl rfl (World.alloc_heap_new w2 _) hC ?_; rw [World.setRow_alloc_new])
    | fail)
  obtain ⟨W0, hW0⟩ : ∃ W0, W0 = w2.alloc (.cells (trkR.f tkA).toArray 72) := ⟨_, rfl⟩
  obtain ⟨tb, htb⟩ : ∃ tb, tb = w2.heap.size := ⟨_, rfl⟩
  have hb0 : Below w.heap.size w W0 := by rw [hW0]; exact ((H1.out.trans (H2.out.mono H1.out.size))).alloc (by have := H1.out.size; have := H2.out.size; omega) _
  have hl0 : tb < W0.heap.size := by rw [hW0, htb]; simp
  have hr0 : W0.rangeAt tb 0 (trkR.f tkA) := by rw [htb, hW0]; exact rangeAt_whole (T := 72) (World.alloc_heap_new _ _)
  rw [show w2.alloc (.cells (trkR.f tkA).toArray 72) = W0 from hW0.symm, ← htb]
  have HB0 := Lib.hid hb0
  clear hW0 htb hC hb0
  have hrk : ∀ W' : World, (∀ k, k < W0.heap.size → W'.heap[k]? = W0.heap[k]?) → W'.rangeAt tb 0 (trkR.f tkA) := fun W' h => rangeAt_block hr0 (h tb hl0)
  have LA0 := run_loadTrk (hrk W0.drew (fun k _ => rfl))
  have LA1 := run_loadTrk (hrk (W0.alloc (.cells Z 72)).drew (fun k hk => Below.heap_alloc _ _ _ hk))
  have LA2 := run_loadTrk (hrk ((W0.alloc (.cells Z 72)).alloc (.cells Z 72)).drew (fun k hk => (Below.heap_alloc _ _ _ (by simp; omega)).trans (Below.heap_alloc _ _ _ hk)))
  have LA3 := run_loadTrk (hrk (((W0.alloc (.cells Z 72)).alloc (.cells Z 72)).drew.setRow W0.heap.size (trkR.f tkA).toArray) (fun k hk => (setRow_trk _ _ _ _ (by omega)).trans ((Below.heap_alloc _ _ _ (by simp; omega)).trans (Below.heap_alloc _ _ _ hk))))
  have LA4 := run_loadTrk (hrk (((W0.alloc (.cells Z 72)).alloc (.cells Z 72)).drew.setRow (W0.heap.size + 1) (trkR.f tkA).toArray) (fun k hk => (setRow_trk _ _ _ _ (by omega)).trans ((Below.heap_alloc _ _ _ (by simp; omega)).trans (Below.heap_alloc _ _ _ hk))))
  obtain ⟨hz1, hz2⟩ := two_trk W0 Z
  have ST1 := run_storeTrk (t := tkA) hz1 hZs
  have ST2 := run_storeTrk (t := tkA) hz2 hZs
  have SS1 := run_storeTrk (t := tkA) ((setRow_trk _ W0.heap.size (W0.heap.size + 1) (trkR.f tkA).toArray (by omega)).trans hz2) hZs
  have SS2 := run_storeTrk (t := tkA) ((setRow_trk _ (W0.heap.size + 1) W0.heap.size (trkR.f tkA).toArray (by omega)).trans hz1) hZs
  clear hz1 hz2 hrk
  dsimp only [Act.put]
  simp only [List.setIfInBounds_toArray, List.set_cons_succ, List.set_cons_zero]
  go_cut [2, 3] (fun p2 p3 wx => ∃ b2 b3, p2 = .pointer (some ⟨b2, 0, none⟩) ∧ p3 = .pointer (some ⟨b3, 0, none⟩) ∧ TwoT W0 b2 b3 tkA tkA wx)
  case first =>
    go_region
    all_goals go_wp2_with fail
    all_goals go_meet
    all_goals first
      | exact ⟨_, _, rfl, rfl, twoT_new Z tkA tkA (.inl ⟨rfl, rfl⟩)⟩
      | exact ⟨_, _, rfl, rfl, twoT_new Z tkA tkA (.inr ⟨rfl, rfl⟩)⟩
  case rest =>
    obtain ⟨b2, b3, rfl, rfl, hc⟩ := hcut
    have cell : ∀ {b i : Nat} {l : List Value} {v : Value} {W : World}, W.heap[b]? = some (.cells l.toArray 72 (0, 0)) → l[i]? = some v → W.cell? ⟨b, i, none⟩ = some v := fun h hv => by rw [World.cell?, h]; simpa using hv
    have froz : ∀ {b i : Nat} {l : List Value} {W : World}, W.heap[b]? = some (.cells l.toArray 72 (0, 0)) → W.frozen? ⟨b, i, none⟩ = false := fun h => by simp [World.frozen?, h]
    have x1 : wc.cell? ⟨b2, 17, none⟩ = some (.int .i64 0) := cell hc.r2 rfl
    have x2 : wc.cell? ⟨b2, 16, none⟩ = some (.int .i64 5) := cell hc.r2 rfl
    have x3 : wc.cell? ⟨b3, 17, none⟩ = some (.int .i64 0) := cell hc.r3 rfl
    have x4 : wc.cell? ⟨b3, 16, none⟩ = some (.int .i64 5) := cell hc.r3 rfl
    have y1 : wc.frozen? ⟨b2, 17, none⟩ = false := froz hc.r2
    have y2 : wc.frozen? ⟨b2, 16, none⟩ = false := froz hc.r2
    have y3 : wc.frozen? ⟨b3, 17, none⟩ = false := froz hc.r3
    have y4 : wc.frozen? ⟨b3, 16, none⟩ = false := froz hc.r3
    have hne := hc.ne
    have HC := Lib.hid hc
    clear hc LA0 LA1 LA2 LA3 LA4 ST1 ST2 SS1 SS2 cell froz RA
    go_upto_region 5 with fail
    obtain ⟨WX, hWX⟩ : ∃ WX, WX = (((wc.setCell ⟨b2, 17, none⟩ (.int .i64 1)).setCell ⟨b2, 16, none⟩ (.int .i64 50)).setCell ⟨b3, 17, none⟩ (.int .i64 2)).setCell ⟨b3, 16, none⟩ (.int .i64 5000) := ⟨_, rfl⟩
    have hset : ∀ {W : World} {b i : Nat} {l : List Value} {v : Value}, W.heap[b]? = some (.cells l.toArray 72 (0, 0)) → (W.setCell ⟨b, i, none⟩ v).heap[b]? = some (.cells (l.set i v).toArray 72 (0, 0)) := fun h => by simp [World.setCell, Array.getElem?_modify, h]
    have hoth : ∀ (k : Nat), k ≠ b2 → k ≠ b3 → WX.heap[k]? = wc.heap[k]? := fun k h2 h3 => by
      rw [hWX, Below.heap_setCell _ _ _ k h3, Below.heap_setCell _ _ _ k h3, Below.heap_setCell _ _ _ k h2, Below.heap_setCell _ _ _ k h2]
    have k2 : WX.heap[b2]? = some (.cells (trkR.f tkB).toArray 72 (0, 0)) := by
      rw [hWX, Below.heap_setCell _ _ _ b2 hne, Below.heap_setCell _ _ _ b2 hne, hset (hset HC.out.r2)]; rfl
    have k3 : WX.heap[b3]? = some (.cells (trkR.f tkC).toArray 72 (0, 0)) := by
      rw [hWX]
      refine hset (hset ((Below.heap_setCell _ _ _ b3 (fun e => hne e.symm)).trans ((Below.heap_setCell _ _ _ b3 (fun e => hne e.symm)).trans HC.out.r3)))
    have hs : WX.heap.size = wc.heap.size := by rw [hWX]; simp [World.setCell]
    have hB : Below w.heap.size w WX := by
      refine HB0.out.trans ?_
      have h1 := HC.out.old
      have h2 := HC.out.l2
      have h3 := HC.out.l3
      have h4 := HB0.out.size
      refine ⟨by rw [hWX]; exact h1.os, by rw [hWX]; exact h1.tape, by rw [hWX]; exact h1.output, by rw [hs]; exact h1.size, fun k hk => ?_⟩
      rw [hoth k (by omega) (by omega)]
      exact h1.block k (by omega)
    have htb2 : tb ≠ b2 ∧ tb ≠ b3 ∧ tb < W0.heap.size := by
      have h2 := HC.out.l2
      have h3 := HC.out.l3
      exact ⟨by omega, by omega, hl0⟩
    have k1 : WX.rangeAt tb 0 (trkR.f tkA) := rangeAt_block (rangeAt_block hr0 (HC.out.old.block tb htb2.2.2)) (hoth tb htb2.1 htb2.2.1)
    have K1 := Lib.hid k1
    have K2 := Lib.hid (rangeAt_whole k2)
    have K3 := Lib.hid (rangeAt_whole k3)
    have HB := Lib.hid hB
    rw [← hWX]
    clear hWX hset hoth k1 k2 k3 hs hB htb2 x1 x2 x3 x4 y1 y2 y3 y4 hl0 hr0
    go_wp2_with (first
      | (refine wpl_loadR (r := trkR) (t := tkA) (b := tb) _ rfl rfl rfl K1.out ?_)
      | (refine wpl_loadR (r := trkR) (t := tkB) (b := b2) _ rfl rfl rfl K2.out ?_)
      | (refine wpl_loadR (r := trkR) (t := tkC) (b := b3) _ rfl rfl rfl K3.out ?_)
      | (refine wpl_buildTk _ _ _ rfl rfl rfl rfl rfl ?_)
      | fail)
    exact bodyPost_ret (v := .slice (some ⟨WX.heap.size, 0, none⟩) 3 3) (by simp [results, Tryz.results13, go_sem]) rfl ⟨WX.heap.size, rfl, rangeAt_whole (T := 72) (World.alloc_heap_new _ _), HB.out.size, by simp, HB.out.alloc HB.out.size _⟩
end Go.Proofs.YtfgkaookgfghoaaGreat
end

section
namespace Go.Proofs.YtfgkaookgfghoaaGreat
open Go.RowKit
set_option linter.unusedVariables false
set_option linter.unusedSimpArgs false

/-- A call. -/
inductive Cl where
  | mk (k t n : Int) (kids : List Cl)
def Cl.k : Cl → Int | .mk k _ _ _ => k
def Cl.t : Cl → Int | .mk _ t _ _ => t
def Cl.n : Cl → Int | .mk _ _ n _ => n
def Cl.kids : Cl → List Cl | .mk _ _ _ l => l
/-- What a call reads as, whose calls lie no deeper than so. -/
def RdC (w : World) : Nat → Value → Cl → Prop
  | 0, _, _ => False
  | d + 1, v, c => ∃ ao cap, v = .agg #[.int .i64 c.k, .int .i64 c.t, .int .i64 c.n, .slice ao c.kids.length cap] ∧
      ∀ i (hi : i < c.kids.length), ∃ b off vs, ao = some ⟨b, off, none⟩ ∧ b < w.heap.size ∧ w.rangeAt b (off + i * 4) vs ∧ RdC w d (.agg vs.toArray) c.kids[i]
/-- The calls of a row. -/
def RdCs (w : World) (d : Nat) (ao : Option Addr) (l : List Cl) : Prop := ∀ i (hi : i < l.length), ∃ b off vs, ao = some ⟨b, off, none⟩ ∧ b < w.heap.size ∧ w.rangeAt b (off + i * 4) vs ∧ RdC w d (.agg vs.toArray) l[i]
theorem rangeAt_keep {w w' : World} {b o : Nat} {cs : List Value} (h : w.rangeAt b o cs) (hk : w'.heap[b]? = w.heap[b]?) : w'.rangeAt b o cs := fun j u hj => (World.cell?_of_block (a := ⟨b, o + j, none⟩) hk).trans (h j u hj)
theorem RdC.below {w w' : World} (hb : Below w.heap.size w w') : ∀ {d : Nat} {v : Value} {c : Cl}, RdC w d v c → RdC w' d v c
  | 0, _, _, h => h.elim
  | d + 1, v, c, ⟨ao, cap, e, h⟩ => ⟨ao, cap, e, fun i hi => by
    obtain ⟨b, off, vs, e1, e2, e3, e4⟩ := h i hi
    exact ⟨b, off, vs, e1, Nat.lt_of_lt_of_le e2 hb.size, rangeAt_keep e3 (hb.block b e2), RdC.below hb e4⟩⟩
theorem RdCs.below {w w' : World} {d : Nat} {ao : Option Addr} {l : List Cl} (h : RdCs w d ao l) (hb : Below w.heap.size w w') : RdCs w' d ao l := fun i hi => by
  obtain ⟨b, off, vs, e1, e2, e3, e4⟩ := h i hi
  exact ⟨b, off, vs, e1, Nat.lt_of_lt_of_le e2 hb.size, rangeAt_keep e3 (hb.block b e2), RdC.below hb e4⟩
theorem RdC.open {w : World} {d : Nat} {v : Value} {c : Cl} (h : RdC w d v c) : ∃ d' ao cap, d = d' + 1 ∧ v = .agg #[.int .i64 c.k, .int .i64 c.t, .int .i64 c.n, .slice ao c.kids.length cap] ∧ RdCs w d' ao c.kids := by
  cases d with
  | zero => exact h.elim
  | succ d => obtain ⟨ao, cap, e, h⟩ := h; exact ⟨d, ao, cap, rfl, e, h⟩
/-- One that lies in a row, as its four cells. -/
theorem RdC.cells {w : World} {d : Nat} {vs : List Value} {c : Cl} (h : RdC w d (.agg vs.toArray) c) : ∃ ao cap, vs = [.int .i64 c.k, .int .i64 c.t, .int .i64 c.n, .slice ao c.kids.length cap] := by
  obtain ⟨d', ao, cap, -, e, -⟩ := h.open
  refine ⟨ao, cap, ?_⟩
  injection e with e
  simpa using congrArg Array.toList e
theorem sizeC : (Tryz.prog.info? 40).map (·.size) = some 4 := by kernel_rfl
theorem wpl_loadC {w : World} {ops : Array Oper} {rest : List Oper} {o : Oper} {a : Act} {Q : Exit → Act → World → Prop} {b k : Nat} {vs : List Value} (x : Operand) (hgd : o.guard = none) (ho : o.op = .load 40 x) (hx : a.eval x = .pointer (some ⟨b, k, none⟩)) (hr : w.rangeAt b k vs) (hl : vs.length = 4)
    (h : wpList Tryz.prog ops Q rest (a.put o.dst (.agg vs.toArray)) w) : wpList Tryz.prog ops Q (o :: rest) a w :=
  wpList_load_mid hgd 40 x ho b k hx vs _ hr Tryz.underlying40 rfl (by rw [hl]; exact sizeC) h
theorem rangeAt_new {w : World} {T : TypeId} (cs : List Value) : (w.alloc (.cells cs.toArray T)).rangeAt w.heap.size 0 cs := fun j u hj => by
  have h := World.alloc_heap_new w (.cells cs.toArray T)
  rw [Nat.zero_add, World.cell?, h]; simpa using hj
end Go.Proofs.YtfgkaookgfghoaaGreat
end

section
namespace Go.Proofs.YtfgkaookgfghoaaGreat
open Go.RowKit
set_option linter.unusedVariables false
set_option linter.unusedSimpArgs false

/-- A call's numbers, and its row of calls. -/
abbrev Lf := Int × Int × Int × Option Addr × Nat × Nat
def lfL (x : Lf) : List Value := [.int .i64 x.1, .int .i64 x.2.1, .int .i64 x.2.2.1, .slice x.2.2.2.1 x.2.2.2.2.1 x.2.2.2.2.2]
theorem callInfo : (Tryz.prog.info? 40).map (fun i => (i.zero, i.size, i.bytes)) = some (some (.agg #[.int .i64 0, .int .i64 0, .int .i64 0, .slice none 0 0]), 4, 48) := by kernel_rfl
def callR : RowTy Tryz.prog Lf where
  T := 40
  S := 38
  k := 4
  f := lfL
  len := fun _ => rfl
  one := fun x u hu => by
    simp only [lfL, List.mem_cons, List.not_mem_nil, or_false] at hu
    rcases hu with rfl | rfl | rfl | rfl <;> rfl
  pos := by decide
  small := by decide
  slice := Tryz.underlying38
  info := by
    obtain ⟨i0, hi, hz⟩ := Option.map_eq_some_iff.1 callInfo
    simp only [Prod.mk.injEq] at hz
    obtain ⟨h1, h2, h3⟩ := hz
    exact ⟨i0, _, _, hi, h1, h2, rfl, h3, by decide⟩
  row := ⟨_, Tryz.underlying40, rfl⟩

/-- An event's numbers. -/
abbrev Ev := Int × Int × Int
def evL (x : Ev) : List Value := [.int .i64 x.1, .int .i64 x.2.1, .int .i64 x.2.2]
theorem eventInfo : (Tryz.prog.info? 43).map (fun i => (i.zero, i.size, i.bytes)) = some (some (.agg #[.int .i64 0, .int .i64 0, .int .i64 0]), 3, 24) := by kernel_rfl
def evR : RowTy Tryz.prog Ev where
  T := 43
  S := 34
  k := 3
  f := evL
  len := fun _ => rfl
  one := fun x u hu => by
    simp only [evL, List.mem_cons, List.not_mem_nil, or_false] at hu
    rcases hu with rfl | rfl | rfl <;> rfl
  pos := by decide
  small := by decide
  slice := Tryz.underlying34
  info := by
    obtain ⟨i0, hi, hz⟩ := Option.map_eq_some_iff.1 eventInfo
    simp only [Prod.mk.injEq] at hz
    obtain ⟨h1, h2, h3⟩ := hz
    exact ⟨i0, _, _, hi, h1, h2, rfl, h3, by decide⟩
  row := ⟨_, Tryz.underlying43, rfl⟩
end Go.Proofs.YtfgkaookgfghoaaGreat
end

section
namespace Go.Proofs.YtfgkaookgfghoaaGreat
open Go.RowKit Go.Maps Go.Shelf
set_option linter.unusedVariables false
set_option linter.unusedSimpArgs false

/-- Where and when a call is done. -/
def plL (g : Nat) (vp rp : Option Addr) (tr now : Int) : List Value := [.pointer (some ⟨g, 0, none⟩), .pointer vp, .pointer rp, .int .i64 tr, .int .i64 now]
theorem placeSize : (Tryz.prog.info? 77).map (·.size) = some 5 := by kernel_rfl
/-- What a spend answers, and what it leaves. -/
def spnE (A : Acc) (M : Cls Int) (t : Trk) (x : Lf) : Int := if t.cap < x.2.2.1 then 10 else transE A M 0 x.2.1 x.2.2.1
def spnA (A : Acc) (M : Cls Int) (t : Trk) (x : Lf) : Acc := if t.cap < x.2.2.1 then A else transA A M 0 x.2.1 x.2.2.1
def spnV (A : Acc) (M : Cls Int) (t : Trk) (x : Lf) : List Ev := if spnE A M t x = 0 then [(3, x.2.1, x.2.2.1)] else []
section
variable {w : World} {ops : Array Oper} {rest : List Oper} {o : Oper} {a : Act} {Q : Exit → Act → World → Prop}
theorem wpl_loadPl {b : Nat} {vs : List Value} (x : Operand) (hgd : o.guard = none) (ho : o.op = .load 77 x) (hx : a.eval x = .pointer (some ⟨b, 0, none⟩)) (hr : w.rangeAt b 0 vs) (hl : vs.length = 5)
    (h : wpList Tryz.prog ops Q rest (a.put o.dst (.agg vs.toArray)) w) : wpList Tryz.prog ops Q (o :: rest) a w :=
  wpList_load_mid hgd 77 x ho b 0 hx vs _ hr Tryz.underlying77 rfl (by rw [hl]; exact placeSize) h
end
/-- The three boxes of a call's parts. -/
structure Box3 (b : Nat) (P T C : List Value) (w0 w : World) : Prop where
  rp : w.rangeAt b 0 P
  rt : w.rangeAt (b + 1) 0 T
  rc : w.rangeAt (b + 2) 0 C
  lt : b + 2 < w.heap.size
  old : Below w0.heap.size w0 w
theorem Box3.new {w : World} {P T C : List Value} {tp tt tc : TypeId} {W : World} (h : W = ((w.alloc (.cells P.toArray tp)).alloc (.cells T.toArray tt)).alloc (.cells C.toArray tc)) : Box3 w.heap.size P T C w W := by
  have h1 := World.alloc_heap_new w (.cells P.toArray tp)
  have h2 := World.alloc_heap_new (w.alloc (.cells P.toArray tp)) (.cells T.toArray tt)
  have h3 := World.alloc_heap_new ((w.alloc (.cells P.toArray tp)).alloc (.cells T.toArray tt)) (.cells C.toArray tc)
  rw [World.size_alloc] at h2
  rw [World.size_alloc, World.size_alloc] at h3
  refine ⟨rangeAt_whole (T := tp) ?_, rangeAt_whole (T := tt) ?_, rangeAt_whole (T := tc) ?_, by rw [h]; simp, ?_⟩
  · rw [h]; exact (Below.heap_alloc _ _ _ (by simp; omega)).trans ((Below.heap_alloc _ _ _ (by simp)).trans h1)
  · rw [h]; exact (Below.heap_alloc _ _ _ (by simp)).trans h2
  · rw [h]; exact h3
  · rw [h]; exact (((Below.refl _ w).alloc (Nat.le_refl _) _).alloc (by simp) _).alloc (by simp; omega) _
theorem Box3.keep {b : Nat} {P T C : List Value} {w0 w w' : World} (h : Box3 b P T C w0 w) (hs : w.heap.size ≤ w'.heap.size) (hk : ∀ k, b ≤ k → k ≤ b + 2 → w'.heap[k]? = w.heap[k]?) (ho : Below w0.heap.size w0 w') : Box3 b P T C w0 w' :=
  ⟨rangeAt_block h.rp (hk _ (by omega) (by omega)), rangeAt_block h.rt (hk _ (by omega) (by omega)), rangeAt_block h.rc (hk _ (by omega) (by omega)), by have := h.lt; omega, ho⟩
theorem evOne {w w' : World} {x : Ev} (h : w' = w.alloc (.cells (evL x).toArray 43)) : RdR evR w' (.slice (some ⟨w.heap.size, 0, none⟩) 1 1) [x] := by
  refine .inr ⟨w.heap.size, 0, 1, rfl, Nat.le_refl _, by rw [h]; simp, ?_⟩
  rw [RowTy.all_one]
  exact rangeAt_whole (T := 43) (by rw [h]; exact World.alloc_heap_new _ _)
theorem evNil (w : World) : RdR evR w (.slice none 0 0) [] := .inl ⟨rfl, rfl⟩
theorem LdAt.alloc {N g gl : Nat} {A : Acc} {M : Cls Int} {w w' : World} (h : LdAt N g gl A M w) (hb : Below w.heap.size w w') : LdAt N g gl A M w' := h.below hb
theorem Off.below {g : Nat} {w w' : World} (h : Below w.heap.size w w') : Off g w w' := fun j hj _ => h.block j hj
set_option maxRecDepth 100000 in
set_option maxHeartbeats 4000000 in
theorem act_spend {N g gl : Nat} {A : Acc} {M : Cls Int} {w : World} (h : LdAt N g gl A M w) (hN : N ≤ w.heap.size) (x : Lf) (t : Trk) (vp rp : Option Addr) (tr now : Int) :
    Calls Tryz.prog 50 #[.agg (plL g vp rp tr now).toArray, .agg (trkL t).toArray, .agg (lfL x).toArray] w fun e w' => ∃ u, e = .returned (.tuple #[u, .int .i64 (spnE A M t x)]) ∧ RdR evR w' u (spnV A M t x) ∧ LdAt N g gl (spnA A M t x) M w' ∧ Below N w w' ∧ Off g w w' := by
  obtain ⟨W, hW⟩ : ∃ W, W = ((w.alloc (.cells (plL g vp rp tr now).toArray 77)).alloc (.cells (trkL t).toArray 72)).alloc (.cells (lfL x).toArray 40) := ⟨_, rfl⟩
  have hB := Box3.new hW
  obtain ⟨b, hb⟩ : ∃ b, b = w.heap.size := ⟨_, rfl⟩
  rw [← hb] at hB
  have hlW : LdAt N g gl A M W := h.below hB.old
  have hNW : N ≤ W.heap.size := Nat.le_trans hN hB.old.size
  have c0 : W.cell? ⟨b, 0, none⟩ = some (.pointer (some ⟨g, 0, none⟩)) := hB.rp 0 _ rfl
  obtain ⟨tb, htb⟩ : ∃ tb, tb = b + 1 := ⟨_, rfl⟩
  obtain ⟨cb, hcb⟩ : ∃ cb, cb = tb + 1 := ⟨_, rfl⟩
  have c1 : W.cell? ⟨cb, 1, none⟩ = some (.int .i64 x.2.1) := by rw [hcb, htb]; exact hB.rc 1 _ rfl
  have c2 : W.cell? ⟨cb, 2, none⟩ = some (.int .i64 x.2.2.1) := by rw [hcb, htb]; exact hB.rc 2 _ rfl
  have c3 : W.cell? ⟨tb, 16, none⟩ = some (.int .i64 t.cap) := by rw [htb]; exact hB.rt 16 _ rfl
  have hcbg : g ≠ cb := by have := h.lt; omega
  have hglt : g < w.heap.size := h.lt
  obtain ⟨dst, hto⟩ : ∃ dst, dst = x.2.1 := ⟨_, rfl⟩
  obtain ⟨n, hn⟩ : ∃ n, n = x.2.2.1 := ⟨_, rfl⟩
  obtain ⟨cp, hcp⟩ : ∃ cp, cp = t.cap := ⟨_, rfl⟩
  have e1 : spnE A M t x = if cp < n then 10 else transE A M 0 dst n := by rw [hto, hn, hcp]; rfl
  have e2 : spnA A M t x = if cp < n then A else transA A M 0 dst n := by rw [hto, hn, hcp]; rfl
  have e3 : spnV A M t x = if spnE A M t x = 0 then [(3, dst, n)] else [] := by rw [hto, hn]; rfl
  rw [← hto] at c1
  rw [← hn] at c2
  rw [← hcp] at c3
  rw [e3, e1, e2]
  have HW := Lib.hid (And.intro hW (And.intro hb (And.intro htb hcb)))
  have HB := Lib.hid hB
  have HL := Lib.hid (And.intro hlW (And.intro hNW (And.intro h hN)))
  have hbel : Below N w W := hB.old.mono hN
  have HBN := Lib.hid hbel
  clear hW hB hlW hNW h hN hto hn hcp e1 e2 e3 hbel hb htb hcb
  by_cases hov : cp < n
  · rw [if_pos hov, if_pos hov]
    have HOV := Lib.hid hov
    have hlast : ∃ u, Ending.returned (.tuple #[.slice none 0 0, .int .i64 10]) = .returned (.tuple #[u, .int .i64 (10 : Int)]) ∧ RdR evR W u (if (10 : Int) = 0 then [(3, dst, n)] else []) ∧ LdAt N g gl A M W ∧ Below N w W ∧ Off g w W := ⟨_, rfl, by rw [if_neg (by decide)]; exact evNil _, HL.out.1, HBN.out, Off.below HB.out.old⟩
    have HLA := Lib.hid hlast
    clear hlast
    go_enter Tryz.func50, Tryz.ntmps50
    go_upto_region 1 with fail
    rw [← HW.out.1, ← HW.out.2.1, ← HW.out.2.2.1, ← HW.out.2.2.2]
    go_wp2_with fail
    exact bodyPost_ret (v := .tuple #[.slice none 0 0, .int .i64 10]) (by simp [results, Tryz.results50, go_sem]) rfl HLA.out
  · rw [if_neg hov, if_neg hov]
    have hnov : ¬ cp < n := hov
    obtain ⟨E, hE⟩ : ∃ E, E = transE A M 0 dst n := ⟨_, rfl⟩
    obtain ⟨A', hA'⟩ : ∃ A', A' = transA A M 0 dst n := ⟨_, rfl⟩
    rw [← hE, ← hA']
    have htr := ledger_TransferF HL.out.1 HL.out.2.1 (a := 0) (by decide) dst n
    rw [← hE, ← hA'] at htr
    have HTR := Lib.hid htr
    have hbg : ∀ w', Off g W w' → w'.cell? ⟨cb, 1, none⟩ = some (.int .i64 dst) ∧ w'.cell? ⟨cb, 2, none⟩ = some (.int .i64 n) := fun w' ho => by
      have := HB.out.lt
      have e := ho cb (by have h1 := HW.out.2.2.1; have h2 := HW.out.2.2.2; omega) (fun e => hcbg e.symm)
      exact ⟨(World.cell?_of_block (a := ⟨cb, 1, none⟩) e).trans c1, (World.cell?_of_block (a := ⟨cb, 2, none⟩) e).trans c2⟩
    have HBG := Lib.hid hbg
    clear hE hA' htr hov hbg
    go_enter Tryz.func50, Tryz.ntmps50
    go_upto_region 1 with fail
    rw [← HW.out.1, ← HW.out.2.1, ← HW.out.2.2.1, ← HW.out.2.2.2]
    by_cases h0 : E = 0
    · have hq : (E == 0) = true := by simp [h0]
      have H0 := Lib.hid h0
      clear h0
      go_wp2_with (first
        | (go_at_call 67; refine HTR.out.mono ?_; rintro e w1 ⟨rfl, h1, h2, h3⟩; obtain ⟨d1, d2⟩ := HBG.out w1 h3; have H1 := Lib.hid (And.intro h1 (And.intro h2 h3)); clear h1 h2 h3)
        | fail)
      have hev := evOne (w := w1) (w' := w1.alloc (.cells #[.int .i64 3, .int .i64 dst, .int .i64 n] 43)) (x := (3, dst, n)) rfl
      exact bodyPost_ret (v := .tuple #[.slice (some ⟨w1.heap.size, 0, none⟩) 1 1, .int .i64 0]) (by simp [results, Tryz.results50, go_sem]) rfl ⟨.slice (some ⟨w1.heap.size, 0, none⟩) 1 1, by first | rfl | rw [H0.out], by first | exact hev | (rw [if_pos H0.out]; exact hev), H1.out.1.below ((Below.refl _ w1).alloc (Nat.le_refl _) _), HBN.out.trans ((H1.out.2.1.alloc (Nat.le_trans HL.out.2.1 H1.out.2.1.size) _)), (Off.below HB.out.old).trans HB.out.old.size (H1.out.2.2.trans H1.out.2.1.size (Off.below ((Below.refl _ w1).alloc (Nat.le_refl _) _)))⟩
    · have hq : (E == 0) = false := by simp [h0]
      have H0 := Lib.hid h0
      clear h0
      go_wp2_with (first
        | (go_at_call 67; refine HTR.out.mono ?_; rintro e w1 ⟨rfl, h1, h2, h3⟩; have H1 := Lib.hid (And.intro h1 (And.intro h2 h3)); clear h1 h2 h3)
        | fail)
      exact bodyPost_ret (v := .tuple #[.slice none 0 0, .int .i64 E]) (by simp [results, Tryz.results50, go_sem]) rfl ⟨_, rfl, by first | exact evNil _ | (rw [if_neg H0.out]; exact evNil _), H1.out.1, HBN.out.trans H1.out.2.1, (Off.below HB.out.old).trans HB.out.old.size H1.out.2.2⟩
end Go.Proofs.YtfgkaookgfghoaaGreat
end

section
namespace Go.Proofs.YtfgkaookgfghoaaGreat
open Go.RowKit Go.Maps Go.Shelf
set_option linter.unusedVariables false
set_option linter.unusedSimpArgs false

theorem and1023 {x : Int} (h0 : 0 ≤ x) (h1 : x ≤ 1023) : bits .and .i64 x 1023 = x := by
  have e : (BitVec.ofInt 64 x).toNat = x.toNat := by
    rw [BitVec.toNat_ofInt]; omega
  have e2 : (BitVec.ofInt 64 x &&& BitVec.ofInt 64 1023).toNat = x.toNat := by
    rw [BitVec.toNat_and, e, show (BitVec.ofInt 64 1023).toNat = 2 ^ 10 - 1 from rfl, Nat.and_two_pow_sub_one_eq_mod]
    exact Nat.mod_eq_of_lt (by omega)
  show IntKind.i64.wrap ((BitVec.ofInt 64 x &&& BitVec.ofInt 64 1023).toNat : Int) = _
  rw [e2, IntWalk.i64_in _ (by omega)]; omega
/-- One of one's own numbers, set anew. -/
theorem OwnN.setAt {B g n cap k : Nat} {l : List Int} {w : World} {y : Int} (h : OwnN B (.slice (some ⟨g, 0, none⟩) n cap) l w) (hk : k < l.length) : OwnN B (.slice (some ⟨g, 0, none⟩) n cap) (l.set k y) (w.setCell ⟨g, k, none⟩ (.int .i64 y)) := by
  obtain ⟨h1, h2⟩ := h
  unfold OwnN
  rw [List.length_set]
  refine ⟨by simp [Is], ?_⟩
  rcases h2 with ⟨h2, -⟩ | ⟨g', cap', cur, e, hb, hg, hn, hm, hs, ht⟩
  · cases h2
  · injection e with e1 e2 e3
    injection e1 with e1
    injection e1 with e1
    subst e1 e2 e3
    refine .inr ⟨g, cap, cur.setIfInBounds k (.int .i64 y), rfl, hb, ?_, hn, hm, by simpa using hs, ?_⟩
    · simp [World.setCell, Array.getElem?_modify, hg]
    · rw [Array.toList_setIfInBounds, List.take_set, ht]
      simp [Is, List.map_set]
theorem OwnN.frozen {B g n cap k : Nat} {l : List Int} {w : World} (h : OwnN B (.slice (some ⟨g, 0, none⟩) n cap) l w) : w.frozen? ⟨g, k, none⟩ = false := by
  rcases h.2 with ⟨h2, -⟩ | ⟨g', cap', cur, e, hb, hg, -⟩
  · cases h2
  · injection e with e1 e2 e3
    injection e1 with e1
    injection e1 with e1
    subst e1
    simp [World.frozen?, hg]
/-- The balances of the law's accounts. -/
def balF (fr : List Int) (i : Nat) : Int := 100 + (if i < fr.length then fr.getD i 0 else 0)
def bal3 (fr : List Int) : List Int := (List.range 10).map (balF fr)
theorem bal3_len (fr : List Int) : (bal3 fr).length = 10 := by simp [bal3]
theorem bal3_take (fr : List Int) {k : Nat} (h : k < 10) : (bal3 fr).take (k + 1) = (bal3 fr).take k ++ [balF fr k] := by
  rw [List.take_succ_eq_append_getElem (by rw [bal3_len]; exact h)]
  simp [bal3]
theorem bal3_ok {fr : List Int} (h : ∀ x ∈ fr, 0 ≤ x ∧ x ≤ 1023) : newOk (bal3 fr) := by
  refine newOk_small (by rw [bal3_len]; exact Nat.le_refl _) (fun n hn => ?_)
  obtain ⟨i, -, rfl⟩ := List.mem_map.1 hn
  unfold balF
  split
  · rename_i hi
    have := h (fr.getD i 0) (by rw [List.getD_eq_getElem?_getD, List.getElem?_eq_getElem hi]; exact List.getElem_mem _)
    omega
  · omega
theorem ReAt.bound {F : FP} {r : Nat} {ts : List Trk} {w : World} (h : ReAt F r ts w) : ReAt (fun k => F k ∧ k < w.heap.size) r ts w := by
  obtain ⟨tb, cap, gp, h1, h2, h3, h4, h5, h6⟩ := h
  exact ⟨tb, cap, gp, h1, h2, ⟨h3, (Array.getElem?_eq_some_iff.1 h1).1⟩, ⟨h4, h5⟩, h5, h6⟩
/-- All that the law needs, in memory. -/
structure PrAt (N p g gl vb r : Nat) (F : FP) (A : Acc) (w : World) : Prop where
  pr : ∃ px py pz, w.heap[p]? = some (.cells #[.pointer (some ⟨g, 0, none⟩), .pointer (some ⟨vb, 0, none⟩), .pointer (some ⟨r, 0, none⟩), .pointer px, .pointer py, .pointer pz] 32 (0, 0))
  ld : LdAt N g gl A [] w
  re : ReAt F r [tkA, tkB, tkC] w
  fg : ∀ k, F k → k ≠ g ∧ k < w.heap.size
  ne : p ≠ g
  lo : N ≤ p
theorem PrAt.ledger {N p g gl vb r : Nat} {F : FP} {A A' : Acc} {w w' : World} (h : PrAt N p g gl vb r F A w) (hl : LdAt N g gl A' [] w') (ho : Off g w w') (hs : w.heap.size ≤ w'.heap.size) : PrAt N p g gl vb r F A' w' := by
  obtain ⟨px, py, pz, hp⟩ := h.pr
  exact ⟨⟨px, py, pz, (ho p (Array.getElem?_eq_some_iff.1 hp).1 h.ne).trans hp⟩, hl, h.re.keep hs (fun k hk hlt => ho k hlt (h.fg k hk).1), fun k hk => ⟨(h.fg k hk).1, Nat.lt_of_lt_of_le (h.fg k hk).2 hs⟩, h.ne, h.lo⟩
theorem PrAt.below {N p g gl vb r : Nat} {F : FP} {A : Acc} {w w' : World} (h : PrAt N p g gl vb r F A w) (hb : Below w.heap.size w w') : PrAt N p g gl vb r F A w' :=
  h.ledger (h.ld.below hb) (fun k hk _ => hb.block k hk) hb.size
theorem PrAt.cells {N p g gl vb r : Nat} {F : FP} {A : Acc} {w : World} (h : PrAt N p g gl vb r F A w) : w.cell? ⟨p, 0, none⟩ = some (.pointer (some ⟨g, 0, none⟩)) ∧ w.cell? ⟨p, 1, none⟩ = some (.pointer (some ⟨vb, 0, none⟩)) ∧ w.cell? ⟨p, 2, none⟩ = some (.pointer (some ⟨r, 0, none⟩)) := by
  obtain ⟨px, py, pz, hp⟩ := h.pr
  exact ⟨by rw [World.cell?, hp]; rfl, by rw [World.cell?, hp]; rfl, by rw [World.cell?, hp]; rfl⟩
theorem tk_newB : newB [tkA, tkB, tkC] = true := by decide
theorem tracks_New {b : Nat} {w : World} (hr : w.rangeAt b 0 (trkR.all [tkA, tkB, tkC])) (hb : b < w.heap.size) : Calls Tryz.prog 12 #[.slice (some ⟨b, 0, none⟩) 3 3] w fun e w' => Below w.heap.size w w' ∧ ∃ r, e = .returned (.tuple #[.pointer (some ⟨r, 0, none⟩), .int .i64 0]) ∧ ReAt (fun k => w.heap.size ≤ k) r [tkA, tkB, tkC] w' := by
  refine (refer_New (ts := [tkA, tkB, tkC]) (cap := 3) hr hb (by decide) (by decide)).mono ?_
  rintro e w' ⟨hb, ⟨-, h⟩ | ⟨hno, -⟩⟩
  · exact ⟨hb, h⟩
  · rw [tk_newB] at hno; cases hno
theorem tracks_New12 {b : Nat} {w : World} (hr : w.rangeAt b 0 (trkR.all [tkA, tkB, tkC])) (hb : b < w.heap.size) : Calls Tryz.prog 14 #[.slice (some ⟨b, 0, none⟩) 3 3] w fun e w' => Below w.heap.size w w' ∧ ∃ r, e = .returned (.tuple #[.pointer (some ⟨r, 0, none⟩), .int .i64 0]) := by
  refine (ref12_New (ts := [tkA, tkB, tkC]) (cap := 3) hr hb (by decide) (by decide)).mono ?_
  rintro e w' ⟨hb, ⟨-, h⟩ | ⟨hno, -⟩⟩
  · exact ⟨hb, h⟩
  · rw [tk_newB] at hno; cases hno
set_option maxRecDepth 100000 in
set_option maxHeartbeats 8000000 in
theorem law_begin (v : Value) (fr : List Int) (w : World) (hr : RdI w v fr) (hlen : fr.length ≤ 10) (hfr : ∀ x ∈ fr, 0 ≤ x ∧ x ≤ 1023) : Calls Tryz.prog 6 #[v, .int .i64 0] w fun e w' => ∃ p g gl vb r F, e = .returned (.pointer (some ⟨p, 0, none⟩)) ∧ PrAt w.heap.size p g gl vb r F (accL (bal3 fr)) w' ∧ Below w.heap.size w w' := by
  obtain ⟨ao, cap, rfl⟩ := hr.lenOf
  obtain ⟨L, hL⟩ : ∃ L, L = fr.length := ⟨_, rfl⟩
  rw [← hL] at hr hlen ⊢
  have HR := Lib.hid (And.intro hr (And.intro hL hfr))
  clear hr hL hfr
  go_enter Tryz.func6, Tryz.ntmps6
  go_wp2_with fail
  go_loopw [5, 6] (fun u i wr => ∃ k : Nat, k ≤ 10 ∧ i = .int .i64 k ∧ OwnN w.heap.size u ((bal3 fr).take k) wr ∧ Below w.heap.size w wr) (fun _ i _ => 10 - (intOf i).toNat)
  case atStart => exact ⟨0, by omega, rfl, OwnN.nil _ _, Below.refl _ _⟩
  case round =>
    obtain ⟨k, hk, rfl, how, hbl⟩ := hrel
    by_cases hlt : k < 10
    · have hlt' : (k : Int) < 10 := by omega
      have htk := bal3_take fr hlt
      have hln : ((bal3 fr).take k).length = k := by rw [List.length_take, bal3_len]; omega
      have HS := Lib.hid (And.intro how (And.intro hbl (And.intro htk hln)))
      clear how hbl htk hln
      go_upto_region 6 with (first
        | (at_builtin; refine wpl_appN (B := w.heap.size) (ub := wr.heap.size) (xs := (bal3 fr).take k) (y := 100) rfl rfl rfl rfl (HS.out.1.of (Nat.le_refl _) (fun k hk => Below.heap_alloc _ _ _ (HS.out.1.block hk).2)) (by rw [World.cell?, World.alloc_heap_new]; rfl) (by have := HS.out.2.2.2; omega) (by have := HS.out.2.1.size; rw [World.size_alloc]; omega) ?_; intro v' w4 hO4 hg4; obtain ⟨gb, c4, rfl, hc4, hb4, hl4⟩ := hO4.at (k := k) (by rw [List.length_append, HS.out.2.2.2]; simp); have hle : ((bal3 fr).take k ++ [(100 : Int)]).length = k + 1 := (by rw [List.length_append, HS.out.2.2.2]; rfl); rw [hle] at hO4; rw [hle]; have hf4 := hO4.frozen (k := k); have HO4 := Lib.hid hO4; have HG4 := Lib.hid hg4; have HC4 := Lib.hid (And.intro hb4 hl4); clear hO4 hg4 hle hb4 hl4)
        | fail)
      have hbw : Below w.heap.size w w4 := Below.grown (HS.out.2.1.alloc HS.out.2.1.size _) HG4.out (by have := HS.out.2.1.size; rw [World.size_alloc]; omega) (fun j hj => (HS.out.1.block hj).1)
      have hkk : (k : Int) < ((k + 1 : Nat) : Int) := by omega
      by_cases hkL : k < L
      · have hkL' : (k : Int) < L := by omega
        obtain ⟨a, rfl, ca⟩ := (HR.out.1.below hbw).at (show k < fr.length by rw [← HR.out.2.1]; exact hkL)
        obtain ⟨x, hx⟩ : ∃ x, x = fr.getD k 0 := ⟨_, rfl⟩
        rw [← hx] at ca
        have hx1 : 0 ≤ x ∧ x ≤ 1023 := by
          rw [hx, List.getD_eq_getElem?_getD, List.getElem?_eq_getElem (by rw [← HR.out.2.1]; exact hkL)]
          exact HR.out.2.2 _ (List.getElem_mem _)
        have hand := and1023 hx1.1 hx1.2
        have hadd : IntKind.i64.wrap (100 + x) = 100 + x := IntWalk.i64_in _ (by omega)
        have hset : OwnN w.heap.size (.slice (some ⟨gb, 0, none⟩) (k + 1) c4) ((bal3 fr).take (k + 1)) (w4.setCell ⟨gb, k, none⟩ (.int .i64 (100 + x))) := by
          have := HO4.out.setAt (k := k) (y := 100 + x) (by rw [List.length_append, HS.out.2.2.2]; simp)
          have e : ((bal3 fr).take k ++ [(100 : Int)]).set k (100 + x) = (bal3 fr).take (k + 1) := by
            rw [HS.out.2.2.1, List.set_append_right _ _ (by rw [HS.out.2.2.2]; exact Nat.le_refl _), HS.out.2.2.2, Nat.sub_self]
            show _ ++ [100 + x] = _
            unfold balF
            rw [if_pos (by rw [← HR.out.2.1]; exact hkL), hx]
          rw [e] at this
          exact this
        have hb5 : Below w.heap.size w (w4.setCell ⟨gb, k, none⟩ (.int .i64 (100 + x))) := hbw.trans ⟨rfl, rfl, rfl, by simp [World.setCell], fun j hj => Below.heap_setCell _ _ _ j (by have := HC4.out.1; show j ≠ gb; omega)⟩
        have H5 := Lib.hid (And.intro hset hb5)
        clear hset hb5 hbw hx hx1
        go_wp2_with fail
        go_roundw
        case rel => exact ⟨k + 1, by omega, by go_num, H5.out.1, H5.out.2⟩
        case measure => simp [intOf]; omega
      · have hkL' : ¬ (k : Int) < L := by omega
        have e : (bal3 fr).take k ++ [(100 : Int)] = (bal3 fr).take (k + 1) := by
          rw [HS.out.2.2.1]
          unfold balF
          rw [if_neg (by rw [← HR.out.2.1]; exact hkL)]
          rfl
        have how := HO4.out
        rw [e] at how
        have H5 := Lib.hid (And.intro how hbw)
        clear how hbw e
        go_wp2_with fail
        go_roundw
        case rel => exact ⟨k + 1, by omega, by go_num, H5.out.1, H5.out.2⟩
        case measure => simp [intOf]; omega
    · have hge : ¬ (k : Int) < 10 := by omega
      have hk10 : k = 10 := by omega
      have htk : (bal3 fr).take k = bal3 fr := List.take_of_length_le (by rw [bal3_len]; omega)
      rw [htk] at how
      have hok := bal3_ok HR.out.2.2
      have hrd := how.readsI
      obtain ⟨uo, uc, rfl⟩ := how.lenOf
      rw [bal3_len] at hrd ⊢
      have HK := Lib.hid (And.intro hok (And.intro hrd hbl))
      clear how hbl htk hok hrd hlt hk
      have tok : True := trivial
      go_wp2_with (first
        | (go_at_call 10; refine (ledger_New_ok HK.out.2.1 (by rw [bal3_len]; unfold maxLen; omega) HK.out.1).mono ?_; rintro e w1 ⟨g, gl, rfl, hl, hb⟩; have H1 := Lib.hid (And.intro hl hb); clear hl hb)
        | (go_at_call 11; refine (ref6_New _ (bal3 fr) w1 (HK.out.2.1.below H1.out.2) (by rw [bal3_len]; exact Nat.le_refl _)).mono ?_; rintro e w2 ⟨px, cx, rfl, hb⟩; have H2 := Lib.hid hb; clear hb)
        | (go_at_call 13; have _t := tok; refine (law_tracks _).mono ?_; rintro e w3 ⟨tb, rfl, hr, hlo, hlt, hb⟩; have H3 := Lib.hid (And.intro hr (And.intro hlt hb)); clear hr hlo hlt hb tok)
        | (go_at_call 12; refine (tracks_New H3.out.1 H3.out.2.1).mono ?_; rintro e w4 ⟨hb, r, rfl, hre⟩; have H4 := Lib.hid (And.intro hre hb); clear hre hb)
        | (go_at_call 13; refine (law_tracks _).mono ?_; rintro e w5 ⟨tb2, rfl, hr, hlo, hlt, hb⟩; have H5 := Lib.hid (And.intro hr (And.intro hlt hb)); clear hr hlo hlt hb)
        | (go_at_call 14; refine (tracks_New12 H5.out.1 H5.out.2.1).mono ?_; rintro e w6 ⟨hb, rz, rfl⟩; have H6 := Lib.hid hb; clear hb)
        | (go_at_call 15; refine (voting_New _).mono ?_; rintro e w7 ⟨vb, rfl, hb⟩; have H7 := Lib.hid hb; clear hb)
        | (go_at_call 16; refine (ref11_New _).mono ?_; rintro e w8 ⟨py, rfl, hb⟩; have H8 := Lib.hid hb; clear hb)
        | fail)
      have hb1 := HK.out.2.2.trans (H1.out.2.mono HK.out.2.2.size)
      have hb2 := H2.out
      have hb3 := hb2.trans (H3.out.2.2.mono hb2.size)
      have hb5 := H5.out.2.2
      have hb6 := hb5.trans (H6.out.mono hb5.size)
      have hb7 := hb6.trans (H7.out.mono hb6.size)
      have hb8 := hb7.trans (H8.out.mono hb7.size)
      obtain ⟨W, hW⟩ : ∃ W, W = w8.alloc (.cells #[.pointer (some ⟨g, 0, none⟩), .pointer (some ⟨vb, 0, none⟩), .pointer (some ⟨r, 0, none⟩), .pointer px, .pointer py, .pointer (some ⟨rz, 0, none⟩)] 32) := ⟨_, rfl⟩
      obtain ⟨p, hp⟩ : ∃ p, p = w8.heap.size := ⟨_, rfl⟩
      have hb9 : Below w4.heap.size w4 W := by rw [hW]; exact hb8.alloc hb8.size _
      have h4 := H4.out.1
      have hb14 := hb3.trans (H4.out.2.mono hb3.size)
      have hgl := H1.out.1.lt
      have hld : LdAt w.heap.size g gl (accL (bal3 fr)) [] W := by
        have h0 := (H1.out.1.below hb14).below hb9
        obtain ⟨F, f1, f2⟩ := h0.gr
        have hs := HK.out.2.2.size
        exact ⟨h0.blk, ⟨F, f1, fun k hk => ⟨Nat.le_trans hs (f2 k hk).1, (f2 k hk).2⟩⟩, Nat.le_trans hs h0.lo, h0.ok, h0.len⟩
      have hbw : Below w.heap.size w W := hb1.trans ((hb14.trans (hb9.mono hb14.size)).mono hb1.size)
      have hpr : PrAt w.heap.size p g gl vb r (fun j => w3.heap.size ≤ j ∧ j < w4.heap.size) (accL (bal3 fr)) W := by
        refine ⟨⟨px, py, _, by rw [hW, hp]; exact World.alloc_heap_new _ _⟩, hld, h4.bound.below hb9, fun j hj => ⟨?_, Nat.lt_of_lt_of_le hj.2 hb9.size⟩, ?_, ?_⟩
        · have := hj.1; have := hb3.size; omega
        · have := hb14.size; have := hb8.size; omega
        · have := hb1.size; have := hb14.size; have := hb8.size; omega
      have HP := Lib.hid (And.intro hpr hbw)
      rw [show w8.alloc (.cells #[.pointer (some ⟨g, 0, none⟩), .pointer (some ⟨vb, 0, none⟩), .pointer (some ⟨r, 0, none⟩), .pointer px, .pointer py, .pointer (some ⟨rz, 0, none⟩)] 32) = W from hW.symm, ← hp]
      clear hb1 hb2 hb3 hb5 hb6 hb7 hb8 hW hp hb9 h4 hb14 hgl hld hbw hpr
      go_loopw [16] (fun i wr => i = .int .i64 0 ∧ wr = W) (fun _ _ => 0)
      case atStart => exact ⟨rfl, rfl⟩
      case round =>
        obtain ⟨rfl, rfl⟩ := hrel
        go_wp2_with fail
        exact bodyPost_ret (v := .pointer (some ⟨p, 0, none⟩)) (by simp [results, Tryz.results6, go_sem]) rfl ⟨p, g, gl, vb, r, _, rfl, HP.out⟩
end Go.Proofs.YtfgkaookgfghoaaGreat
end

section
namespace Go.Proofs.YtfgkaookgfghoaaGreat
open Go.RowKit Go.Maps Go.Shelf
set_option linter.unusedVariables false
set_option linter.unusedSimpArgs false

def doE (A : Acc) (M : Cls Int) (t : Trk) (x : Lf) : Int := if x.1 = 1 then 0 else spnE A M t x
def doA (A : Acc) (M : Cls Int) (t : Trk) (x : Lf) : Acc := if x.1 = 1 then A else spnA A M t x
def doV (A : Acc) (M : Cls Int) (t : Trk) (tr : Int) (x : Lf) : List Ev := if x.1 = 1 then [(5, tr, x.2.2.1)] else spnV A M t x
set_option maxRecDepth 100000 in
set_option maxHeartbeats 4000000 in
theorem act_do {N g gl : Nat} {A : Acc} {M : Cls Int} {w : World} (h : LdAt N g gl A M w) (hN : N ≤ w.heap.size) (x : Lf) (hk : x.1 = 1 ∨ x.1 = 2) (t : Trk) (vp rp : Option Addr) (tr now : Int) :
    Calls Tryz.prog 23 #[.agg (plL g vp rp tr now).toArray, .agg (trkL t).toArray, .agg (lfL x).toArray] w fun e w' => ∃ u, e = .returned (.tuple #[u, .int .i64 (doE A M t x)]) ∧ RdR evR w' u (doV A M t tr x) ∧ LdAt N g gl (doA A M t x) M w' ∧ Below N w w' ∧ Off g w w' := by
  obtain ⟨W, hW⟩ : ∃ W, W = ((w.alloc (.cells (plL g vp rp tr now).toArray 77)).alloc (.cells (trkL t).toArray 72)).alloc (.cells (lfL x).toArray 40) := ⟨_, rfl⟩
  have hB := Box3.new hW
  obtain ⟨b, hb⟩ : ∃ b, b = w.heap.size := ⟨_, rfl⟩
  rw [← hb] at hB
  have hlW : LdAt N g gl A M W := h.below hB.old
  have hNW : N ≤ W.heap.size := Nat.le_trans hN hB.old.size
  have c0 : W.cell? ⟨b, 3, none⟩ = some (.int .i64 tr) := hB.rp 3 _ rfl
  obtain ⟨tb, htb⟩ : ∃ tb, tb = b + 1 := ⟨_, rfl⟩
  obtain ⟨cb, hcb⟩ : ∃ cb, cb = tb + 1 := ⟨_, rfl⟩
  have r0 : W.rangeAt b 0 (plL g vp rp tr now) := hB.rp
  have r1 : W.rangeAt tb 0 (trkL t) := by rw [htb]; exact hB.rt
  have r2 : W.rangeAt cb 0 (lfL x) := by rw [hcb, htb]; exact hB.rc
  have c1 : W.cell? ⟨cb, 0, none⟩ = some (.int .i64 x.1) := r2 0 _ rfl
  have c2 : W.cell? ⟨cb, 2, none⟩ = some (.int .i64 x.2.2.1) := r2 2 _ rfl
  have hbel : Below N w W := hB.old.mono hN
  have hof : Off g w W := Off.below hB.old
  have hsz : w.heap.size ≤ W.heap.size := hB.old.size
  have HW := Lib.hid (And.intro hW (And.intro hb (And.intro htb hcb)))
  have HR := Lib.hid (And.intro r0 (And.intro r1 r2))
  rcases hk with hk | hk
  · have e1 : doE A M t x = 0 := if_pos hk
    have e2 : doA A M t x = A := if_pos hk
    have e3 : doV A M t tr x = [(5, tr, x.2.2.1)] := if_pos hk
    rw [e1, e2, e3]
    rw [hk] at c1
    obtain ⟨n, hn⟩ : ∃ n, n = x.2.2.1 := ⟨_, rfl⟩
    rw [← hn] at c2 ⊢
    have HL := Lib.hid (And.intro hlW (And.intro hNW (And.intro hbel hof)))
    clear e1 e2 e3 hW hb htb hcb r0 r1 r2 hlW hNW hbel hof hB h hN hn hk
    go_enter Tryz.func23, Tryz.ntmps23
    go_upto_region 1 with fail
    rw [← HW.out.1, ← HW.out.2.1, ← HW.out.2.2.1, ← HW.out.2.2.2]
    go_wp2_with fail
    have hev := evOne (w := W) (w' := W.alloc (.cells #[.int .i64 5, .int .i64 tr, .int .i64 n] 43)) (x := (5, tr, n)) rfl
    have hba : Below W.heap.size W (W.alloc (.cells #[.int .i64 5, .int .i64 tr, .int .i64 n] 43)) := (Below.refl _ W).alloc (Nat.le_refl _) _
    exact bodyPost_ret (v := .tuple #[.slice (some ⟨W.heap.size, 0, none⟩) 1 1, .int .i64 0]) (by simp [results, Tryz.results23, go_sem]) rfl ⟨_, rfl, hev, HL.out.1.below hba, HL.out.2.2.1.trans (hba.mono HL.out.2.1), HL.out.2.2.2.trans hsz (Off.below hba)⟩
  · have hk1 : x.1 ≠ 1 := by omega
    have e1 : doE A M t x = spnE A M t x := if_neg hk1
    have e2 : doA A M t x = spnA A M t x := if_neg hk1
    have e3 : doV A M t tr x = spnV A M t x := if_neg hk1
    rw [e1, e2, e3]
    rw [hk] at c1
    have hsp := act_spend hlW hNW x t vp rp tr now
    have HSP := Lib.hid hsp
    have HL := Lib.hid (And.intro hbel hof)
    clear e1 e2 e3 hW hb htb hcb r0 r1 r2 hlW hNW hbel hof hB h hN hk hk1 hsp c2
    go_enter Tryz.func23, Tryz.ntmps23
    go_upto_region 1 with fail
    rw [← HW.out.1, ← HW.out.2.1, ← HW.out.2.2.1, ← HW.out.2.2.2]
    go_wp2_with (first
      | (refine wpl_loadPl _ rfl rfl rfl HR.out.1 rfl ?_)
      | (refine wpl_loadR (r := trkR) (t := t) _ rfl rfl rfl HR.out.2.1 ?_)
      | (refine wpl_loadR (r := callR) (t := x) _ rfl rfl rfl HR.out.2.2 ?_)
      | (go_at_call 50; refine HSP.out.mono ?_; rintro e w1 ⟨u, rfl, h1, h2, h3, h4⟩; have H1 := Lib.hid (And.intro h1 (And.intro h2 (And.intro h3 h4))); clear h1 h2 h3 h4)
      | fail)
    exact bodyPost_ret (v := .tuple #[u, .int .i64 (spnE A M t x)]) (by simp [results, Tryz.results23, go_sem]) rfl ⟨u, rfl, H1.out.1, H1.out.2.1, HL.out.1.trans H1.out.2.2.1, HL.out.2.trans hsz H1.out.2.2.2⟩
end Go.Proofs.YtfgkaookgfghoaaGreat
end

section
namespace Go.Proofs.YtfgkaookgfghoaaGreat
open Go.RowKit Go.Maps Go.Shelf
set_option linter.unusedVariables false
set_option linter.unusedSimpArgs false

section
variable (M : Cls Int) (t : Trk) (tr : Int)
/-- The balances behind some calls. -/
def fA : Acc → List Lf → Acc
  | A, [] => A
  | A, x :: l => fA (doA A M t x) l
/-- Their events. -/
def fV : Acc → List Lf → List Ev
  | _, [] => []
  | A, x :: l => doV A M t tr x ++ fV (doA A M t x) l
/-- None of them errs. -/
def fOk : Acc → List Lf → Prop
  | _, [] => True
  | A, x :: l => doE A M t x = 0 ∧ fOk (doA A M t x) l
theorem fA_snoc : ∀ (A : Acc) (l : List Lf) (x : Lf), fA M t A (l ++ [x]) = doA (fA M t A l) M t x
  | _, [], _ => rfl
  | A, y :: l, x => fA_snoc _ l x
theorem fV_snoc : ∀ (A : Acc) (l : List Lf) (x : Lf), fV M t tr A (l ++ [x]) = fV M t tr A l ++ doV (fA M t A l) M t tr x
  | _, [], _ => by simp [fV, fA]
  | A, y :: l, x => by
    show doV A M t tr y ++ fV M t tr _ (l ++ [x]) = (doV A M t tr y ++ fV M t tr _ l) ++ _
    rw [fV_snoc _ l x, List.append_assoc]; rfl
theorem fOk_snoc : ∀ (A : Acc) (l : List Lf) (x : Lf), fOk M t A (l ++ [x]) ↔ fOk M t A l ∧ doE (fA M t A l) M t x = 0
  | _, [], _ => by simp [fOk, fA]
  | A, y :: l, x => by
    show doE A M t y = 0 ∧ fOk M t _ (l ++ [x]) ↔ (doE A M t y = 0 ∧ fOk M t _ l) ∧ _
    rw [fOk_snoc _ l x, and_assoc]; rfl
end
theorem doV_len (A : Acc) (M : Cls Int) (t : Trk) (tr : Int) (x : Lf) : (doV A M t tr x).length ≤ 1 := by
  unfold doV spnV
  split
  · simp
  · split <;> simp
theorem fV_len (M : Cls Int) (t : Trk) (tr : Int) : ∀ (A : Acc) (l : List Lf), (fV M t tr A l).length ≤ l.length
  | _, [] => Nat.le_refl _
  | A, x :: l => by
    have := doV_len A M t tr x
    have := fV_len M t tr (doA A M t x) l
    show (doV A M t tr x ++ _).length ≤ _
    rw [List.length_append, List.length_cons]; omega
/-- The ledger's block alone was changed. -/
theorem LdAt.swap {N g gl : Nat} {A A' : Acc} {M : Cls Int} {w w' : World} (h : LdAt N g gl A M w) (hg : Grow w w') (hk : ∀ k, k < w.heap.size → N ≤ k → (∃ c, w.heap[k]? = some c) → k ≠ g → w'.heap[k]? = w.heap[k]?) (hb : w'.heap[g]? = some (.cells (lcells A' gl).toArray 86 (0, 0))) (ho : AccOk A') : LdAt N g gl A' M w' := by
  obtain ⟨F, h1, h2⟩ := h.gr
  exact ⟨hb, ⟨F, h1.keep hg (fun k hk' => hk k (h1.2.2.1 k hk') (h2 k hk').1 ⟨_, Array.getElem?_eq_getElem (h1.2.2.1 k hk')⟩ (h2 k hk').2), h2⟩, h.lo, ho, h.len⟩
end Go.Proofs.YtfgkaookgfghoaaGreat
end

section
namespace Go.Proofs.YtfgkaookgfghoaaGreat
open Go.RowKit
attribute [local go_sem] Oper.semAt_some
set_option linter.unusedVariables false
set_option linter.unusedSimpArgs false

def encL (x : Lf) : Array Value := #[.agg (callR.f x).toArray]
/-- The calls of which a call is made; their rows lie in the blocks of G. -/
def Sg (G : FP) (w : World) : Nat → Lf → List Lf → Prop
  | 0, _, _ => False
  | d + 1, x, xs => (x.1 ≠ 5 ∧ xs = [x]) ∨ (x.1 = 5 ∧ x.2.2.2.2.1 ≤ 1000 ∧ ∃ yss : List (List Lf), yss.length = x.2.2.2.2.1 ∧ xs = yss.flatten ∧
      ∀ i (hi : i < yss.length), ∃ b off y, x.2.2.2.1 = some ⟨b, off, none⟩ ∧ G b ∧ w.rangeAt b (off + i * 4) (lfL y) ∧ Sg G w d y yss[i])
theorem Sg.keep {G G' : FP} {w w' : World} (hG : ∀ k, G k → G' k) (hk : ∀ k, G k → w'.heap[k]? = w.heap[k]?) : ∀ {d : Nat} {x : Lf} {xs : List Lf}, Sg G w d x xs → Sg G' w' d x xs
  | 0, _, _, h => h.elim
  | d + 1, x, xs, h => by
    rcases h with h | ⟨h5, hm, yss, hl, hx, h⟩
    · exact .inl h
    · refine .inr ⟨h5, hm, yss, hl, hx, fun i hi => ?_⟩
      obtain ⟨b, off, y, e1, e2, e3, e4⟩ := h i hi
      exact ⟨b, off, y, e1, hG b e2, rangeAt_block e3 (hk b e2), Sg.keep hG hk e4⟩
theorem lfL_cells (x : Lf) : lfL x = [.int .i64 x.1, .int .i64 x.2.1, .int .i64 x.2.2.1, .slice x.2.2.2.1 x.2.2.2.2.1 x.2.2.2.2.2] := rfl
theorem act_singles (x : Lf) (w : World) : Calls Tryz.prog 22 #[.agg (lfL x).toArray] w fun e w' => e = .returned (.func (.func 49) #[] #[.pointer (some ⟨w.heap.size, 0, none⟩)]) ∧ w' = w.alloc (.cells (lfL x).toArray 40) := by
  go_enter Tryz.func22, Tryz.ntmps22
  go_wp2
  exact bodyPost_ret (v := .func (.func 49) #[] #[.pointer (some ⟨w.heap.size, 0, none⟩)]) (by simp [results, Tryz.results22, go_sem]) rfl ⟨rfl, rfl⟩
theorem enters_singles : ∀ args w, (callFunc 49 args).run Tryz.prog w = .ok (.enter 49 args) w := enters_of Tryz.func49 (by kernel_rfl) rfl

/-- What the loop within holds. -/
def SngI (Φ0 : FP) (base yb lp : Nat) (J : List Lf → FP → World → Prop) (done : List Lf) (pre : List Lf) (Φ : FP) (W' : World) : Prop :=
  ∃ Φo, J (done ++ pre) Φo W' ∧ (∀ k, Φo k → Φ0 k ∨ base ≤ k) ∧ (∀ k, Φ k ↔ Φo k ∧ base ≤ k) ∧ Boxed W' yb 75 (.func (.yield lp) #[] #[]) ∧ base ≤ W'.heap.size
theorem SngI.stab {B base yb lp : Nat} {Φ0 : FP} {J : List Lf → FP → World → Prop} {done : List Lf} (hJ : Stab B J) (hB : B ≤ base) (hy : yb < base) : Stab base (SngI Φ0 base yb lp J done) := by
  rintro pre Φ W' ⟨Φo, hj, ho, hi, hb1, hs⟩
  obtain ⟨h1, h2, h3⟩ := hJ _ _ _ hj
  refine ⟨fun k hk => ⟨((hi k).1 hk).2, (h1 k ((hi k).1 hk).1).2⟩, hs, fun W'' hg hk => ⟨Φo, h3 W'' hg (fun k hk' => ?_), ho, hi, (hk yb (.inl hy)).trans hb1, Nat.le_trans hs hg.size⟩⟩
  rcases hk' with h | h
  · exact hk k (.inl (by omega))
  · by_cases hb : k < base
    · exact hk k (.inl hb)
    · exact hk k (.inr ((hi k).2 ⟨h, by omega⟩))
/-- .. where it was left. -/
def SngX (Φ0 : FP) (base : Nat) (Jx : List Lf → FP → World → Prop) (done : List Lf) (c : Code) (pre : List Lf) (Φ : FP) (W' : World) : Prop :=
  c = .ret ∧ ∃ Φo, Jx (done ++ pre) Φo W' ∧ (∀ k, Φo k → Φ0 k ∨ base ≤ k) ∧ (∀ k, Φ k ↔ Φo k ∧ base ≤ k) ∧ base ≤ W'.heap.size
theorem SngX.stab {B base : Nat} {Φ0 : FP} {Jx : List Lf → FP → World → Prop} {done : List Lf} (hJ : Stab B Jx) (hB : B ≤ base) (c : Code) : Stab base (SngX Φ0 base Jx done c) := by
  rintro pre Φ W' ⟨hcc, Φo, hj, ho, hi, hs⟩
  obtain ⟨h1, h2, h3⟩ := hJ _ _ _ hj
  refine ⟨fun k hk => ⟨((hi k).1 hk).2, (h1 k ((hi k).1 hk).1).2⟩, hs, fun W'' hg hk => ⟨hcc, Φo, h3 W'' hg (fun k hk' => ?_), ho, hi, Nat.le_trans hs hg.size⟩⟩
  rcases hk' with h | h
  · exact hk k (.inl (by omega))
  · by_cases hb : k < base
    · exact hk k (.inl hb)
    · exact hk k (.inr ((hi k).2 ⟨h, by omega⟩))
theorem boxC (w : World) (x : Lf) : (w.alloc (.cells (lfL x).toArray 40)).rangeAt w.heap.size 0 (lfL x) := rangeAt_whole (T := 40) (World.alloc_heap_new w _)
theorem rg0 {w : World} {b o : Nat} {x : Lf} (h : w.rangeAt b o (lfL x)) : w.cell? ⟨b, o, none⟩ = some (.int .i64 x.1) ∧ w.cell? ⟨b, o + 1, none⟩ = some (.int .i64 x.2.1) ∧ w.cell? ⟨b, o + 2, none⟩ = some (.int .i64 x.2.2.1) ∧ w.cell? ⟨b, o + 3, none⟩ = some (.slice x.2.2.2.1 x.2.2.2.2.1 x.2.2.2.2.2) :=
  ⟨h 0 _ rfl, h 1 _ rfl, h 2 _ rfl, h 3 _ rfl⟩

set_option maxHeartbeats 4000000 in
set_option maxRecDepth 100000 in
theorem singles_leaf (m : Nat) (bx : Nat) (x : Lf) (w : World) (hbx : w.rangeAt bx 0 (lfL x)) (h5 : x.1 ≠ 5) (G : FP) (hGb : G bx) : Iter Tryz.prog m 49 #[.pointer (some ⟨bx, 0, none⟩)] encL [x] G w := by
  intro lp B Ψ J Jx Φ0 W hgw hG hΨ hΦ0 hJ hJx hround h0
  have hbW : W.rangeAt bx 0 (lfL x) := rangeAt_block hbx (hG bx hGb).2
  have hbxW : bx < W.heap.size := by have := (hG bx hGb).1; have := hgw.size; omega
  obtain ⟨W1, hW1⟩ : ∃ W1, W1 = W.alloc (.cells #[.func (.yield lp) #[] #[]] 75) := ⟨_, rfl⟩
  have hB1 : Below W.heap.size W W1 := by rw [hW1]; exact (Below.refl _ W).alloc (Nat.le_refl _) _
  obtain ⟨hs1, hs2, hs3⟩ := hJ _ _ _ h0
  have hJ1 : J [] Φ0 W1 := hs3 W1 (Grow.of_below hB1) (fun k hk => hB1.block k (hk.elim (fun h => by omega) (fun h => (hs1 k h).2)))
  have hb1 : W1.rangeAt bx 0 (lfL x) := rangeAt_block hbW (hB1.block bx hbxW)
  have hy1 : W1.cell? ⟨W.heap.size, 0, none⟩ = some (.func (.yield lp) #[] #[]) := by rw [hW1, World.cell?, World.alloc_heap_new]; rfl
  obtain ⟨fn, tm, asg, bd, hyy, hR⟩ := hround [] x Φ0 W1 (List.prefix_rfl) hJ1
  simp only [encL] at hyy
  have hc1 := (rg0 hb1).1
  have hne : (x.1 == 5) = false := by simpa using h5
  have hall : ∀ (W2 : World) (Φ' : FP), Only Ψ Φ0 W1 W2 → (∀ k, Φ' k → Φ0 k ∨ W1.heap.size ≤ k) → (∀ k, Φ' k → Φ0 k ∨ W.heap.size ≤ k) ∧ Only Ψ Φ0 W W2 := fun W2 Φ' ho hn => ⟨fun k hk => (hn k hk).imp id (fun h => Nat.le_trans hB1.size h), (Only.of_later hB1).trans ho (fun k h => .inl h)⟩
  refine callsIn_of_wp_marks Tryz.func49 rfl trivial ?_ rfl
  simp only [Tryz.ntmps49, List.size_toArray, List.length_cons, List.length_nil, Nat.reduceAdd, Nat.reduceSub, Array.replicate_succ, Array.replicate_zero, List.push_toArray, List.append_toArray, List.nil_append, List.cons_append]
  have HRR := Lib.hid hR
  have HB := Lib.hid hb1
  have HA := Lib.hid hall
  clear hR hb1 hall hround h0 hJ1 hs3 hs1 hB1 hbW hbx hJ hJx
  gi_upto_region 1 with fail
  rw [← hW1]
  have HW1 := Lib.hid hW1
  clear hW1
  gi_wp2_with (first
    | (refine wplIn_loadR (r := callR) (t := x) _ rfl rfl rfl HB.out ?_)
    | fail)
  refine HRR.out.mono ?_
  rintro e W3 ⟨Φ', hn, hon, (⟨rfl, hJ'⟩ | ⟨rfl, hJ'⟩)⟩
  · obtain ⟨h1, h2⟩ := HA.out W3 Φ' hon hn
    gi_wp2
    refine ⟨_, results_none rfl _ _ _, ⟨_, rfl⟩, Φ', h1, h2, .inl hJ'⟩
  · obtain ⟨h1, h2⟩ := HA.out W3 Φ' hon hn
    gi_wp2
    refine ⟨_, results_none rfl _ _ _, ⟨_, rfl⟩, Φ', h1, h2, .inr ⟨[x], List.prefix_rfl, hJ'⟩⟩
end Go.Proofs.YtfgkaookgfghoaaGreat
end

section
namespace Go.Proofs.YtfgkaookgfghoaaGreat
open Go.RowKit
attribute [local go_sem] Oper.semAt_some
set_option linter.unusedVariables false
set_option linter.unusedSimpArgs false

theorem frameEq {c : Code} {F : Fence} {n : Nat} {P : Program} {Q : Exit → Act → World → Prop} {a b : Act} {w : World} (e : a = b) (h : c.wpIn F n P Q b w) : c.wpIn F n P Q a w := e ▸ h
def upTo2 (yss : List (List Lf)) (k : Nat) : List Lf := (yss.take k).flatten
theorem upTo2_step {yss : List (List Lf)} {k : Nat} (h : k < yss.length) : upTo2 yss (k + 1) = upTo2 yss k ++ yss[k] := by
  unfold upTo2
  rw [List.take_succ_eq_append_getElem h, List.flatten_append]
  simp
theorem upTo2_pre (yss : List (List Lf)) (k : Nat) : upTo2 yss k <+: yss.flatten := by
  refine ⟨(yss.drop k).flatten, ?_⟩
  unfold upTo2
  rw [← List.flatten_append, List.take_append_drop]
theorem boxF (w : World) (x : Lf) {w' : World} (h : w' = w.alloc (.cells (lfL x).toArray 40)) : w'.rangeAt w.heap.size 0 (lfL x) := by rw [h]; exact boxC w x
set_option maxHeartbeats 4000000 in
set_option maxRecDepth 100000 in
theorem singles_batch (m : Nat) (bx : Nat) (x : Lf) (w : World) (hbx : w.rangeAt bx 0 (lfL x)) (h5 : x.1 = 5) (hm : x.2.2.2.2.1 ≤ 1000) (yss : List (List Lf)) (hl : yss.length = x.2.2.2.2.1) (G : FP) (hGb : G bx)
    (hkid : ∀ i (hi : i < yss.length), ∃ b off y, x.2.2.2.1 = some ⟨b, off, none⟩ ∧ G b ∧ w.rangeAt b (off + i * 4) (lfL y) ∧
      ∀ (W : World) (cb : Nat), Grow w W → (∀ k, G k → k < w.heap.size ∧ W.heap[k]? = w.heap[k]?) → W.rangeAt cb 0 (lfL y) → Iter Tryz.prog m 49 #[.pointer (some ⟨cb, 0, none⟩)] encL yss[i] (fun k => G k ∨ k = cb) W) :
    Iter Tryz.prog (m + 1) 49 #[.pointer (some ⟨bx, 0, none⟩)] encL yss.flatten G w := by
  intro lp B Ψ J Jx Φ0 W hgw hG hΨ hΦ0 hJ hJx hround h0
  have hbW : W.rangeAt bx 0 (lfL x) := rangeAt_block hbx (hG bx hGb).2
  have hbxW : bx < W.heap.size := by have := (hG bx hGb).1; have := hgw.size; omega
  obtain ⟨W1, hW1⟩ : ∃ W1, W1 = W.alloc (.cells #[.func (.yield lp) #[] #[]] 75) := ⟨_, rfl⟩
  have hB1 : Below W.heap.size W W1 := by rw [hW1]; exact (Below.refl _ W).alloc (Nat.le_refl _) _
  have hs1' : W1.heap.size = W.heap.size + 1 := by rw [hW1]; simp
  have hby : Boxed W1 W.heap.size 75 (.func (.yield lp) #[] #[]) := by rw [hW1]; exact Boxed.new W _ _
  obtain ⟨hs1, hs2, hs3⟩ := hJ _ _ _ h0
  have hJ1 : J [] Φ0 W1 := hs3 W1 (Grow.of_below hB1) (fun k hk => hB1.block k (hk.elim (fun h => by omega) (fun h => (hs1 k h).2)))
  have hb1 : W1.rangeAt bx 0 (lfL x) := rangeAt_block hbW (hB1.block bx hbxW)
  have hc1 := (rg0 hb1).1
  have hc4 : W1.cell? ⟨bx, 3, none⟩ = _ := (rg0 hb1).2.2.2
  have hne : (x.1 == 5) = true := by simpa using h5
  obtain ⟨L, hL⟩ : ∃ L, L = x.2.2.2.2.1 := ⟨_, rfl⟩
  obtain ⟨ao, hao⟩ : ∃ ao, ao = x.2.2.2.1 := ⟨_, rfl⟩
  obtain ⟨cap, hcap⟩ : ∃ cap, cap = x.2.2.2.2.2 := ⟨_, rfl⟩
  rw [← hL, ← hao, ← hcap] at hc4
  rw [← hL] at hm hl
  have hkid' : ∀ i (hi : i < yss.length), ∃ b off y, ao = some ⟨b, off, none⟩ ∧ G b ∧ w.rangeAt b (off + i * 4) (lfL y) ∧
      ∀ (W : World) (cb : Nat), Grow w W → (∀ k, G k → k < w.heap.size ∧ W.heap[k]? = w.heap[k]?) → W.rangeAt cb 0 (lfL y) → Iter Tryz.prog m 49 #[.pointer (some ⟨cb, 0, none⟩)] encL yss[i] (fun k => G k ∨ k = cb) W := by rw [hao]; exact hkid
  have HO1 := Lib.hid (Only.of_later (Ψ := Ψ) (Φ := Φ0) hB1)
  have hkeep : ∀ wr, Only Ψ Φ0 W1 wr → (∀ k, G k → k < w.heap.size ∧ wr.heap[k]? = w.heap[k]?) ∧ Boxed wr W.heap.size 75 (.func (.yield lp) #[] #[]) := fun wr ho => by
    refine ⟨fun k hk => ⟨(hG k hk).1, ?_⟩, ?_⟩
    · have hkW : k < W.heap.size := by have := (hG k hk).1; have := hgw.size; omega
      rw [ho.block k (by omega) (fun h => (hΨ k h).2 hk) (fun h => hΦ0 k h hk), hB1.block k hkW]
      exact (hG k hk).2
    · exact (ho.block _ (by omega) (fun h => by have := (hΨ _ h).1; omega) (fun h => by have := (hs1 _ h).2; omega)).trans hby
  have HKP := Lib.hid hkeep
  have HKID := Lib.hid hkid'
  have HRD := Lib.hid hround
  have HJ := Lib.hid (And.intro hJ hJx)
  have HP := Lib.hid hΨ
  have HP0 := Lib.hid hΦ0
  have HGW := Lib.hid (hgw.trans (Grow.of_below hB1))
  have HS1 := Lib.hid hs1
  have HJ1 := Lib.hid hJ1
  have HG := Lib.hid hG
  have HLL := Lib.hid hl
  refine callsIn_of_wp_marks Tryz.func49 rfl trivial ?_ rfl
  simp only [Tryz.ntmps49, List.size_toArray, List.length_cons, List.length_nil, Nat.reduceAdd, Nat.reduceSub, Array.replicate_succ, Array.replicate_zero, List.push_toArray, List.append_toArray, List.nil_append, List.cons_append]
  have HW1 := Lib.hid hW1
  clear hkeep hkid' hkid hround h0 hJ1 hs3 hs1 hbx hJ hJx hb1 hB1 hbW hG hΨ hΦ0 hL hao hcap hby hl hgw h5
  gi_upto_region 1 with fail
  rw [← hW1]
  clear hW1
  gi_wp2_with fail
  have hx8 : ∃ q, q = (x.1 != 5) := ⟨_, rfl⟩
  obtain ⟨q8, hq8⟩ := hx8
  obtain ⟨k1, hk1⟩ : ∃ k1, k1 = x.1 := ⟨_, rfl⟩
  rw [← hq8, ← hk1]
  clear hq8 hk1 hc1 hne hc4
  refine wpIn_loop (fun a wr => ∃ (k : Nat) (Φ : FP) (ds : List Deferred) (u4 u16 u17 u18 u19 u20 u26 : Value), a = { tmps := #[.func (.yield lp) #[] #[], .pointer (some ⟨bx, 0, none⟩), .pointer (some ⟨W.heap.size, 0, none⟩), undef, u4, undef, .pointer (some ⟨bx, 0, none⟩), .int .i64 k1, .bool q8, undef, undef, undef, .pointer (some ⟨bx, 3, none⟩), .slice ao L cap, .int .i64 L, .int .i64 k, u16, u17, u18, u19, u20, undef, undef, undef, undef, undef, u26], defers := ds } ∧ k ≤ L ∧ J (upTo2 yss k) Φ wr ∧ Only Ψ Φ0 W1 wr ∧ (∀ j, Φ j → Φ0 j ∨ W1.heap.size ≤ j) ∧ Marks W1.heap.size ds Φ wr) (fun a _ => L - (RowKit.intOf (a.tmps.getD 15 undef)).toNat) ?_ ?_
  · exact ⟨0, Φ0, [], _, _, _, _, _, _, _, rfl, Nat.zero_le _, HJ1.out, Only.refl _ _ _, fun j h => .inl h, Marks.nil _ _ _⟩
  rintro _ wr ⟨k, Φ, ds, u4, u16, u17, u18, u19, u20, u26, rfl, hk, hJ2, ho2, hn2, hmk⟩
  by_cases hlt : k < L
  · have hlt' : (k : Int) < L := by omega
    have hky : k < yss.length := by rw [HLL.out]; exact hlt
    obtain ⟨hgk, hYB⟩ := HKP.out wr ho2
    obtain ⟨b, off, y, rfl, hGb2, hrg, hiter⟩ := HKID.out k hky
    have hrgW : wr.rangeAt b (off + k * 4) (lfL y) := rangeAt_block hrg (hgk b hGb2).2
    have hup := upTo2_step hky
    have hupM := upTo2_pre yss (k + 1)
    obtain ⟨ys, hys⟩ : ∃ ys, ys = yss[k] := ⟨_, rfl⟩
    rw [← hys] at hup hiter
    obtain ⟨q1, q2, q3⟩ := HJ.out.1 _ _ _ hJ2
    obtain ⟨v2, hv2⟩ : ∃ v2, v2 = wr.alloc (.cells (callR.f y).toArray 40) := ⟨_, rfl⟩
    have hr2 : v2.rangeAt wr.heap.size 0 (callR.f y) := boxF wr y hv2
    obtain ⟨v3, hv3⟩ : ∃ v3, v3 = v2.alloc (.cells (callR.f y).toArray 40) := ⟨_, rfl⟩
    have hs2b : v2.heap.size = wr.heap.size + 1 := by rw [hv2]; simp
    have hs3 : v3.heap.size = wr.heap.size + 2 := by rw [hv3, World.size_alloc, hs2b]
    have hB3 : Below wr.heap.size wr v3 := by rw [hv3, hv2]; exact ((Below.refl _ wr).alloc (Nat.le_refl _) _).alloc (by simp) _
    have hr3 : v3.rangeAt (wr.heap.size + 1) 0 (lfL y) := by have := boxF v2 y hv3; rwa [hs2b] at this
    have hby3 : Boxed v3 W.heap.size 75 (.func (.yield lp) #[] #[]) := (hB3.block _ (by have := ho2.grow.size; omega)).trans hYB
    have hg3 : ∀ k, G k → k < w.heap.size ∧ v3.heap[k]? = w.heap[k]? := fun k hk => ⟨(HG.out k hk).1, (hB3.block k (by have := (HG.out k hk).1; have h1 := HGW.out.size; have := ho2.grow.size; omega)).trans (hgk k hk).2⟩
    have hit := hiter v3 (wr.heap.size + 1) (HGW.out.trans (ho2.grow.trans (Grow.of_below hB3))) hg3 hr3
    have hJ3 : J (upTo2 yss k) Φ v3 := q3 v3 (Grow.of_below hB3) (fun j hj => hB3.block j (hj.elim (fun h => by have := ho2.grow.size; omega) (fun h => (q1 j h).2)))
    have hwr : W1.heap.size ≤ wr.heap.size := ho2.grow.size
    have HR2 := Lib.hid hr2
    have HRG := Lib.hid hrgW
    have HIT := Lib.hid hit
    have HT := Lib.hid (And.intro hup hupM)
    have HO2 := Lib.hid ho2
    have HN2 := Lib.hid hn2
    have HMK := Lib.hid hmk
    have HQ1 := Lib.hid q1
    have HB3 := Lib.hid hB3
    have HB0 := Lib.hid (And.intro hJ3 hby3)
    have HV2 := Lib.hid hv2
    have HV3 := Lib.hid hv3
    have HG3 := Lib.hid hg3
    clear hgk hYB hiter hrg hrgW hup hupM hys q1 q3 hr2 hs2b hB3 hr3 hby3 hit hJ3 ho2 hn2 hmk hJ2 hv2 hv3 hg3
    gi_wp2_with (first
      | (refine wplIn_loadR (r := callR) (t := y) _ rfl rfl rfl HRG.out ?_)
      | (refine wplIn_allocR (r := callR) rfl rfl rfl ?_; intro C hC)
      | (refine wplIn_storeR (r := callR) (t := y) (C := C) _ _ rfl rfl rfl rfl rfl (World.alloc_heap_new wr _) hC ?_; rw [World.setRow_alloc_new]; rw [show wr.alloc (.cells (callR.f y).toArray callR.T) = v2 from HV2.out.symm])
      | (refine wplIn_loadR (r := callR) (t := y) _ rfl rfl rfl HR2.out ?_)
      | (gi_at_call 22; refine (callsIn_wide.2 (act_singles y _)).mono ?_; rintro e w3 ⟨rfl, hw3⟩)
      | (refine ⟨trivial, ?_⟩; gi_at_call 22; refine (callsIn_wide.2 (act_singles y _)).mono ?_; rintro e w3 ⟨rfl, hw3⟩)
      | fail)
    rw [show v2.alloc (.cells (lfL y).toArray 40) = v3 from HV3.out.symm]
    have hsz2 : v2.heap.size = wr.heap.size + 1 := by rw [HV2.out]; simp
    rw [hsz2]
    refine range_outerAI (n := m) (gf := 49) (lb := #[.pointer (some ⟨wr.heap.size + 1, 0, none⟩)]) rfl enters_singles HIT.out (Grow.refl _) (fun k hk => ⟨?hG, rfl⟩) (fun _ => rfl)
      (fun k => Ψ k ∨ Φ k) ?hpsi (SngI Φ (wr.heap.size + 2) W.heap.size lp J (upTo2 yss k)) (SngX Φ (wr.heap.size + 2) Jx (upTo2 yss k)) (by rw [hs3]; exact SngI.stab HJ.out.1 (by omega) (by omega)) (fun c => by rw [hs3]; exact SngX.stab HJ.out.2 (by omega) c)
      ?h0 (fun z N => { tmps := #[.func (.yield lp) #[] #[], .pointer (some ⟨bx, 0, none⟩), .pointer (some ⟨W.heap.size, 0, none⟩), undef, .pointer (some ⟨wr.heap.size, 0, none⟩), .pointer (some ⟨N, 0, none⟩), .pointer (some ⟨bx, 0, none⟩), .int .i64 k1, .bool q8, undef, undef, undef, .pointer (some ⟨bx, 3, none⟩), .slice (some ⟨b, off, none⟩) L cap, .int .i64 L, .int .i64 k, .bool true, .pointer (some ⟨b, off + k * 4, none⟩), .agg (callR.f y).toArray, .agg (callR.f y).toArray, .func (.func 49) #[] #[.pointer (some ⟨wr.heap.size + 1, 0, none⟩)], .agg (callR.f z).toArray, undef, undef, undef, undef, u26], defers := [] })
      (fun z N W => W.heap[N]? = some (.cells (callR.f z).toArray 40 (0, 0))) (fun z N W W' h e => e.trans h) ?assign ?body ?done ?stop
    case hG =>
      rcases hk with h | h
      · have := (HG3.out k h).1; have := HGW.out.size; omega
      · omega
    case hpsi =>
      intro j hj
      rcases hj with h | h
      · obtain ⟨h1, h2⟩ := HP.out j h
        exact ⟨by omega, fun hg => by
          rcases hg with h' | h'
          · exact h2 h'
          · omega⟩
      · have hl := (HQ1.out j h).2
        refine ⟨by omega, fun hg => ?_⟩
        rcases hg with h' | h'
        · rcases HN2.out j h with h'' | h''
          · exact HP0.out j h'' h'
          · have := (HG.out j h').1; have := HGW.out.size; omega
        · omega
    case h0 => exact ⟨Φ, by simpa using HB0.out.1, fun k h => .inl h, fun k => ⟨fun h => h.elim, fun h => by have := (HQ1.out k h.1).2; omega⟩, HB0.out.2, by omega⟩
    case assign =>
      intro l z W' K hK
      simp only [encL]
      refine frameEq (b := { tmps := #[.func (.yield lp) #[] #[], .pointer (some ⟨bx, 0, none⟩), .pointer (some ⟨W.heap.size, 0, none⟩), undef, .pointer (some ⟨wr.heap.size, 0, none⟩), undef, .pointer (some ⟨bx, 0, none⟩), .int .i64 k1, .bool q8, undef, undef, undef, .pointer (some ⟨bx, 3, none⟩), .slice (some ⟨b, off, none⟩) L cap, .int .i64 L, .int .i64 k, .bool true, .pointer (some ⟨b, off + k * 4, none⟩), .agg (callR.f y).toArray, .agg (callR.f y).toArray, .func (.func 49) #[] #[.pointer (some ⟨wr.heap.size + 1, 0, none⟩)], .agg (callR.f z).toArray, undef, undef, undef, undef, u26], defers := [] }) (by simp) ?_
      gi_wp2_with (first
        | (refine wplIn_allocR (r := callR) rfl rfl rfl ?_; intro C hC)
        | (refine wplIn_storeR (r := callR) (t := z) (C := C) _ _ rfl rfl rfl rfl rfl (World.alloc_heap_new W' _) hC ?_; rw [World.setRow_alloc_new])
        | fail)
      exact hK _ ((Below.refl _ W').alloc (Nat.le_refl _) _) (by simp) (World.alloc_heap_new _ _)
    case body =>
      rintro l pre z Φi N W' hpx ⟨Φo, hj, ho, hi, hbY, hsz⟩ hl hΦl ⟨r, hr⟩ hlN hNW hAt
      have hpre : (upTo2 yss k ++ pre) ++ [z] <+: yss.flatten := by
        obtain ⟨t, ht⟩ := hpx
        obtain ⟨t2, ht2⟩ := HT.out.2
        rw [HT.out.1, ← ht] at ht2
        exact ⟨t ++ t2, Eq.trans (by simp) ht2⟩
      have hsn : (upTo2 yss k ++ pre) ++ [z] = upTo2 yss k ++ (pre ++ [z]) := by simp
      obtain ⟨fn, tm, asg, bd, hyy, hR⟩ := HRD.out _ z Φo W' hpre hj
      simp only [encL] at hyy
      have hy1 := hbY.cell
      have hrN : W'.rangeAt N 0 (callR.f z) := rangeAt_whole (T := 40) hAt
      have HRN := Lib.hid hrN
      have HBY2 := Lib.hid hbY
      have HSN := Lib.hid hsn
      have HHO := Lib.hid ho
      have HHI := Lib.hid hi
      have HRR := Lib.hid hR
      clear hpre hsn hbY ho hi hR hrN hAt
      gi_wp2_with (first
        | (refine wplIn_loadR (r := callR) (t := z) _ rfl rfl rfl HRN.out ?_)
        | fail)
      refine ⟨fun h => by simp [Fence.wide] at h, (RoundIn.inAny HRR.out).mono ?_⟩
      rintro e W3 ⟨Φo', hn, hon, (⟨rfl, hJ'⟩ | ⟨rfl, hJ'⟩)⟩
      · have out : ∀ k, W.heap.size ≤ k → k < wr.heap.size + 2 → ¬ Φ k → W3.heap[k]? = W'.heap[k]? := fun k h1 h2 h3 => hon.block k (by omega) (fun h => by have := (HP.out k h).1; omega) (fun h => (HHO.out k h).elim h3 (fun h => by omega))
        have hno : ∀ k, Φo' k → Φ k ∨ wr.heap.size + 2 ≤ k := fun k hk => (hn k hk).elim (HHO.out k) (fun h => .inr (by omega))
        have hYn : ¬ Φ W.heap.size := fun h => (HN2.out _ h).elim (fun h => by have := (HS1.out _ h).2; omega) (fun h => by omega)
        have hz3 : W'.heap.size ≤ W3.heap.size := hon.grow.size
        gi_wp2
        refine ⟨fun k => Φo' k ∧ wr.heap.size + 2 ≤ k, fun k hk => (hn k hk.1).elim (fun h => .inl ((HHI.out k).2 ⟨h, hk.2⟩)) .inr, ⟨hon.grow, fun k hk h1 h2 => ?_⟩, Φo', by rw [← HSN.out]; exact hJ', hno, fun k => Iff.rfl, (out _ (Nat.le_refl _) (by omega) hYn).trans HBY2.out, by omega⟩
        refine hon.block k hk (fun h => h1 (.inl h)) (fun h => ?_)
        rcases HHO.out k h with h' | h'
        · exact h1 (.inr h')
        · exact h2 ((HHI.out k).2 ⟨h, h'⟩)
      · have hno : ∀ k, Φo' k → Φ k ∨ wr.heap.size + 2 ≤ k := fun k hk => (hn k hk).elim (HHO.out k) (fun h => .inr (by omega))
        have hz3 : W'.heap.size ≤ W3.heap.size := hon.grow.size
        gi_wp2
        refine ⟨fun k => Φo' k ∧ wr.heap.size + 2 ≤ k, fun k hk => (hn k hk.1).elim (fun h => .inl ((HHI.out k).2 ⟨h, hk.2⟩)) .inr, ⟨hon.grow, fun k hk h1 h2 => ?_⟩, rfl, Φo', by rw [← HSN.out]; exact hJ', hno, fun k => Iff.rfl, by omega⟩
        refine hon.block k hk (fun h => h1 (.inl h)) (fun h => ?_)
        rcases HHO.out k h with h' | h'
        · exact h1 (.inr h')
        · exact h2 ((HHI.out k).2 ⟨h, h'⟩)
    case done =>
      rintro D Φi W3 ⟨Φo, hj, ho, hi, hbY, hsz⟩ hon hD hnD hK
      have hnDo : ¬ Φo D := fun h => hnD ((hi D).2 ⟨h, by omega⟩)
      have hall : Only Ψ Φ wr W3 := ⟨(Grow.of_below HB3.out).trans hon.grow, fun k hk h1 h2 => by
        rw [hon.block k (by omega) (fun h => h.elim h1 h2) (fun h => h)]
        exact HB3.out.block k hk⟩
      have hOn : ∀ k, Φo k → Φ k ∨ wr.heap.size ≤ k := fun k hk => (ho k hk).imp id (fun h => by omega)
      have HM2 := Lib.hid (HMK.out.step (D := D) (by omega) (by omega) hnDo hK (fun k h1 h2 h3 => hall.block k h1 (fun h => by have := (HP.out k h).1; omega) h3) hOn)
      have HJ3 := Lib.hid hj
      have HO3 := Lib.hid (HO2.out.trans hall HN2.out)
      have HN3 : ∀ j, Φo j → Φ0 j ∨ W1.heap.size ≤ j := fun j hj => (hOn j hj).elim (HN2.out j) (fun h => .inr (by omega))
      have HNH := Lib.hid HN3
      clear hj ho hi hbY hon hnD hK hall hOn HN3 hnDo
      gi_wp2
      refine ⟨⟨k + 1, Φo, _, _, _, _, _, _, _, _, by go_num, hlt, ?_, HO3.out, HNH.out, HM2.out⟩, ?_⟩
      · rw [HT.out.1]; exact HJ3.out
      · simp [RowKit.intOf]; omega
    case stop =>
      rintro D Φi c pre W3 hpre ⟨rfl, Φo, hj, ho, hi, hsz⟩ hon hD hnD hK
      have hnDo : ¬ Φo D := fun h => hnD ((hi D).2 ⟨h, by omega⟩)
      have hall : Only Ψ Φ wr W3 := ⟨(Grow.of_below HB3.out).trans hon.grow, fun k hk h1 h2 => by
        rw [hon.block k (by omega) (fun h => h.elim h1 h2) (fun h => h)]
        exact HB3.out.block k hk⟩
      have hOn : ∀ k, Φo k → Φ k ∨ wr.heap.size ≤ k := fun k hk => (ho k hk).imp id (fun h => by omega)
      have HM2 := Lib.hid (HMK.out.step (D := D) (by omega) (by omega) hnDo hK (fun k h1 h2 h3 => hall.block k h1 (fun h => by have := (HP.out k h).1; omega) h3) hOn)
      have hpM : (upTo2 yss k ++ pre) <+: yss.flatten := by
        obtain ⟨t, ht⟩ := hpre
        obtain ⟨t2, ht2⟩ := HT.out.2
        rw [HT.out.1] at ht2
        refine ⟨t ++ t2, Eq.trans ?_ ht2⟩
        rw [← ht]
        simp
      have HJ3 := Lib.hid (And.intro hj hpM)
      have HO3 := Lib.hid (HO2.out.trans hall HN2.out)
      have HN3 : ∀ j, Φo j → Φ0 j ∨ W1.heap.size ≤ j := fun j hj => (hOn j hj).elim (HN2.out j) (fun h => .inr (by omega))
      have HNH := Lib.hid HN3
      clear hj ho hi hon hnD hK hall hOn HN3 hnDo hpM hpre
      gi_wp2
      obtain ⟨Ds, hds, hnd, hdd⟩ := HM2.out
      rw [hds]
      refine marks_leave Ds W3 hnd (fun D hD => (hdd D hD).2.2) (fun w' hg hk => ⟨_, results_none rfl _ _ _, ⟨_, rfl⟩, ?_⟩)
      refine ⟨Φo, fun j hj => (HNH.out j hj).imp id (fun h => by omega), ⟨(HO1.out.trans HO3.out (fun j h => .inl h)).grow.trans hg, fun k hk' h1 h2 => ?_⟩, .inr ⟨_, HJ3.out.2, (HJ.out.2 _ _ _ HJ3.out.1).2.2 w' hg (fun k hk' => hk k (fun hm => ?_))⟩⟩
      · rw [hk k (fun hm => by have := (hdd k hm).1; omega)]
        exact (HO1.out.trans HO3.out (fun j h => .inl h)).block k hk' h1 h2
      · rcases hk' with h | h
        · have := (hdd k hm).1; omega
        · exact (hdd k hm).2.1 h
  · have hkn : k = L := by omega
    subst hkn
    have hfl : upTo2 yss k = yss.flatten := by unfold upTo2; rw [← HLL.out, List.take_length]
    rw [hfl] at hJ2
    obtain ⟨Ds, rfl, hnd, hds⟩ := hmk
    have hnlt : ¬ ((k : Int) < k) := by omega
    gi_wp2
    refine marks_leave Ds wr hnd (fun D hD => (hds D hD).2.2) (fun w' hg hk => ⟨_, results_none rfl _ _ _, ⟨_, rfl⟩, ?_⟩)
    refine ⟨Φ, fun j hj => (hn2 j hj).imp id (fun h => by omega), ⟨(HO1.out.trans ho2 (fun j h => .inl h)).grow.trans hg, fun k hk' h1 h2 => ?_⟩, .inl ((HJ.out.1 _ _ _ hJ2).2.2 w' hg (fun k hk' => hk k (fun hm => ?_)))⟩
    · rw [hk k (fun hm => by have := (hds k hm).1; omega)]
      exact (HO1.out.trans ho2 (fun j h => .inl h)).block k hk' h1 h2
    · rcases hk' with h | h
      · have := (hds k hm).1; omega
      · exact (hds k hm).2.1 h
/-- The calls of which a call is made, one behind the other, to whatever body. -/
theorem singles_iter (m : Nat) : ∀ (d bx : Nat) (x : Lf) (xs : List Lf) (G : FP) (w : World), w.rangeAt bx 0 (lfL x) → G bx → Sg G w d x xs → Iter Tryz.prog (m + d) 49 #[.pointer (some ⟨bx, 0, none⟩)] encL xs G w
  | 0, _, _, _, _, _, _, _, h => h.elim
  | d + 1, bx, x, xs, G, w, hbx, hG, h => by
    rcases h with ⟨h5, rfl⟩ | ⟨h5, hm, yss, hl, rfl, h⟩
    · exact singles_leaf _ bx x w hbx h5 G hG
    · refine singles_batch (m + d) bx x w hbx h5 hm yss hl G hG (fun i hi => ?_)
      obtain ⟨b, off, y, e1, e2, e3, e4⟩ := h i hi
      refine ⟨b, off, y, e1, e2, e3, fun W cb hg hk hr => ?_⟩
      exact singles_iter m d cb y _ _ W hr (.inr rfl) (Sg.keep (fun k hk => .inl hk) (fun k hk' => (hk k hk').2) e4)
end Go.Proofs.YtfgkaookgfghoaaGreat
end

section
namespace Go.Proofs.YtfgkaookgfghoaaGreat
open Go.RowKit Go.Maps Go.Shelf
set_option linter.unusedVariables false
set_option linter.unusedSimpArgs false

section
variable (M : Cls Int) (t : Trk) (tr : Int) (A : Acc) (g gl eb r0 r1 : Nat) (V : World)
structure DoC (pre : List Lf) (Φ : FP) (W : World) (u : Value) : Prop where
  blk : W.heap[g]? = some (.cells (lcells (fA M t A pre) gl).toArray 86 (0, 0))
  ok : AccOk (fA M t A pre)
  okA : fOk M t A pre
  bx : Boxed W eb 34 u
  b0 : Boxed W r0 34 (.slice none 0 0)
  b1 : Boxed W r1 35 (.int .i64 0)
  own : OwnR evR V.heap.size u (fV M t tr A pre) W
  iff : ∀ k, Φ k ↔ u.ownBlock = some k
  sz : V.heap.size ≤ W.heap.size
  old : ∀ k, k < V.heap.size → k ≠ g → k ≠ eb → k ≠ r0 → k ≠ r1 → W.heap[k]? = V.heap[k]?
  grow : Grow V W
def DoInv (pre : List Lf) (Φ : FP) (W : World) : Prop := ∃ u, DoC M t tr A g gl eb r0 r1 V pre Φ W u
structure DoXc (pre : List Lf) (Φ : FP) (W : World) (u : Value) (E : Int) : Prop where
  blk : W.heap[g]? = some (.cells (lcells (fA M t A pre) gl).toArray 86 (0, 0))
  ok : AccOk (fA M t A pre)
  okA : ∃ p x, pre = p ++ [x] ∧ fOk M t A p ∧ E = doE (fA M t A p) M t x ∧ E ≠ 0
  b0 : Boxed W r0 34 u
  b1 : Boxed W r1 35 (.int .i64 E)
  own : OwnR evR V.heap.size u (fV M t tr A pre) W
  iff : ∀ k, Φ k ↔ u.ownBlock = some k
  sz : V.heap.size ≤ W.heap.size
  old : ∀ k, k < V.heap.size → k ≠ g → k ≠ eb → k ≠ r0 → k ≠ r1 → W.heap[k]? = V.heap[k]?
  grow : Grow V W
def DoX (c : Code) (pre : List Lf) (Φ : FP) (W : World) : Prop := c = .ret ∧ ∃ u E, DoXc M t tr A g gl eb r0 r1 V pre Φ W u E
end
section
variable {M : Cls Int} {t : Trk} {tr : Int} {A : Acc} {g gl eb r0 r1 : Nat} {V : World}
theorem DoInv.stab (hg : g < V.heap.size) (he : eb < V.heap.size) (h0 : r0 < V.heap.size) (h1 : r1 < V.heap.size) : Stab V.heap.size (DoInv M t tr A g gl eb r0 r1 V) := by
  rintro pre Φ W ⟨u, h⟩
  refine ⟨fun k hk => h.own.block ((h.iff k).1 hk), h.sz, fun W' hgr hk => ⟨u, ?_⟩⟩
  exact ⟨(hk g (.inl hg)).trans h.blk, h.ok, h.okA, (hk eb (.inl he)).trans h.bx, (hk r0 (.inl h0)).trans h.b0, (hk r1 (.inl h1)).trans h.b1, h.own.of (Nat.le_refl _) (fun k e => hk k (.inr ((h.iff k).2 e))), h.iff, Nat.le_trans h.sz hgr.size,
    fun k a b c d e => (hk k (.inl a)).trans (h.old k a b c d e), h.grow.trans hgr⟩
theorem DoX.stab (hg : g < V.heap.size) (he : eb < V.heap.size) (h0 : r0 < V.heap.size) (h1 : r1 < V.heap.size) (c : Code) : Stab V.heap.size (DoX M t tr A g gl eb r0 r1 V c) := by
  rintro pre Φ W ⟨hc, u, E, h⟩
  refine ⟨fun k hk => h.own.block ((h.iff k).1 hk), h.sz, fun W' hgr hk => ⟨hc, u, E, ?_⟩⟩
  exact ⟨(hk g (.inl hg)).trans h.blk, h.ok, h.okA, (hk r0 (.inl h0)).trans h.b0, (hk r1 (.inl h1)).trans h.b1, h.own.of (Nat.le_refl _) (fun k e => hk k (.inr ((h.iff k).2 e))), h.iff, Nat.le_trans h.sz hgr.size,
    fun k a b c d e => (hk k (.inl a)).trans (h.old k a b c d e), h.grow.trans hgr⟩
/-- The ledger within the loop. -/
theorem DoC.ledger {N : Nat} {w : World} {pre : List Lf} {Φ : FP} {W : World} {u : Value} (h : DoC M t tr A g gl eb r0 r1 V pre Φ W u) (hw : LdAt N g gl A M w) (hb : Below w.heap.size w V) (he : w.heap.size ≤ eb) (h0 : w.heap.size ≤ r0) (h1 : w.heap.size ≤ r1) : LdAt N g gl (fA M t A pre) M W :=
  hw.swap ((Grow.of_below hb).trans h.grow) (fun k hk _ _ hn => (h.old k (Nat.lt_of_lt_of_le hk hb.size) hn (by omega) (by omega) (by omega)).trans (hb.block k hk)) h.blk h.ok
/-- One more part was done. -/
theorem DoC.step {N : Nat} {pre : List Lf} {x : Lf} {Φ : FP} {W W2 W3 : World} {u u' : Value} (h : DoC M t tr A g gl eb r0 r1 V pre Φ W u) (hne : eb ≠ g) (hne0 : r0 ≠ g) (hne1 : r1 ≠ g) (h0e : r0 ≠ eb) (h1e : r1 ≠ eb) (hg : g < V.heap.size) (he : eb < V.heap.size) (h0 : r0 < V.heap.size) (h1 : r1 < V.heap.size)
    (hld : LdAt N g gl (doA (fA M t A pre) M t x) M W2) (hoff : Off g W W2) (hgW : Grow W W2) (hE : doE (fA M t A pre) M t x = 0)
    (ho : OwnR evR V.heap.size u' (fV M t tr A pre ++ doV (fA M t A pre) M t tr x) W3) (hgr : W2.grownBy W3 u.ownBlock) (hat : u'.ownBlock = u.ownBlock ∨ u'.ownBlock = some W2.heap.size) :
    Leaves (fun k => k = g ∨ k = eb ∨ k = r0 ∨ k = r1) Φ W (fun Φ' W' => DoInv M t tr A g gl eb r0 r1 V (pre ++ [x]) Φ' W') (W3.setCell ⟨eb, 0, none⟩ u') := by
  have hsz := h.sz
  have hs2 := hgW.size
  have hs3 := hgr.size
  have hub : ∀ k, u.ownBlock = some k → V.heap.size ≤ k := fun k hk => (h.own.block hk).1
  have hkeep : ∀ k, k ≠ eb → (W3.setCell ⟨eb, 0, none⟩ u').heap[k]? = W3.heap[k]? := fun k hk => Below.heap_setCell _ _ _ k hk
  have k3 : ∀ k, k < V.heap.size → W3.heap[k]? = W2.heap[k]? := fun k hk => hgr.block k (by omega) (fun e => by have := hub k e.symm; omega)
  have hb3 : Boxed W3 eb 34 u := (k3 eb he).trans ((hoff eb (by omega) hne).trans h.bx)
  have hall : ∀ k, k < V.heap.size → k ≠ g → k ≠ eb → (W3.setCell ⟨eb, 0, none⟩ u').heap[k]? = W.heap[k]? := fun k a b c => (hkeep k c).trans ((k3 k a).trans (hoff k (by omega) b))
  have hgrow : Grow W (W3.setCell ⟨eb, 0, none⟩ u') := ⟨hgr.os.trans hgW.os, hgr.tape.trans hgW.tape, hgr.output.trans hgW.output, by simp [World.setCell]; omega⟩
  refine ⟨fun k => u'.ownBlock = some k, fun k hk => ?_, ⟨hgrow, fun k hk c1 c2 => ?_⟩, u', ?_⟩
  · rcases hat with e | e
    · exact .inl ((h.iff k).2 (by rw [← e]; exact hk))
    · rw [hk] at e
      injection e with e
      exact .inr (by omega)
  · rw [hkeep k (fun e => c1 (.inr (.inl e))), hgr.block k (by omega) (fun e => c2 ((h.iff k).2 e.symm))]
    exact hoff k hk (fun e => c1 (.inl e))
  · refine ⟨?_, ?_, ?_, hb3.set _, ?_, ?_, ?_, fun k => Iff.rfl, by simp [World.setCell]; omega, fun k a b c d e => (hall k a b c).trans (h.old k a b c d e), h.grow.trans hgrow⟩
    · rw [hkeep g (fun e => hne e.symm), k3 g hg, fA_snoc]; exact hld.blk
    · rw [fA_snoc]; exact hld.ok
    · rw [fOk_snoc]; exact ⟨h.okA, hE⟩
    · exact (hall r0 h0 hne0 h0e).trans h.b0
    · exact (hall r1 h1 hne1 h1e).trans h.b1
    · rw [fV_snoc]; exact ho.of (Nat.le_refl _) (fun k hk => hkeep k (by have := (ho.block hk).1; omega))
/-- .. or it erred. -/
theorem DoC.stop {N : Nat} {pre : List Lf} {x : Lf} {Φ : FP} {W W2 W3 : World} {u u' : Value} {E : Int} (h : DoC M t tr A g gl eb r0 r1 V pre Φ W u) (hne : eb ≠ g) (hne0 : r0 ≠ g) (hne1 : r1 ≠ g) (h0e : r0 ≠ eb) (h1e : r1 ≠ eb) (h01 : r0 ≠ r1) (hg : g < V.heap.size) (he : eb < V.heap.size) (h0 : r0 < V.heap.size) (h1 : r1 < V.heap.size)
    (hld : LdAt N g gl (doA (fA M t A pre) M t x) M W2) (hoff : Off g W W2) (hgW : Grow W W2) (hE : E = doE (fA M t A pre) M t x) (hE0 : E ≠ 0)
    (ho : OwnR evR V.heap.size u' (fV M t tr A pre ++ doV (fA M t A pre) M t tr x) W3) (hgr : W2.grownBy W3 u.ownBlock) (hat : u'.ownBlock = u.ownBlock ∨ u'.ownBlock = some W2.heap.size) :
    Leaves (fun k => k = g ∨ k = eb ∨ k = r0 ∨ k = r1) Φ W (fun Φ' W' => DoX M t tr A g gl eb r0 r1 V .ret (pre ++ [x]) Φ' W') (((W3.setCell ⟨eb, 0, none⟩ u').setCell ⟨r0, 0, none⟩ u').setCell ⟨r1, 0, none⟩ (.int .i64 E)) := by
  have hsz := h.sz
  have hs2 := hgW.size
  have hs3 := hgr.size
  have hub : ∀ k, u.ownBlock = some k → V.heap.size ≤ k := fun k hk => (h.own.block hk).1
  obtain ⟨W4, hW4⟩ : ∃ W4, W4 = ((W3.setCell ⟨eb, 0, none⟩ u').setCell ⟨r0, 0, none⟩ u').setCell ⟨r1, 0, none⟩ (.int .i64 E) := ⟨_, rfl⟩
  rw [← hW4]
  have hkeep : ∀ k, k ≠ eb → k ≠ r0 → k ≠ r1 → W4.heap[k]? = W3.heap[k]? := fun k a b c => by
    rw [hW4, Below.heap_setCell _ _ _ k c, Below.heap_setCell _ _ _ k b, Below.heap_setCell _ _ _ k a]
  have hs4 : W4.heap.size = W3.heap.size := by rw [hW4]; simp [World.setCell]
  have k3 : ∀ k, k < V.heap.size → W3.heap[k]? = W2.heap[k]? := fun k hk => hgr.block k (by omega) (fun e => by have := hub k e.symm; omega)
  have b03 : Boxed W3 r0 34 (.slice none 0 0) := (k3 r0 h0).trans ((hoff r0 (by omega) hne0).trans h.b0)
  have b13 : Boxed W3 r1 35 (.int .i64 0) := (k3 r1 h1).trans ((hoff r1 (by omega) hne1).trans h.b1)
  have b04 : Boxed W4 r0 34 u' := by
    rw [hW4]; exact ((b03.other h0e _).set u').other h01 _
  have b14 : Boxed W4 r1 35 (.int .i64 E) := by
    rw [hW4]; exact ((b13.other h1e _).other (fun e => h01 e.symm) _).set _
  have hgrow : Grow W W4 := by
    refine ⟨?_, ?_, ?_, by omega⟩
    · rw [hW4]; exact hgr.os.trans hgW.os
    · rw [hW4]; exact hgr.tape.trans hgW.tape
    · rw [hW4]; exact hgr.output.trans hgW.output
  have hall : ∀ k, k < V.heap.size → k ≠ g → k ≠ eb → k ≠ r0 → k ≠ r1 → W4.heap[k]? = W.heap[k]? := fun k a b c d e => (hkeep k c d e).trans ((k3 k a).trans (hoff k (by omega) b))
  refine ⟨fun k => u'.ownBlock = some k, fun k hk => ?_, ⟨hgrow, fun k hk c1 c2 => ?_⟩, rfl, u', E, ?_⟩
  · rcases hat with e | e
    · exact .inl ((h.iff k).2 (by rw [← e]; exact hk))
    · rw [hk] at e
      injection e with e
      exact .inr (by omega)
  · rw [hkeep k (fun e => c1 (.inr (.inl e))) (fun e => c1 (.inr (.inr (.inl e)))) (fun e => c1 (.inr (.inr (.inr e)))), hgr.block k (by omega) (fun e => c2 ((h.iff k).2 e.symm))]
    exact hoff k hk (fun e => c1 (.inl e))
  · refine ⟨?_, ?_, ⟨pre, x, rfl, h.okA, hE, hE0⟩, b04, b14, ?_, fun k => Iff.rfl, by omega, fun k a b c d e => (hall k a b c d e).trans (h.old k a b c d e), h.grow.trans hgrow⟩
    · rw [hkeep g (fun e => hne e.symm) (fun e => hne0 e.symm) (fun e => hne1 e.symm), k3 g hg, fA_snoc]; exact hld.blk
    · rw [fA_snoc]; exact hld.ok
    · rw [fV_snoc]; exact ho.of (Nat.le_refl _) (fun k hk => hkeep k (by have := (ho.block hk).1; omega) (by have := (ho.block hk).1; omega) (by have := (ho.block hk).1; omega))
end
end Go.Proofs.YtfgkaookgfghoaaGreat
end

section
namespace Go.Proofs.YtfgkaookgfghoaaGreat
open Go.RowKit
set_option linter.unusedVariables false
set_option linter.unusedSimpArgs false

/-- What a call that is no batch must keep to. -/
def leafOk (k t n : Int) (kids : Nat) : Prop := (k = 1 ∧ t = 0 ∧ (0 ≤ n ∧ n ≤ 1073741824) ∧ kids = 0) ∨ (k = 2 ∧ (0 ≤ t ∧ t < 10) ∧ (0 ≤ n ∧ n ≤ 1073741824) ∧ kids = 0) ∨ ((k = 3 ∨ k = 4) ∧ t = 0 ∧ (0 ≤ n ∧ n < 12) ∧ kids = 0)
instance (k t n : Int) (kids : Nat) : Decidable (leafOk k t n kids) := by unfold leafOk; infer_instance
set_option maxHeartbeats 8000000 in
set_option maxRecDepth 100000 in
theorem code_isCall0 (k t n dp : Int) (ao : Option Addr) (kids cap : Nat) (w : World) (h5 : k ≠ 5) :
    Calls Tryz.prog 48 #[.agg #[.int .i64 k, .int .i64 t, .int .i64 n, .slice ao kids cap], .int .i64 dp] w fun e w' => e = .returned (.bool (decide (leafOk k t n kids))) ∧ Below w.heap.size w w' := by
  obtain ⟨W, hW⟩ : ∃ W, W = (w.alloc (.cells #[.int .i64 k, .int .i64 t, .int .i64 n, .slice ao kids cap] 40)).alloc (.cells #[.int .i64 dp] 3) := ⟨_, rfl⟩
  have hB : Below w.heap.size w W := by rw [hW]; exact ((Below.refl _ w).alloc (Nat.le_refl _) _).alloc (by simp) _
  have h1 := World.alloc_heap_new w (.cells #[.int .i64 k, .int .i64 t, .int .i64 n, .slice ao kids cap] 40)
  have g1 : W.heap[w.heap.size]? = some (.cells #[.int .i64 k, .int .i64 t, .int .i64 n, .slice ao kids cap] 40 (0, 0)) := by rw [hW]; exact (Below.heap_alloc _ _ _ (by simp)).trans h1
  obtain ⟨cb, hcb⟩ : ∃ cb, cb = w.heap.size := ⟨_, rfl⟩
  obtain ⟨db, hdb⟩ : ∃ db, db = cb + 1 := ⟨_, rfl⟩
  rw [← hcb] at g1
  have a0 : W.cell? ⟨cb, 0, none⟩ = some (.int .i64 k) := by rw [World.cell?, g1]; rfl
  have a1 : W.cell? ⟨cb, 1, none⟩ = some (.int .i64 t) := by rw [World.cell?, g1]; rfl
  have a2 : W.cell? ⟨cb, 2, none⟩ = some (.int .i64 n) := by rw [World.cell?, g1]; rfl
  have a3 : W.cell? ⟨cb, 3, none⟩ = some (.slice ao kids cap) := by rw [World.cell?, g1]; rfl
  have HB := Lib.hid hB
  clear h1 g1 hB
  go_enter Tryz.func48, Tryz.ntmps48
  go_upto_region 1 with fail
  rw [← hW, ← hcb, ← hdb]
  clear hW hcb hdb
  have fin : ∀ (b : Bool), (b = true ↔ leafOk k t n kids) → b = decide (leafOk k t n kids) := fun b h => by cases b <;> simp [← h]
  have FIN := Lib.hid fin
  clear fin
  by_cases k1 : k = 1
  · have KK := Lib.hid k1
    have e1 : (k == 1) = true := by simp <;> omega
    have e2 : (k == 2) = false := by simp <;> omega
    have e3 : (k == 3) = false := by simp <;> omega
    have e4 : (k == 4) = false := by simp <;> omega
    have e5 : (k == 5) = false := by simp <;> omega
    clear h5 k1
    by_cases q1 : t = 0
    · have f1 : (t == 0) = true := by simp <;> omega
      by_cases q2 : 0 ≤ n ∧ n ≤ 1073741824
      · have f2 : decide (0 ≤ n ∧ n ≤ 1073741824) = true := by simp <;> omega
        by_cases q3 : kids = 0
        · have f3 : ((kids : Int) == 0) = true := by simp <;> omega
          have Q := Lib.hid (And.intro q1 (And.intro q2 q3))
          clear q1 q2 q3
          go_wp2_with (first
              | (go_at_call 25; refine (bound_Balance _ _).mono ?_; rintro e w' ⟨rfl, rfl⟩)
              | fail)
          exact bodyPost_ret (v := .bool true) (by simp [results, Tryz.results48, go_sem]) rfl ⟨by rw [FIN.out true (by unfold leafOk; have := Q.out; have := KK.out; simp; omega)], HB.out⟩
        · have f3 : ((kids : Int) == 0) = false := by simp <;> omega
          have Q := Lib.hid q3
          clear q1 q2 q3
          go_wp2_with (first
              | (go_at_call 25; refine (bound_Balance _ _).mono ?_; rintro e w' ⟨rfl, rfl⟩)
              | fail)
          exact bodyPost_ret (v := .bool false) (by simp [results, Tryz.results48, go_sem]) rfl ⟨by rw [FIN.out false (by unfold leafOk; have := Q.out; have := KK.out; simp; omega)], HB.out⟩
      · have f2 : decide (0 ≤ n ∧ n ≤ 1073741824) = false := by simp <;> omega
        have Q := Lib.hid q2
        clear q1 q2
        go_wp2_with (first
            | (go_at_call 25; refine (bound_Balance _ _).mono ?_; rintro e w' ⟨rfl, rfl⟩)
            | fail)
        exact bodyPost_ret (v := .bool false) (by simp [results, Tryz.results48, go_sem]) rfl ⟨by rw [FIN.out false (by unfold leafOk; have := Q.out; have := KK.out; simp; omega)], HB.out⟩
    · have f1 : (t == 0) = false := by simp <;> omega
      have Q := Lib.hid q1
      clear q1
      go_wp2_with (first
          | (go_at_call 25; refine (bound_Balance _ _).mono ?_; rintro e w' ⟨rfl, rfl⟩)
          | fail)
      exact bodyPost_ret (v := .bool false) (by simp [results, Tryz.results48, go_sem]) rfl ⟨by rw [FIN.out false (by unfold leafOk; have := Q.out; have := KK.out; simp; omega)], HB.out⟩
  by_cases k2 : k = 2
  · have KK := Lib.hid k2
    have e1 : (k == 1) = false := by simp <;> omega
    have e2 : (k == 2) = true := by simp <;> omega
    have e3 : (k == 3) = false := by simp <;> omega
    have e4 : (k == 4) = false := by simp <;> omega
    have e5 : (k == 5) = false := by simp <;> omega
    clear h5 k1 k2
    by_cases q1 : 0 ≤ t ∧ t < 10
    · have f1 : decide (0 ≤ t ∧ t < 10) = true := by simp <;> omega
      by_cases q2 : 0 ≤ n ∧ n ≤ 1073741824
      · have f2 : decide (0 ≤ n ∧ n ≤ 1073741824) = true := by simp <;> omega
        by_cases q3 : kids = 0
        · have f3 : ((kids : Int) == 0) = true := by simp <;> omega
          have Q := Lib.hid (And.intro q1 (And.intro q2 q3))
          clear q1 q2 q3
          go_wp2_with (first
              | (go_at_call 37; refine (bound_Account _ _).mono ?_; rintro e w' ⟨rfl, rfl⟩)
              | (go_at_call 25; refine (bound_Balance _ _).mono ?_; rintro e w' ⟨rfl, rfl⟩)
              | fail)
          exact bodyPost_ret (v := .bool true) (by simp [results, Tryz.results48, go_sem]) rfl ⟨by rw [FIN.out true (by unfold leafOk; have := Q.out; have := KK.out; simp; omega)], HB.out⟩
        · have f3 : ((kids : Int) == 0) = false := by simp <;> omega
          have Q := Lib.hid q3
          clear q1 q2 q3
          go_wp2_with (first
              | (go_at_call 37; refine (bound_Account _ _).mono ?_; rintro e w' ⟨rfl, rfl⟩)
              | (go_at_call 25; refine (bound_Balance _ _).mono ?_; rintro e w' ⟨rfl, rfl⟩)
              | fail)
          exact bodyPost_ret (v := .bool false) (by simp [results, Tryz.results48, go_sem]) rfl ⟨by rw [FIN.out false (by unfold leafOk; have := Q.out; have := KK.out; simp; omega)], HB.out⟩
      · have f2 : decide (0 ≤ n ∧ n ≤ 1073741824) = false := by simp <;> omega
        have Q := Lib.hid q2
        clear q1 q2
        go_wp2_with (first
            | (go_at_call 37; refine (bound_Account _ _).mono ?_; rintro e w' ⟨rfl, rfl⟩)
            | (go_at_call 25; refine (bound_Balance _ _).mono ?_; rintro e w' ⟨rfl, rfl⟩)
            | fail)
        exact bodyPost_ret (v := .bool false) (by simp [results, Tryz.results48, go_sem]) rfl ⟨by rw [FIN.out false (by unfold leafOk; have := Q.out; have := KK.out; simp; omega)], HB.out⟩
    · have f1 : decide (0 ≤ t ∧ t < 10) = false := by simp <;> omega
      have Q := Lib.hid q1
      clear q1
      go_wp2_with (first
          | (go_at_call 37; refine (bound_Account _ _).mono ?_; rintro e w' ⟨rfl, rfl⟩)
          | (go_at_call 25; refine (bound_Balance _ _).mono ?_; rintro e w' ⟨rfl, rfl⟩)
          | fail)
      exact bodyPost_ret (v := .bool false) (by simp [results, Tryz.results48, go_sem]) rfl ⟨by rw [FIN.out false (by unfold leafOk; have := Q.out; have := KK.out; simp; omega)], HB.out⟩
  by_cases k3 : k = 3
  · have KK := Lib.hid k3
    have e1 : (k == 1) = false := by simp <;> omega
    have e2 : (k == 2) = false := by simp <;> omega
    have e3 : (k == 3) = true := by simp <;> omega
    have e4 : (k == 4) = false := by simp <;> omega
    have e5 : (k == 5) = false := by simp <;> omega
    clear h5 k1 k2 k3
    by_cases q1 : t = 0
    · have f1 : (t == 0) = true := by simp <;> omega
      by_cases q2 : 0 ≤ n ∧ n < 12
      · have f2 : decide (0 ≤ n ∧ n < 12) = true := by simp <;> omega
        by_cases q3 : kids = 0
        · have f3 : ((kids : Int) == 0) = true := by simp <;> omega
          have Q := Lib.hid (And.intro q1 (And.intro q2 q3))
          clear q1 q2 q3
          go_wp2_with (first
              | (go_at_call 64; refine (code_isRef _ _).mono ?_; rintro e w' ⟨rfl, rfl⟩)
              | fail)
          exact bodyPost_ret (v := .bool true) (by simp [results, Tryz.results48, go_sem]) rfl ⟨by rw [FIN.out true (by unfold leafOk; have := Q.out; have := KK.out; simp; omega)], HB.out⟩
        · have f3 : ((kids : Int) == 0) = false := by simp <;> omega
          have Q := Lib.hid q3
          clear q1 q2 q3
          go_wp2_with (first
              | (go_at_call 64; refine (code_isRef _ _).mono ?_; rintro e w' ⟨rfl, rfl⟩)
              | fail)
          exact bodyPost_ret (v := .bool false) (by simp [results, Tryz.results48, go_sem]) rfl ⟨by rw [FIN.out false (by unfold leafOk; have := Q.out; have := KK.out; simp; omega)], HB.out⟩
      · have f2 : decide (0 ≤ n ∧ n < 12) = false := by simp <;> omega
        have Q := Lib.hid q2
        clear q1 q2
        go_wp2_with (first
            | (go_at_call 64; refine (code_isRef _ _).mono ?_; rintro e w' ⟨rfl, rfl⟩)
            | fail)
        exact bodyPost_ret (v := .bool false) (by simp [results, Tryz.results48, go_sem]) rfl ⟨by rw [FIN.out false (by unfold leafOk; have := Q.out; have := KK.out; simp; omega)], HB.out⟩
    · have f1 : (t == 0) = false := by simp <;> omega
      have Q := Lib.hid q1
      clear q1
      go_wp2_with (first
          | (go_at_call 64; refine (code_isRef _ _).mono ?_; rintro e w' ⟨rfl, rfl⟩)
          | fail)
      exact bodyPost_ret (v := .bool false) (by simp [results, Tryz.results48, go_sem]) rfl ⟨by rw [FIN.out false (by unfold leafOk; have := Q.out; have := KK.out; simp; omega)], HB.out⟩
  by_cases k4 : k = 4
  · have KK := Lib.hid k4
    have e1 : (k == 1) = false := by simp <;> omega
    have e2 : (k == 2) = false := by simp <;> omega
    have e3 : (k == 3) = false := by simp <;> omega
    have e4 : (k == 4) = true := by simp <;> omega
    have e5 : (k == 5) = false := by simp <;> omega
    clear h5 k1 k2 k3 k4
    by_cases q1 : t = 0
    · have f1 : (t == 0) = true := by simp <;> omega
      by_cases q2 : 0 ≤ n ∧ n < 12
      · have f2 : decide (0 ≤ n ∧ n < 12) = true := by simp <;> omega
        by_cases q3 : kids = 0
        · have f3 : ((kids : Int) == 0) = true := by simp <;> omega
          have Q := Lib.hid (And.intro q1 (And.intro q2 q3))
          clear q1 q2 q3
          go_wp2_with (first
              | (go_at_call 64; refine (code_isRef _ _).mono ?_; rintro e w' ⟨rfl, rfl⟩)
              | fail)
          exact bodyPost_ret (v := .bool true) (by simp [results, Tryz.results48, go_sem]) rfl ⟨by rw [FIN.out true (by unfold leafOk; have := Q.out; have := KK.out; simp; omega)], HB.out⟩
        · have f3 : ((kids : Int) == 0) = false := by simp <;> omega
          have Q := Lib.hid q3
          clear q1 q2 q3
          go_wp2_with (first
              | (go_at_call 64; refine (code_isRef _ _).mono ?_; rintro e w' ⟨rfl, rfl⟩)
              | fail)
          exact bodyPost_ret (v := .bool false) (by simp [results, Tryz.results48, go_sem]) rfl ⟨by rw [FIN.out false (by unfold leafOk; have := Q.out; have := KK.out; simp; omega)], HB.out⟩
      · have f2 : decide (0 ≤ n ∧ n < 12) = false := by simp <;> omega
        have Q := Lib.hid q2
        clear q1 q2
        go_wp2_with (first
            | (go_at_call 64; refine (code_isRef _ _).mono ?_; rintro e w' ⟨rfl, rfl⟩)
            | fail)
        exact bodyPost_ret (v := .bool false) (by simp [results, Tryz.results48, go_sem]) rfl ⟨by rw [FIN.out false (by unfold leafOk; have := Q.out; have := KK.out; simp; omega)], HB.out⟩
    · have f1 : (t == 0) = false := by simp <;> omega
      have Q := Lib.hid q1
      clear q1
      go_wp2_with (first
          | (go_at_call 64; refine (code_isRef _ _).mono ?_; rintro e w' ⟨rfl, rfl⟩)
          | fail)
      exact bodyPost_ret (v := .bool false) (by simp [results, Tryz.results48, go_sem]) rfl ⟨by rw [FIN.out false (by unfold leafOk; have := Q.out; have := KK.out; simp; omega)], HB.out⟩
  have KK := Lib.hid (And.intro k1 (And.intro k2 (And.intro k3 k4)))
  have e1 : (k == 1) = false := by simp <;> omega
  have e2 : (k == 2) = false := by simp <;> omega
  have e3 : (k == 3) = false := by simp <;> omega
  have e4 : (k == 4) = false := by simp <;> omega
  have e5 : (k == 5) = false := by simp <;> omega
  clear h5 k1 k2 k3 k4
  go_wp2_with (first
      | fail)
  exact bodyPost_ret (v := .bool false) (by simp [results, Tryz.results48, go_sem]) rfl ⟨by rw [FIN.out false (by unfold leafOk; have := KK.out; simp; omega)], HB.out⟩
end Go.Proofs.YtfgkaookgfghoaaGreat
end

section
namespace Go.Proofs.YtfgkaookgfghoaaGreat
open Go.RowKit
set_option linter.unusedVariables false
set_option linter.unusedSimpArgs false

/-- What a batch's head must keep to. -/
def headOk (c : Cl) : Bool := c.k == 5 && c.t == 0 && c.n == 0 && decide (1 ≤ c.kids.length ∧ c.kids.length ≤ 4)
/-- May a call be, with so many batches within one another? -/
def okC : Nat → Cl → Bool
  | 0, c => decide (leafOk c.k c.t c.n c.kids.length)
  | dp + 1, c => decide (leafOk c.k c.t c.n c.kids.length) || (headOk c && c.kids.all (okC dp))
theorem leafOk_5 {t n : Int} {m : Nat} : ¬ leafOk 5 t n m := by unfold leafOk; omega
def IsC (dp : Nat) : Prop := ∀ (d : Nat) (c : Cl) (v : Value) (w : World), RdC w d v c → Calls Tryz.prog 48 #[v, .int .i64 dp] w fun e w' => e = .returned (.bool (okC dp c)) ∧ Below w.heap.size w w'
set_option maxRecDepth 100000 in
theorem code_isCall1 {dp : Nat} (hp : dp ≤ 100) (h : IsC dp) (d : Nat) (c : Cl) (v : Value) (w : World) (db : Nat) (hrd : RdC w d v c) (hc : w.cell? ⟨db, 0, none⟩ = some (.int .i64 ((dp : Int) + 1))) :
    Calls Tryz.prog 66 #[v, .pointer (some ⟨db, 0, none⟩)] w fun e w' => e = .returned (.bool (!okC dp c)) ∧ Below w.heap.size w w' := by
  have hlt := World.block_lt_of_cell? w _ hc
  obtain ⟨d', ao, cap, -, rfl, -⟩ := hrd.open
  obtain ⟨k, hk⟩ : ∃ k, k = c.k := ⟨_, rfl⟩
  obtain ⟨t, ht⟩ : ∃ t, t = c.t := ⟨_, rfl⟩
  obtain ⟨n, hn⟩ : ∃ n, n = c.n := ⟨_, rfl⟩
  obtain ⟨m, hm⟩ : ∃ m, m = c.kids.length := ⟨_, rfl⟩
  rw [← hk, ← ht, ← hn, ← hm] at hrd ⊢
  obtain ⟨W, hW⟩ : ∃ W, W = w.alloc (.cells #[.int .i64 k, .int .i64 t, .int .i64 n, .slice ao m cap] 40) := ⟨_, rfl⟩
  have hB : Below w.heap.size w W := by rw [hW]; exact (Below.refl _ w).alloc (Nat.le_refl _) _
  have hrg : W.rangeAt w.heap.size 0 [.int .i64 k, .int .i64 t, .int .i64 n, .slice ao m cap] := by rw [hW]; exact rangeAt_new _
  have hcW : W.cell? ⟨db, 0, none⟩ = some (.int .i64 ((dp : Int) + 1)) := (World.cell?_of_block (a := ⟨db, 0, none⟩) (hB.block db hlt)).trans hc
  have hcall := h d c _ W (RdC.below hB hrd)
  have hn1 : IntKind.i64.wrap ((dp : Int) + 1 - 1) = dp := by rw [IntWalk.i64_in _ (by omega)]; omega
  have HW := Lib.hid hW
  have HC := Lib.hid hcall
  have HB := Lib.hid hB
  have HRG := Lib.hid hrg
  clear hk ht hn hm hW hB hrg hcall h hrd hc hlt
  go_enter Tryz.func66, Tryz.ntmps66
  go_upto_region 1 with fail
  rw [← HW.out]
  go_wp2_with (first
    | (refine wpl_loadC _ rfl rfl rfl HRG.out rfl ?_)
    | (go_at_call 48; refine HC.out.mono ?_; rintro e w1 ⟨rfl, hb⟩; have H1 := Lib.hid (HB.out.trans (hb.mono HB.out.size)); clear hb)
    | fail)
  exact bodyPost_ret (v := .bool (!okC dp c)) (by simp [results, Tryz.results66, go_sem]) rfl ⟨rfl, H1.out⟩
theorem all_take {l : List Cl} {p : Cl → Bool} {j : Nat} (h : j < l.length) : (l.take (j + 1)).all p = ((l.take j).all p && p l[j]) := by
  rw [List.take_succ_eq_append_getElem h, List.all_append]; simp
theorem all_of_take {l : List Cl} {p : Cl → Bool} {j : Nat} (h : j < l.length) (hp : p l[j] = false) : l.all p = false := by
  rw [Bool.eq_false_iff]
  intro hall
  rw [List.all_eq_true] at hall
  rw [hall _ (List.getElem_mem h)] at hp
  cases hp
set_option maxRecDepth 100000 in
set_option maxHeartbeats 1000000 in
theorem slices_IndexC {dp : Nat} (hp : dp ≤ 100) (h : IsC dp) (d : Nat) (l : List Cl) (ao : Option Addr) (cap : Nat) (w : World) (db : Nat) (hl : l.length ≤ 100) (hrd : RdCs w d ao l) (hc : w.cell? ⟨db, 0, none⟩ = some (.int .i64 ((dp : Int) + 1))) :
    Calls Tryz.prog 79 #[.slice ao l.length cap, .func (.func 66) #[] #[.pointer (some ⟨db, 0, none⟩)]] w fun e w' => (∃ r : Int, e = .returned (.int .i64 r) ∧ decide (0 ≤ r) = !(l.all (okC dp))) ∧ Below w.heap.size w w' := by
  have hlt := World.block_lt_of_cell? w _ hc
  obtain ⟨m, hm⟩ : ∃ m, m = l.length := ⟨_, rfl⟩
  rw [← hm] at hl ⊢
  have HM := Lib.hid hm
  have HRD := Lib.hid hrd
  have HC := Lib.hid hc
  have HLT := Lib.hid hlt
  have HH := Lib.hid h
  clear hm hrd hc hlt h
  go_enter Tryz.func79, Tryz.ntmps79
  go_wp2_with fail
  go_loopw [5, 8] (fun p i wr => ∃ j : Nat, j ≤ m ∧ i = .int .i64 j ∧ (l.take j).all (okC dp) = true ∧ Below w.heap.size w wr) (fun _ i _ => m - (intOf i).toNat)
  case atStart => exact ⟨0, by omega, rfl, rfl, Below.refl _ _⟩
  case round =>
    obtain ⟨j, hj, rfl, hall, hb⟩ := hrel
    have HB := Lib.hid (And.intro hall hb)
    by_cases hlt : j < m
    · have hlt' : (j : Int) < m := by omega
      have hjl : j < l.length := by rw [← HM.out]; exact hlt
      obtain ⟨kb, ko, vs, rfl, hkb, hrg, hrd⟩ := HRD.out j hjl
      have hrg2 : wr.rangeAt kb (ko + j * 4) vs := rangeAt_keep hrg (hb.block kb hkb)
      have hrd2 : RdC wr d (.agg vs.toArray) l[j] := RdC.below hb hrd
      have hat := all_take (p := okC dp) hjl
      have hof := all_of_take (p := okC dp) hjl
      have hc2 : wr.cell? ⟨db, 0, none⟩ = some (.int .i64 ((dp : Int) + 1)) := (World.cell?_of_block (a := ⟨db, 0, none⟩) (hb.block db HLT.out)).trans HC.out
      have hcall := code_isCall1 hp HH.out d l[j] _ wr db hrd2 hc2
      obtain ⟨a4, c4, e4⟩ := hrd2.cells
      obtain ⟨c1, c2, c3, c5, e5⟩ : ∃ c1 c2 c3 c5, vs = [.int .i64 c1, .int .i64 c2, .int .i64 c3, .slice a4 c5 c4] := ⟨_, _, _, _, e4⟩
      clear e4
      subst e5
      obtain ⟨q, hq⟩ : ∃ q, q = okC dp l[j] := ⟨_, rfl⟩
      rw [← hq] at hcall hat hof
      have HCA := Lib.hid hcall
      have HRG := Lib.hid hrg2
      have HA := Lib.hid hat
      have HO := Lib.hid hof
      clear hkb hrg hrd hrg2 hrd2 hat hof hc2 hcall hq hall hb hjl
      cases q
      · go_wp2_with (first
          | (refine wpl_loadC _ rfl rfl rfl HRG.out rfl ?_)
          | (go_at_call 66; refine HCA.out.mono ?_; rintro e w1 ⟨rfl, hb⟩; have H1 := Lib.hid (HB.out.2.trans (hb.mono HB.out.2.size)); clear hb)
          | fail)
        exact bodyPost_ret (v := .int .i64 j) (by simp [results, Tryz.results79, go_sem]) rfl ⟨⟨j, rfl, by rw [HO.out trivial]; simp⟩, H1.out⟩
      · go_wp2_with (first
          | (refine wpl_loadC _ rfl rfl rfl HRG.out rfl ?_)
          | (go_at_call 66; refine HCA.out.mono ?_; rintro e w1 ⟨rfl, hb⟩; have H1 := Lib.hid (HB.out.2.trans (hb.mono HB.out.2.size)); clear hb)
          | fail)
        go_roundw
        case rel => exact ⟨j + 1, by omega, by go_num, by rw [HA.out, HB.out.1]; rfl, H1.out⟩
        case measure => simp [intOf]; omega
    · obtain rfl : j = m := by omega
      have hge : ¬ (j : Int) < j := by omega
      have htk : l.take j = l := List.take_of_length_le (by rw [← HM.out]; exact Nat.le_refl _)
      rw [htk] at hall
      have HA := Lib.hid hall
      clear hlt htk hj hall hb
      go_wp2_with fail
      exact bodyPost_ret (v := .int .i64 (-1)) (by simp [results, Tryz.results79, go_sem]) rfl ⟨⟨-1, rfl, by rw [HA.out]; rfl⟩, HB.out.2⟩
set_option maxRecDepth 100000 in
theorem slices_ContainsC {dp : Nat} (hp : dp ≤ 100) (h : IsC dp) (d : Nat) (l : List Cl) (ao : Option Addr) (m cap : Nat) (w : World) (db : Nat) (hm : m = l.length) (hl : m ≤ 100) (hrd : RdCs w d ao l) (hc : w.cell? ⟨db, 0, none⟩ = some (.int .i64 ((dp : Int) + 1))) :
    Calls Tryz.prog 65 #[.slice ao m cap, .func (.func 66) #[] #[.pointer (some ⟨db, 0, none⟩)]] w fun e w' => e = .returned (.bool (!(l.all (okC dp)))) ∧ Below w.heap.size w w' := by
  subst hm
  have HC := Lib.hid (slices_IndexC hp h d l ao cap w db hl hrd hc)
  clear hrd hc h
  go_enter Tryz.func65, Tryz.ntmps65
  go_wp2_with (first
    | (go_at_call 79; refine HC.out.mono ?_; rintro e w1 ⟨⟨r, rfl, hr⟩, hb⟩; have H1 := Lib.hid (And.intro hr hb); clear hr hb)
    | fail)
  exact bodyPost_ret (v := .bool (decide (0 ≤ r))) (by simp [results, Tryz.results65, go_sem]) rfl ⟨by rw [H1.out.1], H1.out.2⟩
theorem okC_5 {dp : Nat} {c : Cl} (h : c.k = 5) : okC dp c = (match dp with | 0 => false | dp + 1 => headOk c && c.kids.all (okC dp)) := by
  cases dp with
  | zero => simp [okC, h, leafOk_5]
  | succ dp => simp [okC, h, leafOk_5]
theorem okC_n5 {dp : Nat} {c : Cl} (h : c.k ≠ 5) : okC dp c = decide (leafOk c.k c.t c.n c.kids.length) := by
  cases dp with
  | zero => rfl
  | succ dp => simp [okC, headOk, h]
set_option maxRecDepth 100000 in
set_option maxHeartbeats 4000000 in
theorem code_isCall5 (t n dp : Int) (ao : Option Addr) (m cap : Nat) (allb : Bool) (w : World)
    (hC : 0 < dp → m ≤ 4 → ∀ W db, Below w.heap.size w W → W.cell? ⟨db, 0, none⟩ = some (.int .i64 dp) → Calls Tryz.prog 65 #[.slice ao m cap, .func (.func 66) #[] #[.pointer (some ⟨db, 0, none⟩)]] W fun e w' => e = .returned (.bool (!allb)) ∧ Below W.heap.size W w') :
    Calls Tryz.prog 48 #[.agg #[.int .i64 5, .int .i64 t, .int .i64 n, .slice ao m cap], .int .i64 dp] w fun e w' => e = .returned (.bool (t == 0 && n == 0 && decide (1 ≤ m ∧ m ≤ 4) && decide (0 < dp) && allb)) ∧ Below w.heap.size w w' := by
  obtain ⟨r, hr⟩ : ∃ r, r = (t == 0 && n == 0 && decide (1 ≤ m ∧ m ≤ 4) && decide (0 < dp) && allb) := ⟨_, rfl⟩
  rw [← hr]
  have HR := Lib.hid hr
  clear hr
  obtain ⟨W, hW⟩ : ∃ W, W = (w.alloc (.cells #[.int .i64 5, .int .i64 t, .int .i64 n, .slice ao m cap] 40)).alloc (.cells #[.int .i64 dp] 3) := ⟨_, rfl⟩
  have hB : Below w.heap.size w W := by rw [hW]; exact ((Below.refl _ w).alloc (Nat.le_refl _) _).alloc (by simp) _
  have h1 := World.alloc_heap_new w (.cells #[.int .i64 5, .int .i64 t, .int .i64 n, .slice ao m cap] 40)
  have g1 : W.heap[w.heap.size]? = some (.cells #[.int .i64 5, .int .i64 t, .int .i64 n, .slice ao m cap] 40 (0, 0)) := by rw [hW]; exact (Below.heap_alloc _ _ _ (by simp)).trans h1
  obtain ⟨cb, hcb⟩ : ∃ cb, cb = w.heap.size := ⟨_, rfl⟩
  obtain ⟨db, hdb⟩ : ∃ db, db = cb + 1 := ⟨_, rfl⟩
  have g2 : W.heap[db]? = some (.cells #[.int .i64 dp] 3 (0, 0)) := by
    have h2 := World.alloc_heap_new (w.alloc (.cells #[.int .i64 5, .int .i64 t, .int .i64 n, .slice ao m cap] 40)) (.cells #[.int .i64 dp] 3)
    rw [World.size_alloc] at h2
    rw [hW, hdb, hcb]; exact h2
  rw [← hcb] at g1
  have a0 : W.cell? ⟨cb, 0, none⟩ = some (.int .i64 5) := by rw [World.cell?, g1]; rfl
  have a1 : W.cell? ⟨cb, 1, none⟩ = some (.int .i64 t) := by rw [World.cell?, g1]; rfl
  have a2 : W.cell? ⟨cb, 2, none⟩ = some (.int .i64 n) := by rw [World.cell?, g1]; rfl
  have a3 : W.cell? ⟨cb, 3, none⟩ = some (.slice ao m cap) := by rw [World.cell?, g1]; rfl
  have b0 : W.cell? ⟨db, 0, none⟩ = some (.int .i64 dp) := by rw [World.cell?, g2]; rfl
  have HB := Lib.hid hB
  have HC := Lib.hid hC
  have HB0 := Lib.hid b0
  clear h1 g1 g2 hB hC
  go_enter Tryz.func48, Tryz.ntmps48
  go_upto_region 1 with fail
  rw [← hW, ← hcb, ← hdb]
  clear hW hcb hdb
  by_cases q1 : t = 0
  · have f1 : (t == 0) = true := by simp [q1]
    clear q1
    by_cases q2 : n = 0
    · have f2 : (n == 0) = true := by simp [q2]
      clear q2
      by_cases q3 : 1 ≤ m ∧ m ≤ 4
      · have f3 : decide ((1 : Int) ≤ (m : Int) ∧ (m : Int) ≤ 4) = true := decide_eq_true (by omega)
        have G3 := Lib.hid (show decide (1 ≤ m ∧ m ≤ 4) = true from decide_eq_true q3)
        have Q3 := Lib.hid q3
        clear q3
        by_cases q4 : 0 < dp
        · have f4 : decide (0 < dp) = true := decide_eq_true q4
          have HCC := Lib.hid (HC.out q4 Q3.out.2 W db HB.out HB0.out)
          clear q4
          go_wp2_with (first
            | (go_at_call 27; refine (bound_Within _ _ _ _).mono ?_; rintro e w' ⟨rfl, rfl⟩)
            | (go_at_call 65; refine HCC.out.mono ?_; rintro e w1 ⟨rfl, hb⟩; have H1 := Lib.hid (HB.out.trans (hb.mono HB.out.size)); clear hb)
            | fail)
          exact bodyPost_ret (v := .bool allb) (by simp [results, Tryz.results48, go_sem]) rfl ⟨by rw [HR.out, f1, f2, G3.out, f4]; simp, H1.out⟩
        · have f4 : decide (0 < dp) = false := decide_eq_false q4
          clear q4
          go_wp2_with (first
            | (go_at_call 27; refine (bound_Within _ _ _ _).mono ?_; rintro e w' ⟨rfl, rfl⟩)
            | fail)
          exact bodyPost_ret (v := .bool false) (by simp [results, Tryz.results48, go_sem]) rfl ⟨by rw [HR.out, f4]; simp, HB.out⟩
      · have f3 : decide ((1 : Int) ≤ (m : Int) ∧ (m : Int) ≤ 4) = false := decide_eq_false (by omega)
        have G3 := Lib.hid (show decide (1 ≤ m ∧ m ≤ 4) = false from decide_eq_false q3)
        clear q3
        go_wp2_with (first
          | (go_at_call 27; refine (bound_Within _ _ _ _).mono ?_; rintro e w' ⟨rfl, rfl⟩)
          | fail)
        exact bodyPost_ret (v := .bool false) (by simp [results, Tryz.results48, go_sem]) rfl ⟨by rw [HR.out, G3.out]; simp, HB.out⟩
    · have f2 : (n == 0) = false := by simp [q2]
      clear q2
      go_wp2_with fail
      exact bodyPost_ret (v := .bool false) (by simp [results, Tryz.results48, go_sem]) rfl ⟨by rw [HR.out, f2]; simp, HB.out⟩
  · have f1 : (t == 0) = false := by simp [q1]
    clear q1
    go_wp2_with fail
    exact bodyPost_ret (v := .bool false) (by simp [results, Tryz.results48, go_sem]) rfl ⟨by rw [HR.out, f1]; simp, HB.out⟩
theorem code_isCall : ∀ dp : Nat, dp ≤ 100 → IsC dp := by
  intro dp
  induction dp with
  | zero =>
    intro _ d c v w hrd
    obtain ⟨d', ao, cap, -, rfl, hkids⟩ := hrd.open
    by_cases h5 : c.k = 5
    · rw [okC_5 h5, h5]
      refine (code_isCall5 c.t c.n 0 ao c.kids.length cap true w (fun h => absurd h (by decide))).mono ?_
      rintro e w' ⟨he, hb⟩
      exact ⟨by rw [he]; simp, hb⟩
    · rw [okC_n5 h5]
      exact code_isCall0 c.k c.t c.n _ ao c.kids.length cap w h5
  | succ dp ih =>
    intro hp d c v w hrd
    obtain ⟨d', ao, cap, -, rfl, hkids⟩ := hrd.open
    by_cases h5 : c.k = 5
    · rw [okC_5 h5, h5]
      refine (code_isCall5 c.t c.n ((dp + 1 : Nat) : Int) ao c.kids.length cap (c.kids.all (okC dp)) w (fun h0 hm W db hb hc => ?_)).mono ?_
      · exact slices_ContainsC (by omega) (ih (by omega)) d' c.kids ao _ cap W db rfl (by omega) (RdCs.below hkids hb) (by rw [hc]; norm_cast)
      · rintro e w' ⟨he, hb⟩
        refine ⟨?_, hb⟩
        rw [he]
        have h0 : decide ((0 : Int) < ((dp + 1 : Nat) : Int)) = true := decide_eq_true (by omega)
        rw [h0]
        simp [headOk, h5]
    · rw [okC_n5 h5]
      exact code_isCall0 c.k c.t c.n _ ao c.kids.length cap w h5
end Go.Proofs.YtfgkaookgfghoaaGreat
end

section
namespace Go.Proofs.YtfgkaookgfghoaaGreat
open Go.RowKit
set_option linter.unusedVariables false
set_option linter.unusedSimpArgs false

set_option maxRecDepth 100000 in
theorem code_IsCall (d : Nat) (c : Cl) (v : Value) (w : World) (hrd : RdC w d v c) : Calls Tryz.prog 21 #[v] w fun e w' => e = .returned (.bool (okC 3 c)) ∧ Below w.heap.size w w' := by
  obtain ⟨d', ao, cap, -, rfl, -⟩ := hrd.open
  obtain ⟨k, hk⟩ : ∃ k, k = c.k := ⟨_, rfl⟩
  obtain ⟨t, ht⟩ : ∃ t, t = c.t := ⟨_, rfl⟩
  obtain ⟨n, hn⟩ : ∃ n, n = c.n := ⟨_, rfl⟩
  obtain ⟨m, hm⟩ : ∃ m, m = c.kids.length := ⟨_, rfl⟩
  rw [← hk, ← ht, ← hn, ← hm] at hrd ⊢
  obtain ⟨W, hW⟩ : ∃ W, W = w.alloc (.cells #[.int .i64 k, .int .i64 t, .int .i64 n, .slice ao m cap] 40) := ⟨_, rfl⟩
  have hB : Below w.heap.size w W := by rw [hW]; exact (Below.refl _ w).alloc (Nat.le_refl _) _
  have hrg : W.rangeAt w.heap.size 0 [.int .i64 k, .int .i64 t, .int .i64 n, .slice ao m cap] := by rw [hW]; exact rangeAt_new _
  have hcall := code_isCall 3 (by omega) d c _ W (RdC.below hB hrd)
  have HW := Lib.hid hW
  have HC := Lib.hid hcall
  have HB := Lib.hid hB
  have HRG := Lib.hid hrg
  clear hk ht hn hm hW hB hrg hcall hrd
  go_enter Tryz.func21, Tryz.ntmps21
  go_upto_region 1 with fail
  rw [← HW.out]
  go_wp2_with (first
    | (refine wpl_loadC _ rfl rfl rfl HRG.out rfl ?_)
    | (go_at_call 48; refine HC.out.mono ?_; rintro e w1 ⟨rfl, hb⟩; have H1 := Lib.hid (HB.out.trans (hb.mono HB.out.size)); clear hb)
    | fail)
  exact bodyPost_ret (v := .bool (okC 3 c)) (by simp [results, Tryz.results21, go_sem]) rfl ⟨rfl, H1.out⟩
end Go.Proofs.YtfgkaookgfghoaaGreat
end

section
namespace Go.Proofs.YtfgkaookgfghoaaGreat
open Go.RowKit Go.Maps Go.Shelf
attribute [local go_sem] Oper.semAt_some
set_option linter.unusedVariables false
set_option linter.unusedSimpArgs false

section
variable {F : Fence} {nF : Nat} {w : World} {ops : Array Oper} {rest : List Oper} {o : Oper} {a : Act} {Q : Exit → Act → World → Prop}
theorem wplIn_loadPl {b : Nat} {vs : List Value} (x : Operand) (hgd : o.guard = none) (ho : o.op = .load 77 x) (hx : a.eval x = .pointer (some ⟨b, 0, none⟩)) (hr : w.rangeAt b 0 vs) (hl : vs.length = 5)
    (h : wpListIn F nF Tryz.prog ops Q rest (a.put o.dst (.agg vs.toArray)) w) : wpListIn F nF Tryz.prog ops Q (o :: rest) a w := by
  refine wpListIn_plain hgd fun K hK => ?_
  unfold Oper.wpIn
  refine ⟨by simp [Oper.about, ho], ?_⟩
  rw [Oper.semAt_plain F _ _ (by rw [ho]; intro c hc'; cases hc')]
  unfold execOp
  simp only [ho, hx, Sem.run_bind, Sem.run_pure, run_loadAt_mid w b 0 77 vs _ hr Tryz.underlying77 rfl (by rw [hl]; exact placeSize), Result.andThen_ok]
  exact hK _ _ h
end
/-- What Do answers. -/
def DoOut (N g gl : Nat) (A : Acc) (M : Cls Int) (t : Trk) (tr : Int) (xs : List Lf) (w : World) (e : Ending) (w' : World) : Prop :=
  ∃ u E pre, e = .returned (.tuple #[u, .int .i64 E]) ∧ pre <+: xs ∧ OwnR evR w.heap.size u (fV M t tr A pre) w' ∧ LdAt N g gl (fA M t A pre) M w' ∧ Below N w w' ∧ Off g w w' ∧
    ((pre = xs ∧ fOk M t A xs ∧ E = 0) ∨ ∃ p x, pre = p ++ [x] ∧ fOk M t A p ∧ E = doE (fA M t A p) M t x ∧ E ≠ 0)
set_option maxRecDepth 100000 in
set_option maxHeartbeats 8000000 in
theorem act_Do {N g gl r vb d dc : Nat} {A : Acc} {M : Cls Int} {ts : List Trk} {x : Lf} {xs : List Lf} {c : Cl} {w : World} {G F : FP} (h : LdAt N g gl A M w) (hN : N ≤ w.heap.size) (hR : ReAt F r ts w) (hFg : ∀ k, F k → k ≠ g)
    {k : Nat} (hk : k < ts.length) (now : Int) (hrd : RdC w dc (.agg (lfL x).toArray) c) (hok : okC 3 c = true) (hsg : Sg G w d x xs) (hG : ∀ k, G k → k < w.heap.size ∧ k ≠ g) (hxs : ∀ y ∈ xs, y.1 = 1 ∨ y.1 = 2) (hlen : xs.length ≤ 100000) :
    Calls Tryz.prog 8 #[.pointer (some ⟨g, 0, none⟩), .pointer (some ⟨vb, 0, none⟩), .pointer (some ⟨r, 0, none⟩), .agg (lfL x).toArray, .int .i64 k, .int .i64 now] w (DoOut N g gl A M ts[k] k xs w) := by
  obtain ⟨t, ht⟩ : ∃ t, t = ts[k] := ⟨_, rfl⟩
  rw [← ht]
  -- the three places
  obtain ⟨W0, hW0⟩ : ∃ W0, W0 = ((w.alloc (.cells (lfL x).toArray 40)).alloc (.cells #[.slice none 0 0] 34)).alloc (.cells #[.int .i64 0] 35) := ⟨_, rfl⟩
  have hB0 : Below w.heap.size w W0 := by rw [hW0]; exact (((Below.refl _ w).alloc (Nat.le_refl _) _).alloc (by simp) _).alloc (by simp; omega) _
  obtain ⟨cb, hcb⟩ : ∃ cb, cb = w.heap.size := ⟨_, rfl⟩
  obtain ⟨r0, hr0⟩ : ∃ r0, r0 = cb + 1 := ⟨_, rfl⟩
  obtain ⟨r1, hr1⟩ : ∃ r1, r1 = r0 + 1 := ⟨_, rfl⟩
  have hs0 : W0.heap.size = r1 + 1 := by rw [hW0, hr1, hr0, hcb]; simp
  have bc : W0.rangeAt cb 0 (callR.f x) := by
    rw [hcb]
    refine rangeAt_whole (T := 40) ?_
    rw [hW0, Below.heap_alloc _ _ _ (by simp; omega), Below.heap_alloc _ _ _ (by simp)]
    exact World.alloc_heap_new _ _
  have b0 : Boxed W0 r0 34 (.slice none 0 0) := by
    have := Boxed.new (w.alloc (.cells (lfL x).toArray 40)) 34 (.slice none 0 0)
    rw [World.size_alloc] at this
    rw [hW0, hr0, hcb]; exact this.alloc _
  have b1 : Boxed W0 r1 35 (.int .i64 0) := by
    have := Boxed.new ((w.alloc (.cells (lfL x).toArray 40)).alloc (.cells #[.slice none 0 0] 34)) 35 (.int .i64 0)
    rw [World.size_alloc, World.size_alloc] at this
    rw [hW0, hr1, hr0, hcb]; exact this
  have hT := refer_Track (hR.below hB0) hk
  rw [← ht] at hT
  have hIC : ∀ W, Below w.heap.size w W → Calls Tryz.prog 21 #[.agg (callR.f x).toArray] W fun e w' => e = .returned (.bool true) ∧ Below W.heap.size W w' := fun W hb => by
    have := code_IsCall dc c _ W (RdC.below hb hrd)
    rw [hok] at this; exact this
  have HW0 := Lib.hid (And.intro hW0 (And.intro hcb (And.intro hr0 hr1)))
  have HB0 := Lib.hid (And.intro hB0 (And.intro bc (And.intro b0 b1)))
  have HT := Lib.hid hT
  have HIC := Lib.hid hIC
  have HH := Lib.hid (And.intro h (And.intro hN (And.intro hsg (And.intro hG (And.intro hxs hlen)))))
  clear hW0 hB0 bc b0 b1 hT hIC h hN hsg hG hxs hlen hR hFg hrd hok ht hcb hr0 hr1
  refine (callsIn_wide (n := 1 + d + 2)).1 ?_
  refine callsIn_of_wp_marks Tryz.func8 rfl trivial ?_ rfl
  simp only [Tryz.ntmps8, List.size_toArray, List.length_cons, List.length_nil, Nat.reduceAdd, Nat.reduceSub, Array.replicate_succ, Array.replicate_zero, List.push_toArray, List.append_toArray, List.nil_append, List.cons_append]
  gi_upto_region 1 with fail
  rw [← HW0.out.1, ← HW0.out.2.1, ← HW0.out.2.2.1, ← HW0.out.2.2.2]
  gi_upto_region 2 with (first
    | (gi_at_call 20; refine (callsIn_wide.2 HT.out).mono ?_; rintro e w1 ⟨rfl, hb1⟩; have H1 := Lib.hid hb1; clear hb1)
    | (refine ⟨trivial, ?_⟩; gi_at_call 20; refine (callsIn_wide.2 HT.out).mono ?_; rintro e w1 ⟨rfl, hb1⟩; have H1 := Lib.hid hb1; clear hb1)
    | (refine wplIn_allocR (r := trkR) (ty := 72) rfl rfl rfl ?_; intro C hC)
    | (refine wplIn_storeR (r := trkR) (ty := 72) (t := t) (C := C) _ _ rfl rfl rfl rfl rfl (World.alloc_heap_new w1 _) hC ?_; rw [World.setRow_alloc_new])
    | fail)
  obtain ⟨tb, htb⟩ : ∃ tb, tb = w1.heap.size := ⟨_, rfl⟩
  obtain ⟨W1, hW1⟩ : ∃ W1, W1 = w1.alloc (.cells (trkR.f t).toArray 72) := ⟨_, rfl⟩
  have hB1 : Below W0.heap.size W0 W1 := by rw [hW1]; exact H1.out.alloc H1.out.size _
  have hs1 : W1.heap.size = tb + 1 := by rw [hW1, htb]; simp
  have htb0 : r1 < tb := by have := H1.out.size; omega
  have bc1 : W1.rangeAt cb 0 (callR.f x) := rangeAt_block HB0.out.2.1 (hB1.block cb (by have := HW0.out.2.2.1; have := HW0.out.2.2.2; omega))
  have bt1 : W1.rangeAt tb 0 (trkR.f t) := by rw [htb, hW1]; exact rangeAt_whole (T := 72) (World.alloc_heap_new _ _)
  have hIC := HIC.out W1 (HB0.out.1.trans (hB1.mono HB0.out.1.size))
  rw [← hW1, ← htb]
  obtain ⟨q0, q1, q2, q3⟩ := rg0 (x := x) bc1
  have HBC1 := Lib.hid bc1
  have HBT1 := Lib.hid bt1
  have HB1 := Lib.hid hB1
  have HI := Lib.hid hIC
  clear hW1 htb hB1 bc1 bt1 hIC hC
  gi_upto_region 4 with (first
    | (gi_at_call 21; refine (callsIn_wide.2 HI.out).mono ?_; rintro e w2 ⟨rfl, hb2⟩; have H2 := Lib.hid hb2; clear hb2)
    | (refine ⟨trivial, ?_⟩; gi_at_call 21; refine (callsIn_wide.2 HI.out).mono ?_; rintro e w2 ⟨rfl, hb2⟩; have H2 := Lib.hid hb2; clear hb2)
    | fail)
  clear q0 q1 q2 q3
  obtain ⟨V2, hV2⟩ : ∃ V2, V2 = (w2.alloc (.cells (plL g (some ⟨vb, 0, none⟩) (some ⟨r, 0, none⟩) k now).toArray 77)).alloc (.cells #[.slice none 0 0] 34) := ⟨_, rfl⟩
  obtain ⟨V, hV⟩ : ∃ V, V = V2.alloc (.cells (lfL x).toArray 40) := ⟨_, rfl⟩
  obtain ⟨pb, hpb⟩ : ∃ pb, pb = w2.heap.size := ⟨_, rfl⟩
  obtain ⟨eb, heb⟩ : ∃ eb, eb = pb + 1 := ⟨_, rfl⟩
  obtain ⟨sb, hsb⟩ : ∃ sb, sb = eb + 1 := ⟨_, rfl⟩
  have hsV2 : V2.heap.size = sb := by rw [hV2, hsb, heb, hpb]; simp
  have hsV : V.heap.size = sb + 1 := by rw [hV, World.size_alloc, hsV2]
  have hB2 : Below W1.heap.size W1 V := by rw [hV, hV2]; exact ((H2.out.alloc H2.out.size _).alloc (by have := H2.out.size; simp; omega) _).alloc (by have := H2.out.size; simp; omega) _
  have htp : tb < pb := by have := H2.out.size; omega
  have bpV : V.rangeAt pb 0 (plL g (some ⟨vb, 0, none⟩) (some ⟨r, 0, none⟩) k now) := by
    rw [hpb]
    refine rangeAt_whole (T := 77) ?_
    rw [hV, hV2, Below.heap_alloc _ _ _ (by simp; omega), Below.heap_alloc _ _ _ (by simp)]
    exact World.alloc_heap_new _ _
  have beV : Boxed V eb 34 (.slice none 0 0) := by
    have := Boxed.new (w2.alloc (.cells (plL g (some ⟨vb, 0, none⟩) (some ⟨r, 0, none⟩) k now).toArray 77)) 34 (.slice none 0 0)
    rw [World.size_alloc, ← hpb, ← heb] at this
    rw [hV, hV2]; exact this.alloc _
  have bsV : V.rangeAt sb 0 (lfL x) := by have := boxF V2 x hV; rwa [hsV2] at this
  have btV : V.rangeAt tb 0 (trkR.f t) := rangeAt_block HBT1.out (hB2.block tb (by omega))
  have bcV : V2.rangeAt cb 0 (callR.f x) := by
    have h2 : Below W1.heap.size W1 V2 := by rw [hV2]; exact (H2.out.alloc H2.out.size _).alloc (by have := H2.out.size; simp; omega) _
    exact rangeAt_block HBC1.out (h2.block cb (by have := HW0.out.2.2.1; have := HW0.out.2.2.2; omega))
  have hBV : Below w.heap.size w V := HB0.out.1.trans ((HB1.out.trans (hB2.mono HB1.out.size)).mono HB0.out.1.size)
  have b0V : Boxed V r0 34 (.slice none 0 0) := (hB2.block r0 (by have := HW0.out.2.2.2; omega)).trans ((HB1.out.block r0 (by have := HW0.out.2.2.2; omega)).trans HB0.out.2.2.1)
  have b1V : Boxed V r1 35 (.int .i64 0) := (hB2.block r1 (by omega)).trans ((HB1.out.block r1 (by omega)).trans HB0.out.2.2.2)
  have HV := Lib.hid (And.intro hV2 (And.intro hV (And.intro hpb (And.intro heb hsb))))
  have HVB := Lib.hid (And.intro bpV (And.intro btV (And.intro beV (And.intro b0V b1V))))
  have HBV := Lib.hid hBV
  have HBC := Lib.hid bcV
  have HSB := Lib.hid bsV
  have hle : pb < eb := by omega
  have hle2 : eb < sb := by omega
  clear heb hsb hV2 hV hpb hB2 bpV beV bsV btV bcV hBV b0V b1V
  gi_upto_region 6 with fail
  rw [show (w2.alloc (.cells #[.pointer (some ⟨g, 0, none⟩), .pointer (some ⟨vb, 0, none⟩), .pointer (some ⟨r, 0, none⟩), .int .i64 (k : Int), .int .i64 now] 77)).alloc (.cells #[.slice none 0 0] 34) = V2 from HV.out.1.symm, ← HV.out.2.2.1, ← HV.out.2.2.2.1]
  gi_wp2_with (first
    | (refine wplIn_loadR (r := callR) (t := x) _ rfl rfl rfl HBC.out ?_)
    | (gi_at_call 22; refine (callsIn_wide.2 (act_singles x _)).mono ?_; rintro e w3 ⟨rfl, hw3⟩)
    | (refine ⟨trivial, ?_⟩; gi_at_call 22; refine (callsIn_wide.2 (act_singles x _)).mono ?_; rintro e w3 ⟨rfl, hw3⟩)
    | fail)
  rw [show V2.alloc (.cells (lfL x).toArray 40) = V from HV.out.2.1.symm]
  have hglt : g < w.heap.size := HH.out.1.lt
  have hgV : g < V.heap.size := Nat.lt_of_lt_of_le hglt HBV.out.size
  have hcw : w.heap.size ≤ cb := by rw [HW0.out.2.1]; exact Nat.le_refl _
  have hc0 : cb < r0 := by have := HW0.out.2.2.1; omega
  have hc1 : r0 < r1 := by have := HW0.out.2.2.2; omega
  have hit := singles_iter 1 d sb x xs (fun j => G j ∨ j = sb) V HSB.out (.inr rfl) (Sg.keep (fun j hj => .inl hj) (fun j hj => HBV.out.block j (HH.out.2.2.2.1 j hj).1) HH.out.2.2.1)
  have HIT := Lib.hid hit
  have HGl := Lib.hid HH.out.2.2.2.1
  clear hit
  refine range_outerAI (n := 1 + d) (gf := 49) (lb := #[.pointer (some ⟨sb, 0, none⟩)]) rfl enters_singles HIT.out (Grow.refl _) (fun j hj => ⟨?hG, rfl⟩) (fun _ => rfl)
    (fun j => j = g ∨ j = eb ∨ j = r0 ∨ j = r1) ?hpsi (DoInv M t k A g gl eb r0 r1 V) (DoX M t k A g gl eb r0 r1 V) (DoInv.stab hgV (by omega) (by omega) (by omega)) (fun c => DoX.stab hgV (by omega) (by omega) (by omega) c)
    ?h0 (fun z N => { tmps := #[.pointer (some ⟨g, 0, none⟩), .pointer (some ⟨vb, 0, none⟩), .pointer (some ⟨r, 0, none⟩), .agg (lfL x).toArray, .int .i64 k, .int .i64 now, undef, undef, undef, .pointer (some ⟨cb, 0, none⟩), undef, undef, .pointer (some ⟨r0, 0, none⟩), .pointer (some ⟨r1, 0, none⟩), .pointer (some ⟨tb, 0, none⟩), .bool true, .pointer (some ⟨pb, 0, none⟩), .pointer (some ⟨eb, 0, none⟩), .pointer (some ⟨N, 0, none⟩), undef, undef, .tuple #[.agg (trkR.f t).toArray, .bool true], .pointer (some ⟨r, 0, none⟩), .int .i64 k, .tuple #[.agg (trkR.f t).toArray, .bool true], .agg (trkR.f t).toArray, .bool true, .pointer (some ⟨g, 0, none⟩), .bool false, .bool false, .pointer (some ⟨vb, 0, none⟩), .bool false, .bool false, .bool false, .pointer (some ⟨r, 0, none⟩), .bool false, .bool false, .bool false, .agg #[.int .i64 x.1, .int .i64 x.2.1, .int .i64 x.2.2.1, .slice x.2.2.2.1 x.2.2.2.2.1 x.2.2.2.2.2], .bool true, .bool false, .bool false, .bool false, .bool true, .bool false, .bool false, .pointer (some ⟨g, 0, none⟩), .pointer (some ⟨vb, 0, none⟩), .pointer (some ⟨r, 0, none⟩), .int .i64 k, .int .i64 now, .agg #[.pointer (some ⟨g, 0, none⟩), .pointer (some ⟨vb, 0, none⟩), .pointer (some ⟨r, 0, none⟩), .int .i64 k, .int .i64 now], .agg (callR.f x).toArray, .func (.func 49) #[] #[.pointer (some ⟨sb, 0, none⟩)], .agg (callR.f z).toArray, undef, undef, undef, undef, undef, undef, undef, undef, undef, undef, undef, undef, undef, undef, undef], defers := [] })
    (fun z N W => W.heap[N]? = some (.cells (callR.f z).toArray 40 (0, 0))) (fun z N W W' h e => e.trans h) ?assign ?body ?done ?stop
  case hG =>
    rcases hj with h | h
    · exact Nat.lt_of_lt_of_le (HGl.out j h).1 HBV.out.size
    · omega
  case hpsi =>
    intro j hj
    refine ⟨by omega, fun hg => ?_⟩
    rcases hg with h | h
    · have := HGl.out j h; omega
    · omega
  case h0 => exact ⟨_, ⟨(HBV.out.block g hglt).trans HH.out.1.blk, HH.out.1.ok, trivial, HVB.out.2.2.1, HVB.out.2.2.2.1, HVB.out.2.2.2.2, OwnR.nil _ _, fun j => ⟨fun h => h.elim, fun h => by cases h⟩, Nat.le_refl _, fun _ _ _ _ _ _ => rfl, Grow.refl _⟩⟩
  case assign =>
    intro l z W' K hK
    simp only [encL]
    refine frameEq (b := { tmps := #[.pointer (some ⟨g, 0, none⟩), .pointer (some ⟨vb, 0, none⟩), .pointer (some ⟨r, 0, none⟩), .agg (lfL x).toArray, .int .i64 k, .int .i64 now, undef, undef, undef, .pointer (some ⟨cb, 0, none⟩), undef, undef, .pointer (some ⟨r0, 0, none⟩), .pointer (some ⟨r1, 0, none⟩), .pointer (some ⟨tb, 0, none⟩), .bool true, .pointer (some ⟨pb, 0, none⟩), .pointer (some ⟨eb, 0, none⟩), undef, undef, undef, .tuple #[.agg (trkR.f t).toArray, .bool true], .pointer (some ⟨r, 0, none⟩), .int .i64 k, .tuple #[.agg (trkR.f t).toArray, .bool true], .agg (trkR.f t).toArray, .bool true, .pointer (some ⟨g, 0, none⟩), .bool false, .bool false, .pointer (some ⟨vb, 0, none⟩), .bool false, .bool false, .bool false, .pointer (some ⟨r, 0, none⟩), .bool false, .bool false, .bool false, .agg #[.int .i64 x.1, .int .i64 x.2.1, .int .i64 x.2.2.1, .slice x.2.2.2.1 x.2.2.2.2.1 x.2.2.2.2.2], .bool true, .bool false, .bool false, .bool false, .bool true, .bool false, .bool false, .pointer (some ⟨g, 0, none⟩), .pointer (some ⟨vb, 0, none⟩), .pointer (some ⟨r, 0, none⟩), .int .i64 k, .int .i64 now, .agg #[.pointer (some ⟨g, 0, none⟩), .pointer (some ⟨vb, 0, none⟩), .pointer (some ⟨r, 0, none⟩), .int .i64 k, .int .i64 now], .agg (callR.f x).toArray, .func (.func 49) #[] #[.pointer (some ⟨sb, 0, none⟩)], .agg (callR.f z).toArray, undef, undef, undef, undef, undef, undef, undef, undef, undef, undef, undef, undef, undef, undef, undef], defers := [] }) (by simp) ?_
    gi_wp2_with (first
      | (refine wplIn_allocR (r := callR) rfl rfl rfl ?_; intro C hC)
      | (refine wplIn_storeR (r := callR) (t := z) (C := C) _ _ rfl rfl rfl rfl rfl (World.alloc_heap_new W' _) hC ?_; rw [World.setRow_alloc_new])
      | fail)
    exact hK (W'.alloc (.cells (callR.f z).toArray callR.T)) ((Below.refl _ W').alloc (Nat.le_refl _) _) (by simp) (World.alloc_heap_new _ _)
  case body =>
    rintro l pre z Φ N' W hpx ⟨u, hI⟩ hl hΦl ⟨rr, hr⟩ hlN hNW hAt
    have hpl := hpx.length_le
    rw [List.length_append, List.length_singleton] at hpl
    have hzk : z.1 = 1 ∨ z.1 = 2 := HH.out.2.2.2.2.1 z (hpx.subset (by simp))
    have hld := hI.ledger HH.out.1 HBV.out (by omega) (by omega) (by omega)
    have hNWs : N ≤ W.heap.size := Nat.le_trans HH.out.2.1 (Nat.le_trans HBV.out.size hI.sz)
    have hdo := act_do hld hNWs z hzk t (some ⟨vb, 0, none⟩) (some ⟨r, 0, none⟩) k now
    have hng : N' ≠ g := fun e => by have := hI.sz; omega
    have rN : W.rangeAt N' 0 (callR.f z) := rangeAt_whole (T := 40) hAt
    have rP : W.rangeAt pb 0 (plL g (some ⟨vb, 0, none⟩) (some ⟨r, 0, none⟩) k now) := rangeAt_block HVB.out.1 (hI.old pb (by omega) (by omega) (by omega) (by omega) (by omega))
    have rT : W.rangeAt tb 0 (trkR.f t) := rangeAt_block HVB.out.2.1 (hI.old tb (by omega) (by omega) (by omega) (by omega) (by omega))
    have hfl := fV_len M t k A pre
    have hdl := doV_len (fA M t A pre) M t k z
    have hlen := HH.out.2.2.2.2.2
    obtain ⟨E, hE⟩ : ∃ E, E = doE (fA M t A pre) M t z := ⟨_, rfl⟩
    rw [← hE] at hdo
    have hLn : (fV M t k A pre).length + (doV (fA M t A pre) M t k z).length ≤ 1000000 := by omega
    obtain ⟨m0, hm0⟩ : ∃ m0, m0 = (fV M t k A pre).length := ⟨_, rfl⟩
    obtain ⟨ao, cap, hu⟩ := hI.own.lenOf
    rw [← hm0] at hu
    subst hu
    have hc := hI.bx.cell
    have HI := Lib.hid hI
    have HDO := Lib.hid hdo
    have HRN := Lib.hid rN
    have HRP := Lib.hid rP
    have HRT := Lib.hid rT
    have HLN := Lib.hid hLn
    have HE := Lib.hid hE
    have HPX := Lib.hid hpx
    have hWs : V.heap.size ≤ W.heap.size := hI.sz
    clear hI hdo rN rP rT hLn hm0 hfl hdl hlen hE hpx hld hzk hpl hΦl hAt hr
    gi_upto_region 9 with (first
      | (refine wplIn_loadPl _ rfl rfl rfl HRP.out rfl ?_)
      | (refine wplIn_loadR (r := trkR) (t := t) _ rfl rfl rfl HRT.out ?_)
      | (refine wplIn_loadR (r := callR) (t := z) _ rfl rfl rfl HRN.out ?_)
      | (gi_at_call 23; refine (CallsIn.inRound l (callsIn_wide.2 HDO.out)).mono ?_; rintro e w4 ⟨uv, rfl, d1, d2, d3, d4⟩; have D := Lib.hid (And.intro d1 (And.intro d2 (And.intro d3 d4))); clear d1 d2 d3 d4)
      | (refine ⟨trivial, ?_⟩; gi_at_call 23; refine (CallsIn.inRound l (callsIn_wide.2 HDO.out)).mono ?_; rintro e w4 ⟨uv, rfl, d1, d2, d3, d4⟩; have D := Lib.hid (And.intro d1 (And.intro d2 (And.intro d3 d4))); clear d1 d2 d3 d4)
      | fail)
    have hoff := D.out.2.2.2
    have hgW : Grow W w4 := Grow.of_below D.out.2.2.1
    have beb : Boxed w4 eb 34 (.slice ao m0 cap) := (hoff eb (by omega) (by omega)).trans HI.out.bx
    have hc4 := beb.cell
    have hown4 : OwnR evR V.heap.size (.slice ao m0 cap) (fV M t k A pre) w4 := HI.out.own.of (Nat.le_refl _) (fun j hj => hoff j (HI.out.own.block hj).2 (fun e => by have := (HI.out.own.block hj).1; omega))
    have hVw4 : V.heap.size ≤ w4.heap.size := Nat.le_trans hWs hgW.size
    have HOW := Lib.hid hown4
    have HBE := Lib.hid beb
    have HGW := Lib.hid hgW
    have hu0 : some eb ≠ (Value.slice ao m0 cap).ownBlock := fun e => by have := (hown4.block e.symm).1; omega
    have HU0 := Lib.hid hu0
    clear hoff hgW beb hown4 hu0
    gi_upto_region 10 with (first
      | (refine wplIn_appsR (r := evR) (u := uv) (v := .slice ao m0 cap) (xs := fV M t k A pre) (ys := doV (fA M t A pre) M t k z) rfl rfl rfl rfl HOW.out D.out.1 HLN.out hVw4 ?_; intro u5 w5 hO5 hg5 hat5; obtain ⟨ao5, cap5, rfl⟩ := hO5.lenOf; obtain ⟨m5, hm5⟩ : ∃ m5, m5 = (fV M t k A pre ++ doV (fA M t A pre) M t k z).length := ⟨_, rfl⟩; rw [← hm5] at hO5 hat5; rw [← hm5]; have b5 := HBE.out.kept hg5 HU0.out; have c5 := b5.cell; have f5 := b5.frozen; have HO5 := Lib.hid hO5; have HG5 := Lib.hid hg5; have HA5 := Lib.hid hat5; have HB5 := Lib.hid b5; clear hO5 hg5 hat5 b5 hm5)
      | fail)
    by_cases hE0 : E = 0
    · have hq : (E == 0) = true := by simp [hE0]
      have HE0 := Lib.hid hE0
      clear hE0
      gi_wp2
      exact DoC.step HI.out (by omega) (by omega) (by omega) (by omega) (by omega) hgV (by omega) (by omega) (by omega) D.out.2.1 D.out.2.2.2 HGW.out (by rw [← HE.out]; exact HE0.out) HO5.out HG5.out HA5.out
    · have hq : (E == 0) = false := by simp [hE0]
      have HE0 := Lib.hid hE0
      clear hE0
      have b0w : Boxed w5 r0 34 (.slice none 0 0) := by
        have h1 : Boxed w4 r0 34 (.slice none 0 0) := (D.out.2.2.2 r0 (by omega) (by omega)).trans HI.out.b0
        exact h1.kept HG5.out (fun e => by have := (HOW.out.block e.symm).1; omega)
      have b1w : Boxed w5 r1 35 (.int .i64 0) := by
        have h1 : Boxed w4 r1 35 (.int .i64 0) := (D.out.2.2.2 r1 (by omega) (by omega)).trans HI.out.b1
        exact h1.kept HG5.out (fun e => by have := (HOW.out.block e.symm).1; omega)
      have x1 := (HB5.out.set (.slice ao5 m5 cap5)).cell
      have x2 := (b0w.other (show r0 ≠ eb by omega) (.slice ao5 m5 cap5)).frozen
      have x3 := ((b1w.other (show r1 ≠ eb by omega) (.slice ao5 m5 cap5)).other (show r1 ≠ r0 by omega) (.slice ao5 m5 cap5)).frozen
      have y2 := (b0w.other (show r0 ≠ eb by omega) (.slice ao5 m5 cap5)).cell
      have y3 := ((b1w.other (show r1 ≠ eb by omega) (.slice ao5 m5 cap5)).other (show r1 ≠ r0 by omega) (.slice ao5 m5 cap5)).cell
      clear b0w b1w
      gi_wp2
      exact DoC.stop HI.out (by omega) (by omega) (by omega) (by omega) (by omega) (by omega) hgV (by omega) (by omega) (by omega) D.out.2.1 D.out.2.2.2 HGW.out HE.out HE0.out HO5.out HG5.out HA5.out
  case done =>
    rintro D Φ W3 ⟨u, hC⟩ hon hD hnD hK
    obtain ⟨m5, hm5⟩ : ∃ m5, m5 = (fV M t k A xs).length := ⟨_, rfl⟩
    obtain ⟨ao5, cap5, hu⟩ := hC.own.lenOf
    rw [← hm5] at hu
    subst hu
    have b0 := hC.b0
    have b1 := hC.b1
    have hcu := hC.bx.cell
    have f0 := b0.frozen
    have hsz := hC.sz
    have f1 := (b1.other (show r1 ≠ r0 by omega) (.slice ao5 m5 cap5)).frozen
    have g0 := b0.cell
    have g1 := (b1.other (show r1 ≠ r0 by omega) (.slice ao5 m5 cap5)).cell
    have B0 := Lib.hid (b0.set (.slice ao5 m5 cap5))
    have B1 := Lib.hid b1
    have HC := Lib.hid hC
    have HON := Lib.hid hon
    have HKK := Lib.hid hK
    clear hC hon hK b0 b1 hm5
    gi_wp2
    have hnD' : ∀ j, (Value.slice ao5 m5 cap5).ownBlock = some j → j ≠ D := fun j hj e => hnD ((HC.out.iff D).2 (by rw [← e]; exact hj))
    obtain ⟨W4, hW4⟩ : ∃ W4, W4 = (W3.setCell ⟨r0, 0, none⟩ (.slice ao5 m5 cap5)).setCell ⟨r1, 0, none⟩ (.int .i64 0) := ⟨_, rfl⟩
    have ho4 : ∀ j, j ≠ r0 → j ≠ r1 → W4.heap[j]? = W3.heap[j]? := fun j a b => by rw [hW4, Below.heap_setCell _ _ _ j b, Below.heap_setCell _ _ _ j a]
    have hs4 : W4.heap.size = W3.heap.size := by rw [hW4]; simp [World.setCell]
    have d0 : Boxed W4 r0 34 (.slice ao5 m5 cap5) := by rw [hW4]; exact B0.out.other (by omega) _
    have d1 : Boxed W4 r1 35 (.int .i64 0) := by rw [hW4]; exact (B1.out.other (by omega) _).set _
    have hK4 : W4.heap[D]? = some (.deferred (some [])) := (ho4 D (by omega) (by omega)).trans HKK.out
    have hg4 : Grow W3 W4 := by rw [hW4]; exact ⟨rfl, rfl, rfl, by simp [World.setCell]⟩
    rw [← hW4]
    clear hW4
    obtain ⟨W5, hW5⟩ : ∃ W5, W5 = W4.putObj D (.deferred none) := ⟨_, rfl⟩
    have ho5 : ∀ j, j ≠ D → W5.heap[j]? = W4.heap[j]? := fun j hj => by rw [hW5]; exact put_other hj
    have hs5 : W5.heap.size = W4.heap.size := by rw [hW5]; simp [World.putObj]
    have hg5 : Grow W4 W5 := by rw [hW5]; exact put_grow _ _ _
    have e0 := Boxed.cell (show Boxed W5 r0 34 (.slice ao5 m5 cap5) from (ho5 r0 (by omega)).trans d0)
    have e1 := Boxed.cell (show Boxed W5 r1 35 (.int .i64 0) from (ho5 r1 (by omega)).trans d1)
    have hC := HC.out
    have hall : ∀ j, j < V.heap.size → j ≠ g → j ≠ eb → j ≠ r0 → j ≠ r1 → W5.heap[j]? = V.heap[j]? := fun j a b c d e => (ho5 j (by omega)).trans ((ho4 j d e).trans (hC.old j a b c d e))
    have hgr : Grow w W5 := (Grow.of_below HBV.out).trans (hC.grow.trans (hg4.trans hg5))
    have hoff : Off g w W5 := fun j a b => by
      have := HBV.out.size
      rw [hall j (by omega) b (by omega) (by omega) (by omega)]
      exact HBV.out.block j a
    have hbg : W5.heap[g]? = some (.cells (lcells (fA M t A xs) gl).toArray 86 (0, 0)) := (ho5 g (by omega)).trans ((ho4 g (by omega) (by omega)).trans hC.blk)
    have hld : LdAt N g gl (fA M t A xs) M W5 := HH.out.1.swap hgr (fun j a b c d => hoff j a d) hbg hC.ok
    have hbel : Below N w W5 := ⟨hgr.os, hgr.tape, hgr.output, hgr.size, fun j hj => by
      have := HH.out.1.lo
      have := HH.out.2.1
      exact hoff j (by omega) (by omega)⟩
    have hown : OwnR evR w.heap.size (.slice ao5 m5 cap5) (fV M t k A xs) W5 := hC.own.of HBV.out.size (fun j hj => by
      have := (hC.own.block hj).1
      exact (ho5 j (hnD' j hj)).trans (ho4 j (by omega) (by omega)))
    refine ⟨by simp, .inl ⟨_, _, rfl, run_takeDeferred hK4, ?_⟩⟩
    rw [← hW5]
    refine ⟨.tuple #[.slice ao5 m5 cap5, .int .i64 0], ?_, _, 0, xs, rfl, List.prefix_rfl, hown, hld, hbel, hoff, .inl ⟨rfl, hC.okA, rfl⟩⟩
    simp [results, Tryz.results8, go_sem, e0, e1]
  case stop => 
    rintro D Φ c pre W3 hpre ⟨rfl, u, E, hC⟩ hon hD hnD hK
    have hnD' : ∀ j, u.ownBlock = some j → j ≠ D := fun j hj e => hnD ((hC.iff D).2 (by rw [← e]; exact hj))
    have hsz := hC.sz
    obtain ⟨W5, hW5⟩ : ∃ W5, W5 = W3.putObj D (.deferred none) := ⟨_, rfl⟩
    have ho5 : ∀ j, j ≠ D → W5.heap[j]? = W3.heap[j]? := fun j hj => by rw [hW5]; exact put_other hj
    have hs5 : W5.heap.size = W3.heap.size := by rw [hW5]; simp [World.putObj]
    have hg5 : Grow W3 W5 := by rw [hW5]; exact put_grow _ _ _
    have e0 := Boxed.cell (show Boxed W5 r0 34 u from (ho5 r0 (by omega)).trans hC.b0)
    have e1 := Boxed.cell (show Boxed W5 r1 35 (.int .i64 E) from (ho5 r1 (by omega)).trans hC.b1)
    have hall : ∀ j, j < V.heap.size → j ≠ g → j ≠ eb → j ≠ r0 → j ≠ r1 → W5.heap[j]? = V.heap[j]? := fun j a b c d e => (ho5 j (by omega)).trans (hC.old j a b c d e)
    have hgr : Grow w W5 := (Grow.of_below HBV.out).trans (hC.grow.trans hg5)
    have hoff : Off g w W5 := fun j a b => by
      have := HBV.out.size
      rw [hall j (by omega) b (by omega) (by omega) (by omega)]
      exact HBV.out.block j a
    have hbg : W5.heap[g]? = some (.cells (lcells (fA M t A pre) gl).toArray 86 (0, 0)) := (ho5 g (by omega)).trans hC.blk
    have hld : LdAt N g gl (fA M t A pre) M W5 := HH.out.1.swap hgr (fun j a b c d => hoff j a d) hbg hC.ok
    have hbel : Below N w W5 := ⟨hgr.os, hgr.tape, hgr.output, hgr.size, fun j hj => by
      have := HH.out.1.lo
      have := HH.out.2.1
      exact hoff j (by omega) (by omega)⟩
    have hown : OwnR evR w.heap.size u (fV M t k A pre) W5 := hC.own.of HBV.out.size (fun j hj => ho5 j (hnD' j hj))
    have hfin : ∃ v, (results Tryz.f8 #[undef]).run Tryz.prog W5 = v := ⟨_, rfl⟩
    clear hfin
    have HE := Lib.hid (And.intro e0 (And.intro e1 (And.intro hown (And.intro hld (And.intro hbel (And.intro hoff hC.okA))))))
    have HKK := Lib.hid hK
    have HW5 := Lib.hid hW5
    have HPR := Lib.hid hpre
    clear e0 e1 hown hld hbel hoff hC hK hW5 hbg hgr hall ho5 hg5 hs5 hpre hon hnD hnD'
    gi_wp2
    refine ⟨by simp, .inl ⟨_, _, rfl, run_takeDeferred HKK.out, ?_⟩⟩
    rw [← HW5.out]
    refine ⟨.tuple #[u, .int .i64 E], ?_, _, E, pre, rfl, HPR.out, HE.out.2.2.1, HE.out.2.2.2.1, HE.out.2.2.2.2.1, HE.out.2.2.2.2.2.1, .inr HE.out.2.2.2.2.2.2⟩
    have e0 := HE.out.1
    have e1 := HE.out.2.1
    simp [results, Tryz.results8, go_sem, e0, e1]
end Go.Proofs.YtfgkaookgfghoaaGreat
end

section
namespace Go.Proofs.YtfgkaookgfghoaaGreat
open Go.RowKit Go.Maps Go.Shelf
set_option linter.unusedVariables false
set_option linter.unusedSimpArgs false

def tk3 (k : Nat) : Trk := match k with | 0 => tkA | 1 => tkB | _ => tkC
theorem tk3_at {k : Nat} (h : k < 3) : [tkA, tkB, tkC][k]'h = tk3 k := by
  match k, h with
  | 0, _ => rfl
  | 1, _ => rfl
  | 2, _ => rfl
theorem Do_leaf {N p g gl vb r : Nat} {F : FP} {A : Acc} {w : World} (h : PrAt N p g gl vb r F A w) (hN : N ≤ w.heap.size) {k : Nat} (hk : k < 3) (now a b c : Int) (ok : leafOk a b c 0) (ha : a = 1 ∨ a = 2) :
    Calls Tryz.prog 8 #[.pointer (some ⟨g, 0, none⟩), .pointer (some ⟨vb, 0, none⟩), .pointer (some ⟨r, 0, none⟩), .agg #[.int .i64 a, .int .i64 b, .int .i64 c, .slice none 0 0], .int .i64 k, .int .i64 now] w fun e w' =>
      ∃ u, e = .returned (.tuple #[u, .int .i64 (doE A [] (tk3 k) (a, b, c, none, 0, 0))]) ∧ OwnR evR w.heap.size u (doV A [] (tk3 k) k (a, b, c, none, 0, 0)) w' ∧ PrAt N p g gl vb r F (doA A [] (tk3 k) (a, b, c, none, 0, 0)) w' ∧ Below N w w' ∧ Off g w w' := by
  obtain ⟨x, hx⟩ : ∃ x : Lf, x = (a, b, c, none, 0, 0) := ⟨_, rfl⟩
  have hrd : RdC w 1 (.agg (lfL x).toArray) (.mk a b c []) := by rw [hx]; exact ⟨none, 0, rfl, fun i hi => absurd hi (Nat.not_lt_zero i)⟩
  have hokc : okC 3 (.mk a b c []) = true := by
    rw [okC_n5 (by show a ≠ 5; omega)]
    exact decide_eq_true ok
  have hsg : Sg (fun _ => False) w 1 x [x] := .inl ⟨by rw [hx]; show a ≠ 5; omega, rfl⟩
  have := act_Do (r := r) (vb := vb) (ts := [tkA, tkB, tkC]) (F := F) (G := fun _ => False) h.ld hN h.re (fun k hk => (h.fg k hk).1) (k := k) hk now hrd hokc hsg (fun k hk => hk.elim) (fun y hy => by rw [List.mem_singleton.1 hy, hx]; exact ha) (by simp)
  rw [tk3_at hk] at this
  rw [← hx]
  rw [show (Value.agg #[.int .i64 a, .int .i64 b, .int .i64 c, .slice none 0 0]) = .agg (lfL x).toArray by rw [hx]; rfl]
  refine this.mono ?_
  rintro e w' ⟨u, E, pre, rfl, hpre, ho, hl, hb, hof, hcase⟩
  have hp : pre = [x] ∧ E = doE A [] (tk3 k) x := by
    rcases hcase with ⟨rfl, hok, rfl⟩ | ⟨q, y, rfl, -, rfl, -⟩
    · exact ⟨rfl, hok.1.symm⟩
    · have hl := hpre.length_le
      rw [List.length_append] at hl
      simp only [List.length_singleton] at hl
      have hq : q = [] := List.eq_nil_of_length_eq_zero (by omega)
      subst hq
      obtain ⟨t, ht⟩ := hpre
      rw [List.nil_append] at ht ⊢
      injection ht with h1 h2
      subst h1
      exact ⟨rfl, rfl⟩
  obtain ⟨rfl, rfl⟩ := hp
  have e1 : fV [] (tk3 k) k A [x] = doV A [] (tk3 k) k x := by simp [fV]
  rw [e1] at ho
  exact ⟨u, rfl, ho, h.ledger hl hof hb.size, hb, hof⟩
def evEqB (x y : Ev) : Bool := decide (x.1 = y.1) && (decide (x.2.1 = y.2.1) && decide (x.2.2 = y.2.2))
def eqEv (a b : Value) : Sem Value := binOp .eql 43 a b
theorem eql_ev (a b : Value) : binOp .eql 43 a b = eqEv a b := rfl
theorem run_eqEv (w : World) (x y : Ev) : (eqEv (.agg (evL x).toArray) (.agg (evL y).toArray)).run Tryz.prog w = .ok (.bool (evEqB x y)) w := by
  have hI : Tryz.prog.plainKey 3 = true := by kernel_rfl
  have pI := fun (x : Ev) (o : Nat) (v : Int) (h : (evL x).toArray[o]? = some (.int .i64 v)) => run_part_plain (P := Tryz.prog) w (e := 3) hI (xs := (evL x).toArray) h
  have q0 := fun x : Ev => pI x 0 x.1 (by simp [evL])
  have q1 := fun x : Ev => pI x 1 x.2.1 (by simp [evL])
  have q2 := fun x : Ev => pI x 2 x.2.2 (by simp [evL])
  have eI := fun x y => run_equalIn_int w 9998 3 .i64 .i64 x y Tryz.underlying3
  have hf : Tryz.prog.underlying 43 = some (.struct (Tryz.prog.fieldsOf 43)) := by kernel_rfl
  unfold eqEv
  rw [run_eql_struct, show (10000 : Nat) = 9999 + 1 from rfl, run_equalIn_struct w 9999 43 _ _ hf (by kernel_rfl)]
  obtain ⟨a0, a1, a2⟩ := x
  obtain ⟨b0, b1, b2⟩ := y
  simp [Program.fieldsOf, Tryz.underlying43, Op.eqFields, q0, q1, q2, eI, Result.andThen, evEqB]
  by_cases h0 : a0 = b0 <;> by_cases h1 : a1 = b1 <;> by_cases h2 : a2 = b2 <;> simp [h0, h1, h2]
attribute [local go_sem ↓] eql_ev
/-- A single event. -/
theorem evAt {B : Nat} {u : Value} {x : Ev} {w : World} (h : OwnR evR B u [x] w) : ∃ b cap, u = .slice (some ⟨b, 0, none⟩) 1 cap ∧ B ≤ b ∧ b < w.heap.size ∧ w.rangeAt b 0 (evL x) := by
  rcases h.2 with ⟨-, h2⟩ | ⟨g, cap, cur, rfl, hb, hg, -⟩
  · cases h2
  · refine ⟨g, cap, rfl, hb, (h.block rfl).2, ?_⟩
    rcases h.reads with ⟨e, -⟩ | ⟨b', o', c', e, -, -, hr⟩
    · cases e
    · injection e with e1 e2 e3
      injection e1 with e1
      injection e1 with e4 e5
      subst e4 e5
      rw [RowTy.all_one] at hr
      exact hr
theorem evNone {B : Nat} {u : Value} {w : World} (h : OwnR evR B u [] w) : ∃ ao cap, u = .slice ao 0 cap := h.lenOf
theorem doE_1 (A : Acc) (k : Nat) (t c : Int) : doE A [] (tk3 k) (1, t, c, none, 0, 0) = 0 := rfl
theorem doA_1 (A : Acc) (k : Nat) (t c : Int) : doA A [] (tk3 k) (1, t, c, none, 0, 0) = A := rfl
theorem doV_1 (A : Acc) (k : Nat) (tr t c : Int) : doV A [] (tk3 k) tr (1, t, c, none, 0, 0) = [(5, tr, c)] := rfl
theorem known_E (A : Acc) : doE A [] (tk3 0) (2, 1, 6, none, 0, 0) = 10 := rfl
set_option maxRecDepth 100000 in
set_option maxHeartbeats 8000000 in
theorem law_known (w : World) : Calls Tryz.prog 9 #[] w fun e w' => e = .returned (.bool true) ∧ Below w.heap.size w w' := by
  have hnil : RdI w (.slice none 0 0) [] := .inl ⟨rfl, rfl⟩
  have HN := Lib.hid hnil
  clear hnil
  have c71 : leafOk 1 0 7 0 := by decide
  have c26 : leafOk 2 1 6 0 := by decide
  go_enter Tryz.func9, Tryz.ntmps9
  go_upto_region 4 with (first
    | (go_at_call 6; refine (law_begin _ [] w HN.out (by decide) (by simp)).mono ?_; rintro e w1 ⟨p, g, gl, vb, r, F, rfl, hp, hb⟩; have H1 := Lib.hid (And.intro hp hb); clear hp hb)
    | fail)
  have hpd : PrAt w.heap.size p g gl vb r F (accL (bal3 [])) w1.drew := H1.out.1.below (Below.refl _ w1).drew
  have hbd : Below w.heap.size w w1.drew := H1.out.2.drew
  have H2 := Lib.hid (And.intro hpd hbd)
  clear hpd hbd
  go_region_held3 (fun w' => w'.cell? ⟨p, 0, none⟩ = some (.pointer (some ⟨g, 0, none⟩)) ∧ w'.cell? ⟨p, 1, none⟩ = some (.pointer (some ⟨vb, 0, none⟩)) ∧ w'.cell? ⟨p, 2, none⟩ = some (.pointer (some ⟨r, 0, none⟩))) (first | exact H1.out.1.cells | exact H2.out.1.cells | exact H3.out.1.cells) (first
    | (go_at_call 8; refine (Do_leaf H2.out.1 H2.out.2.size (k := 1) (by decide) 0 1 0 7 c71 (.inl rfl)).mono ?_; rw [doE_1, doA_1, doV_1]; rintro e w3 ⟨u, rfl, ho, hp, hb, -⟩; obtain ⟨ub, uc, rfl, hlo, hlt, hru⟩ := evAt ho; have H3 := Lib.hid (And.intro hp (H2.out.2.trans hb)); have HU := Lib.hid (And.intro hlt (And.intro hru hlo)); clear hp hb ho hlo hlt hru)
    | fail)
  go_upto_region 5 with fail
  have hpd : PrAt w.heap.size p g gl vb r F (accL (bal3 [])) w3.drew := H3.out.1.below (Below.refl _ w3).drew
  have hbd : Below w.heap.size w w3.drew := H3.out.2.drew
  have hug : ub ≠ g := fun e => by have := HU.out.2.2; have := H2.out.1.ld.lt; omega
  have H4 := Lib.hid (And.intro hpd (And.intro hbd hug))
  clear hpd hbd hug
  go_region_held3 (fun w' => w'.cell? ⟨p, 0, none⟩ = some (.pointer (some ⟨g, 0, none⟩)) ∧ w'.cell? ⟨p, 1, none⟩ = some (.pointer (some ⟨vb, 0, none⟩)) ∧ w'.cell? ⟨p, 2, none⟩ = some (.pointer (some ⟨r, 0, none⟩))) (first | exact H3.out.1.cells | exact H4.out.1.cells | exact H5.out.1.cells) (first
    | (go_at_call 8; refine (Do_leaf H4.out.1 H4.out.2.1.size (k := 0) (by decide) 0 2 1 6 c26 (.inr rfl)).mono ?_; rw [known_E]; rintro e w5 ⟨u2, rfl, ho, hp, hb, hof⟩; have H5 := Lib.hid (And.intro hp (And.intro (H4.out.2.1.trans hb) hof)); clear hp hb ho hof)
    | fail)
  go_upto_region 6 with fail
  have hru5 : w5.rangeAt ub 0 (evL (5, 1, 7)) := rangeAt_block HU.out.2.1 (H5.out.2.2 ub HU.out.1 H4.out.2.2)
  have e0 : w5.cell? ⟨ub, 0, none⟩ = some (.int .i64 5) := hru5 0 _ rfl
  have e1 : w5.cell? ⟨ub, 1, none⟩ = some (.int .i64 1) := hru5 1 _ rfl
  have e2 : w5.cell? ⟨ub, 2, none⟩ = some (.int .i64 7) := hru5 2 _ rfl
  have heq := run_eqEv w5 (5, 1, 7) (5, 1, 7)
  rw [show evEqB (5, 1, 7) (5, 1, 7) = true from rfl] at heq
  simp only [evL] at heq
  clear hru5
  go_wp2_with fail
  exact bodyPost_ret (v := .bool true) (by simp [results, Tryz.results9, go_sem]) rfl ⟨rfl, H5.out.2.1⟩
end Go.Proofs.YtfgkaookgfghoaaGreat
end

section
namespace Go.Proofs.YtfgkaookgfghoaaGreat
open Go.RowKit Go.Maps Go.Shelf
set_option linter.unusedVariables false
set_option linter.unusedSimpArgs false
attribute [local go_sem ↓] eql_ev

def capOf (k : Nat) : Int := match k with | 0 => 5 | 1 => 50 | _ => 5000
theorem tk3_cap (k : Nat) : (tk3 k).cap = capOf k := by
  match k with
  | 0 => rfl
  | 1 => rfl
  | (k + 2) => rfl
theorem mostCell (w : World) {k : Nat} (hk : k < 3) (T : TypeId) : (w.alloc (.cells #[.int .i64 5, .int .i64 50, .int .i64 5000] T)).cell? ⟨w.heap.size, k, none⟩ = some (.int .i64 (capOf k)) := by
  rw [World.cell?, World.alloc_heap_new]
  match k, hk with
  | 0, _ => rfl
  | 1, _ => rfl
  | 2, _ => rfl
theorem bal_at (h : Int) {k : Nat} (hk : k < 10) : (accL (bal3 [h]) k) = (if k = 0 then 100 + h else 100, 0) := by
  have e : (bal3 [h]).getD k 0 = balF [h] k := by simp [bal3, List.getD_eq_getElem?_getD, hk]
  unfold accL
  rw [e]
  unfold balF
  match k with
  | 0 => simp
  | k + 1 => simp
theorem lockNil (a : Int) : lockedOf [] a = 0 := rfl
section
variable {h n : Int} {j : Nat}
/-- What the spend answers. -/
theorem sp_over {k : Nat} (hov : capOf k < n) : doE (accL (bal3 [h])) [] (tk3 k) (2, j, n, none, 0, 0) = 10 ∧ doA (accL (bal3 [h])) [] (tk3 k) (2, j, n, none, 0, 0) = accL (bal3 [h]) ∧ ∀ tr, doV (accL (bal3 [h])) [] (tk3 k) tr (2, j, n, none, 0, 0) = [] := by
  have c : (tk3 k).cap < n := by rw [tk3_cap]; exact hov
  have e1 : spnE (accL (bal3 [h])) [] (tk3 k) (2, j, n, none, 0, 0) = 10 := by unfold spnE; rw [if_pos c]
  refine ⟨e1, ?_, fun tr => ?_⟩
  · show spnA _ _ _ _ = _; unfold spnA; rw [if_pos c]
  · show spnV _ _ _ _ = _; unfold spnV; rw [e1]; rfl
theorem sp_tr (h0 : 0 ≤ h) (h1 : h ≤ 1023) (n0 : 0 ≤ n) (n1 : n ≤ 6000) (hj : j < 10) : transE (accL (bal3 [h])) [] 0 (j : Int) n = if 100 + h < n then 6 else 0 := by
  have c0 : isAcc (j : Int) := by unfold isAcc; omega
  have c1 : isAcc (0 : Int) := by decide
  have c2 : isBal n := by unfold isBal; omega
  rw [transE, if_pos c0]
  unfold spendE
  rw [if_neg (by simp [c1, c2]), show (0 : Int).toNat = 0 from rfl, bal_at h (show 0 < 10 by omega), lockNil]
  simp only [if_true]
  by_cases c : 100 + h < n
  · rw [if_pos c, if_pos c]
  · rw [if_neg c, if_neg c, if_neg (by omega)]
theorem sp_funds {k : Nat} (hov : ¬ capOf k < n) (h0 : 0 ≤ h) (h1 : h ≤ 1023) (n0 : 0 ≤ n) (n1 : n ≤ 6000) (hj : j < 10) (hf : 100 + h < n) : doE (accL (bal3 [h])) [] (tk3 k) (2, j, n, none, 0, 0) = 6 ∧ doA (accL (bal3 [h])) [] (tk3 k) (2, j, n, none, 0, 0) = accL (bal3 [h]) ∧ ∀ tr, doV (accL (bal3 [h])) [] (tk3 k) tr (2, j, n, none, 0, 0) = [] := by
  have c : ¬ (tk3 k).cap < n := by rw [tk3_cap]; exact hov
  have e0 := sp_tr (j := j) h0 h1 n0 n1 hj
  rw [if_pos hf] at e0
  have e1 : spnE (accL (bal3 [h])) [] (tk3 k) (2, j, n, none, 0, 0) = 6 := by unfold spnE; rw [if_neg c]; exact e0
  refine ⟨e1, ?_, fun tr => ?_⟩
  · show spnA _ _ _ _ = _; unfold spnA; rw [if_neg c]; show transA _ _ _ _ _ = _; unfold transA; rw [e0]; rfl
  · show spnV _ _ _ _ = _; unfold spnV; rw [e1]; rfl
theorem sp_ok {k : Nat} (hov : ¬ capOf k < n) (h0 : 0 ≤ h) (h1 : h ≤ 1023) (n0 : 0 ≤ n) (n1 : n ≤ 6000) (hj : j < 10) (hf : ¬ 100 + h < n) : doE (accL (bal3 [h])) [] (tk3 k) (2, j, n, none, 0, 0) = 0 ∧ doA (accL (bal3 [h])) [] (tk3 k) (2, j, n, none, 0, 0) = giveA (spendA (accL (bal3 [h])) 0 n) j n ∧ ∀ tr, doV (accL (bal3 [h])) [] (tk3 k) tr (2, j, n, none, 0, 0) = [(3, (j : Int), n)] := by
  have c : ¬ (tk3 k).cap < n := by rw [tk3_cap]; exact hov
  have e0 := sp_tr (j := j) h0 h1 n0 n1 hj
  rw [if_neg hf] at e0
  have e1 : spnE (accL (bal3 [h])) [] (tk3 k) (2, j, n, none, 0, 0) = 0 := by unfold spnE; rw [if_neg c]; exact e0
  refine ⟨e1, ?_, fun tr => ?_⟩
  · show spnA _ _ _ _ = _; unfold spnA; rw [if_neg c]; show transA _ _ _ _ _ = _; unfold transA; rw [if_pos e0]; rfl
  · show spnV _ _ _ _ = _; unfold spnV; rw [e1]; rfl
theorem was_at (hj : j < 10) : (accOf (accL (bal3 [h])) j).1 = if j = 0 then 100 + h else 100 := by
  rw [accOf, if_pos (by unfold isAcc; omega), Int.toNat_natCast, bal_at h hj]
theorem is_at (hj : j < 10) (h0 : j ≠ 0) : (accOf (giveA (spendA (accL (bal3 [h])) 0 n) j n) j).1 = 100 + n ∧ (accOf (giveA (spendA (accL (bal3 [h])) 0 n) j n) 0).1 = 100 + h - n := by
  have e0 : accOf (giveA (spendA (accL (bal3 [h])) 0 n) j n) j = giveA (spendA (accL (bal3 [h])) 0 n) j n j := by rw [accOf, if_pos (by unfold isAcc; omega), Int.toNat_natCast]
  have e1 : accOf (giveA (spendA (accL (bal3 [h])) 0 n) j n) 0 = giveA (spendA (accL (bal3 [h])) 0 n) j n 0 := by rw [accOf, if_pos (by decide)]; rfl
  rw [e0, e1]
  unfold giveA spendA
  rw [upd_same, upd_other _ _ (fun e => h0 e.symm), show (0 : Int).toNat = 0 from rfl, upd_same, upd_other _ _ h0, bal_at h hj, bal_at h (show 0 < 10 by omega), if_neg h0]
  exact ⟨rfl, rfl⟩
theorem is_at0 : (accOf (giveA (spendA (accL (bal3 [h])) 0 n) 0 n) 0).1 = 100 + h := by
  have e1 : accOf (giveA (spendA (accL (bal3 [h])) 0 n) 0 n) 0 = giveA (spendA (accL (bal3 [h])) 0 n) 0 n 0 := by rw [accOf, if_pos (by decide)]; rfl
  rw [e1]
  unfold giveA spendA
  rw [upd_same, show (0 : Int).toNat = 0 from rfl, upd_same, bal_at h (show 0 < 10 by omega)]
  show 100 + h - n + n = 100 + h
  omega
end
end Go.Proofs.YtfgkaookgfghoaaGreat
end

section
namespace Go.Proofs.YtfgkaookgfghoaaGreat
open Go.RowKit Go.Maps Go.Shelf
set_option linter.unusedVariables false
set_option linter.unusedSimpArgs false

/-- A call that is no batch. -/
def lf (a b c : Int) : Lf := (a, b, c, none, 0, 0)
/-- A row of calls. -/
def bt (b m cap : Nat) : Lf := (5, 0, 0, some ⟨b, 0, none⟩, m, cap)
theorem lf_rd (w : World) (d : Nat) (a b c : Int) : RdC w (d + 1) (.agg (lfL (lf a b c)).toArray) (.mk a b c []) := ⟨none, 0, rfl, fun i hi => absurd hi (Nat.not_lt_zero i)⟩
theorem lf_ok {a b c : Int} (h : leafOk a b c 0) (ha : a ≠ 5) (dp : Nat) : okC dp (.mk a b c []) = true := by
  rw [okC_n5 (show (Cl.mk a b c []).k ≠ 5 from ha)]
  exact decide_eq_true h
theorem lf_sg (G : FP) (w : World) (d : Nat) {a b c : Int} (ha : a ≠ 5) : Sg G w (d + 1) (lf a b c) [lf a b c] := .inl ⟨ha, rfl⟩
theorem row_at {w : World} {b : Nat} {ks : List Lf} (hr : w.rangeAt b 0 (callR.all ks)) {i : Nat} (hi : i < ks.length) : w.rangeAt b (0 + i * 4) (lfL ks[i]) := fun j u hj => by
  have hj4 : j < 4 := by have := (List.getElem?_eq_some_iff.1 hj).1; simpa [lfL] using this
  have := hr (i * 4 + j) u (by rw [show i * 4 + j = i * callR.k + j from rfl, callR.all_at hi hj4]; exact hj)
  rwa [← Nat.add_assoc] at this
/-- A batch of what lies in a row. -/
theorem bt_mk {w : World} {b cap d dc dp : Nat} {G : FP} {ks : List Lf} {cs : List Cl} {yss : List (List Lf)} (hr : w.rangeAt b 0 (callR.all ks)) (hb : b < w.heap.size) (hl1 : cs.length = ks.length) (hl2 : yss.length = ks.length) (h1 : 1 ≤ ks.length) (h4 : ks.length ≤ 4)
    (hk : ∀ i (hi : i < ks.length), RdC w dc (.agg (lfL ks[i]).toArray) (cs[i]'(by omega)) ∧ okC dp (cs[i]'(by omega)) = true ∧ Sg G w d ks[i] (yss[i]'(by omega))) (hG : G b) :
    RdC w (dc + 1) (.agg (lfL (bt b ks.length cap)).toArray) (.mk 5 0 0 cs) ∧ okC (dp + 1) (.mk 5 0 0 cs) = true ∧ Sg G w (d + 1) (bt b ks.length cap) yss.flatten := by
  refine ⟨⟨some ⟨b, 0, none⟩, cap, ?_, fun i hi => ?_⟩, ?_, .inr ⟨rfl, by show ks.length ≤ 1000; omega, yss, hl2, rfl, fun i hi => ?_⟩⟩
  · show Value.agg #[.int .i64 5, .int .i64 0, .int .i64 0, .slice (some ⟨b, 0, none⟩) ks.length cap] = .agg #[.int .i64 5, .int .i64 0, .int .i64 0, .slice (some ⟨b, 0, none⟩) cs.length cap]
    rw [hl1]
  · have hi' : i < ks.length := by rw [← hl1]; exact hi
    exact ⟨b, 0, lfL ks[i], rfl, hb, row_at hr hi', (hk i hi').1⟩
  · rw [okC_5 (show (Cl.mk 5 0 0 cs).k = 5 from rfl)]
    have e1 : headOk (.mk 5 0 0 cs) = true := by
      unfold headOk
      have : decide (1 ≤ cs.length ∧ cs.length ≤ 4) = true := decide_eq_true (by omega)
      show (((5 : Int) == 5 && (0 : Int) == 0) && (0 : Int) == 0 && decide (1 ≤ cs.length ∧ cs.length ≤ 4)) = true
      rw [this]; rfl
    show (headOk (.mk 5 0 0 cs) && cs.all (okC dp)) = true
    rw [e1, Bool.true_and, List.all_eq_true]
    intro c hc
    obtain ⟨i, hi, rfl⟩ := List.mem_iff_getElem.1 hc
    exact (hk i (by rw [← hl1]; exact hi)).2.1
  · have hi' : i < ks.length := by rw [← hl2]; exact hi
    exact ⟨b, 0, ks[i], rfl, hG, row_at hr hi', (hk i hi').2.2⟩
/-- Any call, done. -/
theorem Do_any {N p g gl vb r d dc : Nat} {F G : FP} {A : Acc} {w : World} {x : Lf} {xs : List Lf} {c : Cl} (h : PrAt N p g gl vb r F A w) (hN : N ≤ w.heap.size) {k : Nat} (hk : k < 3) (now : Int) (hrd : RdC w dc (.agg (lfL x).toArray) c) (hok : okC 3 c = true) (hsg : Sg G w d x xs)
    (hG : ∀ k, G k → k < w.heap.size ∧ k ≠ g) (hxs : ∀ y ∈ xs, y.1 = 1 ∨ y.1 = 2) (hlen : xs.length ≤ 100000) :
    Calls Tryz.prog 8 #[.pointer (some ⟨g, 0, none⟩), .pointer (some ⟨vb, 0, none⟩), .pointer (some ⟨r, 0, none⟩), .agg (lfL x).toArray, .int .i64 k, .int .i64 now] w fun e w' =>
      ∃ u E pre, e = .returned (.tuple #[u, .int .i64 E]) ∧ pre <+: xs ∧ OwnR evR w.heap.size u (fV [] (tk3 k) k A pre) w' ∧ PrAt N p g gl vb r F (fA [] (tk3 k) A pre) w' ∧ Below N w w' ∧ Off g w w' ∧
        ((pre = xs ∧ fOk [] (tk3 k) A xs ∧ E = 0) ∨ ∃ q y, pre = q ++ [y] ∧ fOk [] (tk3 k) A q ∧ E = doE (fA [] (tk3 k) A q) [] (tk3 k) y ∧ E ≠ 0) := by
  have := act_Do (r := r) (vb := vb) (ts := [tkA, tkB, tkC]) (F := F) (G := G) h.ld hN h.re (fun k hk => (h.fg k hk).1) (k := k) hk now hrd hok hsg hG hxs hlen
  rw [tk3_at hk] at this
  refine this.mono ?_
  rintro e w' ⟨u, E, pre, rfl, hpre, ho, hl, hb, hof, hcase⟩
  exact ⟨u, E, pre, rfl, hpre, ho, h.ledger hl hof hb.size, hb, hof, hcase⟩

/-- Account 1 has got so much of account 0. -/
def bk (s : Int) : Acc := giveA (spendA (accL (bal3 [])) 0 s) 1 s
theorem bal_nil {k : Nat} (hk : k < 10) : accL (bal3 []) k = (100, 0) := by
  have e : (bal3 []).getD k 0 = balF [] k := by simp [bal3, List.getD_eq_getElem?_getD, hk]
  unfold accL
  rw [e]
  rfl
theorem bk0 (s : Int) : bk s 0 = (100 - s, 0) := by
  unfold bk giveA
  rw [upd_other _ _ (by decide), spendA, show (0 : Int).toNat = 0 from rfl, upd_same, bal_nil (by omega)]
theorem bk1 (s : Int) : bk s 1 = (100 + s, 0) := by
  unfold bk giveA
  rw [upd_same, spendA, show (0 : Int).toNat = 0 from rfl, upd_other _ _ (by decide), bal_nil (by omega)]
theorem bkk (s : Int) {k : Nat} (h0 : k ≠ 0) (h1 : k ≠ 1) : bk s k = accL (bal3 []) k := by
  unfold bk giveA
  rw [upd_other _ _ h1, spendA, show (0 : Int).toNat = 0 from rfl, upd_other _ _ h0]
theorem bk_zero : bk 0 = accL (bal3 []) := by
  funext k
  by_cases h0 : k = 0
  · subst h0; rw [bk0, bal_nil (by omega)]; rfl
  · by_cases h1 : k = 1
    · subst h1; rw [bk1, bal_nil (by omega)]; rfl
    · exact bkk 0 h0 h1
theorem bk_step (s n : Int) : giveA (spendA (bk s) 0 n) 1 n = bk (s + n) := by
  funext k
  by_cases h0 : k = 0
  · subst h0
    unfold giveA
    rw [upd_other _ _ (by decide), spendA, show (0 : Int).toNat = 0 from rfl, upd_same, bk0, bk0]
    simp only [Prod.mk.injEq, and_true]; omega
  · by_cases h1 : k = 1
    · subst h1
      unfold giveA
      rw [upd_same, spendA, show (0 : Int).toNat = 0 from rfl, upd_other _ _ (by decide), bk1, bk1]
      simp only [Prod.mk.injEq, and_true]; omega
    · unfold giveA
      rw [upd_other _ _ h1, spendA, show (0 : Int).toNat = 0 from rfl, upd_other _ _ h0, bkk _ h0 h1, bkk _ h0 h1]
/-- A spend of a little, to account 1. -/
theorem bk_do {s n : Int} (hs : 0 ≤ s) (hn : 0 ≤ n) (hn7 : n ≤ 7) (hsum : s + n ≤ 100) (tr : Int) : doE (bk s) [] (tk3 1) (lf 2 1 n) = 0 ∧ doA (bk s) [] (tk3 1) (lf 2 1 n) = bk (s + n) ∧ doV (bk s) [] (tk3 1) tr (lf 2 1 n) = [(3, 1, n)] := by
  have c : ¬ (tk3 1).cap < n := by show ¬ (50 : Int) < n; omega
  have e0 : transE (bk s) [] 0 1 n = 0 := by
    rw [transE, if_pos (by decide)]
    unfold spendE
    rw [if_neg (by have : isBal n := (by unfold isBal; omega); simp [this, show isAcc 0 by decide]), show (0 : Int).toNat = 0 from rfl, bk0, lockNil, if_neg (by simp only; omega), if_neg (by simp only; omega)]
  have e1 : spnE (bk s) [] (tk3 1) (lf 2 1 n) = 0 := by unfold spnE; rw [if_neg (show ¬ (tk3 1).cap < (lf 2 1 n).2.2.1 from c)]; exact e0
  refine ⟨e1, ?_, ?_⟩
  · show spnA _ _ _ _ = _
    unfold spnA
    rw [if_neg (show ¬ (tk3 1).cap < (lf 2 1 n).2.2.1 from c)]
    show transA _ _ _ 1 n = _
    unfold transA
    rw [if_pos e0]
    exact bk_step s n
  · show spnV _ _ _ _ = _; unfold spnV; rw [e1]; rfl
theorem bk_bad (s : Int) (tr : Int) : doE (bk s) [] (tk3 1) (lf 2 1 51) = 10 ∧ doA (bk s) [] (tk3 1) (lf 2 1 51) = bk s ∧ doV (bk s) [] (tk3 1) tr (lf 2 1 51) = [] := ⟨rfl, rfl, rfl⟩
def sumI (ns : List Int) : Int := ns.sum
/-- Spends of a little each. -/
theorem bk_all (tr : Int) : ∀ (ns : List Int) (s : Int), 0 ≤ s → (∀ n ∈ ns, 0 ≤ n ∧ n ≤ 7) → s + 7 * ns.length ≤ 100 → fOk [] (tk3 1) (bk s) (ns.map (lf 2 1)) ∧ fA [] (tk3 1) (bk s) (ns.map (lf 2 1)) = bk (s + ns.sum) ∧ (fV [] (tk3 1) tr (bk s) (ns.map (lf 2 1))).length = ns.length
  | [], s, _, _, _ => ⟨trivial, by simp [fA], rfl⟩
  | n :: ns, s, hs, hn, hl => by
    obtain ⟨a1, a2⟩ := hn n (by simp)
    rw [List.length_cons] at hl
    obtain ⟨e1, e2, e3⟩ := bk_do hs a1 a2 (by omega) tr
    obtain ⟨i1, i2, i3⟩ := bk_all tr ns (s + n) (by omega) (fun m hm => hn m (List.mem_cons_of_mem _ hm)) (by omega)
    refine ⟨⟨e1, ?_⟩, ?_, ?_⟩
    · rw [e2]; exact i1
    · show fA [] (tk3 1) (doA (bk s) [] (tk3 1) (lf 2 1 n)) (ns.map (lf 2 1)) = _
      rw [e2, i2, List.sum_cons, Int.add_assoc]
    · show (doV (bk s) [] (tk3 1) tr (lf 2 1 n) ++ fV [] (tk3 1) tr (doA (bk s) [] (tk3 1) (lf 2 1 n)) (ns.map (lf 2 1))).length = _
      rw [e2, e3, List.length_append, i3, List.length_cons]
      simp; omega
end Go.Proofs.YtfgkaookgfghoaaGreat
end

section
namespace Go.Proofs.YtfgkaookgfghoaaGreat
open Go.RowKit Go.Maps Go.Shelf
set_option linter.unusedVariables false
set_option linter.unusedSimpArgs false

theorem and7 (x : Int) : ∃ z : Int, bits .and .i64 x 7 = z ∧ 0 ≤ z ∧ z ≤ 7 := by
  refine ⟨(BitVec.ofInt 64 x &&& BitVec.ofInt 64 7).toNat, ?_, by omega, ?_⟩
  · have h7 : (BitVec.ofInt 64 x &&& BitVec.ofInt 64 7).toNat ≤ 7 := by
      rw [BitVec.toNat_and]
      exact Nat.le_trans Nat.and_le_right (by decide)
    show IntKind.i64.wrap ((BitVec.ofInt 64 x &&& BitVec.ofInt 64 7).toNat : Int) = _
    exact IntWalk.i64_in _ (by omega)
  · have h7 : (BitVec.ofInt 64 x &&& BitVec.ofInt 64 7).toNat ≤ 7 := by
      rw [BitVec.toNat_and]
      exact Nat.le_trans Nat.and_le_right (by decide)
    omega
/-- What lies in the law's batch behind some rounds. -/
def KidsAt (bd k : Nat) (ks : List Lf) (want : Int) : Prop :=
  ∃ zs : List Int, (∀ z ∈ zs, 0 ≤ z ∧ z ≤ 7) ∧ want = zs.sum ∧ ((k ≤ bd ∧ ks = zs.map (lf 2 1) ∧ zs.length = k) ∨
    (bd < k ∧ zs.length = bd ∧ ∃ rest : List Int, (∀ z ∈ rest, 0 ≤ z ∧ z ≤ 7) ∧ ks = zs.map (lf 2 1) ++ lf 2 1 51 :: rest.map (lf 2 1) ∧ bd + 1 + rest.length = k))
theorem sum_small : ∀ {zs : List Int}, (∀ z ∈ zs, 0 ≤ z ∧ z ≤ 7) → 0 ≤ zs.sum ∧ zs.sum ≤ 7 * zs.length
  | [], _ => by simp
  | z :: zs, h => by
    have h1 := h z (by simp)
    have h2 := sum_small (fun y hy => h y (List.mem_cons_of_mem _ hy))
    rw [List.sum_cons, List.length_cons]; omega
section
variable {bd k : Nat} {ks : List Lf} {want z : Int}
theorem KidsAt.start (bd : Nat) : KidsAt bd 0 [] 0 := ⟨[], by simp, rfl, .inl ⟨Nat.zero_le _, rfl, rfl⟩⟩
theorem KidsAt.len (h : KidsAt bd k ks want) : ks.length = k := by
  obtain ⟨zs, -, -, (⟨-, rfl, h⟩ | ⟨-, h, rest, -, rfl, h2⟩)⟩ := h
  · rw [List.length_map, h]
  · rw [List.length_append, List.length_cons, List.length_map, List.length_map, h]; omega
theorem KidsAt.leaf (h : KidsAt bd k ks want) : ∀ y ∈ ks, ∃ z, y = lf 2 1 z ∧ 0 ≤ z ∧ z ≤ 51 := by
  obtain ⟨zs, hz, -, (⟨-, rfl, h⟩ | ⟨-, h, rest, hr, rfl, h2⟩)⟩ := h
  · intro y hy
    obtain ⟨z, hz1, rfl⟩ := List.mem_map.1 hy
    have := hz z hz1
    exact ⟨z, rfl, by omega, by omega⟩
  · intro y hy
    rcases List.mem_append.1 hy with hy | hy
    · obtain ⟨z, hz1, rfl⟩ := List.mem_map.1 hy
      have := hz z hz1
      exact ⟨z, rfl, by omega, by omega⟩
    · rcases List.mem_cons.1 hy with rfl | hy
      · exact ⟨51, rfl, by omega, by omega⟩
      · obtain ⟨z, hz1, rfl⟩ := List.mem_map.1 hy
        have := hr z hz1
        exact ⟨z, rfl, by omega, by omega⟩
theorem KidsAt.wantB (h : KidsAt bd k ks want) (hk : k ≤ 4) : 0 ≤ want ∧ want ≤ 28 := by
  obtain ⟨zs, hz, rfl, h⟩ := h
  have := sum_small hz
  have hl : zs.length ≤ 4 := by rcases h with ⟨-, -, h⟩ | ⟨h1, h2, -⟩ <;> omega
  omega
theorem KidsAt.bad (h : KidsAt bd k ks want) (e : k = bd) : KidsAt bd (k + 1) (ks ++ [lf 2 1 51]) want := by
  obtain ⟨zs, hz, hw, (⟨-, rfl, h⟩ | ⟨h, -⟩)⟩ := h
  · exact ⟨zs, hz, hw, .inr ⟨by omega, by omega, [], by simp, by simp, by simp; omega⟩⟩
  · omega
theorem KidsAt.more (h : KidsAt bd k ks want) (e : k < bd) (h0 : 0 ≤ z) (h7 : z ≤ 7) : KidsAt bd (k + 1) (ks ++ [lf 2 1 z]) (want + z) := by
  obtain ⟨zs, hz, rfl, (⟨-, rfl, h⟩ | ⟨h, -⟩)⟩ := h
  · refine ⟨zs ++ [z], fun y hy => ?_, by simp, .inl ⟨by omega, by simp, by simp [h]⟩⟩
    rcases List.mem_append.1 hy with hy | hy
    · exact hz y hy
    · rw [List.mem_singleton.1 hy]; exact ⟨h0, h7⟩
  · omega
theorem KidsAt.past (h : KidsAt bd k ks want) (e : bd < k) (h0 : 0 ≤ z) (h7 : z ≤ 7) : KidsAt bd (k + 1) (ks ++ [lf 2 1 z]) want := by
  obtain ⟨zs, hz, hw, (⟨h, -⟩ | ⟨-, hl, rest, hr, rfl, h2⟩)⟩ := h
  · omega
  · refine ⟨zs, hz, hw, .inr ⟨by omega, hl, rest ++ [z], fun y hy => ?_, by simp, by simp; omega⟩⟩
    rcases List.mem_append.1 hy with hy | hy
    · exact hr y hy
    · rw [List.mem_singleton.1 hy]; exact ⟨h0, h7⟩
end
section
variable {M : Cls Int} {t : Trk}
theorem fOk_append : ∀ (A : Acc) (a b : List Lf), fOk M t A (a ++ b) ↔ fOk M t A a ∧ fOk M t (fA M t A a) b
  | _, [], _ => by simp [fOk, fA]
  | A, x :: a, b => by
    show doE A M t x = 0 ∧ fOk M t _ (a ++ b) ↔ (doE A M t x = 0 ∧ fOk M t _ a) ∧ _
    rw [fOk_append _ a b, and_assoc]; rfl
theorem end_ok {A : Acc} {xs pre : List Lf} {E : Int} (hpre : pre <+: xs) (hc : (pre = xs ∧ fOk M t A xs ∧ E = 0) ∨ ∃ q y, pre = q ++ [y] ∧ fOk M t A q ∧ E = doE (fA M t A q) M t y ∧ E ≠ 0) (hok : fOk M t A xs) : pre = xs ∧ E = 0 := by
  rcases hc with ⟨h1, -, h2⟩ | ⟨q, y, rfl, -, h2, h3⟩
  · exact ⟨h1, h2⟩
  · obtain ⟨s, rfl⟩ := hpre
    have := ((fOk_append A _ s).1 hok).1
    rw [fOk_snoc] at this
    exact absurd (h2.trans this.2) h3
theorem end_bad {A : Acc} {a b pre : List Lf} {y : Lf} {E : Int} (hpre : pre <+: a ++ y :: b) (hc : (pre = a ++ y :: b ∧ fOk M t A (a ++ y :: b) ∧ E = 0) ∨ ∃ q z, pre = q ++ [z] ∧ fOk M t A q ∧ E = doE (fA M t A q) M t z ∧ E ≠ 0) (ha : fOk M t A a) (hy : doE (fA M t A a) M t y ≠ 0) : pre = a ++ [y] ∧ E = doE (fA M t A a) M t y := by
  have hay : a ++ [y] <+: a ++ y :: b := ⟨b, by simp⟩
  rcases hc with ⟨-, h1, -⟩ | ⟨q, z, rfl, h1, h2, h3⟩
  · exact absurd ((fOk_append A a (y :: b)).1 h1).2.1 hy
  · rcases Nat.lt_trichotomy q.length a.length with hl | hl | hl
    · have : q ++ [z] <+: a := List.prefix_of_prefix_length_le hpre (List.prefix_append a _) (by simp; omega)
      obtain ⟨s, hs⟩ := this
      rw [← hs] at ha
      have := ((fOk_append A _ s).1 ha).1
      rw [fOk_snoc] at this
      exact absurd (h2.trans this.2) h3
    · have h4 : q ++ [z] <+: a ++ [y] := List.prefix_of_prefix_length_le hpre hay (by simp; omega)
      have h5 : q ++ [z] = a ++ [y] := h4.eq_of_length (by simp; omega)
      obtain ⟨h6, h7⟩ := List.append_inj h5 hl
      subst h6
      injection h7 with h7
      subst h7
      exact ⟨rfl, h2⟩
    · have : a ++ [y] <+: q := List.prefix_of_prefix_length_le hay (List.IsPrefix.trans (List.prefix_append q _) hpre) (by simp; omega)
      obtain ⟨s, hs⟩ := this
      rw [← hs] at h1
      have := ((fOk_append A _ s).1 h1).1
      rw [fOk_snoc] at this
      exact absurd this.2 hy
end
theorem flat1 : ∀ ks : List Lf, (ks.map (fun y => [y])).flatten = ks
  | [] => rfl
  | k :: ks => by rw [List.map_cons, List.flatten_cons, flat1 ks]; rfl
/-- A row of spends, as a batch. -/
theorem spends_mk {w : World} {b cap : Nat} {ks : List Lf} (hr : w.rangeAt b 0 (callR.all ks)) (hb : b < w.heap.size) (h1 : 1 ≤ ks.length) (h4 : ks.length ≤ 4) (hk : ∀ y ∈ ks, ∃ z, y = lf 2 1 z ∧ 0 ≤ z ∧ z ≤ 51) :
    ∃ c, RdC w 2 (.agg (lfL (bt b ks.length cap)).toArray) c ∧ okC 3 c = true ∧ Sg (fun j => j = b) w 2 (bt b ks.length cap) ks := by
  have := bt_mk (cap := cap) (d := 1) (dc := 1) (dp := 2) (G := fun j => j = b) (cs := ks.map (fun y => Cl.mk y.1 y.2.1 y.2.2.1 [])) (yss := ks.map (fun y => [y])) hr hb (by simp) (by simp) h1 h4 (fun i hi => by
    obtain ⟨z, hz, h0, h51⟩ := hk _ (List.getElem_mem hi)
    rw [List.getElem_map, List.getElem_map, hz]
    exact ⟨lf_rd w 0 2 1 z, lf_ok (a := 2) (b := 1) (c := z) (.inr (.inl ⟨rfl, ⟨by decide, by decide⟩, ⟨h0, by omega⟩, rfl⟩)) (by decide) 2, lf_sg _ w 0 (by decide)⟩) rfl
  rw [flat1] at this
  exact ⟨_, this⟩
/-- What the law's batch does. -/
theorem KidsAt.done {bd L : Nat} {ks : List Lf} {want : Int} (h : KidsAt bd L ks want) (hL : L ≤ 4) {pre : List Lf} {E : Int} (hpre : pre <+: ks) (tr : Int) (hc : (pre = ks ∧ fOk [] (tk3 1) (bk 0) ks ∧ E = 0) ∨ ∃ q y, pre = q ++ [y] ∧ fOk [] (tk3 1) (bk 0) q ∧ E = doE (fA [] (tk3 1) (bk 0) q) [] (tk3 1) y ∧ E ≠ 0) :
    fA [] (tk3 1) (bk 0) pre = bk want ∧ ((L ≤ bd ∧ E = 0 ∧ (fV [] (tk3 1) tr (bk 0) pre).length = L) ∨ (bd < L ∧ E = 10 ∧ (fV [] (tk3 1) tr (bk 0) pre).length = bd)) := by
  obtain ⟨zs, hz, rfl, (⟨hle, rfl, hl⟩ | ⟨hlt, hl, rest, -, rfl, h2⟩)⟩ := h
  · obtain ⟨a1, a2, a3⟩ := bk_all tr zs 0 (by omega) hz (by omega)
    obtain ⟨rfl, rfl⟩ := end_ok hpre hc a1
    rw [a2, Int.zero_add]
    exact ⟨rfl, .inl ⟨hle, rfl, by rw [a3, hl]⟩⟩
  · obtain ⟨a1, a2, a3⟩ := bk_all tr zs 0 (by omega) hz (by omega)
    rw [Int.zero_add] at a2
    obtain ⟨b1, b2, b3⟩ := bk_bad zs.sum tr
    obtain ⟨rfl, rfl⟩ := end_bad hpre hc a1 (by rw [a2, b1]; decide)
    rw [fA_snoc, fV_snoc, List.length_append, a2, a3, b1, b2, b3, hl]
    exact ⟨rfl, .inr ⟨hlt, rfl, rfl⟩⟩
theorem ownC {B : Nat} {ao : Option Addr} {n cap : Nat} {ks : List Lf} {w : World} (h : OwnR callR B (.slice ao n cap) ks w) (h1 : 1 ≤ ks.length) : ∃ b, ao = some ⟨b, 0, none⟩ ∧ B ≤ b ∧ b < w.heap.size ∧ w.rangeAt b 0 (callR.all ks) := by
  have h0 := h
  rcases h.2 with ⟨-, h2⟩ | ⟨g, c', cur, e, hb, hg, -⟩
  · omega
  · injection e with e1 e2 e3
    subst e1
    refine ⟨g, rfl, hb, (h0.block rfl).2, ?_⟩
    rcases h0.reads with ⟨e, -⟩ | ⟨b', o', c'', e, -, -, hr⟩
    · cases e
    · injection e with e1 e2 e3
      injection e1 with e1
      injection e1 with e4 e5
      subst e4 e5
      exact hr
/-- A batch of the call's own, in its place. -/
structure BatAt (w1 : World) (cb : Nat) (ks : List Lf) (u : Value) (w : World) : Prop where
  blk : w.heap[cb]? = some (.cells #[.int .i64 5, .int .i64 0, .int .i64 0, u] 40 (0, 0))
  own : OwnR callR (cb + 1) u ks w
  old : Below w1.heap.size w1 w
  lo : w1.heap.size ≤ cb
section
variable {w1 w w3 : World} {cb : Nat} {ks : List Lf} {u u' : Value} {y : Lf}
theorem BatAt.lt (h : BatAt w1 cb ks u w) : cb < w.heap.size := (Array.getElem?_eq_some_iff.1 h.blk).1
theorem BatAt.cells (h : BatAt w1 cb ks u w) : w.cell? ⟨cb, 0, none⟩ = some (.int .i64 5) ∧ w.cell? ⟨cb, 1, none⟩ = some (.int .i64 0) ∧ w.cell? ⟨cb, 2, none⟩ = some (.int .i64 0) ∧ w.cell? ⟨cb, 3, none⟩ = some u ∧ w.frozen? ⟨cb, 3, none⟩ = false :=
  ⟨by rw [World.cell?, h.blk]; rfl, by rw [World.cell?, h.blk]; rfl, by rw [World.cell?, h.blk]; rfl, by rw [World.cell?, h.blk]; rfl, by simp [World.frozen?, h.blk]⟩
theorem BatAt.start (w1 : World) : BatAt w1 w1.heap.size [] (.slice none 0 0) (w1.alloc (.cells #[.int .i64 5, .int .i64 0, .int .i64 0, .slice none 0 0] 40)) :=
  ⟨World.alloc_heap_new _ _, OwnR.nil _ _, (Below.refl _ _).alloc (Nat.le_refl _) _, Nat.le_refl _⟩
theorem BatAt.below {w' : World} (h : BatAt w1 cb ks u w) (hb : Below w.heap.size w w') : BatAt w1 cb ks u w' :=
  ⟨(hb.block cb h.lt).trans h.blk, h.own.of (Nat.le_refl _) (fun k hk => hb.block k (h.own.block hk).2), h.old.trans (hb.mono h.old.size), h.lo⟩
/-- .. behind an append, ahead of its store. -/
theorem BatAt.mid {o : Obj} (h : BatAt w1 cb ks u w) (hg : (w.alloc o).grownBy w3 u.ownBlock) : w3.cell? ⟨cb, 3, none⟩ = some u ∧ w3.frozen? ⟨cb, 3, none⟩ = false ∧ w3.heap[cb]? = some (.cells #[.int .i64 5, .int .i64 0, .int .i64 0, u] 40 (0, 0)) := by
  have e : w3.heap[cb]? = some (.cells #[.int .i64 5, .int .i64 0, .int .i64 0, u] 40 (0, 0)) := by
    rw [hg.block cb (by rw [World.size_alloc]; have := h.lt; omega) (fun e => by have := (h.own.block e.symm).1; omega), Below.heap_alloc _ _ _ h.lt]
    exact h.blk
  exact ⟨by rw [World.cell?, e]; rfl, by simp [World.frozen?, e], e⟩
theorem BatAt.step {o : Obj} (h : BatAt w1 cb ks u w) (hg : (w.alloc o).grownBy w3 u.ownBlock) (ho : OwnR callR (cb + 1) u' (ks ++ [y]) w3) : BatAt w1 cb (ks ++ [y]) u' (w3.setCell ⟨cb, 3, none⟩ u') := by
  have e := (h.mid hg).2.2
  have hs : Below w1.heap.size w1 w3 := Below.grown (h.old.alloc h.old.size _) hg (by rw [World.size_alloc]; have := h.old.size; omega) (fun k hk => by have := (h.own.block hk).1; have := h.lo; omega)
  refine ⟨by simp [World.setCell, Array.getElem?_modify, e], ho.of (Nat.le_refl _) (fun k hk => Below.heap_setCell _ _ _ k (by have := (ho.block hk).1; show k ≠ cb; omega)), hs.trans ⟨rfl, rfl, rfl, by simp [World.setCell], fun k hk => Below.heap_setCell _ _ _ k (by have := h.lo; show k ≠ cb; omega)⟩, h.lo⟩
end
end Go.Proofs.YtfgkaookgfghoaaGreat
end
