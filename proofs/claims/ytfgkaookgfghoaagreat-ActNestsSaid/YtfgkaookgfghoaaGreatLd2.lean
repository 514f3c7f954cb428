/-
  Ledgers: Issued; row; Locked.
-/
import Derived.Test.YtfgkaookgfghoaaGreatLd1
import Derived.Test.YtfgkaookgfghoaaGreatStopK
import Derived.BigRegion
import Derived.RegionTactic
import Derived.Shelf.Abstract
import Derived.Shelf.RegionOpen
import Derived.LoopNIn
import Derived.LoopIn
namespace Go.Proofs.YtfgkaookgfghoaaGreat
open Go.RowKit Go.Maps Go.Shelf
attribute [local go_sem] Oper.semAt_some
set_option linter.unusedVariables false
set_option linter.unusedSimpArgs false

theorem wpl_index {P : Program} {w : World} {ops : Array Oper} {rest : List Oper} {o : Oper} {a : Act} {Q : Exit → Act → World → Prop} (hg : o.guard = none) (x i : Operand) (t : TypeId) (hop : o.op = Op.index t x i) {xv iv r : Value} (hx : a.eval x = xv) (hi : a.eval i = iv) (hr : (Instr.index t xv iv).run P w = .ok r w)
    (h : wpList P ops Q rest (a.put o.dst r) w) : wpList P ops Q (o :: rest) a w := by
  refine wpList_plain hg fun K hK => ?_
  unfold Oper.wp
  simp [execOp, hop, hx, hi, hr, Result.andThen]
  exact hK _ _ h
theorem accInfo : (Tryz.prog.info? 84).map (·.size) = some 20 := by kernel_rfl
theorem acc1Info : (Tryz.prog.info? 68).map (·.size) = some 2 := by kernel_rfl
theorem run_acc0 (A : Acc) (w : World) : (Instr.index 84 (.agg (accs A 10).toArray) (.int .i64 0)).run Tryz.prog w = .ok (.agg #[.int .i64 (A 0).1, .int .i64 (A 0).2]) w := by kernel_rfl
theorem run_acc1 (A : Acc) (w : World) : (Instr.index 84 (.agg (accs A 10).toArray) (.int .i64 1)).run Tryz.prog w = .ok (.agg #[.int .i64 (A 1).1, .int .i64 (A 1).2]) w := by kernel_rfl
theorem run_acc2 (A : Acc) (w : World) : (Instr.index 84 (.agg (accs A 10).toArray) (.int .i64 2)).run Tryz.prog w = .ok (.agg #[.int .i64 (A 2).1, .int .i64 (A 2).2]) w := by kernel_rfl
theorem run_acc3 (A : Acc) (w : World) : (Instr.index 84 (.agg (accs A 10).toArray) (.int .i64 3)).run Tryz.prog w = .ok (.agg #[.int .i64 (A 3).1, .int .i64 (A 3).2]) w := by kernel_rfl
theorem run_acc4 (A : Acc) (w : World) : (Instr.index 84 (.agg (accs A 10).toArray) (.int .i64 4)).run Tryz.prog w = .ok (.agg #[.int .i64 (A 4).1, .int .i64 (A 4).2]) w := by kernel_rfl
theorem run_acc5 (A : Acc) (w : World) : (Instr.index 84 (.agg (accs A 10).toArray) (.int .i64 5)).run Tryz.prog w = .ok (.agg #[.int .i64 (A 5).1, .int .i64 (A 5).2]) w := by kernel_rfl
theorem run_acc6 (A : Acc) (w : World) : (Instr.index 84 (.agg (accs A 10).toArray) (.int .i64 6)).run Tryz.prog w = .ok (.agg #[.int .i64 (A 6).1, .int .i64 (A 6).2]) w := by kernel_rfl
theorem run_acc7 (A : Acc) (w : World) : (Instr.index 84 (.agg (accs A 10).toArray) (.int .i64 7)).run Tryz.prog w = .ok (.agg #[.int .i64 (A 7).1, .int .i64 (A 7).2]) w := by kernel_rfl
theorem run_acc8 (A : Acc) (w : World) : (Instr.index 84 (.agg (accs A 10).toArray) (.int .i64 8)).run Tryz.prog w = .ok (.agg #[.int .i64 (A 8).1, .int .i64 (A 8).2]) w := by kernel_rfl
theorem run_acc9 (A : Acc) (w : World) : (Instr.index 84 (.agg (accs A 10).toArray) (.int .i64 9)).run Tryz.prog w = .ok (.agg #[.int .i64 (A 9).1, .int .i64 (A 9).2]) w := by kernel_rfl
theorem run_acc (A : Acc) {k : Nat} (hk : k < 10) (w : World) : (Instr.index 84 (.agg (accs A 10).toArray) (.int .i64 (k : Int))).run Tryz.prog w = .ok (.agg #[.int .i64 (A k).1, .int .i64 (A k).2]) w :=
  match k, hk with
  | 0, _ => run_acc0 A w
  | 1, _ => run_acc1 A w
  | 2, _ => run_acc2 A w
  | 3, _ => run_acc3 A w
  | 4, _ => run_acc4 A w
  | 5, _ => run_acc5 A w
  | 6, _ => run_acc6 A w
  | 7, _ => run_acc7 A w
  | 8, _ => run_acc8 A w
  | 9, _ => run_acc9 A w
set_option maxRecDepth 100000 in
set_option maxHeartbeats 1000000 in
theorem ledger_Issued {N g gl : Nat} {A : Acc} {M : Cls Int} {w : World} (h : LdAt N g gl A M w) : Calls Tryz.prog 26 #[.pointer (some ⟨g, 0, none⟩)] w fun e w' => e = .returned (.int .i64 (sumTo A 10)) ∧ Below w.heap.size w w' := by
  have hrg : w.rangeAt g 0 (accs A 10) := fun i v hv => by
    have hl := accs_len A 10
    have hi := (List.getElem?_eq_some_iff.1 hv).1
    rw [Nat.zero_add]
    refine cell_of h.blk ?_
    unfold lcells
    rw [List.getElem?_append_left hi]; exact hv
  have hok := h.ok
  obtain ⟨cs, hcs⟩ : ∃ cs, cs = (accs A 10).toArray := ⟨_, rfl⟩
  have hix := fun (k : Nat) (hk : k < 10) (w : World) => run_acc A hk w
  rw [← hcs] at hix
  have HRG := Lib.hid hrg
  have HIX := Lib.hid hix
  have HOK := Lib.hid hok
  have HCS := Lib.hid hcs
  clear h hrg hix hok hcs
  go_enter Tryz.func26, Tryz.ntmps26
  go_wp2_with (first
    | (refine wpList_load_mid rfl 84 _ rfl g 0 rfl (accs A 10) _ HRG.out Tryz.underlying84 rfl (by rw [accs_len]; exact accInfo) ?_; rw [← HCS.out])
    | fail)
  have tok1 : True := trivial
  go_loopw [3, 12] (fun s i wr => ∃ k : Nat, k ≤ 10 ∧ i = .int .i64 k ∧ s = .int .i64 (sumTo A k) ∧ Below w.heap.size w wr) (fun _ i _ => 10 - (intOf i).toNat)
  case atStart => exact ⟨0, by omega, rfl, rfl, Below.refl _ w⟩
  case round =>
    obtain ⟨k, hk, rfl, rfl, hb⟩ := hrel
    have HB := Lib.hid hb
    clear hb
    by_cases hlt : k < 10
    · have hlt' : (k : Int) < 10 := by omega
      obtain ⟨p, hp⟩ : ∃ p, p = (A k).1 := ⟨_, rfl⟩
      obtain ⟨q, hq⟩ : ∃ q, q = (A k).2 := ⟨_, rfl⟩
      obtain ⟨s0, hs0⟩ : ∃ s0, s0 = sumTo A k := ⟨_, rfl⟩
      have hix := HIX.out k hlt
      rw [← hp, ← hq] at hix
      have HI := Lib.hid hix
      have hn1 : IntKind.i64.wrap (p + q) = p + q := IntWalk.i64_in _ (by have := HOK.out.one hlt; have := HOK.out.free k; have := HOK.out.held k; unfold both at *; omega)
      have hn2 : IntKind.i64.wrap (s0 + (p + q)) = s0 + (p + q) := IntWalk.i64_in _ (by have := HOK.out.one hlt; have := HOK.out.sum k; have := HOK.out.part (n := k) (by omega); unfold both at *; omega)
      have hs1 : sumTo A (k + 1) = s0 + (p + q) := by rw [sumTo, hs0, hp, hq]; rfl
      have HS1 := Lib.hid hs1
      rw [← hs0]
      clear hix hs1 hp hq hs0
      go_wp2_with (first
        | (refine wpl_index rfl _ _ _ rfl rfl rfl (HI.out _) ?_)
        | fail)
      go_roundw
      case rel => exact ⟨k + 1, by omega, by go_num, by rw [HS1.out], HB.out.trans ((Below.refl _ wr).alloc (Nat.le_refl _) _ |>.mono HB.out.size)⟩
      case measure => simp [intOf]; omega
    · have hge : ¬ (k : Int) < 10 := by omega
      obtain rfl : k = 10 := by omega
      go_wp2_with fail
      exact bodyPost_ret (v := .int .i64 (sumTo A 10)) (by simp [results, Tryz.results26, go_sem]) rfl ⟨rfl, HB.out⟩
end Go.Proofs.YtfgkaookgfghoaaGreat
