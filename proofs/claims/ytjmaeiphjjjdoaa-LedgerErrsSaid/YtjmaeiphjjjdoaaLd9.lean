/-
  The law's known: what is locked stays.
-/
import Derived.Test.YtjmaeiphjjjdoaaLd8
namespace Go.Proofs.Ytjmaeiphjjjdoaa
open Go.RowKit Go.Maps Go.Shelf
set_option linter.unusedVariables false
set_option linter.unusedSimpArgs false

theorem ledger_New_ok {v : Value} {l : List Int} {w : World} (hr : RdI w v l) (hm : l.length ≤ maxLen) (hok : newOk l) : Calls Try.prog 14 #[v] w fun e w' => ∃ g gl, e = .returned (.tuple #[.pointer (some ⟨g, 0, none⟩), .int .i64 0]) ∧ LdAt w.heap.size g gl (accL l) [] w' ∧ Below w.heap.size w w' := by
  refine (ledger_New v l w hr hm).mono ?_
  rintro e w' ⟨hb, ⟨-, g, rfl, gl, hl⟩ | ⟨hno, -⟩⟩
  · exact ⟨g, gl, rfl, hl, hb⟩
  · exact absurd hok hno
theorem ledger_New_bad {v : Value} {l : List Int} {w : World} (hr : RdI w v l) (hm : l.length ≤ maxLen) (hok : ¬ newOk l) : Calls Try.prog 14 #[v] w fun e w' => e = .returned (.tuple #[.pointer none, .int .i64 1]) ∧ Below w.heap.size w w' := by
  refine (ledger_New v l w hr hm).mono ?_
  rintro e w' ⟨hb, ⟨hyes, -⟩ | ⟨-, rfl⟩⟩
  · exact absurd hyes hok
  · exact ⟨rfl, hb⟩
/-- A slice literal's numbers. -/
theorem RdI.lit (w : World) (T : TypeId) (l : List Int) (n : Nat) (hn : l.length = n) : RdI (w.alloc (.cells (l.map (fun n => Value.int .i64 n)).toArray T)) (.slice (some ⟨w.heap.size, 0, none⟩) n n) l := by
  subst hn
  refine .inr ⟨⟨w.heap.size, 0, none⟩, _, rfl, Nat.le_refl _, fun i hi => ?_⟩
  have h := World.alloc_heap_new w (.cells (l.map (fun n => Value.int .i64 n)).toArray T)
  have e : (⟨w.heap.size, 0, none⟩ : Addr).add i = ⟨w.heap.size, i, none⟩ := by rw [Addr.add_mid]; simp
  rw [e]
  refine cell_of h ?_
  simp [hi, List.getD_eq_getElem?_getD]
def M1 : Cls Int := lockM [] 0 1 3
theorem newOk_one {n : Int} (h : isBal n) : newOk [n] := by
  refine ⟨by simp, fun k hk => ?_, ?_⟩
  · have e : k = 0 := by simpa using hk
    subst e; exact h
  · have : sumTo (accL [n]) 10 = n := by simp [sumTo, both, accL]
    rw [this]; exact h.2
theorem known1 : newOk [5] := newOk_one (by decide)
theorem known2 : transE (accL [5]) M1 0 1 3 = 7 := by decide +kernel
theorem known2a : transA (accL [5]) M1 0 1 3 = accL [5] := by unfold transA; rw [known2]; rfl
theorem known3 : transE (accL [5]) M1 0 1 2 = 0 := by decide +kernel
def A52 : Acc := transA (accL [5]) M1 0 1 2
theorem known4 : (accOf A52 0).1 = 3 := by decide +kernel
theorem known5 : sumTo A52 10 = 5 := by decide +kernel
set_option maxRecDepth 100000 in
set_option maxHeartbeats 4000000 in
theorem law_known (w : World) : Calls Try.prog 19 #[] w fun e w' => e = .returned (.bool true) ∧ Below w.heap.size w w' := by
  have hw0 : (Lit.int .i64 0).wf = true := by decide
  have hw1 : (Lit.int .i64 1).wf = true := by decide
  obtain ⟨w0, hw⟩ : ∃ w0, w0 = w.alloc (.cells #[.int .i64 5] 3) := ⟨_, rfl⟩
  have hrd : RdI w0 (.slice (some ⟨w.heap.size, 0, none⟩) 1 1) [5] := by rw [hw]; exact RdI.lit w 3 [5] 1 rfl
  have hb0 : Below w.heap.size w w0 := by rw [hw]; exact (Below.refl _ w).alloc (Nat.le_refl _) _
  have HW := Lib.hid hw
  have H0 := Lib.hid (And.intro hrd hb0)
  clear hw hrd hb0
  go_enter Try.func19, Try.ntmps19
  have tok1 : True := trivial
  go_wp2_with (first
    | (go_at_call 14; rw [← HW.out]; refine (ledger_New_ok H0.out.1 (by decide) known1).mono ?_; rintro e w1 ⟨g, gl, rfl, hl, hb⟩; have H1 := Lib.hid (And.intro hl hb); clear hl hb)
    | (go_at_call 26; refine (ledger_Lock H1.out.1 H1.out.2.size (by decide) hw0 hw1 3).mono ?_; rintro e w2 ⟨rfl, hl, hb⟩; have H2 := Lib.hid (And.intro (show LdAt w0.heap.size g gl (accL [5]) M1 w2 from hl) (H1.out.2.trans hb)); clear hl hb)
    | (go_at_call 22; have _t := tok1; refine (ledger_Transfer H2.out.1 H2.out.2.size hw0 1 3).mono ?_; rw [known2, known2a]; rintro e w3 ⟨rfl, hl, hb⟩; have H3 := Lib.hid (And.intro hl (H2.out.2.trans hb)); clear hl hb tok1)
    | (go_at_call 22; refine (ledger_Transfer H3.out.1 H3.out.2.size hw0 1 2).mono ?_; rw [known3]; rintro e w4 ⟨rfl, hl, hb⟩; have H4 := Lib.hid (And.intro (show LdAt w0.heap.size g gl A52 M1 w4 from hl) (H3.out.2.trans hb)); clear hl hb)
    | (go_at_call 29; refine (ledger_Free H4.out.1 0).mono ?_; rw [known4]; rintro e w5 ⟨rfl, hw⟩; rw [hw]; clear hw w5)
    | (go_at_call 21; refine (ledger_Issued H4.out.1).mono ?_; rw [known5]; rintro e w6 ⟨rfl, hb⟩; have H6 := Lib.hid (H4.out.2.trans (hb.mono H4.out.2.size)); clear hb)
    | fail)
  go_ret
  exact ⟨rfl, H0.out.2.trans (H6.out.mono H0.out.2.size)⟩
end Go.Proofs.Ytjmaeiphjjjdoaa
