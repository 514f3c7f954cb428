/-
  The law LedgerSelf, walked.
-/
import Derived.Test.YtjmaeiphjjjdoaaLdMi
namespace Go.Proofs.Ytjmaeiphjjjdoaa
open Go.RowKit Go.Maps Go.Shelf
set_option linter.unusedVariables false
set_option linter.unusedSimpArgs false

theorem upd_id (A : Acc) (a : Nat) : upd A a (A a) = A := by funext k; by_cases e : k = a; subst e; rw [upd_same]; rw [upd_other A _ e]
theorem upd_upd (A : Acc) (a : Nat) (x y : Int × Int) : upd (upd A a x) a y = upd A a y := by funext k; by_cases e : k = a; subst e; rw [upd_same, upd_same]; rw [upd_other _ _ e, upd_other _ _ e, upd_other _ _ e]
theorem spendA_zero (A : Acc) (a : Int) : spendA A a 0 = A := by unfold spendA; rw [Int.sub_zero]; exact upd_id A _
theorem giveA_zero (A : Acc) (a : Nat) : giveA A a 0 = A := by unfold giveA; rw [Int.add_zero]; exact upd_id A _
theorem give_spend (A : Acc) (a n : Int) : giveA (spendA A a n) a.toNat n = A := by
  unfold giveA spendA
  rw [upd_upd, upd_same]
  simp only [Int.sub_add_cancel]
  exact upd_id A _
theorem newOk_two {n : Int} (h : isBal n) : newOk [0, n] := by
  refine ⟨by simp, fun k hk => ?_, ?_⟩
  · have e : k = 0 ∨ k = 1 := by simp at hk; omega
    rcases e with rfl | rfl
    · show isBal 0; decide
    · exact h
  · have : sumTo (accL [0, n]) 10 = n := by simp [sumTo, both, accL]
    rw [this]; exact h.2
theorem isAcc_at (k : Nat) (h : k < 10) : isAcc k := by unfold isAcc; omega
theorem transE_self (A : Acc) (M : Cls Int) (a n : Int) (ha : isAcc a) : transE A M a a n = if ¬ isBal n then 1 else if (A a.toNat).1 < n then 6 else 0 := by
  unfold transE spendE
  rw [if_pos ha]
  by_cases h : isBal n
  · have c1 : ¬ (¬ isAcc a ∨ ¬ isBal n) := by simp [ha, h]
    have c2 : ¬ ¬ isBal n := by simp [h]
    have c3 : ¬ (0 < n ∧ decide (a = a) = false ∧ (A a.toNat).1 - n < lockedOf M a) := by simp
    rw [if_neg c1, if_neg c2]
    by_cases h2 : (A a.toNat).1 < n
    · rw [if_pos h2, if_pos h2]
    · rw [if_neg h2, if_neg h2, if_neg c3]
  · rw [if_pos (.inr h), if_pos h]
theorem transA_self (A : Acc) (M : Cls Int) (a n : Int) : transA A M a a n = A := by
  unfold transA
  split
  · exact give_spend A a n
  · rfl
theorem spendE_zero {A : Acc} {M : Cls Int} {a : Int} {b : Bool} (ha : isAcc a) (h : 0 ≤ (A a.toNat).1) : spendE A M a 0 b = 0 := by
  unfold spendE
  rw [if_neg (by simp [ha]; decide), if_neg (by omega), if_neg (by omega)]
theorem transE_zero {A : Acc} {M : Cls Int} {a b : Int} (ha : isAcc a) (hb : isAcc b) (h : 0 ≤ (A a.toNat).1) : transE A M a b 0 = 0 := by
  unfold transE; rw [if_pos hb]; exact spendE_zero ha h
theorem transA_zero {A : Acc} {M : Cls Int} {a b : Int} (ha : isAcc a) (hb : isAcc b) (h : 0 ≤ (A a.toNat).1) : transA A M a b 0 = A := by
  unfold transA; rw [transE_zero ha hb h, if_pos rfl, spendA_zero, giveA_zero]
theorem reserveA_zero {A : Acc} {M : Cls Int} {a : Int} (ha : isAcc a) (h : 0 ≤ (A a.toNat).1) : reserveA A M a 0 = A := by
  unfold reserveA; rw [spendE_zero ha h, if_pos rfl, spendA_zero, Int.add_zero]; exact upd_id A _
set_option maxRecDepth 100000 in
set_option maxHeartbeats 4000000 in
theorem ledgerSelf_walk (f lk n : Int) (wf : (Lit.int .i64 f).wf = true) (wl : (Lit.int .i64 lk).wf = true) (wn : (Lit.int .i64 n).wf = true) (w : World) : Calls Try.prog 11 #[.int .i64 f, .int .i64 lk, .int .i64 n] w fun e w' => e = .returned (.bool true) ∧ Below w.heap.size w w' := by
  have hw1 : (Lit.int .i64 1).wf = true := by decide
  have hw0 : (Lit.int .i64 0).wf = true := by decide
  have ha1 : isAcc 1 := by decide
  have ha2 : isAcc 2 := by decide
  obtain ⟨w0, hw⟩ : ∃ w0, w0 = w.alloc (.cells #[.int .i64 0, .int .i64 f] 3) := ⟨_, rfl⟩
  have hrd : RdI w0 (.slice (some ⟨w.heap.size, 0, none⟩) 2 2) [0, f] := by rw [hw]; exact RdI.lit w 3 [0, f] 2 rfl
  have hb0 : Below w.heap.size w w0 := by rw [hw]; exact (Below.refl _ w).alloc (Nat.le_refl _) _
  have HW := Lib.hid hw
  have H0 := Lib.hid (And.intro hrd hb0)
  clear hw hrd hb0
  go_enter Try.func11, Try.ntmps11
  by_cases hbad : f < 0 ∨ 1073741824 < f ∨ lk < 0 ∨ 1073741824 < lk
  · have hex : f < 0 ∨ (¬ f < 0 ∧ 1073741824 < f) ∨ (¬ f < 0 ∧ ¬ 1073741824 < f ∧ lk < 0) ∨ (¬ f < 0 ∧ ¬ 1073741824 < f ∧ ¬ lk < 0 ∧ 1073741824 < lk) := by omega
    clear hbad
    rcases hex with h | ⟨h1, h⟩ | ⟨h1, h2, h⟩ | ⟨h1, h2, h3, h⟩
    all_goals go_wp2_with fail
    all_goals exact bodyPost_ret (v := .bool true) (by simp [results, Try.results11, go_sem]) rfl ⟨rfl, Below.refl _ _⟩
  have h1 : ¬ f < 0 := by omega
  have h2 : ¬ 1073741824 < f := by omega
  have h3 : ¬ lk < 0 := by omega
  have h4 : ¬ 1073741824 < lk := by omega
  have HK := Lib.hid (newOk_two (n := f) (by unfold isBal; omega))
  obtain ⟨A, hA⟩ : ∃ A, A = accL [0, f] := ⟨_, rfl⟩
  obtain ⟨M, hM⟩ : ∃ M, M = lockM [] 1 0 lk := ⟨_, rfl⟩
  have f1 : A 1 = (f, 0) := by rw [hA]; rfl
  have f2 : A 2 = (0, 0) := by rw [hA]; rfl
  have hf1 : 0 ≤ (A (1 : Int).toNat).1 := by show 0 ≤ (A 1).1; rw [f1]; simp only; omega
  obtain ⟨E, hE⟩ : ∃ E, E = transE A M 1 1 n := ⟨_, rfl⟩
  have e1 : (accOf A 1).1 = f := by rw [accOf, if_pos ha1]; show (A 1).1 = f; rw [f1]
  have e2 : (accOf A 2).1 = 0 := by rw [accOf, if_pos ha2]; show (A 2).1 = 0; rw [f2]
  have e3 : (accOf A 1).2 = 0 := by rw [accOf, if_pos ha1]; show (A 1).2 = 0; rw [f1]
  have hEv : E = if ¬ isBal n then 1 else if f < n then 6 else 0 := by rw [hE, transE_self A M 1 n ha1]; show (if ¬ isBal n then (1 : Int) else if (A 1).1 < n then 6 else 0) = _; rw [f1]
  have hex : (E = 1 ∧ n < 0) ∨ (E = 1 ∧ ¬ n < 0 ∧ 1073741824 < n) ∨ (E = 6 ∧ ¬ n < 0 ∧ ¬ 1073741824 < n ∧ f < n) ∨ (E = 0 ∧ ¬ n < 0 ∧ ¬ 1073741824 < n ∧ ¬ f < n) := by
    unfold isBal at hEv
    by_cases c1 : n < 0
    · exact .inl ⟨by rw [hEv, if_pos (by omega)], c1⟩
    · by_cases c2 : 1073741824 < n
      · exact .inr (.inl ⟨by rw [hEv, if_pos (by omega)], c1, c2⟩)
      · by_cases c3 : f < n
        · exact .inr (.inr (.inl ⟨by rw [hEv, if_neg (by omega), if_pos c3], c1, c2, c3⟩))
        · exact .inr (.inr (.inr ⟨by rw [hEv, if_neg (by omega), if_neg c3], c1, c2, c3⟩))
  have HE := Lib.hid (And.intro hE (And.intro e1 (And.intro e2 (And.intro e3 (And.intro hf1 (And.intro hA hM))))))
  clear hbad wf wl wn hA hM f1 f2 hf1 hE e1 e2 e3 hEv
  rcases hex with ⟨rfl, c1⟩ | ⟨rfl, c1, c2⟩ | ⟨rfl, c1, c2, c3⟩ | ⟨rfl, c1, c2, c3⟩
  all_goals
    have tok1 : True := trivial
    have tok2 : True := trivial
    go_wp2_with (first
      | (go_at_call 14; rw [← HW.out]; refine (ledger_New_ok H0.out.1 (by simp [maxLen]) HK.out).mono ?_; rw [← HE.out.2.2.2.2.2.1]; rintro e w1 ⟨g, gl, rfl, hl, hb⟩; have H1 := Lib.hid (And.intro hl hb); clear hl hb)
      | (go_at_call 26; refine (ledger_Lock H1.out.1 H1.out.2.size (by decide) hw1 hw0 lk).mono ?_; rw [← HE.out.2.2.2.2.2.2]; rintro e w2 ⟨rfl, hl, hb⟩; have H2 := Lib.hid (And.intro hl (H1.out.2.trans hb)); clear hl hb)
      | (go_at_call 22; have _t := tok1; refine (ledger_Transfer H2.out.1 H2.out.2.size hw1 1 n).mono ?_; rw [← HE.out.1, transA_self]; rintro e w3 ⟨rfl, hl, hb⟩; have H3 := Lib.hid (And.intro hl (H2.out.2.trans hb)); clear hl hb tok1)
      | (go_at_call 22; refine (ledger_Transfer H3.out.1 H3.out.2.size hw1 2 0).mono ?_; rw [transE_zero ha1 ha2 HE.out.2.2.2.2.1, transA_zero ha1 ha2 HE.out.2.2.2.2.1]; rintro e w4 ⟨rfl, hl, hb⟩; have H4 := Lib.hid (And.intro hl (H3.out.2.trans hb)); clear hl hb)
      | (go_at_call 23; refine (ledger_Reserve H4.out.1 H4.out.2.size hw1 0).mono ?_; rw [spendE_zero ha1 HE.out.2.2.2.2.1, reserveA_zero ha1 HE.out.2.2.2.2.1]; rintro e w5 ⟨rfl, hl, hb⟩; have H5 := Lib.hid (And.intro hl (H4.out.2.trans hb)); clear hl hb)
      | (go_at_call 29; have _t := tok2; refine (ledger_Free H5.out.1 1).mono ?_; rw [HE.out.2.1]; rintro e w6 ⟨rfl, hw⟩; rw [hw]; clear hw w6 tok2)
      | (go_at_call 29; refine (ledger_Free H5.out.1 2).mono ?_; rw [HE.out.2.2.1]; rintro e w6 ⟨rfl, hw⟩; rw [hw]; clear hw w6)
      | (go_at_call 30; refine (ledger_Held H5.out.1 1).mono ?_; rw [HE.out.2.2.2.1]; rintro e w6 ⟨rfl, hw⟩; rw [hw]; clear hw w6)
      | (go_at_call 19; refine (law_known _).mono ?_; rintro e w9 ⟨rfl, hb⟩; have H9 := Lib.hid (H5.out.2.trans (hb.mono H5.out.2.size)); clear hb)
      | fail)
    go_ret
    exact ⟨rfl, H0.out.2.trans (H9.out.mono H0.out.2.size)⟩
end Go.Proofs.Ytjmaeiphjjjdoaa
