/-
  The law LedgerMints, walked.
-/
import Derived.Test.YtjmaeiphjjjdoaaLd9
namespace Go.Proofs.Ytjmaeiphjjjdoaa
open Go.RowKit Go.Maps Go.Shelf
set_option linter.unusedVariables false
set_option linter.unusedSimpArgs false

theorem sum_accL1 (n : Int) : sumTo (accL [n]) 10 = n := by simp [sumTo, both, accL]
theorem accL1_other {n : Int} {k : Nat} (h : k ≠ 0) : accL [n] k = (0, 0) := by
  obtain ⟨j, rfl⟩ : ∃ j, k = j + 1 := ⟨k - 1, by omega⟩
  simp [accL]
theorem lockedOf_nil (a : Int) : lockedOf [] a = 0 := rfl
set_option maxRecDepth 100000 in
set_option maxHeartbeats 4000000 in
theorem ledgerMints_walk (h n : Int) (wh : (Lit.int .i64 h).wf = true) (wn : (Lit.int .i64 n).wf = true) (w : World) : Calls Try.prog 12 #[.int .i64 h, .int .i64 n] w fun e w' => e = .returned (.bool true) ∧ Below w.heap.size w w' := by
  have hw3 : (Lit.int .i64 3).wf = true := by decide
  obtain ⟨w0, hw⟩ : ∃ w0, w0 = w.alloc (.cells #[.int .i64 h] 3) := ⟨_, rfl⟩
  have hrd : RdI w0 (.slice (some ⟨w.heap.size, 0, none⟩) 1 1) [h] := by rw [hw]; exact RdI.lit w 3 [h] 1 rfl
  have hb0 : Below w.heap.size w w0 := by rw [hw]; exact (Below.refl _ w).alloc (Nat.le_refl _) _
  have HW := Lib.hid hw
  have H0 := Lib.hid (And.intro hrd hb0)
  clear hw hrd hb0
  go_enter Try.func12, Try.ntmps12
  by_cases hbad : h < 0 ∨ 1073741824 < h ∨ n < 0 ∨ 1073741824 < n
  · have hex : h < 0 ∨ (¬ h < 0 ∧ 1073741824 < h) ∨ (¬ h < 0 ∧ ¬ 1073741824 < h ∧ n < 0) ∨ (¬ h < 0 ∧ ¬ 1073741824 < h ∧ ¬ n < 0 ∧ 1073741824 < n) := by omega
    clear hbad
    rcases hex with h | ⟨h1, h⟩ | ⟨h1, h2, h⟩ | ⟨h1, h2, h3, h⟩
    all_goals go_wp2_with fail
    all_goals exact bodyPost_ret (v := .bool true) (by simp [results, Try.results12, go_sem]) rfl ⟨rfl, Below.refl _ _⟩
  have h1 : ¬ h < 0 := by omega
  have h2 : ¬ 1073741824 < h := by omega
  have h3 : ¬ n < 0 := by omega
  have h4 : ¬ 1073741824 < n := by omega
  have hbh : isBal h := by unfold isBal; omega
  have hbn : isBal n := by unfold isBal; omega
  have ha3 : isAcc 3 := by decide
  have hs := sum_accL1 h
  have HK := Lib.hid (newOk_one hbh)
  have hi1 : IntKind.i64.wrap (1073741824 - h) = 1073741824 - h := IntWalk.i64_in _ (by omega)
  have hi2 : IntKind.i64.wrap (h + n) = h + n := IntWalk.i64_in _ (by omega)
  obtain ⟨E, hE⟩ : ∃ E, E = mintE (accL [h]) 3 n := ⟨_, rfl⟩
  obtain ⟨A1, hA1⟩ : ∃ A1, A1 = mintA (accL [h]) 3 n := ⟨_, rfl⟩
  have HEA := Lib.hid (And.intro hE hA1)
  by_cases hov : 1073741824 - h < n
  · have e1 : E = 10 := by rw [hE]; unfold mintE; rw [if_neg (by simp [ha3, hbn]), if_pos (by rw [hs]; omega)]
    have e2 : A1 = accL [h] := by rw [hA1]; unfold mintA; rw [← hE, e1]; rfl
    have e3 : (accOf A1 3).1 = 0 := by rw [e2]; rfl
    have e4 : sumTo A1 10 = h := by rw [e2, hs]
    have HE := Lib.hid (And.intro e1 (And.intro e3 e4))
    clear hbad hbh hbn hs hi2 hE hA1 e1 e2 e3 e4 wh wn
    go_wp2_with (first
      | (go_at_call 14; rw [← HW.out]; refine (ledger_New_ok H0.out.1 (by simp [maxLen]) HK.out).mono ?_; rintro e w1 ⟨g, gl, rfl, hl, hb⟩; have H1 := Lib.hid (And.intro hl hb); clear hl hb)
      | (go_at_call 27; refine (ledger_Mint H1.out.1 H1.out.2.size 3 n).mono ?_; rw [← HEA.out.1, ← HEA.out.2, HE.out.1]; rintro e w2 ⟨rfl, hl, hb⟩; have H2 := Lib.hid (And.intro hl (H1.out.2.trans hb)); clear hl hb)
      | (go_at_call 21; refine (ledger_Issued H2.out.1).mono ?_; rw [HE.out.2.2]; rintro e w6 ⟨rfl, hb⟩; have H6 := Lib.hid (And.intro (H2.out.1.below hb) (H2.out.2.trans (hb.mono H2.out.2.size))); clear hb)
      | (go_at_call 29; refine (ledger_Free H6.out.1 3).mono ?_; rw [HE.out.2.1]; rintro e w5 ⟨rfl, hw⟩; rw [hw]; clear hw w5)
      | (go_at_call 19; refine (law_known _).mono ?_; rintro e w9 ⟨rfl, hb⟩; have H9 := Lib.hid (H6.out.2.trans (hb.mono H6.out.2.size)); clear hb)
      | fail)
    go_ret
    exact ⟨rfl, H0.out.2.trans (H9.out.mono H0.out.2.size)⟩
  · have e1 : E = 0 := by rw [hE]; unfold mintE; rw [if_neg (by simp [ha3, hbn]), if_neg (by rw [hs]; omega)]
    have e2 : A1 = giveA (accL [h]) 3 n := by rw [hA1]; unfold mintA; rw [← hE, e1]; rfl
    have e4 : sumTo A1 10 = h + n := by rw [e2, sum_giveA _ (by omega), hs]
    have f3 : A1 3 = (n, 0) := by rw [e2, giveA, upd_same, accL1_other (by decide)]; simp
    have e5 : spendE A1 [] 3 n false = 0 := by
      unfold spendE
      rw [if_neg (by simp [ha3, hbn]), show (3 : Int).toNat = 3 from rfl, f3, lockedOf_nil, if_neg (by simp only; omega), if_neg (by simp only; omega)]
    have e6 : spent A1 [] 3 n false = spendA A1 3 n := by unfold spent; rw [e5]; rfl
    have e7 : sumTo (spendA A1 3 n) 10 = h := by rw [sum_spendA A1 ha3, e4]; omega
    have e8 : spendE (spendA A1 3 n) [] 3 1 false = 6 := by
      unfold spendE
      rw [if_neg (by decide), show (3 : Int).toNat = 3 from rfl, spendA, show (3 : Int).toNat = 3 from rfl, upd_same, f3, if_pos (by simp only; omega)]
    have HE := Lib.hid (And.intro e1 (And.intro e4 (And.intro e5 (And.intro e6 (And.intro e7 e8)))))
    clear hbad hbh hbn hs hE hA1 e1 e2 e4 f3 e5 e6 e7 e8 wh wn
    have tok1 : True := trivial
    have tok2 : True := trivial
    go_wp2_with (first
      | (go_at_call 14; rw [← HW.out]; refine (ledger_New_ok H0.out.1 (by simp [maxLen]) HK.out).mono ?_; rintro e w1 ⟨g, gl, rfl, hl, hb⟩; have H1 := Lib.hid (And.intro hl hb); clear hl hb)
      | (go_at_call 27; refine (ledger_Mint H1.out.1 H1.out.2.size 3 n).mono ?_; rw [← HEA.out.1, ← HEA.out.2, HE.out.1]; rintro e w2 ⟨rfl, hl, hb⟩; have H2 := Lib.hid (And.intro hl (H1.out.2.trans hb)); clear hl hb)
      | (go_at_call 21; have _t := tok1; refine (ledger_Issued H2.out.1).mono ?_; rw [HE.out.2.1]; rintro e w3 ⟨rfl, hb⟩; have H3 := Lib.hid (And.intro (H2.out.1.below hb) (H2.out.2.trans (hb.mono H2.out.2.size))); clear hb tok1)
      | (go_at_call 28; have _t := tok2; refine (ledger_Burn H3.out.1 H3.out.2.size hw3 n).mono ?_; rw [HE.out.2.2.1, HE.out.2.2.2.1]; rintro e w4 ⟨rfl, hl, hb⟩; have H4 := Lib.hid (And.intro hl (H3.out.2.trans hb)); clear hl hb tok2)
      | (go_at_call 21; refine (ledger_Issued H4.out.1).mono ?_; rw [HE.out.2.2.2.2.1]; rintro e w5 ⟨rfl, hb⟩; have H5 := Lib.hid (And.intro (H4.out.1.below hb) (H4.out.2.trans (hb.mono H4.out.2.size))); clear hb)
      | (go_at_call 28; refine (ledger_Burn H5.out.1 H5.out.2.size hw3 1).mono ?_; rw [HE.out.2.2.2.2.2]; rintro e w6 ⟨rfl, hl, hb⟩; have H6 := Lib.hid (And.intro trivial (H5.out.2.trans hb)); clear hl hb)
      | (go_at_call 19; refine (law_known _).mono ?_; rintro e w9 ⟨rfl, hb⟩; have H9 := Lib.hid (H6.out.2.trans (hb.mono H6.out.2.size)); clear hb)
      | fail)
    go_ret
    exact ⟨rfl, H0.out.2.trans (H9.out.mono H0.out.2.size)⟩
end Go.Proofs.Ytjmaeiphjjjdoaa
