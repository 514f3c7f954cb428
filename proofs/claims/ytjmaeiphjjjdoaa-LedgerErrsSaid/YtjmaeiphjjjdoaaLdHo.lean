/-
  The law LedgerHolds, walked.
-/
import Derived.Test.YtjmaeiphjjjdoaaLdSe
namespace Go.Proofs.Ytjmaeiphjjjdoaa
open Go.RowKit Go.Maps Go.Shelf
set_option linter.unusedVariables false
set_option linter.unusedSimpArgs false

theorem accOf0 (A : Acc) : accOf A 0 = A 0 := by rw [accOf, if_pos (by decide)]; rfl
theorem accOf1 (A : Acc) : accOf A 1 = A 1 := by rw [accOf, if_pos (by decide)]; rfl
theorem accOf_at (A : Acc) {k : Nat} (h : k < 10) : accOf A (k : Int) = A k := by rw [accOf, if_pos (isAcc_at k h), Int.toNat_natCast]
set_option maxRecDepth 100000 in
set_option maxHeartbeats 4000000 in
theorem ledgerHolds_walk (f h k : Int) (sl : Bool) (wf : (Lit.int .i64 f).wf = true) (wh : (Lit.int .i64 h).wf = true) (wk : (Lit.int .i64 k).wf = true) (w : World) : Calls Try.prog 7 #[.int .i64 f, .int .i64 h, .int .i64 k, .bool sl] w fun e w' => e = .returned (.bool true) ∧ Below w.heap.size w w' := by
  have hw1 : (Lit.int .i64 1).wf = true := by decide
  have ha1 : isAcc 1 := by decide
  obtain ⟨w0, hw⟩ : ∃ w0, w0 = w.alloc (.cells #[.int .i64 0, .int .i64 f] 3) := ⟨_, rfl⟩
  have hrd : RdI w0 (.slice (some ⟨w.heap.size, 0, none⟩) 2 2) [0, f] := by rw [hw]; exact RdI.lit w 3 [0, f] 2 rfl
  have hb0 : Below w.heap.size w w0 := by rw [hw]; exact (Below.refl _ w).alloc (Nat.le_refl _) _
  have HW := Lib.hid hw
  have H0 := Lib.hid (And.intro hrd hb0)
  clear hw hrd hb0
  go_enter Try.func7, Try.ntmps7
  by_cases hbad : f < 0 ∨ 1073741824 < f ∨ h < 0 ∨ f < h ∨ k < 0 ∨ 1073741824 < k
  · have hex : f < 0 ∨ (¬ f < 0 ∧ 1073741824 < f) ∨ (¬ f < 0 ∧ ¬ 1073741824 < f ∧ h < 0) ∨ (¬ f < 0 ∧ ¬ 1073741824 < f ∧ ¬ h < 0 ∧ f < h) ∨ (¬ f < 0 ∧ ¬ 1073741824 < f ∧ ¬ h < 0 ∧ ¬ f < h ∧ k < 0) ∨ (¬ f < 0 ∧ ¬ 1073741824 < f ∧ ¬ h < 0 ∧ ¬ f < h ∧ ¬ k < 0 ∧ 1073741824 < k) := by omega
    clear hbad
    rcases hex with h1 | ⟨h1, h2⟩ | ⟨h1, h2, h3⟩ | ⟨h1, h2, h3, h4⟩ | ⟨h1, h2, h3, h4, h5⟩ | ⟨h1, h2, h3, h4, h5, h6⟩
    all_goals go_wp2_with fail
    all_goals exact bodyPost_ret (v := .bool true) (by simp [results, Try.results7, go_sem]) rfl ⟨rfl, Below.refl _ _⟩
  have h1 : ¬ f < 0 := by omega
  have h2 : ¬ 1073741824 < f := by omega
  have h3 : ¬ h < 0 := by omega
  have h4 : ¬ f < h := by omega
  have h5 : ¬ k < 0 := by omega
  have h6 : ¬ 1073741824 < k := by omega
  have HK := Lib.hid (newOk_two (n := f) (by unfold isBal; omega))
  obtain ⟨A, hA⟩ : ∃ A, A = accL [0, f] := ⟨_, rfl⟩
  have f1 : A 1 = (f, 0) := by rw [hA]; rfl
  have f0 : A 0 = (0, 0) := by rw [hA]; rfl
  have hbh : isBal h := by unfold isBal; omega
  have e1 : spendE A [] 1 h false = 0 := by
    unfold spendE
    rw [if_neg (by simp [ha1, hbh]), show (1 : Int).toNat = 1 from rfl, f1, lockedOf_nil, if_neg (by simp only; omega), if_neg (by simp only; omega)]
  obtain ⟨A1, hA1⟩ : ∃ A1, A1 = reserveA A [] 1 h := ⟨_, rfl⟩
  have g1 : A1 1 = (f - h, h) := by
    rw [hA1, reserveA, e1, if_pos rfl, show (1 : Int).toNat = 1 from rfl, upd_same, spendA, show (1 : Int).toNat = 1 from rfl, upd_same, f1]; simp
  have g0 : A1 0 = (0, 0) := by
    rw [hA1, reserveA, e1, if_pos rfl, show (1 : Int).toNat = 1 from rfl, upd_other _ _ (by decide), spendA, show (1 : Int).toNat = 1 from rfl, upd_other _ _ (by decide), f0]
  obtain ⟨m, hm⟩ : ∃ m, m = min h k := ⟨_, rfl⟩
  have hm0 : 0 ≤ m ∧ m ≤ h := by omega
  have hmm : min h k = m := hm.symm
  have e2 : heldM A1 1 k = m := by
    rw [heldM, if_pos ha1]
    show min (max k 0) (A1 1).2 = m
    rw [g1]; simp only; omega
  obtain ⟨B, hB⟩ : ∃ B, B = unheld A1 1 k 0 := ⟨_, rfl⟩
  obtain ⟨C, hC⟩ : ∃ C, C = unheld A1 1 k 1 := ⟨_, rfl⟩
  have b1 : B 1 = (f - h, h - m) := by
    rw [hB, unheld, if_pos ha1, e2]
    show giveA (takeA A1 1 m) 0 m 1 = _
    rw [giveA, upd_other _ _ (by decide), takeA, upd_same, g1]
  have b0 : B 0 = (m, 0) := by
    rw [hB, unheld, if_pos ha1, e2]
    show giveA (takeA A1 1 m) 0 m 0 = _
    rw [giveA, upd_same, takeA, upd_other _ _ (by decide), g0]; simp
  have c1 : C 1 = (f - h + m, h - m) := by
    rw [hC, unheld, if_pos ha1, e2]
    show giveA (takeA A1 1 m) 1 m 1 = _
    rw [giveA, upd_same, takeA, upd_same, g1]
  have c0 : C 0 = (0, 0) := by
    rw [hC, unheld, if_pos ha1, e2]
    show giveA (takeA A1 1 m) 1 m 0 = _
    rw [giveA, upd_other _ _ (by decide), takeA, upd_other _ _ (by decide), g0]
  have hn1 : IntKind.i64.wrap (h - m) = h - m := IntWalk.i64_in _ (by omega)
  have hn2 : IntKind.i64.wrap (f - h) = f - h := IntWalk.i64_in _ (by omega)
  have hn3 : IntKind.i64.wrap (f - h + m) = f - h + m := IntWalk.i64_in _ (by omega)
  have q1 : (accOf B 1).1 = f - h := by rw [accOf1 B, b1]
  have q2 : (accOf B 1).2 = h - m := by rw [accOf1 B, b1]
  have q3 : (accOf B 0).1 = m := by rw [accOf0 B, b0]
  have r1 : (accOf C 1).1 = f - h + m := by rw [accOf1 C, c1]
  have r2 : (accOf C 1).2 = h - m := by rw [accOf1 C, c1]
  have r3 : (accOf C 0).1 = 0 := by rw [accOf0 C, c0]
  have HE := Lib.hid (And.intro hA (And.intro e1 (And.intro hA1 (And.intro e2 (And.intro hB hC)))))
  have HQ := Lib.hid (And.intro q1 (And.intro q2 q3))
  have HR := Lib.hid (And.intro r1 (And.intro r2 r3))
  clear hbad wf wh wk hA f1 f0 hbh e1 hA1 g1 g0 hm hm0 e2 hB hC b1 b0 c1 c0 q1 q2 q3 r1 r2 r3
  cases sl
  · go_wp2_with (first
      | (go_at_call 14; rw [← HW.out]; refine (ledger_New_ok H0.out.1 (by simp [maxLen]) HK.out).mono ?_; rw [← HE.out.1]; rintro e w1 ⟨g, gl, rfl, hl, hb⟩; have H1 := Lib.hid (And.intro hl hb); clear hl hb)
      | (go_at_call 23; refine (ledger_Reserve H1.out.1 H1.out.2.size hw1 h).mono ?_; rw [HE.out.2.1, ← HE.out.2.2.1]; rintro e w2 ⟨rfl, hl, hb⟩; have H2 := Lib.hid (And.intro hl (H1.out.2.trans hb)); clear hl hb)
      | (go_at_call 24; refine (ledger_Release H2.out.1 1 k).mono ?_; rw [HE.out.2.2.2.1, ← HE.out.2.2.2.2.2]; rintro e w3 ⟨rfl, hl, hb⟩; have H3 := Lib.hid (And.intro hl (H2.out.2.trans hb)); clear hl hb)
      | (go_at_call 30; refine (ledger_Held H3.out.1 1).mono ?_; rw [HR.out.2.1]; rintro e w6 ⟨rfl, hw⟩; rw [hw]; clear hw w6)
      | (go_at_call 29; first | (with_reducible refine (ledger_Free H3.out.1 1).mono ?_; rw [HR.out.1]; rintro e w6 ⟨rfl, hw⟩; rw [hw]; clear hw w6) | (refine (ledger_Free H3.out.1 0).mono ?_; rw [HR.out.2.2]; rintro e w6 ⟨rfl, hw⟩; rw [hw]; clear hw w6))
      | (go_at_call 19; refine (law_known _).mono ?_; rintro e w9 ⟨rfl, hb⟩; have H9 := Lib.hid (H3.out.2.trans (hb.mono H3.out.2.size)); clear hb)
      | fail)
    go_ret
    exact ⟨rfl, H0.out.2.trans (H9.out.mono H0.out.2.size)⟩
  · go_wp2_with (first
      | (go_at_call 14; rw [← HW.out]; refine (ledger_New_ok H0.out.1 (by simp [maxLen]) HK.out).mono ?_; rw [← HE.out.1]; rintro e w1 ⟨g, gl, rfl, hl, hb⟩; have H1 := Lib.hid (And.intro hl hb); clear hl hb)
      | (go_at_call 23; refine (ledger_Reserve H1.out.1 H1.out.2.size hw1 h).mono ?_; rw [HE.out.2.1, ← HE.out.2.2.1]; rintro e w2 ⟨rfl, hl, hb⟩; have H2 := Lib.hid (And.intro hl (H1.out.2.trans hb)); clear hl hb)
      | (go_at_call 25; refine (ledger_Slash H2.out.1 1 k).mono ?_; rw [HE.out.2.2.2.1, ← HE.out.2.2.2.2.1]; rintro e w3 ⟨rfl, hl, hb⟩; have H3 := Lib.hid (And.intro hl (H2.out.2.trans hb)); clear hl hb)
      | (go_at_call 30; refine (ledger_Held H3.out.1 1).mono ?_; rw [HQ.out.2.1]; rintro e w6 ⟨rfl, hw⟩; rw [hw]; clear hw w6)
      | (go_at_call 29; first | (with_reducible refine (ledger_Free H3.out.1 1).mono ?_; rw [HQ.out.1]; rintro e w6 ⟨rfl, hw⟩; rw [hw]; clear hw w6) | (refine (ledger_Free H3.out.1 0).mono ?_; rw [HQ.out.2.2]; rintro e w6 ⟨rfl, hw⟩; rw [hw]; clear hw w6))
      | (go_at_call 19; refine (law_known _).mono ?_; rintro e w9 ⟨rfl, hb⟩; have H9 := Lib.hid (H3.out.2.trans (hb.mono H3.out.2.size)); clear hb)
      | fail)
    go_ret
    exact ⟨rfl, H0.out.2.trans (H9.out.mono H0.out.2.size)⟩
end Go.Proofs.Ytjmaeiphjjjdoaa
