/-
  Ledgers: what Transfer and Reserve leave as it was: every block but the ledger's own.
-/
import Derived.Test.YtfgkaookgfghoaaGreatLdF
namespace Go.Proofs.YtfgkaookgfghoaaGreat
open Go.RowKit Go.Maps Go.Shelf
set_option linter.unusedVariables false
set_option linter.unusedSimpArgs false

section
variable {N g gl : Nat} {A : Acc} {M : Cls Int} {w : World}
set_option maxRecDepth 100000 in
set_option maxHeartbeats 1000000 in
theorem ledger_ReserveF (h : LdAt N g gl A M w) (hN : N ≤ w.heap.size) {a : Int} (ha : (Lit.int .i64 a).wf = true) (n : Int) : Calls Tryz.prog 40 #[.pointer (some ⟨g, 0, none⟩), .int .i64 a, .int .i64 n] w fun e w' => e = .returned (.int .i64 (spendE A M a n false)) ∧ LdAt N g gl (reserveA A M a n) M w' ∧ Below N w w' ∧ Off g w w' := by
  have hok := h.ok
  have HH := Lib.hid (And.intro h (And.intro hN ha))
  clear h hN ha
  obtain ⟨E, hE⟩ : ∃ E, E = spendE A M a n false := ⟨_, rfl⟩
  by_cases h0 : E = 0
  · obtain ⟨hac, hbal, hfr⟩ := spendE_ok (hE.symm.trans h0)
    have hA : reserveA A M a n = upd (spendA A a n) a.toNat ((spendA A a n a.toNat).1, (spendA A a n a.toNat).2 + n) := by rw [reserveA, ← hE, if_pos h0]
    have hS : spent A M a n false = spendA A a n := by rw [spent, ← hE, if_pos h0]
    rw [hA, ← hE, h0]
    have ok1 := spendA_ok hok hac hbal hfr
    have sm1 := sum_spendA A hac n
    obtain ⟨k, rfl, hk⟩ := isAcc_nat hac
    rw [Int.toNat_natCast]
    obtain ⟨B, hB⟩ : ∃ B, B = spendA A k n := ⟨_, rfl⟩
    rw [← hB] at hS ok1 sm1 ⊢
    unfold isBal at hbal
    have ok2 : AccOk (upd B k ((B k).1, (B k).2 + n)) := ok1.upd hk (ok1.free k) (by have := ok1.held k; simp only; omega) (by have := hok.all; unfold both; simp only; omega)
    obtain ⟨v, hv⟩ : ∃ v, v = (B k).2 := ⟨_, rfl⟩
    have hv0 : 0 ≤ v ∧ v ≤ 1073741824 := by have := ok1.one hk; have := ok1.held k; have := ok1.free k; unfold both at *; omega
    have hn1 : IntKind.i64.wrap (v + n) = v + n := IntWalk.i64_in _ (by omega)
    have hE0 : spendE A M k n false = 0 := by rw [← hE, h0]
    have hpay : ∀ w1, LdAt N g gl B M w1 → w1.cell? ⟨g, k * 2 + 1, none⟩ = some (.int .i64 v) ∧ LdAt N g gl (upd B k ((B k).1, (B k).2 + n)) M (w1.setCell ⟨g, k * 2 + 1, none⟩ (.int .i64 (v + n))) ∧ Below N w1 (w1.setCell ⟨g, k * 2 + 1, none⟩ (.int .i64 (v + n))) := fun w1 h1 => ⟨by rw [hv]; exact h1.held hk, by rw [hv]; exact h1.setHeld hk _ ok2⟩
    have HP := Lib.hid hpay
    have HK := Lib.hid hk
    have HE := Lib.hid (And.intro hE0 hS)
    clear hok hac hbal hfr hA hS ok1 sm1 hk hB ok2 hv hE0 hpay h0 hE
    go_enter Tryz.func40, Tryz.ntmps40
    go_wp2_with (first
      | (go_at_call 58; refine (ledger_spendF HH.out.1 HH.out.2.1 HH.out.2.2 false).mono ?_; rw [HE.out.1, HE.out.2]; rintro e w1 ⟨rfl, h1, h2, h2o⟩; have hc1 := (HP.out w1 h1).1; have hf1 := h1.frozen (k * 2 + 1); have H1 := Lib.hid (And.intro h1 (And.intro h2 h2o)); clear h1 h2 h2o)
      | (go_at_call 19; refine (ledger_account HK.out _).mono ?_; rintro e w' ⟨rfl, hw⟩; rw [hw]; clear hw w')
      | fail)
    go_ret
    exact ⟨rfl, (HP.out _ H1.out.1).2.1, H1.out.2.1.trans (HP.out _ H1.out.1).2.2, H1.out.2.2.trans H1.out.2.1.size Off.set⟩
  · have hA : reserveA A M a n = A := by rw [reserveA, ← hE, if_neg h0]
    have hS : spent A M a n false = A := by rw [spent, ← hE, if_neg h0]
    rw [hA, ← hE]
    have HE := Lib.hid (And.intro hE hS)
    clear hA hS hE hok
    go_enter Tryz.func40, Tryz.ntmps40
    go_wp2_with (first
      | (go_at_call 58; refine (ledger_spendF HH.out.1 HH.out.2.1 HH.out.2.2 false).mono ?_; rw [← HE.out.1, HE.out.2]; rintro e w1 ⟨rfl, h1, h2, h2o⟩; have H1 := Lib.hid (And.intro h1 (And.intro h2 h2o)); clear h1 h2 h2o)
      | fail)
    go_ret
    exact ⟨rfl, H1.out⟩
set_option maxRecDepth 100000 in
set_option maxHeartbeats 1000000 in
theorem ledger_TransferF (h : LdAt N g gl A M w) (hN : N ≤ w.heap.size) {a : Int} (ha : (Lit.int .i64 a).wf = true) (b n : Int) : Calls Tryz.prog 67 #[.pointer (some ⟨g, 0, none⟩), .int .i64 a, .int .i64 b, .int .i64 n] w fun e w' => e = .returned (.int .i64 (transE A M a b n)) ∧ LdAt N g gl (transA A M a b n) M w' ∧ Below N w w' ∧ Off g w w' := by
  have hok := h.ok
  have HH := Lib.hid (And.intro h (And.intro hN ha))
  clear h hN ha
  by_cases hb : isAcc b
  · have hT : transE A M a b n = spendE A M a n (decide (a = b)) := by rw [transE, if_pos hb]
    obtain ⟨q, hq⟩ : ∃ q, q = decide (a = b) := ⟨_, rfl⟩
    rw [← hq] at hT
    obtain ⟨E, hE⟩ : ∃ E, E = spendE A M a n q := ⟨_, rfl⟩
    have hQ : (a == b) = q := by rw [hq]; exact Bool.eq_iff_iff.2 (by simp)
    obtain ⟨j, rfl, hj⟩ := isAcc_nat hb
    by_cases h0 : E = 0
    · obtain ⟨hac, hbal, hfr⟩ := spendE_ok (hE.symm.trans h0)
      have hA : transA A M a j n = giveA (spendA A a n) j n := by rw [transA, hT, ← hE, if_pos h0, Int.toNat_natCast]
      have hS : spent A M a n q = spendA A a n := by rw [spent, ← hE, if_pos h0]
      rw [hA, hT, ← hE, h0]
      have ok1 := spendA_ok hok hac hbal hfr
      have sm1 := sum_spendA A hac n
      obtain ⟨B, hB⟩ : ∃ B, B = spendA A a n := ⟨_, rfl⟩
      rw [← hB] at hS ok1 sm1 ⊢
      unfold isBal at hbal
      have ok2 : AccOk (giveA B j n) := giveA_ok ok1 hj hbal.1 (by have := hok.all; omega)
      obtain ⟨v, hv⟩ : ∃ v, v = (B j).1 := ⟨_, rfl⟩
      have hv0 : 0 ≤ v ∧ v ≤ 1073741824 := by have := ok1.one hj; have := ok1.held j; have := ok1.free j; unfold both at *; omega
      have hn1 : IntKind.i64.wrap (v + n) = v + n := IntWalk.i64_in _ (by omega)
      have hE0 : spendE A M a n q = 0 := by rw [← hE, h0]
      have hpay : ∀ w1, LdAt N g gl B M w1 → w1.cell? ⟨g, j * 2, none⟩ = some (.int .i64 v) ∧ LdAt N g gl (giveA B j n) M (w1.setCell ⟨g, j * 2, none⟩ (.int .i64 (v + n))) ∧ Below N w1 (w1.setCell ⟨g, j * 2, none⟩ (.int .i64 (v + n))) := fun w1 h1 => ⟨by rw [hv]; exact h1.free hj, by rw [hv]; exact h1.setFree hj _ ok2⟩
      have HP := Lib.hid hpay
      have HK := Lib.hid hj
      have HE := Lib.hid (And.intro hE0 hS)
      clear hok hac hbal hfr hA hS ok1 sm1 hj hB ok2 hv hE0 hpay h0 hE hq hb hT
      go_enter Tryz.func67, Tryz.ntmps67
      go_wp2_with (first
        | (go_at_call 58; refine (ledger_spendF HH.out.1 HH.out.2.1 HH.out.2.2 q).mono ?_; rw [HE.out.1, HE.out.2]; rintro e w1 ⟨rfl, h1, h2, h2o⟩; have hc1 := (HP.out w1 h1).1; have hf1 := h1.frozen (j * 2); have H1 := Lib.hid (And.intro h1 (And.intro h2 h2o)); clear h1 h2 h2o)
        | (go_at_call 19; refine (ledger_account HK.out _).mono ?_; rintro e w' ⟨rfl, hw⟩; rw [hw]; clear hw w')
        | fail)
      go_ret
      exact ⟨rfl, (HP.out _ H1.out.1).2.1, H1.out.2.1.trans (HP.out _ H1.out.1).2.2, H1.out.2.2.trans H1.out.2.1.size Off.set⟩
    · have hA : transA A M a j n = A := by rw [transA, hT, ← hE, if_neg h0]
      have hS : spent A M a n q = A := by rw [spent, ← hE, if_neg h0]
      rw [hA, hT, ← hE]
      have HK := Lib.hid hj
      have HE := Lib.hid (And.intro hE hS)
      clear hA hS hE hok hb hj hT hq
      go_enter Tryz.func67, Tryz.ntmps67
      go_wp2_with (first
        | (go_at_call 58; refine (ledger_spendF HH.out.1 HH.out.2.1 HH.out.2.2 q).mono ?_; rw [← HE.out.1, HE.out.2]; rintro e w1 ⟨rfl, h1, h2, h2o⟩; have H1 := Lib.hid (And.intro h1 (And.intro h2 h2o)); clear h1 h2 h2o)
        | (go_at_call 19; refine (ledger_account HK.out _).mono ?_; rintro e w' ⟨rfl, hw⟩; rw [hw]; clear hw w')
        | fail)
      go_ret
      exact ⟨rfl, H1.out⟩
  · have hT : transE A M a b n = 1 := by rw [transE, if_neg hb]
    have hA : transA A M a b n = A := by rw [transA, hT]; rfl
    rw [hT, hA]
    have HB := Lib.hid hb
    clear hT hA hb hok
    go_enter Tryz.func67, Tryz.ntmps67
    go_wp2_with (first
      | (go_at_call 19; refine (ledger_account_no HB.out _).mono ?_; rintro e w' ⟨rfl, hw⟩; rw [hw]; clear hw w')
      | fail)
    exact bodyPost_ret (v := .int .i64 1) (by simp [results, Tryz.results67, go_sem]) rfl ⟨rfl, HH.out.1, Below.refl _ _, Off.refl _ _⟩
end
end Go.Proofs.YtfgkaookgfghoaaGreat
