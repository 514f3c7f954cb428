/-
  Joined texts.
-/
import Derived.WalkKit
import Derived.ProofKit
import Derived.OpenShut
import Derived.Carry
import Derived.Below
import Derived.ChangeOld
import Derived.ChangeArms
import Derived.Deep.Matrix
import Derived.Deep.WholeRow
import Derived.BigRegion
import Derived.RegionTactic
import Derived.Deep.DeepCutAuto
import Derived.Test.YteioacpfphigjaaGreatDoorChecked
import Derived.WalkSpells
import Derived.WalkLawsBesides
import Derived.Lib.Hide
import Derived.IntWalk
import Derived.Test.YteioacpfphigjaaGreatDoorMgf

section
namespace Go.Proofs.YteioacpfphigjaaGreatDoor
open Go.RowKit Go.Maps Go.Shelf
set_option linter.unusedVariables false
set_option linter.unusedSimpArgs false

section
variable {N g gl : Nat} {A : Acc} {M : Cls Int} {w : World}
theorem unheld_noacc {a n b : Int} (h : ¬ isAcc a) : unheld A a n b = A := by rw [unheld, if_neg h]
set_option maxRecDepth 100000 in
theorem ledger_Slash (h : LdAt N g gl A M w) (a n : Int) : Calls Tryz.prog 265 #[.pointer (some ⟨g, 0, none⟩), .int .i64 a, .int .i64 n] w fun e w' => e = .returned (.int .i64 (heldM A a n)) ∧ LdAt N g gl (unheld A a n 0) M w' ∧ Below N w w' := by
  have HH := Lib.hid h
  clear h
  go_enter Tryz.func265, Tryz.ntmps265
  go_wp2_with (first | (go_at_call 146; refine (ledger_unhold HH.out (by unfold isAcc; omega) n).mono ?_; rintro e w1 ⟨rfl, h1⟩; have H1 := Lib.hid h1; clear h1) | fail)
  go_ret
  exact ⟨rfl, H1.out⟩
set_option maxRecDepth 100000 in
theorem ledger_Release (h : LdAt N g gl A M w) (a n : Int) : Calls Tryz.prog 74 #[.pointer (some ⟨g, 0, none⟩), .int .i64 a, .int .i64 n] w fun e w' => e = .returned (.int .i64 (heldM A a n)) ∧ LdAt N g gl (unheld A a n a) M w' ∧ Below N w w' := by
  have hu : Calls Tryz.prog 146 #[.pointer (some ⟨g, 0, none⟩), .int .i64 a, .int .i64 n, .int .i64 a] w fun e w' => e = .returned (.int .i64 (heldM A a n)) ∧ LdAt N g gl (unheld A a n a) M w' ∧ Below N w w' := by
    by_cases ha : isAcc a
    · exact ledger_unhold h ha n
    · have e1 : heldM A a n = 0 := by rw [heldM, if_neg ha]
      have HH := Lib.hid (And.intro h ha)
      rw [e1, unheld_noacc ha]
      clear h ha e1
      go_enter Tryz.func146, Tryz.ntmps146
      go_wp2_with (first
        | (go_at_call 68; refine (ledger_account_no HH.out.2 _).mono ?_; rintro e w' ⟨rfl, hw⟩; rw [hw]; clear hw w')
        | fail)
      exact bodyPost_ret (v := .int .i64 0) (by simp [results, Tryz.results146, go_sem]) rfl ⟨rfl, HH.out.1, Below.refl _ _⟩
  have HH := Lib.hid hu
  clear h hu
  go_enter Tryz.func74, Tryz.ntmps74
  go_wp2_with (first | (go_at_call 146; refine HH.out.mono ?_; rintro e w1 ⟨rfl, h1⟩; have H1 := Lib.hid h1; clear h1) | fail)
  go_ret
  exact ⟨rfl, H1.out⟩
def reserveA (A : Acc) (M : Cls Int) (a n : Int) : Acc := if spendE A M a n false = 0 then upd (spendA A a n) a.toNat ((spendA A a n a.toNat).1, (spendA A a n a.toNat).2 + n) else A
set_option maxRecDepth 100000 in
set_option maxHeartbeats 1000000 in
theorem ledger_Reserve (h : LdAt N g gl A M w) (hN : N ≤ w.heap.size) {a : Int} (ha : (Lit.int .i64 a).wf = true) (n : Int) : Calls Tryz.prog 72 #[.pointer (some ⟨g, 0, none⟩), .int .i64 a, .int .i64 n] w fun e w' => e = .returned (.int .i64 (spendE A M a n false)) ∧ LdAt N g gl (reserveA A M a n) M w' ∧ Below N w w' := by
  have hok := h.ok
  have HH := Lib.hid (And.intro h (And.intro hN ha))
  clear h hN ha
  obtain ⟨E, hE⟩ : ∃ E, E = spendE A M a n false := ⟨_, rfl⟩
  by_cases h0 : E = 0
  · obtain ⟨hac, hbal, hfr⟩ := spendE_ok (hE.symm.trans h0)
    have hA : reserveA A M a n = upd (spendA A a n) a.toNat ((spendA A a n a.toNat).1, (spendA A a n a.toNat).2 + n) := by rw [reserveA, ← hE, if_pos h0]
    have hS : spent A M a n false = spendA A a n := by rw [spent, ← hE, if_pos h0]
    rw [hA, ← hE, h0]
    have ok1 := spendA_ok hok hac hbal hfr
    have sm1 := sum_spendA A hac n
    obtain ⟨k, rfl, hk⟩ := isAcc_nat hac
    rw [Int.toNat_natCast]
    obtain ⟨B, hB⟩ : ∃ B, B = spendA A k n := ⟨_, rfl⟩
    rw [← hB] at hS ok1 sm1 ⊢
    unfold isBal at hbal
    have ok2 : AccOk (upd B k ((B k).1, (B k).2 + n)) := ok1.upd hk (ok1.free k) (by have := ok1.held k; simp only; omega) (by have := hok.all; unfold both; simp only; omega)
    obtain ⟨v, hv⟩ : ∃ v, v = (B k).2 := ⟨_, rfl⟩
    have hv0 : 0 ≤ v ∧ v ≤ 1073741824 := by have := ok1.one hk; have := ok1.held k; have := ok1.free k; unfold both at *; omega
    have hn1 : IntKind.i64.wrap (v + n) = v + n := IntWalk.i64_in _ (by omega)
    have hE0 : spendE A M k n false = 0 := by rw [← hE, h0]
    have hpay : ∀ w1, LdAt N g gl B M w1 → w1.cell? ⟨g, k * 2 + 1, none⟩ = some (.int .i64 v) ∧ LdAt N g gl (upd B k ((B k).1, (B k).2 + n)) M (w1.setCell ⟨g, k * 2 + 1, none⟩ (.int .i64 (v + n))) ∧ Below N w1 (w1.setCell ⟨g, k * 2 + 1, none⟩ (.int .i64 (v + n))) := fun w1 h1 => ⟨by rw [hv]; exact h1.held hk, by rw [hv]; exact h1.setHeld hk _ ok2⟩
    have HP := Lib.hid hpay
    have HK := Lib.hid hk
    have HE := Lib.hid (And.intro hE0 hS)
    clear hok hac hbal hfr hA hS ok1 sm1 hk hB ok2 hv hE0 hpay h0 hE
    go_enter Tryz.func72, Tryz.ntmps72
    go_wp2_with (first
      | (go_at_call 69; refine (ledger_spend HH.out.1 HH.out.2.1 HH.out.2.2 false).mono ?_; rw [HE.out.1, HE.out.2]; rintro e w1 ⟨rfl, h1, h2⟩; have hc1 := (HP.out w1 h1).1; have hf1 := h1.frozen (k * 2 + 1); have H1 := Lib.hid (And.intro h1 h2); clear h1 h2)
      | (go_at_call 68; refine (ledger_account HK.out _).mono ?_; rintro e w' ⟨rfl, hw⟩; rw [hw]; clear hw w')
      | fail)
    go_ret
    exact ⟨rfl, (HP.out _ H1.out.1).2.1, H1.out.2.trans (HP.out _ H1.out.1).2.2⟩
  · have hA : reserveA A M a n = A := by rw [reserveA, ← hE, if_neg h0]
    have hS : spent A M a n false = A := by rw [spent, ← hE, if_neg h0]
    rw [hA, ← hE]
    have HE := Lib.hid (And.intro hE hS)
    clear hA hS hE hok
    go_enter Tryz.func72, Tryz.ntmps72
    go_wp2_with (first
      | (go_at_call 69; refine (ledger_spend HH.out.1 HH.out.2.1 HH.out.2.2 false).mono ?_; rw [← HE.out.1, HE.out.2]; rintro e w1 ⟨rfl, h1, h2⟩; have H1 := Lib.hid (And.intro h1 h2); clear h1 h2)
      | fail)
    go_ret
    exact ⟨rfl, H1.out⟩
def transE (A : Acc) (M : Cls Int) (a b n : Int) : Int := if isAcc b then spendE A M a n (decide (a = b)) else 1
def transA (A : Acc) (M : Cls Int) (a b n : Int) : Acc := if transE A M a b n = 0 then giveA (spendA A a n) b.toNat n else A
set_option maxRecDepth 100000 in
set_option maxHeartbeats 1000000 in
theorem ledger_Transfer (h : LdAt N g gl A M w) (hN : N ≤ w.heap.size) {a : Int} (ha : (Lit.int .i64 a).wf = true) (b n : Int) : Calls Tryz.prog 29 #[.pointer (some ⟨g, 0, none⟩), .int .i64 a, .int .i64 b, .int .i64 n] w fun e w' => e = .returned (.int .i64 (transE A M a b n)) ∧ LdAt N g gl (transA A M a b n) M w' ∧ Below N w w' := by
  have hok := h.ok
  have HH := Lib.hid (And.intro h (And.intro hN ha))
  clear h hN ha
  by_cases hb : isAcc b
  · have hT : transE A M a b n = spendE A M a n (decide (a = b)) := by rw [transE, if_pos hb]
    obtain ⟨q, hq⟩ : ∃ q, q = decide (a = b) := ⟨_, rfl⟩
    rw [← hq] at hT
    obtain ⟨E, hE⟩ : ∃ E, E = spendE A M a n q := ⟨_, rfl⟩
    have hQ : (a == b) = q := by rw [hq]; exact Bool.eq_iff_iff.2 (by simp)
    obtain ⟨j, rfl, hj⟩ := isAcc_nat hb
    by_cases h0 : E = 0
    · obtain ⟨hac, hbal, hfr⟩ := spendE_ok (hE.symm.trans h0)
      have hA : transA A M a j n = giveA (spendA A a n) j n := by rw [transA, hT, ← hE, if_pos h0, Int.toNat_natCast]
      have hS : spent A M a n q = spendA A a n := by rw [spent, ← hE, if_pos h0]
      rw [hA, hT, ← hE, h0]
      have ok1 := spendA_ok hok hac hbal hfr
      have sm1 := sum_spendA A hac n
      obtain ⟨B, hB⟩ : ∃ B, B = spendA A a n := ⟨_, rfl⟩
      rw [← hB] at hS ok1 sm1 ⊢
      unfold isBal at hbal
      have ok2 : AccOk (giveA B j n) := giveA_ok ok1 hj hbal.1 (by have := hok.all; omega)
      obtain ⟨v, hv⟩ : ∃ v, v = (B j).1 := ⟨_, rfl⟩
      have hv0 : 0 ≤ v ∧ v ≤ 1073741824 := by have := ok1.one hj; have := ok1.held j; have := ok1.free j; unfold both at *; omega
      have hn1 : IntKind.i64.wrap (v + n) = v + n := IntWalk.i64_in _ (by omega)
      have hE0 : spendE A M a n q = 0 := by rw [← hE, h0]
      have hpay : ∀ w1, LdAt N g gl B M w1 → w1.cell? ⟨g, j * 2, none⟩ = some (.int .i64 v) ∧ LdAt N g gl (giveA B j n) M (w1.setCell ⟨g, j * 2, none⟩ (.int .i64 (v + n))) ∧ Below N w1 (w1.setCell ⟨g, j * 2, none⟩ (.int .i64 (v + n))) := fun w1 h1 => ⟨by rw [hv]; exact h1.free hj, by rw [hv]; exact h1.setFree hj _ ok2⟩
      have HP := Lib.hid hpay
      have HK := Lib.hid hj
      have HE := Lib.hid (And.intro hE0 hS)
      clear hok hac hbal hfr hA hS ok1 sm1 hj hB ok2 hv hE0 hpay h0 hE hq hb hT
      go_enter Tryz.func29, Tryz.ntmps29
      go_wp2_with (first
        | (go_at_call 69; refine (ledger_spend HH.out.1 HH.out.2.1 HH.out.2.2 q).mono ?_; rw [HE.out.1, HE.out.2]; rintro e w1 ⟨rfl, h1, h2⟩; have hc1 := (HP.out w1 h1).1; have hf1 := h1.frozen (j * 2); have H1 := Lib.hid (And.intro h1 h2); clear h1 h2)
        | (go_at_call 68; refine (ledger_account HK.out _).mono ?_; rintro e w' ⟨rfl, hw⟩; rw [hw]; clear hw w')
        | fail)
      go_ret
      exact ⟨rfl, (HP.out _ H1.out.1).2.1, H1.out.2.trans (HP.out _ H1.out.1).2.2⟩
    · have hA : transA A M a j n = A := by rw [transA, hT, ← hE, if_neg h0]
      have hS : spent A M a n q = A := by rw [spent, ← hE, if_neg h0]
      rw [hA, hT, ← hE]
      have HK := Lib.hid hj
      have HE := Lib.hid (And.intro hE hS)
      clear hA hS hE hok hb hj hT hq
      go_enter Tryz.func29, Tryz.ntmps29
      go_wp2_with (first
        | (go_at_call 69; refine (ledger_spend HH.out.1 HH.out.2.1 HH.out.2.2 q).mono ?_; rw [← HE.out.1, HE.out.2]; rintro e w1 ⟨rfl, h1, h2⟩; have H1 := Lib.hid (And.intro h1 h2); clear h1 h2)
        | (go_at_call 68; refine (ledger_account HK.out _).mono ?_; rintro e w' ⟨rfl, hw⟩; rw [hw]; clear hw w')
        | fail)
      go_ret
      exact ⟨rfl, H1.out⟩
  · have hT : transE A M a b n = 1 := by rw [transE, if_neg hb]
    have hA : transA A M a b n = A := by rw [transA, hT]; rfl
    rw [hT, hA]
    have HB := Lib.hid hb
    clear hT hA hb hok
    go_enter Tryz.func29, Tryz.ntmps29
    go_wp2_with (first
      | (go_at_call 68; refine (ledger_account_no HB.out _).mono ?_; rintro e w' ⟨rfl, hw⟩; rw [hw]; clear hw w')
      | fail)
    exact bodyPost_ret (v := .int .i64 1) (by simp [results, Tryz.results29, go_sem]) rfl ⟨rfl, HH.out.1, Below.refl _ _⟩
end
end Go.Proofs.YteioacpfphigjaaGreatDoor
end

section
namespace Go.Proofs.YteioacpfphigjaaGreatDoor
open Go.RowKit Go.Maps Go.Shelf
set_option linter.unusedVariables false
set_option linter.unusedSimpArgs false

def mintE (A : Acc) (a n : Int) : Int := if ¬ isAcc a ∨ ¬ isBal n then 1 else if 1073741824 < sumTo A 10 + n then 10 else 0
def mintA (A : Acc) (a n : Int) : Acc := if mintE A a n = 0 then giveA A a.toNat n else A
def lockM (M : Cls Int) (a i n : Int) : Cls Int := if ¬ isAcc a then M else if n = 0 ∨ ¬ isBal n then cdel M a i else cput M a i n
theorem lockM_len {M : Cls Int} (h : SrtC M) (a i n : Int) : (lockM M a i n).length ≤ M.length + 1 := by
  unfold lockM
  split
  · omega
  · split
    · have := h.length_del a i; omega
    · rw [h.length_put]; split <;> omega
section
variable {N g gl : Nat} {A : Acc} {M : Cls Int} {w : World}
theorem LdAt.relock {M' : Cls Int} {w' : World} (h : LdAt N g gl A M w) (hN : N ≤ w.heap.size) (hl : M'.length ≤ 10000) {F : FP} (hF : ∀ k, F k → N ≤ k ∧ k ≠ g) (ht : GrTo codI 301 gl M' F w w') : LdAt N g gl A M' w' ∧ Below N w w' := by
  obtain ⟨F', h1, h2, h3⟩ := ht
  refine ⟨⟨(h3.block g h.lt (fun hf => (hF g hf).2 rfl) (fun h => h)).trans h.blk, ⟨F', h1, fun k hk => (h2 k hk).elim (hF k) (fun hk => by have := h.lt; omega)⟩, h.lo, h.ok, hl⟩, h3.below hN (fun k hk => (hF k hk).1) (fun k h => h.elim)⟩
theorem LdAt.srt (h : LdAt N g gl A M w) : SrtC M := by obtain ⟨F, h1, _⟩ := h.gr; exact h1.1
set_option maxRecDepth 100000 in
set_option maxHeartbeats 1000000 in
theorem ledger_Lock (h : LdAt N g gl A M w) (hN : N ≤ w.heap.size) (hlen : M.length < 10000) {a i : Int} (ha : (Lit.int .i64 a).wf = true) (hi : (Lit.int .i64 i).wf = true) (n : Int) : Calls Tryz.prog 105 #[.pointer (some ⟨g, 0, none⟩), .int .i64 a, .int .i64 i, .int .i64 n] w fun e w' => e = .returned (.tuple #[]) ∧ LdAt N g gl A (lockM M a i n) w' ∧ Below N w w' := by
  by_cases hac : isAcc a
  · have hM : (lockM M a i n).length ≤ 10000 := by have := lockM_len h.srt a i n; omega
    obtain ⟨F, hF, hF2⟩ := h.gr
    have hp := h.ptr
    have hdel : n = 0 ∨ ¬ isBal n → Calls Tryz.prog 166 #[.pointer (some ⟨gl, 0, none⟩), .int .i64 a, .int .i64 i] w fun e w' => e = .returned (.bool (cget M a i).isSome) ∧ LdAt N g gl A (lockM M a i n) w' ∧ Below N w w' := fun hc => by
      have e : lockM M a i n = cdel M a i := by unfold lockM; rw [if_neg (by simp [hac]), if_pos hc]
      rw [e] at hM ⊢
      refine (grid_Del_I hF (by have := h.len; omega) ha hi).mono ?_
      rintro e w' ⟨rfl, h3⟩
      exact ⟨rfl, h.relock hN hM hF2 h3⟩
    have hset : ¬ (n = 0 ∨ ¬ isBal n) → Calls Tryz.prog 167 #[.pointer (some ⟨gl, 0, none⟩), .int .i64 a, .int .i64 i, .int .i64 n] w fun e w' => e = .returned (.tuple #[]) ∧ LdAt N g gl A (lockM M a i n) w' ∧ Below N w w' := fun hc => by
      have e : lockM M a i n = cput M a i n := by unfold lockM; rw [if_neg (by simp [hac]), if_neg hc]
      rw [e] at hM ⊢
      refine (grid_Set_I hF (by have := h.len; omega) ha hi n).mono ?_
      rintro e w' ⟨rfl, h3⟩
      exact ⟨rfl, h.relock hN hM hF2 h3⟩
    obtain ⟨k, rfl, hk⟩ := isAcc_nat hac
    have HK := Lib.hid hk
    have hex : n = 0 ∨ (¬ n = 0 ∧ ¬ isBal n) ∨ (¬ n = 0 ∧ isBal n) := by by_cases h1 : n = 0; exact .inl h1; by_cases h2 : isBal n; exact .inr (.inr ⟨h1, h2⟩); exact .inr (.inl ⟨h1, h2⟩)
    rcases hex with hn | ⟨hn, hbal⟩ | ⟨hn, hbal⟩
    · have HD := Lib.hid (hdel (.inl hn))
      clear h hN hlen ha hi hac hM hF hF2 hdel hset hk
      go_enter Tryz.func105, Tryz.ntmps105
      go_wp2_with (first
        | (go_at_call 68; refine (ledger_account HK.out _).mono ?_; rintro e w' ⟨rfl, hw⟩; rw [hw]; clear hw w')
        | (go_at_call 166; refine HD.out.mono ?_; rintro e w1 ⟨rfl, h1⟩; have H1 := Lib.hid h1; clear h1)
        | fail)
      exact bodyPost_end (results_none rfl _ _ _) rfl ⟨rfl, H1.out⟩
    · have HD := Lib.hid (hdel (.inr hbal))
      have hd : decide (0 ≤ n ∧ n ≤ 1073741824) = false := by unfold isBal at hbal; exact decide_eq_false hbal
      have HB := Lib.hid hd
      clear h hN hlen ha hi hac hM hF hF2 hdel hset hk hd hbal
      go_enter Tryz.func105, Tryz.ntmps105
      go_wp2_with (first
        | (go_at_call 68; refine (ledger_account HK.out _).mono ?_; rintro e w' ⟨rfl, hw⟩; rw [hw]; clear hw w')
        | (go_at_call 61; refine (bound_Balance n _).mono ?_; rw [HB.out]; rintro e w' ⟨rfl, hw⟩; rw [hw]; clear hw w')
        | (go_at_call 166; refine HD.out.mono ?_; rintro e w1 ⟨rfl, h1⟩; have H1 := Lib.hid h1; clear h1)
        | fail)
      exact bodyPost_end (results_none rfl _ _ _) rfl ⟨rfl, H1.out⟩
    · have HD := Lib.hid (hset (by simp [hn, hbal]))
      have hd : decide (0 ≤ n ∧ n ≤ 1073741824) = true := by unfold isBal at hbal; exact decide_eq_true hbal
      have HB := Lib.hid hd
      clear h hN hlen ha hi hac hM hF hF2 hdel hset hk hd hbal
      go_enter Tryz.func105, Tryz.ntmps105
      go_wp2_with (first
        | (go_at_call 68; refine (ledger_account HK.out _).mono ?_; rintro e w' ⟨rfl, hw⟩; rw [hw]; clear hw w')
        | (go_at_call 61; refine (bound_Balance n _).mono ?_; rw [HB.out]; rintro e w' ⟨rfl, hw⟩; rw [hw]; clear hw w')
        | (go_at_call 167; refine HD.out.mono ?_; rintro e w1 ⟨rfl, h1⟩; have H1 := Lib.hid h1; clear h1)
        | fail)
      exact bodyPost_end (results_none rfl _ _ _) rfl ⟨rfl, H1.out⟩
  · have e : lockM M a i n = M := by unfold lockM; rw [if_pos hac]
    rw [e]
    have HH := Lib.hid (And.intro h hac)
    clear h hN hlen ha hi hac e
    go_enter Tryz.func105, Tryz.ntmps105
    go_wp2_with (first
      | (go_at_call 68; refine (ledger_account_no HH.out.2 _).mono ?_; rintro e w' ⟨rfl, hw⟩; rw [hw]; clear hw w')
      | fail)
    exact bodyPost_end (results_none rfl _ _ _) rfl ⟨rfl, HH.out.1, Below.refl _ _⟩
end
end Go.Proofs.YteioacpfphigjaaGreatDoor
end

section
namespace Go.Proofs.YteioacpfphigjaaGreatDoor
open Go.ChangeShapes Go.WideShapes Go.ChangeAt Go.RowKit

section
variable {H : Type} {enc : TypeId × Value → H} {P : Program}

/-- Every argument reads as it read, where below the heap's old end nothing has turned. -/
theorem trodAll_stays (hl : laidOutB P = true) {W W' : World} (hb : Below W.heap.size W W') : ∀ (ts : List TypeId) (vs : List Value) (ds : List (DataW H)) (ps : List MemPlace),
    (ts.all fun t => P.readableRec t && decide (t < P.types.size)) = true → DataW.TrodAll enc P W 0 (fun _ => true) true ts vs ds ps →
    DataW.TrodAll enc P W' 0 (fun b => decide (b < W.heap.size)) true ts vs ds ps
  | [], [], [], _, _, h => h
  | t :: ts, v :: vs, d :: ds, _, hr, h => by
    obtain ⟨p, q, h1, h2, rfl⟩ := h
    simp only [List.all_cons, Bool.and_eq_true, decide_eq_true_eq] at hr
    have lt : ∀ x ∈ p, x.block < W.heap.size := by obtain ⟨m, hm⟩ := h1; exact DataW.trod_lt m _ _ _ hm
    exact ⟨p, q, Below.trod hl hr.1.1 hr.1.2 h1 hb lt, trodAll_stays hl hb ts vs ds q hr.2 h2, rfl⟩
  | [], _ :: _, _, _, _, h => h.elim
  | [], [], _ :: _, _, _, h => h.elim
  | _ :: _, [], _, _, _, h => h.elim
  | _ :: _, _ :: _, [], _, _, h => h.elim

theorem trodAll_lengths {w : World} {base : Nat} {spare : Nat → Bool} {held : Bool} : ∀ (ts : List TypeId) (vs : List Value) (ds : List (DataW H)) (ps : List MemPlace), DataW.TrodAll enc P w base spare held ts vs ds ps → ds.length = ts.length ∧ vs.length = ts.length
  | [], [], [], _, _ => ⟨rfl, rfl⟩
  | _ :: ts, _ :: vs, _ :: ds, _, h => by
    obtain ⟨_, q, _, h2, _⟩ := h
    have := trodAll_lengths ts vs ds q h2
    exact ⟨by simp [this.1], by simp [this.2]⟩
  | [], _ :: _, _, _, h => h.elim
  | [], [], _ :: _, _, h => h.elim
  | _ :: _, [], _, _, h => h.elim
  | _ :: _, _ :: _, [], _, h => h.elim

/-- What a law's specification says. -/
def IsLaw (s : ChangeSpec) (n : Nat) : Prop := s.vars = [] ∧ ∀ (H : Type) (ds : List (DataW H)), ds.length = n → s.fn H ds = { results := [.lit (.bool true)], args := ds }

/-- The closed facts on the program that a law's row needs. -/
structure LawFacts (P : Program) (fn : Func) : Prop where
  laid : laidOutB P = true
  read : (fn.params.toList.all fun t => P.readableRec t && decide (t < P.types.size)) = true
  res : ∃ T, fn.resultTypes = #[T] ∧ P.underlying T = some .bool

theorem law_post {fn : Func} {s : ChangeSpec} (hs : IsLaw s fn.params.size) (hf : LawFacts P fn) {W W' : World} {args : Array Value} {ds gs : List (DataW H)} {before : List MemPlace}
    (hW : DataW.Whole enc P fn.params.toList s.vars false W args.toList ds gs before) (hb : Below W.heap.size W W') :
    s.post enc P fn false true false false W args (.bool true) W' := by
  have hW' := hW
  obtain ⟨p, q, hA, hV, _, _, _⟩ := hW
  rw [hs.1] at hV
  obtain ⟨rfl, _⟩ := trodVars_none hV
  have hlen : ds.length = fn.params.size := by have := (trodAll_lengths _ _ _ _ hA).1; simpa using this
  have hfn := hs.2 H ds hlen
  obtain ⟨T, hT, hB⟩ := hf.res
  refine ⟨_, _, _, [], p, [], hW', ?_, ?_, ?_, hb.frame _, fun h => by cases h⟩
  · rw [List.append_nil, hfn, hT]
    exact trodAll_mk1 (shut_bool hB _)
  · rw [List.append_nil, hfn]
    exact trodAll_stays hf.laid hb _ _ _ _ hf.read hA
  · rw [List.append_nil, hfn, hs.1]
    rfl

end
end Go.Proofs.YteioacpfphigjaaGreatDoor
end

section
namespace Go.Proofs.YteioacpfphigjaaGreatDoor
open Go.ChangeShapes Go.WideShapes Go.ChangeAt Go.RowKit

section
variable {H : Type} {enc : TypeId × Value → H} {P : Program} {w : World} {base : Nat} {spare : Nat → Bool} {held : Bool}

/-- A cell's kind: an integer's, or none: a bool. -/
abbrev Leaf := Option IntKind

def leafFits : Leaf → Value → Prop
  | some k, v => ∃ n, v = .int k n ∧ (Lit.int k n).wf = true
  | .none, v => ∃ b, v = .bool b

def Fits : List Leaf → List Value → Prop
  | [], [] => True
  | l :: ls, v :: vs => leafFits l v ∧ Fits ls vs
  | _, _ => False

theorem fits_append : ∀ {a b : List Leaf} {x y : List Value}, Fits a x → Fits b y → Fits (a ++ b) (x ++ y)
  | [], _, [], _, _, h => h
  | _ :: _, _, _ :: _, _, h, k => ⟨h.1, fits_append h.2 k⟩
  | [], _, _ :: _, _, h, _ => h.elim
  | _ :: _, _, [], _, h, _ => h.elim

theorem fits_length : ∀ {a : List Leaf} {x : List Value}, Fits a x → x.length = a.length
  | [], [], _ => rfl
  | _ :: _, _ :: _, h => by simp [fits_length h.2]
  | [], _ :: _, h => h.elim
  | _ :: _, [], h => h.elim

theorem fits_int {k : IntKind} {ls : List Leaf} {cs : List Value} (h : Fits (some k :: ls) cs) : ∃ n vs, cs = .int k n :: vs ∧ (Lit.int k n).wf = true ∧ Fits ls vs := by
  match cs, h with
  | v :: vs, h => obtain ⟨⟨n, rfl, hn⟩, hr⟩ := h; exact ⟨n, vs, rfl, hn, hr⟩
theorem fits_bool {ls : List Leaf} {cs : List Value} (h : Fits (.none :: ls) cs) : ∃ b vs, cs = .bool b :: vs ∧ Fits ls vs := by
  match cs, h with
  | v :: vs, h => obtain ⟨⟨b, rfl⟩, hr⟩ := h; exact ⟨b, vs, rfl, hr⟩
theorem fits_nil {cs : List Value} (h : Fits [] cs) : cs = [] := by
  match cs, h with
  | [], _ => rfl

/-- The fields' leaves, where each field begins where the one before it ends. -/
def fieldLeaves (P : Program) (of : TypeId → Option (List Leaf)) : Nat → List Field → Option (List Leaf)
  | _, [] => some []
  | off, f :: fs => match of f.type, fieldLeaves P of (off + P.cellsOf f.type) fs with
    | some a, some b => if f.offset = off ∧ a.length = P.cellsOf f.type then some (a ++ b) else .none
    | _, _ => .none

def repeatLeaves (a : List Leaf) : Nat → List Leaf
  | 0 => []
  | n + 1 => a ++ repeatLeaves a n

/-- A flat type's leaves. -/
def leaves (P : Program) : Nat → TypeId → Option (List Leaf)
  | 0, _ => .none
  | n + 1, t => match P.underlying t with
    | some .bool => some [.none]
    | some (.int k) => some [some k]
    | some (.struct fs) => match fieldLeaves P (leaves P n) 0 fs.toList with
      | some ls => if ls.length = P.cellsOf t then some ls else .none
      | .none => .none
    | some (.array m e) => match leaves P n e with
      | some a => if a.length = P.cellsOf e ∧ m * P.cellsOf e = P.cellsOf t then some (repeatLeaves a m) else .none
      | .none => .none
    | _ => .none

theorem fields_fit {of : TypeId → Option (List Leaf)} {cs : List Value} : ∀ (fs : List Field) (off : Nat) (ls : List Leaf), fieldLeaves P of off fs = some ls →
    (∀ f ∈ fs, ∀ a, of f.type = some a → Fits a ((cs.drop f.offset).take (P.cellsOf f.type))) → ∃ pre rest, cs.drop off = pre ++ rest ∧ Fits ls pre
  | [], off, ls, h, _ => by
    simp only [fieldLeaves, Option.some.injEq] at h; subst h
    exact ⟨[], _, rfl, trivial⟩
  | f :: fs, off, ls, h, hf => by
    simp only [fieldLeaves] at h
    split at h
    · rename_i a b ha hb
      split at h
      · rename_i hc
        simp only [Option.some.injEq] at h; subst h
        have k := hf f (List.mem_cons_self ..) a ha
        obtain ⟨pre, rest, hd, hfit⟩ := fields_fit fs _ b hb (fun g hg => hf g (List.mem_cons_of_mem _ hg))
        rw [hc.1] at k
        refine ⟨(cs.drop off).take (P.cellsOf f.type) ++ pre, rest, ?_, fits_append k hfit⟩
        rw [List.append_assoc, ← hd, ← List.drop_drop, List.take_append_drop]
      · cases h
    · cases h

theorem repeat_length (a : List Leaf) : ∀ n, (repeatLeaves a n).length = n * a.length
  | 0 => by simp [repeatLeaves]
  | n + 1 => by rw [repeatLeaves, List.length_append, repeat_length a n, Nat.succ_mul]; omega

theorem repeat_fit {a : List Leaf} {c : Nat} : ∀ (m : Nat) (cs : List Value), (∀ i, i < m → Fits a ((cs.drop (i * c)).take c)) → ∃ pre rest, cs = pre ++ rest ∧ Fits (repeatLeaves a m) pre
  | 0, cs, _ => ⟨[], cs, rfl, trivial⟩
  | m + 1, cs, h => by
    have h0 := h 0 (by omega)
    simp only [Nat.zero_mul, List.drop_zero] at h0
    obtain ⟨pre, rest, hd, hf⟩ := repeat_fit (a := a) (c := c) m (cs.drop c) (fun i hi => by
      have := h (i + 1) (by omega)
      rw [Nat.succ_mul] at this
      rwa [List.drop_drop, Nat.add_comm c])
    exact ⟨cs.take c ++ pre, rest, by rw [List.append_assoc, ← hd, List.take_append_drop], fits_append h0 hf⟩

theorem flat_fits : ∀ (n : Nat) (t : TypeId) (ls : List Leaf), leaves P n t = some ls → ∀ (fuel : Nat) (cs : List Value) (x : DataW H × List MemPlace), DataW.trod enc P w base spare held fuel t cs = some x → Fits ls cs
  | 0, t, ls, h, _, _, _, _ => by simp [leaves] at h
  | n + 1, t, ls, h, fuel, cs, x, hx => by
    simp only [leaves] at h
    split at h
    · rename_i hu
      simp only [Option.some.injEq] at h; subst h
      cases fuel with
      | zero => simp [DataW.trod] at hx
      | succ m =>
        unfold DataW.trod at hx; rw [hu] at hx
        split at hx <;> simp_all [Fits, leafFits]
    · rename_i k hu
      simp only [Option.some.injEq] at h; subst h
      cases fuel with
      | zero => simp [DataW.trod] at hx
      | succ m =>
        unfold DataW.trod at hx; rw [hu] at hx
        split at hx <;> simp_all [Fits, leafFits]
    · rename_i fs hu
      split at h
      · rename_i l hl
        split at h
        · rename_i hc
          simp only [Option.some.injEq] at h; subst h
          obtain ⟨xs, m, rfl, hxx, hlen, hxl, hf⟩ := DataW.trod_struct hu hx
          obtain ⟨pre, rest, hd, hfit⟩ := fields_fit (P := P) (cs := cs) fs.toList 0 _ hl (fun f hmem a ha => by
            obtain ⟨i, hi, hie⟩ := List.getElem_of_mem hmem
            have hi' : i < xs.length := by rw [hxl]; simpa using hi
            have e1 : fs[i]? = some f := by rw [← Array.getElem?_toList, List.getElem?_eq_getElem hi, hie]
            have e2 := hf i f e1
            rw [List.getElem?_eq_getElem hi'] at e2
            exact flat_fits n f.type a ha m _ _ e2)
          have e := fits_length hfit
          rw [List.drop_zero] at hd
          have : rest = [] := by
            have h1 := congrArg List.length hd
            rw [List.length_append] at h1
            have : rest.length = 0 := by omega
            simpa using this
          subst this
          rw [hd, List.append_nil]; exact hfit
        · cases h
      · cases h
    · rename_i m e hu
      split at h
      · rename_i a ha
        split at h
        · rename_i hc
          simp only [Option.some.injEq] at h; subst h
          obtain ⟨xs, k, rfl, _, hlen, hxl, hf⟩ := DataW.trod_array hu hx
          obtain ⟨pre, rest, hd, hfit⟩ := repeat_fit (a := a) (c := P.cellsOf e) m cs (fun i hi => by
            have hi' : i < xs.length := by omega
            have e2 := hf i hi
            rw [List.getElem?_eq_getElem hi'] at e2
            exact flat_fits n e a ha k _ _ e2)
          have e3 := fits_length hfit
          rw [repeat_length] at e3
          have : rest = [] := by
            have h1 := congrArg List.length hd
            rw [List.length_append, e3, hc.1, hc.2] at h1
            have : rest.length = 0 := by omega
            simpa using this
          subst this
          rw [hd, List.append_nil]; exact hfit
        · cases h
      · cases h
    · cases h

/-- A struct by value comes as its cells, each within its kind. -/
theorem open_flat {r : Reach} {b0 : Nat} {t : TypeId} {fs : Array Field} {ls : List Leaf} {v : Value} {d : DataW H} {p : List MemPlace} (n : Nat) (hs : P.underlying t = some (.struct fs)) (hl : leaves P n t = some ls)
    (hv : Value.okWide P w r b0 t v) (h : DataW.Trod enc P w base spare held t v d p) : ∃ cs : List Value, v = .agg cs.toArray ∧ Fits ls cs := by
  obtain ⟨cs, rfl, _⟩ := okWide_struct hs hv
  obtain ⟨fuel, hf⟩ := h
  exact ⟨cs.toList, rfl, flat_fits n t ls hl fuel _ _ (by simpa [Value.cells] using hf)⟩

end
end Go.Proofs.YteioacpfphigjaaGreatDoor
end

section
namespace Go.Proofs.YteioacpfphigjaaGreatDoor
open Go.ChangeShapes Go.WideShapes Go.ChangeAt Go.RowKit Go.Deep
set_option linter.unusedVariables false

/-- A slice of integers reads as these. -/
def RdI (w : World) (v : Value) (l : List Int) : Prop :=
  (v = .slice none 0 0 ∧ l = []) ∨ ∃ a cap, v = .slice (some a) l.length cap ∧ l.length ≤ cap ∧ ∀ i, i < l.length → w.cell? (a.add i) = some (.int .i64 (l.getD i 0))
theorem cell_blockI {w : World} {a : Addr} {v : Value} (h : w.cell? a = some v) : a.block < w.heap.size := by
  by_cases hh : a.block < w.heap.size
  · exact hh
  · simp [World.cell?, Array.getElem?_eq_none (Nat.le_of_not_lt hh)] at h
theorem RdI.below {w w' : World} {v : Value} {l : List Int} (h : RdI w v l) (hb : Below w.heap.size w w') : RdI w' v l := by
  rcases h with h | ⟨a, cap, hv, hc, hcell⟩
  · exact .inl h
  · refine .inr ⟨a, cap, hv, hc, fun i hi => ?_⟩
    have hl := cell_blockI (hcell i hi)
    rw [hb.cell hl]; exact hcell i hi
theorem RdI.lenOf {w : World} {v : Value} {l : List Int} (h : RdI w v l) : ∃ ao cap, v = .slice ao l.length cap := by
  rcases h with ⟨rfl, rfl⟩ | ⟨a, cap, rfl, -⟩
  · exact ⟨_, _, rfl⟩
  · exact ⟨_, _, rfl⟩
theorem RdI.at {w : World} {ao : Option Addr} {n cap : Nat} {l : List Int} (h : RdI w (.slice ao n cap) l) {i : Nat} (hi : i < l.length) : ∃ a, ao = some a ∧ w.cell? (a.add i) = some (.int .i64 (l.getD i 0)) := by
  rcases h with ⟨hv, rfl⟩ | ⟨a, cap', hv, hc, hcell⟩
  · simp at hi
  · injection hv with h1 h2 h3
    exact ⟨a, h1, hcell i hi⟩

section
variable {H : Type} {enc : TypeId × Value → H} {P : Program} {w : World} {base : Nat} {held : Bool}
theorem open_RdI0 {t e : TypeId} {k : IntKind} {v : Value} {d : DataW H} {p : List MemPlace} (ht : P.underlying t = some (.slice e)) (he : P.underlying e = some (.int k)) (hc : P.cellsOf e = 1)
    (h : ∃ fuel, DataW.trod enc P w base (fun _ => true) held fuel t [v] = some (d, p)) : (v = .slice none 0 0) ∨
      ∃ (a : Addr) (len cap : Nat) (zs : List Int), v = .slice (some a) len cap ∧ len ≤ cap ∧ cap ≤ maxLen ∧ zs.length = cap ∧ (∀ i, i < cap → w.cell? (a.add i) = some (.int k (zs.getD i 0))) ∧ (∀ n ∈ zs, (Lit.int k n).wf = true) := by
  obtain ⟨fuel, hf⟩ := h
  rcases open_ints ht he hc hf with ⟨hcs, -⟩ | ⟨a, len, cap, zs, hcs, hb, hl, hm, hz, -, hcell, hwz⟩
  · exact .inl (by simpa using hcs)
  · simp only [if_true] at hz
    exact .inr ⟨a, len, cap, zs, by simpa using hcs, hl, hm, hz, fun i hi => hcell i (by omega), hwz⟩
theorem cells_sliceI {v : Value} {r : Reach} {b0 : Nat} {t e : TypeId} (ht : P.underlying t = some (.slice e)) (hv : Value.okWide P w r b0 t v) : v.cells.toList = [v] := by
  unfold Value.okWide at hv
  rw [ht] at hv
  simp only [Cell.okWide, Cell.ok, ht] at hv
  cases v <;> simp [Value.cells] at hv ⊢
theorem open_RdI {t e : TypeId} {v : Value} {d : DataW H} {p : List MemPlace} {r : Reach} {b0 : Nat} (ht : P.underlying t = some (.slice e)) (he : P.underlying e = some (.int .i64)) (hc : P.cellsOf e = 1)
    (hv : Value.okWide P w r b0 t v) (h : DataW.Trod enc P w base (fun _ => true) held t v d p) : ∃ l : List Int, RdI w v l ∧ (∀ n ∈ l, (Lit.int .i64 n).wf = true) ∧ l.length ≤ maxLen := by
  obtain ⟨fuel, hf⟩ := h
  rw [cells_sliceI ht hv] at hf
  rcases open_RdI0 ht he hc ⟨fuel, hf⟩ with rfl | ⟨a, len, cap, zs, rfl, hl, hm, hz, hcell, hw⟩
  · exact ⟨[], .inl ⟨rfl, rfl⟩, by simp, by simp⟩
  · have hlen : (zs.take len).length = len := by simp; omega
    refine ⟨zs.take len, .inr ⟨a, cap, by rw [hlen], by rw [hlen]; exact hl, fun i hi => ?_⟩, fun n hn => hw n (List.mem_of_mem_take hn), by rw [hlen]; omega⟩
    rw [hlen] at hi
    rw [hcell i (by omega)]
    have hiz : i < zs.length := by omega
    simp [hiz, hi]
end
end Go.Proofs.YteioacpfphigjaaGreatDoor
end

section
namespace Go.Proofs.YteioacpfphigjaaGreatDoor
open Go.RowKit Go.Maps Go.Shelf
set_option linter.unusedVariables false
set_option linter.unusedSimpArgs false

/-- The accounts of some balances. -/
def accL (l : List Int) : Acc := fun k => (l.getD k 0, 0)
def newOk (l : List Int) : Prop := l.length ≤ 10 ∧ (∀ k, k < l.length → isBal (l.getD k 0)) ∧ sumTo (accL l) 10 ≤ 1073741824
theorem accL_nil : accL [] = acc0 := by funext k; simp [accL, acc0]
theorem take_getD {l : List Int} {k j : Nat} : (l.take k).getD j 0 = if j < k then l.getD j 0 else 0 := by
  by_cases h : j < k
  · rw [if_pos h, List.getD_eq_getElem?_getD, List.getD_eq_getElem?_getD, List.getElem?_take_of_lt h]
  · rw [if_neg h, List.getD_eq_getElem?_getD, List.getElem?_eq_none (by simp; omega)]; rfl
theorem accL_step (l : List Int) (k : Nat) : upd (accL (l.take k)) k (l.getD k 0, (accL (l.take k) k).2) = accL (l.take (k + 1)) := by
  funext j
  by_cases e : j = k
  · subst e
    rw [upd_same]
    show (l.getD j 0, (0 : Int)) = ((l.take (j + 1)).getD j 0, 0)
    rw [take_getD, if_pos (by omega)]
  · rw [upd_other _ _ e]
    show ((l.take k).getD j 0, (0 : Int)) = ((l.take (k + 1)).getD j 0, 0)
    rw [take_getD, take_getD]
    by_cases h : j < k
    · rw [if_pos h, if_pos (by omega)]
    · rw [if_neg h, if_neg (by omega)]
theorem sum_accL_step (l : List Int) {k : Nat} (hk : k < 10) : sumTo (accL (l.take (k + 1))) 10 = sumTo (accL (l.take k)) 10 + l.getD k 0 := by
  rw [← accL_step, sumTo_upd, if_pos hk]
  have : both (accL (l.take k)) k = 0 := by unfold both accL; rw [take_getD, if_neg (by omega)]; rfl
  rw [this]
  show sumTo (accL (l.take k)) 10 + (l.getD k 0 + 0 - 0) = _
  omega
theorem accL_ok {l : List Int} (h : ∀ k, k < l.length → isBal (l.getD k 0)) (hs : sumTo (accL l) 10 ≤ 1073741824) : AccOk (accL l) := by
  refine ⟨fun k => ?_, fun k => by simp [accL], hs⟩
  unfold accL
  by_cases c : k < l.length
  · exact (h k c).1
  · rw [List.getD_eq_getElem?_getD, List.getElem?_eq_none (by omega)]; simp
theorem sum_accL_mono {l : List Int} (h : ∀ k, k < l.length → isBal (l.getD k 0)) (k : Nat) : sumTo (accL (l.take k)) 10 ≤ sumTo (accL l) 10 := by
  have key : ∀ n, sumTo (accL (l.take k)) n ≤ sumTo (accL l) n := by
    intro n
    induction n with
    | zero => exact Int.le_refl _
    | succ n ih =>
      rw [sumTo, sumTo]
      have : both (accL (l.take k)) n ≤ both (accL l) n := by
        unfold both accL
        rw [take_getD]
        by_cases c : n < l.length
        · have := (h n c).1; split <;> simp only <;> omega
        · have e : l.getD n 0 = 0 := by rw [List.getD_eq_getElem?_getD, List.getElem?_eq_none (by omega)]; rfl
          rw [e]; split <;> simp
      omega
  exact key 10
theorem newOk_nil : newOk [] := ⟨by simp, fun k hk => absurd hk (Nat.not_lt_zero k), by rw [accL_nil]; decide⟩
theorem LdAt.start {N g gl : Nat} {w1 w2 : World} (ho : GrOwn codI 301 N gl [] w1) (hN : N ≤ w1.heap.size) (hg : g = w1.heap.size) (hw : w2 = w1.alloc (.cells (lcells acc0 gl).toArray 115)) : LdAt N g gl acc0 [] w2 ∧ Below N w1 w2 := by
  obtain ⟨F, h1, h2⟩ := ho
  have hB : Below w1.heap.size w1 w2 := by rw [hw]; exact (Below.refl _ w1).alloc (Nat.le_refl _) _
  refine ⟨⟨by rw [hw, hg]; exact World.alloc_heap_new _ _, ⟨F, h1.keep (Grow.of_below hB) (fun k hk => hB.block k (h1.2.2.1 k hk)), fun k hk => ⟨h2 k hk, fun e => by have := h1.2.2.1 k hk; omega⟩⟩, by omega, AccOk.zero, by simp⟩, hB.mono hN⟩
set_option maxRecDepth 100000 in
set_option maxHeartbeats 4000000 in
theorem ledger_New (v : Value) (l : List Int) (w : World) (hr : RdI w v l) (hm : l.length ≤ maxLen) : Calls Tryz.prog 52 #[v] w fun e w' => Below w.heap.size w w' ∧ ((newOk l ∧ ∃ g, e = .returned (.tuple #[.pointer (some ⟨g, 0, none⟩), .int .i64 0]) ∧ ∃ gl, LdAt w.heap.size g gl (accL l) [] w') ∨ (¬ newOk l ∧ e = .returned (.tuple #[.pointer none, .int .i64 1]))) := by
  obtain ⟨ao, cap, rfl⟩ := hr.lenOf
  obtain ⟨L, hL⟩ : ∃ L, L = l.length := ⟨_, rfl⟩
  rw [← hL] at hr hm ⊢
  have HR := Lib.hid (And.intro hr hL)
  clear hr hm hL
  go_enter Tryz.func52, Tryz.ntmps52
  by_cases c0 : (10 : Int) < (L : Int)
  · go_wp2_with fail
    exact bodyPost_ret (v := .tuple #[.pointer none, .int .i64 1]) (by simp [results, Tryz.results52, go_sem]) rfl ⟨Below.refl _ _, .inr ⟨fun h => by have := h.1; have := HR.out.2; omega, rfl⟩⟩
  have hL10 : L ≤ 10 := by omega
  go_wp2_with (first
    | (go_at_call 126; refine (grid_New_own_I w).mono ?_; rintro e w1 ⟨gl, rfl, ho1, hb1⟩; have H1 := Lib.hid (And.intro ho1 hb1); clear ho1 hb1)
    | fail)
  obtain ⟨w2, hw2⟩ : ∃ w2, w2 = w1.alloc (.cells #[.int .i64 0, .int .i64 0, .int .i64 0, .int .i64 0, .int .i64 0, .int .i64 0, .int .i64 0, .int .i64 0, .int .i64 0, .int .i64 0, .int .i64 0, .int .i64 0, .int .i64 0, .int .i64 0, .int .i64 0, .int .i64 0, .int .i64 0, .int .i64 0, .int .i64 0, .int .i64 0, .pointer (some ⟨gl, 0, none⟩)] 115) := ⟨_, rfl⟩
  obtain ⟨g, hg⟩ : ∃ g, g = w1.heap.size := ⟨_, rfl⟩
  obtain ⟨hl0, hb0⟩ := LdAt.start H1.out.1 H1.out.2.size hg (hw2.trans rfl)
  rw [← hw2, ← hg]
  have H2 := Lib.hid (And.intro hl0 (H1.out.2.trans hb0))
  clear hw2 hg hl0 hb0 H1
  go_loopw [15] (fun i wr => ∃ k : Nat, k ≤ L ∧ i = .int .i64 k ∧ (∀ j, j < k → isBal (l.getD j 0)) ∧ LdAt w.heap.size g gl (accL (l.take k)) [] wr ∧ Below w.heap.size w wr) (fun i _ => L - (intOf i).toNat)
  case atStart => exact ⟨0, by omega, rfl, fun j hj => by omega, by rw [List.take_zero, accL_nil]; exact H2.out.1, H2.out.2⟩
  case round =>
    obtain ⟨k, hk, rfl, hbs, hld, hbl⟩ := hrel
    have HS := Lib.hid (And.intro hbs (And.intro hld hbl))
    by_cases hlt : k < L
    · have hlt' : (k : Int) < L := by omega
      have hk10 : (k : Int) < 10 := by omega
      obtain ⟨a, rfl, ca⟩ := (HR.out.1.below hbl).at (show k < l.length by rw [← HR.out.2]; exact hlt)
      obtain ⟨n, hn⟩ : ∃ n, n = l.getD k 0 := ⟨_, rfl⟩
      rw [← hn] at ca
      obtain ⟨s, hs⟩ : ∃ s, s = sumTo (accL (l.take k)) 10 := ⟨_, rfl⟩
      have hs0 : 0 ≤ s ∧ s ≤ 1073741824 := by rw [hs]; exact hld.ok.part (Nat.le_refl _)
      have hiss := ledger_Issued hld
      rw [← hs] at hiss
      have HI := Lib.hid hiss
      have hs1 : sumTo (accL (l.take (k + 1))) 10 = s + n := by rw [hs, hn]; exact sum_accL_step l (by omega)
      have HN := Lib.hid (And.intro hn hs1)
      clear hiss hs hn hs1 hbs hld hbl
      by_cases hbal : isBal n
      · have hbal' := hbal
        unfold isBal at hbal'
        have hd : decide (0 ≤ n ∧ n ≤ 1073741824) = true := decide_eq_true hbal'
        obtain ⟨sn, hsn⟩ : ∃ sn, sn = s + n := ⟨_, rfl⟩
        have hn2 : IntKind.i64.wrap (s + n) = sn := by rw [hsn]; exact IntWalk.i64_in _ (by omega)
        by_cases hov : 1073741824 < sn
        · have hd2 : decide (0 ≤ sn ∧ sn ≤ 1073741824) = false := decide_eq_false (by omega)
          have hbad : ¬ newOk l := fun h => by have h1 := sum_accL_mono h.2.1 (k + 1); have h2 := HN.out.2; have h3 := h.2.2; omega
          have HD := Lib.hid (And.intro hd (And.intro hd2 hbad))
          clear hbal hbal' hd hsn hd2 hov hbad hs0
          have tok : True := trivial
          go_wp2_with (first
            | (go_at_call 61; have _t := tok; refine (bound_Balance n _).mono ?_; rw [HD.out.1]; rintro e w' ⟨rfl, hw⟩; rw [hw]; clear hw w' tok)
            | (go_at_call 27; refine HI.out.mono ?_; rintro e w3 ⟨rfl, hb⟩; have H3 := Lib.hid hb; clear hb)
            | (go_at_call 61; refine (bound_Balance sn _).mono ?_; rw [HD.out.2.1]; rintro e w' ⟨rfl, hw⟩; rw [hw]; clear hw w')
            | fail)
          exact bodyPost_ret (v := .tuple #[.pointer none, .int .i64 1]) (by simp [results, Tryz.results52, go_sem]) rfl ⟨HS.out.2.2.trans (H3.out.mono HS.out.2.2.size), .inr ⟨HD.out.2.2, rfl⟩⟩
        · have hd2 : decide (0 ≤ sn ∧ sn ≤ 1073741824) = true := decide_eq_true (by omega)
          have hok2 : AccOk (upd (accL (l.take k)) k (n, (accL (l.take k) k).2)) := by
            have hld := HS.out.2.1
            have h1 := HN.out.2
            rw [HN.out.1, ← accL_step] at h1
            rw [HN.out.1] at hsn hbal'
            rw [HN.out.1]
            refine ⟨fun j => ?_, fun j => ?_, by omega⟩
            · by_cases e : j = k
              · subst e; rw [upd_same]; exact hbal'.1
              · rw [upd_other _ _ e]; exact hld.ok.free j
            · by_cases e : j = k
              · subst e; rw [upd_same]; exact hld.ok.held j
              · rw [upd_other _ _ e]; exact hld.ok.held j
          have hpay : ∀ w1, LdAt w.heap.size g gl (accL (l.take k)) [] w1 → LdAt w.heap.size g gl (accL (l.take (k + 1))) [] (w1.setCell ⟨g, k * 2, none⟩ (.int .i64 n)) ∧ Below w.heap.size w1 (w1.setCell ⟨g, k * 2, none⟩ (.int .i64 n)) := fun w1 h1 => by
            have := h1.setFree (a := k) (by omega) n hok2
            refine ⟨?_, this.2⟩
            rw [← accL_step, ← HN.out.1]; exact this.1
          have HD := Lib.hid (And.intro hd (And.intro hd2 hbal))
          have HP := Lib.hid hpay
          clear hbal hbal' hd hsn hd2 hov hs0 hok2 hpay
          have tok : True := trivial
          go_wp2_with (first
            | (go_at_call 61; have _t := tok; refine (bound_Balance n _).mono ?_; rw [HD.out.1]; rintro e w' ⟨rfl, hw⟩; rw [hw]; clear hw w' tok)
            | (go_at_call 27; refine HI.out.mono ?_; rintro e w3 ⟨rfl, hb⟩; have h3 := HS.out.2.1.below hb; have hf3 := h3.frozen (k * 2); have hc3 := h3.free (k := k) (by omega); have H3 := Lib.hid (And.intro h3 (hb.mono HS.out.2.2.size)); clear hb h3)
            | (go_at_call 61; refine (bound_Balance sn _).mono ?_; rw [HD.out.2.1]; rintro e w' ⟨rfl, hw⟩; rw [hw]; clear hw w')
            | fail)
          go_roundw
          case rel =>
            refine ⟨k + 1, by omega, by go_num, fun j hj => ?_, (HP.out _ H3.out.1).1, HS.out.2.2.trans (H3.out.2.trans (HP.out _ H3.out.1).2)⟩
            by_cases e : j = k
            · subst e; rw [← HN.out.1]; exact HD.out.2.2
            · exact HS.out.1 j (by omega)
          case measure => simp [intOf]; omega
      · have hd : decide (0 ≤ n ∧ n ≤ 1073741824) = false := by unfold isBal at hbal; exact decide_eq_false hbal
        have hbad : ¬ newOk l := fun h => hbal (by rw [HN.out.1]; exact h.2.1 k (by rw [← HR.out.2]; exact hlt))
        have HD := Lib.hid (And.intro hd hbad)
        clear hbal hd hbad hs0
        go_wp2_with (first
          | (go_at_call 61; refine (bound_Balance n _).mono ?_; rw [HD.out.1]; rintro e w' ⟨rfl, hw⟩; rw [hw]; clear hw w')
          | fail)
        exact bodyPost_ret (v := .tuple #[.pointer none, .int .i64 1]) (by simp [results, Tryz.results52, go_sem]) rfl ⟨HS.out.2.2, .inr ⟨HD.out.2, rfl⟩⟩
    · have hge : ¬ (k : Int) < L := by omega
      have hkl : l.take k = l := List.take_of_length_le (by have := HR.out.2; omega)
      have hfin : newOk l ∧ LdAt w.heap.size g gl (accL l) [] wr := by
        rw [hkl] at hld
        exact ⟨⟨by have := HR.out.2; omega, fun j hj => hbs j (by have := HR.out.2; omega), hld.ok.all⟩, hld⟩
      have HF := Lib.hid hfin
      clear hfin hkl hbs hld hbl
      go_wp2_with fail
      exact bodyPost_ret (v := .tuple #[.pointer (some ⟨g, 0, none⟩), .int .i64 0]) (by simp [results, Tryz.results52, go_sem]) rfl ⟨HS.out.2.2, .inl ⟨HF.out.1, g, rfl, gl, HF.out.2⟩⟩
end Go.Proofs.YteioacpfphigjaaGreatDoor
end

section
namespace Go.Proofs.YteioacpfphigjaaGreatDoor
open Go.RowKit Go.Maps Go.Shelf
set_option linter.unusedVariables false
set_option linter.unusedSimpArgs false

theorem ledger_New_ok {v : Value} {l : List Int} {w : World} (hr : RdI w v l) (hm : l.length ≤ maxLen) (hok : newOk l) : Calls Tryz.prog 52 #[v] w fun e w' => ∃ g gl, e = .returned (.tuple #[.pointer (some ⟨g, 0, none⟩), .int .i64 0]) ∧ LdAt w.heap.size g gl (accL l) [] w' ∧ Below w.heap.size w w' := by
  refine (ledger_New v l w hr hm).mono ?_
  rintro e w' ⟨hb, ⟨-, g, rfl, gl, hl⟩ | ⟨hno, -⟩⟩
  · exact ⟨g, gl, rfl, hl, hb⟩
  · exact absurd hok hno
theorem ledger_New_bad {v : Value} {l : List Int} {w : World} (hr : RdI w v l) (hm : l.length ≤ maxLen) (hok : ¬ newOk l) : Calls Tryz.prog 52 #[v] w fun e w' => e = .returned (.tuple #[.pointer none, .int .i64 1]) ∧ Below w.heap.size w w' := by
  refine (ledger_New v l w hr hm).mono ?_
  rintro e w' ⟨hb, ⟨hyes, -⟩ | ⟨-, rfl⟩⟩
  · exact absurd hyes hok
  · exact ⟨rfl, hb⟩
/-- A slice literal's numbers. -/
theorem RdI.lit (w : World) (T : TypeId) (l : List Int) (n : Nat) (hn : l.length = n) : RdI (w.alloc (.cells (l.map (fun n => Value.int .i64 n)).toArray T)) (.slice (some ⟨w.heap.size, 0, none⟩) n n) l := by
  subst hn
  refine .inr ⟨⟨w.heap.size, 0, none⟩, _, rfl, Nat.le_refl _, fun i hi => ?_⟩
  have h := World.alloc_heap_new w (.cells (l.map (fun n => Value.int .i64 n)).toArray T)
  have e : (⟨w.heap.size, 0, none⟩ : Addr).add i = ⟨w.heap.size, i, none⟩ := by rw [Addr.add_mid]; simp
  rw [e]
  refine cell_of h ?_
  simp [hi, List.getD_eq_getElem?_getD]
def M1 : Cls Int := lockM [] 0 1 3
theorem newOk_one {n : Int} (h : isBal n) : newOk [n] := by
  refine ⟨by simp, fun k hk => ?_, ?_⟩
  · have e : k = 0 := by simpa using hk
    subst e; exact h
  · have : sumTo (accL [n]) 10 = n := by simp [sumTo, both, accL]
    rw [this]; exact h.2
theorem known1 : newOk [5] := newOk_one (by decide)
theorem known2 : transE (accL [5]) M1 0 1 3 = 7 := by decide +kernel
theorem known2a : transA (accL [5]) M1 0 1 3 = accL [5] := by unfold transA; rw [known2]; rfl
theorem known3 : transE (accL [5]) M1 0 1 2 = 0 := by decide +kernel
def A52 : Acc := transA (accL [5]) M1 0 1 2
theorem known4 : (accOf A52 0).1 = 3 := by decide +kernel
theorem known5 : sumTo A52 10 = 5 := by decide +kernel
end Go.Proofs.YteioacpfphigjaaGreatDoor
end

section
namespace Go.Proofs.YteioacpfphigjaaGreatDoor
open Go.RowKit Go.Maps Go.Shelf
set_option linter.unusedVariables false
set_option linter.unusedSimpArgs false

section
variable {w : World} {ops : Array Oper} {rest : List Oper} {o : Oper} {a : Act} {Q : Exit → Act → World → Prop}
theorem wpl_appN {s x : Operand} {B ub : Nat} {v : Value} {xs : List Int} {y : Int} (hgd : o.guard = none)
    (ho : o.op = .call { callee := .builtin .append, args := #[s, x], argTypes := #[63, 63] }) (hs : a.eval s = v) (hx : a.eval x = .slice (some ⟨ub, 0, none⟩) 1 1)
    (hown : OwnN B v xs w) (hc : w.cell? ⟨ub, 0, none⟩ = some (.int .i64 y)) (hlen : xs.length ≤ 100000) (hB : B ≤ w.heap.size)
    (h : ∀ v' w', OwnN B v' (xs ++ [y]) w' → w.grownBy w' v.ownBlock → wpList Tryz.prog ops Q rest (a.put o.dst v') w') : wpList Tryz.prog ops Q (o :: rest) a w := by
  obtain ⟨i0, hi, hz⟩ := Option.map_eq_some_iff.1 infoI
  simp only [Prod.mk.injEq] at hz
  obtain ⟨hz0, hz1, hz2⟩ := hz
  refine wpList_append_own _ hgd s x _ ho B 3 i0 (.int .i64 0) 1 8 Tryz.underlying63 hi hz0 hz1 hz2 rfl (by decide) v _ _ hs hown ⟨ub, 0, none⟩ 1 1 [.int .i64 y] hx (by simp)
    (fun j u hj => by
      cases j with
      | zero => simp only [List.getElem?_cons_zero, Option.some.injEq] at hj; subst hj; rw [Addr.add_mid]; exact hc
      | succ j => simp at hj) (by simp [Value.oneCell']) (by unfold maxLen; omega) (by omega) hB ?_
  intro v' w' h1 h2 h3
  refine h v' w' ?_ h2
  unfold OwnN
  rw [List.length_append]
  simpa [Is] using h1
end
theorem OwnN.readsI {B : Nat} {v : Value} {l : List Int} {w : World} (h : OwnN B v l w) : RdI w v l := by
  have h0 := h
  obtain ⟨hl, h2⟩ := h
  rcases h2 with ⟨rfl, e⟩ | ⟨g, cap, cur, rfl, _, hg, hn, _, hs, ht⟩
  · exact .inl ⟨rfl, List.eq_nil_of_length_eq_zero e⟩
  · refine .inr ⟨⟨g, 0, none⟩, cap, rfl, hn, fun i hi => ?_⟩
    have e : (⟨g, 0, none⟩ : Addr).add i = ⟨g, i, none⟩ := by rw [Addr.add_mid]; simp
    rw [e, World.cell?, hg]
    have h1 : (Is l)[i]? = some (.int .i64 (l.getD i 0)) := by simp [Is, hi, List.getD_eq_getElem?_getD]
    rw [← ht, List.getElem?_take_of_lt (by omega)] at h1
    simpa using h1
theorem bits_fff (x : Int) : ∃ z : Int, bits .and .i64 x 1048575 = z ∧ 0 ≤ z ∧ z ≤ 1048575 := by
  refine ⟨(BitVec.ofInt 64 x &&& BitVec.ofInt 64 1048575).toNat, ?_, ?_, ?_⟩
  · have h7 : (BitVec.ofInt 64 x &&& BitVec.ofInt 64 1048575).toNat ≤ 1048575 := by
      rw [BitVec.toNat_and]
      exact Nat.le_trans Nat.and_le_right (by decide)
    show IntKind.i64.wrap ((BitVec.ofInt 64 x &&& BitVec.ofInt 64 1048575).toNat : Int) = _
    exact IntWalk.i64_in _ (by omega)
  · omega
  · have h7 : (BitVec.ofInt 64 x &&& BitVec.ofInt 64 1048575).toNat ≤ 1048575 := by
      rw [BitVec.toNat_and]
      exact Nat.le_trans Nat.and_le_right (by decide)
    omega
theorem newOk_small {l : List Int} (hl : l.length ≤ 10) (h : ∀ n ∈ l, 0 ≤ n ∧ n ≤ 1048575) : newOk l := by
  have hg : ∀ k, 0 ≤ l.getD k 0 ∧ l.getD k 0 ≤ 1048575 := fun k => by
    by_cases c : k < l.length
    · rw [List.getD_eq_getElem?_getD, List.getElem?_eq_getElem c]; exact h _ (List.getElem_mem _)
    · rw [List.getD_eq_getElem?_getD, List.getElem?_eq_none (by omega)]; simp
  refine ⟨hl, fun k _ => by have := hg k; unfold isBal; omega, ?_⟩
  have key : ∀ n : Nat, sumTo (accL l) n ≤ n * 1048575 := by
    intro n
    induction n with
    | zero => simp [sumTo]
    | succ n ih =>
      rw [sumTo]
      have : both (accL l) n = l.getD n 0 := by unfold both accL; simp only; omega
      rw [this]
      have := hg n
      omega
  have := key 10
  omega
end Go.Proofs.YteioacpfphigjaaGreatDoor
end

section
namespace Go.Proofs.YteioacpfphigjaaGreatDoor
open Go.RowKit Go.Maps
set_option linter.unusedVariables false
set_option linter.unusedSimpArgs false

def tcA : Trk := ⟨2, 20, 1, 6, 2, 2, 1, 500000000, 500000000, 1, 0, 1, 10000000, 10000000, 1, 0, 50, 0⟩
def tcB : Trk := ⟨1, 20, 1, 6, 2, 0, 1, 500000000, 500000000, 1, 0, 1, 10000000, 10000000, 1, 0, 1000, 2⟩
theorem law14_flat (a : Int) (w : World) : Calls Tryz.prog 119 #[.int .i64 a] w fun e w' => e = .returned (.agg #[.int .i64 1, .int .i64 a, .int .i64 a, .int .i64 1, .int .i64 0]) ∧ Below w.heap.size w w' := by
  go_enter Tryz.func119, Tryz.ntmps119
  go_wp2_with fail
  exact bodyPost_ret (v := .agg #[.int .i64 1, .int .i64 a, .int .i64 a, .int .i64 1, .int .i64 0]) (by simp [results, Tryz.results119, go_sem]) rfl ⟨rfl, (Below.refl _ w).alloc (Nat.le_refl _) _⟩
theorem fill_tc : (Tryz.prog.info? 108).bind (fun ie => ie.zero.bind (fun z => Instr.fill (fun i => some (i * 18, 18)) ((Array.range (2 * 18)).map (z.cells[· % z.cells.size]!)) [(0, .agg (trkL tcA).toArray), (1, .agg (trkL tcB).toArray)])) = some ((trkL tcA ++ trkL tcB).toArray) := by kernel_rfl
theorem wpl_buildTc {w : World} {ops : Array Oper} {rest : List Oper} {o : Oper} {a : Act} {Q : Exit → Act → World → Prop} (x y : Operand) (hgd : o.guard = none) (ho : o.op = .buildSlice 65 2 #[(0, x), (1, y)])
    (hx : a.eval x = .agg (trkR.f tcA).toArray) (hy : a.eval y = .agg (trkR.f tcB).toArray)
    (h : wpList Tryz.prog ops Q rest (a.put o.dst (.slice (some ⟨w.heap.size, 0, none⟩) 2 2)) (w.alloc (.cells (trkR.all [tcA, tcB]).toArray 108))) : wpList Tryz.prog ops Q (o :: rest) a w := by
  have hf := fill_tc
  obtain ⟨ie, hie, hf⟩ := Option.bind_eq_some_iff.1 hf
  obtain ⟨z0, hz0, hf⟩ := Option.bind_eq_some_iff.1 hf
  have hsz : ie.size = 18 := by have := trackSize; rw [hie] at this; simpa using congrArg (Option.map Prod.fst) this
  refine wpList_buildSlice hgd 65 108 2 _ ho (trkR.all [tcA, tcB]).toArray ie z0 Tryz.underlying65 hie hz0 (by rw [hsz]; decide) (by rw [hsz]; decide) ?_ h
  rw [hsz]
  have e : (Array.map (fun x => match x with | (i, x) => (i, a.eval x)) #[(0, x), (1, y)]).toList = [(0, .agg (trkL tcA).toArray), (1, .agg (trkL tcB).toArray)] := by
    simp only [List.map_toArray, List.map_cons, List.map_nil, hx, hy]; rfl
  rw [e, hf]
  rfl
set_option maxRecDepth 100000 in
set_option maxHeartbeats 4000000 in
theorem law14_tracks (w : World) : Calls Tryz.prog 47 #[] w fun e w' => ∃ b, e = .returned (.slice (some ⟨b, 0, none⟩) 2 2) ∧ w'.rangeAt b 0 (trkR.all [tcA, tcB]) ∧ w.heap.size ≤ b ∧ b < w'.heap.size ∧ Below w.heap.size w w' := by
  have tok : True := trivial
  go_enter Tryz.func47, Tryz.ntmps47
  go_upto_region 2 with (first
    | (go_at_call 119; have _t := tok; refine (law14_flat _ _).mono ?_; rintro e w1 ⟨rfl, hb⟩; have H1 := Lib.hid hb; clear hb tok)
    | (go_at_call 119; refine (law14_flat _ _).mono ?_; rintro e w2 ⟨rfl, hb⟩; have H2 := Lib.hid hb; clear hb)
    | (refine wpl_allocR (r := trkR) (ty := 108) rfl rfl rfl ?_; intro C hC)
    | (refine wpl_storeR (r := trkR) (ty := 108) (t := tcA) (C := C) _ _ rfl rfl rfl rfl rfl (World.alloc_heap_new w2 _) hC ?_; rw [World.setRow_alloc_new])
    | fail)
  obtain ⟨W0, hW0⟩ : ∃ W0, W0 = w2.alloc (.cells (trkR.f tcA).toArray 108) := ⟨_, rfl⟩
  obtain ⟨ta, hta⟩ : ∃ ta, ta = w2.heap.size := ⟨_, rfl⟩
  have hb0 : Below w.heap.size w W0 := by rw [hW0]; exact ((H1.out.trans (H2.out.mono H1.out.size))).alloc (by have := H1.out.size; have := H2.out.size; omega) _
  have hl0 : ta < W0.heap.size := by rw [hW0, hta]; simp
  have hr0 : W0.rangeAt ta 0 (trkR.f tcA) := by rw [hta, hW0]; exact rangeAt_whole (T := 108) (World.alloc_heap_new _ _)
  rw [show w2.alloc (.cells (trkR.f tcA).toArray 108) = W0 from hW0.symm, ← hta]
  have HB0 := Lib.hid (And.intro hb0 hl0)
  have R0 := Lib.hid hr0
  clear hW0 hta hC hb0 hl0 hr0
  go_upto_region 3 with (first
    | (refine wpl_allocR (r := trkR) (ty := 108) rfl rfl rfl ?_; intro C hC)
    | (refine wpl_loadR (r := trkR) (t := tcA) (b := ta) (k := 0) _ rfl rfl rfl R0.out ?_)
    | (refine wpl_storeR (r := trkR) (ty := 108) (t := tcA) (C := C) _ _ rfl rfl rfl rfl rfl (World.alloc_heap_new W0 _) hC ?_; rw [World.setRow_alloc_new])
    | fail)
  obtain ⟨W1, hW1⟩ : ∃ W1, W1 = W0.alloc (.cells (trkR.f tcA).toArray 108) := ⟨_, rfl⟩
  obtain ⟨tb, htb⟩ : ∃ tb, tb = W0.heap.size := ⟨_, rfl⟩
  have h1 : W1.heap[tb]? = some (.cells (trkR.f tcA).toArray 108 (0, 0)) := by rw [hW1, htb]; exact World.alloc_heap_new _ _
  have hb1 : Below W0.heap.size W0 W1 := by rw [hW1]; exact (Below.refl _ W0).alloc (Nat.le_refl _) _
  rw [show W0.alloc (.cells (trkR.f tcA).toArray 108) = W1 from hW1.symm, ← htb]
  have froz : ∀ {b i : Nat} {l : List Value} {W : World}, W.heap[b]? = some (.cells l.toArray 108 (0, 0)) → W.frozen? ⟨b, i, none⟩ = false := fun h => by simp [World.frozen?, h]
  have cell : ∀ {b i : Nat} {l : List Value} {v : Value} {W : World}, W.heap[b]? = some (.cells l.toArray 108 (0, 0)) → l[i]? = some v → W.cell? ⟨b, i, none⟩ = some v := fun h hv => by rw [World.cell?, h]; simpa using hv
  have x0 : W1.cell? ⟨tb, 0, none⟩ = some (.int .i64 2) := cell h1 rfl
  have x1 : W1.cell? ⟨tb, 17, none⟩ = some (.int .i64 0) := cell h1 rfl
  have x2 : W1.cell? ⟨tb, 16, none⟩ = some (.int .i64 50) := cell h1 rfl
  have x3 : W1.cell? ⟨tb, 5, none⟩ = some (.int .i64 2) := cell h1 rfl
  have y0 : W1.frozen? ⟨tb, 0, none⟩ = false := froz h1
  have y1 : W1.frozen? ⟨tb, 17, none⟩ = false := froz h1
  have y2 : W1.frozen? ⟨tb, 16, none⟩ = false := froz h1
  have y3 : W1.frozen? ⟨tb, 5, none⟩ = false := froz h1
  have HW := Lib.hid (And.intro h1 (And.intro hb1 htb))
  clear h1 hb1 htb hW1 hC froz cell
  go_upto_region 4 with fail
  obtain ⟨WX, hWX⟩ : ∃ WX, WX = (((W1.setCell ⟨tb, 0, none⟩ (.int .i64 1)).setCell ⟨tb, 17, none⟩ (.int .i64 2)).setCell ⟨tb, 16, none⟩ (.int .i64 1000)).setCell ⟨tb, 5, none⟩ (.int .i64 0) := ⟨_, rfl⟩
  rw [← hWX]
  have hset : ∀ {W : World} {b i : Nat} {l : List Value} {v : Value}, W.heap[b]? = some (.cells l.toArray 108 (0, 0)) → (W.setCell ⟨b, i, none⟩ v).heap[b]? = some (.cells (l.set i v).toArray 108 (0, 0)) := fun h => by simp [World.setCell, Array.getElem?_modify, h]
  have k2 : WX.heap[tb]? = some (.cells (trkR.f tcB).toArray 108 (0, 0)) := by rw [hWX]; exact hset (hset (hset (hset HW.out.1)))
  have hbX : Below W0.heap.size W0 WX := by
    rw [hWX]
    have e := HW.out.2.2
    exact HW.out.2.1.trans ⟨rfl, rfl, rfl, by simp [World.setCell], fun k hk => by rw [Below.heap_setCell _ _ _ k (by show k ≠ tb; omega), Below.heap_setCell _ _ _ k (by show k ≠ tb; omega), Below.heap_setCell _ _ _ k (by show k ≠ tb; omega), Below.heap_setCell _ _ _ k (by show k ≠ tb; omega)]⟩
  have k1 : WX.rangeAt ta 0 (trkR.f tcA) := rangeAt_block R0.out (hbX.block ta HB0.out.2)
  have hB : Below w.heap.size w WX := HB0.out.1.trans (hbX.mono HB0.out.1.size)
  have K1 := Lib.hid k1
  have K2 := Lib.hid (rangeAt_whole k2)
  have HB := Lib.hid hB
  clear hWX hset k1 k2 hbX hB x0 x1 x2 x3 y0 y1 y2 y3
  go_wp2_with (first
    | (refine wpl_loadR (r := trkR) (t := tcA) (b := ta) (k := 0) _ rfl rfl rfl K1.out ?_)
    | (refine wpl_loadR (r := trkR) (t := tcB) (b := tb) (k := 0) _ rfl rfl rfl K2.out ?_)
    | (refine wpl_buildTc _ _ rfl rfl rfl rfl ?_)
    | fail)
  exact bodyPost_ret (v := .slice (some ⟨WX.heap.size, 0, none⟩) 2 2) (by simp [results, Tryz.results47, go_sem]) rfl ⟨WX.heap.size, rfl, rangeAt_whole (T := 108) (World.alloc_heap_new _ _), HB.out.size, by simp, HB.out.alloc HB.out.size _⟩
/-- A thousand for each. -/
def thouL : List Int := List.replicate 10 1000
set_option maxRecDepth 100000 in
set_option maxHeartbeats 4000000 in
theorem law14_thousand (w : World) : Calls Tryz.prog 46 #[] w fun e w' => ∃ u, e = .returned u ∧ OwnN w.heap.size u thouL w' ∧ Below w.heap.size w w' := by
  go_enter Tryz.func46, Tryz.ntmps46
  go_wp2_with fail
  go_loopw [1, 2] (fun u i wr => ∃ k : Nat, k ≤ 10 ∧ i = .int .i64 k ∧ OwnN w.heap.size u (List.replicate k 1000) wr ∧ Below w.heap.size w wr) (fun _ i _ => 10 - (intOf i).toNat)
  case atStart => exact ⟨0, by omega, rfl, OwnN.nil _ _, Below.refl _ _⟩
  case round =>
    obtain ⟨k, hk, rfl, how, hbl⟩ := hrel
    by_cases hlt : k < 10
    · have hlt' : (k : Int) < 10 := by omega
      have HS := Lib.hid (And.intro how hbl)
      clear how hbl
      go_wp2_with (first
        | (at_builtin; refine wpl_appN (B := w.heap.size) (ub := wr.heap.size) (xs := List.replicate k 1000) (y := 1000) rfl rfl rfl rfl (HS.out.1.of (Nat.le_refl _) (fun k hk => Below.heap_alloc _ _ _ (HS.out.1.block hk).2)) (by rw [World.cell?, World.alloc_heap_new]; rfl) (by rw [List.length_replicate]; omega) (by have := HS.out.2.size; rw [World.size_alloc]; omega) ?_; intro v' w4 hO4 hg4; have HO4 := Lib.hid hO4; have HG4 := Lib.hid hg4; clear hO4 hg4)
        | fail)
      go_roundw
      case rel => exact ⟨k + 1, by omega, by go_num, by rw [List.replicate_succ']; exact HO4.out, Below.grown (HS.out.2.alloc HS.out.2.size _) HG4.out (by have := HS.out.2.size; rw [World.size_alloc]; omega) (fun j hj => (HS.out.1.block hj).1)⟩
      case measure => simp [intOf]; omega
    · have hge : ¬ (k : Int) < 10 := by omega
      have hk10 : k = 10 := by omega
      subst hk10
      have HS := Lib.hid (And.intro how hbl)
      clear how hbl hlt hk
      go_wp2_with fail
      exact bodyPost_ret (v := u1) (by simp [results, Tryz.results46, go_sem]) rfl ⟨_, rfl, HS.out⟩
end Go.Proofs.YteioacpfphigjaaGreatDoor
end

section
namespace Go.Proofs.YteioacpfphigjaaGreatDoor
open Go.RowKit Go.Maps
set_option linter.unusedVariables false
set_option linter.unusedSimpArgs false

theorem pre_New (w : World) : Calls Tryz.prog 55 #[] w fun e w' => ∃ b, e = .returned (.pointer (some ⟨b, 0, none⟩)) ∧ Below w.heap.size w w' := by
  go_enter Tryz.func55, Tryz.ntmps55
  go_wp2_with fail
  go_ret
  exact ⟨_, rfl, (Below.refl _ w).alloc (Nat.le_refl _) _⟩
theorem agenda_New0 (w : World) : Calls Tryz.prog 56 #[] w fun e w' => ∃ b, e = .returned (.pointer (some ⟨b, 0, none⟩)) ∧ w.heap.size ≤ b ∧ w'.heap[b]? = some (.cells #[.slice none 0 0] 195 (0, 0)) ∧ Below w.heap.size w w' := by
  go_enter Tryz.func56, Tryz.ntmps56
  go_wp2_with fail
  go_ret
  exact ⟨_, rfl, Nat.le_refl _, World.alloc_heap_new _ _, (Below.refl _ w).alloc (Nat.le_refl _) _⟩
/-- A chain without referenda, without tasks. -/
structure ChAt (N c g gl vb r gb pb ab : Nat) (F : FP) (A : Acc) (ts : List Trk) (now : Int) (w : World) : Prop where
  blk : w.heap[c]? = some (.cells #[.pointer (some ⟨g, 0, none⟩), .pointer (some ⟨vb, 0, none⟩), .pointer (some ⟨r, 0, none⟩), .pointer (some ⟨pb, 0, none⟩), .pointer (some ⟨ab, 0, none⟩), .int .i64 now] 73 (0, 0))
  ld : w.heap[g]? = some (.cells (lcells A gl).toArray 115 (0, 0))
  re : ReG F r gb ts w
  ag : w.heap[ab]? = some (.cells #[.slice none 0 0] 195 (0, 0))
  fp : ∀ k, F k → k < c
  lg : g < c ∧ ab < c
  lo : N ≤ c
theorem ChAt.below {N c g gl vb r gb pb ab : Nat} {F : FP} {A : Acc} {ts : List Trk} {now : Int} {w w' : World} (h : ChAt N c g gl vb r gb pb ab F A ts now w) (hb : Below w.heap.size w w') : ChAt N c g gl vb r gb pb ab F A ts now w' :=
  ⟨(hb.block c (Array.getElem?_eq_some_iff.1 h.blk).1).trans h.blk, (hb.block g (Array.getElem?_eq_some_iff.1 h.ld).1).trans h.ld, h.re.below hb, (hb.block ab (Array.getElem?_eq_some_iff.1 h.ag).1).trans h.ag, h.fp, h.lg, h.lo⟩
theorem ReG.bound {F : FP} {r gb : Nat} {ts : List Trk} {w : World} (h : ReG F r gb ts w) : ReG (fun k => F k ∧ k < w.heap.size) r gb ts w := by
  obtain ⟨tb, cap, h1, h2, h3, h4, h5, h6, h7, h8⟩ := h
  exact ⟨tb, cap, h1, h2, ⟨h3, (Array.getElem?_eq_some_iff.1 h1).1⟩, ⟨h4, h6⟩, ⟨h5, (Array.getElem?_eq_some_iff.1 h8).1⟩, h6, h7, h8⟩
theorem tc_newB : newB [tcA, tcB] = true := by decide
theorem thou_ok : newOk thouL := newOk_small (by decide) (by decide)
set_option maxRecDepth 100000 in
set_option maxHeartbeats 4000000 in
theorem chain_New0 {v : Value} {w : World} {b : Nat} (hr : RdI w v thouL) (ht : w.rangeAt b 0 (trkR.all [tcA, tcB])) (hb : b < w.heap.size) : Calls Tryz.prog 23 #[v, .slice (some ⟨b, 0, none⟩) 2 2] w fun e w' =>
    ∃ c g gl vb r gb pb ab F, e = .returned (.tuple #[.pointer (some ⟨c, 0, none⟩), .int .i64 0]) ∧ ChAt w.heap.size c g gl vb r gb pb ab F (accL thouL) [tcA, tcB] 0 w' ∧ Below w.heap.size w w' := by
  have HR := Lib.hid (And.intro hr (And.intro ht hb))
  clear hr ht hb
  go_enter Tryz.func23, Tryz.ntmps23
  go_wp2_with (first
    | (go_at_call 52; refine (ledger_New_ok HR.out.1 (by decide) thou_ok).mono ?_; rintro e w1 ⟨g, gl, rfl, hl, hb⟩; have H1 := Lib.hid (And.intro hl hb); clear hl hb)
    | (go_at_call 53; refine (refer_NewG (ts := [tcA, tcB]) (b := b) (cap := 2) (rangeAt_block HR.out.2.1 (H1.out.2.block b HR.out.2.2)) (Nat.lt_of_lt_of_le HR.out.2.2 H1.out.2.size) (by decide) (by decide)).mono ?_; rintro e w2 ⟨hb, ⟨-, r, gb, rfl, hre⟩ | ⟨hno, -⟩⟩; rotate_left; exact absurd (hno.symm.trans tc_newB) (by decide); have H2 := Lib.hid (And.intro hre hb); clear hre hb)
    | (go_at_call 54; refine (voting_New _).mono ?_; rintro e w3 ⟨vb, rfl, hb⟩; have H3 := Lib.hid hb; clear hb)
    | (go_at_call 55; refine (pre_New _).mono ?_; rintro e w4 ⟨pb, rfl, hb⟩; have H4 := Lib.hid hb; clear hb)
    | (go_at_call 56; refine (agenda_New0 _).mono ?_; rintro e w5 ⟨ab, rfl, hlo, hag, hb⟩; have H5 := Lib.hid (And.intro hlo (And.intro hag hb)); clear hlo hag hb)
    | fail)
  have hb1 := H1.out.2
  have hb2 := H2.out.2
  have hb3 := H3.out
  have hb34 := hb3.trans (H4.out.mono hb3.size)
  have hb5 := hb34.trans (H5.out.2.2.mono hb34.size)
  have hb15 := hb2.trans (hb5.mono hb2.size)
  obtain ⟨W, hW⟩ : ∃ W, W = w5.alloc (.cells #[.pointer (some ⟨g, 0, none⟩), .pointer (some ⟨vb, 0, none⟩), .pointer (some ⟨r, 0, none⟩), .pointer (some ⟨pb, 0, none⟩), .pointer (some ⟨ab, 0, none⟩), .int .i64 0] 73) := ⟨_, rfl⟩
  have hbW : Below w5.heap.size w5 W := by rw [hW]; exact (Below.refl _ w5).alloc (Nat.le_refl _) _
  have hld := (H1.out.1.below hb15)
  have hch : ChAt w.heap.size w5.heap.size g gl vb r gb pb ab (fun j => w1.heap.size ≤ j ∧ j < w2.heap.size) (accL thouL) [tcA, tcB] 0 W := by
    refine ⟨by rw [hW]; exact World.alloc_heap_new _ _, (hld.below hbW).blk, ((H2.out.1.bound).below hb5).below hbW, (hbW.block ab (Array.getElem?_eq_some_iff.1 H5.out.2.1).1).trans H5.out.2.1, fun k hk => Nat.lt_of_lt_of_le hk.2 hb5.size, ⟨hld.lt, (Array.getElem?_eq_some_iff.1 H5.out.2.1).1⟩, Nat.le_trans hb1.size hb15.size⟩
  have hbw : Below w.heap.size w W := hb1.trans ((hb15.trans (hbW.mono hb15.size)).mono hb1.size)
  rw [← hW]
  exact bodyPost_ret (v := .tuple #[.pointer (some ⟨w5.heap.size, 0, none⟩), .int .i64 0]) (by simp [results, Tryz.results23, go_sem]) rfl ⟨_, _, _, _, _, _, _, _, _, rfl, hch, hbw⟩
end Go.Proofs.YteioacpfphigjaaGreatDoor
end

section
namespace Go.Proofs.YteioacpfphigjaaGreatDoor
open Go.RowKit Go.Maps Go.Shelf
set_option linter.unusedVariables false
set_option linter.unusedSimpArgs false

theorem wpIn_meetF {n : Nat} {P : Program} {c : Code} {K : Act → World → Prop} {Q : Exit → Act → World → Prop} {a fr : Act} {w : World} {S : World → Prop} (h : c.wp P (Exit.then (fun a w => a = fr ∧ S w) (fun _ _ _ => False)) a w) (hK : ∀ w, S w → K fr w) : c.wpIn Fence.wide n P (Exit.then K Q) a w :=
  region_meet h (fun a w ⟨e, hs⟩ => by rw [e]; exact hK w hs)
theorem below_end {w2 W3 : World} {D : Nat} {o : Obj} (hon : Only (fun _ => False) (fun _ => False) w2 W3) (hD : w2.heap.size ≤ D) : Below w2.heap.size w2 (W3.putObj D o) := by
  refine ⟨hon.grow.os, hon.grow.tape, hon.grow.output, by have h1 := hon.grow.size; simp [World.putObj]; omega, fun k hk => ?_⟩
  rw [put_other (by omega)]
  exact hon.block k hk (fun h => h) (fun h => h)
def appEv (args : Array Value) : Sem Value := Builtin.append_ #[35, 35] 35 args
theorem appEv_hide (args : Array Value) : Builtin.append_ #[35, 35] 35 args = appEv args := rfl
theorem run_appEv_none (w : World) : (appEv #[.slice none 0 0, .slice none 0 0]).run Tryz.prog w = .ok (.slice none 0 0) w := by kernel_rfl
theorem chain_Now {c : Nat} {now : Int} {w : World} (hc : w.cell? ⟨c, 5, none⟩ = some (.int .i64 now)) : Calls Tryz.prog 11 #[.pointer (some ⟨c, 0, none⟩)] w fun e w' => e = .returned (.int .i64 now) ∧ w' = w := by
  go_enter Tryz.func11, Tryz.ntmps11
  go_wp2
  exact bodyPost_ret (v := .int .i64 now) (by simp [results, Tryz.results11, go_sem]) rfl ⟨rfl, rfl⟩
theorem bound_Next {now : Int} (h0 : 0 ≤ now) (h1 : now < 1073741824) (w : World) : Calls Tryz.prog 40 #[.int .i64 now] w fun e w' => e = .returned (.tuple #[.int .i64 (now + 1), .bool true]) ∧ w' = w := by
  have W1 : IntKind.i64.wrap (now + 1) = now + 1 := IntWalk.i64_in _ (by omega)
  go_enter Tryz.func40, Tryz.ntmps40
  go_wp2
  exact bodyPost_ret (v := .tuple #[.int .i64 (now + 1), .bool true]) (by simp [results, Tryz.results40, go_sem]) rfl ⟨rfl, rfl⟩
section
variable {N c g gl vb r gb pb ab : Nat} {F : FP} {A : Acc} {ts : List Trk} {now : Int} {w : World}
theorem ChAt.cells (h : ChAt N c g gl vb r gb pb ab F A ts now w) : w.cell? ⟨c, 0, none⟩ = some (.pointer (some ⟨g, 0, none⟩)) ∧ w.cell? ⟨c, 1, none⟩ = some (.pointer (some ⟨vb, 0, none⟩)) ∧ w.cell? ⟨c, 2, none⟩ = some (.pointer (some ⟨r, 0, none⟩)) ∧ w.cell? ⟨c, 4, none⟩ = some (.pointer (some ⟨ab, 0, none⟩)) ∧ w.cell? ⟨c, 5, none⟩ = some (.int .i64 now) ∧ w.frozen? ⟨c, 5, none⟩ = false :=
  ⟨by rw [World.cell?, h.blk]; rfl, by rw [World.cell?, h.blk]; rfl, by rw [World.cell?, h.blk]; rfl, by rw [World.cell?, h.blk]; rfl, by rw [World.cell?, h.blk]; rfl, by rw [World.frozen?, h.blk]; rfl⟩
theorem ChAt.tick (h : ChAt N c g gl vb r gb pb ab F A ts now w) (n : Int) : ChAt N c g gl vb r gb pb ab F A ts n (w.setCell ⟨c, 5, none⟩ (.int .i64 n)) := by
  have ho : ∀ k, k ≠ c → (w.setCell ⟨c, 5, none⟩ (.int .i64 n)).heap[k]? = w.heap[k]? := fun k hk => Below.heap_setCell _ _ _ k hk
  refine ⟨?_, (ho g (by have := h.lg.1; omega)).trans h.ld, h.re.keep (by simp [World.setCell]) (fun k hk _ => ho k (by have := h.fp k hk; omega)), (ho ab (by have := h.lg.2; omega)).trans h.ag, h.fp, h.lg, h.lo⟩
  simp [World.setCell, Array.getElem?_modify, h.blk]
end
attribute [local go_sem ↓] appEv_hide
set_option maxHeartbeats 4000000 in
set_option maxRecDepth 100000 in
theorem chain_Block0 {N c g gl vb r gb pb ab : Nat} {F : FP} {A : Acc} {ts : List Trk} {now : Int} {w : World} (h : ChAt N c g gl vb r gb pb ab F A ts now w) (h0 : 0 ≤ now) (h1 : now < 1000000000) :
    Calls Tryz.prog 10 #[.pointer (some ⟨c, 0, none⟩)] w fun e w' => e = .returned (.slice none 0 0) ∧ ChAt N c g gl vb r gb pb ab F A ts (now + 1) w' ∧ Below N w w' ∧ ∀ k, k < w.heap.size → k ≠ c → w'.heap[k]? = w.heap[k]? := by
  refine (callsIn_wide (n := 2)).1 ?_
  obtain ⟨W0, hW0⟩ : ∃ W0, W0 = w.alloc (.cells #[.pointer (some ⟨c, 0, none⟩)] 32) := ⟨_, rfl⟩
  obtain ⟨p1, hp1⟩ : ∃ p1, p1 = w.heap.size := ⟨_, rfl⟩
  have hb0 : Below w.heap.size w W0 := by rw [hW0]; exact (Below.refl _ w).alloc (Nat.le_refl _) _
  have x1 : Boxed W0 p1 32 (.pointer (some ⟨c, 0, none⟩)) := by rw [hW0, hp1]; exact Boxed.new w _ _
  have hch0 := h.below hb0
  have hcl : c < w.heap.size := (Array.getElem?_eq_some_iff.1 h.blk).1
  obtain ⟨W1, hW1⟩ : ∃ W1, W1 = W0.setCell ⟨c, 5, none⟩ (.int .i64 (now + 1)) := ⟨_, rfl⟩
  have hch1 : ChAt N c g gl vb r gb pb ab F A ts (now + 1) W1 := by rw [hW1]; exact hch0.tick _
  have x1' : Boxed W1 p1 32 (.pointer (some ⟨c, 0, none⟩)) := by rw [hW1]; exact (Below.heap_setCell _ _ _ p1 (by show p1 ≠ c; omega)).trans x1
  have hbN : Below N w W1 := by rw [hW1]; exact (hb0.mono (by have := h.lo; omega)).trans ⟨rfl, rfl, rfl, by simp [World.setCell], fun k hk => Below.heap_setCell _ _ _ k (by show k ≠ c; have := h.lo; omega)⟩
  have hsz1 : w.heap.size ≤ W1.heap.size := hbN.size
  have hoff : ∀ k, k < w.heap.size → k ≠ c → W1.heap[k]? = w.heap[k]? := fun k hk hne => by rw [hW1, Below.heap_setCell _ _ _ k hne]; exact hb0.block k hk
  have HOFF := Lib.hid (And.intro hsz1 hoff)
  have hkeep : ∀ W, Below W1.heap.size W1 W → ChAt N c g gl vb r gb pb ab F A ts (now + 1) W ∧ W.cell? ⟨p1, 0, none⟩ = some (.pointer (some ⟨c, 0, none⟩)) := fun W hb => ⟨hch1.below hb, boxed_later x1' hb⟩
  obtain ⟨k0, k1, k2, k4, k5, f5⟩ := hch0.cells
  have cp := x1.cell
  have HK := Lib.hid hkeep
  have HN0 := Lib.hid (And.intro h0 h1)
  have HW0 := Lib.hid hW0
  have HW1 := Lib.hid hW1
  have HP1 := Lib.hid (And.intro hp1 (And.intro hcl hbN))
  have HLO := Lib.hid h.lo
  rw [hW0] at k0 k1 k2 k4 k5 f5 cp
  rw [hp1] at cp
  clear h hb0 x1 hch0 hcl hch1 x1' hbN hsz1 hoff hkeep hW1 h0 h1
  refine callsIn_of_wp_marks Tryz.func10 rfl trivial ?_ rfl
  simp only [Tryz.ntmps10, List.size_toArray, List.length_cons, List.length_nil, Nat.reduceAdd, Nat.reduceSub, Array.replicate_succ, Array.replicate_zero, List.push_toArray, List.append_toArray, List.nil_append, List.cons_append]
  clear hW0 hp1
  gi_wp2_with (first
    | (refine ⟨trivial, ?_⟩; gi_at_call 11; refine (callsIn_wide.2 (chain_Now k5)).mono ?_; rintro e w' ⟨rfl, hw⟩; rw [hw]; clear hw w')
    | (gi_at_call 11; refine (callsIn_wide.2 (chain_Now k5)).mono ?_; rintro e w' ⟨rfl, hw⟩; rw [hw]; clear hw w')
    | (refine ⟨trivial, ?_⟩; gi_at_call 40; refine (callsIn_wide.2 (bound_Next HN0.out.1 (by have := HN0.out.2; omega) _)).mono ?_; rintro e w' ⟨rfl, hw⟩; rw [hw]; clear hw w')
    | (gi_at_call 40; refine (callsIn_wide.2 (bound_Next HN0.out.1 (by have := HN0.out.2; omega) _)).mono ?_; rintro e w' ⟨rfl, hw⟩; rw [hw]; clear hw w')
    | fail)
  rw [← HW0.out, ← HW1.out, ← HP1.out.1]
  clear k0 k1 k2 k4 k5 f5 cp
  have hk3 : ∀ W, Below W1.heap.size W1 W → W.cell? ⟨p1, 0, none⟩ = some (.pointer (some ⟨c, 0, none⟩)) ∧ W.cell? ⟨c, 0, none⟩ = some (.pointer (some ⟨g, 0, none⟩)) ∧ W.cell? ⟨c, 1, none⟩ = some (.pointer (some ⟨vb, 0, none⟩)) ∧ W.cell? ⟨c, 2, none⟩ = some (.pointer (some ⟨r, 0, none⟩)) ∧ W.cell? ⟨c, 4, none⟩ = some (.pointer (some ⟨ab, 0, none⟩)) ∧ W.cell? ⟨c, 5, none⟩ = some (.int .i64 (now + 1)) := fun W hb => by
    obtain ⟨h1, h2⟩ := HK.out W hb
    obtain ⟨k0, k1, k2, k4, k5, f5⟩ := h1.cells
    exact ⟨h2, k0, k1, k2, k4, k5⟩
  have H3 := Lib.hid hk3
  clear hk3
  have HAG := Lib.hid (HK.out W1.drew (Below.refl _ W1).drew).1.ag
  apply wpIn_meetF (S := fun wc => Below W1.heap.size W1 wc)
  case h =>
    go_region_held3 (fun w' => w'.cell? ⟨p1, 0, none⟩ = some (.pointer (some ⟨c, 0, none⟩)) ∧ w'.cell? ⟨c, 0, none⟩ = some (.pointer (some ⟨g, 0, none⟩)) ∧ w'.cell? ⟨c, 1, none⟩ = some (.pointer (some ⟨vb, 0, none⟩)) ∧ w'.cell? ⟨c, 2, none⟩ = some (.pointer (some ⟨r, 0, none⟩)) ∧ w'.cell? ⟨c, 4, none⟩ = some (.pointer (some ⟨ab, 0, none⟩)) ∧ w'.cell? ⟨c, 5, none⟩ = some (.int .i64 (now + 1))) (first | exact H3.out _ (Below.refl _ W1).drew | exact H3.out _ HB2.out) (first | (go_at_call 41; refine (Due_none _ _ _ HAG.out).mono ?_; rintro e w2 ⟨rfl, hb⟩; have HB2 := Lib.hid (show Below W1.heap.size W1 w2 from ((Below.refl _ W1).drew).trans hb); clear hb) | fail)
    all_goals exact ⟨rfl, HB2.out⟩
  case hK =>
  intro w2 hb2
  have HB2 := Lib.hid hb2
  have HRE := Lib.hid (HK.out w2.drew (hb2.trans (((Below.refl _ w2).drew).mono hb2.size))).1.re
  clear hb2 HAG
  gi_wp2_with fail
  gi_loopw [5, 36] (fun e a wr => e = .slice none 0 0 ∧ a = .int .i64 0 ∧ wr = w2) (fun _ _ _ => 0)
  case atStart => exact ⟨rfl, rfl, rfl⟩
  case round =>
  obtain ⟨rfl, rfl, rfl⟩ := hrel
  obtain ⟨w2, hw2⟩ : ∃ w2, w2 = wr := ⟨_, rfl⟩
  subst hw2
  gi_wp2_with fail
  apply wpIn_meetF (S := fun wc => Below W1.heap.size W1 wc)
  case h =>
    go_region_held3 (fun w' => w'.cell? ⟨p1, 0, none⟩ = some (.pointer (some ⟨c, 0, none⟩)) ∧ w'.cell? ⟨c, 0, none⟩ = some (.pointer (some ⟨g, 0, none⟩)) ∧ w'.cell? ⟨c, 1, none⟩ = some (.pointer (some ⟨vb, 0, none⟩)) ∧ w'.cell? ⟨c, 2, none⟩ = some (.pointer (some ⟨r, 0, none⟩)) ∧ w'.cell? ⟨c, 4, none⟩ = some (.pointer (some ⟨ab, 0, none⟩)) ∧ w'.cell? ⟨c, 5, none⟩ = some (.int .i64 (now + 1))) (first | exact H3.out _ (HB2.out.trans (((Below.refl _ w2).drew).mono HB2.out.size)) | exact H3.out _ HB3.out) (first | (go_at_call 43; refine (service0 HRE.out _ _ _).mono ?_; rintro e w3 ⟨rfl, hb⟩; have HB3 := Lib.hid (show Below W1.heap.size W1 w3 from HB2.out.trans ((((Below.refl _ w2).drew).trans hb).mono HB2.out.size)); have RA := run_appEv_none w3; clear hb) | fail)
    all_goals exact ⟨rfl, HB3.out⟩
  case hK =>
  intro w3 hb3
  have HB3 := Lib.hid hb3
  clear hb3
  obtain ⟨eb, heb⟩ : ∃ eb, eb = w3.heap.size := ⟨_, rfl⟩
  gi_wp2_with (first
    | (refine ⟨trivial, ?_⟩; gi_at_call 44; refine (callsIn_wide.2 (chain_ended none 0 0 w3)).mono ?_; rintro e w4 ⟨rfl, hw4⟩)
    | (gi_at_call 44; refine (callsIn_wide.2 (chain_ended none 0 0 w3)).mono ?_; rintro e w4 ⟨rfl, hw4⟩)
    | fail)
  have hb4 : Below w3.heap.size w3 w4 := by rw [hw4]; exact (Below.refl _ w3).alloc (Nat.le_refl _) _
  have xe : Boxed w4 eb 35 (.slice none 0 0) := by rw [hw4, heb]; exact Boxed.new w3 _ _
  rw [← hw4, ← heb]
  have hb14 := HB3.out.trans (hb4.mono HB3.out.size)
  have hit := ended_iter 0 eb none 0 w4 xe (fun k => k < w4.heap.size) xe.lt
  clear hw4 heb
  refine range_outer (n := 0) (gf := 116) (lb := #[.pointer (some ⟨eb, 0, none⟩)]) rfl enters_ended hit (Grow.refl _) (fun k hk => ⟨hk, rfl⟩) (fun x => x.elim)
    (fun _ => False) (fun _ h => h.elim) (KeepJ w4) (fun _ _ _ _ => False) (KeepJ.stab w4) (fun c _ _ _ h => h.elim)
    ⟨fun _ h => h, fun _ _ => rfl, Nat.le_refl _⟩
    (fun x => x.elim) ?assign ?body ?done ?stop
  case assign =>
    intro l x
    exact x.elim
  case body =>
    intro l pre x
    exact x.elim
  case stop =>
    rintro D Φ c pre W3 hpre h
    exact h.elim
  case done =>
    rintro D Φ W3 ⟨hΦ, hk3, hz⟩ hon hD hnD hK
    have HD := Lib.hid (And.intro hon (And.intro hD (And.intro hK hb14)))
    clear hΦ hk3 hz hon hD hnD hK hit xe hb4 hb14
    gi_wp2_with fail
    obtain ⟨hon, hD, hK, hb14⟩ := HD.out
    refine ⟨by simp, .inl ⟨_, _, rfl, run_takeDeferred hK, ?_⟩⟩
    have hend := hb14.trans ((below_end (o := .deferred none) hon hD).mono hb14.size)
    refine ⟨.slice none 0 0, by simp [results, Tryz.results10, go_sem], rfl, (HK.out _ hend).1, ?_⟩
    refine ⟨HP1.out.2.2.trans (hend.mono (by have := HP1.out.2.2.size; have := HP1.out.2.1; have := HLO.out; omega)), fun k hk hne => ?_⟩
    rw [hend.block k (by have := HOFF.out.1; omega)]
    exact HOFF.out.2 k hk hne
end Go.Proofs.YteioacpfphigjaaGreatDoor
end

section
namespace Go.Proofs.YteioacpfphigjaaGreatDoor
open Go.RowKit
set_option linter.unusedVariables false

/-- What a round is handed: values, and blocks with them. -/
abbrev Hand (α : Type) := α → Array Value → FP → World → Prop

def HandStab {α : Type} (rel : Hand α) : Prop :=
  ∀ x vs β W, rel x vs β W → (∀ k, β k → k < W.heap.size) ∧ ∀ W', Grow W W' → (∀ k, β k → W'.heap[k]? = W.heap[k]?) → rel x vs β W'

/-- A call of yield. -/
def RoundOkR {α : Type} (P : Program) (n l : Nat) (vs : Array Value) (Ψ : FP) (J Jx : List α → FP → World → Prop) (pre : List α) (x : α) (Φ : FP) (W : World) : Prop :=
  YieldAt Fence.wide n P l vs W fun e W' => Leaves Ψ Φ W (fun Φ' W' => (e = .returned (.bool true) ∧ J (pre ++ [x]) Φ' W') ∨ (e = .returned (.bool false) ∧ Jx (pre ++ [x]) Φ' W')) W'

/-- AN ITERATOR's PROMISE, with what it hands over. -/
def IterR {α : Type} (P : Program) (n : Nat) (gf : Nat) (lb : Array Value) (rel : Hand α) (xs : List α) (G : FP) (w : World) : Prop :=
  ∀ (l B : Nat) (Ψ : FP) (J Jx : List α → FP → World → Prop) (Φ0 : FP) (W : World), Grow w W → (∀ k, G k → k < w.heap.size ∧ W.heap[k]? = w.heap[k]?) → (∀ k, Ψ k → k < B ∧ ¬ G k) → (∀ k, Φ0 k → ¬ G k) → Stab B J → Stab B Jx →
    (∀ pre x vs β Φ W1, (pre ++ [x]) <+: xs → J pre Φ W1 → rel x vs β W1 → (∀ k, β k → B ≤ k ∧ ¬ Φ k ∧ ¬ G k) → RoundOkR P n l vs Ψ J Jx pre x (fun k => Φ k ∨ β k) W1) → J [] Φ0 W →
    CallsIn Fence.wide (n + 1) P gf (#[.func (.yield l) #[] #[]] ++ lb) W fun e W' => (∃ v, e = .returned v) ∧ Leaves Ψ Φ0 W (fun Φ' W' => J xs Φ' W' ∨ ∃ pre, pre <+: xs ∧ Jx pre Φ' W') W'

section
variable {P : Program} {α : Type}

/-- One round, out of its body's walk: the record turns busy, then ready, or done. -/
theorem round_of_bodyR {n l : Nat} {fn : FuncId} {rel : Hand α} (hrel : HandStab rel) {ps : Array Tmp} {assign body : Code} {tm : Array Value} {dfr : Nat} {Ψ : FP} {I : List α → FP → World → Prop} {Ix : Code → List α → FP → World → Prop} {B : Nat} (hI : Stab B I) (hIx : ∀ c, Stab B (Ix c))
    (hBJ : B ≤ l) (hΨ : ∀ k, Ψ k → k < B) (hps : ∀ x vs β W, rel x vs β W → vs.size = ps.size) {D : Option Nat} (hD : ∀ d, D = some d → B ≤ d ∧ d < l) (a₁ : Array Value → Act) {pre : List α} {x : α} {vs : Array Value} {β : FP} {Φ : FP} {W : World} (hx : rel x vs β W) (hβ : ∀ k, β k → l + 1 ≤ k ∧ ¬ Φ k)
    (hJ : InvJ I l D (recOf fn tm ps assign body dfr .ready none) pre Φ W)
    (hassign : ∀ (W : World) (K : Act → World → Prop), K (a₁ vs) W → assign.wpIn (Fence.wide.inRound l) n P (Exit.then K (fun _ _ _ => False)) { tmps := (ps.zip vs).foldl (fun t (p, v) => t.setIfInBounds p v) tm, defers := [] } W)
    (hbody : ∀ W, I pre Φ W → rel x vs β W → (∀ k, Φ k → l + 1 ≤ k) → (∃ r, W.heap[l]? = some (.loop r)) → body.wpIn (Fence.wide.inRound l) n P (bodyI Ψ (fun k => Φ k ∨ β k) I Ix (pre ++ [x]) W) (a₁ vs) W) :
    RoundOkR P n l vs (fun k => Ψ k ∨ k = l) (InvJ I l D (recOf fn tm ps assign body dfr .ready none))
      (fun pre Φ W => ∃ c, InvJ (Ix c) l D (recOf fn tm ps assign body dfr .done (some c)) pre Φ W) pre x (fun k => Φ k ∨ β k) W := by
  obtain ⟨hi, hΦ, hl, hDW⟩ := hJ
  have hlt : l < W.heap.size := (Array.getElem?_eq_some_iff.1 hl).1
  have hy := run_yield (P := P) (args := vs) hl (hps x vs β W hx)
  refine ⟨fn, _, assign, body, hy, roundIn_of_wpIn trivial (hassign W _ ⟨_, run_beginRound hl rfl, ?_⟩)⟩
  obtain ⟨W2, hW2⟩ : ∃ W2, W2 = W.putObj l (.loop { recOf fn tm ps assign body dfr .ready none with state := .busy }) := ⟨_, rfl⟩
  rw [← hW2]
  have hl2 : W2.heap[l]? = some (.loop (recOf fn tm ps assign body dfr .busy none)) := by rw [hW2]; exact World.putObj_heap_same hlt
  have hnl : ∀ k, Φ k → k ≠ l := fun k hk e => by have := hΦ k hk; omega
  have ho2 : ∀ k, k ≠ l → W2.heap[k]? = W.heap[k]? := fun k hk => by rw [hW2]; exact put_other hk
  have hi2 : I pre Φ W2 := (hI _ _ _ hi).2.2 _ (by rw [hW2]; exact put_grow _ _ _) (fun k hk => ho2 k (hk.elim (fun h => by omega) (fun h => hnl k h)))
  have hsz : W2.heap.size = W.heap.size := by rw [hW2]; simp [World.putObj]
  have hg2 : Grow W W2 := by rw [hW2]; exact put_grow _ _ _
  have hx2 : rel x vs β W2 := (hrel _ _ _ _ hx).2 _ (by rw [hW2]; exact put_grow _ _ _) (fun k hk => ho2 k (fun e => by have := (hβ k hk).1; omega))
  clear hW2
  refine wpIn_mono (hbody _ hi2 hx2 hΦ ⟨_, hl2⟩) ?_
  have fin : ∀ (jump : Option Code) (Φ' : FP) (W3 : World) (R : List α → FP → World → Prop), Only Ψ (fun k => Φ k ∨ β k) W2 W3 → (∀ k, Φ' k → (Φ k ∨ β k) ∨ W2.heap.size ≤ k) → Stab B R → R (pre ++ [x]) Φ' W3 →
      ∃ W4, (Instr.endRound l jump).run P W3 = .ok (.bool jump.isNone) W4 ∧ (∀ k, Φ' k → (Φ k ∨ β k) ∨ W.heap.size ≤ k) ∧ Only (fun k => Ψ k ∨ k = l) (fun k => Φ k ∨ β k) W W4 ∧
        InvJ R l D (recOf fn tm ps assign body dfr (if jump.isNone then .ready else .done) jump) (pre ++ [x]) Φ' W4 := by
    intro jump Φ' W3 R ho hn hS hR
    have hl3 : W3.heap[l]? = some (.loop (recOf fn tm ps assign body dfr .busy none)) := (ho.block l (by rw [hsz]; exact hlt) (fun h => by have := hΨ l h; omega) (fun h => h.elim (fun h => hnl l h rfl) (fun h => by have := (hβ l h).1; omega))).trans hl2
    have hlt3 : l < W3.heap.size := (Array.getElem?_eq_some_iff.1 hl3).1
    rw [hsz] at hn
    have hΦ' : ∀ k, Φ' k → l + 1 ≤ k := fun k hk => (hn k hk).elim (fun h => h.elim (hΦ k) (fun h => (hβ k h).1)) (fun h => by omega)
    refine ⟨_, run_endRound (P := P) jump hl3, hn, ⟨(hg2.trans ho.grow).trans (put_grow _ _ _), fun k hk h1 h2 => ?_⟩, (hS _ _ _ hR).2.2 _ (put_grow _ _ _) (fun k hk => put_other ?_), hΦ', World.putObj_heap_same hlt3, fun d hd => ?_⟩
    · have hkl : k ≠ l := fun e => h1 (.inr e)
      exact (put_other hkl).trans ((ho.block k (by rw [hsz]; exact hk) (fun h => h1 (.inl h)) h2).trans (ho2 k hkl))
    · rcases hk with h | h
      · omega
      · have := hΦ' k h; omega
    · obtain ⟨d1, d2⟩ := hD d hd
      exact (put_other (by omega)).trans ((ho.block d (by omega) (fun h => by have := hΨ d h; omega) (fun h => h.elim (fun h => by have := hΦ d h; omega) (fun h => by have := (hβ d h).1; omega))).trans ((ho2 d (by omega)).trans (hDW d hd)))
  rintro e a3 W3 hp
  cases e with
  | normal =>
    obtain ⟨Φ', hn, ho, hR⟩ := hp
    obtain ⟨W4, hr, h1, h2, h3⟩ := fin none Φ' W3 I ho hn hI hR
    exact ⟨_, _, hr, Φ', h1, h2, .inl ⟨rfl, h3⟩⟩
  | ret =>
    obtain ⟨Φ', hn, ho, hR⟩ := hp
    obtain ⟨W4, hr, h1, h2, h3⟩ := fin (some .ret) Φ' W3 (Ix .ret) ho hn (hIx _) hR
    exact ⟨_, _, hr, Φ', h1, h2, .inr ⟨rfl, .ret, h3⟩⟩
  | exit id =>
    obtain ⟨Φ', hn, ho, hR⟩ := hp
    obtain ⟨W4, hr, h1, h2, h3⟩ := fin (some (.exit id)) Φ' W3 (Ix (.exit id)) ho hn (hIx _) hR
    exact ⟨_, _, hr, Φ', h1, h2, .inr ⟨rfl, .exit id, h3⟩⟩
  | goto t =>
    obtain ⟨Φ', hn, ho, hR⟩ := hp
    obtain ⟨W4, hr, h1, h2, h3⟩ := fin (some (.goto t)) Φ' W3 (Ix (.goto t)) ho hn (hIx _) hR
    exact ⟨_, _, hr, Φ', h1, h2, .inr ⟨rfl, .goto t, h3⟩⟩
  | panic ch => exact hp.elim
  | outgrown => exact hp.elim

/-- **A LOOP OVER AN ITERATOR, in a function's own frame.** -/
theorem range_outerR {n : Nat} {g : Operand} {ps : Array Tmp} {assign body : Code} {Q : Exit → Act → World → Prop} {a : Act} {w : World} {gf : Nat} {lb : Array Value} (hg : a.eval g = .func (.func gf) #[] lb) (eg : ∀ args w, (callFunc gf args).run P w = .ok (.enter gf args) w)
    {rel : Hand α} (hrel : HandStab rel) {xs : List α} {G : FP} {w0 : World} (hit : IterR P n gf lb rel xs G w0) (hg0 : Grow w0 w) (hG : ∀ k, G k → k < w0.heap.size ∧ w.heap[k]? = w0.heap[k]?) (hps : ∀ x vs β W, rel x vs β W → vs.size = ps.size)
    (Ψ : FP) (hΨ : ∀ k, Ψ k → k < w.heap.size ∧ ¬ G k) (I : List α → FP → World → Prop) (Ix : Code → List α → FP → World → Prop) (hI : Stab w.heap.size I) (hIx : ∀ c, Stab w.heap.size (Ix c)) (h0 : I [] (fun _ => False) w) (a₁ : Array Value → Act)
    (hassign : ∀ (l : Nat) (x : α) (vs : Array Value) (β : FP) (W0 W : World) (K : Act → World → Prop), rel x vs β W0 → K (a₁ vs) W → assign.wpIn (Fence.wide.inRound l) n P (Exit.then K (fun _ _ _ => False)) { tmps := (ps.zip vs).foldl (fun t (p, v) => t.setIfInBounds p v) a.tmps, defers := [] } W)
    (hbody : ∀ (l : Nat) (pre : List α) (x : α) (vs : Array Value) (β : FP) (Φ : FP) (W : World), (pre ++ [x]) <+: xs → I pre Φ W → rel x vs β W → (∀ k, β k → l + 1 ≤ k ∧ ¬ Φ k ∧ ¬ G k) → w.heap.size < l → (∀ k, Φ k → l + 1 ≤ k) → (∃ r, W.heap[l]? = some (.loop r)) → body.wpIn (Fence.wide.inRound l) n P (bodyI Ψ (fun k => Φ k ∨ β k) I Ix (pre ++ [x]) W) (a₁ vs) W)
    (hdone : ∀ (D : Nat) (Φ : FP) (W : World), I xs Φ W → Only Ψ (fun _ => False) w W → w.heap.size ≤ D → ¬ Φ D → W.heap[D]? = some (.deferred (some [])) → Q .normal { a with defers := { target := .collected D, args := #[] } :: a.defers } W)
    (hstop : ∀ (D : Nat) (Φ : FP) (c : Code) (pre : List α) (W : World), pre <+: xs → Ix c pre Φ W → Only Ψ (fun _ => False) w W → w.heap.size ≤ D → ¬ Φ D → W.heap[D]? = some (.deferred (some [])) → c.wpIn Fence.wide (n + 2) P Q { a with defers := { target := .collected D, args := #[] } :: a.defers } W) :
    (Code.rangeFunc g ps assign body).wpIn Fence.wide (n + 2) P Q a w := by
  refine wpIn_rangeFunc ?_
  intro fn hfn
  obtain ⟨W1, hW1⟩ : ∃ W1, (w.alloc (.deferred (some []))).alloc (.loop (recOf fn a.tmps ps assign body w.heap.size .ready none)) = W1 := ⟨_, rfl⟩
  have hL1 : W1.heap[w.heap.size + 1]? = some (.loop (recOf fn a.tmps ps assign body w.heap.size .ready none)) := by
    rw [← hW1]; have := World.alloc_heap_new (w.alloc (.deferred (some []))) (.loop (recOf fn a.tmps ps assign body w.heap.size .ready none)); rwa [World.size_alloc] at this
  have hK1 : W1.heap[w.heap.size]? = some (.deferred (some [])) := by
    rw [← hW1]; exact (Below.heap_alloc _ _ _ (by simp)).trans (World.alloc_heap_new w _)
  have hB1 : Below w.heap.size w W1 := by rw [← hW1]; exact ((Below.refl _ w).alloc (Nat.le_refl _) _).alloc (by simp) _
  have hsz : W1.heap.size = w.heap.size + 2 := by rw [← hW1]; simp
  have hi1 : I [] (fun _ => False) W1 := (hI _ _ _ h0).2.2 _ (Grow.of_below hB1) (fun k hk => hk.elim (fun h => hB1.block k h) (fun h => h.elim))
  refine ⟨w.heap.size + 1, [{ target := .collected w.heap.size, args := #[] }], W1, { target := .fn (.func gf) lb, args := #[.func (.yield (w.heap.size + 1)) #[] #[]] }, W1, gf,
    #[.func (.yield (w.heap.size + 1)) #[] #[]] ++ lb, W1, ?_, ?_, ?_, ?_, fun h => by simp [Fence.wide] at h, ?_⟩
  · rw [← hW1]; exact run_enterLoop_outer _ _ _ _ _
  · simp only [resolve, hg]
    simp [go_sem]
  · intro f' hf'; simp [Target.leads] at hf'; subst hf'; trivial
  · simp [invoke, go_sem, eg]
  · have hD : ∀ d, some w.heap.size = some d → w.heap.size ≤ d ∧ d < w.heap.size + 1 := fun d hd => by cases hd; omega
    refine (hit (w.heap.size + 1) (w.heap.size + 2) (fun k => Ψ k ∨ k = w.heap.size + 1) (InvJ I (w.heap.size + 1) (some w.heap.size) (recOf fn a.tmps ps assign body w.heap.size .ready none))
      (fun pre Φ W => ∃ c, InvJ (Ix c) (w.heap.size + 1) (some w.heap.size) (recOf fn a.tmps ps assign body w.heap.size .done (some c)) pre Φ W) (fun _ => False) W1 (hg0.trans (Grow.of_below hB1))
      (fun k hk => ⟨(hG k hk).1, (hB1.block k (Nat.lt_of_lt_of_le (hG k hk).1 hg0.size)).trans (hG k hk).2⟩) (fun k hk => ?_) (fun _ h => h.elim) (InvJ.stab hI (by omega) (fun d hd => (hD d hd).2)) ?_ ?_ ⟨hi1, fun _ h => h.elim, hL1, fun d hd => by cases hd; exact hK1⟩).mono ?_
    · rcases hk with h | h
      · exact ⟨by have := (hΨ k h).1; omega, (hΨ k h).2⟩
      · exact ⟨by omega, fun hg' => by have := (hG k hg').1; have := hg0.size; omega⟩
    · rintro pre Φ W ⟨c, hc⟩
      obtain ⟨h1, h2, h3⟩ := InvJ.stab (hIx c) (by omega) (fun d hd => (hD d hd).2) _ _ _ hc
      exact ⟨h1, h2, fun W' hg' hk => ⟨c, h3 W' hg' hk⟩⟩
    · intro pre x vs β Φ W hpx hJ hx hβ
      exact round_of_bodyR hrel hI hIx (by omega) (fun k hk => (hΨ k hk).1) hps hD a₁ hx (fun k hk => ⟨(hβ k hk).1, (hβ k hk).2.1⟩) hJ (fun W' K hK => hassign _ x vs β W W' K hx hK) (fun W hi hx' hΦ hr => hbody _ pre x vs β Φ W hpx hi hx' hβ (by omega) hΦ hr)
    · have fine : ∀ W2, Only (fun k => Ψ k ∨ k = w.heap.size + 1) (fun _ => False) W1 W2 → ∀ r, Only Ψ (fun _ => False) w (W2.putObj (w.heap.size + 1) (.loop r)) := fun W2 ho r =>
        ⟨((Grow.of_below hB1).trans ho.grow).trans (put_grow _ _ _), fun k hk h1 h2 => (put_other (by omega)).trans ((ho.block k (by omega) (fun h => h.elim h1 (by omega)) h2).trans (hB1.block k hk))⟩
      rintro e W2 ⟨⟨v, rfl⟩, Φ', hn, ho, (⟨hi, hΦ, hl, hk⟩ | ⟨pre, hpre, c, hi, hΦ, hl, hk⟩)⟩
      · have hnD : ¬ Φ' w.heap.size := fun h => by have := hΦ _ h; omega
        refine ⟨none, _, run_endLoop (P := P) hl (by simp [recOf]), hdone _ Φ' _ ?_ (fine W2 ho _) (Nat.le_refl _) hnD ((put_other (by omega)).trans (hk _ rfl))⟩
        exact (hI _ _ _ hi).2.2 _ (put_grow _ _ _) (fun k hk' => put_other (hk'.elim (fun h => by omega) (fun h => by have := hΦ k h; omega)))
      · have hnD : ¬ Φ' w.heap.size := fun h => by have := hΦ _ h; omega
        refine ⟨some c, _, run_endLoop (P := P) hl (by simp [recOf]), hstop _ Φ' c pre _ hpre ?_ (fine W2 ho _) (Nat.le_refl _) hnD ((put_other (by omega)).trans (hk _ rfl))⟩
        exact (hIx c _ _ _ hi).2.2 _ (put_grow _ _ _) (fun k hk' => put_other (hk'.elim (fun h => by omega) (fun h => by have := hΦ k h; omega)))

/-- **A LOOP OVER AN ITERATOR, in a round of another loop.** -/
theorem range_innerR {n l₀ : Nat} {r₀ : Loop} {g : Operand} {ps : Array Tmp} {assign body : Code} {Q : Exit → Act → World → Prop} {a : Act} {w : World} {gf : Nat} {lb : Array Value} (hr0 : w.heap[l₀]? = some (.loop r₀)) (hg : a.eval g = .func (.func gf) #[] lb) (eg : ∀ args w, (callFunc gf args).run P w = .ok (.enter gf args) w)
    {rel : Hand α} (hrel : HandStab rel) {xs : List α} {G : FP} {w0 : World} (hit : IterR P n gf lb rel xs G w0) (hg0 : Grow w0 w) (hG : ∀ k, G k → k < w0.heap.size ∧ w.heap[k]? = w0.heap[k]?) (hps : ∀ x vs β W, rel x vs β W → vs.size = ps.size)
    (Ψ : FP) (hΨ : ∀ k, Ψ k → k < w.heap.size ∧ ¬ G k) (I : List α → FP → World → Prop) (Ix : Code → List α → FP → World → Prop) (hI : Stab w.heap.size I) (hIx : ∀ c, Stab w.heap.size (Ix c)) (h0 : I [] (fun _ => False) w) (a₁ : Array Value → Act)
    (hassign : ∀ (l : Nat) (x : α) (vs : Array Value) (β : FP) (W0 W : World) (K : Act → World → Prop), rel x vs β W0 → K (a₁ vs) W → assign.wpIn (Fence.wide.inRound l) n P (Exit.then K (fun _ _ _ => False)) { tmps := (ps.zip vs).foldl (fun t (p, v) => t.setIfInBounds p v) a.tmps, defers := [] } W)
    (hbody : ∀ (l : Nat) (pre : List α) (x : α) (vs : Array Value) (β : FP) (Φ : FP) (W : World), (pre ++ [x]) <+: xs → I pre Φ W → rel x vs β W → (∀ k, β k → l + 1 ≤ k ∧ ¬ Φ k ∧ ¬ G k) → w.heap.size ≤ l → (∀ k, Φ k → l + 1 ≤ k) → (∃ r, W.heap[l]? = some (.loop r)) → body.wpIn (Fence.wide.inRound l) n P (bodyI Ψ (fun k => Φ k ∨ β k) I Ix (pre ++ [x]) W) (a₁ vs) W)
    (hdone : ∀ (Φ : FP) (W : World), I xs Φ W → Only Ψ (fun _ => False) w W → Q .normal { a with defers := [] ++ a.defers } W)
    (hstop : ∀ (Φ : FP) (c : Code) (pre : List α) (W : World), pre <+: xs → Ix c pre Φ W → Only Ψ (fun _ => False) w W → c.wpIn (Fence.wide.inRound l₀) (n + 2) P Q { a with defers := [] ++ a.defers } W) :
    (Code.rangeFunc g ps assign body).wpIn (Fence.wide.inRound l₀) (n + 2) P Q a w := by
  refine wpIn_rangeFunc ?_
  intro fn hfn
  obtain ⟨W1, hW1⟩ : ∃ W1, w.alloc (.loop (recOf fn a.tmps ps assign body r₀.defers .ready none)) = W1 := ⟨_, rfl⟩
  have hL1 : W1.heap[w.heap.size]? = some (.loop (recOf fn a.tmps ps assign body r₀.defers .ready none)) := by
    rw [← hW1]; exact World.alloc_heap_new w _
  have hB1 : Below w.heap.size w W1 := by rw [← hW1]; exact (Below.refl _ w).alloc (Nat.le_refl _) _
  have hsz : W1.heap.size = w.heap.size + 1 := by rw [← hW1]; simp
  have hi1 : I [] (fun _ => False) W1 := (hI _ _ _ h0).2.2 _ (Grow.of_below hB1) (fun k hk => hk.elim (fun h => hB1.block k h) (fun h => h.elim))
  refine ⟨w.heap.size, [], W1, { target := .fn (.func gf) lb, args := #[.func (.yield w.heap.size) #[] #[]] }, W1, gf,
    #[.func (.yield w.heap.size) #[] #[]] ++ lb, W1, ?_, ?_, ?_, ?_, fun h => by simp [Fence.wide] at h, ?_⟩
  · rw [← hW1]; exact run_enterLoop_inner hr0 _ _ _ _ _
  · simp only [resolve, hg]
    simp [go_sem]
  · intro f' hf'; simp [Target.leads] at hf'; subst hf'; trivial
  · simp [invoke, go_sem, eg]
  · have hD : ∀ d, (none : Option Nat) = some d → w.heap.size ≤ d ∧ d < w.heap.size := fun d hd => by cases hd
    refine CallsIn.inRound l₀ ((hit w.heap.size (w.heap.size + 1) (fun k => Ψ k ∨ k = w.heap.size) (InvJ I w.heap.size none (recOf fn a.tmps ps assign body r₀.defers .ready none))
      (fun pre Φ W => ∃ c, InvJ (Ix c) w.heap.size none (recOf fn a.tmps ps assign body r₀.defers .done (some c)) pre Φ W) (fun _ => False) W1 (hg0.trans (Grow.of_below hB1))
      (fun k hk => ⟨(hG k hk).1, (hB1.block k (Nat.lt_of_lt_of_le (hG k hk).1 hg0.size)).trans (hG k hk).2⟩) (fun k hk => ?_) (fun _ h => h.elim) (InvJ.stab hI (by omega) (fun d hd => (hD d hd).2)) ?_ ?_ ⟨hi1, fun _ h => h.elim, hL1, fun d hd => by cases hd⟩).mono ?_)
    · rcases hk with h | h
      · exact ⟨by have := (hΨ k h).1; omega, (hΨ k h).2⟩
      · exact ⟨by omega, fun hg' => by have := (hG k hg').1; have := hg0.size; omega⟩
    · rintro pre Φ W ⟨c, hc⟩
      obtain ⟨h1, h2, h3⟩ := InvJ.stab (hIx c) (by omega) (fun d hd => (hD d hd).2) _ _ _ hc
      exact ⟨h1, h2, fun W' hg' hk => ⟨c, h3 W' hg' hk⟩⟩
    · intro pre x vs β Φ W hpx hJ hx hβ
      exact round_of_bodyR hrel hI hIx (by omega) (fun k hk => (hΨ k hk).1) hps hD a₁ hx (fun k hk => ⟨(hβ k hk).1, (hβ k hk).2.1⟩) hJ (fun W' K hK => hassign _ x vs β W W' K hx hK) (fun W hi hx' hΦ hr => hbody _ pre x vs β Φ W hpx hi hx' hβ (by omega) hΦ hr)
    · have fine : ∀ W2, Only (fun k => Ψ k ∨ k = w.heap.size) (fun _ => False) W1 W2 → ∀ r, Only Ψ (fun _ => False) w (W2.putObj w.heap.size (.loop r)) := fun W2 ho r =>
        ⟨((Grow.of_below hB1).trans ho.grow).trans (put_grow _ _ _), fun k hk h1 h2 => (put_other (by omega)).trans ((ho.block k (by omega) (fun h => h.elim h1 (by omega)) h2).trans (hB1.block k hk))⟩
      rintro e W2 ⟨⟨v, rfl⟩, Φ', hn, ho, (⟨hi, hΦ, hl, hk⟩ | ⟨pre, hpre, c, hi, hΦ, hl, hk⟩)⟩
      · refine ⟨none, _, run_endLoop (P := P) hl (by simp [recOf]), hdone Φ' _ ?_ (fine W2 ho _)⟩
        exact (hI _ _ _ hi).2.2 _ (put_grow _ _ _) (fun k hk' => put_other (hk'.elim (fun h => by omega) (fun h => by have := hΦ k h; omega)))
      · refine ⟨some c, _, run_endLoop (P := P) hl (by simp [recOf]), hstop Φ' c pre _ hpre ?_ (fine W2 ho _)⟩
        exact (hIx c _ _ _ hi).2.2 _ (put_grow _ _ _) (fun k hk' => put_other (hk'.elim (fun h => by omega) (fun h => by have := hΦ k h; omega)))
end
end Go.Proofs.YteioacpfphigjaaGreatDoor
end

section
namespace Go.Proofs.YteioacpfphigjaaGreatDoor
open Go.RowKit
set_option linter.unusedVariables false

theorem ret_int {k : IntKind} {a b : Int} (h : a = b) : Ending.returned (.int k a) = .returned (.int k b) := by rw [h]
theorem ret_bool {a b : Bool} (h : a = b) : Ending.returned (.bool a) = .returned (.bool b) := by rw [h]

theorem info5 : (Tryz.prog.info? 5).map (fun i => (i.zero, i.size, i.bytes)) = some (some (.int .u8 0), 1, 1) := by kernel_rfl

/-- Bytes as the cells of a row. -/
def BsM (l : List Nat) : List Value := l.map fun (b : Nat) => Value.int .u8 (b : Int)
/-- The lowest k bytes of n, the lowest first. -/
def lowL (n : Nat) : Nat → List Nat
  | 0 => []
  | k + 1 => lowL n k ++ [n / 256 ^ k % 256]
theorem lowL_length (n : Nat) : ∀ k, (lowL n k).length = k
  | 0 => rfl
  | k + 1 => by simp [lowL, lowL_length n k]
theorem Bs_append (a b : List Nat) : BsM (a ++ b) = BsM a ++ BsM b := by simp [BsM]
theorem Bs_length (a : List Nat) : (BsM a).length = a.length := by simp [BsM]

/-- A slice value owns these bytes' cells. -/
def OwnB (B : Nat) (v : Value) (l : List Value) (w : World) : Prop := w.ownsRow B 5 1 v l.length l

/-- A slice comes back that owns these cells; below B nothing has turned. -/
def OwnRet (B : Nat) (xs : List Value) (w : World) (e : Ending) (w' : World) : Prop :=
  ∃ v', e = .returned v' ∧ OwnB B v' xs w' ∧ Below B w w' ∧ B ≤ w'.heap.size

theorem own_low {B : Nat} {v' : Value} {xs L : List Value} {n j m : Nat} {w1 : World} (hL : L = xs ++ BsM (lowL n j)) (hq : m = n / 256 ^ j) (h : w1.ownsRow B 5 1 v' (L.length + 1) (L ++ [.int .u8 ((m : Int) % 256)])) :
    OwnB B v' (xs ++ BsM (lowL n (j + 1))) w1 := by
  have e : xs ++ BsM (lowL n (j + 1)) = L ++ [.int .u8 ((m : Int) % 256)] := by
    rw [hL, lowL, Bs_append, List.append_assoc, hq]; rfl
  unfold OwnB; rw [e, List.length_append]; exact h

set_option maxHeartbeats 1000000 in
theorem compact_low (B : Nat) (v : Value) (xs : List Value) (n k : Nat) (w : World) (hn : n < 9223372036854775808) (hk : k ≤ 9) (hown : OwnB B v xs w) (hm : xs.length ≤ 1099511627776) (hB : B ≤ w.heap.size) :
    Calls Tryz.prog 186 #[v, .int .i64 n, .int .i64 k] w (OwnRet B (xs ++ BsM (lowL n k)) w) := by
  obtain ⟨i0, hi, hz0, hz1, hz2⟩ := info_parts info5
  go_enter Tryz.func186, Tryz.ntmps186
  go_wp2
  go_loopw [0, 1, 8] (fun b q i wr => ∃ j m : Nat, j ≤ k ∧ i = .int .i64 j ∧ q = .int .i64 m ∧ m = n / 256 ^ j ∧ OwnB B b (xs ++ BsM (lowL n j)) wr ∧ Below B w wr ∧ B ≤ wr.heap.size) (fun _ _ i _ => k - (intOf i).toNat)
  case atStart => exact ⟨0, n, Nat.zero_le _, rfl, rfl, by simp, by simpa [lowL, BsM] using hown, Below.refl _ _, hB⟩
  case round =>
    obtain ⟨j, m, hj, rfl, rfl, hq, ho, hb, hs⟩ := hrel
    have hm : m ≤ n := by rw [hq]; exact Nat.div_le_self _ _
    have HQ := Lib.hid hq
    clear hq
    by_cases hlt : j < k
    · obtain ⟨L, hL⟩ : ∃ L, L = xs ++ BsM (lowL n j) := ⟨_, rfl⟩
      have hc1 : L.length = xs.length + j := by rw [hL, List.length_append, Bs_length, lowL_length]
      have ho' : wr.ownsRow B 5 1 u0 L.length L := by rw [hL]; exact ho
      have HC := Lib.hid hc1
      have HL := Lib.hid hL
      clear hc1 hL ho
      go_wp2_with (first | (at_builtin; refine wpList_append_own _ rfl _ _ 50 rfl B 5 i0 (.int .u8 0) 1 1 Tryz.underlying50 hi hz0 hz1 hz2 rfl (by decide) _ _ _ rfl (ho'.alloc _) ⟨wr.heap.size, 0, none⟩ 1 1 [.int .u8 ((m : Int) % 256)] rfl rfl ?c1 ?c2 ?c3 ?c4 ?c5 ?_) | fail)
      case c1 =>
        intro j u hj
        match j, hj with
        | 0, hj => simp at hj; subst hj; simp [Addr.add]
      case c2 => intro u hu; simp at hu; subst hu; rfl
      case c3 => rw [HC.out]; unfold maxLen; omega
      case c4 => rw [HC.out]; omega
      case c5 => simp; omega
      intro v' w1 hown' hgrow _
      have R := own_low HL.out HQ.out hown'
      have hb1 : Below B w w1 := (hb.alloc hs _).grown hgrow (by simp; omega) (fun r hr => (ho'.lt r hr).1)
      have hs1 : B ≤ w1.heap.size := by have := hgrow.size; simp at this; omega
      have hq1 : m / 256 = n / 256 ^ (j + 1) := by rw [HQ.out, Nat.div_div_eq_div_mul, Nat.pow_succ]
      have HQ1 := Lib.hid hq1
      clear hown' hgrow ho' hb hs hq1
      go_wp2
      exact ⟨⟨j + 1, m / 256, by omega, by go_num, by go_num, HQ1.out, R, hb1, hs1⟩, by simp [intOf]; omega⟩
    · go_wp2
      go_ret
      have : j = k := by omega
      subst this
      exact ⟨_, rfl, ho, hb, hs⟩

end Go.Proofs.YteioacpfphigjaaGreatDoor
end
