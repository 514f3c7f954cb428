/-
  Joined texts.
-/
import Derived.Deep.QuietTactic
import Derived.BigQuiet
import Derived.Deep.RegionHeld3
import Derived.IntWalk
import Derived.Test.YtpkamfbjgdmmoaaGreatMsd

section
namespace Go.Proofs.YtpkamfbjgdmmoaaGreat
open Go.RowKit Go.Maps Go.Shelf
set_option linter.unusedVariables false
set_option linter.unusedSimpArgs false

/-- Every block but g is as it was. -/
def Off (g : Nat) (w w' : World) : Prop := ∀ k, k < w.heap.size → k ≠ g → w'.heap[k]? = w.heap[k]?
theorem Off.refl (g : Nat) (w : World) : Off g w w := fun _ _ _ => rfl
theorem Off.trans {g : Nat} {a b c : World} (h : Off g a b) (hs : a.heap.size ≤ b.heap.size) (k : Off g b c) : Off g a c := fun j hj hn => (k j (by omega) hn).trans (h j hj hn)
theorem Off.set {g i : Nat} {w : World} {v : Value} : Off g w (w.setCell ⟨g, i, none⟩ v) := fun j _ hn => Below.heap_setCell _ _ _ j hn
set_option maxRecDepth 100000 in
set_option maxHeartbeats 4000000 in
theorem ledger_spendF {N g gl : Nat} {A : Acc} {M : Cls Int} {w : World} (h : LdAt N g gl A M w) (hN : N ≤ w.heap.size) {a n : Int} (ha : (Lit.int .i64 a).wf = true) (back : Bool) :
    Calls Tryz.prog 69 #[.pointer (some ⟨g, 0, none⟩), .int .i64 a, .int .i64 n, .bool back] w fun e w' => e = .returned (.int .i64 (spendE A M a n back)) ∧ LdAt N g gl (spent A M a n back) M w' ∧ Below N w w' ∧ Off g w w' := by
  by_cases hac : isAcc a
  · obtain ⟨k, rfl, hk⟩ := isAcc_nat hac
    have HK := Lib.hid hk
    by_cases hbal : isBal n
    · have hbal' := hbal
      unfold isBal at hbal'
      have hd : decide (0 ≤ n ∧ n ≤ 1073741824) = true := decide_eq_true hbal'
      have HD := Lib.hid hd
      have hfree := h.free hk
      have hfroz := h.frozen (k * 2)
      obtain ⟨f, hf⟩ : ∃ f, f = (A k).1 := ⟨_, rfl⟩
      rw [← hf] at hfree
      have hf0 : 0 ≤ f := by rw [hf]; exact h.ok.free k
      have hf1 : f ≤ 1073741824 := by have := h.ok.one hk; have := h.ok.held k; unfold both at *; omega
      have HB := Lib.hid hbal'
      have HH := Lib.hid (And.intro h (And.intro hN (And.intro ha hac)))
      by_cases hlo : f < n
      · have e : spendE A M k n back = 6 := by unfold spendE; rw [if_neg (by simp [hac, hbal]), if_pos (by rw [Int.toNat_natCast, ← hf]; exact hlo)]
        have e2 : spent A M k n back = A := by unfold spent; rw [e]; rfl
        rw [e, e2]
        clear hk hac hbal hbal' hd h hN ha hf e e2
        go_enter Tryz.func69, Tryz.ntmps69
        go_wp2_with (first
          | (go_at_call 68; refine (ledger_account HK.out w).mono ?_; rintro e w' ⟨rfl, rfl⟩)
          | (go_at_call 71; refine (bound_Balance _ _).mono ?_; rw [HD.out]; rintro e w' ⟨rfl, rfl⟩)
          | fail)
        exact bodyPost_ret (v := .int .i64 6) (by simp [results, Tryz.results69, go_sem]) rfl ⟨rfl, HH.out.1, Below.refl _ _, Off.refl _ _⟩
      · have hn1 : IntKind.i64.wrap (f - n) = f - n := IntWalk.i64_in _ (by omega)
        have hpay : ∀ w', LdAt N g gl A M w' → LdAt N g gl (spendA A k n) M (w'.setCell ⟨g, k * 2, none⟩ (.int .i64 (f - n))) ∧ Below N w' (w'.setCell ⟨g, k * 2, none⟩ (.int .i64 (f - n))) ∧ Off g w' (w'.setCell ⟨g, k * 2, none⟩ (.int .i64 (f - n))) := fun w' h' => by
          have := h'.setFree hk (f - n) (by have := spendA_ok h.ok hac hbal (by rw [Int.toNat_natCast, ← hf]; omega); rw [spendA, Int.toNat_natCast, ← hf] at this; exact this)
          rw [spendA, Int.toNat_natCast, ← hf]; exact ⟨this.1, this.2, Off.set⟩
        have HP := Lib.hid hpay
        have hno : ¬ f < n := hlo
        have hspend : ∀ c : Bool, (0 < n ∧ back = false ∧ f - n < lockedOf M k ↔ c = true) → spendE A M k n back = if c then 7 else 0 := fun c hc => by
          unfold spendE
          rw [if_neg (by simp [hac, hbal]), Int.toNat_natCast, ← hf, if_neg hlo]
          cases c
          · rw [if_neg (by rw [hc]; simp)]; rfl
          · rw [if_pos (hc.2 rfl)]; rfl
        by_cases hn0 : 0 < n ∧ back = false
        · obtain ⟨hn0, rfl⟩ := hn0
          obtain ⟨lk, hlk⟩ : ∃ lk, lk = lockedOf M k := ⟨_, rfl⟩
          have hlck : ∀ w', LdAt N g gl A M w' → Calls Tryz.prog 105 #[.pointer (some ⟨g, 0, none⟩), .int .i64 k] w' fun e w'' => e = .returned (.int .i64 lk) ∧ Below w'.heap.size w' w'' := fun w' h' => by rw [hlk]; exact ledger_Locked h' ha
          have hld : LdAt N g gl A M w.drew := h.drewd
          have hfd : w.drew.cell? ⟨g, k * 2, none⟩ = some (.int .i64 f) := hfree
          have hwd : ∀ w2, Below w.drew.heap.size w.drew w2 → w2.cell? ⟨g, k * 2, none⟩ = some (.int .i64 f) ∧ (LdAt N g gl A M w2 ∧ Below N w w2 ∧ Off g w w2) := fun w2 hb => by
            have h2 : LdAt N g gl A M w2 := h.below ⟨hb.os, hb.tape, hb.output, hb.size, hb.block⟩
            refine ⟨by rw [hf]; exact h2.free hk, h2, ⟨hb.os, hb.tape, hb.output, hb.size, fun j hj => hb.block j (show j < w.heap.size by omega)⟩, fun j hj _ => hb.block j hj⟩
          have HFD := Lib.hid hfd
          have HW := Lib.hid hwd
          have HL := Lib.hid (hlck w.drew hld)
          clear hlck hld hfd hwd
          rw [← hlk] at hspend
          by_cases hc : f - n < lk
          · have e := hspend true (by simp [hn0, hc])
            have e2 : spent A M k n false = A := by unfold spent; rw [e]; rfl
            rw [e, e2]
            clear hk hac hbal hbal' hd h hN ha hf e e2 hlo hpay hspend hlk
            go_enter Tryz.func69, Tryz.ntmps69
            go_upto_region 6 with (first
              | (go_at_call 68; refine (ledger_account HK.out w).mono ?_; rintro e w' ⟨rfl, hw⟩; rw [hw]; clear hw w')
              | (go_at_call 71; refine (bound_Balance _ _).mono ?_; rw [HD.out]; rintro e w' ⟨rfl, hw⟩; rw [hw]; clear hw w')
              | fail)
            go_region_held3 (fun wc => wc.cell? ⟨g, k * 2, none⟩ = some (.int .i64 f)) (first | exact hfree | exact HFD.out | exact H2.out.1) (first
              | (go_at_call 105; with_reducible refine HL.out.mono ?_; rintro e w2 ⟨rfl, hb⟩; have H2 := Lib.hid (And.intro (HW.out w2 hb).1 (HW.out w2 hb).2); clear hb)
              | fail)
            all_goals
              go_wp2_with fail
              exact bodyPost_ret (v := .int .i64 7) (by simp [results, Tryz.results69, go_sem]) rfl ⟨rfl, H2.out.2.1, H2.out.2.2⟩
          · have e := hspend false (by simp [hc])
            have e2 : spent A M k n false = spendA A k n := by unfold spent; rw [e]; rfl
            rw [e, e2]
            clear hk hac hbal hbal' hd h hN ha hf e e2 hlo hpay hspend hlk
            go_enter Tryz.func69, Tryz.ntmps69
            go_upto_region 6 with (first
              | (go_at_call 68; refine (ledger_account HK.out w).mono ?_; rintro e w' ⟨rfl, hw⟩; rw [hw]; clear hw w')
              | (go_at_call 71; refine (bound_Balance _ _).mono ?_; rw [HD.out]; rintro e w' ⟨rfl, hw⟩; rw [hw]; clear hw w')
              | fail)
            go_region_held3 (fun wc => wc.cell? ⟨g, k * 2, none⟩ = some (.int .i64 f)) (first | exact hfree | exact HFD.out | exact H2.out.1) (first
              | (go_at_call 105; with_reducible refine HL.out.mono ?_; rintro e w2 ⟨rfl, hb⟩; have H2 := Lib.hid (And.intro (HW.out w2 hb).1 (HW.out w2 hb).2); clear hb)
              | fail)
            all_goals
              have hfree2 := H2.out.1
              have hfroz2 := H2.out.2.1.frozen (k * 2)
              go_wp2_with fail
              exact bodyPost_ret (v := .int .i64 0) (by simp [results, Tryz.results69, go_sem]) rfl ⟨rfl, (HP.out _ H2.out.2.1).1, H2.out.2.2.1.trans (HP.out _ H2.out.2.1).2.1, H2.out.2.2.2.trans H2.out.2.2.1.size (HP.out _ H2.out.2.1).2.2⟩
        · have hex : ¬ 0 < n ∨ (0 < n ∧ back = true) := by
            rcases Bool.eq_false_or_eq_true back with h | h
            · by_cases h0 : 0 < n
              · exact .inr ⟨h0, h⟩
              · exact .inl h0
            · exact .inl (fun h0 => hn0 ⟨h0, h⟩)
          have e := hspend false (by constructor; exact fun h => absurd ⟨h.1, h.2.1⟩ hn0; simp)
          have e2 : spent A M k n back = spendA A k n := by unfold spent; rw [e]; rfl
          rw [e, e2]
          clear hn0
          rcases hex with hn0 | ⟨hn0, rfl⟩
          · obtain rfl : n = 0 := by omega
            have hpay2 := hpay
            simp only [Int.sub_zero] at hpay2 hn1
            have HP := Lib.hid hpay2
            clear hpay2 hn0
            clear hk hac hbal hbal' hd h hN ha hf e e2 hlo hpay hspend hno HB HD
            go_enter Tryz.func69, Tryz.ntmps69
            go_upto_region 6 with (first
              | (go_at_call 68; refine (ledger_account HK.out w).mono ?_; rintro e w' ⟨rfl, hw⟩; rw [hw]; clear hw w')
              | (go_at_call 71; refine (bound_Balance _ _).mono ?_; rw [show decide ((0:Int) ≤ 0 ∧ (0:Int) ≤ 1073741824) = true from rfl]; rintro e w' ⟨rfl, hw⟩; rw [hw]; clear hw w')
              | fail)
            go_quiet (fail)
            go_wp2_with fail
            exact bodyPost_ret (v := .int .i64 0) (by simp [results, Tryz.results69, go_sem]) rfl ⟨rfl, (HP.out (w.drewN nq) (HH.out.1.below ⟨rfl, rfl, rfl, Nat.le_refl _, fun _ _ => rfl⟩)).1, Below.trans (b := w.drewN nq) ⟨rfl, rfl, rfl, Nat.le_refl _, fun _ _ => rfl⟩ (HP.out (w.drewN nq) (HH.out.1.below ⟨rfl, rfl, rfl, Nat.le_refl _, fun _ _ => rfl⟩)).2.1, (HP.out (w.drewN nq) (HH.out.1.below ⟨rfl, rfl, rfl, Nat.le_refl _, fun _ _ => rfl⟩)).2.2⟩
          · clear hk hac hbal hbal' hd h hN ha hf e e2 hlo hpay hspend
            go_enter Tryz.func69, Tryz.ntmps69
            go_upto_region 6 with (first
              | (go_at_call 68; refine (ledger_account HK.out w).mono ?_; rintro e w' ⟨rfl, hw⟩; rw [hw]; clear hw w')
              | (go_at_call 71; refine (bound_Balance _ _).mono ?_; rw [HD.out]; rintro e w' ⟨rfl, hw⟩; rw [hw]; clear hw w')
              | fail)
            go_quiet (fail)
            go_wp2_with fail
            exact bodyPost_ret (v := .int .i64 0) (by simp [results, Tryz.results69, go_sem]) rfl ⟨rfl, (HP.out (w.drewN nq) (HH.out.1.below ⟨rfl, rfl, rfl, Nat.le_refl _, fun _ _ => rfl⟩)).1, Below.trans (b := w.drewN nq) ⟨rfl, rfl, rfl, Nat.le_refl _, fun _ _ => rfl⟩ (HP.out (w.drewN nq) (HH.out.1.below ⟨rfl, rfl, rfl, Nat.le_refl _, fun _ _ => rfl⟩)).2.1, (HP.out (w.drewN nq) (HH.out.1.below ⟨rfl, rfl, rfl, Nat.le_refl _, fun _ _ => rfl⟩)).2.2⟩
    · have e : spendE A M k n back = 1 := by unfold spendE; rw [if_pos (.inr hbal)]
      have e2 : spent A M k n back = A := by unfold spent; rw [e]; rfl
      have hd : decide (0 ≤ n ∧ n ≤ 1073741824) = false := by unfold isBal at hbal; exact decide_eq_false hbal
      have HD := Lib.hid hd
      have HH := Lib.hid h
      rw [e, e2]
      clear hk hac hbal hd h hN ha e e2
      go_enter Tryz.func69, Tryz.ntmps69
      go_wp2_with (first
        | (go_at_call 68; refine (ledger_account HK.out w).mono ?_; rintro e w' ⟨rfl, hw⟩; rw [hw]; clear hw w')
        | (go_at_call 71; refine (bound_Balance _ _).mono ?_; rw [HD.out]; rintro e w' ⟨rfl, hw⟩; rw [hw]; clear hw w')
        | fail)
      exact bodyPost_ret (v := .int .i64 1) (by simp [results, Tryz.results69, go_sem]) rfl ⟨rfl, HH.out, Below.refl _ _, Off.refl _ _⟩
  · have e : spendE A M a n back = 1 := by unfold spendE; rw [if_pos (.inl hac)]
    have e2 : spent A M a n back = A := by unfold spent; rw [e]; rfl
    have HD := Lib.hid hac
    have HH := Lib.hid h
    rw [e, e2]
    clear hac h hN ha e e2
    go_enter Tryz.func69, Tryz.ntmps69
    go_wp2_with (first
      | (go_at_call 68; refine (ledger_account_no HD.out w).mono ?_; rintro e w' ⟨rfl, hw⟩; rw [hw]; clear hw w')
      | fail)
    exact bodyPost_ret (v := .int .i64 1) (by simp [results, Tryz.results69, go_sem]) rfl ⟨rfl, HH.out, Below.refl _ _, Off.refl _ _⟩
section
variable {N g gl : Nat} {A : Acc} {M : Cls Int} {w : World}
end
end Go.Proofs.YtpkamfbjgdmmoaaGreat
end

section
namespace Go.Proofs.YtpkamfbjgdmmoaaGreat
open Go.RowKit Go.Maps Go.Shelf
set_option linter.unusedVariables false
set_option linter.unusedSimpArgs false

section
variable {N g gl : Nat} {A : Acc} {M : Cls Int} {w : World}
set_option maxRecDepth 100000 in
set_option maxHeartbeats 1000000 in
theorem ledger_ReserveF (h : LdAt N g gl A M w) (hN : N ≤ w.heap.size) {a : Int} (ha : (Lit.int .i64 a).wf = true) (n : Int) : Calls Tryz.prog 39 #[.pointer (some ⟨g, 0, none⟩), .int .i64 a, .int .i64 n] w fun e w' => e = .returned (.int .i64 (spendE A M a n false)) ∧ LdAt N g gl (reserveA A M a n) M w' ∧ Below N w w' ∧ Off g w w' := by
  have hok := h.ok
  have HH := Lib.hid (And.intro h (And.intro hN ha))
  clear h hN ha
  obtain ⟨E, hE⟩ : ∃ E, E = spendE A M a n false := ⟨_, rfl⟩
  by_cases h0 : E = 0
  · obtain ⟨hac, hbal, hfr⟩ := spendE_ok (hE.symm.trans h0)
    have hA : reserveA A M a n = upd (spendA A a n) a.toNat ((spendA A a n a.toNat).1, (spendA A a n a.toNat).2 + n) := by rw [reserveA, ← hE, if_pos h0]
    have hS : spent A M a n false = spendA A a n := by rw [spent, ← hE, if_pos h0]
    rw [hA, ← hE, h0]
    have ok1 := spendA_ok hok hac hbal hfr
    have sm1 := sum_spendA A hac n
    obtain ⟨k, rfl, hk⟩ := isAcc_nat hac
    rw [Int.toNat_natCast]
    obtain ⟨B, hB⟩ : ∃ B, B = spendA A k n := ⟨_, rfl⟩
    rw [← hB] at hS ok1 sm1 ⊢
    unfold isBal at hbal
    have ok2 : AccOk (upd B k ((B k).1, (B k).2 + n)) := ok1.upd hk (ok1.free k) (by have := ok1.held k; simp only; omega) (by have := hok.all; unfold both; simp only; omega)
    obtain ⟨v, hv⟩ : ∃ v, v = (B k).2 := ⟨_, rfl⟩
    have hv0 : 0 ≤ v ∧ v ≤ 1073741824 := by have := ok1.one hk; have := ok1.held k; have := ok1.free k; unfold both at *; omega
    have hn1 : IntKind.i64.wrap (v + n) = v + n := IntWalk.i64_in _ (by omega)
    have hE0 : spendE A M k n false = 0 := by rw [← hE, h0]
    have hpay : ∀ w1, LdAt N g gl B M w1 → w1.cell? ⟨g, k * 2 + 1, none⟩ = some (.int .i64 v) ∧ LdAt N g gl (upd B k ((B k).1, (B k).2 + n)) M (w1.setCell ⟨g, k * 2 + 1, none⟩ (.int .i64 (v + n))) ∧ Below N w1 (w1.setCell ⟨g, k * 2 + 1, none⟩ (.int .i64 (v + n))) := fun w1 h1 => ⟨by rw [hv]; exact h1.held hk, by rw [hv]; exact h1.setHeld hk _ ok2⟩
    have HP := Lib.hid hpay
    have HK := Lib.hid hk
    have HE := Lib.hid (And.intro hE0 hS)
    clear hok hac hbal hfr hA hS ok1 sm1 hk hB ok2 hv hE0 hpay h0 hE
    go_enter Tryz.func39, Tryz.ntmps39
    go_wp2_with (first
      | (go_at_call 69; refine (ledger_spendF HH.out.1 HH.out.2.1 HH.out.2.2 false).mono ?_; rw [HE.out.1, HE.out.2]; rintro e w1 ⟨rfl, h1, h2, h2o⟩; have hc1 := (HP.out w1 h1).1; have hf1 := h1.frozen (k * 2 + 1); have H1 := Lib.hid (And.intro h1 (And.intro h2 h2o)); clear h1 h2 h2o)
      | (go_at_call 68; refine (ledger_account HK.out _).mono ?_; rintro e w' ⟨rfl, hw⟩; rw [hw]; clear hw w')
      | fail)
    go_ret
    exact ⟨rfl, (HP.out _ H1.out.1).2.1, H1.out.2.1.trans (HP.out _ H1.out.1).2.2, H1.out.2.2.trans H1.out.2.1.size Off.set⟩
  · have hA : reserveA A M a n = A := by rw [reserveA, ← hE, if_neg h0]
    have hS : spent A M a n false = A := by rw [spent, ← hE, if_neg h0]
    rw [hA, ← hE]
    have HE := Lib.hid (And.intro hE hS)
    clear hA hS hE hok
    go_enter Tryz.func39, Tryz.ntmps39
    go_wp2_with (first
      | (go_at_call 69; refine (ledger_spendF HH.out.1 HH.out.2.1 HH.out.2.2 false).mono ?_; rw [← HE.out.1, HE.out.2]; rintro e w1 ⟨rfl, h1, h2, h2o⟩; have H1 := Lib.hid (And.intro h1 (And.intro h2 h2o)); clear h1 h2 h2o)
      | fail)
    go_ret
    exact ⟨rfl, H1.out⟩
set_option maxRecDepth 100000 in
set_option maxHeartbeats 1000000 in
theorem ledger_TransferF (h : LdAt N g gl A M w) (hN : N ≤ w.heap.size) {a : Int} (ha : (Lit.int .i64 a).wf = true) (b n : Int) : Calls Tryz.prog 27 #[.pointer (some ⟨g, 0, none⟩), .int .i64 a, .int .i64 b, .int .i64 n] w fun e w' => e = .returned (.int .i64 (transE A M a b n)) ∧ LdAt N g gl (transA A M a b n) M w' ∧ Below N w w' ∧ Off g w w' := by
  have hok := h.ok
  have HH := Lib.hid (And.intro h (And.intro hN ha))
  clear h hN ha
  by_cases hb : isAcc b
  · have hT : transE A M a b n = spendE A M a n (decide (a = b)) := by rw [transE, if_pos hb]
    obtain ⟨q, hq⟩ : ∃ q, q = decide (a = b) := ⟨_, rfl⟩
    rw [← hq] at hT
    obtain ⟨E, hE⟩ : ∃ E, E = spendE A M a n q := ⟨_, rfl⟩
    have hQ : (a == b) = q := by rw [hq]; exact Bool.eq_iff_iff.2 (by simp)
    obtain ⟨j, rfl, hj⟩ := isAcc_nat hb
    by_cases h0 : E = 0
    · obtain ⟨hac, hbal, hfr⟩ := spendE_ok (hE.symm.trans h0)
      have hA : transA A M a j n = giveA (spendA A a n) j n := by rw [transA, hT, ← hE, if_pos h0, Int.toNat_natCast]
      have hS : spent A M a n q = spendA A a n := by rw [spent, ← hE, if_pos h0]
      rw [hA, hT, ← hE, h0]
      have ok1 := spendA_ok hok hac hbal hfr
      have sm1 := sum_spendA A hac n
      obtain ⟨B, hB⟩ : ∃ B, B = spendA A a n := ⟨_, rfl⟩
      rw [← hB] at hS ok1 sm1 ⊢
      unfold isBal at hbal
      have ok2 : AccOk (giveA B j n) := giveA_ok ok1 hj hbal.1 (by have := hok.all; omega)
      obtain ⟨v, hv⟩ : ∃ v, v = (B j).1 := ⟨_, rfl⟩
      have hv0 : 0 ≤ v ∧ v ≤ 1073741824 := by have := ok1.one hj; have := ok1.held j; have := ok1.free j; unfold both at *; omega
      have hn1 : IntKind.i64.wrap (v + n) = v + n := IntWalk.i64_in _ (by omega)
      have hE0 : spendE A M a n q = 0 := by rw [← hE, h0]
      have hpay : ∀ w1, LdAt N g gl B M w1 → w1.cell? ⟨g, j * 2, none⟩ = some (.int .i64 v) ∧ LdAt N g gl (giveA B j n) M (w1.setCell ⟨g, j * 2, none⟩ (.int .i64 (v + n))) ∧ Below N w1 (w1.setCell ⟨g, j * 2, none⟩ (.int .i64 (v + n))) := fun w1 h1 => ⟨by rw [hv]; exact h1.free hj, by rw [hv]; exact h1.setFree hj _ ok2⟩
      have HP := Lib.hid hpay
      have HK := Lib.hid hj
      have HE := Lib.hid (And.intro hE0 hS)
      clear hok hac hbal hfr hA hS ok1 sm1 hj hB ok2 hv hE0 hpay h0 hE hq hb hT
      go_enter Tryz.func27, Tryz.ntmps27
      go_wp2_with (first
        | (go_at_call 69; refine (ledger_spendF HH.out.1 HH.out.2.1 HH.out.2.2 q).mono ?_; rw [HE.out.1, HE.out.2]; rintro e w1 ⟨rfl, h1, h2, h2o⟩; have hc1 := (HP.out w1 h1).1; have hf1 := h1.frozen (j * 2); have H1 := Lib.hid (And.intro h1 (And.intro h2 h2o)); clear h1 h2 h2o)
        | (go_at_call 68; refine (ledger_account HK.out _).mono ?_; rintro e w' ⟨rfl, hw⟩; rw [hw]; clear hw w')
        | fail)
      go_ret
      exact ⟨rfl, (HP.out _ H1.out.1).2.1, H1.out.2.1.trans (HP.out _ H1.out.1).2.2, H1.out.2.2.trans H1.out.2.1.size Off.set⟩
    · have hA : transA A M a j n = A := by rw [transA, hT, ← hE, if_neg h0]
      have hS : spent A M a n q = A := by rw [spent, ← hE, if_neg h0]
      rw [hA, hT, ← hE]
      have HK := Lib.hid hj
      have HE := Lib.hid (And.intro hE hS)
      clear hA hS hE hok hb hj hT hq
      go_enter Tryz.func27, Tryz.ntmps27
      go_wp2_with (first
        | (go_at_call 69; refine (ledger_spendF HH.out.1 HH.out.2.1 HH.out.2.2 q).mono ?_; rw [← HE.out.1, HE.out.2]; rintro e w1 ⟨rfl, h1, h2, h2o⟩; have H1 := Lib.hid (And.intro h1 (And.intro h2 h2o)); clear h1 h2 h2o)
        | (go_at_call 68; refine (ledger_account HK.out _).mono ?_; rintro e w' ⟨rfl, hw⟩; rw [hw]; clear hw w')
        | fail)
      go_ret
      exact ⟨rfl, H1.out⟩
  · have hT : transE A M a b n = 1 := by rw [transE, if_neg hb]
    have hA : transA A M a b n = A := by rw [transA, hT]; rfl
    rw [hT, hA]
    have HB := Lib.hid hb
    clear hT hA hb hok
    go_enter Tryz.func27, Tryz.ntmps27
    go_wp2_with (first
      | (go_at_call 68; refine (ledger_account_no HB.out _).mono ?_; rintro e w' ⟨rfl, hw⟩; rw [hw]; clear hw w')
      | fail)
    exact bodyPost_ret (v := .int .i64 1) (by simp [results, Tryz.results27, go_sem]) rfl ⟨rfl, HH.out.1, Below.refl _ _, Off.refl _ _⟩
end
end Go.Proofs.YtpkamfbjgdmmoaaGreat
end

section
namespace Go.Proofs.YtpkamfbjgdmmoaaGreat
open Go.RowKit Go.Maps
set_option linter.unusedVariables false
set_option linter.unusedSimpArgs false

/-- A poll. -/
structure Pl where
  st : Int
  tr : Int
  ay : Int
  na : Int
  su : Int
  en : Int
def plc (p : Pl) : List Value := [.int .i64 p.st, .int .i64 p.tr, .int .i64 p.ay, .int .i64 p.na, .int .i64 p.su, .int .i64 p.en]
/-- The struct of a voting: twelve polls, four tables. -/
def VoB (vb : Nat) (P : Nat → Pl) (gv gd gw gp : Nat) (w : World) : Prop :=
  ∃ C : Array Value, w.heap[vb]? = some (.cells C 112 (0, 0)) ∧ C.size = 76 ∧ (∀ k, k < 12 → ∀ j u, (plc (P k))[j]? = some u → C[k * 6 + j]? = some u) ∧
    C[72]? = some (.pointer (some ⟨gv, 0, none⟩)) ∧ C[73]? = some (.pointer (some ⟨gd, 0, none⟩)) ∧ C[74]? = some (.pointer (some ⟨gw, 0, none⟩)) ∧ C[75]? = some (.pointer (some ⟨gp, 0, none⟩))
section
variable {vb gv gd gw gp : Nat} {P : Nat → Pl} {w w' : World}
theorem VoB.lt (h : VoB vb P gv gd gw gp w) : vb < w.heap.size := by obtain ⟨C, h, _⟩ := h; exact (Array.getElem?_eq_some_iff.1 h).1
theorem VoB.keep (h : VoB vb P gv gd gw gp w) (hk : w'.heap[vb]? = w.heap[vb]?) : VoB vb P gv gd gw gp w' := by
  obtain ⟨C, h1, h2⟩ := h
  exact ⟨C, hk.trans h1, h2⟩
theorem VoB.frozen (h : VoB vb P gv gd gw gp w) (i : Nat) : w.frozen? ⟨vb, i, none⟩ = false := by
  obtain ⟨C, h1, _⟩ := h
  simp [World.frozen?, h1]
theorem VoB.cellAt (h : VoB vb P gv gd gw gp w) {k : Nat} (hk : k < 12) {j : Nat} {u : Value} (hu : (plc (P k))[j]? = some u) : w.cell? ⟨vb, k * 6 + j, none⟩ = some u := by
  obtain ⟨C, h1, _, h3, _⟩ := h
  rw [World.cell?, h1]
  exact h3 k hk j u hu
theorem VoB.poll (h : VoB vb P gv gd gw gp w) {k : Nat} (hk : k < 12) :
    w.cell? ⟨vb, k * 6, none⟩ = some (.int .i64 (P k).st) ∧ w.cell? ⟨vb, k * 6 + 1, none⟩ = some (.int .i64 (P k).tr) ∧ w.cell? ⟨vb, k * 6 + 2, none⟩ = some (.int .i64 (P k).ay) ∧ w.cell? ⟨vb, k * 6 + 3, none⟩ = some (.int .i64 (P k).na) ∧ w.cell? ⟨vb, k * 6 + 4, none⟩ = some (.int .i64 (P k).su) ∧ w.cell? ⟨vb, k * 6 + 5, none⟩ = some (.int .i64 (P k).en) :=
  ⟨h.cellAt hk (j := 0) rfl, h.cellAt hk (j := 1) rfl, h.cellAt hk (j := 2) rfl, h.cellAt hk (j := 3) rfl, h.cellAt hk (j := 4) rfl, h.cellAt hk (j := 5) rfl⟩
theorem VoB.tables (h : VoB vb P gv gd gw gp w) :
    w.cell? ⟨vb, 72, none⟩ = some (.pointer (some ⟨gv, 0, none⟩)) ∧ w.cell? ⟨vb, 73, none⟩ = some (.pointer (some ⟨gd, 0, none⟩)) ∧ w.cell? ⟨vb, 74, none⟩ = some (.pointer (some ⟨gw, 0, none⟩)) ∧ w.cell? ⟨vb, 75, none⟩ = some (.pointer (some ⟨gp, 0, none⟩)) := by
  obtain ⟨C, h1, _, _, h4, h5, h6, h7⟩ := h
  refine ⟨?_, ?_, ?_, ?_⟩ <;> rw [World.cell?, h1] <;> assumption
/-- A poll's cell is written. -/
theorem VoB.set (h : VoB vb P gv gd gw gp w) {k j : Nat} (hk : k < 12) (hj : j < 6) {u : Value} {p' : Pl} (hp : plc p' = (plc (P k)).set j u) : VoB vb (fun i => if i = k then p' else P i) gv gd gw gp (w.setCell ⟨vb, k * 6 + j, none⟩ u) := by
  obtain ⟨C, h1, h2, h3, h4, h5, h6, h7⟩ := h
  have hl : ∀ p : Pl, (plc p).length = 6 := fun _ => rfl
  refine ⟨C.setIfInBounds (k * 6 + j) u, by simp [World.setCell, Array.getElem?_modify, h1], by simp [h2], fun i hi m v hv => ?_, ?_, ?_, ?_, ?_⟩
  · have hm : m < 6 := (List.getElem?_eq_some_iff.1 hv).1
    replace hv : (plc (if i = k then p' else P i))[m]? = some v := hv
    rw [Array.getElem?_setIfInBounds]
    by_cases e : i = k
    · subst e
      simp only [if_true] at hv
      rw [hp, List.getElem?_set] at hv
      by_cases e2 : m = j
      · subst e2
        rw [if_pos rfl, if_pos (by rw [hl]; exact hm)] at hv
        rw [if_pos rfl, if_pos (by omega)]
        exact hv
      · rw [if_neg (by omega)] at hv
        rw [if_neg (by omega)]
        exact h3 i hi m v hv
    · rw [if_neg e] at hv
      rw [if_neg (by omega)]
      exact h3 i hi m v hv
  all_goals
    rw [Array.getElem?_setIfInBounds, if_neg (by omega)]
    assumption
end
/-- Which poll is there. -/
def plHas (P : Nat → Pl) (r : Int) : Prop := (0 ≤ r ∧ r < 12) ∧ (P r.toNat).st ≠ 0
set_option maxRecDepth 100000 in
theorem voting_poll {vb gv gd gw gp : Nat} {P : Nat → Pl} {w : World} (h : VoB vb P gv gd gw gp w) {k : Nat} (hk : k < 12) : Calls Tryz.prog 44 #[.pointer (some ⟨vb, 0, none⟩), .int .i64 k] w fun e w' => e = .returned (.pointer (if (P k).st = 0 then none else some ⟨vb, k * 6, none⟩)) ∧ w' = w := by
  obtain ⟨c0, -⟩ := h.poll hk
  have hkI : (k : Int) < 12 := by omega
  obtain ⟨x, hx⟩ : ∃ x, x = (P k).st := ⟨_, rfl⟩
  rw [← hx] at c0 ⊢
  have HK := Lib.hid (show decide ((0 : Int) ≤ (k : Int) ∧ (k : Int) < 12) = true by simp; omega)
  clear h hx
  by_cases e : x = 0
  · subst e
    go_enter Tryz.func44, Tryz.ntmps44
    go_wp2_with (first
      | (go_at_call 77; refine (bound_Below _ _ _).mono ?_; rw [HK.out]; rintro e w' ⟨rfl, hw⟩; rw [hw]; clear hw w')
      | fail)
    exact bodyPost_ret (v := .pointer none) (by simp [results, Tryz.results44, go_sem]) rfl ⟨rfl, rfl⟩
  · have e' : (x == 0) = false := by simpa using e
    rw [if_neg e]
    have HE := Lib.hid e
    clear e
    go_enter Tryz.func44, Tryz.ntmps44
    go_wp2_with (first
      | (go_at_call 77; refine (bound_Below _ _ _).mono ?_; rw [HK.out]; rintro e w' ⟨rfl, hw⟩; rw [hw]; clear hw w')
      | fail)
    exact bodyPost_ret (v := .pointer (some ⟨vb, k * 6, none⟩)) (by simp [results, Tryz.results44, go_sem]) rfl ⟨rfl, rfl⟩
end Go.Proofs.YtpkamfbjgdmmoaaGreat
end

section
namespace Go.Proofs.YtpkamfbjgdmmoaaGreat
open Go.RowKit Go.Maps
set_option linter.unusedVariables false
set_option linter.unusedSimpArgs false

/-- Where a poll lies that is there. -/
def plPtr (vb : Nat) (P : Nat → Pl) (r : Int) : Option Addr := if (0 ≤ r ∧ r < 12) ∧ (P r.toNat).st ≠ 0 then some ⟨vb, r.toNat * 6, none⟩ else none
set_option maxRecDepth 100000 in
theorem voting_pollR {vb gv gd gw gp : Nat} {P : Nat → Pl} {w : World} (h : VoB vb P gv gd gw gp w) (r : Int) : Calls Tryz.prog 44 #[.pointer (some ⟨vb, 0, none⟩), .int .i64 r] w fun e w' => e = .returned (.pointer (plPtr vb P r)) ∧ w' = w := by
  by_cases hr : 0 ≤ r ∧ r < 12
  · obtain ⟨k, rfl⟩ := Int.eq_ofNat_of_zero_le hr.1
    refine (voting_poll h (by omega)).mono fun e w' ⟨he, hw⟩ => ⟨?_, hw⟩
    rw [he]
    unfold plPtr
    by_cases e0 : (P k).st = 0
    · rw [if_pos e0, if_neg (fun h => h.2 (by simpa using e0))]
    · rw [if_neg e0, if_pos ⟨hr, by simpa using e0⟩]; simp
  · have hp : plPtr vb P r = none := by unfold plPtr; rw [if_neg (fun h => hr h.1)]
    rw [hp]
    have HK := Lib.hid (show decide ((0 : Int) ≤ r ∧ r < 12) = false from decide_eq_false hr)
    clear h hr hp
    go_enter Tryz.func44, Tryz.ntmps44
    go_wp2_with (first
      | (go_at_call 77; refine (bound_Below _ _ _).mono ?_; rw [HK.out]; rintro e w' ⟨rfl, hw⟩; rw [hw]; clear hw w')
      | fail)
    exact bodyPost_ret (v := .pointer none) (by simp [results, Tryz.results44, go_sem]) rfl ⟨rfl, rfl⟩
theorem poll_open {vb gv gd gw gp : Nat} {P : Nat → Pl} {w : World} (h : VoB vb P gv gd gw gp w) {k : Nat} (hk : k < 12) : Calls Tryz.prog 47 #[.pointer (some ⟨vb, k * 6, none⟩)] w fun e w' => e = .returned (.bool ((P k).st == 1)) ∧ w' = w := by
  obtain ⟨c0, -⟩ := h.poll hk
  obtain ⟨x, hx⟩ : ∃ x, x = (P k).st := ⟨_, rfl⟩
  rw [← hx] at c0 ⊢
  clear h hx
  go_enter Tryz.func47, Tryz.ntmps47
  go_wp2_with fail
  exact bodyPost_ret (v := .bool (x == 1)) (by simp [results, Tryz.results47, go_sem]) rfl ⟨rfl, rfl⟩
/-- A tally. -/
structure Tl where
  a : Int
  n : Int
  s : Int
deriving DecidableEq
theorem tlyInfo : (Tryz.prog.info? 54).map (fun i => (i.zero, i.size)) = some (some (.agg #[.int .i64 0, .int .i64 0, .int .i64 0]), 3) := by kernel_rfl
def tlyS : StTy Tryz.prog Tl where
  T := 54
  k := 3
  f := fun x => [.int .i64 x.a, .int .i64 x.n, .int .i64 x.s]
  zero := ⟨0, 0, 0⟩
  len := fun _ => rfl
  lit := fun x u hu => by
    simp only [List.mem_cons, List.not_mem_nil, or_false] at hu
    rcases hu with rfl | rfl | rfl <;> trivial
  inj := fun x y h => by cases x; cases y; simpa using h
  info := by
    obtain ⟨i0, hi, hz⟩ := Option.map_eq_some_iff.1 tlyInfo
    simp only [Prod.mk.injEq] at hz
    exact ⟨i0, hi, hz.1, hz.2⟩
  row := ⟨_, Tryz.underlying54, rfl⟩
def Pl.t (p : Pl) : Tl := ⟨p.ay, p.na, p.su⟩
theorem VoB.tally {vb gv gd gw gp : Nat} {P : Nat → Pl} {w : World} (h : VoB vb P gv gd gw gp w) {k : Nat} (hk : k < 12) : w.rangeAt vb (k * 6 + 2) (tlyS.f (P k).t) := fun j u hj => by
  obtain ⟨c0, c1, c2, c3, c4, c5⟩ := h.poll hk
  have hj3 : j < 3 := (List.getElem?_eq_some_iff.1 hj).1
  match j, hj3, hj with
  | 0, _, hj => cases hj; exact c2
  | 1, _, hj => cases hj; exact c3
  | 2, _, hj => cases hj; exact c4
set_option maxRecDepth 100000 in
set_option maxHeartbeats 2000000 in
theorem voting_Tally {vb gv gd gw gp : Nat} {P : Nat → Pl} {w : World} (h : VoB vb P gv gd gw gp w) (r : Int) : Calls Tryz.prog 19 #[.pointer (some ⟨vb, 0, none⟩), .int .i64 r] w fun e w' => e = .returned (tlyS.v (if (plPtr vb P r).isSome then (P r.toNat).t else tlyS.zero)) ∧ Below w.heap.size w w' := by
  obtain ⟨W0, hW0⟩ : ∃ W0, W0 = w.alloc (tlyS.obj tlyS.zero) := ⟨_, rfl⟩
  obtain ⟨rb, hrb⟩ : ∃ rb, rb = w.heap.size := ⟨_, rfl⟩
  have hB0 : Below w.heap.size w W0 := by rw [hW0]; exact (Below.refl _ w).alloc (Nat.le_refl _) _
  have h0 : VoB vb P gv gd gw gp W0 := h.keep (hB0.block vb h.lt)
  have hz : W0.heap[rb]? = some (tlyS.obj tlyS.zero) := by rw [hW0, hrb]; exact World.alloc_heap_new w _
  have hend : ∀ t, (W0.setRow rb (tlyS.f t).toArray).rangeAt rb 0 (tlyS.f t) ∧ Below w.heap.size w (W0.setRow rb (tlyS.f t).toArray) := fun t => by
    refine ⟨rangeAt_whole (T := tlyS.T) (setRow_heap _ _ _ _ _ _ hz), hB0.os, hB0.tape, hB0.output, by simpa using hB0.size, fun k hk => (setRow_other _ _ _ _ (by rw [hrb]; omega)).trans (hB0.block k hk)⟩
  have HE := Lib.hid hend
  have HZ := Lib.hid hz
  have H0 := Lib.hid h0
  have HW0 := Lib.hid (And.intro hW0 hrb)
  obtain ⟨p, hp⟩ : ∃ p, p = plPtr vb P r := ⟨_, rfl⟩
  rw [← hp]
  cases p with
  | none =>
    have HP := Lib.hid hp
    clear h hW0 hrb hB0 h0 hz hend hp
    go_enter Tryz.func19, Tryz.ntmps19
    go_upto_region 1 with (first
      | (refine wpl_allocS (s := tlyS) rfl rfl rfl ?_)
      | fail)
    rw [← HW0.out.1, ← HW0.out.2]
    go_wp2_with (first
      | (go_at_call 44; refine (voting_pollR H0.out _).mono ?_; rw [← HP.out]; rintro e w1 ⟨rfl, hw⟩; rw [hw]; clear hw w1)
      | (refine wpl_storeS (s := tlyS) (t := tlyS.zero) (b := rb) _ _ rfl rfl rfl rfl rfl HZ.out (zeroS tlyS) ?_)
      | fail)
    exact bodyPost_ret (v := tlyS.v tlyS.zero) (results_S1 (s := tlyS) Tryz.results19 rfl (HE.out tlyS.zero).1) rfl ⟨rfl, (HE.out tlyS.zero).2⟩
  | some a =>
    have hc : (0 ≤ r ∧ r < 12) ∧ a = ⟨vb, r.toNat * 6, none⟩ := by
      unfold plPtr at hp
      split at hp
      · rename_i q; injection hp with hp; exact ⟨q.1, hp⟩
      · cases hp
    obtain ⟨hr, rfl⟩ := hc
    obtain ⟨k, rfl⟩ := Int.eq_ofNat_of_zero_le hr.1
    have hk : k < 12 := by omega
    have htl := h0.tally hk
    obtain ⟨t, ht⟩ : ∃ t, t = (P k).t := ⟨_, rfl⟩
    have e1 : (if (some (⟨vb, (Int.ofNat k).toNat * 6, none⟩ : Addr)).isSome then (P (Int.ofNat k).toNat).t else tlyS.zero) = t := by rw [ht]; rfl
    have e2 : (Int.ofNat k).toNat = k := rfl
    rw [← ht] at htl
    have HT := Lib.hid htl
    have HP := Lib.hid hp
    simp only [Option.isSome_some, if_true, Int.toNat_natCast] at HP ⊢
    rw [← ht]
    clear h hW0 hrb hB0 h0 hz hend hp htl e1 e2 ht
    go_enter Tryz.func19, Tryz.ntmps19
    go_upto_region 1 with (first
      | (refine wpl_allocS (s := tlyS) rfl rfl rfl ?_)
      | fail)
    rw [← HW0.out.1, ← HW0.out.2]
    go_wp2_with (first
      | (go_at_call 44; refine (voting_pollR H0.out _).mono ?_; rw [← HP.out]; rintro e w1 ⟨rfl, hw⟩; rw [hw]; clear hw w1)
      | (refine wpl_loadS (s := tlyS) (t := t) (b := vb) (k := k * 6 + 2) _ rfl rfl rfl rfl HT.out ?_)
      | (refine wpl_storeS (s := tlyS) (t := t) (b := rb) _ _ rfl rfl rfl rfl rfl HZ.out (zeroS tlyS) ?_)
      | fail)
    exact bodyPost_ret (v := tlyS.v t) (results_S1 (s := tlyS) Tryz.results19 rfl (HE.out t).1) rfl ⟨rfl, (HE.out t).2⟩
end Go.Proofs.YtpkamfbjgdmmoaaGreat
end

section
namespace Go.Proofs.YtpkamfbjgdmmoaaGreat
open Go.RowKit Go.Maps
set_option linter.unusedVariables false
set_option linter.unusedSimpArgs false

/-- Four tables' blocks, all of their own, and not the struct's. -/
structure Off4 (vb N : Nat) (FV FD FW FQ : FP) : Prop where
  vd : ∀ k, FV k → ¬ FD k
  vw : ∀ k, FV k → ¬ FW k
  vq : ∀ k, FV k → ¬ FQ k
  dw : ∀ k, FD k → ¬ FW k
  dq : ∀ k, FD k → ¬ FQ k
  wq : ∀ k, FW k → ¬ FQ k
  b : ¬ FV vb ∧ ¬ FD vb ∧ ¬ FW vb ∧ ¬ FQ vb
  n : ∀ k, FV k ∨ FD k ∨ FW k ∨ FQ k → N ≤ k
  nb : N ≤ vb
/-- A voting in memory. -/
structure VoAt (vb gv gd gw gp N : Nat) (P : Nat → Pl) (V : Cls Bal) (D : Cls Dlg) (G : Cls Wgt) (Q : Cls Wgt) (FV FD FW FQ : FP) (w : World) : Prop where
  blk : VoB vb P gv gd gw gp w
  v : GrAt balS.cod 178 gv V FV w
  d : GrAt dlgS.cod 182 gd D FD w
  g : GrAt wgtS.cod 212 gw G FW w
  q : GrAt priS.cod 215 gp Q FQ w
  off : Off4 vb N FV FD FW FQ
section
variable {vb gv gd gw gp N : Nat} {P : Nat → Pl} {V : Cls Bal} {D : Cls Dlg} {G Q : Cls Wgt} {FV FD FW FQ : FP} {w w' : World}
theorem VoAt.keep (h : VoAt vb gv gd gw gp N P V D G Q FV FD FW FQ w) (hg : Grow w w') (hk : ∀ k, k = vb ∨ FV k ∨ FD k ∨ FW k ∨ FQ k → w'.heap[k]? = w.heap[k]?) : VoAt vb gv gd gw gp N P V D G Q FV FD FW FQ w' :=
  ⟨h.blk.keep (hk vb (.inl rfl)), h.v.keep hg (fun k hf => hk k (.inr (.inl hf))), h.d.keep hg (fun k hf => hk k (.inr (.inr (.inl hf)))), h.g.keep hg (fun k hf => hk k (.inr (.inr (.inr (.inl hf))))), h.q.keep hg (fun k hf => hk k (.inr (.inr (.inr (.inr hf))))), h.off⟩
theorem VoAt.lt (h : VoAt vb gv gd gw gp N P V D G Q FV FD FW FQ w) {k : Nat} (hk : k = vb ∨ FV k ∨ FD k ∨ FW k ∨ FQ k) : k < w.heap.size := by
  rcases hk with rfl | hk | hk | hk | hk
  · exact h.blk.lt
  · exact h.v.2.2.1 k hk
  · exact h.d.2.2.1 k hk
  · exact h.g.2.2.1 k hk
  · exact h.q.2.2.1 k hk
theorem VoAt.below (h : VoAt vb gv gd gw gp N P V D G Q FV FD FW FQ w) (hb : Below w.heap.size w w') : VoAt vb gv gd gw gp N P V D G Q FV FD FW FQ w' := h.keep (Grow.of_below hb) (fun k hk => hb.block k (h.lt hk))
set_option maxRecDepth 100000 in
set_option maxHeartbeats 2000000 in
theorem voting_Got (h : VoAt vb gv gd gw gp N P V D G Q FV FD FW FQ w) {a b : Int} (ha : (Lit.int .i64 a).wf = true) (hb : (Lit.int .i64 b).wf = true) : Calls Tryz.prog 50 #[.pointer (some ⟨vb, 0, none⟩), .int .i64 a, .int .i64 b] w fun e w' => e = .returned (wgtS.v ((cget G a b).getD wgtS.zero)) ∧ Below w.heap.size w w' := by
  obtain ⟨W0, hW0⟩ : ∃ W0, W0 = w.alloc (wgtS.obj wgtS.zero) := ⟨_, rfl⟩
  obtain ⟨rb, hrb⟩ : ∃ rb, rb = w.heap.size := ⟨_, rfl⟩
  have hB0 : Below w.heap.size w W0 := by rw [hW0]; exact (Below.refl _ w).alloc (Nat.le_refl _) _
  have h0 := h.below hB0
  have hz : W0.heap[rb]? = some (wgtS.obj wgtS.zero) := by rw [hW0, hrb]; exact World.alloc_heap_new w _
  obtain ⟨-, -, t2, -⟩ := h0.blk.tables
  have hget := grid_Get_W h0.g ha hb
  obtain ⟨t, ht⟩ : ∃ t, t = (cget G a b).getD wgtS.zero := ⟨_, rfl⟩
  rw [← ht] at hget ⊢
  have hend : ∀ w1, Below W0.heap.size W0 w1 → (w1.alloc (wgtS.obj t)).heap[rb]? = some (wgtS.obj wgtS.zero) ∧ ((w1.alloc (wgtS.obj t)).setRow rb (wgtS.f t).toArray).rangeAt rb 0 (wgtS.f t) ∧ Below w.heap.size w ((w1.alloc (wgtS.obj t)).setRow rb (wgtS.f t).toArray) := fun w1 hb1 => by
    have hlt : rb < W0.heap.size := (Array.getElem?_eq_some_iff.1 hz).1
    have hs := hb1.size
    have e1 : (w1.alloc (wgtS.obj t)).heap[rb]? = some (wgtS.obj wgtS.zero) := (Below.heap_alloc _ _ _ (by omega)).trans ((hb1.block rb hlt).trans hz)
    have hbb := hB0.trans (hb1.mono hB0.size)
    have hb2 := hbb.alloc hbb.size (wgtS.obj t)
    exact ⟨e1, rangeAt_whole (T := wgtS.T) (setRow_heap _ _ _ _ _ _ e1), hb2.os, hb2.tape, hb2.output, by simpa using hb2.size, fun k hk => (setRow_other _ _ _ _ (by rw [hrb]; omega)).trans (hb2.block k hk)⟩
  have HE := Lib.hid hend
  have HG := Lib.hid hget
  have HW0 := Lib.hid (And.intro hW0 hrb)
  clear h hW0 hrb hB0 h0 hz hget ht hend ha hb
  go_enter Tryz.func50, Tryz.ntmps50
  go_upto_region 1 with (first
    | (refine wpl_allocS (s := wgtS) rfl rfl rfl ?_)
    | fail)
  rw [← HW0.out.1, ← HW0.out.2]
  have tok : True := trivial
  go_wp2_with (first
    | (go_at_call 87; refine HG.out.mono ?_; rintro e w1 ⟨rfl, hb⟩; have H1 := Lib.hid (HE.out w1 hb); clear hb)
    | (refine wpl_allocS (s := wgtS) rfl rfl rfl ?_)
    | (have _t := tok; refine wpl_storeS (s := wgtS) (t := t) (b := w1.heap.size) _ _ rfl rfl rfl rfl rfl (World.alloc_heap_new w1 _) (zeroS wgtS) ?_; rw [newS]; clear tok)
    | (refine wpl_loadS (s := wgtS) (t := t) (b := w1.heap.size) (k := 0) _ rfl rfl rfl rfl (atS wgtS w1 t) ?_)
    | (refine wpl_storeS (s := wgtS) (t := t) (b := rb) _ _ rfl rfl rfl rfl rfl H1.out.1 (zeroS wgtS) ?_)
    | fail)
  exact bodyPost_ret (v := wgtS.v t) (results_S1 (s := wgtS) Tryz.results50 rfl H1.out.2.1) rfl ⟨rfl, H1.out.2.2⟩
set_option maxRecDepth 100000 in
set_option maxHeartbeats 2000000 in
theorem voting_Prior (h : VoAt vb gv gd gw gp N P V D G Q FV FD FW FQ w) {a b : Int} (ha : (Lit.int .i64 a).wf = true) (hb : (Lit.int .i64 b).wf = true) : Calls Tryz.prog 101 #[.pointer (some ⟨vb, 0, none⟩), .int .i64 a, .int .i64 b] w fun e w' => e = .returned (.tuple #[.int .i64 ((cget Q a b).getD priS.zero).v, .int .i64 ((cget Q a b).getD priS.zero).c]) ∧ Below w.heap.size w w' := by
  obtain ⟨-, -, -, t3⟩ := h.blk.tables
  have hget := grid_Get_Q h.q ha hb
  obtain ⟨t, ht⟩ : ∃ t, t = (cget Q a b).getD priS.zero := ⟨_, rfl⟩
  rw [← ht] at hget ⊢
  have hcell : ∀ w1 : World, (w1.alloc (priS.obj t)).cell? ⟨w1.heap.size, 0, none⟩ = some (.int .i64 t.v) ∧ (w1.alloc (priS.obj t)).cell? ⟨w1.heap.size, 1, none⟩ = some (.int .i64 t.c) := fun w1 => by
    constructor <;> (rw [World.cell?, World.alloc_heap_new]; rfl)
  have HG := Lib.hid hget
  have HC := Lib.hid hcell
  clear h hget ht hcell ha hb
  go_enter Tryz.func101, Tryz.ntmps101
  go_wp2_with (first
    | (go_at_call 125; refine HG.out.mono ?_; rintro e w1 ⟨rfl, hb⟩; obtain ⟨q0, q1⟩ := HC.out w1; have H1 := Lib.hid hb; clear hb)
    | (refine wpl_allocS (s := priS) rfl rfl rfl ?_)
    | (refine wpl_storeS (s := priS) (t := t) (b := w1.heap.size) _ _ rfl rfl rfl rfl rfl (World.alloc_heap_new w1 _) (zeroS priS) ?_; rw [newS])
    | fail)
  go_quiet (fail)
  go_wp2_with fail
  exact bodyPost_ret (v := .tuple #[.int .i64 t.v, .int .i64 t.c]) (by simp [results, Tryz.results101, go_sem]) rfl ⟨rfl, (H1.out.alloc H1.out.size _).trans ⟨rfl, rfl, rfl, Nat.le_refl _, fun _ _ => rfl⟩⟩
end
end Go.Proofs.YtpkamfbjgdmmoaaGreat
end

section
namespace Go.Proofs.YtpkamfbjgdmmoaaGreat
open Go.RowKit Go.Maps
set_option linter.unusedVariables false
set_option linter.unusedSimpArgs false

section
variable {vb gv gd gw gp N : Nat} {P : Nat → Pl} {V : Cls Bal} {D : Cls Dlg} {G Q : Cls Wgt} {FV FD FW FQ : FP} {w w' : World}
/-- The votes are changed. -/
theorem VoAt.setV (h : VoAt vb gv gd gw gp N P V D G Q FV FD FW FQ w) {V' : Cls Bal} (ht : GrTo balS.cod 178 gv V' FV w w') (hN : N ≤ w.heap.size) : ∃ FV', VoAt vb gv gd gw gp N P V' D G Q FV' FD FW FQ w' ∧ (∀ k, FV' k → FV k ∨ w.heap.size ≤ k) ∧ Only FV (fun _ => False) w w' := by
  obtain ⟨F', h1, h2, h3⟩ := ht
  have k1 : ∀ k, k < w.heap.size → ¬ FV k → w'.heap[k]? = w.heap[k]? := fun k hk hn => h3.block k hk hn (fun h => h)
  have old : ∀ {F : FP}, (∀ k, F k → k < w.heap.size) → (∀ k, FV k → ¬ F k) → ∀ k, F' k → ¬ F k := fun hl ho k hk hf => (h2 k hk).elim (fun e => ho k e hf) (fun e => by have := hl k hf; omega)
  refine ⟨F', ⟨h.blk.keep (k1 vb h.blk.lt h.off.b.1), h1, h.d.keep h3.grow (fun k hf => k1 k (h.d.2.2.1 k hf) (fun e => h.off.vd k e hf)), h.g.keep h3.grow (fun k hf => k1 k (h.g.2.2.1 k hf) (fun e => h.off.vw k e hf)), h.q.keep h3.grow (fun k hf => k1 k (h.q.2.2.1 k hf) (fun e => h.off.vq k e hf)), ?_⟩, h2, h3⟩
  exact ⟨old h.d.2.2.1 h.off.vd, old h.g.2.2.1 h.off.vw, old h.q.2.2.1 h.off.vq, h.off.dw, h.off.dq, h.off.wq, ⟨fun e => (h2 vb e).elim h.off.b.1 (fun e => by have := h.blk.lt; omega), h.off.b.2⟩, fun k hk => hk.elim (fun e => (h2 k e).elim (fun e => h.off.n k (.inl e)) (fun e => by omega)) (fun e => h.off.n k (.inr e)), h.off.nb⟩
/-- The delegations are changed. -/
theorem VoAt.setD (h : VoAt vb gv gd gw gp N P V D G Q FV FD FW FQ w) {D' : Cls Dlg} (ht : GrTo dlgS.cod 182 gd D' FD w w') (hN : N ≤ w.heap.size) : ∃ FD', VoAt vb gv gd gw gp N P V D' G Q FV FD' FW FQ w' ∧ (∀ k, FD' k → FD k ∨ w.heap.size ≤ k) ∧ Only FD (fun _ => False) w w' := by
  obtain ⟨F', h1, h2, h3⟩ := ht
  have k1 : ∀ k, k < w.heap.size → ¬ FD k → w'.heap[k]? = w.heap[k]? := fun k hk hn => h3.block k hk hn (fun h => h)
  have old : ∀ {F : FP}, (∀ k, F k → k < w.heap.size) → (∀ k, FD k → ¬ F k) → ∀ k, F' k → ¬ F k := fun hl ho k hk hf => (h2 k hk).elim (fun e => ho k e hf) (fun e => by have := hl k hf; omega)
  have vd : ∀ k, FD k → ¬ FV k := fun k e hf => h.off.vd k hf e
  refine ⟨F', ⟨h.blk.keep (k1 vb h.blk.lt h.off.b.2.1), h.v.keep h3.grow (fun k hf => k1 k (h.v.2.2.1 k hf) (fun e => vd k e hf)), h1, h.g.keep h3.grow (fun k hf => k1 k (h.g.2.2.1 k hf) (fun e => h.off.dw k e hf)), h.q.keep h3.grow (fun k hf => k1 k (h.q.2.2.1 k hf) (fun e => h.off.dq k e hf)), ?_⟩, h2, h3⟩
  exact ⟨fun k hv e => old h.v.2.2.1 vd k e hv, h.off.vw, h.off.vq, old h.g.2.2.1 h.off.dw, old h.q.2.2.1 h.off.dq, h.off.wq, ⟨h.off.b.1, fun e => (h2 vb e).elim h.off.b.2.1 (fun e => by have := h.blk.lt; omega), h.off.b.2.2⟩, fun k hk => by
    rcases hk with e | e | e
    · exact h.off.n k (.inl e)
    · exact (h2 k e).elim (fun e => h.off.n k (.inr (.inl e))) (fun e => by omega)
    · exact h.off.n k (.inr (.inr e)), h.off.nb⟩
/-- What is lent is changed. -/
theorem VoAt.setG (h : VoAt vb gv gd gw gp N P V D G Q FV FD FW FQ w) {G' : Cls Wgt} (ht : GrTo wgtS.cod 212 gw G' FW w w') (hN : N ≤ w.heap.size) : ∃ FW', VoAt vb gv gd gw gp N P V D G' Q FV FD FW' FQ w' ∧ (∀ k, FW' k → FW k ∨ w.heap.size ≤ k) ∧ Only FW (fun _ => False) w w' := by
  obtain ⟨F', h1, h2, h3⟩ := ht
  have k1 : ∀ k, k < w.heap.size → ¬ FW k → w'.heap[k]? = w.heap[k]? := fun k hk hn => h3.block k hk hn (fun h => h)
  have old : ∀ {F : FP}, (∀ k, F k → k < w.heap.size) → (∀ k, FW k → ¬ F k) → ∀ k, F' k → ¬ F k := fun hl ho k hk hf => (h2 k hk).elim (fun e => ho k e hf) (fun e => by have := hl k hf; omega)
  have wv : ∀ k, FW k → ¬ FV k := fun k e hf => h.off.vw k hf e
  have wd : ∀ k, FW k → ¬ FD k := fun k e hf => h.off.dw k hf e
  refine ⟨F', ⟨h.blk.keep (k1 vb h.blk.lt h.off.b.2.2.1), h.v.keep h3.grow (fun k hf => k1 k (h.v.2.2.1 k hf) (fun e => wv k e hf)), h.d.keep h3.grow (fun k hf => k1 k (h.d.2.2.1 k hf) (fun e => wd k e hf)), h1, h.q.keep h3.grow (fun k hf => k1 k (h.q.2.2.1 k hf) (fun e => h.off.wq k e hf)), ?_⟩, h2, h3⟩
  exact ⟨h.off.vd, fun k hv e => old h.v.2.2.1 wv k e hv, h.off.vq, fun k hv e => old h.d.2.2.1 wd k e hv, h.off.dq, old h.q.2.2.1 h.off.wq, ⟨h.off.b.1, h.off.b.2.1, fun e => (h2 vb e).elim h.off.b.2.2.1 (fun e => by have := h.blk.lt; omega), h.off.b.2.2.2⟩, fun k hk => by
    rcases hk with e | e | e | e
    · exact h.off.n k (.inl e)
    · exact h.off.n k (.inr (.inl e))
    · exact (h2 k e).elim (fun e => h.off.n k (.inr (.inr (.inl e)))) (fun e => by omega)
    · exact h.off.n k (.inr (.inr (.inr e))), h.off.nb⟩
/-- The prior locks are changed. -/
theorem VoAt.setQ (h : VoAt vb gv gd gw gp N P V D G Q FV FD FW FQ w) {Q' : Cls Wgt} (ht : GrTo priS.cod 215 gp Q' FQ w w') (hN : N ≤ w.heap.size) : ∃ FQ', VoAt vb gv gd gw gp N P V D G Q' FV FD FW FQ' w' ∧ (∀ k, FQ' k → FQ k ∨ w.heap.size ≤ k) ∧ Only FQ (fun _ => False) w w' := by
  obtain ⟨F', h1, h2, h3⟩ := ht
  have k1 : ∀ k, k < w.heap.size → ¬ FQ k → w'.heap[k]? = w.heap[k]? := fun k hk hn => h3.block k hk hn (fun h => h)
  have old : ∀ {F : FP}, (∀ k, F k → k < w.heap.size) → (∀ k, FQ k → ¬ F k) → ∀ k, F' k → ¬ F k := fun hl ho k hk hf => (h2 k hk).elim (fun e => ho k e hf) (fun e => by have := hl k hf; omega)
  have qv : ∀ k, FQ k → ¬ FV k := fun k e hf => h.off.vq k hf e
  have qd : ∀ k, FQ k → ¬ FD k := fun k e hf => h.off.dq k hf e
  have qw : ∀ k, FQ k → ¬ FW k := fun k e hf => h.off.wq k hf e
  refine ⟨F', ⟨h.blk.keep (k1 vb h.blk.lt h.off.b.2.2.2), h.v.keep h3.grow (fun k hf => k1 k (h.v.2.2.1 k hf) (fun e => qv k e hf)), h.d.keep h3.grow (fun k hf => k1 k (h.d.2.2.1 k hf) (fun e => qd k e hf)), h.g.keep h3.grow (fun k hf => k1 k (h.g.2.2.1 k hf) (fun e => qw k e hf)), h1, ?_⟩, h2, h3⟩
  exact ⟨h.off.vd, h.off.vw, fun k hv e => old h.v.2.2.1 qv k e hv, h.off.dw, fun k hv e => old h.d.2.2.1 qd k e hv, fun k hv e => old h.g.2.2.1 qw k e hv, ⟨h.off.b.1, h.off.b.2.1, h.off.b.2.2.1, fun e => (h2 vb e).elim h.off.b.2.2.2 (fun e => by have := h.blk.lt; omega)⟩, fun k hk => by
    rcases hk with e | e | e | e
    · exact h.off.n k (.inl e)
    · exact h.off.n k (.inr (.inl e))
    · exact h.off.n k (.inr (.inr (.inl e)))
    · exact (h2 k e).elim (fun e => h.off.n k (.inr (.inr (.inr e)))) (fun e => by omega), h.off.nb⟩
end
end Go.Proofs.YtpkamfbjgdmmoaaGreat
end

section
namespace Go.Proofs.YtpkamfbjgdmmoaaGreat
open Go.RowKit Go.Maps
set_option linter.unusedVariables false
set_option linter.unusedSimpArgs false

section
variable {vb gv gd gw gp N : Nat} {P : Nat → Pl} {V : Cls Bal} {D : Cls Dlg} {G Q : Cls Wgt} {FV FD FW FQ : FP} {w w' : World}
/-- A prior lock joined. -/
def joinQ (Q : Cls Wgt) (a b u n now : Int) : Cls Wgt := if u ≤ now then Q else cput Q a b ⟨max ((cget Q a b).getD ⟨0, 0⟩).v u, max ((cget Q a b).getD ⟨0, 0⟩).c n⟩
set_option maxRecDepth 100000 in
set_option maxHeartbeats 2000000 in
theorem voting_join (h : VoAt vb gv gd gw gp N P V D G Q FV FD FW FQ w) (hN : N ≤ w.heap.size) (hl : Q.length ≤ 1000000) {a b : Int} (ha : (Lit.int .i64 a).wf = true) (hb : (Lit.int .i64 b).wf = true) (u n now : Int) :
    Calls Tryz.prog 64 #[.pointer (some ⟨vb, 0, none⟩), .int .i64 a, .int .i64 b, .int .i64 u, .int .i64 n, .int .i64 now] w fun e w' => e = .returned (.tuple #[]) ∧ ∃ FQ', VoAt vb gv gd gw gp N P V D G (joinQ Q a b u n now) FV FD FW FQ' w' ∧ (∀ k, FQ' k → FQ k ∨ w.heap.size ≤ k) ∧ Only FQ (fun _ => False) w w' := by
  by_cases hu : u ≤ now
  · have hj : joinQ Q a b u n now = Q := by unfold joinQ; rw [if_pos hu]
    rw [hj]
    have H := Lib.hid h
    clear h hj
    go_enter Tryz.func64, Tryz.ntmps64
    go_wp2_with fail
    exact bodyPost_ret (v := .tuple #[]) (results_none rfl _ _ _) rfl ⟨rfl, FQ, H.out, fun k hk => .inl hk, Only.refl _ _ _⟩
  · have hp := voting_Prior h ha hb
    obtain ⟨t, ht⟩ : ∃ t, t = (cget Q a b).getD priS.zero := ⟨_, rfl⟩
    have hj : joinQ Q a b u n now = cput Q a b ⟨max t.v u, max t.c n⟩ := by unfold joinQ; rw [if_neg hu, ht]; rfl
    rw [hj]
    rw [← ht] at hp
    have hset : ∀ w1 (hb1 : Below w.heap.size w w1) (m1 m2 : Int), Calls Tryz.prog 102 #[.pointer (some ⟨gp, 0, none⟩), .int .i64 a, .int .i64 b, .agg #[.int .i64 m1, .int .i64 m2]] w1 fun e w' => e = .returned (.tuple #[]) ∧ GrTo priS.cod 215 gp (cput Q a b ⟨m1, m2⟩) FQ w1 w' := fun w1 hb1 m1 m2 => grid_Set_Q (h.below hb1).q hl ha hb ⟨m1, m2⟩
    have htab := fun w1 (hb1 : Below w.heap.size w w1) => (h.below hb1).blk.tables.2.2.2
    have HP := Lib.hid hp
    have HS := Lib.hid hset
    have HT := Lib.hid htab
    have H := Lib.hid (And.intro h hN)
    clear h hp hset htab hj ht ha hb hl hN
    obtain ⟨x, hx⟩ : ∃ x, x = t.v := ⟨_, rfl⟩
    obtain ⟨y, hy⟩ : ∃ y, y = t.c := ⟨_, rfl⟩
    rw [← hx, ← hy] at HP ⊢
    clear hx hy
    go_enter Tryz.func64, Tryz.ntmps64
    go_wp2_with (first
      | (go_at_call 101; refine HP.out.mono ?_; rintro e w1 ⟨rfl, hb⟩; have t3 := HT.out w1 hb; have H1 := Lib.hid hb; clear hb)
      | (go_at_call 102; with_reducible refine (HS.out w1 H1.out _ _).mono ?_; rintro e w2 ⟨rfl, hg⟩; have H2 := Lib.hid hg; clear hg)
      | fail)
    all_goals
      refine bodyPost_end (results_none rfl _ _ _) rfl ⟨rfl, ?_⟩
      have hb1 := H1.out
      obtain ⟨FQ', h1, h2, h3⟩ := (H.out.1.below hb1).setQ H2.out (Nat.le_trans H.out.2 hb1.size)
      refine ⟨FQ', ?_, fun k hk => (h2 k hk).imp id (fun e => Nat.le_trans hb1.size e), only_trans (Only.of_later hb1) h3⟩
      have e1 : max x u = (if x < u then u else x) := by split <;> omega
      have e2 : max y n = (if y < n then n else y) := by split <;> omega
      first
        | exact h1
        | (rw [e1, e2]; exact h1)
end
end Go.Proofs.YtpkamfbjgdmmoaaGreat
end

section
namespace Go.Proofs.YtpkamfbjgdmmoaaGreat
open Go.RowKit Go.Maps
set_option linter.unusedVariables false
set_option linter.unusedSimpArgs false

def Pl.zero : Pl := ⟨0, 0, 0, 0, 0, 0⟩
/-- The struct's cells as it is made. -/
noncomputable def newC (gv gd gw gp : Nat) : Array Value := (((Tryz.zeroCells112.setIfInBounds 72 (.pointer (some ⟨gv, 0, none⟩))).setIfInBounds 73 (.pointer (some ⟨gd, 0, none⟩))).setIfInBounds 74 (.pointer (some ⟨gw, 0, none⟩))).setIfInBounds 75 (.pointer (some ⟨gp, 0, none⟩))
theorem zeroC : Tryz.zeroCells112.size = 76 ∧ Tryz.zeroCells112.toList.take 72 = List.replicate 72 (Value.int .i64 0) := ⟨rfl, rfl⟩
theorem VoB.made {w : World} (gv gd gw gp : Nat) : VoB w.heap.size (fun _ => Pl.zero) gv gd gw gp (w.alloc (.cells (newC gv gd gw gp) 112)) := by
  obtain ⟨z1, z2⟩ := zeroC
  refine ⟨_, World.alloc_heap_new _ _, by simp [newC, z1], fun k hk j u hu => ?_, ?_, ?_, ?_, ?_⟩
  · have hj : j < 6 := (List.getElem?_eq_some_iff.1 hu).1
    have hu0 : u = .int .i64 0 := by
      match j, hj, hu with
      | 0, _, hu => cases hu; rfl
      | 1, _, hu => cases hu; rfl
      | 2, _, hu => cases hu; rfl
      | 3, _, hu => cases hu; rfl
      | 4, _, hu => cases hu; rfl
      | 5, _, hu => cases hu; rfl
    subst hu0
    have e : Tryz.zeroCells112[k * 6 + j]? = some (Value.int .i64 0) := by
      rw [← Array.getElem?_toList, ← List.getElem?_take_of_lt (show k * 6 + j < 72 by omega), z2, List.getElem?_replicate, if_pos (by omega)]
    unfold newC
    rw [Array.getElem?_setIfInBounds_ne (by omega), Array.getElem?_setIfInBounds_ne (by omega), Array.getElem?_setIfInBounds_ne (by omega), Array.getElem?_setIfInBounds_ne (by omega)]
    exact e
  all_goals simp [newC, Array.getElem?_setIfInBounds, z1]
set_option maxRecDepth 100000 in
set_option maxHeartbeats 4000000 in
theorem voting_NewV (w : World) : Calls Tryz.prog 29 #[] w fun e w' => ∃ vb gv gd gw gp FV FD FW FQ, e = .returned (.pointer (some ⟨vb, 0, none⟩)) ∧ VoAt vb gv gd gw gp w.heap.size (fun _ => Pl.zero) [] [] [] [] FV FD FW FQ w' ∧ Below w.heap.size w w' := by
  go_enter Tryz.func29, Tryz.ntmps29
  go_wp2_with (first
    | (go_at_call 73; refine (grid_New_V _).mono ?_; rintro e w1 ⟨rfl, hw⟩; have H1 := Lib.hid hw; clear hw)
    | (go_at_call 74; refine (grid_New_D _).mono ?_; rintro e w2 ⟨rfl, hw⟩; have H2 := Lib.hid hw; clear hw)
    | (go_at_call 75; refine (grid_New_W _).mono ?_; rintro e w3 ⟨rfl, hw⟩; have H3 := Lib.hid hw; clear hw)
    | (go_at_call 76; refine (grid_New_Q _).mono ?_; rintro e w4 ⟨rfl, hw⟩; have H4 := Lib.hid hw; clear hw)
    | fail)
  have z1 : w1.heap.size = w.heap.size + 1 := by rw [H1.out]; simp
  have z2 : w2.heap.size = w1.heap.size + 1 := by rw [H2.out]; simp
  have z3 : w3.heap.size = w2.heap.size + 1 := by rw [H3.out]; simp
  have z4 : w4.heap.size = w3.heap.size + 1 := by rw [H4.out]; simp
  obtain ⟨W, hW⟩ : ∃ W, W = w4.alloc (.cells (newC w.heap.size w1.heap.size w2.heap.size w3.heap.size) 112) := ⟨_, rfl⟩
  have zW : W.heap.size = w4.heap.size + 1 := by rw [hW]; simp
  have b1 : Below w.heap.size w w1 := by rw [H1.out]; exact (Below.refl _ w).alloc (Nat.le_refl _) _
  have b2 : Below w1.heap.size w1 w2 := by rw [H2.out]; exact (Below.refl _ w1).alloc (Nat.le_refl _) _
  have b3 : Below w2.heap.size w2 w3 := by rw [H3.out]; exact (Below.refl _ w2).alloc (Nat.le_refl _) _
  have b4 : Below w3.heap.size w3 w4 := by rw [H4.out]; exact (Below.refl _ w3).alloc (Nat.le_refl _) _
  have bW : Below w4.heap.size w4 W := by rw [hW]; exact (Below.refl _ w4).alloc (Nat.le_refl _) _
  have c4 := b4.trans (bW.mono (by omega))
  have c3 := b3.trans (c4.mono (by omega))
  have c2 := b2.trans (c3.mono (by omega))
  have g1 := GrAt.new_V w
  have g2 := GrAt.new_D w1
  have g3 := GrAt.new_W w2
  have g4 := GrAt.new_Q w3
  rw [← H1.out] at g1
  rw [← H2.out] at g2
  rw [← H3.out] at g3
  rw [← H4.out] at g4
  have hvo : VoAt w4.heap.size w.heap.size w1.heap.size w2.heap.size w3.heap.size w.heap.size (fun _ => Pl.zero) [] [] [] [] (fun k => k = w.heap.size) (fun k => k = w1.heap.size) (fun k => k = w2.heap.size) (fun k => k = w3.heap.size) W := by
    refine ⟨by rw [hW]; exact VoB.made _ _ _ _, g1.keep (Grow.of_below c2) (fun k hk => c2.block k (by omega)), g2.keep (Grow.of_below c3) (fun k hk => c3.block k (by omega)), g3.keep (Grow.of_below c4) (fun k hk => c4.block k (by omega)), g4.keep (Grow.of_below bW) (fun k hk => bW.block k (by omega)), ?_⟩
    exact ⟨fun k h1 h2 => by omega, fun k h1 h2 => by omega, fun k h1 h2 => by omega, fun k h1 h2 => by omega, fun k h1 h2 => by omega, fun k h1 h2 => by omega, ⟨by omega, by omega, by omega, by omega⟩, fun k hk => by omega, by omega⟩
  have bw := b1.trans (c2.mono (by omega))
  rw [hW] at hvo bw
  exact bodyPost_ret (v := .pointer (some ⟨w4.heap.size, 0, none⟩)) (by simp [results, Tryz.results29, go_sem]) rfl ⟨w4.heap.size, w.heap.size, w1.heap.size, w2.heap.size, w3.heap.size, _, _, _, _, rfl, hvo, bw⟩
end Go.Proofs.YtpkamfbjgdmmoaaGreat
end

section
namespace Go.Proofs.YtpkamfbjgdmmoaaGreat
open Go.RowKit Go.Maps
set_option linter.unusedVariables false
set_option linter.unusedSimpArgs false

theorem voting_isTrack (n : Int) (w : World) : Calls Tryz.prog 83 #[.int .i64 n] w fun e w' => e = .returned (.bool (decide (0 ≤ n ∧ n < 4))) ∧ w' = w := by
  go_enter Tryz.func83, Tryz.ntmps83
  go_wp2_with (first
    | (go_at_call 77; refine (bound_Below _ _ _).mono ?_; rintro e w' ⟨rfl, hw⟩; rw [hw]; clear hw w')
    | fail)
  exact bodyPost_ret (v := .bool (decide (0 ≤ n ∧ n < 4))) (by simp [results, Tryz.results83, go_sem]) rfl ⟨rfl, rfl⟩
end Go.Proofs.YtpkamfbjgdmmoaaGreat
end

section
namespace Go.Proofs.YtpkamfbjgdmmoaaGreat
open Go.RowKit Go.Maps
set_option linter.unusedVariables false
set_option linter.unusedSimpArgs false

/-- A poll laid anew. -/
def putP (P : Nat → Pl) (k : Nat) (p : Pl) : Nat → Pl := fun i => if i = k then p else P i
theorem putP_same (P : Nat → Pl) (k : Nat) (p : Pl) : putP P k p k = p := by simp [putP]
theorem putP_other (P : Nat → Pl) {k i : Nat} (p : Pl) (h : i ≠ k) : putP P k p i = P i := by simp [putP, h]
theorem putP_putP (P : Nat → Pl) (k : Nat) (p q : Pl) : putP (putP P k p) k q = putP P k q := by funext i; by_cases h : i = k <;> simp [putP, h]
section
variable {vb gv gd gw gp : Nat} {P : Nat → Pl} {w w' : World}
theorem VoB.set' (h : VoB vb P gv gd gw gp w) {k j : Nat} (hk : k < 12) (hj : j < 6) {u : Value} {p' : Pl} (hp : plc p' = (plc (P k)).set j u) : VoB vb (putP P k p') gv gd gw gp (w.setCell ⟨vb, k * 6 + j, none⟩ u) := h.set hk hj hp
theorem VoB.setT (h : VoB vb P gv gd gw gp w) {k : Nat} (hk : k < 12) (t : Tl) : VoB vb (putP P k ⟨(P k).st, (P k).tr, t.a, t.n, t.s, (P k).en⟩) gv gd gw gp (w.setCells vb (k * 6 + 2) (tlyS.f t)) := by
  have h1 := h.set' hk (j := 2) (by omega) (u := .int .i64 t.a) (p' := ⟨(P k).st, (P k).tr, t.a, (P k).na, (P k).su, (P k).en⟩) rfl
  have h2 := h1.set' hk (j := 3) (by omega) (u := .int .i64 t.n) (p' := ⟨(P k).st, (P k).tr, t.a, t.n, (P k).su, (P k).en⟩) (by rw [putP_same]; rfl)
  rw [putP_putP] at h2
  have h3 := h2.set' hk (j := 4) (by omega) (u := .int .i64 t.s) (p' := ⟨(P k).st, (P k).tr, t.a, t.n, t.s, (P k).en⟩) (by rw [putP_same]; rfl)
  rw [putP_putP] at h3
  exact h3
theorem VoB.setP (h : VoB vb P gv gd gw gp w) {k : Nat} (hk : k < 12) (p : Pl) : VoB vb (putP P k p) gv gd gw gp (w.setCells vb (k * 6) (plc p)) := by
  have h0 := h.set' hk (j := 0) (by omega) (u := .int .i64 p.st) (p' := ⟨p.st, (P k).tr, (P k).ay, (P k).na, (P k).su, (P k).en⟩) rfl
  have h1 := h0.set' hk (j := 1) (by omega) (u := .int .i64 p.tr) (p' := ⟨p.st, p.tr, (P k).ay, (P k).na, (P k).su, (P k).en⟩) (by rw [putP_same]; rfl)
  rw [putP_putP] at h1
  have h2 := h1.set' hk (j := 2) (by omega) (u := .int .i64 p.ay) (p' := ⟨p.st, p.tr, p.ay, (P k).na, (P k).su, (P k).en⟩) (by rw [putP_same]; rfl)
  rw [putP_putP] at h2
  have h3 := h2.set' hk (j := 3) (by omega) (u := .int .i64 p.na) (p' := ⟨p.st, p.tr, p.ay, p.na, (P k).su, (P k).en⟩) (by rw [putP_same]; rfl)
  rw [putP_putP] at h3
  have h4 := h3.set' hk (j := 4) (by omega) (u := .int .i64 p.su) (p' := ⟨p.st, p.tr, p.ay, p.na, p.su, (P k).en⟩) (by rw [putP_same]; rfl)
  rw [putP_putP] at h4
  have h5 := h4.set' hk (j := 5) (by omega) (u := .int .i64 p.en) (p' := p) (by rw [putP_same]; rfl)
  rw [putP_putP] at h5
  exact h5
theorem VoB.there (h : VoB vb P gv gd gw gp w) {k j n : Nat} (hk : k < 12) (hj : j + n ≤ 6) : w.there vb (k * 6 + j) n := fun i hi => by
  refine ⟨?_, h.frozen _⟩
  obtain ⟨C, h1, h2, _⟩ := h
  have : k * 6 + j + i < C.size := by omega
  simp [World.cell?, h1, this]
end
theorem setCells_off {b k : Nat} (hk : k ≠ b) : ∀ (vs : List Value) (o : Nat) (w : World), (w.setCells b o vs).heap[k]? = w.heap[k]?
  | [], o, w => rfl
  | v :: vs, o, w => (setCells_off hk vs (o + 1) _).trans (Below.heap_setCell _ _ _ k hk)
theorem setCells_grow {b : Nat} : ∀ (vs : List Value) (o : Nat) (w : World), Grow w (w.setCells b o vs)
  | [], o, w => Grow.refl _
  | v :: vs, o, w => Grow.trans (B := w.setCell ⟨b, o, none⟩ v) ⟨rfl, rfl, rfl, by simp [World.setCell]⟩ (setCells_grow vs (o + 1) _)

/-- Polls, votes, delegations, what was lent, prior locks. -/
structure Vs where
  P : Nat → Pl
  V : Cls Bal
  D : Cls Dlg
  G : Cls Wgt
  Q : Cls Wgt
def Vs.zero : Vs := ⟨fun _ => Pl.zero, [], [], [], []⟩
/-- A voting in memory, with all that it lies in. -/
def VoX (vb N : Nat) (S : Vs) (F : FP) (w : World) : Prop :=
  ∃ gv gd gw gp FV FD FW FQ, VoAt vb gv gd gw gp N S.P S.V S.D S.G S.Q FV FD FW FQ w ∧ ∀ k, F k ↔ k = vb ∨ FV k ∨ FD k ∨ FW k ∨ FQ k
/-- A voting changed. -/
def VoTo (vb N : Nat) (S : Vs) (F : FP) (w w' : World) : Prop := ∃ F', VoX vb N S F' w' ∧ (∀ k, F' k → F k ∨ w.heap.size ≤ k) ∧ Only F (fun _ => False) w w'
section
variable {vb N : Nat} {S S' : Vs} {F : FP} {w w' w1 : World}
theorem VoX.keep (h : VoX vb N S F w) (hg : Grow w w') (hk : ∀ k, F k → w'.heap[k]? = w.heap[k]?) : VoX vb N S F w' := by
  obtain ⟨gv, gd, gw, gp, FV, FD, FW, FQ, h1, h2⟩ := h
  exact ⟨gv, gd, gw, gp, FV, FD, FW, FQ, h1.keep hg (fun k hk' => hk k ((h2 k).2 hk')), h2⟩
theorem VoX.lt (h : VoX vb N S F w) {k : Nat} (hk : F k) : k < w.heap.size := by
  obtain ⟨gv, gd, gw, gp, FV, FD, FW, FQ, h1, h2⟩ := h
  exact h1.lt ((h2 k).1 hk)
theorem VoX.lo (h : VoX vb N S F w) {k : Nat} (hk : F k) : N ≤ k := by
  obtain ⟨gv, gd, gw, gp, FV, FD, FW, FQ, h1, h2⟩ := h
  rcases (h2 k).1 hk with e | e
  · rw [e]; exact h1.off.nb
  · exact h1.off.n k e
theorem VoX.own (h : VoX vb N S F w) : F vb := by
  obtain ⟨gv, gd, gw, gp, FV, FD, FW, FQ, h1, h2⟩ := h
  exact (h2 vb).2 (.inl rfl)
theorem VoX.size (h : VoX vb N S F w) : N ≤ w.heap.size := Nat.le_of_lt (Nat.lt_of_le_of_lt (h.lo h.own) (h.lt h.own))
theorem VoX.below (h : VoX vb N S F w) (hb : Below w.heap.size w w') : VoX vb N S F w' := h.keep (Grow.of_below hb) (fun k hk => hb.block k (h.lt hk))
theorem VoX.srt (h : VoX vb N S F w) : SrtC S.V ∧ SrtC S.D ∧ SrtC S.G ∧ SrtC S.Q := by
  obtain ⟨gv, gd, gw, gp, FV, FD, FW, FQ, h1, h2⟩ := h
  exact ⟨h1.v.1, h1.d.1, h1.g.1, h1.q.1⟩
theorem VoTo.refl (h : VoX vb N S F w) : VoTo vb N S F w w := ⟨F, h, fun k hk => .inl hk, Only.refl _ _ _⟩
theorem VoTo.of_below (h : VoX vb N S F w) (hb : Below w.heap.size w w') : VoTo vb N S F w w' := ⟨F, h.below hb, fun k hk => .inl hk, Only.of_later hb⟩
theorem VoTo.later (hb : Below w.heap.size w w1) (h : VoTo vb N S F w1 w') : VoTo vb N S F w w' := by
  obtain ⟨F', h1, h2, h3⟩ := h
  exact ⟨F', h1, fun k hk => (h2 k hk).imp id (fun h => Nat.le_trans hb.size h), only_trans (Only.of_later hb) h3⟩
theorem VoTo.trans (h : VoTo vb N S F w w1) (hk : ∀ F', VoX vb N S F' w1 → VoTo vb N S' F' w1 w') : VoTo vb N S' F w w' := by
  obtain ⟨F1, h1, h2, h3⟩ := h
  obtain ⟨F2, k1, k2, k3⟩ := hk F1 h1
  have hs := h3.grow.size
  refine ⟨F2, k1, fun k hk => (k2 k hk).elim (fun e => h2 k e) (fun e => .inr (by omega)), h3.grow.trans k3.grow, fun k hk h4 h5 => ?_⟩
  exact (k3.block k (by omega) (fun e => (h2 k e).elim h4 (fun e => by omega)) (fun h => h)).trans (h3.block k hk h4 (fun h => h))
theorem VoTo.below (h : VoTo vb N S F w w') (hx : VoX vb N S' F w) : Below N w w' := by
  obtain ⟨F', h1, h2, h3⟩ := h
  exact h3.below hx.size (fun k hk => hx.lo hk) (fun k h => h.elim)
theorem VoX.setP (h : VoX vb N S F w) {k : Nat} (hk : k < 12) (p : Pl) : VoTo vb N { S with P := putP S.P k p } F w (w.setCells vb (k * 6) (plc p)) := by
  obtain ⟨gv, gd, gw, gp, FV, FD, FW, FQ, h1, h2⟩ := h
  have hg := setCells_grow (b := vb) (plc p) (k * 6) w
  have ho : ∀ i, i ≠ vb → (w.setCells vb (k * 6) (plc p)).heap[i]? = w.heap[i]? := fun i hi => setCells_off hi _ _ _
  refine ⟨F, ⟨gv, gd, gw, gp, FV, FD, FW, FQ, ⟨h1.blk.setP hk p, h1.v.keep hg (fun i hi => ho i (fun e => h1.off.b.1 (e ▸ hi))), h1.d.keep hg (fun i hi => ho i (fun e => h1.off.b.2.1 (e ▸ hi))), h1.g.keep hg (fun i hi => ho i (fun e => h1.off.b.2.2.1 (e ▸ hi))), h1.q.keep hg (fun i hi => ho i (fun e => h1.off.b.2.2.2 (e ▸ hi))), h1.off⟩, h2⟩, fun k hk => .inl hk, hg, fun i hi h3 h4 => ho i (fun e => h3 ((h2 i).2 (.inl e)))⟩
theorem VoX.setT (h : VoX vb N S F w) {k : Nat} (hk : k < 12) (t : Tl) : VoTo vb N { S with P := putP S.P k ⟨(S.P k).st, (S.P k).tr, t.a, t.n, t.s, (S.P k).en⟩ } F w (w.setCells vb (k * 6 + 2) (tlyS.f t)) := by
  obtain ⟨gv, gd, gw, gp, FV, FD, FW, FQ, h1, h2⟩ := h
  have hg := setCells_grow (b := vb) (tlyS.f t) (k * 6 + 2) w
  have ho : ∀ i, i ≠ vb → (w.setCells vb (k * 6 + 2) (tlyS.f t)).heap[i]? = w.heap[i]? := fun i hi => setCells_off hi _ _ _
  refine ⟨F, ⟨gv, gd, gw, gp, FV, FD, FW, FQ, ⟨h1.blk.setT hk t, h1.v.keep hg (fun i hi => ho i (fun e => h1.off.b.1 (e ▸ hi))), h1.d.keep hg (fun i hi => ho i (fun e => h1.off.b.2.1 (e ▸ hi))), h1.g.keep hg (fun i hi => ho i (fun e => h1.off.b.2.2.1 (e ▸ hi))), h1.q.keep hg (fun i hi => ho i (fun e => h1.off.b.2.2.2 (e ▸ hi))), h1.off⟩, h2⟩, fun k hk => .inl hk, hg, fun i hi h3 h4 => ho i (fun e => h3 ((h2 i).2 (.inl e)))⟩
theorem VoX.poll (h : VoX vb N S F w) (r : Int) : Calls Tryz.prog 44 #[.pointer (some ⟨vb, 0, none⟩), .int .i64 r] w fun e w' => e = .returned (.pointer (plPtr vb S.P r)) ∧ w' = w := by
  obtain ⟨gv, gd, gw, gp, FV, FD, FW, FQ, h1, h2⟩ := h
  exact voting_pollR h1.blk r
theorem VoX.open (h : VoX vb N S F w) {k : Nat} (hk : k < 12) : Calls Tryz.prog 47 #[.pointer (some ⟨vb, k * 6, none⟩)] w fun e w' => e = .returned (.bool ((S.P k).st == 1)) ∧ w' = w := by
  obtain ⟨gv, gd, gw, gp, FV, FD, FW, FQ, h1, h2⟩ := h
  exact poll_open h1.blk hk
theorem VoX.cells (h : VoX vb N S F w) {k : Nat} (hk : k < 12) :
    w.cell? ⟨vb, k * 6, none⟩ = some (.int .i64 (S.P k).st) ∧ w.cell? ⟨vb, k * 6 + 1, none⟩ = some (.int .i64 (S.P k).tr) ∧ w.cell? ⟨vb, k * 6 + 5, none⟩ = some (.int .i64 (S.P k).en) ∧ (∀ i, w.frozen? ⟨vb, i, none⟩ = false) ∧ w.rangeAt vb (k * 6 + 2) (tlyS.f (S.P k).t) ∧ w.there vb (k * 6 + 2) 3 ∧ w.there vb (k * 6) 6 := by
  obtain ⟨gv, gd, gw, gp, FV, FD, FW, FQ, h1, h2⟩ := h
  obtain ⟨c0, c1, c2, c3, c4, c5⟩ := h1.blk.poll hk
  exact ⟨c0, c1, c5, h1.blk.frozen, h1.blk.tally hk, h1.blk.there hk (by omega), h1.blk.there (j := 0) hk (by omega)⟩
theorem VoX.got (h : VoX vb N S F w) {a b : Int} (ha : (Lit.int .i64 a).wf = true) (hb : (Lit.int .i64 b).wf = true) : Calls Tryz.prog 50 #[.pointer (some ⟨vb, 0, none⟩), .int .i64 a, .int .i64 b] w fun e w' => e = .returned (wgtS.v ((cget S.G a b).getD wgtS.zero)) ∧ Below w.heap.size w w' := by
  obtain ⟨gv, gd, gw, gp, FV, FD, FW, FQ, h1, h2⟩ := h
  exact voting_Got h1 ha hb
theorem VoX.prior (h : VoX vb N S F w) {a b : Int} (ha : (Lit.int .i64 a).wf = true) (hb : (Lit.int .i64 b).wf = true) : Calls Tryz.prog 101 #[.pointer (some ⟨vb, 0, none⟩), .int .i64 a, .int .i64 b] w fun e w' => e = .returned (.tuple #[.int .i64 ((cget S.Q a b).getD priS.zero).v, .int .i64 ((cget S.Q a b).getD priS.zero).c]) ∧ Below w.heap.size w w' := by
  obtain ⟨gv, gd, gw, gp, FV, FD, FW, FQ, h1, h2⟩ := h
  exact voting_Prior h1 ha hb
theorem VoX.join (h : VoX vb N S F w) (hl : S.Q.length ≤ 1000000) {a b : Int} (ha : (Lit.int .i64 a).wf = true) (hb : (Lit.int .i64 b).wf = true) (u n now : Int) :
    Calls Tryz.prog 64 #[.pointer (some ⟨vb, 0, none⟩), .int .i64 a, .int .i64 b, .int .i64 u, .int .i64 n, .int .i64 now] w fun e w' => e = .returned (.tuple #[]) ∧ VoTo vb N { S with Q := joinQ S.Q a b u n now } F w w' := by
  have hN := h.size
  obtain ⟨gv, gd, gw, gp, FV, FD, FW, FQ, h1, h2⟩ := h
  refine (voting_join h1 hN hl ha hb u n now).mono ?_
  rintro e w' ⟨he, FQ', h3, h4, h5⟩
  exact ⟨he, _, ⟨gv, gd, gw, gp, FV, FD, FW, FQ', h3, fun k => Iff.rfl⟩, fun k hk => by
    rcases hk with e | e | e | e | e
    · exact .inl ((h2 k).2 (.inl e))
    · exact .inl ((h2 k).2 (.inr (.inl e)))
    · exact .inl ((h2 k).2 (.inr (.inr (.inl e))))
    · exact .inl ((h2 k).2 (.inr (.inr (.inr (.inl e)))))
    · exact (h4 k e).imp (fun e => (h2 k).2 (.inr (.inr (.inr (.inr e))))) id, h5.grow, fun k hk h6 h7 => h5.block k hk (fun e => h6 ((h2 k).2 (.inr (.inr (.inr (.inr e)))))) h7⟩
/-- The four tables' places, their contracts. -/
theorem VoX.tables (h : VoX vb N S F w) : ∃ gv gd gw gp, (∀ W, Below w.heap.size w W → W.cell? ⟨vb, 72, none⟩ = some (.pointer (some ⟨gv, 0, none⟩)) ∧ W.cell? ⟨vb, 73, none⟩ = some (.pointer (some ⟨gd, 0, none⟩)) ∧ W.cell? ⟨vb, 74, none⟩ = some (.pointer (some ⟨gw, 0, none⟩)) ∧ W.cell? ⟨vb, 75, none⟩ = some (.pointer (some ⟨gp, 0, none⟩))) ∧
    (∀ W, Below w.heap.size w W → ∀ a b : Int, (Lit.int .i64 a).wf = true → (Lit.int .i64 b).wf = true → Calls Tryz.prog 45 #[.pointer (some ⟨gv, 0, none⟩), .int .i64 a, .int .i64 b] W fun e w' => e = .returned (.tuple #[balS.v ((cget S.V a b).getD balS.zero), .bool (cget S.V a b).isSome]) ∧ Below W.heap.size W w') ∧
    (∀ W, Below w.heap.size w W → ∀ a b : Int, (Lit.int .i64 a).wf = true → (Lit.int .i64 b).wf = true → Calls Tryz.prog 46 #[.pointer (some ⟨gd, 0, none⟩), .int .i64 a, .int .i64 b] W fun e w' => e = .returned (.tuple #[dlgS.v ((cget S.D a b).getD dlgS.zero), .bool (cget S.D a b).isSome]) ∧ Below W.heap.size W w') ∧
    (∀ W, Below w.heap.size w W → ∀ (a b : Int) (x : Bal), S.V.length ≤ 1000000 → (Lit.int .i64 a).wf = true → (Lit.int .i64 b).wf = true → Calls Tryz.prog 54 #[.pointer (some ⟨gv, 0, none⟩), .int .i64 a, .int .i64 b, .agg (balS.f x).toArray] W fun e w' => e = .returned (.tuple #[]) ∧ VoTo vb N { S with V := cput S.V a b x } F W w') ∧
    True ∧
    True ∧
    (∀ W, Below w.heap.size w W → ∀ (a b : Int), S.V.length ≤ 1000000 → (Lit.int .i64 a).wf = true → (Lit.int .i64 b).wf = true → Calls Tryz.prog 62 #[.pointer (some ⟨gv, 0, none⟩), .int .i64 a, .int .i64 b] W fun e w' => e = .returned (.bool (cget S.V a b).isSome) ∧ VoTo vb N { S with V := cdel S.V a b } F W w') ∧
    True ∧
    True := by
  have hN := h.size
  have hx := h
  obtain ⟨gv, gd, gw, gp, FV, FD, FW, FQ, h1, h2⟩ := h
  have fV : ∀ W W' V', Below w.heap.size w W → GrTo balS.cod 178 gv V' FV W W' → VoTo vb N { S with V := V' } F W W' := fun W W' V' hb ht => by
    obtain ⟨FV', k1, k2, k3⟩ := (h1.below hb).setV ht (Nat.le_trans hN hb.size)
    refine ⟨_, ⟨gv, gd, gw, gp, FV', FD, FW, FQ, k1, fun k => Iff.rfl⟩, fun k hk => ?_, k3.grow, fun k hk h6 h7 => k3.block k hk (fun e => h6 ((h2 k).2 (.inr (.inl e)))) h7⟩
    rcases hk with e | e | e
    · exact .inl ((h2 k).2 (.inl e))
    · exact (k2 k e).imp (fun e => (h2 k).2 (.inr (.inl e))) id
    · exact .inl ((h2 k).2 (.inr (.inr e)))
  have fD : ∀ W W' V', Below w.heap.size w W → GrTo dlgS.cod 182 gd V' FD W W' → VoTo vb N { S with D := V' } F W W' := fun W W' V' hb ht => by
    obtain ⟨FV', k1, k2, k3⟩ := (h1.below hb).setD ht (Nat.le_trans hN hb.size)
    refine ⟨_, ⟨gv, gd, gw, gp, FV, FV', FW, FQ, k1, fun k => Iff.rfl⟩, fun k hk => ?_, k3.grow, fun k hk h6 h7 => k3.block k hk (fun e => h6 ((h2 k).2 (.inr (.inr (.inl e))))) h7⟩
    rcases hk with e | e | e | e
    · exact .inl ((h2 k).2 (.inl e))
    · exact .inl ((h2 k).2 (.inr (.inl e)))
    · exact (k2 k e).imp (fun e => (h2 k).2 (.inr (.inr (.inl e)))) id
    · exact .inl ((h2 k).2 (.inr (.inr (.inr e))))
  have fG : ∀ W W' V', Below w.heap.size w W → GrTo wgtS.cod 212 gw V' FW W W' → VoTo vb N { S with G := V' } F W W' := fun W W' V' hb ht => by
    obtain ⟨FV', k1, k2, k3⟩ := (h1.below hb).setG ht (Nat.le_trans hN hb.size)
    refine ⟨_, ⟨gv, gd, gw, gp, FV, FD, FV', FQ, k1, fun k => Iff.rfl⟩, fun k hk => ?_, k3.grow, fun k hk h6 h7 => k3.block k hk (fun e => h6 ((h2 k).2 (.inr (.inr (.inr (.inl e)))))) h7⟩
    rcases hk with e | e | e | e | e
    · exact .inl ((h2 k).2 (.inl e))
    · exact .inl ((h2 k).2 (.inr (.inl e)))
    · exact .inl ((h2 k).2 (.inr (.inr (.inl e))))
    · exact (k2 k e).imp (fun e => (h2 k).2 (.inr (.inr (.inr (.inl e))))) id
    · exact .inl ((h2 k).2 (.inr (.inr (.inr (.inr e)))))
  have fQ : ∀ W W' V', Below w.heap.size w W → GrTo priS.cod 215 gp V' FQ W W' → VoTo vb N { S with Q := V' } F W W' := fun W W' V' hb ht => by
    obtain ⟨FV', k1, k2, k3⟩ := (h1.below hb).setQ ht (Nat.le_trans hN hb.size)
    refine ⟨_, ⟨gv, gd, gw, gp, FV, FD, FW, FV', k1, fun k => Iff.rfl⟩, fun k hk => ?_, k3.grow, fun k hk h6 h7 => k3.block k hk (fun e => h6 ((h2 k).2 (.inr (.inr (.inr (.inr e)))))) h7⟩
    rcases hk with e | e | e | e | e
    · exact .inl ((h2 k).2 (.inl e))
    · exact .inl ((h2 k).2 (.inr (.inl e)))
    · exact .inl ((h2 k).2 (.inr (.inr (.inl e))))
    · exact .inl ((h2 k).2 (.inr (.inr (.inr (.inl e)))))
    · exact (k2 k e).imp (fun e => (h2 k).2 (.inr (.inr (.inr (.inr e))))) id
  refine ⟨gv, gd, gw, gp, fun W hb => (h1.below hb).blk.tables, fun W hb a b wa wb => grid_Get_V (h1.below hb).v wa wb, fun W hb a b wa wb => grid_Get_D (h1.below hb).d wa wb, ?_, ?_, ?_, ?_, ?_, ?_⟩
  · intro W hb a b x hl wa wb
    exact (grid_Set_V (h1.below hb).v hl wa wb x).mono fun e w' ⟨he, ht⟩ => ⟨he, fV W w' _ hb ht⟩
  · trivial
  · trivial
  · intro W hb a b hl wa wb
    exact (grid_Del_V (h1.below hb).v hl wa wb).mono fun e w' ⟨he, ht⟩ => ⟨he, fV W w' _ hb ht⟩
  · trivial
  · trivial
end
end Go.Proofs.YtpkamfbjgdmmoaaGreat
end

section
namespace Go.Proofs.YtpkamfbjgdmmoaaGreat
open Go.RowKit
set_option linter.unusedVariables false

theorem conv_Capital (k : Int) (aye : Bool) (l a n s : Int) (w : World) (ha : 0 ≤ a ∧ a ≤ 1073741824) (hn : 0 ≤ n ∧ n ≤ 1073741824) (hs : 0 ≤ s ∧ s ≤ 1073741824) :
    Calls Tryz.prog 48 #[vote k aye l a n s] w fun e w' => e = .returned (.int .i64 (a + n + s)) ∧ Below w.heap.size w w' := by
  go_enter Tryz.func48, Tryz.ntmps48
  go_wp2
  go_ret
  exact ⟨rfl, (Below.refl _ _).alloc (Nat.le_refl _) _⟩

/-- A vote lies in the first block behind w0's. -/
structure VBox (w0 : World) (k : Int) (aye : Bool) (l a n s : Int) (w : World) : Prop where
  c0 : w.cell? ⟨w0.heap.size, 0, none⟩ = some (.int .i64 k)
  c1 : w.cell? ⟨w0.heap.size, 1, none⟩ = some (.bool aye)
  c2 : w.cell? ⟨w0.heap.size, 2, none⟩ = some (.int .i64 l)
  c3 : w.cell? ⟨w0.heap.size, 3, none⟩ = some (.int .i64 a)
  c4 : w.cell? ⟨w0.heap.size, 4, none⟩ = some (.int .i64 n)
  c5 : w.cell? ⟨w0.heap.size, 5, none⟩ = some (.int .i64 s)
  lt : w0.heap.size < w.heap.size
  old : Below w0.heap.size w0 w
theorem VBox.all {w0 : World} {k : Int} {aye : Bool} {l a n s : Int} {w : World} (h : VBox w0 k aye l a n s w) : w.cell? ⟨w0.heap.size, 0, none⟩ = some (.int .i64 k) ∧ w.cell? ⟨w0.heap.size, 1, none⟩ = some (.bool aye) ∧ w.cell? ⟨w0.heap.size, 2, none⟩ = some (.int .i64 l) ∧ w.cell? ⟨w0.heap.size, 3, none⟩ = some (.int .i64 a) ∧ w.cell? ⟨w0.heap.size, 4, none⟩ = some (.int .i64 n) ∧ w.cell? ⟨w0.heap.size, 5, none⟩ = some (.int .i64 s) := ⟨h.c0, h.c1, h.c2, h.c3, h.c4, h.c5⟩
theorem VBox.below {w0 : World} {k : Int} {aye : Bool} {l a n s : Int} {w w' : World} (h : VBox w0 k aye l a n s w) (hb : Below w.heap.size w w') : VBox w0 k aye l a n s w' := by
  obtain ⟨hc, _⟩ := bcell hb
  exact ⟨(hc _ _ h.lt).trans h.c0, (hc _ _ h.lt).trans h.c1, (hc _ _ h.lt).trans h.c2, (hc _ _ h.lt).trans h.c3, (hc _ _ h.lt).trans h.c4, (hc _ _ h.lt).trans h.c5, Nat.lt_of_lt_of_le h.lt hb.size, h.old.trans (hb.mono h.old.size)⟩
theorem VBox.drew {w0 : World} {k : Int} {aye : Bool} {l a n s : Int} {w : World} (h : VBox w0 k aye l a n s w) : VBox w0 k aye l a n s w.drew := ⟨h.c0, h.c1, h.c2, h.c3, h.c4, h.c5, h.lt, h.old.drew⟩
theorem VBox.new {k : Int} {aye : Bool} {l a n s : Int} {w : World} {t : TypeId} : VBox w k aye l a n s (w.alloc (.cells #[.int .i64 k, .bool aye, .int .i64 l, .int .i64 a, .int .i64 n, .int .i64 s] t)) := by
  constructor
  case old => exact (Below.refl _ _).alloc (Nat.le_refl _) _
  all_goals simp

set_option maxHeartbeats 1000000 in
theorem conv_Is (k : Int) (aye : Bool) (l a n s : Int) (w : World) :
    Calls Tryz.prog 43 #[vote k aye l a n s] w fun e w' => e = .returned (.bool (voteB k aye l a n s)) ∧ Below w.heap.size w w' := by
  go_enter Tryz.func43, Tryz.ntmps43
  go_wp2_with (first | (go_at_call 85; refine (conv_shaped _ _ _ _ _ _ _).mono ?_; rintro e w1 ⟨rfl, hb1⟩; have B := VBox.new.below hb1; clear hb1; obtain ⟨c0, c1, c2, c3, c4, c5⟩ := B.all) | (go_at_call 71; refine (cvBalance _ _).mono ?_; rintro e w' ⟨rfl, rfl⟩) | (go_at_call 48; refine (conv_Capital _ _ _ _ _ _ _ (withinB_out (by assumption)) (withinB_out (by assumption)) (withinB_out (by assumption))).mono ?_; rintro e w1 ⟨rfl, hb1⟩; have B2 := B.below hb1) | fail)
  all_goals
    go_ret
    exact ⟨cvRet_bool (by simp [voteB, *]), (by first | exact B2.old | exact B.old)⟩

/-- What a vote gains, its three numbers. -/
def gainA (k : Int) (aye : Bool) (l a v : Int) : Int := if k = 1 then (if aye then votesI a l + v else 0) else votesI a 0
def gainN (k : Int) (aye : Bool) (l a n v : Int) : Int := if k = 1 then (if aye then 0 else votesI a l + v) else votesI n 0
def gainS (k : Int) (aye : Bool) (a s c : Int) : Int := if k = 1 then (if aye then a + c else 0) else a + s

theorem votes_bd {n l : Int} (h0 : 0 ≤ n) (l0 : 0 ≤ l) : 0 ≤ votesI n l ∧ votesI n l ≤ n * (l + 1) := by
  unfold votesI
  have m := Int.mul_nonneg h0 l0
  have e : n * (l + 1) = n * l + n := by rw [Int.mul_add]; omega
  split <;> omega

set_option maxHeartbeats 1000000 in
theorem conv_Gain2 (k : Int) (hk : k = 2 ∨ k = 3) (aye : Bool) (l a n s v c : Int) (w : World) (a0 : 0 ≤ a) (a1 : a ≤ 1073741824) (n0 : 0 ≤ n) (n1 : n ≤ 1073741824) (s0 : 0 ≤ s) (s1 : s ≤ 1073741824) :
    Calls Tryz.prog 52 #[vote k aye l a n s, weight v c] w fun e w' => e = .returned (tally (gainA k aye l a v) (gainN k aye l a n v) (gainS k aye a s c)) ∧ Below w.heap.size w w' := by
  have W1 : IntKind.i64.wrap (a + s) = a + s := IntWalk.i64_in _ (by omega)
  rcases hk with rfl | rfl
  · go_enter Tryz.func52, Tryz.ntmps52
    go_wp2_with fail
    have B1 : VBox w 2 aye l a n s (((w.alloc (.cells #[.int .i64 2, .bool aye, .int .i64 l, .int .i64 a, .int .i64 n, .int .i64 s] 47)).alloc (.cells #[.int .i64 v, .int .i64 c] 121)).alloc (.cells #[.int .i64 0, .int .i64 0, .int .i64 0] 54)) := (VBox.new.below (below_new (Below.refl _ _) _)).below (below_new (Below.refl _ _) _)
    have B2 : VBox w 2 aye l a n s (((w.alloc (.cells #[.int .i64 2, .bool aye, .int .i64 l, .int .i64 a, .int .i64 n, .int .i64 s] 47)).alloc (.cells #[.int .i64 v, .int .i64 c] 121)).alloc (.cells #[.int .i64 (votesI a 0), .int .i64 (votesI n 0), .int .i64 (a + s)] 54)) := (VBox.new.below (below_new (Below.refl _ _) _)).below (below_new (Below.refl _ _) _)
    go_region_held3 (fun w' => w'.cell? ⟨w.heap.size, 0, none⟩ = some (.int .i64 2) ∧ w'.cell? ⟨w.heap.size, 1, none⟩ = some (.bool aye) ∧ w'.cell? ⟨w.heap.size, 2, none⟩ = some (.int .i64 l) ∧ w'.cell? ⟨w.heap.size, 3, none⟩ = some (.int .i64 a) ∧ w'.cell? ⟨w.heap.size, 4, none⟩ = some (.int .i64 n) ∧ w'.cell? ⟨w.heap.size, 5, none⟩ = some (.int .i64 s)) (first | exact B1.all | exact B2.all | fail) (first | (go_at_call 88; refine (conv_Votes _ _ _ (by omega) (by omega) (by omega) (by omega)).mono ?_; rintro e w' ⟨rfl, rfl⟩) | fail)
    go_wp2
    exact bodyPost_ret (v := tally (gainA 2 aye l a v) (gainN 2 aye l a n v) (gainS 2 aye a s c)) (by simp [results, Tryz.results52, go_sem, gainA, gainN, gainS]) rfl ⟨rfl, (by repeat (first | exact Below.refl _ _ | refine below_dn ?_ _ | refine Below.drew ?_ | refine below_new ?_ _ | refine Below.setCell ?_ (Nat.le_refl _) _ | refine Below.setCell ?_ (Nat.le_succ _) _ | refine Below.setCell ?_ (Nat.le_trans (Nat.le_succ _) (Nat.le_succ _)) _))⟩
  · go_enter Tryz.func52, Tryz.ntmps52
    go_wp2_with fail
    have B1 : VBox w 3 aye l a n s (((w.alloc (.cells #[.int .i64 3, .bool aye, .int .i64 l, .int .i64 a, .int .i64 n, .int .i64 s] 47)).alloc (.cells #[.int .i64 v, .int .i64 c] 121)).alloc (.cells #[.int .i64 0, .int .i64 0, .int .i64 0] 54)) := (VBox.new.below (below_new (Below.refl _ _) _)).below (below_new (Below.refl _ _) _)
    have B2 : VBox w 3 aye l a n s (((w.alloc (.cells #[.int .i64 3, .bool aye, .int .i64 l, .int .i64 a, .int .i64 n, .int .i64 s] 47)).alloc (.cells #[.int .i64 v, .int .i64 c] 121)).alloc (.cells #[.int .i64 (votesI a 0), .int .i64 (votesI n 0), .int .i64 (a + s)] 54)) := (VBox.new.below (below_new (Below.refl _ _) _)).below (below_new (Below.refl _ _) _)
    go_region_held3 (fun w' => w'.cell? ⟨w.heap.size, 0, none⟩ = some (.int .i64 3) ∧ w'.cell? ⟨w.heap.size, 1, none⟩ = some (.bool aye) ∧ w'.cell? ⟨w.heap.size, 2, none⟩ = some (.int .i64 l) ∧ w'.cell? ⟨w.heap.size, 3, none⟩ = some (.int .i64 a) ∧ w'.cell? ⟨w.heap.size, 4, none⟩ = some (.int .i64 n) ∧ w'.cell? ⟨w.heap.size, 5, none⟩ = some (.int .i64 s)) (first | exact B1.all | exact B2.all | fail) (first | (go_at_call 88; refine (conv_Votes _ _ _ (by omega) (by omega) (by omega) (by omega)).mono ?_; rintro e w' ⟨rfl, rfl⟩) | fail)
    go_wp2
    exact bodyPost_ret (v := tally (gainA 3 aye l a v) (gainN 3 aye l a n v) (gainS 3 aye a s c)) (by simp [results, Tryz.results52, go_sem, gainA, gainN, gainS]) rfl ⟨rfl, (by repeat (first | exact Below.refl _ _ | refine below_dn ?_ _ | refine Below.drew ?_ | refine below_new ?_ _ | refine Below.setCell ?_ (Nat.le_refl _) _ | refine Below.setCell ?_ (Nat.le_succ _) _ | refine Below.setCell ?_ (Nat.le_trans (Nat.le_succ _) (Nat.le_succ _)) _))⟩

end Go.Proofs.YtpkamfbjgdmmoaaGreat
end

section
namespace Go.Proofs.YtpkamfbjgdmmoaaGreat
open Go.RowKit
set_option linter.unusedVariables false
set_option linter.unusedSimpArgs false

abbrev w64i (n : Int) : Int := wrap64 n
def Tl.add (x y : Tl) : Tl := ⟨wrap64 (x.a + y.a), wrap64 (x.n + y.n), wrap64 (x.s + y.s)⟩
def Tl.zero : Tl := ⟨0, 0, 0⟩
def Tl.neg (x : Tl) : Tl := ⟨wrap64 (-x.a), wrap64 (-x.n), wrap64 (-x.s)⟩
def Tl.sub (x y : Tl) : Tl := x.add y.neg
def Tl.sum (x : Tl) (l : List Tl) : Tl := l.foldl Tl.add x
theorem Tl.sum_snoc (x : Tl) (l : List Tl) (y : Tl) : Tl.sum x (l ++ [y]) = (Tl.sum x l).add y := by simp [Tl.sum]
abbrev tlV (x : Tl) : Value := .agg #[.int .i64 x.a, .int .i64 x.n, .int .i64 x.s]
/-- A slice reads as these tallies. -/
def RdT (w : World) (v : Value) (l : List Tl) : Prop :=
  (v = .slice none 0 0 ∧ l = []) ∨ ∃ a cap, v = .slice (some a) l.length cap ∧ l.length ≤ cap ∧
    ∀ i (h : i < l.length), ∃ blk off, a = ⟨blk, off, none⟩ ∧ blk < w.heap.size ∧ w.cell? ⟨blk, off + i * 3, none⟩ = some (.int .i64 l[i].a) ∧ w.cell? ⟨blk, off + i * 3 + 1, none⟩ = some (.int .i64 l[i].n) ∧ w.cell? ⟨blk, off + i * 3 + 2, none⟩ = some (.int .i64 l[i].s)

theorem RdT.below {w w' : World} {v : Value} {l : List Tl} (h : RdT w v l) (hb : Below w.heap.size w w') : RdT w' v l := by
  rcases h with h | ⟨a, cap, hv, hc, hcell⟩
  · exact .inl h
  · refine .inr ⟨a, cap, hv, hc, fun i hi => ?_⟩
    obtain ⟨blk, off, rfl, hl, h1, h2, h3⟩ := hcell i hi
    exact ⟨blk, off, rfl, Nat.lt_of_lt_of_le hl hb.size, (hb.cell (p := ⟨blk, _, none⟩) hl).trans h1, (hb.cell (p := ⟨blk, _, none⟩) hl).trans h2, (hb.cell (p := ⟨blk, _, none⟩) hl).trans h3⟩
theorem RdT.lenOf {w : World} {v : Value} {l : List Tl} (h : RdT w v l) : ∃ ao cap, v = .slice ao l.length cap := by
  rcases h with ⟨rfl, rfl⟩ | ⟨a, cap, rfl, -⟩
  · exact ⟨_, _, rfl⟩
  · exact ⟨_, _, rfl⟩
/-- A box of a tally. -/
def TB (w : World) (b : Nat) (x : Tl) : Prop := w.heap[b]? = some (.cells #[.int .i64 x.a, .int .i64 x.n, .int .i64 x.s] 54 (0, 0))

theorem TB.c {w : World} {b : Nat} {x : Tl} (h : TB w b x) : w.cell? ⟨b, 0, none⟩ = some (.int .i64 x.a) ∧ w.cell? ⟨b, 1, none⟩ = some (.int .i64 x.n) ∧ w.cell? ⟨b, 2, none⟩ = some (.int .i64 x.s) := by
  refine ⟨?_, ?_, ?_⟩ <;> simp [World.cell?, show w.heap[b]? = _ from h]
theorem TB.frozen {w : World} {b : Nat} {x : Tl} (h : TB w b x) (i : Nat) : w.frozen? ⟨b, i, none⟩ = false := by simp [World.frozen?, show w.heap[b]? = _ from h]
theorem TB.lt {w : World} {b : Nat} {x : Tl} (h : TB w b x) : b < w.heap.size := (Array.getElem?_eq_some_iff.1 h).1
theorem TB.new (w : World) (x : Tl) : TB (w.alloc (.cells #[.int .i64 x.a, .int .i64 x.n, .int .i64 x.s] 54)) w.heap.size x := heap_alloc_new w _
theorem TB.newAt {w : World} {x : Tl} {b : Nat} (hb : b = w.heap.size) : TB (w.alloc (.cells #[.int .i64 x.a, .int .i64 x.n, .int .i64 x.s] 54)) b x := by subst hb; exact TB.new w x
theorem TB.keep {w w' : World} {b : Nat} {x : Tl} (h : TB w b x) {N : Nat} (hb : Below N w w') (hN : b < N) : TB w' b x := (hb.block b hN).trans h
theorem TB.alloc {w : World} {b : Nat} {x : Tl} (h : TB w b x) (o : Obj) : TB (w.alloc o) b x := (((Below.refl _ w).alloc (Nat.le_refl _) o).block b h.lt).trans h
theorem block_set {w : World} {b i : Nat} {cs : Array Value} {t : TypeId} {fr : Nat × Nat} (v : Value) (h : w.heap[b]? = some (.cells cs t fr)) : (w.setCell ⟨b, i, none⟩ v).heap[b]? = some (.cells (cs.setIfInBounds i v) t fr) := by
  obtain ⟨hlt, hk⟩ := Array.getElem?_eq_some_iff.1 h
  show (w.heap.modify b _)[b]? = _
  rw [Array.getElem?_eq_getElem (by rw [Array.size_modify]; exact hlt), Array.getElem_modify_self, hk]
  rfl
theorem block_other {w : World} {b : Nat} {a : Addr} {v : Value} {x : Obj} (h : w.heap[b]? = some x) (hne : b ≠ a.block) : (w.setCell a v).heap[b]? = some x := by
  obtain ⟨hlt, hk⟩ := Array.getElem?_eq_some_iff.1 h
  show (w.heap.modify a.block _)[b]? = _
  rw [Array.getElem?_eq_getElem (by rw [Array.size_modify]; exact hlt), Array.getElem_modify_of_ne (fun e => hne e.symm), hk]
theorem TB.set {w : World} {b : Nat} {x : Tl} (h : TB w b x) (y : Tl) : TB (((w.setCell ⟨b, 0, none⟩ (.int .i64 y.a)).setCell ⟨b, 1, none⟩ (.int .i64 y.n)).setCell ⟨b, 2, none⟩ (.int .i64 y.s)) b y :=
  block_set _ (block_set _ (block_set _ h))

/-- Cells of a tally in a slice. -/
theorem RdT.at {w : World} {ao : Option Addr} {n cap : Nat} {l : List Tl} (h : RdT w (.slice ao n cap) l) {j : Nat} (hj : j < l.length) :
    ∃ blk off, ao = some ⟨blk, off, none⟩ ∧ n = l.length ∧ n ≤ cap ∧ blk < w.heap.size ∧ w.cell? ⟨blk, off + j * 3, none⟩ = some (.int .i64 (l.getD j Tl.zero).a) ∧ w.cell? ⟨blk, off + j * 3 + 1, none⟩ = some (.int .i64 (l.getD j Tl.zero).n) ∧ w.cell? ⟨blk, off + j * 3 + 2, none⟩ = some (.int .i64 (l.getD j Tl.zero).s) := by
  rcases h with ⟨-, h⟩ | ⟨a, cap', hv, hc, hcell⟩
  · subst h; simp at hj
  · injection hv with h1 h2 h3
    subst h1 h2 h3
    obtain ⟨blk, off, rfl, hl, c1, c2, c3⟩ := hcell j hj
    have e : l.getD j Tl.zero = l[j] := by simp [hj]
    exact ⟨blk, off, rfl, rfl, hc, hl, by rw [e]; exact c1, by rw [e]; exact c2, by rw [e]; exact c3⟩

theorem Tl.take_sum {x : Tl} {l : List Tl} {j : Nat} (h : j < l.length) : Tl.sum x (l.take (j + 1)) = (Tl.sum x (l.take j)).add (l.getD j Tl.zero) := by
  have : l.take (j + 1) = l.take j ++ [l.getD j Tl.zero] := by
    rw [List.take_succ_eq_append_getElem h]; simp [h]
  rw [this, Tl.sum_snoc]

set_option maxHeartbeats 2000000 in
theorem conv_Add (x : Tl) (u : Value) (l : List Tl) (w : World) (hr : RdT w u l) (hl : l.length ≤ 100) :
    Calls Tryz.prog 53 #[tlV x, u] w fun e w' => e = .returned (tlV (Tl.sum x l)) ∧ Below w.heap.size w w' := by
  have HR := Lib.hid hr
  obtain ⟨ao, cap, rfl⟩ := hr.lenOf
  clear hr
  unfold tlV
  go_enter Tryz.func53, Tryz.ntmps53
  go_wp2
  go_loopw [9] (fun i wr => ∃ j : Nat, j ≤ l.length ∧ i = .int .i64 j ∧ TB wr w.heap.size (Tl.sum x (l.take j)) ∧ TB wr (w.heap.size + 1) Tl.zero ∧ Below w.heap.size w wr) (fun i _ => l.length - (RowKit.intOf i).toNat)
  case atStart =>
    refine ⟨0, Nat.zero_le _, rfl, (TB.new w x).alloc _, ?_, ((Below.refl _ w).alloc (Nat.le_refl _) _).alloc (by simp) _⟩
    have := TB.new (w.alloc (.cells #[.int .i64 x.a, .int .i64 x.n, .int .i64 x.s] 54)) Tl.zero
    rwa [World.size_alloc] at this
  case round =>
    obtain ⟨j, hj, rfl, ht, hz, hb⟩ := hrel
    by_cases hlt : j < l.length
    · obtain ⟨blk, off, rfl, -, hc, hbl, c1, c2, c3⟩ := HR.out.at hlt
      have hnext := Tl.take_sum (x := x) hlt
      obtain ⟨q, hq⟩ : ∃ q, q = l.getD j Tl.zero := ⟨_, rfl⟩
      obtain ⟨s, hs⟩ : ∃ s, s = Tl.sum x (l.take j) := ⟨_, rfl⟩
      rw [← hq, ← hs] at hnext
      rw [← hq] at c1 c2 c3
      rw [← hs] at ht
      have HN := Lib.hid hnext
      clear hq hs hnext
      have t1 := (hb.cell (p := ⟨blk, off + j * 3, none⟩) hbl).trans c1
      have t2 := (hb.cell (p := ⟨blk, off + j * 3 + 1, none⟩) hbl).trans c2
      have t3 := (hb.cell (p := ⟨blk, off + j * 3 + 2, none⟩) hbl).trans c3
      obtain ⟨s1, s2, s3⟩ := ht.c
      have f0 := ht.frozen 0
      have f1 := ht.frozen 1
      have f2 := ht.frozen 2
      have L1 := ht.lt
      have L2 := hz.lt
      have n1 : ¬ w.heap.size = wr.heap.size := by omega
      have n2 : ¬ blk = wr.heap.size := by omega
      have n3 : ¬ blk = w.heap.size := by omega
      have HT := Lib.hid ht
      have HZ := Lib.hid hz
      have HB := Lib.hid hb
      clear c1 c2 c3 ht hz hb
      go_wp2
      refine ⟨⟨j + 1, by omega, by go_num, ?_, ?_, ?_⟩, by simp [RowKit.intOf]; omega⟩
      · rw [HN.out]
        exact (HT.out.set (s.add q)).alloc _
      · exact TB.alloc ((block_other (block_other (block_other HZ.out (Nat.succ_ne_self _)) (Nat.succ_ne_self _)) (Nat.succ_ne_self _))) _
      · exact ((((HB.out.setCell (Nat.le_refl _) _).setCell (Nat.le_refl _) _).setCell (Nat.le_refl _) _)).alloc (by simp; omega) _
    · have hjl : j = l.length := by omega
      subst hjl
      rw [List.take_length] at ht
      obtain ⟨s1, s2, s3⟩ := ht.c
      obtain ⟨z1, z2, z3⟩ := hz.c
      have f0 := hz.frozen 0
      have f1 := hz.frozen 1
      have f2 := hz.frozen 2
      have L2 := hz.lt
      go_wp2
      refine bodyPost_ret (v := .agg #[.int .i64 (Tl.sum x l).a, .int .i64 (Tl.sum x l).n, .int .i64 (Tl.sum x l).s]) (by simp [results, Tryz.results53, go_sem, *]) rfl ⟨rfl, ?_⟩
      exact ((hb.setCell (Nat.le_succ _) _).setCell (Nat.le_succ _) _).setCell (Nat.le_succ _) _
theorem RdT.one (w : World) (a n s : Int) (t : TypeId) {b : Nat} (hb : b = w.heap.size) : RdT (w.alloc (.cells #[.int .i64 a, .int .i64 n, .int .i64 s] t)) (.slice (some ⟨b, 0, none⟩) 1 1) [⟨a, n, s⟩] := by
  subst hb
  refine .inr ⟨⟨w.heap.size, 0, none⟩, 1, rfl, Nat.le_refl _, fun i hi => ?_⟩
  have : i = 0 := by simp at hi; omega
  subst this
  exact ⟨_, _, rfl, by simp, by simp, by simp, by simp⟩

set_option maxHeartbeats 1000000 in
theorem conv_Sub (x y : Tl) (w : World) :
    Calls Tryz.prog 51 #[tlV x, tlV y] w fun e w' => e = .returned (tlV (x.add y.neg)) ∧ Below w.heap.size w w' := by
  have hz : Tl.sum x [⟨wrap64 (-y.a), wrap64 (-y.n), wrap64 (-y.s)⟩] = x.add y.neg := rfl
  have HZ := Lib.hid hz
  clear hz
  go_enter Tryz.func51, Tryz.ntmps51
  go_wp2_with (first | (go_at_call 53; (with_reducible refine (conv_Add x _ [⟨wrap64 (-y.a), wrap64 (-y.n), wrap64 (-y.s)⟩] _ (RdT.one _ _ _ _ _ (by simp)) (by simp)).mono ?_); rintro e w1 ⟨rfl, hb1⟩; rw [HZ.out]; have L3 := hb1.size; simp only [World.size_alloc] at L3 hb1; have hz := TB.keep (TB.alloc (TB.newAt (w := (w.alloc (.cells #[.int .i64 x.a, .int .i64 x.n, .int .i64 x.s] 54)).alloc (.cells #[.int .i64 y.a, .int .i64 y.n, .int .i64 y.s] 54)) (x := Tl.zero) (b := w.heap.size + 1 + 1) (by simp)) _) hb1 (by omega); obtain ⟨z1, z2, z3⟩ := hz.c; have f0 := hz.frozen 0; have f1 := hz.frozen 1; have f2 := hz.frozen 2; have H1 := Lib.hid hb1; clear hb1 hz) | fail)
  refine bodyPost_ret (v := .agg #[.int .i64 (x.add y.neg).a, .int .i64 (x.add y.neg).n, .int .i64 (x.add y.neg).s]) (by simp [results, Tryz.results51, go_sem, *]) rfl ⟨rfl, ?_⟩
  have hb : Below w.heap.size w w1 := ((((Below.refl _ w).alloc (Nat.le_refl _) _).alloc (by simp) _).alloc (by simp; omega) _).alloc (by simp; omega) _ |>.trans (H1.out.mono (by omega))
  exact ((hb.setCell (by simp; omega) _).setCell (by simp; omega) _).setCell (by simp; omega) _


/-- What a vote gains, as the machine has it. -/
def gainW (x : Bal) (g : Wgt) : Tl := if x.k = 1 then (if x.aye then ⟨wrap64 (votesI x.a x.l + g.v), 0, wrap64 (x.a + g.c)⟩ else ⟨0, wrap64 (votesI x.a x.l + g.v), 0⟩) else ⟨votesI x.a 0, votesI x.n 0, x.a + x.s⟩
/-- A vote that may be. -/
def balOk (x : Bal) : Bool := voteB x.k x.aye x.l x.a x.n x.s
set_option maxHeartbeats 1000000 in
theorem conv_Gain1W (aye : Bool) (l a n s v c : Int) (w : World) (ha : 0 ≤ a ∧ a ≤ 1073741824) (hl : 0 ≤ l ∧ l ≤ 6) :
    Calls Tryz.prog 52 #[vote 1 aye l a n s, weight v c] w fun e w' => e = .returned (tlV (gainW ⟨1, aye, l, a, n, s⟩ ⟨v, c⟩)) ∧ Below w.heap.size w w' := by
  obtain ⟨q0, q1⟩ := votes_bd ha.1 hl.1
  obtain ⟨m0, m1⟩ := mul_bd ha.1 ha.2 (show 0 ≤ l + 1 by omega) (show l + 1 ≤ 7 by omega) (by omega)
  obtain ⟨a0, a1⟩ := ha
  obtain ⟨l0, l1⟩ := hl
  cases aye
  · go_enter Tryz.func52, Tryz.ntmps52
    go_wp2_with fail
    go_quiet ((go_at_call 88; exact Calls.quiet_of_same ((conv_Votes _ _ _ (by omega) (by omega) (by omega) (by omega)).mono fun e w' h => ⟨h.1, h.2.symm⟩)))
    go_wp2
    exact bodyPost_ret (v := tlV (gainW ⟨1, false, l, a, n, s⟩ ⟨v, c⟩)) (by simp [results, Tryz.results52, go_sem, gainW]) rfl ⟨rfl, (by repeat (first | exact Below.refl _ _ | refine below_dn ?_ _ | refine Below.drew ?_ | refine below_new ?_ _ | refine Below.setCell ?_ (Nat.le_refl _) _ | refine Below.setCell ?_ (Nat.le_succ _) _ | refine Below.setCell ?_ (Nat.le_trans (Nat.le_succ _) (Nat.le_succ _)) _))⟩
  · go_enter Tryz.func52, Tryz.ntmps52
    go_wp2_with fail
    go_quiet ((go_at_call 88; exact Calls.quiet_of_same ((conv_Votes _ _ _ (by omega) (by omega) (by omega) (by omega)).mono fun e w' h => ⟨h.1, h.2.symm⟩)))
    go_wp2
    exact bodyPost_ret (v := tlV (gainW ⟨1, true, l, a, n, s⟩ ⟨v, c⟩)) (by simp [results, Tryz.results52, go_sem, gainW]) rfl ⟨rfl, (by repeat (first | exact Below.refl _ _ | refine below_dn ?_ _ | refine Below.drew ?_ | refine below_new ?_ _ | refine Below.setCell ?_ (Nat.le_refl _) _ | refine Below.setCell ?_ (Nat.le_succ _) _ | refine Below.setCell ?_ (Nat.le_trans (Nat.le_succ _) (Nat.le_succ _)) _))⟩


theorem conv_GainW (x : Bal) (g : Wgt) (w : World) (h : balOk x = true) :
    Calls Tryz.prog 52 #[balS.v x, wgtS.v g] w fun e w' => e = .returned (tlyS.v (gainW x g)) ∧ Below w.heap.size w w' := by
  obtain ⟨k, aye, l, a, n, s⟩ := x
  obtain ⟨v, c⟩ := g
  simp only [balOk, voteB, Bool.and_eq_true] at h
  obtain ⟨⟨⟨⟨h0, h1⟩, h2⟩, h3⟩, -⟩ := h
  obtain ⟨a0, a1⟩ := withinB_out h1
  obtain ⟨n0, n1⟩ := withinB_out h2
  obtain ⟨s0, s1⟩ := withinB_out h3
  by_cases k1 : k = 1
  · subst k1
    simp only [shapedB, if_true, Bool.and_eq_true] at h0
    exact conv_Gain1W aye l a n s v c w ⟨a0, a1⟩ (withinB_out h0.1.1)
  · have hk : k = 2 ∨ k = 3 := by
      by_cases k2 : k = 2
      · exact .inl k2
      · by_cases k3 : k = 3
        · exact .inr k3
        · simp [shapedB, k1, k2, k3] at h0
    refine (conv_Gain2 k hk aye l a n s v c w a0 a1 n0 n1 s0 s1).mono fun e w' ⟨he, hb⟩ => ⟨?_, hb⟩
    rw [he]
    simp [gainA, gainN, gainS, gainW, k1, tlyS, StTy.v]
theorem conv_SubW (x y : Tl) (w : World) : Calls Tryz.prog 51 #[tlyS.v x, tlyS.v y] w fun e w' => e = .returned (tlyS.v (x.sub y)) ∧ Below w.heap.size w w' := conv_Sub x y w
/-- One more tally laid on: by the list that the call makes. -/
theorem conv_AddW (x y : Tl) (u : Value) (w : World) (hr : RdT w u [y]) : Calls Tryz.prog 53 #[tlyS.v x, u] w fun e w' => e = .returned (tlyS.v (x.add y)) ∧ Below w.heap.size w w' := conv_Add x u [y] w hr (by simp)
theorem conv_CapitalW (x : Bal) (w : World) (h : balOk x = true) : Calls Tryz.prog 48 #[balS.v x] w fun e w' => e = .returned (.int .i64 (x.a + x.n + x.s)) ∧ Below w.heap.size w w' := by
  obtain ⟨k, aye, l, a, n, s⟩ := x
  simp only [balOk, voteB, Bool.and_eq_true] at h
  obtain ⟨⟨⟨⟨h0, h1⟩, h2⟩, h3⟩, -⟩ := h
  exact conv_Capital k aye l a n s w (withinB_out h1) (withinB_out h2) (withinB_out h3)
theorem conv_IsW (x : Bal) (w : World) : Calls Tryz.prog 43 #[balS.v x] w fun e w' => e = .returned (.bool (balOk x)) ∧ Below w.heap.size w w' := conv_Is x.k x.aye x.l x.a x.n x.s w
end Go.Proofs.YtpkamfbjgdmmoaaGreat
end

section
namespace Go.Proofs.YtpkamfbjgdmmoaaGreat
open Go.RowKit Go.Maps
set_option linter.unusedVariables false
set_option linter.unusedSimpArgs false

set_option maxRecDepth 100000 in
set_option maxHeartbeats 1000000 in
theorem ledger_LockG {g gl : Nat} {w : World} {R : World → Prop} {a i n : Int} (hp : w.cell? ⟨g, 20, none⟩ = some (.pointer (some ⟨gl, 0, none⟩))) (hac : isAcc a)
    (hdel : n = 0 ∨ ¬ isBal n → Calls Tryz.prog 115 #[.pointer (some ⟨gl, 0, none⟩), .int .i64 a, .int .i64 i] w fun e w' => ∃ b : Bool, e = .returned (.bool b) ∧ R w')
    (hset : ¬ (n = 0 ∨ ¬ isBal n) → Calls Tryz.prog 116 #[.pointer (some ⟨gl, 0, none⟩), .int .i64 a, .int .i64 i, .int .i64 n] w fun e w' => e = .returned (.tuple #[]) ∧ R w') :
    Calls Tryz.prog 92 #[.pointer (some ⟨g, 0, none⟩), .int .i64 a, .int .i64 i, .int .i64 n] w fun e w' => e = .returned (.tuple #[]) ∧ R w' := by
  obtain ⟨k, rfl, hk⟩ := isAcc_nat hac
  have HK := Lib.hid hk
  have hex : n = 0 ∨ (¬ n = 0 ∧ ¬ isBal n) ∨ (¬ n = 0 ∧ isBal n) := by by_cases h1 : n = 0; exact .inl h1; by_cases h2 : isBal n; exact .inr (.inr ⟨h1, h2⟩); exact .inr (.inl ⟨h1, h2⟩)
  rcases hex with hn | ⟨hn, hbal⟩ | ⟨hn, hbal⟩
  · have HD := Lib.hid (hdel (.inl hn))
    clear hac hdel hset hk
    go_enter Tryz.func92, Tryz.ntmps92
    go_wp2_with (first
      | (go_at_call 68; refine (ledger_account HK.out _).mono ?_; rintro e w' ⟨rfl, hw⟩; rw [hw]; clear hw w')
      | (go_at_call 115; refine HD.out.mono ?_; rintro e w1 ⟨b, rfl, h1⟩; have H1 := Lib.hid h1; clear h1)
      | fail)
    exact bodyPost_end (results_none rfl _ _ _) rfl ⟨rfl, H1.out⟩
  · have HD := Lib.hid (hdel (.inr hbal))
    have hd : decide (0 ≤ n ∧ n ≤ 1073741824) = false := by unfold isBal at hbal; exact decide_eq_false hbal
    have HB := Lib.hid hd
    clear hac hdel hset hk hd hbal
    go_enter Tryz.func92, Tryz.ntmps92
    go_wp2_with (first
      | (go_at_call 68; refine (ledger_account HK.out _).mono ?_; rintro e w' ⟨rfl, hw⟩; rw [hw]; clear hw w')
      | (go_at_call 71; refine (bound_Balance n _).mono ?_; rw [HB.out]; rintro e w' ⟨rfl, hw⟩; rw [hw]; clear hw w')
      | (go_at_call 115; refine HD.out.mono ?_; rintro e w1 ⟨b, rfl, h1⟩; have H1 := Lib.hid h1; clear h1)
      | fail)
    exact bodyPost_end (results_none rfl _ _ _) rfl ⟨rfl, H1.out⟩
  · have HD := Lib.hid (hset (by simp [hn, hbal]))
    have hd : decide (0 ≤ n ∧ n ≤ 1073741824) = true := by unfold isBal at hbal; exact decide_eq_true hbal
    have HB := Lib.hid hd
    clear hac hdel hset hk hd hbal
    go_enter Tryz.func92, Tryz.ntmps92
    go_wp2_with (first
      | (go_at_call 68; refine (ledger_account HK.out _).mono ?_; rintro e w' ⟨rfl, hw⟩; rw [hw]; clear hw w')
      | (go_at_call 71; refine (bound_Balance n _).mono ?_; rw [HB.out]; rintro e w' ⟨rfl, hw⟩; rw [hw]; clear hw w')
      | (go_at_call 116; refine HD.out.mono ?_; rintro e w1 ⟨rfl, h1⟩; have H1 := Lib.hid h1; clear h1)
      | fail)
    exact bodyPost_end (results_none rfl _ _ _) rfl ⟨rfl, H1.out⟩
/-- A ledger in memory, with all that it lies in. -/
def LdX (g N : Nat) (A : Acc) (M : Cls Int) (FL : FP) (w : World) : Prop :=
  ∃ gl F, w.heap[g]? = some (.cells (lcells A gl).toArray 148 (0, 0)) ∧ GrAt codI 209 gl M F w ∧ (∀ k, F k → N ≤ k ∧ k ≠ g) ∧ N ≤ g ∧ AccOk A ∧ M.length ≤ 10000 ∧ ∀ k, FL k ↔ k = g ∨ F k
/-- A ledger changed. -/
def LdTo (g N : Nat) (A : Acc) (M : Cls Int) (FL : FP) (w w' : World) : Prop := ∃ F', LdX g N A M F' w' ∧ (∀ k, F' k → FL k ∨ w.heap.size ≤ k) ∧ Only FL (fun _ => False) w w'
section
variable {g N : Nat} {A A' : Acc} {M M' : Cls Int} {FL : FP} {w w' w1 : World}
theorem LdX.at (h : LdX g N A M FL w) : ∃ gl, LdAt N g gl A M w := by
  obtain ⟨gl, F, h1, h2, h3, h4, h5, h6, h7⟩ := h
  exact ⟨gl, h1, ⟨F, h2, h3⟩, h4, h5, h6⟩
theorem LdX.of {gl : Nat} (h : LdAt N g gl A M w) : ∃ FL, LdX g N A M FL w ∧ ∀ k, FL k → N ≤ k := by
  obtain ⟨F, h1, h2⟩ := h.gr
  exact ⟨_, ⟨gl, F, h.blk, h1, h2, h.lo, h.ok, h.len, fun k => Iff.rfl⟩, fun k hk => hk.elim (fun e => by rw [e]; exact h.lo) (fun e => (h2 k e).1)⟩
theorem LdX.lt (h : LdX g N A M FL w) {k : Nat} (hk : FL k) : k < w.heap.size := by
  obtain ⟨gl, F, h1, h2, h3, h4, h5, h6, h7⟩ := h
  rcases (h7 k).1 hk with rfl | e
  · exact (Array.getElem?_eq_some_iff.1 h1).1
  · exact h2.2.2.1 k e
theorem LdX.lo (h : LdX g N A M FL w) {k : Nat} (hk : FL k) : N ≤ k := by
  obtain ⟨gl, F, h1, h2, h3, h4, h5, h6, h7⟩ := h
  rcases (h7 k).1 hk with rfl | e
  · exact h4
  · exact (h3 k e).1
theorem LdX.own (h : LdX g N A M FL w) : FL g := by
  obtain ⟨gl, F, h1, h2, h3, h4, h5, h6, h7⟩ := h
  exact (h7 g).2 (.inl rfl)
theorem LdX.keep (h : LdX g N A M FL w) (hg : Grow w w') (hk : ∀ k, FL k → w'.heap[k]? = w.heap[k]?) : LdX g N A M FL w' := by
  obtain ⟨gl, F, h1, h2, h3, h4, h5, h6, h7⟩ := h
  exact ⟨gl, F, (hk g ((h7 g).2 (.inl rfl))).trans h1, h2.keep hg (fun k hf => hk k ((h7 k).2 (.inr hf))), h3, h4, h5, h6, h7⟩
theorem LdX.below (h : LdX g N A M FL w) (hb : Below w.heap.size w w') : LdX g N A M FL w' := h.keep (Grow.of_below hb) (fun k hk => hb.block k (h.lt hk))
theorem LdX.size (h : LdX g N A M FL w) : N ≤ w.heap.size := Nat.le_of_lt (Nat.lt_of_le_of_lt (h.lo h.own) (h.lt h.own))
theorem LdX.srt (h : LdX g N A M FL w) : SrtC M ∧ AccOk A ∧ M.length ≤ 10000 := by
  obtain ⟨gl, F, h1, h2, h3, h4, h5, h6, h7⟩ := h
  exact ⟨h2.1, h5, h6⟩
theorem LdTo.of_below (h : LdX g N A M FL w) (hb : Below w.heap.size w w') : LdTo g N A M FL w w' := ⟨FL, h.below hb, fun k hk => .inl hk, Only.of_later hb⟩
theorem LdTo.later (hb : Below w.heap.size w w1) (h : LdTo g N A M FL w1 w') : LdTo g N A M FL w w' := by
  obtain ⟨F', h1, h2, h3⟩ := h
  exact ⟨F', h1, fun k hk => (h2 k hk).imp id (fun h => Nat.le_trans hb.size h), only_trans (Only.of_later hb) h3⟩
theorem ledger_LockX (h : LdX g N A M FL w) (hlen : M.length < 10000) {a i : Int} (hac : isAcc a) (ha : (Lit.int .i64 a).wf = true) (hi : (Lit.int .i64 i).wf = true) (n : Int) : Calls Tryz.prog 92 #[.pointer (some ⟨g, 0, none⟩), .int .i64 a, .int .i64 i, .int .i64 n] w fun e w' => e = .returned (.tuple #[]) ∧ LdTo g N A (lockM M a i n) FL w w' := by
  obtain ⟨gl, h0⟩ := h.at
  have hN := h.size
  obtain ⟨gl, F, h1, hF, hF2, h4, h5, h6, h7⟩ := h
  have h0 : LdAt N g gl A M w := ⟨h1, ⟨F, hF, hF2⟩, h4, h5, h6⟩
  have hM : (lockM M a i n).length ≤ 10000 := by have := lockM_len h0.srt a i n; omega
  have fin : ∀ w', GrTo codI 209 gl (lockM M a i n) F w w' → LdTo g N A (lockM M a i n) FL w w' := fun w' ht => by
    obtain ⟨F', k1, k2, k3⟩ := ht
    refine ⟨_, ⟨gl, F', (k3.block g h0.lt (fun hf => (hF2 g hf).2 rfl) (fun h => h)).trans h1, k1, fun k hk => (k2 k hk).elim (hF2 k) (fun hk => by have := h0.lt; omega), h4, h5, hM, fun k => Iff.rfl⟩, fun k hk => ?_, k3.grow, fun k hk h8 h9 => k3.block k hk (fun e => h8 ((h7 k).2 (.inr e))) h9⟩
    rcases hk with e | e
    · exact .inl ((h7 k).2 (.inl e))
    · exact (k2 k e).imp (fun e => (h7 k).2 (.inr e)) id
  refine ledger_LockG (R := fun w' => LdTo g N A (lockM M a i n) FL w w') h0.ptr hac (fun hc => ?_) (fun hc => ?_)
  · have e : lockM M a i n = cdel M a i := by unfold lockM; rw [if_neg (by simp [hac]), if_pos hc]
    rw [e] at fin ⊢
    refine (grid_Del_I hF (by omega) ha hi).mono ?_
    rintro e w' ⟨rfl, h3⟩
    exact ⟨_, rfl, fin w' h3⟩
  · have e : lockM M a i n = cput M a i n := by unfold lockM; rw [if_neg (by simp [hac]), if_neg hc]
    rw [e] at fin ⊢
    refine (grid_Set_I hF (by omega) ha hi n).mono ?_
    rintro e w' ⟨rfl, h3⟩
    exact ⟨rfl, fin w' h3⟩
/-- A change of the struct's block alone. -/
theorem LdX.off (h : LdX g N A M FL w) (h' : ∀ gl, LdAt N g gl A M w → LdAt N g gl A' M w' ∧ Below N w w' ∧ Off g w w') : LdTo g N A' M FL w w' := by
  obtain ⟨gl, F, h1, hF, hF2, h4, h5, h6, h7⟩ := h
  have h0 : LdAt N g gl A M w := ⟨h1, ⟨F, hF, hF2⟩, h4, h5, h6⟩
  obtain ⟨k1, k2, k3⟩ := h' gl h0
  refine ⟨FL, ⟨gl, F, k1.blk, hF.keep (Grow.of_below k2) (fun k hk => k3 k (hF.2.2.1 k hk) (hF2 k hk).2), hF2, h4, k1.ok, h6, h7⟩, fun k hk => .inl hk, Grow.of_below k2, fun k hk h8 h9 => k3 k hk (fun e => h8 ((h7 k).2 (.inl e)))⟩
theorem ledger_TransferX (h : LdX g N A M FL w) {a : Int} (ha : (Lit.int .i64 a).wf = true) (b n : Int) : Calls Tryz.prog 27 #[.pointer (some ⟨g, 0, none⟩), .int .i64 a, .int .i64 b, .int .i64 n] w fun e w' => e = .returned (.int .i64 (transE A M a b n)) ∧ LdTo g N (transA A M a b n) M FL w w' := by
  obtain ⟨gl, F, h1, hF, hF2, h4, h5, h6, h7⟩ := h
  have h0 : LdAt N g gl A M w := ⟨h1, ⟨F, hF, hF2⟩, h4, h5, h6⟩
  have hN : N ≤ w.heap.size := Nat.le_of_lt (Nat.lt_of_le_of_lt h4 h0.lt)
  refine (ledger_TransferF h0 hN ha b n).mono ?_
  rintro e w' ⟨he, k1, k2, k3⟩
  exact ⟨he, FL, ⟨gl, F, k1.blk, hF.keep (Grow.of_below k2) (fun k hk => k3 k (hF.2.2.1 k hk) (hF2 k hk).2), hF2, h4, k1.ok, h6, h7⟩, fun k hk => .inl hk, Grow.of_below k2, fun k hk h8 h9 => k3 k hk (fun e => h8 ((h7 k).2 (.inl e)))⟩
theorem ledger_FreeX (h : LdX g N A M FL w) (a : Int) : Calls Tryz.prog 25 #[.pointer (some ⟨g, 0, none⟩), .int .i64 a] w fun e w' => e = .returned (.int .i64 (accOf A a).1) ∧ w' = w := by
  obtain ⟨gl, h0⟩ := h.at
  exact ledger_Free h0 a
end
/-- A ledger beside a voting, with all that both lie in. -/
def LvAt (g vb N : Nat) (S : Vs) (A : Acc) (M : Cls Int) (Zn : FP) (w : World) : Prop := ∃ F FL, VoX vb N S F w ∧ LdX g N A M FL w ∧ (∀ k, F k → ¬ FL k) ∧ ∀ k, Zn k ↔ F k ∨ FL k
/-- Both changed. -/
def LvTo (g vb N : Nat) (S : Vs) (A : Acc) (M : Cls Int) (Zn : FP) (w w' : World) : Prop := ∃ Z', LvAt g vb N S A M Z' w' ∧ (∀ k, Z' k → Zn k ∨ w.heap.size ≤ k) ∧ Only Zn (fun _ => False) w w'
theorem only_cons {F Zn : FP} {w W W' : World} (h : Only Zn (fun _ => False) w W) (h2 : ∀ k, F k → Zn k ∨ w.heap.size ≤ k) (k : Only F (fun _ => False) W W') : Only Zn (fun _ => False) w W' :=
  ⟨h.grow.trans k.grow, fun j hj h4 h5 => (k.block j (Nat.lt_of_lt_of_le hj h.grow.size) (fun e => (h2 j e).elim h4 (fun e => by omega)) (fun h => h)).trans (h.block j hj h4 (fun h => h))⟩
section
variable {g vb N : Nat} {S S' : Vs} {A A' : Acc} {M M' : Cls Int} {Zn : FP} {w w' W : World}
theorem LvAt.lt (h : LvAt g vb N S A M Zn w) {k : Nat} (hk : Zn k) : k < w.heap.size := by
  obtain ⟨F, FL, h1, h2, h3, h4⟩ := h
  exact ((h4 k).1 hk).elim h1.lt h2.lt
theorem LvAt.lo (h : LvAt g vb N S A M Zn w) {k : Nat} (hk : Zn k) : N ≤ k := by
  obtain ⟨F, FL, h1, h2, h3, h4⟩ := h
  exact ((h4 k).1 hk).elim h1.lo h2.lo
theorem LvAt.keep (h : LvAt g vb N S A M Zn w) (hg : Grow w w') (hk : ∀ k, Zn k → w'.heap[k]? = w.heap[k]?) : LvAt g vb N S A M Zn w' := by
  obtain ⟨F, FL, h1, h2, h3, h4⟩ := h
  exact ⟨F, FL, h1.keep hg (fun k hf => hk k ((h4 k).2 (.inl hf))), h2.keep hg (fun k hf => hk k ((h4 k).2 (.inr hf))), h3, h4⟩
theorem LvAt.below (h : LvAt g vb N S A M Zn w) (hb : Below w.heap.size w w') : LvAt g vb N S A M Zn w' := h.keep (Grow.of_below hb) (fun k hk => hb.block k (h.lt hk))
theorem LvAt.size (h : LvAt g vb N S A M Zn w) : N ≤ w.heap.size := by obtain ⟨F, FL, h1, h2, h3, h4⟩ := h; exact h1.size
theorem LvTo.of_below (h : LvAt g vb N S A M Zn w) (hb : Below w.heap.size w w') : LvTo g vb N S A M Zn w w' := ⟨Zn, h.below hb, fun k hk => .inl hk, Only.of_later hb⟩
theorem LvTo.refl (h : LvAt g vb N S A M Zn w) : LvTo g vb N S A M Zn w w := LvTo.of_below h (Below.refl _ _)
theorem LvTo.cons {Z1 : FP} {w1 : World} (h2 : ∀ k, Z1 k → Zn k ∨ w.heap.size ≤ k) (h3 : Only Zn (fun _ => False) w w1) (h : LvTo g vb N S A M Z1 w1 w') : LvTo g vb N S A M Zn w w' := by
  obtain ⟨Z2, k1, k2, k3⟩ := h
  have := h3.grow.size
  exact ⟨Z2, k1, fun k hk => (k2 k hk).elim (fun e => h2 k e) (fun e => .inr (by omega)), only_cons h3 h2 k3⟩
theorem LvTo.below (h : LvAt g vb N S A M Zn w) (ht : LvTo g vb N S' A' M' Zn w w') : Below N w w' := by
  obtain ⟨Z2, k1, k2, k3⟩ := ht
  exact k3.below h.size (fun k hk => h.lo hk) (fun k h => h.elim)
/-- What changes the voting alone. -/
theorem LvAt.vo (h : LvAt g vb N S A M Zn w) : ∃ F, VoX vb N S F w ∧ ∀ S' w', VoTo vb N S' F w w' → LvTo g vb N S' A M Zn w w' := by
  obtain ⟨F, FL, h1, h2, h3, h4⟩ := h
  refine ⟨F, h1, fun S' w' ⟨F', k1, k2, k3⟩ => ⟨fun k => F' k ∨ FL k, ⟨F', FL, k1, h2.keep k3.grow (fun k hk => k3.block k (h2.lt hk) (fun e => h3 k e hk) (fun h => h)), fun k hk hl => (k2 k hk).elim (fun e => h3 k e hl) (fun e => by have := h2.lt hl; omega), fun k => Iff.rfl⟩, fun k hk => ?_, k3.grow, fun k hk h5 h6 => k3.block k hk (fun e => h5 ((h4 k).2 (.inl e))) h6⟩⟩
  rcases hk with e | e
  · exact (k2 k e).imp (fun e => (h4 k).2 (.inl e)) id
  · exact .inl ((h4 k).2 (.inr e))
/-- What changes the ledger alone. -/
theorem LvAt.ld (h : LvAt g vb N S A M Zn w) : ∃ FL, LdX g N A M FL w ∧ ∀ A' M' w', LdTo g N A' M' FL w w' → LvTo g vb N S A' M' Zn w w' := by
  obtain ⟨F, FL, h1, h2, h3, h4⟩ := h
  refine ⟨FL, h2, fun A' M' w' ⟨F', k1, k2, k3⟩ => ⟨fun k => F k ∨ F' k, ⟨F, F', h1.keep k3.grow (fun k hk => k3.block k (h1.lt hk) (fun e => h3 k hk e) (fun h => h)), k1, fun k hk hl => (k2 k hl).elim (fun e => h3 k hk e) (fun e => by have := h1.lt hk; omega), fun k => Iff.rfl⟩, fun k hk => ?_, k3.grow, fun k hk h5 h6 => k3.block k hk (fun e => h5 ((h4 k).2 (.inr e))) h6⟩⟩
  rcases hk with e | e
  · exact .inl ((h4 k).2 (.inl e))
  · exact (k2 k e).imp (fun e => (h4 k).2 (.inr e)) id
end
end Go.Proofs.YtpkamfbjgdmmoaaGreat
end
