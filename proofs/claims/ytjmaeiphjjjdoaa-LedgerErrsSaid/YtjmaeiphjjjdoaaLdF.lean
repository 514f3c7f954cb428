/-
  Ledgers: what spend, Burn and Mint leave as it was: every block but the ledger's own.
-/
import Derived.Test.YtjmaeiphjjjdoaaLd7
namespace Go.Proofs.Ytjmaeiphjjjdoaa
open Go.RowKit Go.Maps Go.Shelf
set_option linter.unusedVariables false
set_option linter.unusedSimpArgs false

/-- Every block but g is as it was. -/
def Off (g : Nat) (w w' : World) : Prop := ∀ k, k < w.heap.size → k ≠ g → w'.heap[k]? = w.heap[k]?
theorem Off.refl (g : Nat) (w : World) : Off g w w := fun _ _ _ => rfl
theorem Off.trans {g : Nat} {a b c : World} (h : Off g a b) (hs : a.heap.size ≤ b.heap.size) (k : Off g b c) : Off g a c := fun j hj hn => (k j (by omega) hn).trans (h j hj hn)
theorem Off.set {g i : Nat} {w : World} {v : Value} : Off g w (w.setCell ⟨g, i, none⟩ v) := fun j _ hn => Below.heap_setCell _ _ _ j hn
set_option maxRecDepth 100000 in
set_option maxHeartbeats 4000000 in
theorem ledger_spendF {N g gl : Nat} {A : Acc} {M : Cls Int} {w : World} (h : LdAt N g gl A M w) (hN : N ≤ w.heap.size) {a n : Int} (ha : (Lit.int .i64 a).wf = true) (back : Bool) :
    Calls Try.prog 47 #[.pointer (some ⟨g, 0, none⟩), .int .i64 a, .int .i64 n, .bool back] w fun e w' => e = .returned (.int .i64 (spendE A M a n back)) ∧ LdAt N g gl (spent A M a n back) M w' ∧ Below N w w' ∧ Off g w w' := by
  by_cases hac : isAcc a
  · obtain ⟨k, rfl, hk⟩ := isAcc_nat hac
    have HK := Lib.hid hk
    by_cases hbal : isBal n
    · have hbal' := hbal
      unfold isBal at hbal'
      have hd : decide (0 ≤ n ∧ n ≤ 1073741824) = true := decide_eq_true hbal'
      have HD := Lib.hid hd
      have hfree := h.free hk
      have hfroz := h.frozen (k * 2)
      obtain ⟨f, hf⟩ : ∃ f, f = (A k).1 := ⟨_, rfl⟩
      rw [← hf] at hfree
      have hf0 : 0 ≤ f := by rw [hf]; exact h.ok.free k
      have hf1 : f ≤ 1073741824 := by have := h.ok.one hk; have := h.ok.held k; unfold both at *; omega
      have HB := Lib.hid hbal'
      have HH := Lib.hid (And.intro h (And.intro hN (And.intro ha hac)))
      by_cases hlo : f < n
      · have e : spendE A M k n back = 6 := by unfold spendE; rw [if_neg (by simp [hac, hbal]), if_pos (by rw [Int.toNat_natCast, ← hf]; exact hlo)]
        have e2 : spent A M k n back = A := by unfold spent; rw [e]; rfl
        rw [e, e2]
        clear hk hac hbal hbal' hd h hN ha hf e e2
        go_enter Try.func47, Try.ntmps47
        go_wp2_with (first
          | (go_at_call 46; refine (ledger_account HK.out w).mono ?_; rintro e w' ⟨rfl, rfl⟩)
          | (go_at_call 33; refine (bound_Balance _ _).mono ?_; rw [HD.out]; rintro e w' ⟨rfl, rfl⟩)
          | fail)
        exact bodyPost_ret (v := .int .i64 6) (by simp [results, Try.results47, go_sem]) rfl ⟨rfl, HH.out.1, Below.refl _ _, Off.refl _ _⟩
      · have hn1 : IntKind.i64.wrap (f - n) = f - n := IntWalk.i64_in _ (by omega)
        have hpay : ∀ w', LdAt N g gl A M w' → LdAt N g gl (spendA A k n) M (w'.setCell ⟨g, k * 2, none⟩ (.int .i64 (f - n))) ∧ Below N w' (w'.setCell ⟨g, k * 2, none⟩ (.int .i64 (f - n))) ∧ Off g w' (w'.setCell ⟨g, k * 2, none⟩ (.int .i64 (f - n))) := fun w' h' => by
          have := h'.setFree hk (f - n) (by have := spendA_ok h.ok hac hbal (by rw [Int.toNat_natCast, ← hf]; omega); rw [spendA, Int.toNat_natCast, ← hf] at this; exact this)
          rw [spendA, Int.toNat_natCast, ← hf]; exact ⟨this.1, this.2, Off.set⟩
        have HP := Lib.hid hpay
        have hno : ¬ f < n := hlo
        have hspend : ∀ c : Bool, (0 < n ∧ back = false ∧ f - n < lockedOf M k ↔ c = true) → spendE A M k n back = if c then 7 else 0 := fun c hc => by
          unfold spendE
          rw [if_neg (by simp [hac, hbal]), Int.toNat_natCast, ← hf, if_neg hlo]
          cases c
          · rw [if_neg (by rw [hc]; simp)]; rfl
          · rw [if_pos (hc.2 rfl)]; rfl
        by_cases hn0 : 0 < n ∧ back = false
        · obtain ⟨hn0, rfl⟩ := hn0
          obtain ⟨lk, hlk⟩ : ∃ lk, lk = lockedOf M k := ⟨_, rfl⟩
          have hlck : ∀ w', LdAt N g gl A M w' → Calls Try.prog 31 #[.pointer (some ⟨g, 0, none⟩), .int .i64 k] w' fun e w'' => e = .returned (.int .i64 lk) ∧ Below w'.heap.size w' w'' := fun w' h' => by rw [hlk]; exact ledger_Locked h' ha
          have hld : LdAt N g gl A M w.drew := h.drewd
          have hfd : w.drew.cell? ⟨g, k * 2, none⟩ = some (.int .i64 f) := hfree
          have hwd : ∀ w2, Below w.drew.heap.size w.drew w2 → w2.cell? ⟨g, k * 2, none⟩ = some (.int .i64 f) ∧ (LdAt N g gl A M w2 ∧ Below N w w2 ∧ Off g w w2) := fun w2 hb => by
            have h2 : LdAt N g gl A M w2 := h.below ⟨hb.os, hb.tape, hb.output, hb.size, hb.block⟩
            refine ⟨by rw [hf]; exact h2.free hk, h2, ⟨hb.os, hb.tape, hb.output, hb.size, fun j hj => hb.block j (show j < w.heap.size by omega)⟩, fun j hj _ => hb.block j hj⟩
          have HFD := Lib.hid hfd
          have HW := Lib.hid hwd
          have HL := Lib.hid (hlck w.drew hld)
          clear hlck hld hfd hwd
          rw [← hlk] at hspend
          by_cases hc : f - n < lk
          · have e := hspend true (by simp [hn0, hc])
            have e2 : spent A M k n false = A := by unfold spent; rw [e]; rfl
            rw [e, e2]
            clear hk hac hbal hbal' hd h hN ha hf e e2 hlo hpay hspend hlk
            go_enter Try.func47, Try.ntmps47
            go_upto_region 6 with (first
              | (go_at_call 46; refine (ledger_account HK.out w).mono ?_; rintro e w' ⟨rfl, hw⟩; rw [hw]; clear hw w')
              | (go_at_call 33; refine (bound_Balance _ _).mono ?_; rw [HD.out]; rintro e w' ⟨rfl, hw⟩; rw [hw]; clear hw w')
              | fail)
            go_region_held3 (fun wc => wc.cell? ⟨g, k * 2, none⟩ = some (.int .i64 f)) (first | exact hfree | exact HFD.out | exact H2.out.1) (first
              | (go_at_call 31; with_reducible refine HL.out.mono ?_; rintro e w2 ⟨rfl, hb⟩; have H2 := Lib.hid (And.intro (HW.out w2 hb).1 (HW.out w2 hb).2); clear hb)
              | fail)
            all_goals
              go_wp2_with fail
              exact bodyPost_ret (v := .int .i64 7) (by simp [results, Try.results47, go_sem]) rfl ⟨rfl, H2.out.2.1, H2.out.2.2⟩
          · have e := hspend false (by simp [hc])
            have e2 : spent A M k n false = spendA A k n := by unfold spent; rw [e]; rfl
            rw [e, e2]
            clear hk hac hbal hbal' hd h hN ha hf e e2 hlo hpay hspend hlk
            go_enter Try.func47, Try.ntmps47
            go_upto_region 6 with (first
              | (go_at_call 46; refine (ledger_account HK.out w).mono ?_; rintro e w' ⟨rfl, hw⟩; rw [hw]; clear hw w')
              | (go_at_call 33; refine (bound_Balance _ _).mono ?_; rw [HD.out]; rintro e w' ⟨rfl, hw⟩; rw [hw]; clear hw w')
              | fail)
            go_region_held3 (fun wc => wc.cell? ⟨g, k * 2, none⟩ = some (.int .i64 f)) (first | exact hfree | exact HFD.out | exact H2.out.1) (first
              | (go_at_call 31; with_reducible refine HL.out.mono ?_; rintro e w2 ⟨rfl, hb⟩; have H2 := Lib.hid (And.intro (HW.out w2 hb).1 (HW.out w2 hb).2); clear hb)
              | fail)
            all_goals
              have hfree2 := H2.out.1
              have hfroz2 := H2.out.2.1.frozen (k * 2)
              go_wp2_with fail
              exact bodyPost_ret (v := .int .i64 0) (by simp [results, Try.results47, go_sem]) rfl ⟨rfl, (HP.out _ H2.out.2.1).1, H2.out.2.2.1.trans (HP.out _ H2.out.2.1).2.1, H2.out.2.2.2.trans H2.out.2.2.1.size (HP.out _ H2.out.2.1).2.2⟩
        · have hex : ¬ 0 < n ∨ (0 < n ∧ back = true) := by
            rcases Bool.eq_false_or_eq_true back with h | h
            · by_cases h0 : 0 < n
              · exact .inr ⟨h0, h⟩
              · exact .inl h0
            · exact .inl (fun h0 => hn0 ⟨h0, h⟩)
          have e := hspend false (by constructor; exact fun h => absurd ⟨h.1, h.2.1⟩ hn0; simp)
          have e2 : spent A M k n back = spendA A k n := by unfold spent; rw [e]; rfl
          rw [e, e2]
          clear hn0
          rcases hex with hn0 | ⟨hn0, rfl⟩
          · obtain rfl : n = 0 := by omega
            have hpay2 := hpay
            simp only [Int.sub_zero] at hpay2 hn1
            have HP := Lib.hid hpay2
            clear hpay2 hn0
            clear hk hac hbal hbal' hd h hN ha hf e e2 hlo hpay hspend hno HB HD
            go_enter Try.func47, Try.ntmps47
            go_upto_region 6 with (first
              | (go_at_call 46; refine (ledger_account HK.out w).mono ?_; rintro e w' ⟨rfl, hw⟩; rw [hw]; clear hw w')
              | (go_at_call 33; refine (bound_Balance _ _).mono ?_; rw [show decide ((0:Int) ≤ 0 ∧ (0:Int) ≤ 1073741824) = true from rfl]; rintro e w' ⟨rfl, hw⟩; rw [hw]; clear hw w')
              | fail)
            go_quiet (fail)
            go_wp2_with fail
            exact bodyPost_ret (v := .int .i64 0) (by simp [results, Try.results47, go_sem]) rfl ⟨rfl, (HP.out (w.drewN nq) (HH.out.1.below ⟨rfl, rfl, rfl, Nat.le_refl _, fun _ _ => rfl⟩)).1, Below.trans (b := w.drewN nq) ⟨rfl, rfl, rfl, Nat.le_refl _, fun _ _ => rfl⟩ (HP.out (w.drewN nq) (HH.out.1.below ⟨rfl, rfl, rfl, Nat.le_refl _, fun _ _ => rfl⟩)).2.1, (HP.out (w.drewN nq) (HH.out.1.below ⟨rfl, rfl, rfl, Nat.le_refl _, fun _ _ => rfl⟩)).2.2⟩
          · clear hk hac hbal hbal' hd h hN ha hf e e2 hlo hpay hspend
            go_enter Try.func47, Try.ntmps47
            go_upto_region 6 with (first
              | (go_at_call 46; refine (ledger_account HK.out w).mono ?_; rintro e w' ⟨rfl, hw⟩; rw [hw]; clear hw w')
              | (go_at_call 33; refine (bound_Balance _ _).mono ?_; rw [HD.out]; rintro e w' ⟨rfl, hw⟩; rw [hw]; clear hw w')
              | fail)
            go_quiet (fail)
            go_wp2_with fail
            exact bodyPost_ret (v := .int .i64 0) (by simp [results, Try.results47, go_sem]) rfl ⟨rfl, (HP.out (w.drewN nq) (HH.out.1.below ⟨rfl, rfl, rfl, Nat.le_refl _, fun _ _ => rfl⟩)).1, Below.trans (b := w.drewN nq) ⟨rfl, rfl, rfl, Nat.le_refl _, fun _ _ => rfl⟩ (HP.out (w.drewN nq) (HH.out.1.below ⟨rfl, rfl, rfl, Nat.le_refl _, fun _ _ => rfl⟩)).2.1, (HP.out (w.drewN nq) (HH.out.1.below ⟨rfl, rfl, rfl, Nat.le_refl _, fun _ _ => rfl⟩)).2.2⟩
    · have e : spendE A M k n back = 1 := by unfold spendE; rw [if_pos (.inr hbal)]
      have e2 : spent A M k n back = A := by unfold spent; rw [e]; rfl
      have hd : decide (0 ≤ n ∧ n ≤ 1073741824) = false := by unfold isBal at hbal; exact decide_eq_false hbal
      have HD := Lib.hid hd
      have HH := Lib.hid h
      rw [e, e2]
      clear hk hac hbal hd h hN ha e e2
      go_enter Try.func47, Try.ntmps47
      go_wp2_with (first
        | (go_at_call 46; refine (ledger_account HK.out w).mono ?_; rintro e w' ⟨rfl, hw⟩; rw [hw]; clear hw w')
        | (go_at_call 33; refine (bound_Balance _ _).mono ?_; rw [HD.out]; rintro e w' ⟨rfl, hw⟩; rw [hw]; clear hw w')
        | fail)
      exact bodyPost_ret (v := .int .i64 1) (by simp [results, Try.results47, go_sem]) rfl ⟨rfl, HH.out, Below.refl _ _, Off.refl _ _⟩
  · have e : spendE A M a n back = 1 := by unfold spendE; rw [if_pos (.inl hac)]
    have e2 : spent A M a n back = A := by unfold spent; rw [e]; rfl
    have HD := Lib.hid hac
    have HH := Lib.hid h
    rw [e, e2]
    clear hac h hN ha e e2
    go_enter Try.func47, Try.ntmps47
    go_wp2_with (first
      | (go_at_call 46; refine (ledger_account_no HD.out w).mono ?_; rintro e w' ⟨rfl, hw⟩; rw [hw]; clear hw w')
      | fail)
    exact bodyPost_ret (v := .int .i64 1) (by simp [results, Try.results47, go_sem]) rfl ⟨rfl, HH.out, Below.refl _ _, Off.refl _ _⟩
section
variable {N g gl : Nat} {A : Acc} {M : Cls Int} {w : World}
set_option maxRecDepth 100000 in
set_option maxHeartbeats 1000000 in
theorem ledger_MintF (h : LdAt N g gl A M w) (hN : N ≤ w.heap.size) (a n : Int) : Calls Try.prog 27 #[.pointer (some ⟨g, 0, none⟩), .int .i64 a, .int .i64 n] w fun e w' => e = .returned (.int .i64 (mintE A a n)) ∧ LdAt N g gl (mintA A a n) M w' ∧ Below N w w' ∧ Off g w w' := by
  have hok := h.ok
  by_cases hac : isAcc a
  · obtain ⟨k, rfl, hk⟩ := isAcc_nat hac
    have HK := Lib.hid hk
    by_cases hbal : isBal n
    · have hbal' := hbal
      unfold isBal at hbal'
      have hd : decide (0 ≤ n ∧ n ≤ 1073741824) = true := decide_eq_true hbal'
      obtain ⟨s, hs⟩ : ∃ s, s = sumTo A 10 := ⟨_, rfl⟩
      have hs0 : 0 ≤ s ∧ s ≤ 1073741824 := by rw [hs]; exact hok.part (Nat.le_refl _)
      have hn1 : IntKind.i64.wrap (s + n) = s + n := IntWalk.i64_in _ (by omega)
      obtain ⟨sn, hsn⟩ : ∃ sn, sn = s + n := ⟨_, rfl⟩
      rw [← hsn] at hn1
      have hiss := ledger_Issued h
      rw [← hs] at hiss
      by_cases hov : 1073741824 < sn
      · have e : mintE A k n = 10 := by unfold mintE; rw [if_neg (by simp [hac, hbal]), if_pos (by omega)]
        have e2 : mintA A k n = A := by unfold mintA; rw [e]; rfl
        have hd2 : decide (0 ≤ sn ∧ sn ≤ 1073741824) = false := decide_eq_false (by omega)
        rw [e, e2]
        have HI := Lib.hid hiss
        have HD := Lib.hid (And.intro hd hd2)
        have HH := Lib.hid (And.intro h hN)
        have hn2 : IntKind.i64.wrap (s + n) = sn := by rw [← hsn]; exact hn1
        clear hok hac hbal hbal' hd hs hs0 hn1 hiss hov e e2 hd2 h hN hk hsn
        go_enter Try.func27, Try.ntmps27
        have tok : True := trivial
        go_wp2_with (first
          | (go_at_call 46; refine (ledger_account HK.out _).mono ?_; rintro e w' ⟨rfl, hw⟩; rw [hw]; clear hw w')
          | (go_at_call 33; have _t := tok; refine (bound_Balance n _).mono ?_; rw [HD.out.1]; rintro e w' ⟨rfl, hw⟩; rw [hw]; clear hw w' tok)
          | (go_at_call 21; refine HI.out.mono ?_; rintro e w1 ⟨rfl, hb⟩; have H1 := Lib.hid hb; clear hb)
          | (go_at_call 33; refine (bound_Balance sn _).mono ?_; rw [HD.out.2]; rintro e w' ⟨rfl, hw⟩; rw [hw]; clear hw w')
          | fail)
        go_ret
        exact ⟨rfl, HH.out.1.below H1.out, H1.out.mono HH.out.2, fun j hj _ => H1.out.block j hj⟩
      · have e : mintE A k n = 0 := by unfold mintE; rw [if_neg (by simp [hac, hbal]), if_neg (by omega)]
        have e2 : mintA A k n = giveA A k n := by unfold mintA; rw [e]; rfl
        have hd2 : decide (0 ≤ sn ∧ sn ≤ 1073741824) = true := decide_eq_true (by omega)
        have ok2 : AccOk (giveA A k n) := giveA_ok hok hk hbal'.1 (by omega)
        obtain ⟨v, hv⟩ : ∃ v, v = (A k).1 := ⟨_, rfl⟩
        have hv0 : 0 ≤ v ∧ v ≤ 1073741824 := by have := hok.one hk; have := hok.held k; have := hok.free k; unfold both at *; omega
        have hn3 : IntKind.i64.wrap (v + n) = v + n := IntWalk.i64_in _ (by omega)
        have hpay : ∀ w1, LdAt N g gl A M w1 → w1.cell? ⟨g, k * 2, none⟩ = some (.int .i64 v) ∧ LdAt N g gl (giveA A k n) M (w1.setCell ⟨g, k * 2, none⟩ (.int .i64 (v + n))) ∧ Below N w1 (w1.setCell ⟨g, k * 2, none⟩ (.int .i64 (v + n))) := fun w1 h1 => ⟨by rw [hv]; exact h1.free hk, by rw [hv]; exact h1.setFree hk _ ok2⟩
        rw [e, e2]
        have HI := Lib.hid hiss
        have HP := Lib.hid hpay
        have HD := Lib.hid (And.intro hd hd2)
        have HH := Lib.hid (And.intro h hN)
        have hn2 : IntKind.i64.wrap (s + n) = sn := by rw [← hsn]; exact hn1
        clear hok hac hbal hbal' hd hs hs0 hn1 hiss hov e e2 hd2 h hN hk hsn ok2 hv hpay hv0
        go_enter Try.func27, Try.ntmps27
        have tok : True := trivial
        go_wp2_with (first
          | (go_at_call 46; refine (ledger_account HK.out _).mono ?_; rintro e w' ⟨rfl, hw⟩; rw [hw]; clear hw w')
          | (go_at_call 33; have _t := tok; refine (bound_Balance n _).mono ?_; rw [HD.out.1]; rintro e w' ⟨rfl, hw⟩; rw [hw]; clear hw w' tok)
          | (go_at_call 21; refine HI.out.mono ?_; rintro e w1 ⟨rfl, hb⟩; have h1 := HH.out.1.below hb; have hc1 := (HP.out w1 h1).1; have hf1 := h1.frozen (k * 2); have H1 := Lib.hid (And.intro h1 (And.intro (hb.mono HH.out.2) hb)); clear hb h1)
          | (go_at_call 33; refine (bound_Balance sn _).mono ?_; rw [HD.out.2]; rintro e w' ⟨rfl, hw⟩; rw [hw]; clear hw w')
          | fail)
        go_ret
        exact ⟨rfl, (HP.out _ H1.out.1).2.1, H1.out.2.1.trans (HP.out _ H1.out.1).2.2, Off.trans (fun j hj _ => H1.out.2.2.block j hj) H1.out.2.2.size Off.set⟩
    · have e : mintE A k n = 1 := by unfold mintE; rw [if_pos (.inr hbal)]
      have e2 : mintA A k n = A := by unfold mintA; rw [e]; rfl
      have hd : decide (0 ≤ n ∧ n ≤ 1073741824) = false := by unfold isBal at hbal; exact decide_eq_false hbal
      rw [e, e2]
      have HD := Lib.hid hd
      have HH := Lib.hid h
      clear hok hac hbal hd e e2 h hN hk
      go_enter Try.func27, Try.ntmps27
      go_wp2_with (first
        | (go_at_call 46; refine (ledger_account HK.out _).mono ?_; rintro e w' ⟨rfl, hw⟩; rw [hw]; clear hw w')
        | (go_at_call 33; refine (bound_Balance n _).mono ?_; rw [HD.out]; rintro e w' ⟨rfl, hw⟩; rw [hw]; clear hw w')
        | fail)
      exact bodyPost_ret (v := .int .i64 1) (by simp [results, Try.results27, go_sem]) rfl ⟨rfl, HH.out, Below.refl _ _, Off.refl _ _⟩
  · have e : mintE A a n = 1 := by unfold mintE; rw [if_pos (.inl hac)]
    have e2 : mintA A a n = A := by unfold mintA; rw [e]; rfl
    rw [e, e2]
    have HH := Lib.hid (And.intro h hac)
    clear hok hac e e2 h hN
    go_enter Try.func27, Try.ntmps27
    go_wp2_with (first
      | (go_at_call 46; refine (ledger_account_no HH.out.2 _).mono ?_; rintro e w' ⟨rfl, hw⟩; rw [hw]; clear hw w')
      | fail)
    exact bodyPost_ret (v := .int .i64 1) (by simp [results, Try.results27, go_sem]) rfl ⟨rfl, HH.out.1, Below.refl _ _, Off.refl _ _⟩
set_option maxRecDepth 100000 in
theorem ledger_BurnF (h : LdAt N g gl A M w) (hN : N ≤ w.heap.size) {a : Int} (ha : (Lit.int .i64 a).wf = true) (n : Int) : Calls Try.prog 28 #[.pointer (some ⟨g, 0, none⟩), .int .i64 a, .int .i64 n] w fun e w' => e = .returned (.int .i64 (spendE A M a n false)) ∧ LdAt N g gl (spent A M a n false) M w' ∧ Below N w w' ∧ Off g w w' := by
  have HH := Lib.hid (And.intro h (And.intro hN ha))
  clear h hN ha
  go_enter Try.func28, Try.ntmps28
  go_wp2_with (first | (go_at_call 47; refine (ledger_spendF HH.out.1 HH.out.2.1 HH.out.2.2 false).mono ?_; rintro e w1 ⟨rfl, h1⟩; have H1 := Lib.hid h1; clear h1) | fail)
  go_ret
  exact ⟨rfl, H1.out⟩
end
end Go.Proofs.Ytjmaeiphjjjdoaa
