/-
  Joined texts.
-/
import Derived.Test.YtbpemdihoabbcaaGreatChecked
import Derived.WalkKit
import Derived.WalkSpells
import Derived.WalkLawsBesides
import Derived.Lib.Hide
import Derived.Below
import Derived.Deep.QuietTactic
import Derived.BigQuiet
import Derived.Deep.RegionHeld3
import Derived.IntWalk
import Derived.OrdersHeld
import Derived.Deep.RegionHeld
import Derived.Test.YtbpemdihoabbcaaGreatMhf
namespace Go.Proofs.YtbpemdihoabbcaaGreat
set_option linter.unusedVariables false
set_option linter.unusedSimpArgs false
section
open Go.RowKit Go.Maps Go.Shelf
def Off (g : Nat) (w w' : World) : Prop := ∀ k, k < w.heap.size → k ≠ g → w'.heap[k]? = w.heap[k]?
theorem Off.refl (g : Nat) (w : World) : Off g w w := fun _ _ _ => rfl
theorem Off.trans {g : Nat} {a b c : World} (h : Off g a b) (hs : a.heap.size ≤ b.heap.size) (k : Off g b c) : Off g a c := fun j hj hn => (k j (by omega) hn).trans (h j hj hn)
theorem Off.set {g i : Nat} {w : World} {v : Value} : Off g w (w.setCell ⟨g, i, none⟩ v) := fun j _ hn => Below.heap_setCell _ _ _ j hn
set_option maxRecDepth 100000 in
set_option maxHeartbeats 4000000 in
theorem ledger_spendF {N g gl : Nat} {A : Acc} {M : Cls Int} {w : World} (h : LdAt N g gl A M w) (hN : N ≤ w.heap.size) {a n : Int} (ha : (Lit.int .i64 a).wf = true) (back : Bool) :
 Calls Tryz.prog 99 #[.pointer (some ⟨g, 0, none⟩), .int .i64 a, .int .i64 n, .bool back] w fun e w' => e = .returned (.int .i64 (spendE A M a n back)) ∧ LdAt N g gl (spent A M a n back) M w' ∧ Below N w w' ∧ Off g w w' := by
 by_cases hac : isAcc a
 · obtain ⟨k, rfl, hk⟩ := isAcc_nat hac
   have HK := Lib.hid hk
   by_cases hbal : isBal n
   · have hbal' := hbal
     unfold isBal at hbal'
     have hd : decide (0 ≤ n ∧ n ≤ 1073741824) = true := decide_eq_true hbal'
     have HD := Lib.hid hd
     have hfree := h.free hk
     have hfroz := h.frozen (k * 2)
     obtain ⟨f, hf⟩ : ∃ f, f = (A k).1 := ⟨_, rfl⟩
     rw [← hf] at hfree
     have hf0 : 0 ≤ f := by rw [hf]; exact h.ok.free k
     have hf1 : f ≤ 1073741824 := by have := h.ok.one hk; have := h.ok.held k; unfold both at *; omega
     have HB := Lib.hid hbal'
     have HH := Lib.hid (And.intro h (And.intro hN (And.intro ha hac)))
     by_cases hlo : f < n
     · have e : spendE A M k n back = 6 := by unfold spendE; rw [if_neg (by simp [hac, hbal]), if_pos (by rw [Int.toNat_natCast, ← hf]; exact hlo)]
       have e2 : spent A M k n back = A := by unfold spent; rw [e]; rfl
       rw [e, e2]
       clear hk hac hbal hbal' hd h hN ha hf e e2
       go_enter Tryz.func99, Tryz.ntmps99
       go_wp2_with (first
        | (go_at_call 52; refine (ledger_account HK.out w).mono ?_; rintro e w' ⟨rfl, rfl⟩)
        | (go_at_call 72; refine (bound_Balance _ _).mono ?_; rw [HD.out]; rintro e w' ⟨rfl, rfl⟩)
        | fail)
       exact bodyPost_ret (v := .int .i64 6) (by simp [results, Tryz.results99, go_sem]) rfl ⟨rfl, HH.out.1, Below.refl _ _, Off.refl _ _⟩
     · have hn1 : IntKind.i64.wrap (f - n) = f - n := IntWalk.i64_in _ (by omega)
       have hpay : ∀ w', LdAt N g gl A M w' → LdAt N g gl (spendA A k n) M (w'.setCell ⟨g, k * 2, none⟩ (.int .i64 (f - n))) ∧ Below N w' (w'.setCell ⟨g, k * 2, none⟩ (.int .i64 (f - n))) ∧ Off g w' (w'.setCell ⟨g, k * 2, none⟩ (.int .i64 (f - n))) := fun w' h' => by
        have := h'.setFree hk (f - n) (by have := spendA_ok h.ok hac hbal (by rw [Int.toNat_natCast, ← hf]; omega); rw [spendA, Int.toNat_natCast, ← hf] at this; exact this)
        rw [spendA, Int.toNat_natCast, ← hf]; exact ⟨this.1, this.2, Off.set⟩
       have HP := Lib.hid hpay
       have hno : ¬ f < n := hlo
       have hspend : ∀ c : Bool, (0 < n ∧ back = false ∧ f - n < lockedOf M k ↔ c = true) → spendE A M k n back = if c then 7 else 0 := fun c hc => by
        unfold spendE
        rw [if_neg (by simp [hac, hbal]), Int.toNat_natCast, ← hf, if_neg hlo]
        cases c
        · rw [if_neg (by rw [hc]; simp)]; rfl
        · rw [if_pos (hc.2 rfl)]; rfl
       by_cases hn0 : 0 < n ∧ back = false
       · obtain ⟨hn0, rfl⟩ := hn0
         obtain ⟨lk, hlk⟩ : ∃ lk, lk = lockedOf M k := ⟨_, rfl⟩
         have hlck : ∀ w', LdAt N g gl A M w' → Calls Tryz.prog 18 #[.pointer (some ⟨g, 0, none⟩), .int .i64 k] w' fun e w'' => e = .returned (.int .i64 lk) ∧ Below w'.heap.size w' w'' := fun w' h' => by rw [hlk]; exact ledger_Locked h' ha
         have hld : LdAt N g gl A M w.drew := h.drewd
         have hfd : w.drew.cell? ⟨g, k * 2, none⟩ = some (.int .i64 f) := hfree
         have hwd : ∀ w2, Below w.drew.heap.size w.drew w2 → w2.cell? ⟨g, k * 2, none⟩ = some (.int .i64 f) ∧ (LdAt N g gl A M w2 ∧ Below N w w2 ∧ Off g w w2) := fun w2 hb => by
          have h2 : LdAt N g gl A M w2 := h.below ⟨hb.os, hb.tape, hb.output, hb.size, hb.block⟩
          refine ⟨by rw [hf]; exact h2.free hk, h2, ⟨hb.os, hb.tape, hb.output, hb.size, fun j hj => hb.block j (show j < w.heap.size by omega)⟩, fun j hj _ => hb.block j hj⟩
         have HFD := Lib.hid hfd
         have HW := Lib.hid hwd
         have HL := Lib.hid (hlck w.drew hld)
         clear hlck hld hfd hwd
         rw [← hlk] at hspend
         by_cases hc : f - n < lk
         · have e := hspend true (by simp [hn0, hc])
           have e2 : spent A M k n false = A := by unfold spent; rw [e]; rfl
           rw [e, e2]
           clear hk hac hbal hbal' hd h hN ha hf e e2 hlo hpay hspend hlk
           go_enter Tryz.func99, Tryz.ntmps99
           go_upto_region 6 with (first
            | (go_at_call 52; refine (ledger_account HK.out w).mono ?_; rintro e w' ⟨rfl, hw⟩; rw [hw]; clear hw w')
            | (go_at_call 72; refine (bound_Balance _ _).mono ?_; rw [HD.out]; rintro e w' ⟨rfl, hw⟩; rw [hw]; clear hw w')
            | fail)
           go_region_held3 (fun wc => wc.cell? ⟨g, k * 2, none⟩ = some (.int .i64 f)) (first | exact hfree | exact HFD.out | exact H2.out.1) (first
            | (go_at_call 18; with_reducible refine HL.out.mono ?_; rintro e w2 ⟨rfl, hb⟩; have H2 := Lib.hid (And.intro (HW.out w2 hb).1 (HW.out w2 hb).2); clear hb)
            | fail)
           all_goals
            go_wp2_with fail
            exact bodyPost_ret (v := .int .i64 7) (by simp [results, Tryz.results99, go_sem]) rfl ⟨rfl, H2.out.2.1, H2.out.2.2⟩
         · have e := hspend false (by simp [hc])
           have e2 : spent A M k n false = spendA A k n := by unfold spent; rw [e]; rfl
           rw [e, e2]
           clear hk hac hbal hbal' hd h hN ha hf e e2 hlo hpay hspend hlk
           go_enter Tryz.func99, Tryz.ntmps99
           go_upto_region 6 with (first
            | (go_at_call 52; refine (ledger_account HK.out w).mono ?_; rintro e w' ⟨rfl, hw⟩; rw [hw]; clear hw w')
            | (go_at_call 72; refine (bound_Balance _ _).mono ?_; rw [HD.out]; rintro e w' ⟨rfl, hw⟩; rw [hw]; clear hw w')
            | fail)
           go_region_held3 (fun wc => wc.cell? ⟨g, k * 2, none⟩ = some (.int .i64 f)) (first | exact hfree | exact HFD.out | exact H2.out.1) (first
            | (go_at_call 18; with_reducible refine HL.out.mono ?_; rintro e w2 ⟨rfl, hb⟩; have H2 := Lib.hid (And.intro (HW.out w2 hb).1 (HW.out w2 hb).2); clear hb)
            | fail)
           all_goals
            have hfree2 := H2.out.1
            have hfroz2 := H2.out.2.1.frozen (k * 2)
            go_wp2_with fail
            exact bodyPost_ret (v := .int .i64 0) (by simp [results, Tryz.results99, go_sem]) rfl ⟨rfl, (HP.out _ H2.out.2.1).1, H2.out.2.2.1.trans (HP.out _ H2.out.2.1).2.1, H2.out.2.2.2.trans H2.out.2.2.1.size (HP.out _ H2.out.2.1).2.2⟩
       · have hex : ¬ 0 < n ∨ (0 < n ∧ back = true) := by
          rcases Bool.eq_false_or_eq_true back with h | h
          · by_cases h0 : 0 < n
            · exact .inr ⟨h0, h⟩
            · exact .inl h0
          · exact .inl (fun h0 => hn0 ⟨h0, h⟩)
         have e := hspend false (by constructor; exact fun h => absurd ⟨h.1, h.2.1⟩ hn0; simp)
         have e2 : spent A M k n back = spendA A k n := by unfold spent; rw [e]; rfl
         rw [e, e2]
         clear hn0
         rcases hex with hn0 | ⟨hn0, rfl⟩
         · obtain rfl : n = 0 := by omega
           have hpay2 := hpay
           simp only [Int.sub_zero] at hpay2 hn1
           have HP := Lib.hid hpay2
           clear hpay2 hn0
           clear hk hac hbal hbal' hd h hN ha hf e e2 hlo hpay hspend hno HB HD
           go_enter Tryz.func99, Tryz.ntmps99
           go_upto_region 6 with (first
            | (go_at_call 52; refine (ledger_account HK.out w).mono ?_; rintro e w' ⟨rfl, hw⟩; rw [hw]; clear hw w')
            | (go_at_call 72; refine (bound_Balance _ _).mono ?_; rw [show decide ((0:Int) ≤ 0 ∧ (0:Int) ≤ 1073741824) = true from rfl]; rintro e w' ⟨rfl, hw⟩; rw [hw]; clear hw w')
            | fail)
           go_quiet (fail)
           go_wp2_with fail
           exact bodyPost_ret (v := .int .i64 0) (by simp [results, Tryz.results99, go_sem]) rfl ⟨rfl, (HP.out (w.drewN nq) (HH.out.1.below ⟨rfl, rfl, rfl, Nat.le_refl _, fun _ _ => rfl⟩)).1, Below.trans (b := w.drewN nq) ⟨rfl, rfl, rfl, Nat.le_refl _, fun _ _ => rfl⟩ (HP.out (w.drewN nq) (HH.out.1.below ⟨rfl, rfl, rfl, Nat.le_refl _, fun _ _ => rfl⟩)).2.1, (HP.out (w.drewN nq) (HH.out.1.below ⟨rfl, rfl, rfl, Nat.le_refl _, fun _ _ => rfl⟩)).2.2⟩
         · clear hk hac hbal hbal' hd h hN ha hf e e2 hlo hpay hspend
           go_enter Tryz.func99, Tryz.ntmps99
           go_upto_region 6 with (first
            | (go_at_call 52; refine (ledger_account HK.out w).mono ?_; rintro e w' ⟨rfl, hw⟩; rw [hw]; clear hw w')
            | (go_at_call 72; refine (bound_Balance _ _).mono ?_; rw [HD.out]; rintro e w' ⟨rfl, hw⟩; rw [hw]; clear hw w')
            | fail)
           go_quiet (fail)
           go_wp2_with fail
           exact bodyPost_ret (v := .int .i64 0) (by simp [results, Tryz.results99, go_sem]) rfl ⟨rfl, (HP.out (w.drewN nq) (HH.out.1.below ⟨rfl, rfl, rfl, Nat.le_refl _, fun _ _ => rfl⟩)).1, Below.trans (b := w.drewN nq) ⟨rfl, rfl, rfl, Nat.le_refl _, fun _ _ => rfl⟩ (HP.out (w.drewN nq) (HH.out.1.below ⟨rfl, rfl, rfl, Nat.le_refl _, fun _ _ => rfl⟩)).2.1, (HP.out (w.drewN nq) (HH.out.1.below ⟨rfl, rfl, rfl, Nat.le_refl _, fun _ _ => rfl⟩)).2.2⟩
   · have e : spendE A M k n back = 1 := by unfold spendE; rw [if_pos (.inr hbal)]
     have e2 : spent A M k n back = A := by unfold spent; rw [e]; rfl
     have hd : decide (0 ≤ n ∧ n ≤ 1073741824) = false := by unfold isBal at hbal; exact decide_eq_false hbal
     have HD := Lib.hid hd
     have HH := Lib.hid h
     rw [e, e2]
     clear hk hac hbal hd h hN ha e e2
     go_enter Tryz.func99, Tryz.ntmps99
     go_wp2_with (first
      | (go_at_call 52; refine (ledger_account HK.out w).mono ?_; rintro e w' ⟨rfl, hw⟩; rw [hw]; clear hw w')
      | (go_at_call 72; refine (bound_Balance _ _).mono ?_; rw [HD.out]; rintro e w' ⟨rfl, hw⟩; rw [hw]; clear hw w')
      | fail)
     exact bodyPost_ret (v := .int .i64 1) (by simp [results, Tryz.results99, go_sem]) rfl ⟨rfl, HH.out, Below.refl _ _, Off.refl _ _⟩
 · have e : spendE A M a n back = 1 := by unfold spendE; rw [if_pos (.inl hac)]
   have e2 : spent A M a n back = A := by unfold spent; rw [e]; rfl
   have HD := Lib.hid hac
   have HH := Lib.hid h
   rw [e, e2]
   clear hac h hN ha e e2
   go_enter Tryz.func99, Tryz.ntmps99
   go_wp2_with (first
    | (go_at_call 52; refine (ledger_account_no HD.out w).mono ?_; rintro e w' ⟨rfl, hw⟩; rw [hw]; clear hw w')
    | fail)
   exact bodyPost_ret (v := .int .i64 1) (by simp [results, Tryz.results99, go_sem]) rfl ⟨rfl, HH.out, Below.refl _ _, Off.refl _ _⟩
section
variable {N g gl : Nat} {A : Acc} {M : Cls Int} {w : World}
end
end
section
open Go.RowKit Go.Maps Go.Shelf
section
variable {N g gl : Nat} {A : Acc} {M : Cls Int} {w : World}
set_option maxRecDepth 100000 in
set_option maxHeartbeats 1000000 in
theorem ledger_TransferF (h : LdAt N g gl A M w) (hN : N ≤ w.heap.size) {a : Int} (ha : (Lit.int .i64 a).wf = true) (b n : Int) : Calls Tryz.prog 38 #[.pointer (some ⟨g, 0, none⟩), .int .i64 a, .int .i64 b, .int .i64 n] w fun e w' => e = .returned (.int .i64 (transE A M a b n)) ∧ LdAt N g gl (transA A M a b n) M w' ∧ Below N w w' ∧ Off g w w' := by
 have hok := h.ok
 have HH := Lib.hid (And.intro h (And.intro hN ha))
 clear h hN ha
 by_cases hb : isAcc b
 · have hT : transE A M a b n = spendE A M a n (decide (a = b)) := by rw [transE, if_pos hb]
   obtain ⟨q, hq⟩ : ∃ q, q = decide (a = b) := ⟨_, rfl⟩
   rw [← hq] at hT
   obtain ⟨E, hE⟩ : ∃ E, E = spendE A M a n q := ⟨_, rfl⟩
   have hQ : (a == b) = q := by rw [hq]; exact Bool.eq_iff_iff.2 (by simp)
   obtain ⟨j, rfl, hj⟩ := isAcc_nat hb
   by_cases h0 : E = 0
   · obtain ⟨hac, hbal, hfr⟩ := spendE_ok (hE.symm.trans h0)
     have hA : transA A M a j n = giveA (spendA A a n) j n := by rw [transA, hT, ← hE, if_pos h0, Int.toNat_natCast]
     have hS : spent A M a n q = spendA A a n := by rw [spent, ← hE, if_pos h0]
     rw [hA, hT, ← hE, h0]
     have ok1 := spendA_ok hok hac hbal hfr
     have sm1 := sum_spendA A hac n
     obtain ⟨B, hB⟩ : ∃ B, B = spendA A a n := ⟨_, rfl⟩
     rw [← hB] at hS ok1 sm1 ⊢
     unfold isBal at hbal
     have ok2 : AccOk (giveA B j n) := giveA_ok ok1 hj hbal.1 (by have := hok.all; omega)
     obtain ⟨v, hv⟩ : ∃ v, v = (B j).1 := ⟨_, rfl⟩
     have hv0 : 0 ≤ v ∧ v ≤ 1073741824 := by have := ok1.one hj; have := ok1.held j; have := ok1.free j; unfold both at *; omega
     have hn1 : IntKind.i64.wrap (v + n) = v + n := IntWalk.i64_in _ (by omega)
     have hE0 : spendE A M a n q = 0 := by rw [← hE, h0]
     have hpay : ∀ w1, LdAt N g gl B M w1 → w1.cell? ⟨g, j * 2, none⟩ = some (.int .i64 v) ∧ LdAt N g gl (giveA B j n) M (w1.setCell ⟨g, j * 2, none⟩ (.int .i64 (v + n))) ∧ Below N w1 (w1.setCell ⟨g, j * 2, none⟩ (.int .i64 (v + n))) := fun w1 h1 => ⟨by rw [hv]; exact h1.free hj, by rw [hv]; exact h1.setFree hj _ ok2⟩
     have HP := Lib.hid hpay
     have HK := Lib.hid hj
     have HE := Lib.hid (And.intro hE0 hS)
     clear hok hac hbal hfr hA hS ok1 sm1 hj hB ok2 hv hE0 hpay h0 hE hq hb hT
     go_enter Tryz.func38, Tryz.ntmps38
     go_wp2_with (first
      | (go_at_call 99; refine (ledger_spendF HH.out.1 HH.out.2.1 HH.out.2.2 q).mono ?_; rw [HE.out.1, HE.out.2]; rintro e w1 ⟨rfl, h1, h2, h2o⟩; have hc1 := (HP.out w1 h1).1; have hf1 := h1.frozen (j * 2); have H1 := Lib.hid (And.intro h1 (And.intro h2 h2o)); clear h1 h2 h2o)
      | (go_at_call 52; refine (ledger_account HK.out _).mono ?_; rintro e w' ⟨rfl, hw⟩; rw [hw]; clear hw w')
      | fail)
     go_ret
     exact ⟨rfl, (HP.out _ H1.out.1).2.1, H1.out.2.1.trans (HP.out _ H1.out.1).2.2, H1.out.2.2.trans H1.out.2.1.size Off.set⟩
   · have hA : transA A M a j n = A := by rw [transA, hT, ← hE, if_neg h0]
     have hS : spent A M a n q = A := by rw [spent, ← hE, if_neg h0]
     rw [hA, hT, ← hE]
     have HK := Lib.hid hj
     have HE := Lib.hid (And.intro hE hS)
     clear hA hS hE hok hb hj hT hq
     go_enter Tryz.func38, Tryz.ntmps38
     go_wp2_with (first
      | (go_at_call 99; refine (ledger_spendF HH.out.1 HH.out.2.1 HH.out.2.2 q).mono ?_; rw [← HE.out.1, HE.out.2]; rintro e w1 ⟨rfl, h1, h2, h2o⟩; have H1 := Lib.hid (And.intro h1 (And.intro h2 h2o)); clear h1 h2 h2o)
      | (go_at_call 52; refine (ledger_account HK.out _).mono ?_; rintro e w' ⟨rfl, hw⟩; rw [hw]; clear hw w')
      | fail)
     go_ret
     exact ⟨rfl, H1.out⟩
 · have hT : transE A M a b n = 1 := by rw [transE, if_neg hb]
   have hA : transA A M a b n = A := by rw [transA, hT]; rfl
   rw [hT, hA]
   have HB := Lib.hid hb
   clear hT hA hb hok
   go_enter Tryz.func38, Tryz.ntmps38
   go_wp2_with (first
    | (go_at_call 52; refine (ledger_account_no HB.out _).mono ?_; rintro e w' ⟨rfl, hw⟩; rw [hw]; clear hw w')
    | fail)
   exact bodyPost_ret (v := .int .i64 1) (by simp [results, Tryz.results38, go_sem]) rfl ⟨rfl, HH.out.1, Below.refl _ _, Off.refl _ _⟩
end
end
section
open Go.RowKit
theorem cvRet_int {k : IntKind} {a b : Int} (h : a = b) : Ending.returned (.int k a) = .returned (.int k b) := by rw [h]
theorem cvRet_bool {a b : Bool} (h : a = b) : Ending.returned (.bool a) = .returned (.bool b) := by rw [h]
theorem mul_bd {a b : Int} {A B : Int} (h0 : 0 ≤ a) (h1 : a ≤ A) (h2 : 0 ≤ b) (h3 : b ≤ B) (hA : 0 ≤ A) : 0 ≤ a * b ∧ a * b ≤ A * B :=
 ⟨Int.mul_nonneg h0 h2, Int.mul_le_mul h1 h3 h2 hA⟩
theorem bcell {W w1 : World} (hb : Below W.heap.size W w1) : (∀ b o, b < W.heap.size → w1.cell? ⟨b, o, none⟩ = W.cell? ⟨b, o, none⟩) ∧ (∀ b o, b < W.heap.size → w1.frozen? ⟨b, o, none⟩ = W.frozen? ⟨b, o, none⟩) :=
 ⟨fun b o h => hb.cell (p := ⟨b, o, none⟩) h, fun b o h => hb.frozen (p := ⟨b, o, none⟩) h⟩
theorem below_dn {B : Nat} {a w : World} (h : Below B a w) (n : Nat) : Below B a (w.drewN n) := h.trans ⟨rfl, rfl, rfl, Nat.le_refl _, fun _ _ => rfl⟩
theorem below_new {w0 w : World} (h : Below w0.heap.size w0 w) (o : Obj) : Below w0.heap.size w0 (w.alloc o) := h.alloc h.size o
def withinB (n l m : Int) : Bool := decide (l ≤ n) && decide (n ≤ m)
theorem withinB_out {n l m : Int} (h : withinB n l m = true) : l ≤ n ∧ n ≤ m := by simpa [withinB] using h
def votesI (n level : Int) : Int := if level = 0 then n / 10 else n * level
def periodI (level period : Int) : Int := if level = 0 then 0 else period * 2 ^ (level - 1).toNat
theorem cvWithin (n l m : Int) (w : World) :
 Calls Tryz.prog 56 #[.int .i64 n, .int .i64 l, .int .i64 m] w fun e w' => e = .returned (.bool (withinB n l m)) ∧ w = w' := by
 by_cases h0 : l ≤ n
 · go_enter Tryz.func56, Tryz.ntmps56
   go_wp2
   go_ret
   exact ⟨cvRet_bool (by simp [withinB, h0]), rfl⟩
 · go_enter Tryz.func56, Tryz.ntmps56
   go_wp2
   go_ret
   exact ⟨cvRet_bool (by simp [withinB]; omega), rfl⟩
theorem cvBalance (n : Int) (w : World) :
 Calls Tryz.prog 72 #[.int .i64 n] w fun e w' => e = .returned (.bool (withinB n 0 1073741824)) ∧ w = w' := by
 go_enter Tryz.func72, Tryz.ntmps72
 go_wp2_with (go_at_call 56; refine (cvWithin _ _ _ _).mono ?_; rintro e w' ⟨rfl, rfl⟩)
 go_ret
 exact ⟨rfl, rfl⟩
theorem ref5_in (n l m : Int) (w : World) :
 Calls Tryz.prog 120 #[.int .i64 n, .int .i64 l, .int .i64 m] w fun e w' => e = .returned (.bool (withinB n l m)) ∧ w = w' := by
 by_cases h0 : l ≤ n
 · go_enter Tryz.func120, Tryz.ntmps120
   go_wp2
   go_ret
   exact ⟨cvRet_bool (by simp [withinB, h0]), rfl⟩
 · go_enter Tryz.func120, Tryz.ntmps120
   go_wp2
   go_ret
   exact ⟨cvRet_bool (by simp [withinB]; omega), rfl⟩
theorem conv_Votes (n l : Int) (w : World) (h0 : 0 ≤ n) (h1 : n ≤ 17179869184) (l0 : 0 ≤ l) (l1 : l ≤ 6) :
 Calls Tryz.prog 75 #[.int .i64 n, .int .i64 l] w fun e w' => e = .returned (.int .i64 (votesI n l)) ∧ w = w' := by
 obtain ⟨m0, m1⟩ := mul_bd h0 h1 l0 l1 (by omega)
 by_cases hl : l = 0
 · subst hl
   go_enter Tryz.func75, Tryz.ntmps75
   go_wp2
   go_ret
   exact ⟨rfl, rfl⟩
 · have e : votesI n l = n * l := if_neg hl
   have E := Lib.hid e; clear e
   go_enter Tryz.func75, Tryz.ntmps75
   go_wp2
   go_ret
   rw [E.out]
   exact ⟨rfl, rfl⟩
theorem ref_Votes (n l : Int) (w : World) (h0 : 0 ≤ n) (h1 : n ≤ 17179869184) (l0 : 0 ≤ l) (l1 : l ≤ 6) :
 Calls Tryz.prog 44 #[.int .i64 n, .int .i64 l] w fun e w' => e = .returned (.int .i64 (votesI n l)) ∧ w = w' := by
 obtain ⟨m0, m1⟩ := mul_bd h0 h1 l0 l1 (by omega)
 by_cases hl : l = 0
 · subst hl
   go_enter Tryz.func44, Tryz.ntmps44
   go_wp2
   go_ret
   exact ⟨rfl, rfl⟩
 · have e : votesI n l = n * l := if_neg hl
   have E := Lib.hid e; clear e
   go_enter Tryz.func44, Tryz.ntmps44
   go_wp2
   go_ret
   rw [E.out]
   exact ⟨rfl, rfl⟩
theorem conv_Period (l p : Int) (w : World) (h0 : 0 ≤ p) (h1 : p ≤ 1073741824) (l0 : 0 ≤ l) (l1 : l ≤ 6) :
 Calls Tryz.prog 71 #[.int .i64 l, .int .i64 p] w fun e w' => e = .returned (.int .i64 (periodI l p)) ∧ w = w' := by
 have hl : l = 0 ∨ l = 1 ∨ l = 2 ∨ l = 3 ∨ l = 4 ∨ l = 5 ∨ l = 6 := by omega
 rcases hl with rfl | rfl | rfl | rfl | rfl | rfl | rfl
 all_goals
  go_enter Tryz.func71, Tryz.ntmps71
  go_wp2
  go_ret
  exact ⟨cvRet_int (by simp [periodI]), rfl⟩
theorem ref_Period (l p : Int) (w : World) (h0 : 0 ≤ p) (h1 : p ≤ 1073741824) (l0 : 0 ≤ l) (l1 : l ≤ 6) :
 Calls Tryz.prog 94 #[.int .i64 l, .int .i64 p] w fun e w' => e = .returned (.int .i64 (periodI l p)) ∧ w = w' := by
 have hl : l = 0 ∨ l = 1 ∨ l = 2 ∨ l = 3 ∨ l = 4 ∨ l = 5 ∨ l = 6 := by omega
 rcases hl with rfl | rfl | rfl | rfl | rfl | rfl | rfl
 all_goals
  go_enter Tryz.func94, Tryz.ntmps94
  go_wp2
  go_ret
  exact ⟨cvRet_int (by simp [periodI]), rfl⟩
abbrev vote (k : Int) (aye : Bool) (l a n s : Int) : Value := .agg #[.int .i64 k, .bool aye, .int .i64 l, .int .i64 a, .int .i64 n, .int .i64 s]
abbrev weight (v c : Int) : Value := .agg #[.int .i64 v, .int .i64 c]
abbrev tally (a n s : Int) : Value := .agg #[.int .i64 a, .int .i64 n, .int .i64 s]
def shapedB (k : Int) (aye : Bool) (l n s : Int) : Bool :=
 if k = 1 then withinB l 0 6 && (n == 0) && (s == 0)
 else if k = 2 then !aye && (l == 0) && (s == 0)
 else if k = 3 then !aye && (l == 0)
 else false
def voteB (k : Int) (aye : Bool) (l a n s : Int) : Bool :=
 shapedB k aye l n s && withinB a 0 1073741824 && withinB n 0 1073741824 && withinB s 0 1073741824 && withinB (a + n + s) 0 1073741824
theorem conv_shaped (k : Int) (aye : Bool) (l a n s : Int) (w : World) :
 Calls Tryz.prog 104 #[vote k aye l a n s] w fun e w' => e = .returned (.bool (shapedB k aye l n s)) ∧ Below w.heap.size w w' := by
 have hk : k = 1 ∨ k = 2 ∨ k = 3 ∨ (k ≠ 1 ∧ k ≠ 2 ∧ k ≠ 3) := by omega
 rcases hk with rfl | rfl | rfl | ⟨k1, k2, k3⟩
 · go_enter Tryz.func104, Tryz.ntmps104
   go_wp2_with (go_at_call 56; refine (cvWithin _ _ _ _).mono ?_; rintro e w' ⟨rfl, rfl⟩)
   all_goals
    go_ret
    exact ⟨cvRet_bool (by simp [shapedB, *]), (Below.refl _ _).alloc (Nat.le_refl _) _⟩
 · cases aye
   all_goals
    go_enter Tryz.func104, Tryz.ntmps104
    go_wp2_with (go_at_call 56; refine (cvWithin _ _ _ _).mono ?_; rintro e w' ⟨rfl, rfl⟩)
   all_goals
    go_ret
    exact ⟨cvRet_bool (by simp [shapedB, *]), (Below.refl _ _).alloc (Nat.le_refl _) _⟩
 · cases aye
   all_goals
    go_enter Tryz.func104, Tryz.ntmps104
    go_wp2_with (go_at_call 56; refine (cvWithin _ _ _ _).mono ?_; rintro e w' ⟨rfl, rfl⟩)
   all_goals
    go_ret
    exact ⟨cvRet_bool (by simp [shapedB, *]), (Below.refl _ _).alloc (Nat.le_refl _) _⟩
 · go_enter Tryz.func104, Tryz.ntmps104
   go_wp2
   go_ret
   exact ⟨cvRet_bool (by simp [shapedB, *]), (Below.refl _ _).alloc (Nat.le_refl _) _⟩
end
section
open Go.RowKit
theorem conv_Capital (k : Int) (aye : Bool) (l a n s : Int) (w : World) (ha : 0 ≤ a ∧ a ≤ 1073741824) (hn : 0 ≤ n ∧ n ≤ 1073741824) (hs : 0 ≤ s ∧ s ≤ 1073741824) :
 Calls Tryz.prog 60 #[vote k aye l a n s] w fun e w' => e = .returned (.int .i64 (a + n + s)) ∧ Below w.heap.size w w' := by
 go_enter Tryz.func60, Tryz.ntmps60
 go_wp2
 go_ret
 exact ⟨rfl, (Below.refl _ _).alloc (Nat.le_refl _) _⟩
theorem ref_Capital (k : Int) (aye : Bool) (l a n s : Int) (w : World) (ha : 0 ≤ a ∧ a ≤ 1073741824) (hn : 0 ≤ n ∧ n ≤ 1073741824) (hs : 0 ≤ s ∧ s ≤ 1073741824) :
 Calls Tryz.prog 15 #[vote k aye l a n s] w fun e w' => e = .returned (.int .i64 (a + n + s)) ∧ Below w.heap.size w w' := by
 go_enter Tryz.func15, Tryz.ntmps15
 go_wp2
 go_ret
 exact ⟨rfl, (Below.refl _ _).alloc (Nat.le_refl _) _⟩
structure VBox (w0 : World) (k : Int) (aye : Bool) (l a n s : Int) (w : World) : Prop where
 c0 : w.cell? ⟨w0.heap.size, 0, none⟩ = some (.int .i64 k)
 c1 : w.cell? ⟨w0.heap.size, 1, none⟩ = some (.bool aye)
 c2 : w.cell? ⟨w0.heap.size, 2, none⟩ = some (.int .i64 l)
 c3 : w.cell? ⟨w0.heap.size, 3, none⟩ = some (.int .i64 a)
 c4 : w.cell? ⟨w0.heap.size, 4, none⟩ = some (.int .i64 n)
 c5 : w.cell? ⟨w0.heap.size, 5, none⟩ = some (.int .i64 s)
 lt : w0.heap.size < w.heap.size
 old : Below w0.heap.size w0 w
theorem VBox.all {w0 : World} {k : Int} {aye : Bool} {l a n s : Int} {w : World} (h : VBox w0 k aye l a n s w) : w.cell? ⟨w0.heap.size, 0, none⟩ = some (.int .i64 k) ∧ w.cell? ⟨w0.heap.size, 1, none⟩ = some (.bool aye) ∧ w.cell? ⟨w0.heap.size, 2, none⟩ = some (.int .i64 l) ∧ w.cell? ⟨w0.heap.size, 3, none⟩ = some (.int .i64 a) ∧ w.cell? ⟨w0.heap.size, 4, none⟩ = some (.int .i64 n) ∧ w.cell? ⟨w0.heap.size, 5, none⟩ = some (.int .i64 s) := ⟨h.c0, h.c1, h.c2, h.c3, h.c4, h.c5⟩
theorem VBox.below {w0 : World} {k : Int} {aye : Bool} {l a n s : Int} {w w' : World} (h : VBox w0 k aye l a n s w) (hb : Below w.heap.size w w') : VBox w0 k aye l a n s w' := by
 obtain ⟨hc, _⟩ := bcell hb
 exact ⟨(hc _ _ h.lt).trans h.c0, (hc _ _ h.lt).trans h.c1, (hc _ _ h.lt).trans h.c2, (hc _ _ h.lt).trans h.c3, (hc _ _ h.lt).trans h.c4, (hc _ _ h.lt).trans h.c5, Nat.lt_of_lt_of_le h.lt hb.size, h.old.trans (hb.mono h.old.size)⟩
theorem VBox.new {k : Int} {aye : Bool} {l a n s : Int} {w : World} {t : TypeId} : VBox w k aye l a n s (w.alloc (.cells #[.int .i64 k, .bool aye, .int .i64 l, .int .i64 a, .int .i64 n, .int .i64 s] t)) := by
 constructor
 case old => exact (Below.refl _ _).alloc (Nat.le_refl _) _
 all_goals simp
set_option maxHeartbeats 1000000 in
theorem conv_Is (k : Int) (aye : Bool) (l a n s : Int) (w : World) :
 Calls Tryz.prog 58 #[vote k aye l a n s] w fun e w' => e = .returned (.bool (voteB k aye l a n s)) ∧ Below w.heap.size w w' := by
 go_enter Tryz.func58, Tryz.ntmps58
 go_wp2_with (first | (go_at_call 104; refine (conv_shaped _ _ _ _ _ _ _).mono ?_; rintro e w1 ⟨rfl, hb1⟩; have B := VBox.new.below hb1; clear hb1; obtain ⟨c0, c1, c2, c3, c4, c5⟩ := B.all) | (go_at_call 72; refine (cvBalance _ _).mono ?_; rintro e w' ⟨rfl, rfl⟩) | (go_at_call 60; refine (conv_Capital _ _ _ _ _ _ _ (withinB_out (by assumption)) (withinB_out (by assumption)) (withinB_out (by assumption))).mono ?_; rintro e w1 ⟨rfl, hb1⟩; have B2 := B.below hb1) | fail)
 all_goals
  go_ret
  exact ⟨cvRet_bool (by simp [voteB, *]), (by first | exact B2.old | exact B.old)⟩
set_option maxHeartbeats 1000000 in
theorem ref_Is5_fits (k : Int) (aye : Bool) (l a n s : Int) (w : World) (h1 : withinB a 0 1073741824 = true) (h2 : withinB n 0 1073741824 = true) (h3 : withinB s 0 1073741824 = true) (hs : a + n + s ≤ 1073741824) :
 Calls Tryz.prog 89 #[vote k aye l a n s] w fun e w' => e = .returned (.bool (voteB k aye l a n s)) ∧ Below w.heap.size w w' := by
 obtain ⟨a0, a1⟩ := withinB_out h1
 obtain ⟨n0, n1⟩ := withinB_out h2
 obtain ⟨s0, s1⟩ := withinB_out h3
 have hw : withinB (a + n + s) 0 1073741824 = true := by simp [withinB, hs]; omega
 have hd : decide (1073741824 < a + n + s) = false := by simp; omega
 have e : voteB k aye l a n s = shapedB k aye l n s := by simp [voteB, h1, h2, h3, hw]
 have E := Lib.hid e
 clear e hw hs
 have hk : k = 1 ∨ k = 2 ∨ k = 3 ∨ (k ≠ 1 ∧ k ≠ 2 ∧ k ≠ 3) := by omega
 rcases hk with rfl | rfl | rfl | ⟨k1, k2, k3⟩ <;> cases aye
 all_goals
  go_enter Tryz.func89, Tryz.ntmps89
  go_wp2_with (first | (go_at_call 120; refine (ref5_in _ _ _ _).mono ?_; rintro e w' ⟨rfl, rfl⟩) | fail)
 all_goals
  go_ret
  exact ⟨cvRet_bool (by rw [E.out]; simp [shapedB, *]), (Below.refl _ _).alloc (Nat.le_refl _) _⟩
set_option maxHeartbeats 1000000 in
theorem ref_Is5_over (k : Int) (aye : Bool) (l a n s : Int) (w : World) (h1 : withinB a 0 1073741824 = true) (h2 : withinB n 0 1073741824 = true) (h3 : withinB s 0 1073741824 = true) (hs : ¬ a + n + s ≤ 1073741824) :
 Calls Tryz.prog 89 #[vote k aye l a n s] w fun e w' => e = .returned (.bool (voteB k aye l a n s)) ∧ Below w.heap.size w w' := by
 obtain ⟨a0, a1⟩ := withinB_out h1
 obtain ⟨n0, n1⟩ := withinB_out h2
 obtain ⟨s0, s1⟩ := withinB_out h3
 have hw : withinB (a + n + s) 0 1073741824 = false := by simp [withinB]; omega
 have hd : decide (1073741824 < a + n + s) = true := by simp; omega
 have e : voteB k aye l a n s = false := by simp [voteB, hw]
 have E := Lib.hid e
 clear hs hw e
 go_enter Tryz.func89, Tryz.ntmps89
 go_wp2_with (first | (go_at_call 120; refine (ref5_in _ _ _ _).mono ?_; rintro e w' ⟨rfl, rfl⟩) | fail)
 go_ret
 exact ⟨cvRet_bool E.out.symm, (Below.refl _ _).alloc (Nat.le_refl _) _⟩
set_option maxHeartbeats 1000000 in
theorem ref_Is5 (k : Int) (aye : Bool) (l a n s : Int) (w : World) :
 Calls Tryz.prog 89 #[vote k aye l a n s] w fun e w' => e = .returned (.bool (voteB k aye l a n s)) ∧ Below w.heap.size w w' := by
 by_cases hb : withinB a 0 1073741824 = true ∧ withinB n 0 1073741824 = true ∧ withinB s 0 1073741824 = true
 · obtain ⟨h1, h2, h3⟩ := hb
   by_cases hs : a + n + s ≤ 1073741824
   · exact ref_Is5_fits k aye l a n s w h1 h2 h3 hs
   · exact ref_Is5_over k aye l a n s w h1 h2 h3 hs
 · have e : voteB k aye l a n s = false := by
    cases h1 : withinB a 0 1073741824 <;> cases h2 : withinB n 0 1073741824 <;> cases h3 : withinB s 0 1073741824 <;> simp_all [voteB]
   have E := Lib.hid e
   have hq : withinB a 0 1073741824 = false ∨ (withinB a 0 1073741824 = true ∧ withinB n 0 1073741824 = false) ∨ (withinB a 0 1073741824 = true ∧ withinB n 0 1073741824 = true ∧ withinB s 0 1073741824 = false) := by
    cases h1 : withinB a 0 1073741824 <;> cases h2 : withinB n 0 1073741824 <;> cases h3 : withinB s 0 1073741824 <;> simp_all
   clear hb e
   rcases hq with h1 | ⟨h1, h2⟩ | ⟨h1, h2, h3⟩
   all_goals
    go_enter Tryz.func89, Tryz.ntmps89
    go_wp2_with (first | (go_at_call 120; refine (ref5_in _ _ _ _).mono ?_; rintro e w' ⟨rfl, rfl⟩) | fail)
    go_ret
    exact ⟨cvRet_bool E.out.symm, (Below.refl _ _).alloc (Nat.le_refl _) _⟩
def gainA (k : Int) (aye : Bool) (l a v : Int) : Int := if k = 1 then (if aye then votesI a l + v else 0) else votesI a 0
def gainN (k : Int) (aye : Bool) (l a n v : Int) : Int := if k = 1 then (if aye then 0 else votesI a l + v) else votesI n 0
def gainS (k : Int) (aye : Bool) (a s c : Int) : Int := if k = 1 then (if aye then a + c else 0) else a + s
theorem votes_bd {n l : Int} (h0 : 0 ≤ n) (l0 : 0 ≤ l) : 0 ≤ votesI n l ∧ votesI n l ≤ n * (l + 1) := by
 unfold votesI
 have m := Int.mul_nonneg h0 l0
 have e : n * (l + 1) = n * l + n := by rw [Int.mul_add]; omega
 split <;> omega
set_option maxHeartbeats 1000000 in
theorem conv_Gain2 (k : Int) (hk : k = 2 ∨ k = 3) (aye : Bool) (l a n s v c : Int) (w : World) (a0 : 0 ≤ a) (a1 : a ≤ 1073741824) (n0 : 0 ≤ n) (n1 : n ≤ 1073741824) (s0 : 0 ≤ s) (s1 : s ≤ 1073741824) :
 Calls Tryz.prog 64 #[vote k aye l a n s, weight v c] w fun e w' => e = .returned (tally (gainA k aye l a v) (gainN k aye l a n v) (gainS k aye a s c)) ∧ Below w.heap.size w w' := by
 have W1 : IntKind.i64.wrap (a + s) = a + s := IntWalk.i64_in _ (by omega)
 rcases hk with rfl | rfl
 · go_enter Tryz.func64, Tryz.ntmps64
   go_wp2_with fail
   have B1 : VBox w 2 aye l a n s (((w.alloc (.cells #[.int .i64 2, .bool aye, .int .i64 l, .int .i64 a, .int .i64 n, .int .i64 s] 28)).alloc (.cells #[.int .i64 v, .int .i64 c] 82)).alloc (.cells #[.int .i64 0, .int .i64 0, .int .i64 0] 41)) := (VBox.new.below (below_new (Below.refl _ _) _)).below (below_new (Below.refl _ _) _)
   have B2 : VBox w 2 aye l a n s (((w.alloc (.cells #[.int .i64 2, .bool aye, .int .i64 l, .int .i64 a, .int .i64 n, .int .i64 s] 28)).alloc (.cells #[.int .i64 v, .int .i64 c] 82)).alloc (.cells #[.int .i64 (votesI a 0), .int .i64 (votesI n 0), .int .i64 (a + s)] 41)) := (VBox.new.below (below_new (Below.refl _ _) _)).below (below_new (Below.refl _ _) _)
   go_region_held3 (fun w' => w'.cell? ⟨w.heap.size, 0, none⟩ = some (.int .i64 2) ∧ w'.cell? ⟨w.heap.size, 1, none⟩ = some (.bool aye) ∧ w'.cell? ⟨w.heap.size, 2, none⟩ = some (.int .i64 l) ∧ w'.cell? ⟨w.heap.size, 3, none⟩ = some (.int .i64 a) ∧ w'.cell? ⟨w.heap.size, 4, none⟩ = some (.int .i64 n) ∧ w'.cell? ⟨w.heap.size, 5, none⟩ = some (.int .i64 s)) (first | exact B1.all | exact B2.all | fail) (first | (go_at_call 75; refine (conv_Votes _ _ _ (by omega) (by omega) (by omega) (by omega)).mono ?_; rintro e w' ⟨rfl, rfl⟩) | fail)
   go_wp2
   exact bodyPost_ret (v := tally (gainA 2 aye l a v) (gainN 2 aye l a n v) (gainS 2 aye a s c)) (by simp [results, Tryz.results64, go_sem, gainA, gainN, gainS]) rfl ⟨rfl, (by repeat (first | exact Below.refl _ _ | refine below_dn ?_ _ | refine Below.drew ?_ | refine below_new ?_ _ | refine Below.setCell ?_ (Nat.le_refl _) _ | refine Below.setCell ?_ (Nat.le_succ _) _ | refine Below.setCell ?_ (Nat.le_trans (Nat.le_succ _) (Nat.le_succ _)) _))⟩
 · go_enter Tryz.func64, Tryz.ntmps64
   go_wp2_with fail
   have B1 : VBox w 3 aye l a n s (((w.alloc (.cells #[.int .i64 3, .bool aye, .int .i64 l, .int .i64 a, .int .i64 n, .int .i64 s] 28)).alloc (.cells #[.int .i64 v, .int .i64 c] 82)).alloc (.cells #[.int .i64 0, .int .i64 0, .int .i64 0] 41)) := (VBox.new.below (below_new (Below.refl _ _) _)).below (below_new (Below.refl _ _) _)
   have B2 : VBox w 3 aye l a n s (((w.alloc (.cells #[.int .i64 3, .bool aye, .int .i64 l, .int .i64 a, .int .i64 n, .int .i64 s] 28)).alloc (.cells #[.int .i64 v, .int .i64 c] 82)).alloc (.cells #[.int .i64 (votesI a 0), .int .i64 (votesI n 0), .int .i64 (a + s)] 41)) := (VBox.new.below (below_new (Below.refl _ _) _)).below (below_new (Below.refl _ _) _)
   go_region_held3 (fun w' => w'.cell? ⟨w.heap.size, 0, none⟩ = some (.int .i64 3) ∧ w'.cell? ⟨w.heap.size, 1, none⟩ = some (.bool aye) ∧ w'.cell? ⟨w.heap.size, 2, none⟩ = some (.int .i64 l) ∧ w'.cell? ⟨w.heap.size, 3, none⟩ = some (.int .i64 a) ∧ w'.cell? ⟨w.heap.size, 4, none⟩ = some (.int .i64 n) ∧ w'.cell? ⟨w.heap.size, 5, none⟩ = some (.int .i64 s)) (first | exact B1.all | exact B2.all | fail) (first | (go_at_call 75; refine (conv_Votes _ _ _ (by omega) (by omega) (by omega) (by omega)).mono ?_; rintro e w' ⟨rfl, rfl⟩) | fail)
   go_wp2
   exact bodyPost_ret (v := tally (gainA 3 aye l a v) (gainN 3 aye l a n v) (gainS 3 aye a s c)) (by simp [results, Tryz.results64, go_sem, gainA, gainN, gainS]) rfl ⟨rfl, (by repeat (first | exact Below.refl _ _ | refine below_dn ?_ _ | refine Below.drew ?_ | refine below_new ?_ _ | refine Below.setCell ?_ (Nat.le_refl _) _ | refine Below.setCell ?_ (Nat.le_succ _) _ | refine Below.setCell ?_ (Nat.le_trans (Nat.le_succ _) (Nat.le_succ _)) _))⟩
end
section
open Go.RowKit
abbrev w64i (n : Int) : Int := wrap64 n
def Tl.add (x y : Tl) : Tl := ⟨wrap64 (x.a + y.a), wrap64 (x.n + y.n), wrap64 (x.s + y.s)⟩
def Tl.zero : Tl := ⟨0, 0, 0⟩
def Tl.neg (x : Tl) : Tl := ⟨wrap64 (-x.a), wrap64 (-x.n), wrap64 (-x.s)⟩
def Tl.sub (x y : Tl) : Tl := x.add y.neg
def Tl.sum (x : Tl) (l : List Tl) : Tl := l.foldl Tl.add x
theorem Tl.sum_snoc (x : Tl) (l : List Tl) (y : Tl) : Tl.sum x (l ++ [y]) = (Tl.sum x l).add y := by simp [Tl.sum]
abbrev tlV (x : Tl) : Value := .agg #[.int .i64 x.a, .int .i64 x.n, .int .i64 x.s]
def RdT (w : World) (v : Value) (l : List Tl) : Prop :=
 (v = .slice none 0 0 ∧ l = []) ∨ ∃ a cap, v = .slice (some a) l.length cap ∧ l.length ≤ cap ∧
  ∀ i (h : i < l.length), ∃ blk off, a = ⟨blk, off, none⟩ ∧ blk < w.heap.size ∧ w.cell? ⟨blk, off + i * 3, none⟩ = some (.int .i64 l[i].a) ∧ w.cell? ⟨blk, off + i * 3 + 1, none⟩ = some (.int .i64 l[i].n) ∧ w.cell? ⟨blk, off + i * 3 + 2, none⟩ = some (.int .i64 l[i].s)
theorem RdT.lenOf {w : World} {v : Value} {l : List Tl} (h : RdT w v l) : ∃ ao cap, v = .slice ao l.length cap := by
 rcases h with ⟨rfl, rfl⟩ | ⟨a, cap, rfl, -⟩
 · exact ⟨_, _, rfl⟩
 · exact ⟨_, _, rfl⟩
def TB (w : World) (b : Nat) (x : Tl) : Prop := w.heap[b]? = some (.cells #[.int .i64 x.a, .int .i64 x.n, .int .i64 x.s] 41 (0, 0))
theorem TB.c {w : World} {b : Nat} {x : Tl} (h : TB w b x) : w.cell? ⟨b, 0, none⟩ = some (.int .i64 x.a) ∧ w.cell? ⟨b, 1, none⟩ = some (.int .i64 x.n) ∧ w.cell? ⟨b, 2, none⟩ = some (.int .i64 x.s) := by
 refine ⟨?_, ?_, ?_⟩ <;> simp [World.cell?, show w.heap[b]? = _ from h]
theorem TB.frozen {w : World} {b : Nat} {x : Tl} (h : TB w b x) (i : Nat) : w.frozen? ⟨b, i, none⟩ = false := by simp [World.frozen?, show w.heap[b]? = _ from h]
theorem TB.lt {w : World} {b : Nat} {x : Tl} (h : TB w b x) : b < w.heap.size := (Array.getElem?_eq_some_iff.1 h).1
theorem TB.new (w : World) (x : Tl) : TB (w.alloc (.cells #[.int .i64 x.a, .int .i64 x.n, .int .i64 x.s] 41)) w.heap.size x := heap_alloc_new w _
theorem TB.newAt {w : World} {x : Tl} {b : Nat} (hb : b = w.heap.size) : TB (w.alloc (.cells #[.int .i64 x.a, .int .i64 x.n, .int .i64 x.s] 41)) b x := by subst hb; exact TB.new w x
theorem TB.keep {w w' : World} {b : Nat} {x : Tl} (h : TB w b x) {N : Nat} (hb : Below N w w') (hN : b < N) : TB w' b x := (hb.block b hN).trans h
theorem TB.alloc {w : World} {b : Nat} {x : Tl} (h : TB w b x) (o : Obj) : TB (w.alloc o) b x := (((Below.refl _ w).alloc (Nat.le_refl _) o).block b h.lt).trans h
theorem block_set {w : World} {b i : Nat} {cs : Array Value} {t : TypeId} {fr : Nat × Nat} (v : Value) (h : w.heap[b]? = some (.cells cs t fr)) : (w.setCell ⟨b, i, none⟩ v).heap[b]? = some (.cells (cs.setIfInBounds i v) t fr) := by
 obtain ⟨hlt, hk⟩ := Array.getElem?_eq_some_iff.1 h
 show (w.heap.modify b _)[b]? = _
 rw [Array.getElem?_eq_getElem (by rw [Array.size_modify]; exact hlt), Array.getElem_modify_self, hk]
 rfl
theorem block_other {w : World} {b : Nat} {a : Addr} {v : Value} {x : Obj} (h : w.heap[b]? = some x) (hne : b ≠ a.block) : (w.setCell a v).heap[b]? = some x := by
 obtain ⟨hlt, hk⟩ := Array.getElem?_eq_some_iff.1 h
 show (w.heap.modify a.block _)[b]? = _
 rw [Array.getElem?_eq_getElem (by rw [Array.size_modify]; exact hlt), Array.getElem_modify_of_ne (fun e => hne e.symm), hk]
theorem TB.set {w : World} {b : Nat} {x : Tl} (h : TB w b x) (y : Tl) : TB (((w.setCell ⟨b, 0, none⟩ (.int .i64 y.a)).setCell ⟨b, 1, none⟩ (.int .i64 y.n)).setCell ⟨b, 2, none⟩ (.int .i64 y.s)) b y :=
 block_set _ (block_set _ (block_set _ h))
theorem RdT.at {w : World} {ao : Option Addr} {n cap : Nat} {l : List Tl} (h : RdT w (.slice ao n cap) l) {j : Nat} (hj : j < l.length) :
 ∃ blk off, ao = some ⟨blk, off, none⟩ ∧ n = l.length ∧ n ≤ cap ∧ blk < w.heap.size ∧ w.cell? ⟨blk, off + j * 3, none⟩ = some (.int .i64 (l.getD j Tl.zero).a) ∧ w.cell? ⟨blk, off + j * 3 + 1, none⟩ = some (.int .i64 (l.getD j Tl.zero).n) ∧ w.cell? ⟨blk, off + j * 3 + 2, none⟩ = some (.int .i64 (l.getD j Tl.zero).s) := by
 rcases h with ⟨-, h⟩ | ⟨a, cap', hv, hc, hcell⟩
 · subst h; simp at hj
 · injection hv with h1 h2 h3
   subst h1 h2 h3
   obtain ⟨blk, off, rfl, hl, c1, c2, c3⟩ := hcell j hj
   have e : l.getD j Tl.zero = l[j] := by simp [hj]
   exact ⟨blk, off, rfl, rfl, hc, hl, by rw [e]; exact c1, by rw [e]; exact c2, by rw [e]; exact c3⟩
theorem Tl.take_sum {x : Tl} {l : List Tl} {j : Nat} (h : j < l.length) : Tl.sum x (l.take (j + 1)) = (Tl.sum x (l.take j)).add (l.getD j Tl.zero) := by
 have : l.take (j + 1) = l.take j ++ [l.getD j Tl.zero] := by
  rw [List.take_succ_eq_append_getElem h]; simp [h]
 rw [this, Tl.sum_snoc]
set_option maxHeartbeats 2000000 in
theorem conv_Add (x : Tl) (u : Value) (l : List Tl) (w : World) (hr : RdT w u l) (hl : l.length ≤ 100) :
 Calls Tryz.prog 65 #[tlV x, u] w fun e w' => e = .returned (tlV (Tl.sum x l)) ∧ Below w.heap.size w w' := by
 have HR := Lib.hid hr
 obtain ⟨ao, cap, rfl⟩ := hr.lenOf
 clear hr
 unfold tlV
 go_enter Tryz.func65, Tryz.ntmps65
 go_wp2
 go_loopw [9] (fun i wr => ∃ j : Nat, j ≤ l.length ∧ i = .int .i64 j ∧ TB wr w.heap.size (Tl.sum x (l.take j)) ∧ TB wr (w.heap.size + 1) Tl.zero ∧ Below w.heap.size w wr) (fun i _ => l.length - (RowKit.intOf i).toNat)
 case atStart =>
  refine ⟨0, Nat.zero_le _, rfl, (TB.new w x).alloc _, ?_, ((Below.refl _ w).alloc (Nat.le_refl _) _).alloc (by simp) _⟩
  have := TB.new (w.alloc (.cells #[.int .i64 x.a, .int .i64 x.n, .int .i64 x.s] 41)) Tl.zero
  rwa [World.size_alloc] at this
 case round =>
  obtain ⟨j, hj, rfl, ht, hz, hb⟩ := hrel
  by_cases hlt : j < l.length
  · obtain ⟨blk, off, rfl, -, hc, hbl, c1, c2, c3⟩ := HR.out.at hlt
    have hnext := Tl.take_sum (x := x) hlt
    obtain ⟨q, hq⟩ : ∃ q, q = l.getD j Tl.zero := ⟨_, rfl⟩
    obtain ⟨s, hs⟩ : ∃ s, s = Tl.sum x (l.take j) := ⟨_, rfl⟩
    rw [← hq, ← hs] at hnext
    rw [← hq] at c1 c2 c3
    rw [← hs] at ht
    have HN := Lib.hid hnext
    clear hq hs hnext
    have t1 := (hb.cell (p := ⟨blk, off + j * 3, none⟩) hbl).trans c1
    have t2 := (hb.cell (p := ⟨blk, off + j * 3 + 1, none⟩) hbl).trans c2
    have t3 := (hb.cell (p := ⟨blk, off + j * 3 + 2, none⟩) hbl).trans c3
    obtain ⟨s1, s2, s3⟩ := ht.c
    have f0 := ht.frozen 0
    have f1 := ht.frozen 1
    have f2 := ht.frozen 2
    have L1 := ht.lt
    have L2 := hz.lt
    have n1 : ¬ w.heap.size = wr.heap.size := by omega
    have n2 : ¬ blk = wr.heap.size := by omega
    have n3 : ¬ blk = w.heap.size := by omega
    have HT := Lib.hid ht
    have HZ := Lib.hid hz
    have HB := Lib.hid hb
    clear c1 c2 c3 ht hz hb
    go_wp2
    refine ⟨⟨j + 1, by omega, by go_num, ?_, ?_, ?_⟩, by simp [RowKit.intOf]; omega⟩
    · rw [HN.out]
      exact (HT.out.set (s.add q)).alloc _
    · exact TB.alloc ((block_other (block_other (block_other HZ.out (Nat.succ_ne_self _)) (Nat.succ_ne_self _)) (Nat.succ_ne_self _))) _
    · exact ((((HB.out.setCell (Nat.le_refl _) _).setCell (Nat.le_refl _) _).setCell (Nat.le_refl _) _)).alloc (by simp; omega) _
  · have hjl : j = l.length := by omega
    subst hjl
    rw [List.take_length] at ht
    obtain ⟨s1, s2, s3⟩ := ht.c
    obtain ⟨z1, z2, z3⟩ := hz.c
    have f0 := hz.frozen 0
    have f1 := hz.frozen 1
    have f2 := hz.frozen 2
    have L2 := hz.lt
    go_wp2
    refine bodyPost_ret (v := .agg #[.int .i64 (Tl.sum x l).a, .int .i64 (Tl.sum x l).n, .int .i64 (Tl.sum x l).s]) (by simp [results, Tryz.results65, go_sem, *]) rfl ⟨rfl, ?_⟩
    exact ((hb.setCell (Nat.le_succ _) _).setCell (Nat.le_succ _) _).setCell (Nat.le_succ _) _
theorem RdT.one (w : World) (a n s : Int) (t : TypeId) {b : Nat} (hb : b = w.heap.size) : RdT (w.alloc (.cells #[.int .i64 a, .int .i64 n, .int .i64 s] t)) (.slice (some ⟨b, 0, none⟩) 1 1) [⟨a, n, s⟩] := by
 subst hb
 refine .inr ⟨⟨w.heap.size, 0, none⟩, 1, rfl, Nat.le_refl _, fun i hi => ?_⟩
 have : i = 0 := by simp at hi; omega
 subst this
 exact ⟨_, _, rfl, by simp, by simp, by simp, by simp⟩
set_option maxHeartbeats 1000000 in
theorem conv_Sub (x y : Tl) (w : World) :
 Calls Tryz.prog 63 #[tlV x, tlV y] w fun e w' => e = .returned (tlV (x.add y.neg)) ∧ Below w.heap.size w w' := by
 have hz : Tl.sum x [⟨wrap64 (-y.a), wrap64 (-y.n), wrap64 (-y.s)⟩] = x.add y.neg := rfl
 have HZ := Lib.hid hz
 clear hz
 go_enter Tryz.func63, Tryz.ntmps63
 go_wp2_with (first | (go_at_call 65; (with_reducible refine (conv_Add x _ [⟨wrap64 (-y.a), wrap64 (-y.n), wrap64 (-y.s)⟩] _ (RdT.one _ _ _ _ _ (by simp)) (by simp)).mono ?_); rintro e w1 ⟨rfl, hb1⟩; rw [HZ.out]; have L3 := hb1.size; simp only [World.size_alloc] at L3 hb1; have hz := TB.keep (TB.alloc (TB.newAt (w := (w.alloc (.cells #[.int .i64 x.a, .int .i64 x.n, .int .i64 x.s] 41)).alloc (.cells #[.int .i64 y.a, .int .i64 y.n, .int .i64 y.s] 41)) (x := Tl.zero) (b := w.heap.size + 1 + 1) (by simp)) _) hb1 (by omega); obtain ⟨z1, z2, z3⟩ := hz.c; have f0 := hz.frozen 0; have f1 := hz.frozen 1; have f2 := hz.frozen 2; have H1 := Lib.hid hb1; clear hb1 hz) | fail)
 refine bodyPost_ret (v := .agg #[.int .i64 (x.add y.neg).a, .int .i64 (x.add y.neg).n, .int .i64 (x.add y.neg).s]) (by simp [results, Tryz.results63, go_sem, *]) rfl ⟨rfl, ?_⟩
 have hb : Below w.heap.size w w1 := ((((Below.refl _ w).alloc (Nat.le_refl _) _).alloc (by simp) _).alloc (by simp; omega) _).alloc (by simp; omega) _ |>.trans (H1.out.mono (by omega))
 exact ((hb.setCell (by simp; omega) _).setCell (by simp; omega) _).setCell (by simp; omega) _
def gainW (x : Bal) (g : Wgt) : Tl := if x.k = 1 then (if x.aye then ⟨wrap64 (votesI x.a x.l + g.v), 0, wrap64 (x.a + g.c)⟩ else ⟨0, wrap64 (votesI x.a x.l + g.v), 0⟩) else ⟨votesI x.a 0, votesI x.n 0, x.a + x.s⟩
def balOk (x : Bal) : Bool := voteB x.k x.aye x.l x.a x.n x.s
set_option maxHeartbeats 1000000 in
theorem conv_Gain1W (aye : Bool) (l a n s v c : Int) (w : World) (ha : 0 ≤ a ∧ a ≤ 1073741824) (hl : 0 ≤ l ∧ l ≤ 6) :
 Calls Tryz.prog 64 #[vote 1 aye l a n s, weight v c] w fun e w' => e = .returned (tlV (gainW ⟨1, aye, l, a, n, s⟩ ⟨v, c⟩)) ∧ Below w.heap.size w w' := by
 obtain ⟨q0, q1⟩ := votes_bd ha.1 hl.1
 obtain ⟨m0, m1⟩ := mul_bd ha.1 ha.2 (show 0 ≤ l + 1 by omega) (show l + 1 ≤ 7 by omega) (by omega)
 obtain ⟨a0, a1⟩ := ha
 obtain ⟨l0, l1⟩ := hl
 cases aye
 · go_enter Tryz.func64, Tryz.ntmps64
   go_wp2_with fail
   go_quiet ((go_at_call 75; exact Calls.quiet_of_same ((conv_Votes _ _ _ (by omega) (by omega) (by omega) (by omega)).mono fun e w' h => ⟨h.1, h.2.symm⟩)))
   go_wp2
   exact bodyPost_ret (v := tlV (gainW ⟨1, false, l, a, n, s⟩ ⟨v, c⟩)) (by simp [results, Tryz.results64, go_sem, gainW]) rfl ⟨rfl, (by repeat (first | exact Below.refl _ _ | refine below_dn ?_ _ | refine Below.drew ?_ | refine below_new ?_ _ | refine Below.setCell ?_ (Nat.le_refl _) _ | refine Below.setCell ?_ (Nat.le_succ _) _ | refine Below.setCell ?_ (Nat.le_trans (Nat.le_succ _) (Nat.le_succ _)) _))⟩
 · go_enter Tryz.func64, Tryz.ntmps64
   go_wp2_with fail
   go_quiet ((go_at_call 75; exact Calls.quiet_of_same ((conv_Votes _ _ _ (by omega) (by omega) (by omega) (by omega)).mono fun e w' h => ⟨h.1, h.2.symm⟩)))
   go_wp2
   exact bodyPost_ret (v := tlV (gainW ⟨1, true, l, a, n, s⟩ ⟨v, c⟩)) (by simp [results, Tryz.results64, go_sem, gainW]) rfl ⟨rfl, (by repeat (first | exact Below.refl _ _ | refine below_dn ?_ _ | refine Below.drew ?_ | refine below_new ?_ _ | refine Below.setCell ?_ (Nat.le_refl _) _ | refine Below.setCell ?_ (Nat.le_succ _) _ | refine Below.setCell ?_ (Nat.le_trans (Nat.le_succ _) (Nat.le_succ _)) _))⟩
theorem conv_GainW (x : Bal) (g : Wgt) (w : World) (h : balOk x = true) :
 Calls Tryz.prog 64 #[balS.v x, wgtS.v g] w fun e w' => e = .returned (tlyS.v (gainW x g)) ∧ Below w.heap.size w w' := by
 obtain ⟨k, aye, l, a, n, s⟩ := x
 obtain ⟨v, c⟩ := g
 simp only [balOk, voteB, Bool.and_eq_true] at h
 obtain ⟨⟨⟨⟨h0, h1⟩, h2⟩, h3⟩, -⟩ := h
 obtain ⟨a0, a1⟩ := withinB_out h1
 obtain ⟨n0, n1⟩ := withinB_out h2
 obtain ⟨s0, s1⟩ := withinB_out h3
 by_cases k1 : k = 1
 · subst k1
   simp only [shapedB, if_true, Bool.and_eq_true] at h0
   exact conv_Gain1W aye l a n s v c w ⟨a0, a1⟩ (withinB_out h0.1.1)
 · have hk : k = 2 ∨ k = 3 := by
    by_cases k2 : k = 2
    · exact .inl k2
    · by_cases k3 : k = 3
      · exact .inr k3
      · simp [shapedB, k1, k2, k3] at h0
   refine (conv_Gain2 k hk aye l a n s v c w a0 a1 n0 n1 s0 s1).mono fun e w' ⟨he, hb⟩ => ⟨?_, hb⟩
   rw [he]
   simp [gainA, gainN, gainS, gainW, k1, tlyS, StTy.v]
theorem conv_SubW (x y : Tl) (w : World) : Calls Tryz.prog 63 #[tlyS.v x, tlyS.v y] w fun e w' => e = .returned (tlyS.v (x.sub y)) ∧ Below w.heap.size w w' := conv_Sub x y w
theorem conv_AddW (x y : Tl) (u : Value) (w : World) (hr : RdT w u [y]) : Calls Tryz.prog 65 #[tlyS.v x, u] w fun e w' => e = .returned (tlyS.v (x.add y)) ∧ Below w.heap.size w w' := conv_Add x u [y] w hr (by simp)
theorem conv_CapitalW (x : Bal) (w : World) (h : balOk x = true) : Calls Tryz.prog 60 #[balS.v x] w fun e w' => e = .returned (.int .i64 (x.a + x.n + x.s)) ∧ Below w.heap.size w w' := by
 obtain ⟨k, aye, l, a, n, s⟩ := x
 simp only [balOk, voteB, Bool.and_eq_true] at h
 obtain ⟨⟨⟨⟨h0, h1⟩, h2⟩, h3⟩, -⟩ := h
 exact conv_Capital k aye l a n s w (withinB_out h1) (withinB_out h2) (withinB_out h3)
theorem conv_IsW (x : Bal) (w : World) : Calls Tryz.prog 58 #[balS.v x] w fun e w' => e = .returned (.bool (balOk x)) ∧ Below w.heap.size w w' := conv_Is x.k x.aye x.l x.a x.n x.s w
end
section
open Go.RowKit Go.Maps
set_option maxRecDepth 100000 in
set_option maxHeartbeats 1000000 in
theorem ledger_LockG {g gl : Nat} {w : World} {R : World → Prop} {a i n : Int} (hp : w.cell? ⟨g, 20, none⟩ = some (.pointer (some ⟨gl, 0, none⟩))) (hac : isAcc a)
 (hdel : n = 0 ∨ ¬ isBal n → Calls Tryz.prog 118 #[.pointer (some ⟨gl, 0, none⟩), .int .i64 a, .int .i64 i] w fun e w' => ∃ b : Bool, e = .returned (.bool b) ∧ R w')
 (hset : ¬ (n = 0 ∨ ¬ isBal n) → Calls Tryz.prog 119 #[.pointer (some ⟨gl, 0, none⟩), .int .i64 a, .int .i64 i, .int .i64 n] w fun e w' => e = .returned (.tuple #[]) ∧ R w') :
 Calls Tryz.prog 79 #[.pointer (some ⟨g, 0, none⟩), .int .i64 a, .int .i64 i, .int .i64 n] w fun e w' => e = .returned (.tuple #[]) ∧ R w' := by
 obtain ⟨k, rfl, hk⟩ := isAcc_nat hac
 have HK := Lib.hid hk
 have hex : n = 0 ∨ (¬ n = 0 ∧ ¬ isBal n) ∨ (¬ n = 0 ∧ isBal n) := by by_cases h1 : n = 0; exact .inl h1; by_cases h2 : isBal n; exact .inr (.inr ⟨h1, h2⟩); exact .inr (.inl ⟨h1, h2⟩)
 rcases hex with hn | ⟨hn, hbal⟩ | ⟨hn, hbal⟩
 · have HD := Lib.hid (hdel (.inl hn))
   clear hac hdel hset hk
   go_enter Tryz.func79, Tryz.ntmps79
   go_wp2_with (first
    | (go_at_call 52; refine (ledger_account HK.out _).mono ?_; rintro e w' ⟨rfl, hw⟩; rw [hw]; clear hw w')
    | (go_at_call 118; refine HD.out.mono ?_; rintro e w1 ⟨b, rfl, h1⟩; have H1 := Lib.hid h1; clear h1)
    | fail)
   exact bodyPost_end (results_none rfl _ _ _) rfl ⟨rfl, H1.out⟩
 · have HD := Lib.hid (hdel (.inr hbal))
   have hd : decide (0 ≤ n ∧ n ≤ 1073741824) = false := by unfold isBal at hbal; exact decide_eq_false hbal
   have HB := Lib.hid hd
   clear hac hdel hset hk hd hbal
   go_enter Tryz.func79, Tryz.ntmps79
   go_wp2_with (first
    | (go_at_call 52; refine (ledger_account HK.out _).mono ?_; rintro e w' ⟨rfl, hw⟩; rw [hw]; clear hw w')
    | (go_at_call 72; refine (bound_Balance n _).mono ?_; rw [HB.out]; rintro e w' ⟨rfl, hw⟩; rw [hw]; clear hw w')
    | (go_at_call 118; refine HD.out.mono ?_; rintro e w1 ⟨b, rfl, h1⟩; have H1 := Lib.hid h1; clear h1)
    | fail)
   exact bodyPost_end (results_none rfl _ _ _) rfl ⟨rfl, H1.out⟩
 · have HD := Lib.hid (hset (by simp [hn, hbal]))
   have hd : decide (0 ≤ n ∧ n ≤ 1073741824) = true := by unfold isBal at hbal; exact decide_eq_true hbal
   have HB := Lib.hid hd
   clear hac hdel hset hk hd hbal
   go_enter Tryz.func79, Tryz.ntmps79
   go_wp2_with (first
    | (go_at_call 52; refine (ledger_account HK.out _).mono ?_; rintro e w' ⟨rfl, hw⟩; rw [hw]; clear hw w')
    | (go_at_call 72; refine (bound_Balance n _).mono ?_; rw [HB.out]; rintro e w' ⟨rfl, hw⟩; rw [hw]; clear hw w')
    | (go_at_call 119; refine HD.out.mono ?_; rintro e w1 ⟨rfl, h1⟩; have H1 := Lib.hid h1; clear h1)
    | fail)
   exact bodyPost_end (results_none rfl _ _ _) rfl ⟨rfl, H1.out⟩
def LdX (g N : Nat) (A : Acc) (M : Cls Int) (FL : FP) (w : World) : Prop :=
 ∃ gl F, w.heap[g]? = some (.cells (lcells A gl).toArray 130 (0, 0)) ∧ GrAt codI 186 gl M F w ∧ (∀ k, F k → N ≤ k ∧ k ≠ g) ∧ N ≤ g ∧ AccOk A ∧ M.length ≤ 10000 ∧ ∀ k, FL k ↔ k = g ∨ F k
def LdTo (g N : Nat) (A : Acc) (M : Cls Int) (FL : FP) (w w' : World) : Prop := ∃ F', LdX g N A M F' w' ∧ (∀ k, F' k → FL k ∨ w.heap.size ≤ k) ∧ Only FL (fun _ => False) w w'
section
variable {g N : Nat} {A A' : Acc} {M M' : Cls Int} {FL : FP} {w w' w1 : World}
theorem LdX.at (h : LdX g N A M FL w) : ∃ gl, LdAt N g gl A M w := by
 obtain ⟨gl, F, h1, h2, h3, h4, h5, h6, h7⟩ := h
 exact ⟨gl, h1, ⟨F, h2, h3⟩, h4, h5, h6⟩
theorem LdX.of {gl : Nat} (h : LdAt N g gl A M w) : ∃ FL, LdX g N A M FL w ∧ ∀ k, FL k → N ≤ k := by
 obtain ⟨F, h1, h2⟩ := h.gr
 exact ⟨_, ⟨gl, F, h.blk, h1, h2, h.lo, h.ok, h.len, fun k => Iff.rfl⟩, fun k hk => hk.elim (fun e => by rw [e]; exact h.lo) (fun e => (h2 k e).1)⟩
theorem LdX.lt (h : LdX g N A M FL w) {k : Nat} (hk : FL k) : k < w.heap.size := by
 obtain ⟨gl, F, h1, h2, h3, h4, h5, h6, h7⟩ := h
 rcases (h7 k).1 hk with rfl | e
 · exact (Array.getElem?_eq_some_iff.1 h1).1
 · exact h2.2.2.1 k e
theorem LdX.lo (h : LdX g N A M FL w) {k : Nat} (hk : FL k) : N ≤ k := by
 obtain ⟨gl, F, h1, h2, h3, h4, h5, h6, h7⟩ := h
 rcases (h7 k).1 hk with rfl | e
 · exact h4
 · exact (h3 k e).1
theorem LdX.own (h : LdX g N A M FL w) : FL g := by
 obtain ⟨gl, F, h1, h2, h3, h4, h5, h6, h7⟩ := h
 exact (h7 g).2 (.inl rfl)
theorem LdX.keep (h : LdX g N A M FL w) (hg : Grow w w') (hk : ∀ k, FL k → w'.heap[k]? = w.heap[k]?) : LdX g N A M FL w' := by
 obtain ⟨gl, F, h1, h2, h3, h4, h5, h6, h7⟩ := h
 exact ⟨gl, F, (hk g ((h7 g).2 (.inl rfl))).trans h1, h2.keep hg (fun k hf => hk k ((h7 k).2 (.inr hf))), h3, h4, h5, h6, h7⟩
theorem LdX.below (h : LdX g N A M FL w) (hb : Below w.heap.size w w') : LdX g N A M FL w' := h.keep (Grow.of_below hb) (fun k hk => hb.block k (h.lt hk))
theorem LdX.size (h : LdX g N A M FL w) : N ≤ w.heap.size := Nat.le_of_lt (Nat.lt_of_le_of_lt (h.lo h.own) (h.lt h.own))
theorem LdX.srt (h : LdX g N A M FL w) : SrtC M ∧ AccOk A ∧ M.length ≤ 10000 := by
 obtain ⟨gl, F, h1, h2, h3, h4, h5, h6, h7⟩ := h
 exact ⟨h2.1, h5, h6⟩
theorem LdTo.of_below (h : LdX g N A M FL w) (hb : Below w.heap.size w w') : LdTo g N A M FL w w' := ⟨FL, h.below hb, fun k hk => .inl hk, Only.of_later hb⟩
theorem ledger_LockX (h : LdX g N A M FL w) (hlen : M.length < 10000) {a i : Int} (hac : isAcc a) (ha : (Lit.int .i64 a).wf = true) (hi : (Lit.int .i64 i).wf = true) (n : Int) : Calls Tryz.prog 79 #[.pointer (some ⟨g, 0, none⟩), .int .i64 a, .int .i64 i, .int .i64 n] w fun e w' => e = .returned (.tuple #[]) ∧ LdTo g N A (lockM M a i n) FL w w' := by
 obtain ⟨gl, h0⟩ := h.at
 have hN := h.size
 obtain ⟨gl, F, h1, hF, hF2, h4, h5, h6, h7⟩ := h
 have h0 : LdAt N g gl A M w := ⟨h1, ⟨F, hF, hF2⟩, h4, h5, h6⟩
 have hM : (lockM M a i n).length ≤ 10000 := by have := lockM_len h0.srt a i n; omega
 have fin : ∀ w', GrTo codI 186 gl (lockM M a i n) F w w' → LdTo g N A (lockM M a i n) FL w w' := fun w' ht => by
  obtain ⟨F', k1, k2, k3⟩ := ht
  refine ⟨_, ⟨gl, F', (k3.block g h0.lt (fun hf => (hF2 g hf).2 rfl) (fun h => h)).trans h1, k1, fun k hk => (k2 k hk).elim (hF2 k) (fun hk => by have := h0.lt; omega), h4, h5, hM, fun k => Iff.rfl⟩, fun k hk => ?_, k3.grow, fun k hk h8 h9 => k3.block k hk (fun e => h8 ((h7 k).2 (.inr e))) h9⟩
  rcases hk with e | e
  · exact .inl ((h7 k).2 (.inl e))
  · exact (k2 k e).imp (fun e => (h7 k).2 (.inr e)) id
 refine ledger_LockG (R := fun w' => LdTo g N A (lockM M a i n) FL w w') h0.ptr hac (fun hc => ?_) (fun hc => ?_)
 · have e : lockM M a i n = cdel M a i := by unfold lockM; rw [if_neg (by simp [hac]), if_pos hc]
   rw [e] at fin ⊢
   refine (grid_Del_I hF (by omega) ha hi).mono ?_
   rintro e w' ⟨rfl, h3⟩
   exact ⟨_, rfl, fin w' h3⟩
 · have e : lockM M a i n = cput M a i n := by unfold lockM; rw [if_neg (by simp [hac]), if_neg hc]
   rw [e] at fin ⊢
   refine (grid_Set_I hF (by omega) ha hi n).mono ?_
   rintro e w' ⟨rfl, h3⟩
   exact ⟨rfl, fin w' h3⟩
theorem ledger_TransferX (h : LdX g N A M FL w) {a : Int} (ha : (Lit.int .i64 a).wf = true) (b n : Int) : Calls Tryz.prog 38 #[.pointer (some ⟨g, 0, none⟩), .int .i64 a, .int .i64 b, .int .i64 n] w fun e w' => e = .returned (.int .i64 (transE A M a b n)) ∧ LdTo g N (transA A M a b n) M FL w w' := by
 obtain ⟨gl, F, h1, hF, hF2, h4, h5, h6, h7⟩ := h
 have h0 : LdAt N g gl A M w := ⟨h1, ⟨F, hF, hF2⟩, h4, h5, h6⟩
 have hN : N ≤ w.heap.size := Nat.le_of_lt (Nat.lt_of_le_of_lt h4 h0.lt)
 refine (ledger_TransferF h0 hN ha b n).mono ?_
 rintro e w' ⟨he, k1, k2, k3⟩
 exact ⟨he, FL, ⟨gl, F, k1.blk, hF.keep (Grow.of_below k2) (fun k hk => k3 k (hF.2.2.1 k hk) (hF2 k hk).2), hF2, h4, k1.ok, h6, h7⟩, fun k hk => .inl hk, Grow.of_below k2, fun k hk h8 h9 => k3 k hk (fun e => h8 ((h7 k).2 (.inl e)))⟩
theorem ledger_FreeX (h : LdX g N A M FL w) (a : Int) : Calls Tryz.prog 19 #[.pointer (some ⟨g, 0, none⟩), .int .i64 a] w fun e w' => e = .returned (.int .i64 (accOf A a).1) ∧ w' = w := by
 obtain ⟨gl, h0⟩ := h.at
 exact ledger_Free h0 a
theorem ledger_LockedX (h : LdX g N A M FL w) {a : Int} (ha : (Lit.int .i64 a).wf = true) : Calls Tryz.prog 18 #[.pointer (some ⟨g, 0, none⟩), .int .i64 a] w fun e w' => e = .returned (.int .i64 (lockedOf M a)) ∧ Below w.heap.size w w' := by
 obtain ⟨gl, h0⟩ := h.at
 exact ledger_Locked h0 ha
end
def LvAt (g vb N : Nat) (S : Vs) (A : Acc) (M : Cls Int) (Zn : FP) (w : World) : Prop := ∃ F FL, VoX vb N S F w ∧ LdX g N A M FL w ∧ (∀ k, F k → ¬ FL k) ∧ ∀ k, Zn k ↔ F k ∨ FL k
def LvTo (g vb N : Nat) (S : Vs) (A : Acc) (M : Cls Int) (Zn : FP) (w w' : World) : Prop := ∃ Z', LvAt g vb N S A M Z' w' ∧ (∀ k, Z' k → Zn k ∨ w.heap.size ≤ k) ∧ Only Zn (fun _ => False) w w'
theorem only_cons {F Zn : FP} {w W W' : World} (h : Only Zn (fun _ => False) w W) (h2 : ∀ k, F k → Zn k ∨ w.heap.size ≤ k) (k : Only F (fun _ => False) W W') : Only Zn (fun _ => False) w W' :=
 ⟨h.grow.trans k.grow, fun j hj h4 h5 => (k.block j (Nat.lt_of_lt_of_le hj h.grow.size) (fun e => (h2 j e).elim h4 (fun e => by omega)) (fun h => h)).trans (h.block j hj h4 (fun h => h))⟩
section
variable {g vb N : Nat} {S S' : Vs} {A A' : Acc} {M M' : Cls Int} {Zn : FP} {w w' W : World}
theorem LvAt.lt (h : LvAt g vb N S A M Zn w) {k : Nat} (hk : Zn k) : k < w.heap.size := by
 obtain ⟨F, FL, h1, h2, h3, h4⟩ := h
 exact ((h4 k).1 hk).elim h1.lt h2.lt
theorem LvAt.lo (h : LvAt g vb N S A M Zn w) {k : Nat} (hk : Zn k) : N ≤ k := by
 obtain ⟨F, FL, h1, h2, h3, h4⟩ := h
 exact ((h4 k).1 hk).elim h1.lo h2.lo
theorem LvAt.keep (h : LvAt g vb N S A M Zn w) (hg : Grow w w') (hk : ∀ k, Zn k → w'.heap[k]? = w.heap[k]?) : LvAt g vb N S A M Zn w' := by
 obtain ⟨F, FL, h1, h2, h3, h4⟩ := h
 exact ⟨F, FL, h1.keep hg (fun k hf => hk k ((h4 k).2 (.inl hf))), h2.keep hg (fun k hf => hk k ((h4 k).2 (.inr hf))), h3, h4⟩
theorem LvAt.below (h : LvAt g vb N S A M Zn w) (hb : Below w.heap.size w w') : LvAt g vb N S A M Zn w' := h.keep (Grow.of_below hb) (fun k hk => hb.block k (h.lt hk))
theorem LvAt.size (h : LvAt g vb N S A M Zn w) : N ≤ w.heap.size := by obtain ⟨F, FL, h1, h2, h3, h4⟩ := h; exact h1.size
theorem LvTo.of_below (h : LvAt g vb N S A M Zn w) (hb : Below w.heap.size w w') : LvTo g vb N S A M Zn w w' := ⟨Zn, h.below hb, fun k hk => .inl hk, Only.of_later hb⟩
theorem LvAt.vo (h : LvAt g vb N S A M Zn w) : ∃ F, VoX vb N S F w ∧ ∀ S' w', VoTo vb N S' F w w' → LvTo g vb N S' A M Zn w w' := by
 obtain ⟨F, FL, h1, h2, h3, h4⟩ := h
 refine ⟨F, h1, fun S' w' ⟨F', k1, k2, k3⟩ => ⟨fun k => F' k ∨ FL k, ⟨F', FL, k1, h2.keep k3.grow (fun k hk => k3.block k (h2.lt hk) (fun e => h3 k e hk) (fun h => h)), fun k hk hl => (k2 k hk).elim (fun e => h3 k e hl) (fun e => by have := h2.lt hl; omega), fun k => Iff.rfl⟩, fun k hk => ?_, k3.grow, fun k hk h5 h6 => k3.block k hk (fun e => h5 ((h4 k).2 (.inl e))) h6⟩⟩
 rcases hk with e | e
 · exact (k2 k e).imp (fun e => (h4 k).2 (.inl e)) id
 · exact .inl ((h4 k).2 (.inr e))
theorem LvAt.ld (h : LvAt g vb N S A M Zn w) : ∃ FL, LdX g N A M FL w ∧ ∀ A' M' w', LdTo g N A' M' FL w w' → LvTo g vb N S A' M' Zn w w' := by
 obtain ⟨F, FL, h1, h2, h3, h4⟩ := h
 refine ⟨FL, h2, fun A' M' w' ⟨F', k1, k2, k3⟩ => ⟨fun k => F k ∨ F' k, ⟨F, F', h1.keep k3.grow (fun k hk => k3.block k (h1.lt hk) (fun e => h3 k hk e) (fun h => h)), k1, fun k hk hl => (k2 k hl).elim (fun e => h3 k hk e) (fun e => by have := h1.lt hk; omega), fun k => Iff.rfl⟩, fun k hk => ?_, k3.grow, fun k hk h5 h6 => k3.block k hk (fun e => h5 ((h4 k).2 (.inr e))) h6⟩⟩
 rcases hk with e | e
 · exact .inl ((h4 k).2 (.inl e))
 · exact (k2 k e).imp (fun e => (h4 k).2 (.inr e)) id
end
end
section
open Go.RowKit Go.Maps Go.Shelf
attribute [local go_sem] Oper.semAt_some
theorem IterF.iterI {P : Program} {α : Type} {n gf : Nat} {lb : Array Value} {encs : α → Array Value} {xs : List α} {G : FP} {w : World} (h : IterF P n gf lb encs xs G w) : Iter P n gf lb encs xs G w :=
 fun l B Ψ J Jx Φ0 W hg hG hΨ hΦ hJ hJx hr h0 => h l B Ψ J Jx Φ0 W hg hG (fun k hk => (hΨ k hk).1) hJ hJx hr h0
theorem locks_ofV (l : Value) (a : Int) (xs : List (Int × Int)) (hlen : xs.length ≤ 1000000) (w : World) (hrow : Calls Tryz.prog 51 #[l, .int .i64 a] w fun e w'' => ∃ f, e = .returned f ∧ Way Tryz.prog encs_I f xs w'' ∧ Below w.heap.size w w'') :
 Calls Tryz.prog 108 #[l, .int .i64 a] w fun e w' => ∃ bx v, e = .returned (.func (.func 136) #[] #[.pointer (some ⟨bx, 0, none⟩)]) ∧ Boxed w' bx 204 v ∧ OwnR pair_I (bx + 1) v xs w' ∧ w.heap.size ≤ bx ∧ Below w.heap.size w w' := by
 have HROW := Lib.hid hrow
 clear hrow
 go_enter Tryz.func108, Tryz.ntmps108
 go_wp2_with (first
  | (go_at_call 51; refine HROW.out.mono ?_; rintro e w1 ⟨f, rfl, hway, hb⟩; obtain ⟨gf, lb, rfl, hit⟩ := hway; have H1 := Lib.hid (And.intro hit hb); clear hit hb)
  | (go_at_call 125; refine (still_Now_I gf lb xs w1 H1.out.1.1 (H1.out.1.2 0).iterI hlen).mono ?_; rintro e w2 ⟨v, rfl, hbx, ho, hb⟩; have H2 := Lib.hid (And.intro hbx (And.intro ho hb)); clear hbx ho hb)
  | fail)
 go_ret
 exact ⟨_, v, rfl, H2.out.1, H2.out.2.1, H1.out.2.size, H1.out.2.trans (H2.out.2.2.mono H1.out.2.size)⟩
theorem ledger_LocksX {g N : Nat} {A : Acc} {M : Cls Int} {FL : FP} {w : World} (h : LdX g N A M FL w) {a : Int} (ha : (Lit.int .i64 a).wf = true) :
 Calls Tryz.prog 108 #[.pointer (some ⟨g, 0, none⟩), .int .i64 a] w fun e w' => ∃ bx v, e = .returned (.func (.func 136) #[] #[.pointer (some ⟨bx, 0, none⟩)]) ∧ Boxed w' bx 204 v ∧ OwnR pair_I (bx + 1) v (rowOf M a) w' ∧ w.heap.size ≤ bx ∧ Below w.heap.size w w' := by
 obtain ⟨gl, h0⟩ := h.at
 exact locks_ofV _ a _ (Nat.le_trans (row_length M a) (by have := h0.len; omega)) w (ledger_row h0 ha)
def enough (t n : Int) (x : Int × Int) : Prop := x.1 = t ∧ n ≤ x.2
instance (t n : Int) (x : Int × Int) : Decidable (enough t n x) := by unfold enough; infer_instance
def raiseM (M : Cls Int) (a t n : Int) : Cls Int := if ∃ x ∈ rowOf M a, enough t n x then M else lockM M a t n
def RsI (N0 tb nb : Nat) (t n : Int) (pre : List (Int × Int)) (Φ : FP) (W : World) : Prop := (∀ k, ¬ Φ k) ∧ Boxed W tb 3 (.int .i64 t) ∧ Boxed W nb 3 (.int .i64 n) ∧ (∀ x ∈ pre, ¬ enough t n x) ∧ N0 ≤ W.heap.size
theorem RsI.stab {N0 tb nb : Nat} {t n : Int} (h1 : tb < N0) (h2 : nb < N0) : Stab N0 (RsI N0 tb nb t n) := by
 rintro pre Φ W ⟨h0, h3, h4, h5, hs⟩
 exact ⟨fun k hk => (h0 k hk).elim, hs, fun W' hg hk => ⟨h0, (hk tb (.inl h1)).trans h3, (hk nb (.inl h2)).trans h4, h5, Nat.le_trans hs hg.size⟩⟩
def RsX (N0 : Nat) (t n : Int) (c : Code) (pre : List (Int × Int)) (Φ : FP) (W : World) : Prop := (∀ k, ¬ Φ k) ∧ c = .ret ∧ (∃ x ∈ pre, enough t n x) ∧ N0 ≤ W.heap.size
theorem RsX.stab {N0 : Nat} {t n : Int} (c : Code) : Stab N0 (RsX N0 t n c) := by
 rintro pre Φ W ⟨h0, h3, h5, hs⟩
 exact ⟨fun k hk => (h0 k hk).elim, hs, fun W' hg hk => ⟨h0, h3, h5, Nat.le_trans hs hg.size⟩⟩
set_option maxHeartbeats 4000000 in
set_option maxRecDepth 100000 in
theorem raise_X {g N : Nat} {A : Acc} {M : Cls Int} {FL : FP} {w : World} (h : LdX g N A M FL w) (hlen : M.length < 10000) {a t : Int} (hac : isAcc a) (ha : (Lit.int .i64 a).wf = true) (ht : (Lit.int .i64 t).wf = true) (n : Int) :
 Calls Tryz.prog 67 #[.pointer (some ⟨g, 0, none⟩), .int .i64 a, .int .i64 t, .int .i64 n] w fun e w' => e = .returned (.tuple #[]) ∧ LdTo g N A (raiseM M a t n) FL w w' := by
 obtain ⟨tb, htb⟩ : ∃ tb, tb = w.heap.size := ⟨_, rfl⟩
 obtain ⟨w1, hw1⟩ : ∃ w1, w1 = (w.alloc (.cells #[.int .i64 t] 3)).alloc (.cells #[.int .i64 n] 3) := ⟨_, rfl⟩
 have hb1 : Below w.heap.size w w1 := by rw [hw1]; exact ((Below.refl _ w).alloc (Nat.le_refl _) _).alloc (by simp) _
 have x0 : Boxed w1 w.heap.size 3 (.int .i64 t) := by rw [hw1]; exact (Boxed.new w _ _).alloc _
 have x1 : Boxed w1 (w.heap.size + 1) 3 (.int .i64 n) := by
  have := Boxed.new (w.alloc (.cells #[.int .i64 t] 3)) 3 (.int .i64 n)
  rw [World.size_alloc] at this
  rw [hw1]; exact this
 have hs1 : w1.heap.size = w.heap.size + 2 := by rw [hw1]; simp
 have hlk := ledger_LocksX (h.below hb1) ha
 refine (callsIn_wide (n := 2)).1 ?_
 refine callsIn_of_wp_marks Tryz.func67 rfl trivial ?_ rfl
 simp only [Tryz.ntmps67, List.size_toArray, List.length_cons, List.length_nil, Nat.reduceAdd, Nat.reduceSub, Array.replicate_succ, Array.replicate_zero, List.push_toArray, List.append_toArray, List.nil_append, List.cons_append]
 have HW1 := Lib.hid hw1
 have H1 := Lib.hid (And.intro hb1 (And.intro x0 (And.intro x1 hs1)))
 have HLK := Lib.hid hlk
 have HH := Lib.hid (And.intro h (And.intro hlen (And.intro hac (And.intro ha ht))))
 clear hw1 hb1 x0 x1 hs1 hlk h hlen hac ha ht
 gi_wp2_with (first
  | (refine ⟨trivial, ?_⟩; gi_at_call 108; rw [← HW1.out]; refine (callsIn_wide.2 HLK.out).mono ?_; rintro e w2 ⟨bx, v, rfl, hbx, ho, hn, hb⟩; have H2 := Lib.hid (And.intro hbx (And.intro ho (And.intro hn hb))); clear hbx ho hn hb)
  | fail)
 obtain ⟨hb1, x0, x1, hs1⟩ := H1.out
 obtain ⟨hbx, ho, hn, hb2⟩ := H2.out
 rw [← htb] at x0 x1 ⊢
 obtain ⟨nb, hnb⟩ : ∃ nb, nb = tb + 1 := ⟨_, rfl⟩
 rw [← hnb] at x1 ⊢
 have y0 : Boxed w2 tb 3 (.int .i64 t) := (hb2.block tb (by omega)).trans x0
 have y1 : Boxed w2 nb 3 (.int .i64 n) := (hb2.block nb (by omega)).trans x1
 have s2 := hb2.size
 have hit := now1_iter_I 0 bx v (rowOf M a) w2 hbx ho.reads (Nat.le_trans (row_length M a) (by have := HH.out.2.1; omega)) (fun k => k = bx ∨ v.ownBlock = some k) (.inl rfl) (fun k hk => .inr hk)
 have hGl : ∀ k, (k = bx ∨ v.ownBlock = some k) → k < w2.heap.size := fun k hk => hk.elim (fun e => by rw [e]; exact hbx.lt) (fun e => (ho.block e).2)
 have hbW : Below w.heap.size w w2 := hb1.trans (hb2.mono hb1.size)
 have htl : tb < w2.heap.size := by omega
 have hnl : nb < w2.heap.size := by omega
 have hwl : w.heap.size ≤ w2.heap.size := hbW.size
 have HBW := Lib.hid (And.intro hbW (And.intro htb hnb))
 clear hb1 x0 x1 hs1 hbx ho hn hb2 hbW htb hnb s2
 refine range_outer (n := 0) (gf := 136) (lb := #[.pointer (some ⟨bx, 0, none⟩)]) rfl enters_now_I hit (Grow.refl w2) (fun k hk => ⟨hGl k hk, rfl⟩) (fun _ => rfl)
  (fun k => False) (fun k hk => hk.elim) (RsI w2.heap.size tb nb t n) (RsX w2.heap.size t n) (RsI.stab htl hnl) RsX.stab ⟨fun _ h => h, y0, y1, (fun x hx => by cases hx), Nat.le_refl _⟩
  (fun x => { tmps := #[.pointer (some ⟨g, 0, none⟩), .int .i64 a, .int .i64 t, .int .i64 n, undef, undef, .pointer (some ⟨tb, 0, none⟩), .pointer (some ⟨nb, 0, none⟩), .int .i64 x.1, .int .i64 x.2, .pointer (some ⟨g, 0, none⟩), .int .i64 a, .func (.func 136) #[] #[.pointer (some ⟨bx, 0, none⟩)], .int .i64 x.1, .int .i64 x.2, undef, undef, undef, undef, undef, undef, undef, undef, undef, undef, undef, undef, undef], defers := [] }) ?assign ?body ?done ?stop
 case assign =>
  intro l x W K hK
  simp only [encs_I]
  gi_wp2
  exact hK
 case body =>
  rintro l pre x Φ W hpx ⟨hno, b0, b1, hpre, hsz⟩ hl hΦ -
  have c0 := b0.cell
  have c1 := b1.cell
  obtain ⟨i, hi⟩ : ∃ i, i = x.1 := ⟨_, rfl⟩
  obtain ⟨m, hm⟩ : ∃ m, m = x.2 := ⟨_, rfl⟩
  have hen : enough t n x ↔ i = t ∧ n ≤ m := by rw [hi, hm]; exact Iff.rfl
  rw [← hi, ← hm]
  have HS := Lib.hid (And.intro hno (And.intro b0 (And.intro b1 (And.intro hpre (And.intro hsz hen)))))
  clear hi hm hno b0 b1 hpre hsz hen hit hGl hpx y0 y1
  by_cases q1 : i = t
  · have q1' : (i == t) = true := by simpa using q1
    by_cases q2 : n ≤ m
    · have HQ := Lib.hid (And.intro q1 q2)
      clear q1
      gi_wp2_with fail
      obtain ⟨hno, b0, b1, hpre, hsz, hen⟩ := HS.out
      exact ⟨Φ, fun k h => .inl h, Only.refl _ _ _, hno, rfl, ⟨x, by simp, hen.2 HQ.out⟩, hsz⟩
    · have q2' : ¬ (m ≥ n) := q2
      have HQ := Lib.hid q2
      clear q1
      gi_wp2_with fail
      obtain ⟨hno, b0, b1, hpre, hsz, hen⟩ := HS.out
      exact ⟨Φ, fun k h => .inl h, Only.refl _ _ _, hno, b0, b1, fun y hy => (List.mem_append.1 hy).elim (hpre y) (fun hy => by rw [List.mem_singleton.1 hy, hen]; exact fun h => absurd h.2 (by have := HQ.out; omega)), hsz⟩
  · have q1' : (i == t) = false := by simpa using q1
    have HQ := Lib.hid q1
    clear q1
    gi_wp2_with fail
    obtain ⟨hno, b0, b1, hpre, hsz, hen⟩ := HS.out
    exact ⟨Φ, fun k h => .inl h, Only.refl _ _ _, hno, b0, b1, fun y hy => (List.mem_append.1 hy).elim (hpre y) (fun hy => by rw [List.mem_singleton.1 hy, hen]; exact fun h => HQ.out h.1), hsz⟩
 case done =>
  rintro D Φ W3 ⟨hno, b0, b1, hpre, hsz⟩ hon hD hnD hK
  have c0 := b0.cell
  have c1 := b1.cell
  have hb3 : Below w2.heap.size w2 W3 := ⟨hon.grow.os, hon.grow.tape, hon.grow.output, hon.grow.size, fun k hk => hon.block k hk (fun h => h) (fun h => h)⟩
  have hbW : Below w.heap.size w W3 := HBW.out.1.trans (hb3.mono hwl)
  have hlock := ledger_LockX (HH.out.1.below hbW) HH.out.2.1 HH.out.2.2.1 HH.out.2.2.2.1 HH.out.2.2.2.2 n
  have hDl : D < W3.heap.size := (Array.getElem?_eq_some_iff.1 hK).1
  have eM : raiseM M a t n = lockM M a t n := if_neg (fun ⟨x, hx, he⟩ => hpre x hx he)
  have HD := Lib.hid (And.intro hbW (And.intro hD (And.intro hK (And.intro hDl eM))))
  have HLO := Lib.hid hlock
  clear hno b0 b1 hpre hsz hon hD hK hnD hit hGl hb3 hbW hlock hDl eM y0 y1
  gi_wp2_with (first
   | (refine ⟨trivial, ?_⟩; gi_at_call 79; refine (callsIn_wide.2 HLO.out).mono ?_; rintro e w4 ⟨rfl, ht⟩; have H4 := Lib.hid ht; clear ht)
   | fail)
  obtain ⟨hbW, hD, hK, hDl, eM⟩ := HD.out
  obtain ⟨F4, k1, k2, k3⟩ := H4.out
  have hFD : ∀ k, F4 k → k ≠ D := fun k hk e => (k2 k hk).elim (fun h => by have := HH.out.1.lt h; omega) (fun h => by omega)
  have hKD : w4.heap[D]? = some (.deferred (some [])) := (k3.block D hDl (fun h => by have := HH.out.1.lt h; omega) (fun h => h)).trans hK
  refine marks_leave [D] w4 (by simp) (fun d hd => ?_) (fun w' hg hk => ⟨_, results_none rfl _ _ _, rfl, ?_⟩)
  · simp only [List.mem_cons, List.not_mem_nil, or_false] at hd
    subst hd; exact hKD
  · rw [eM]
    have hs4 := k3.grow.size
    refine ⟨F4, k1.keep hg (fun k hk' => hk k (by simp; exact hFD k hk')), fun k hk' => (k2 k hk').imp id (fun h => by have := hbW.size; omega), (Grow.of_below hbW).trans (k3.grow.trans hg), fun k hk' h1 h2 => ?_⟩
    rw [hk k (by simp; omega), k3.block k (by have := hbW.size; omega) h1 (fun h => h)]
    exact hbW.block k hk'
 case stop =>
  rintro D Φ c pre W3 hpre ⟨hno, rfl, ⟨x, hx, he⟩, hsz⟩ hon hD hnD hK
  have hb3 : Below w2.heap.size w2 W3 := ⟨hon.grow.os, hon.grow.tape, hon.grow.output, hon.grow.size, fun k hk => hon.block k hk (fun h => h) (fun h => h)⟩
  have hbW : Below w.heap.size w W3 := HBW.out.1.trans (hb3.mono hwl)
  have eM : raiseM M a t n = M := if_pos ⟨x, hpre.subset hx, he⟩
  have HD := Lib.hid (And.intro hbW (And.intro hD (And.intro hK eM)))
  clear hno hpre hx he hsz hon hD hK hnD hit hGl hb3 hbW eM y0 y1
  gi_wp2_with fail
  obtain ⟨hbW, hD, hK, eM⟩ := HD.out
  refine marks_leave [D] W3 (by simp) (fun d hd => ?_) (fun w' hg hk => ⟨_, results_none rfl _ _ _, rfl, ?_⟩)
  · simp only [List.mem_cons, List.not_mem_nil, or_false] at hd
    subst hd; exact hK
  · rw [eM]
    refine LdTo.of_below HH.out.1 ⟨hg.os.trans hbW.os, hg.tape.trans hbW.tape, hg.output.trans hbW.output, Nat.le_trans hbW.size hg.size, fun k hk' => ?_⟩
    rw [hk k (by simp; omega)]
    exact hbW.block k hk'
end
section
open Go.RowKit
section
variable {P : Program} {ops : Array Oper} {md : Region.Mode} {n lp : Nat} {Q : Exit → Act → World → Prop}
theorem rowsIn_wideV {row : String} {args : Array Value} {w : World} {R : Value → World → Prop} (h : Rows P row args w R) : RowsIn Fence.wide n P row args w R :=
 fun c cs _ => let ⟨v, w', r, s⟩ := h c cs; ⟨v, w', r, stepsIn_wide.2 s⟩
theorem wpIn_of_wpR {o : Oper} (hd : ∀ c, o.op ≠ .defer c) (hQ : ¬ LetsOut Q) {a : Act} {w : World} {K : Act → World → Prop} (hh : o.wp P a w K Q) : o.wpIn (Fence.wide.inRound lp) n P a w K Q := by
 unfold Oper.wp at hh
 unfold Oper.wpIn
 refine ⟨fun f _ => trivial, ?_⟩
 have e : o.semAt (Fence.wide.inRound lp).round a.eval = execOp a.eval o := Oper.semAt_eq _ _ _ hd
 rw [e]
 generalize (execOp a.eval o).run P w = r at *
 cases r with
 | ok x w' =>
  cases x <;> simp only [Oper.upon] at hh <;> simp only [Oper.uponIn]
  case enter f args => exact ⟨fun h => by simp [Fence.wide] at h, CallsIn.inRound lp (callsIn_wide.2 hh)⟩
  case row row args => exact ⟨fun h => by simp [Fence.wide] at h, rowsIn_wideV hh⟩
  all_goals exact hh
 | halt x w' => cases x <;> simp only [Oper.upon] at hh <;> simp only [Oper.uponIn] <;> exact hh
theorem wpAnyIn_of_wpAnyR (hdf : ∀ (i : Nat) (o : Oper), ops[i]? = some o → ∀ c, o.op ≠ .defer c) (hQ : ¬ LetsOut Q) : ∀ (fuel : Nat) (listed : Array Bool) (a : Act) (w : World), wpAny P md ops Q fuel listed a w → wpAnyIn (Fence.wide.inRound lp) n P md ops Q fuel listed a w
 | 0, _, _, _, h => h
 | fuel + 1, listed, a, w, h => ⟨h.1, fun i hi => by
  have h1 := wpOp_mono (fun a' w' h' => wpAnyIn_of_wpAnyR hdf hQ fuel _ a' w' h') (h.2 i hi)
  unfold wpOp at h1
  unfold wpOpIn
  split
  · rename_i ho; simp only [ho] at h1; exact h1
  · rename_i o ho
    simp only [ho] at h1
    split
    · rename_i hw; simp only [hw, if_true] at h1; exact wpIn_of_wpR (hdf _ _ ho) hQ (h1.resolve_right (fun h => hQ h.2))
    · rename_i hw; simp only [hw] at h1; exact ⟨fun f _ => trivial, h1⟩⟩
theorem wpIn_region_heldR {S : World → Prop} {id : Nat} {R : Act → World → Prop} {a : Act} {w : World} {l : List Oper} (hm : P.follows .mixedOrders = true) (hdb : l.all (fun o => match o.op with | .defer _ => false | _ => true) = true) (hS : S w.drew)
 (h : S w.drew → wpAnyH P .any l.toArray (Exit.then R (fun _ _ _ => False)) S l.toArray.size (Array.replicate l.toArray.size false) a w.drew) (hK : ∀ a w, R a w → Q .normal a w) : (Code.region id l.toArray true).wpIn (Fence.wide.inRound lp) n P Q a w := by
 have hdf : ∀ (i : Nat) (o : Oper), l.toArray[i]? = some o → ∀ c, o.op ≠ .defer c := fun i o ho c hc => by
  have hm := List.all_eq_true.1 hdb o (List.mem_of_getElem? (by simpa using ho))
  rw [hc] at hm; cases hm
 refine wpIn_mono (wpIn_region_any hm (wpAnyIn_of_wpAnyR hdf (fun ⟨a, w, h⟩ => h) _ _ _ _ (wpAny_of_held _ _ _ _ (h hS)))) (fun e a w hq => by cases e <;> first | exact hK _ _ hq | exact hq.elim)
end
end
end Go.Proofs.YtbpemdihoabbcaaGreat
