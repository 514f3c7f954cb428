/-
  Joined texts.
-/
import Derived.Deep.RegionLaw
import Derived.Laws.OwnMore
import Derived.BigRegion
import Derived.RegionTactic
import Derived.Deep.QuietTactic
import Derived.BigQuiet
import Derived.WalkKit
import Derived.ProofKit
import Derived.OpenShut
import Derived.Carry
import Derived.Below
import Derived.ChangeOld
import Derived.Test.YtoohcckhdhfpnaaMgc

section
namespace Go.Proofs.Ytoohcckhdhfpnaa
open Go.RowKit Go.Maps Go.Shelf
set_option linter.unusedVariables false
set_option linter.unusedSimpArgs false

def mintE (A : Acc) (a n : Int) : Int := if ¬ isAcc a ∨ ¬ isBal n then 1 else if 1073741824 < sumTo A 10 + n then 10 else 0
def mintA (A : Acc) (a n : Int) : Acc := if mintE A a n = 0 then giveA A a.toNat n else A
def lockM (M : Cls Int) (a i n : Int) : Cls Int := if ¬ isAcc a then M else if n = 0 ∨ ¬ isBal n then cdel M a i else cput M a i n
theorem lockM_len {M : Cls Int} (h : SrtC M) (a i n : Int) : (lockM M a i n).length ≤ M.length + 1 := by
  unfold lockM
  split
  · omega
  · split
    · have := h.length_del a i; omega
    · rw [h.length_put]; split <;> omega
section
variable {N g gl : Nat} {A : Acc} {M : Cls Int} {w : World}
set_option maxRecDepth 100000 in
set_option maxHeartbeats 1000000 in
theorem ledger_Mint (h : LdAt N g gl A M w) (hN : N ≤ w.heap.size) (a n : Int) : Calls Try.prog 23 #[.pointer (some ⟨g, 0, none⟩), .int .i64 a, .int .i64 n] w fun e w' => e = .returned (.int .i64 (mintE A a n)) ∧ LdAt N g gl (mintA A a n) M w' ∧ Below N w w' := by
  have hok := h.ok
  by_cases hac : isAcc a
  · obtain ⟨k, rfl, hk⟩ := isAcc_nat hac
    have HK := Lib.hid hk
    by_cases hbal : isBal n
    · have hbal' := hbal
      unfold isBal at hbal'
      have hd : decide (0 ≤ n ∧ n ≤ 1073741824) = true := decide_eq_true hbal'
      obtain ⟨s, hs⟩ : ∃ s, s = sumTo A 10 := ⟨_, rfl⟩
      have hs0 : 0 ≤ s ∧ s ≤ 1073741824 := by rw [hs]; exact hok.part (Nat.le_refl _)
      have hn1 : IntKind.i64.wrap (s + n) = s + n := IntWalk.i64_in _ (by omega)
      obtain ⟨sn, hsn⟩ : ∃ sn, sn = s + n := ⟨_, rfl⟩
      rw [← hsn] at hn1
      have hiss := ledger_Issued h
      rw [← hs] at hiss
      by_cases hov : 1073741824 < sn
      · have e : mintE A k n = 10 := by unfold mintE; rw [if_neg (by simp [hac, hbal]), if_pos (by omega)]
        have e2 : mintA A k n = A := by unfold mintA; rw [e]; rfl
        have hd2 : decide (0 ≤ sn ∧ sn ≤ 1073741824) = false := decide_eq_false (by omega)
        rw [e, e2]
        have HI := Lib.hid hiss
        have HD := Lib.hid (And.intro hd hd2)
        have HH := Lib.hid (And.intro h hN)
        have hn2 : IntKind.i64.wrap (s + n) = sn := by rw [← hsn]; exact hn1
        clear hok hac hbal hbal' hd hs hs0 hn1 hiss hov e e2 hd2 h hN hk hsn
        go_enter Try.func23, Try.ntmps23
        have tok : True := trivial
        go_wp2_with (first
          | (go_at_call 36; refine (ledger_account HK.out _).mono ?_; rintro e w' ⟨rfl, hw⟩; rw [hw]; clear hw w')
          | (go_at_call 11; have _t := tok; refine (bound_Balance n _).mono ?_; rw [HD.out.1]; rintro e w' ⟨rfl, hw⟩; rw [hw]; clear hw w' tok)
          | (go_at_call 12; refine HI.out.mono ?_; rintro e w1 ⟨rfl, hb⟩; have H1 := Lib.hid hb; clear hb)
          | (go_at_call 11; refine (bound_Balance sn _).mono ?_; rw [HD.out.2]; rintro e w' ⟨rfl, hw⟩; rw [hw]; clear hw w')
          | fail)
        go_ret
        exact ⟨rfl, HH.out.1.below H1.out, H1.out.mono HH.out.2⟩
      · have e : mintE A k n = 0 := by unfold mintE; rw [if_neg (by simp [hac, hbal]), if_neg (by omega)]
        have e2 : mintA A k n = giveA A k n := by unfold mintA; rw [e]; rfl
        have hd2 : decide (0 ≤ sn ∧ sn ≤ 1073741824) = true := decide_eq_true (by omega)
        have ok2 : AccOk (giveA A k n) := giveA_ok hok hk hbal'.1 (by omega)
        obtain ⟨v, hv⟩ : ∃ v, v = (A k).1 := ⟨_, rfl⟩
        have hv0 : 0 ≤ v ∧ v ≤ 1073741824 := by have := hok.one hk; have := hok.held k; have := hok.free k; unfold both at *; omega
        have hn3 : IntKind.i64.wrap (v + n) = v + n := IntWalk.i64_in _ (by omega)
        have hpay : ∀ w1, LdAt N g gl A M w1 → w1.cell? ⟨g, k * 2, none⟩ = some (.int .i64 v) ∧ LdAt N g gl (giveA A k n) M (w1.setCell ⟨g, k * 2, none⟩ (.int .i64 (v + n))) ∧ Below N w1 (w1.setCell ⟨g, k * 2, none⟩ (.int .i64 (v + n))) := fun w1 h1 => ⟨by rw [hv]; exact h1.free hk, by rw [hv]; exact h1.setFree hk _ ok2⟩
        rw [e, e2]
        have HI := Lib.hid hiss
        have HP := Lib.hid hpay
        have HD := Lib.hid (And.intro hd hd2)
        have HH := Lib.hid (And.intro h hN)
        have hn2 : IntKind.i64.wrap (s + n) = sn := by rw [← hsn]; exact hn1
        clear hok hac hbal hbal' hd hs hs0 hn1 hiss hov e e2 hd2 h hN hk hsn ok2 hv hpay hv0
        go_enter Try.func23, Try.ntmps23
        have tok : True := trivial
        go_wp2_with (first
          | (go_at_call 36; refine (ledger_account HK.out _).mono ?_; rintro e w' ⟨rfl, hw⟩; rw [hw]; clear hw w')
          | (go_at_call 11; have _t := tok; refine (bound_Balance n _).mono ?_; rw [HD.out.1]; rintro e w' ⟨rfl, hw⟩; rw [hw]; clear hw w' tok)
          | (go_at_call 12; refine HI.out.mono ?_; rintro e w1 ⟨rfl, hb⟩; have h1 := HH.out.1.below hb; have hc1 := (HP.out w1 h1).1; have hf1 := h1.frozen (k * 2); have H1 := Lib.hid (And.intro h1 (hb.mono HH.out.2)); clear hb h1)
          | (go_at_call 11; refine (bound_Balance sn _).mono ?_; rw [HD.out.2]; rintro e w' ⟨rfl, hw⟩; rw [hw]; clear hw w')
          | fail)
        go_ret
        exact ⟨rfl, (HP.out _ H1.out.1).2.1, H1.out.2.trans (HP.out _ H1.out.1).2.2⟩
    · have e : mintE A k n = 1 := by unfold mintE; rw [if_pos (.inr hbal)]
      have e2 : mintA A k n = A := by unfold mintA; rw [e]; rfl
      have hd : decide (0 ≤ n ∧ n ≤ 1073741824) = false := by unfold isBal at hbal; exact decide_eq_false hbal
      rw [e, e2]
      have HD := Lib.hid hd
      have HH := Lib.hid h
      clear hok hac hbal hd e e2 h hN hk
      go_enter Try.func23, Try.ntmps23
      go_wp2_with (first
        | (go_at_call 36; refine (ledger_account HK.out _).mono ?_; rintro e w' ⟨rfl, hw⟩; rw [hw]; clear hw w')
        | (go_at_call 11; refine (bound_Balance n _).mono ?_; rw [HD.out]; rintro e w' ⟨rfl, hw⟩; rw [hw]; clear hw w')
        | fail)
      exact bodyPost_ret (v := .int .i64 1) (by simp [results, Try.results23, go_sem]) rfl ⟨rfl, HH.out, Below.refl _ _⟩
  · have e : mintE A a n = 1 := by unfold mintE; rw [if_pos (.inl hac)]
    have e2 : mintA A a n = A := by unfold mintA; rw [e]; rfl
    rw [e, e2]
    have HH := Lib.hid (And.intro h hac)
    clear hok hac e e2 h hN
    go_enter Try.func23, Try.ntmps23
    go_wp2_with (first
      | (go_at_call 36; refine (ledger_account_no HH.out.2 _).mono ?_; rintro e w' ⟨rfl, hw⟩; rw [hw]; clear hw w')
      | fail)
    exact bodyPost_ret (v := .int .i64 1) (by simp [results, Try.results23, go_sem]) rfl ⟨rfl, HH.out.1, Below.refl _ _⟩
theorem LdAt.relock {M' : Cls Int} {w' : World} (h : LdAt N g gl A M w) (hN : N ≤ w.heap.size) (hl : M'.length ≤ 10000) {F : FP} (hF : ∀ k, F k → N ≤ k ∧ k ≠ g) (ht : GrTo codI 68 gl M' F w w') : LdAt N g gl A M' w' ∧ Below N w w' := by
  obtain ⟨F', h1, h2, h3⟩ := ht
  refine ⟨⟨(h3.block g h.lt (fun hf => (hF g hf).2 rfl) (fun h => h)).trans h.blk, ⟨F', h1, fun k hk => (h2 k hk).elim (hF k) (fun hk => by have := h.lt; omega)⟩, h.lo, h.ok, hl⟩, h3.below hN (fun k hk => (hF k hk).1) (fun k h => h.elim)⟩
theorem LdAt.srt (h : LdAt N g gl A M w) : SrtC M := by obtain ⟨F, h1, _⟩ := h.gr; exact h1.1
set_option maxRecDepth 100000 in
set_option maxHeartbeats 1000000 in
theorem ledger_Lock (h : LdAt N g gl A M w) (hN : N ≤ w.heap.size) (hlen : M.length < 10000) {a i : Int} (ha : (Lit.int .i64 a).wf = true) (hi : (Lit.int .i64 i).wf = true) (n : Int) : Calls Try.prog 21 #[.pointer (some ⟨g, 0, none⟩), .int .i64 a, .int .i64 i, .int .i64 n] w fun e w' => e = .returned (.tuple #[]) ∧ LdAt N g gl A (lockM M a i n) w' ∧ Below N w w' := by
  by_cases hac : isAcc a
  · have hM : (lockM M a i n).length ≤ 10000 := by have := lockM_len h.srt a i n; omega
    obtain ⟨F, hF, hF2⟩ := h.gr
    have hp := h.ptr
    have hdel : n = 0 ∨ ¬ isBal n → Calls Try.prog 42 #[.pointer (some ⟨gl, 0, none⟩), .int .i64 a, .int .i64 i] w fun e w' => e = .returned (.bool (cget M a i).isSome) ∧ LdAt N g gl A (lockM M a i n) w' ∧ Below N w w' := fun hc => by
      have e : lockM M a i n = cdel M a i := by unfold lockM; rw [if_neg (by simp [hac]), if_pos hc]
      rw [e] at hM ⊢
      refine (grid_Del_I hF (by have := h.len; omega) ha hi).mono ?_
      rintro e w' ⟨rfl, h3⟩
      exact ⟨rfl, h.relock hN hM hF2 h3⟩
    have hset : ¬ (n = 0 ∨ ¬ isBal n) → Calls Try.prog 43 #[.pointer (some ⟨gl, 0, none⟩), .int .i64 a, .int .i64 i, .int .i64 n] w fun e w' => e = .returned (.tuple #[]) ∧ LdAt N g gl A (lockM M a i n) w' ∧ Below N w w' := fun hc => by
      have e : lockM M a i n = cput M a i n := by unfold lockM; rw [if_neg (by simp [hac]), if_neg hc]
      rw [e] at hM ⊢
      refine (grid_Set_I hF (by have := h.len; omega) ha hi n).mono ?_
      rintro e w' ⟨rfl, h3⟩
      exact ⟨rfl, h.relock hN hM hF2 h3⟩
    obtain ⟨k, rfl, hk⟩ := isAcc_nat hac
    have HK := Lib.hid hk
    have hex : n = 0 ∨ (¬ n = 0 ∧ ¬ isBal n) ∨ (¬ n = 0 ∧ isBal n) := by by_cases h1 : n = 0; exact .inl h1; by_cases h2 : isBal n; exact .inr (.inr ⟨h1, h2⟩); exact .inr (.inl ⟨h1, h2⟩)
    rcases hex with hn | ⟨hn, hbal⟩ | ⟨hn, hbal⟩
    · have HD := Lib.hid (hdel (.inl hn))
      clear h hN hlen ha hi hac hM hF hF2 hdel hset hk
      go_enter Try.func21, Try.ntmps21
      go_wp2_with (first
        | (go_at_call 36; refine (ledger_account HK.out _).mono ?_; rintro e w' ⟨rfl, hw⟩; rw [hw]; clear hw w')
        | (go_at_call 42; refine HD.out.mono ?_; rintro e w1 ⟨rfl, h1⟩; have H1 := Lib.hid h1; clear h1)
        | fail)
      exact bodyPost_end (results_none rfl _ _ _) rfl ⟨rfl, H1.out⟩
    · have HD := Lib.hid (hdel (.inr hbal))
      have hd : decide (0 ≤ n ∧ n ≤ 1073741824) = false := by unfold isBal at hbal; exact decide_eq_false hbal
      have HB := Lib.hid hd
      clear h hN hlen ha hi hac hM hF hF2 hdel hset hk hd hbal
      go_enter Try.func21, Try.ntmps21
      go_wp2_with (first
        | (go_at_call 36; refine (ledger_account HK.out _).mono ?_; rintro e w' ⟨rfl, hw⟩; rw [hw]; clear hw w')
        | (go_at_call 11; refine (bound_Balance n _).mono ?_; rw [HB.out]; rintro e w' ⟨rfl, hw⟩; rw [hw]; clear hw w')
        | (go_at_call 42; refine HD.out.mono ?_; rintro e w1 ⟨rfl, h1⟩; have H1 := Lib.hid h1; clear h1)
        | fail)
      exact bodyPost_end (results_none rfl _ _ _) rfl ⟨rfl, H1.out⟩
    · have HD := Lib.hid (hset (by simp [hn, hbal]))
      have hd : decide (0 ≤ n ∧ n ≤ 1073741824) = true := by unfold isBal at hbal; exact decide_eq_true hbal
      have HB := Lib.hid hd
      clear h hN hlen ha hi hac hM hF hF2 hdel hset hk hd hbal
      go_enter Try.func21, Try.ntmps21
      go_wp2_with (first
        | (go_at_call 36; refine (ledger_account HK.out _).mono ?_; rintro e w' ⟨rfl, hw⟩; rw [hw]; clear hw w')
        | (go_at_call 11; refine (bound_Balance n _).mono ?_; rw [HB.out]; rintro e w' ⟨rfl, hw⟩; rw [hw]; clear hw w')
        | (go_at_call 43; refine HD.out.mono ?_; rintro e w1 ⟨rfl, h1⟩; have H1 := Lib.hid h1; clear h1)
        | fail)
      exact bodyPost_end (results_none rfl _ _ _) rfl ⟨rfl, H1.out⟩
  · have e : lockM M a i n = M := by unfold lockM; rw [if_pos hac]
    rw [e]
    have HH := Lib.hid (And.intro h hac)
    clear h hN hlen ha hi hac e
    go_enter Try.func21, Try.ntmps21
    go_wp2_with (first
      | (go_at_call 36; refine (ledger_account_no HH.out.2 _).mono ?_; rintro e w' ⟨rfl, hw⟩; rw [hw]; clear hw w')
      | fail)
    exact bodyPost_end (results_none rfl _ _ _) rfl ⟨rfl, HH.out.1, Below.refl _ _⟩
end
end Go.Proofs.Ytoohcckhdhfpnaa
end

section
namespace Go.Proofs.Ytoohcckhdhfpnaa
open Go.RowKit Go.Maps Go.Shelf
set_option linter.unusedVariables false
set_option linter.unusedSimpArgs false

/-- Every block but g is as it was. -/
def Off (g : Nat) (w w' : World) : Prop := ∀ k, k < w.heap.size → k ≠ g → w'.heap[k]? = w.heap[k]?
theorem Off.refl (g : Nat) (w : World) : Off g w w := fun _ _ _ => rfl
theorem Off.trans {g : Nat} {a b c : World} (h : Off g a b) (hs : a.heap.size ≤ b.heap.size) (k : Off g b c) : Off g a c := fun j hj hn => (k j (by omega) hn).trans (h j hj hn)
theorem Off.set {g i : Nat} {w : World} {v : Value} : Off g w (w.setCell ⟨g, i, none⟩ v) := fun j _ hn => Below.heap_setCell _ _ _ j hn
set_option maxRecDepth 100000 in
set_option maxHeartbeats 4000000 in
theorem ledger_spendF {N g gl : Nat} {A : Acc} {M : Cls Int} {w : World} (h : LdAt N g gl A M w) (hN : N ≤ w.heap.size) {a n : Int} (ha : (Lit.int .i64 a).wf = true) (back : Bool) :
    Calls Try.prog 37 #[.pointer (some ⟨g, 0, none⟩), .int .i64 a, .int .i64 n, .bool back] w fun e w' => e = .returned (.int .i64 (spendE A M a n back)) ∧ LdAt N g gl (spent A M a n back) M w' ∧ Below N w w' ∧ Off g w w' := by
  by_cases hac : isAcc a
  · obtain ⟨k, rfl, hk⟩ := isAcc_nat hac
    have HK := Lib.hid hk
    by_cases hbal : isBal n
    · have hbal' := hbal
      unfold isBal at hbal'
      have hd : decide (0 ≤ n ∧ n ≤ 1073741824) = true := decide_eq_true hbal'
      have HD := Lib.hid hd
      have hfree := h.free hk
      have hfroz := h.frozen (k * 2)
      obtain ⟨f, hf⟩ : ∃ f, f = (A k).1 := ⟨_, rfl⟩
      rw [← hf] at hfree
      have hf0 : 0 ≤ f := by rw [hf]; exact h.ok.free k
      have hf1 : f ≤ 1073741824 := by have := h.ok.one hk; have := h.ok.held k; unfold both at *; omega
      have HB := Lib.hid hbal'
      have HH := Lib.hid (And.intro h (And.intro hN (And.intro ha hac)))
      by_cases hlo : f < n
      · have e : spendE A M k n back = 6 := by unfold spendE; rw [if_neg (by simp [hac, hbal]), if_pos (by rw [Int.toNat_natCast, ← hf]; exact hlo)]
        have e2 : spent A M k n back = A := by unfold spent; rw [e]; rfl
        rw [e, e2]
        clear hk hac hbal hbal' hd h hN ha hf e e2
        go_enter Try.func37, Try.ntmps37
        go_wp2_with (first
          | (go_at_call 36; refine (ledger_account HK.out w).mono ?_; rintro e w' ⟨rfl, rfl⟩)
          | (go_at_call 11; refine (bound_Balance _ _).mono ?_; rw [HD.out]; rintro e w' ⟨rfl, rfl⟩)
          | fail)
        exact bodyPost_ret (v := .int .i64 6) (by simp [results, Try.results37, go_sem]) rfl ⟨rfl, HH.out.1, Below.refl _ _, Off.refl _ _⟩
      · have hn1 : IntKind.i64.wrap (f - n) = f - n := IntWalk.i64_in _ (by omega)
        have hpay : ∀ w', LdAt N g gl A M w' → LdAt N g gl (spendA A k n) M (w'.setCell ⟨g, k * 2, none⟩ (.int .i64 (f - n))) ∧ Below N w' (w'.setCell ⟨g, k * 2, none⟩ (.int .i64 (f - n))) ∧ Off g w' (w'.setCell ⟨g, k * 2, none⟩ (.int .i64 (f - n))) := fun w' h' => by
          have := h'.setFree hk (f - n) (by have := spendA_ok h.ok hac hbal (by rw [Int.toNat_natCast, ← hf]; omega); rw [spendA, Int.toNat_natCast, ← hf] at this; exact this)
          rw [spendA, Int.toNat_natCast, ← hf]; exact ⟨this.1, this.2, Off.set⟩
        have HP := Lib.hid hpay
        have hno : ¬ f < n := hlo
        have hspend : ∀ c : Bool, (0 < n ∧ back = false ∧ f - n < lockedOf M k ↔ c = true) → spendE A M k n back = if c then 7 else 0 := fun c hc => by
          unfold spendE
          rw [if_neg (by simp [hac, hbal]), Int.toNat_natCast, ← hf, if_neg hlo]
          cases c
          · rw [if_neg (by rw [hc]; simp)]; rfl
          · rw [if_pos (hc.2 rfl)]; rfl
        by_cases hn0 : 0 < n ∧ back = false
        · obtain ⟨hn0, rfl⟩ := hn0
          obtain ⟨lk, hlk⟩ : ∃ lk, lk = lockedOf M k := ⟨_, rfl⟩
          have hlck : ∀ w', LdAt N g gl A M w' → Calls Try.prog 31 #[.pointer (some ⟨g, 0, none⟩), .int .i64 k] w' fun e w'' => e = .returned (.int .i64 lk) ∧ Below w'.heap.size w' w'' := fun w' h' => by rw [hlk]; exact ledger_Locked h' ha
          have hld : LdAt N g gl A M w.drew := h.drewd
          have hfd : w.drew.cell? ⟨g, k * 2, none⟩ = some (.int .i64 f) := hfree
          have hwd : ∀ w2, Below w.drew.heap.size w.drew w2 → w2.cell? ⟨g, k * 2, none⟩ = some (.int .i64 f) ∧ (LdAt N g gl A M w2 ∧ Below N w w2 ∧ Off g w w2) := fun w2 hb => by
            have h2 : LdAt N g gl A M w2 := h.below ⟨hb.os, hb.tape, hb.output, hb.size, hb.block⟩
            refine ⟨by rw [hf]; exact h2.free hk, h2, ⟨hb.os, hb.tape, hb.output, hb.size, fun j hj => hb.block j (show j < w.heap.size by omega)⟩, fun j hj _ => hb.block j hj⟩
          have HFD := Lib.hid hfd
          have HW := Lib.hid hwd
          have HL := Lib.hid (hlck w.drew hld)
          clear hlck hld hfd hwd
          rw [← hlk] at hspend
          by_cases hc : f - n < lk
          · have e := hspend true (by simp [hn0, hc])
            have e2 : spent A M k n false = A := by unfold spent; rw [e]; rfl
            rw [e, e2]
            clear hk hac hbal hbal' hd h hN ha hf e e2 hlo hpay hspend hlk
            go_enter Try.func37, Try.ntmps37
            go_upto_region 6 with (first
              | (go_at_call 36; refine (ledger_account HK.out w).mono ?_; rintro e w' ⟨rfl, hw⟩; rw [hw]; clear hw w')
              | (go_at_call 11; refine (bound_Balance _ _).mono ?_; rw [HD.out]; rintro e w' ⟨rfl, hw⟩; rw [hw]; clear hw w')
              | fail)
            go_region_held3 (fun wc => wc.cell? ⟨g, k * 2, none⟩ = some (.int .i64 f)) (first | exact hfree | exact HFD.out | exact H2.out.1) (first
              | (go_at_call 31; with_reducible refine HL.out.mono ?_; rintro e w2 ⟨rfl, hb⟩; have H2 := Lib.hid (And.intro (HW.out w2 hb).1 (HW.out w2 hb).2); clear hb)
              | fail)
            all_goals
              go_wp2_with fail
              exact bodyPost_ret (v := .int .i64 7) (by simp [results, Try.results37, go_sem]) rfl ⟨rfl, H2.out.2.1, H2.out.2.2⟩
          · have e := hspend false (by simp [hc])
            have e2 : spent A M k n false = spendA A k n := by unfold spent; rw [e]; rfl
            rw [e, e2]
            clear hk hac hbal hbal' hd h hN ha hf e e2 hlo hpay hspend hlk
            go_enter Try.func37, Try.ntmps37
            go_upto_region 6 with (first
              | (go_at_call 36; refine (ledger_account HK.out w).mono ?_; rintro e w' ⟨rfl, hw⟩; rw [hw]; clear hw w')
              | (go_at_call 11; refine (bound_Balance _ _).mono ?_; rw [HD.out]; rintro e w' ⟨rfl, hw⟩; rw [hw]; clear hw w')
              | fail)
            go_region_held3 (fun wc => wc.cell? ⟨g, k * 2, none⟩ = some (.int .i64 f)) (first | exact hfree | exact HFD.out | exact H2.out.1) (first
              | (go_at_call 31; with_reducible refine HL.out.mono ?_; rintro e w2 ⟨rfl, hb⟩; have H2 := Lib.hid (And.intro (HW.out w2 hb).1 (HW.out w2 hb).2); clear hb)
              | fail)
            all_goals
              have hfree2 := H2.out.1
              have hfroz2 := H2.out.2.1.frozen (k * 2)
              go_wp2_with fail
              exact bodyPost_ret (v := .int .i64 0) (by simp [results, Try.results37, go_sem]) rfl ⟨rfl, (HP.out _ H2.out.2.1).1, H2.out.2.2.1.trans (HP.out _ H2.out.2.1).2.1, H2.out.2.2.2.trans H2.out.2.2.1.size (HP.out _ H2.out.2.1).2.2⟩
        · have hex : ¬ 0 < n ∨ (0 < n ∧ back = true) := by
            rcases Bool.eq_false_or_eq_true back with h | h
            · by_cases h0 : 0 < n
              · exact .inr ⟨h0, h⟩
              · exact .inl h0
            · exact .inl (fun h0 => hn0 ⟨h0, h⟩)
          have e := hspend false (by constructor; exact fun h => absurd ⟨h.1, h.2.1⟩ hn0; simp)
          have e2 : spent A M k n back = spendA A k n := by unfold spent; rw [e]; rfl
          rw [e, e2]
          clear hn0
          rcases hex with hn0 | ⟨hn0, rfl⟩
          · obtain rfl : n = 0 := by omega
            have hpay2 := hpay
            simp only [Int.sub_zero] at hpay2 hn1
            have HP := Lib.hid hpay2
            clear hpay2 hn0
            clear hk hac hbal hbal' hd h hN ha hf e e2 hlo hpay hspend hno HB HD
            go_enter Try.func37, Try.ntmps37
            go_upto_region 6 with (first
              | (go_at_call 36; refine (ledger_account HK.out w).mono ?_; rintro e w' ⟨rfl, hw⟩; rw [hw]; clear hw w')
              | (go_at_call 11; refine (bound_Balance _ _).mono ?_; rw [show decide ((0:Int) ≤ 0 ∧ (0:Int) ≤ 1073741824) = true from rfl]; rintro e w' ⟨rfl, hw⟩; rw [hw]; clear hw w')
              | fail)
            go_quiet (fail)
            go_wp2_with fail
            exact bodyPost_ret (v := .int .i64 0) (by simp [results, Try.results37, go_sem]) rfl ⟨rfl, (HP.out (w.drewN nq) (HH.out.1.below ⟨rfl, rfl, rfl, Nat.le_refl _, fun _ _ => rfl⟩)).1, Below.trans (b := w.drewN nq) ⟨rfl, rfl, rfl, Nat.le_refl _, fun _ _ => rfl⟩ (HP.out (w.drewN nq) (HH.out.1.below ⟨rfl, rfl, rfl, Nat.le_refl _, fun _ _ => rfl⟩)).2.1, (HP.out (w.drewN nq) (HH.out.1.below ⟨rfl, rfl, rfl, Nat.le_refl _, fun _ _ => rfl⟩)).2.2⟩
          · clear hk hac hbal hbal' hd h hN ha hf e e2 hlo hpay hspend
            go_enter Try.func37, Try.ntmps37
            go_upto_region 6 with (first
              | (go_at_call 36; refine (ledger_account HK.out w).mono ?_; rintro e w' ⟨rfl, hw⟩; rw [hw]; clear hw w')
              | (go_at_call 11; refine (bound_Balance _ _).mono ?_; rw [HD.out]; rintro e w' ⟨rfl, hw⟩; rw [hw]; clear hw w')
              | fail)
            go_quiet (fail)
            go_wp2_with fail
            exact bodyPost_ret (v := .int .i64 0) (by simp [results, Try.results37, go_sem]) rfl ⟨rfl, (HP.out (w.drewN nq) (HH.out.1.below ⟨rfl, rfl, rfl, Nat.le_refl _, fun _ _ => rfl⟩)).1, Below.trans (b := w.drewN nq) ⟨rfl, rfl, rfl, Nat.le_refl _, fun _ _ => rfl⟩ (HP.out (w.drewN nq) (HH.out.1.below ⟨rfl, rfl, rfl, Nat.le_refl _, fun _ _ => rfl⟩)).2.1, (HP.out (w.drewN nq) (HH.out.1.below ⟨rfl, rfl, rfl, Nat.le_refl _, fun _ _ => rfl⟩)).2.2⟩
    · have e : spendE A M k n back = 1 := by unfold spendE; rw [if_pos (.inr hbal)]
      have e2 : spent A M k n back = A := by unfold spent; rw [e]; rfl
      have hd : decide (0 ≤ n ∧ n ≤ 1073741824) = false := by unfold isBal at hbal; exact decide_eq_false hbal
      have HD := Lib.hid hd
      have HH := Lib.hid h
      rw [e, e2]
      clear hk hac hbal hd h hN ha e e2
      go_enter Try.func37, Try.ntmps37
      go_wp2_with (first
        | (go_at_call 36; refine (ledger_account HK.out w).mono ?_; rintro e w' ⟨rfl, hw⟩; rw [hw]; clear hw w')
        | (go_at_call 11; refine (bound_Balance _ _).mono ?_; rw [HD.out]; rintro e w' ⟨rfl, hw⟩; rw [hw]; clear hw w')
        | fail)
      exact bodyPost_ret (v := .int .i64 1) (by simp [results, Try.results37, go_sem]) rfl ⟨rfl, HH.out, Below.refl _ _, Off.refl _ _⟩
  · have e : spendE A M a n back = 1 := by unfold spendE; rw [if_pos (.inl hac)]
    have e2 : spent A M a n back = A := by unfold spent; rw [e]; rfl
    have HD := Lib.hid hac
    have HH := Lib.hid h
    rw [e, e2]
    clear hac h hN ha e e2
    go_enter Try.func37, Try.ntmps37
    go_wp2_with (first
      | (go_at_call 36; refine (ledger_account_no HD.out w).mono ?_; rintro e w' ⟨rfl, hw⟩; rw [hw]; clear hw w')
      | fail)
    exact bodyPost_ret (v := .int .i64 1) (by simp [results, Try.results37, go_sem]) rfl ⟨rfl, HH.out, Below.refl _ _, Off.refl _ _⟩
section
variable {N g gl : Nat} {A : Acc} {M : Cls Int} {w : World}
set_option maxRecDepth 100000 in
set_option maxHeartbeats 1000000 in
theorem ledger_MintF (h : LdAt N g gl A M w) (hN : N ≤ w.heap.size) (a n : Int) : Calls Try.prog 23 #[.pointer (some ⟨g, 0, none⟩), .int .i64 a, .int .i64 n] w fun e w' => e = .returned (.int .i64 (mintE A a n)) ∧ LdAt N g gl (mintA A a n) M w' ∧ Below N w w' ∧ Off g w w' := by
  have hok := h.ok
  by_cases hac : isAcc a
  · obtain ⟨k, rfl, hk⟩ := isAcc_nat hac
    have HK := Lib.hid hk
    by_cases hbal : isBal n
    · have hbal' := hbal
      unfold isBal at hbal'
      have hd : decide (0 ≤ n ∧ n ≤ 1073741824) = true := decide_eq_true hbal'
      obtain ⟨s, hs⟩ : ∃ s, s = sumTo A 10 := ⟨_, rfl⟩
      have hs0 : 0 ≤ s ∧ s ≤ 1073741824 := by rw [hs]; exact hok.part (Nat.le_refl _)
      have hn1 : IntKind.i64.wrap (s + n) = s + n := IntWalk.i64_in _ (by omega)
      obtain ⟨sn, hsn⟩ : ∃ sn, sn = s + n := ⟨_, rfl⟩
      rw [← hsn] at hn1
      have hiss := ledger_Issued h
      rw [← hs] at hiss
      by_cases hov : 1073741824 < sn
      · have e : mintE A k n = 10 := by unfold mintE; rw [if_neg (by simp [hac, hbal]), if_pos (by omega)]
        have e2 : mintA A k n = A := by unfold mintA; rw [e]; rfl
        have hd2 : decide (0 ≤ sn ∧ sn ≤ 1073741824) = false := decide_eq_false (by omega)
        rw [e, e2]
        have HI := Lib.hid hiss
        have HD := Lib.hid (And.intro hd hd2)
        have HH := Lib.hid (And.intro h hN)
        have hn2 : IntKind.i64.wrap (s + n) = sn := by rw [← hsn]; exact hn1
        clear hok hac hbal hbal' hd hs hs0 hn1 hiss hov e e2 hd2 h hN hk hsn
        go_enter Try.func23, Try.ntmps23
        have tok : True := trivial
        go_wp2_with (first
          | (go_at_call 36; refine (ledger_account HK.out _).mono ?_; rintro e w' ⟨rfl, hw⟩; rw [hw]; clear hw w')
          | (go_at_call 11; have _t := tok; refine (bound_Balance n _).mono ?_; rw [HD.out.1]; rintro e w' ⟨rfl, hw⟩; rw [hw]; clear hw w' tok)
          | (go_at_call 12; refine HI.out.mono ?_; rintro e w1 ⟨rfl, hb⟩; have H1 := Lib.hid hb; clear hb)
          | (go_at_call 11; refine (bound_Balance sn _).mono ?_; rw [HD.out.2]; rintro e w' ⟨rfl, hw⟩; rw [hw]; clear hw w')
          | fail)
        go_ret
        exact ⟨rfl, HH.out.1.below H1.out, H1.out.mono HH.out.2, fun j hj _ => H1.out.block j hj⟩
      · have e : mintE A k n = 0 := by unfold mintE; rw [if_neg (by simp [hac, hbal]), if_neg (by omega)]
        have e2 : mintA A k n = giveA A k n := by unfold mintA; rw [e]; rfl
        have hd2 : decide (0 ≤ sn ∧ sn ≤ 1073741824) = true := decide_eq_true (by omega)
        have ok2 : AccOk (giveA A k n) := giveA_ok hok hk hbal'.1 (by omega)
        obtain ⟨v, hv⟩ : ∃ v, v = (A k).1 := ⟨_, rfl⟩
        have hv0 : 0 ≤ v ∧ v ≤ 1073741824 := by have := hok.one hk; have := hok.held k; have := hok.free k; unfold both at *; omega
        have hn3 : IntKind.i64.wrap (v + n) = v + n := IntWalk.i64_in _ (by omega)
        have hpay : ∀ w1, LdAt N g gl A M w1 → w1.cell? ⟨g, k * 2, none⟩ = some (.int .i64 v) ∧ LdAt N g gl (giveA A k n) M (w1.setCell ⟨g, k * 2, none⟩ (.int .i64 (v + n))) ∧ Below N w1 (w1.setCell ⟨g, k * 2, none⟩ (.int .i64 (v + n))) := fun w1 h1 => ⟨by rw [hv]; exact h1.free hk, by rw [hv]; exact h1.setFree hk _ ok2⟩
        rw [e, e2]
        have HI := Lib.hid hiss
        have HP := Lib.hid hpay
        have HD := Lib.hid (And.intro hd hd2)
        have HH := Lib.hid (And.intro h hN)
        have hn2 : IntKind.i64.wrap (s + n) = sn := by rw [← hsn]; exact hn1
        clear hok hac hbal hbal' hd hs hs0 hn1 hiss hov e e2 hd2 h hN hk hsn ok2 hv hpay hv0
        go_enter Try.func23, Try.ntmps23
        have tok : True := trivial
        go_wp2_with (first
          | (go_at_call 36; refine (ledger_account HK.out _).mono ?_; rintro e w' ⟨rfl, hw⟩; rw [hw]; clear hw w')
          | (go_at_call 11; have _t := tok; refine (bound_Balance n _).mono ?_; rw [HD.out.1]; rintro e w' ⟨rfl, hw⟩; rw [hw]; clear hw w' tok)
          | (go_at_call 12; refine HI.out.mono ?_; rintro e w1 ⟨rfl, hb⟩; have h1 := HH.out.1.below hb; have hc1 := (HP.out w1 h1).1; have hf1 := h1.frozen (k * 2); have H1 := Lib.hid (And.intro h1 (And.intro (hb.mono HH.out.2) hb)); clear hb h1)
          | (go_at_call 11; refine (bound_Balance sn _).mono ?_; rw [HD.out.2]; rintro e w' ⟨rfl, hw⟩; rw [hw]; clear hw w')
          | fail)
        go_ret
        exact ⟨rfl, (HP.out _ H1.out.1).2.1, H1.out.2.1.trans (HP.out _ H1.out.1).2.2, Off.trans (fun j hj _ => H1.out.2.2.block j hj) H1.out.2.2.size Off.set⟩
    · have e : mintE A k n = 1 := by unfold mintE; rw [if_pos (.inr hbal)]
      have e2 : mintA A k n = A := by unfold mintA; rw [e]; rfl
      have hd : decide (0 ≤ n ∧ n ≤ 1073741824) = false := by unfold isBal at hbal; exact decide_eq_false hbal
      rw [e, e2]
      have HD := Lib.hid hd
      have HH := Lib.hid h
      clear hok hac hbal hd e e2 h hN hk
      go_enter Try.func23, Try.ntmps23
      go_wp2_with (first
        | (go_at_call 36; refine (ledger_account HK.out _).mono ?_; rintro e w' ⟨rfl, hw⟩; rw [hw]; clear hw w')
        | (go_at_call 11; refine (bound_Balance n _).mono ?_; rw [HD.out]; rintro e w' ⟨rfl, hw⟩; rw [hw]; clear hw w')
        | fail)
      exact bodyPost_ret (v := .int .i64 1) (by simp [results, Try.results23, go_sem]) rfl ⟨rfl, HH.out, Below.refl _ _, Off.refl _ _⟩
  · have e : mintE A a n = 1 := by unfold mintE; rw [if_pos (.inl hac)]
    have e2 : mintA A a n = A := by unfold mintA; rw [e]; rfl
    rw [e, e2]
    have HH := Lib.hid (And.intro h hac)
    clear hok hac e e2 h hN
    go_enter Try.func23, Try.ntmps23
    go_wp2_with (first
      | (go_at_call 36; refine (ledger_account_no HH.out.2 _).mono ?_; rintro e w' ⟨rfl, hw⟩; rw [hw]; clear hw w')
      | fail)
    exact bodyPost_ret (v := .int .i64 1) (by simp [results, Try.results23, go_sem]) rfl ⟨rfl, HH.out.1, Below.refl _ _, Off.refl _ _⟩
set_option maxRecDepth 100000 in
theorem ledger_BurnF (h : LdAt N g gl A M w) (hN : N ≤ w.heap.size) {a : Int} (ha : (Lit.int .i64 a).wf = true) (n : Int) : Calls Try.prog 25 #[.pointer (some ⟨g, 0, none⟩), .int .i64 a, .int .i64 n] w fun e w' => e = .returned (.int .i64 (spendE A M a n false)) ∧ LdAt N g gl (spent A M a n false) M w' ∧ Below N w w' ∧ Off g w w' := by
  have HH := Lib.hid (And.intro h (And.intro hN ha))
  clear h hN ha
  go_enter Try.func25, Try.ntmps25
  go_wp2_with (first | (go_at_call 37; refine (ledger_spendF HH.out.1 HH.out.2.1 HH.out.2.2 false).mono ?_; rintro e w1 ⟨rfl, h1⟩; have H1 := Lib.hid h1; clear h1) | fail)
  go_ret
  exact ⟨rfl, H1.out⟩
end
end Go.Proofs.Ytoohcckhdhfpnaa
end

section
namespace Go.Proofs.Ytoohcckhdhfpnaa
open Go.RowKit Go.Maps Go.Shelf
set_option linter.unusedVariables false
set_option linter.unusedSimpArgs false

section
variable {N g gl : Nat} {A : Acc} {M : Cls Int} {w : World}
set_option maxRecDepth 100000 in
set_option maxHeartbeats 1000000 in
theorem ledger_ReserveF (h : LdAt N g gl A M w) (hN : N ≤ w.heap.size) {a : Int} (ha : (Lit.int .i64 a).wf = true) (n : Int) : Calls Try.prog 15 #[.pointer (some ⟨g, 0, none⟩), .int .i64 a, .int .i64 n] w fun e w' => e = .returned (.int .i64 (spendE A M a n false)) ∧ LdAt N g gl (reserveA A M a n) M w' ∧ Below N w w' ∧ Off g w w' := by
  have hok := h.ok
  have HH := Lib.hid (And.intro h (And.intro hN ha))
  clear h hN ha
  obtain ⟨E, hE⟩ : ∃ E, E = spendE A M a n false := ⟨_, rfl⟩
  by_cases h0 : E = 0
  · obtain ⟨hac, hbal, hfr⟩ := spendE_ok (hE.symm.trans h0)
    have hA : reserveA A M a n = upd (spendA A a n) a.toNat ((spendA A a n a.toNat).1, (spendA A a n a.toNat).2 + n) := by rw [reserveA, ← hE, if_pos h0]
    have hS : spent A M a n false = spendA A a n := by rw [spent, ← hE, if_pos h0]
    rw [hA, ← hE, h0]
    have ok1 := spendA_ok hok hac hbal hfr
    have sm1 := sum_spendA A hac n
    obtain ⟨k, rfl, hk⟩ := isAcc_nat hac
    rw [Int.toNat_natCast]
    obtain ⟨B, hB⟩ : ∃ B, B = spendA A k n := ⟨_, rfl⟩
    rw [← hB] at hS ok1 sm1 ⊢
    unfold isBal at hbal
    have ok2 : AccOk (upd B k ((B k).1, (B k).2 + n)) := ok1.upd hk (ok1.free k) (by have := ok1.held k; simp only; omega) (by have := hok.all; unfold both; simp only; omega)
    obtain ⟨v, hv⟩ : ∃ v, v = (B k).2 := ⟨_, rfl⟩
    have hv0 : 0 ≤ v ∧ v ≤ 1073741824 := by have := ok1.one hk; have := ok1.held k; have := ok1.free k; unfold both at *; omega
    have hn1 : IntKind.i64.wrap (v + n) = v + n := IntWalk.i64_in _ (by omega)
    have hE0 : spendE A M k n false = 0 := by rw [← hE, h0]
    have hpay : ∀ w1, LdAt N g gl B M w1 → w1.cell? ⟨g, k * 2 + 1, none⟩ = some (.int .i64 v) ∧ LdAt N g gl (upd B k ((B k).1, (B k).2 + n)) M (w1.setCell ⟨g, k * 2 + 1, none⟩ (.int .i64 (v + n))) ∧ Below N w1 (w1.setCell ⟨g, k * 2 + 1, none⟩ (.int .i64 (v + n))) := fun w1 h1 => ⟨by rw [hv]; exact h1.held hk, by rw [hv]; exact h1.setHeld hk _ ok2⟩
    have HP := Lib.hid hpay
    have HK := Lib.hid hk
    have HE := Lib.hid (And.intro hE0 hS)
    clear hok hac hbal hfr hA hS ok1 sm1 hk hB ok2 hv hE0 hpay h0 hE
    go_enter Try.func15, Try.ntmps15
    go_wp2_with (first
      | (go_at_call 37; refine (ledger_spendF HH.out.1 HH.out.2.1 HH.out.2.2 false).mono ?_; rw [HE.out.1, HE.out.2]; rintro e w1 ⟨rfl, h1, h2, h2o⟩; have hc1 := (HP.out w1 h1).1; have hf1 := h1.frozen (k * 2 + 1); have H1 := Lib.hid (And.intro h1 (And.intro h2 h2o)); clear h1 h2 h2o)
      | (go_at_call 36; refine (ledger_account HK.out _).mono ?_; rintro e w' ⟨rfl, hw⟩; rw [hw]; clear hw w')
      | fail)
    go_ret
    exact ⟨rfl, (HP.out _ H1.out.1).2.1, H1.out.2.1.trans (HP.out _ H1.out.1).2.2, H1.out.2.2.trans H1.out.2.1.size Off.set⟩
  · have hA : reserveA A M a n = A := by rw [reserveA, ← hE, if_neg h0]
    have hS : spent A M a n false = A := by rw [spent, ← hE, if_neg h0]
    rw [hA, ← hE]
    have HE := Lib.hid (And.intro hE hS)
    clear hA hS hE hok
    go_enter Try.func15, Try.ntmps15
    go_wp2_with (first
      | (go_at_call 37; refine (ledger_spendF HH.out.1 HH.out.2.1 HH.out.2.2 false).mono ?_; rw [← HE.out.1, HE.out.2]; rintro e w1 ⟨rfl, h1, h2, h2o⟩; have H1 := Lib.hid (And.intro h1 (And.intro h2 h2o)); clear h1 h2 h2o)
      | fail)
    go_ret
    exact ⟨rfl, H1.out⟩
set_option maxRecDepth 100000 in
set_option maxHeartbeats 1000000 in
theorem ledger_TransferF (h : LdAt N g gl A M w) (hN : N ≤ w.heap.size) {a : Int} (ha : (Lit.int .i64 a).wf = true) (b n : Int) : Calls Try.prog 13 #[.pointer (some ⟨g, 0, none⟩), .int .i64 a, .int .i64 b, .int .i64 n] w fun e w' => e = .returned (.int .i64 (transE A M a b n)) ∧ LdAt N g gl (transA A M a b n) M w' ∧ Below N w w' ∧ Off g w w' := by
  have hok := h.ok
  have HH := Lib.hid (And.intro h (And.intro hN ha))
  clear h hN ha
  by_cases hb : isAcc b
  · have hT : transE A M a b n = spendE A M a n (decide (a = b)) := by rw [transE, if_pos hb]
    obtain ⟨q, hq⟩ : ∃ q, q = decide (a = b) := ⟨_, rfl⟩
    rw [← hq] at hT
    obtain ⟨E, hE⟩ : ∃ E, E = spendE A M a n q := ⟨_, rfl⟩
    have hQ : (a == b) = q := by rw [hq]; exact Bool.eq_iff_iff.2 (by simp)
    obtain ⟨j, rfl, hj⟩ := isAcc_nat hb
    by_cases h0 : E = 0
    · obtain ⟨hac, hbal, hfr⟩ := spendE_ok (hE.symm.trans h0)
      have hA : transA A M a j n = giveA (spendA A a n) j n := by rw [transA, hT, ← hE, if_pos h0, Int.toNat_natCast]
      have hS : spent A M a n q = spendA A a n := by rw [spent, ← hE, if_pos h0]
      rw [hA, hT, ← hE, h0]
      have ok1 := spendA_ok hok hac hbal hfr
      have sm1 := sum_spendA A hac n
      obtain ⟨B, hB⟩ : ∃ B, B = spendA A a n := ⟨_, rfl⟩
      rw [← hB] at hS ok1 sm1 ⊢
      unfold isBal at hbal
      have ok2 : AccOk (giveA B j n) := giveA_ok ok1 hj hbal.1 (by have := hok.all; omega)
      obtain ⟨v, hv⟩ : ∃ v, v = (B j).1 := ⟨_, rfl⟩
      have hv0 : 0 ≤ v ∧ v ≤ 1073741824 := by have := ok1.one hj; have := ok1.held j; have := ok1.free j; unfold both at *; omega
      have hn1 : IntKind.i64.wrap (v + n) = v + n := IntWalk.i64_in _ (by omega)
      have hE0 : spendE A M a n q = 0 := by rw [← hE, h0]
      have hpay : ∀ w1, LdAt N g gl B M w1 → w1.cell? ⟨g, j * 2, none⟩ = some (.int .i64 v) ∧ LdAt N g gl (giveA B j n) M (w1.setCell ⟨g, j * 2, none⟩ (.int .i64 (v + n))) ∧ Below N w1 (w1.setCell ⟨g, j * 2, none⟩ (.int .i64 (v + n))) := fun w1 h1 => ⟨by rw [hv]; exact h1.free hj, by rw [hv]; exact h1.setFree hj _ ok2⟩
      have HP := Lib.hid hpay
      have HK := Lib.hid hj
      have HE := Lib.hid (And.intro hE0 hS)
      clear hok hac hbal hfr hA hS ok1 sm1 hj hB ok2 hv hE0 hpay h0 hE hq hb hT
      go_enter Try.func13, Try.ntmps13
      go_wp2_with (first
        | (go_at_call 37; refine (ledger_spendF HH.out.1 HH.out.2.1 HH.out.2.2 q).mono ?_; rw [HE.out.1, HE.out.2]; rintro e w1 ⟨rfl, h1, h2, h2o⟩; have hc1 := (HP.out w1 h1).1; have hf1 := h1.frozen (j * 2); have H1 := Lib.hid (And.intro h1 (And.intro h2 h2o)); clear h1 h2 h2o)
        | (go_at_call 36; refine (ledger_account HK.out _).mono ?_; rintro e w' ⟨rfl, hw⟩; rw [hw]; clear hw w')
        | fail)
      go_ret
      exact ⟨rfl, (HP.out _ H1.out.1).2.1, H1.out.2.1.trans (HP.out _ H1.out.1).2.2, H1.out.2.2.trans H1.out.2.1.size Off.set⟩
    · have hA : transA A M a j n = A := by rw [transA, hT, ← hE, if_neg h0]
      have hS : spent A M a n q = A := by rw [spent, ← hE, if_neg h0]
      rw [hA, hT, ← hE]
      have HK := Lib.hid hj
      have HE := Lib.hid (And.intro hE hS)
      clear hA hS hE hok hb hj hT hq
      go_enter Try.func13, Try.ntmps13
      go_wp2_with (first
        | (go_at_call 37; refine (ledger_spendF HH.out.1 HH.out.2.1 HH.out.2.2 q).mono ?_; rw [← HE.out.1, HE.out.2]; rintro e w1 ⟨rfl, h1, h2, h2o⟩; have H1 := Lib.hid (And.intro h1 (And.intro h2 h2o)); clear h1 h2 h2o)
        | (go_at_call 36; refine (ledger_account HK.out _).mono ?_; rintro e w' ⟨rfl, hw⟩; rw [hw]; clear hw w')
        | fail)
      go_ret
      exact ⟨rfl, H1.out⟩
  · have hT : transE A M a b n = 1 := by rw [transE, if_neg hb]
    have hA : transA A M a b n = A := by rw [transA, hT]; rfl
    rw [hT, hA]
    have HB := Lib.hid hb
    clear hT hA hb hok
    go_enter Try.func13, Try.ntmps13
    go_wp2_with (first
      | (go_at_call 36; refine (ledger_account_no HB.out _).mono ?_; rintro e w' ⟨rfl, hw⟩; rw [hw]; clear hw w')
      | fail)
    exact bodyPost_ret (v := .int .i64 1) (by simp [results, Try.results13, go_sem]) rfl ⟨rfl, HH.out.1, Below.refl _ _, Off.refl _ _⟩
end
end Go.Proofs.Ytoohcckhdhfpnaa
end

section
namespace Go.Proofs.Ytoohcckhdhfpnaa
open Go.RowKit Go.Maps
set_option linter.unusedVariables false
set_option linter.unusedSimpArgs false

set_option maxRecDepth 100000 in
set_option maxHeartbeats 1000000 in
theorem ledger_LockG {g gl : Nat} {w : World} {R : World → Prop} {a i n : Int} (hp : w.cell? ⟨g, 20, none⟩ = some (.pointer (some ⟨gl, 0, none⟩))) (hac : isAcc a)
    (hdel : n = 0 ∨ ¬ isBal n → Calls Try.prog 42 #[.pointer (some ⟨gl, 0, none⟩), .int .i64 a, .int .i64 i] w fun e w' => ∃ b : Bool, e = .returned (.bool b) ∧ R w')
    (hset : ¬ (n = 0 ∨ ¬ isBal n) → Calls Try.prog 43 #[.pointer (some ⟨gl, 0, none⟩), .int .i64 a, .int .i64 i, .int .i64 n] w fun e w' => e = .returned (.tuple #[]) ∧ R w') :
    Calls Try.prog 21 #[.pointer (some ⟨g, 0, none⟩), .int .i64 a, .int .i64 i, .int .i64 n] w fun e w' => e = .returned (.tuple #[]) ∧ R w' := by
  obtain ⟨k, rfl, hk⟩ := isAcc_nat hac
  have HK := Lib.hid hk
  have hex : n = 0 ∨ (¬ n = 0 ∧ ¬ isBal n) ∨ (¬ n = 0 ∧ isBal n) := by by_cases h1 : n = 0; exact .inl h1; by_cases h2 : isBal n; exact .inr (.inr ⟨h1, h2⟩); exact .inr (.inl ⟨h1, h2⟩)
  rcases hex with hn | ⟨hn, hbal⟩ | ⟨hn, hbal⟩
  · have HD := Lib.hid (hdel (.inl hn))
    clear hac hdel hset hk
    go_enter Try.func21, Try.ntmps21
    go_wp2_with (first
      | (go_at_call 36; refine (ledger_account HK.out _).mono ?_; rintro e w' ⟨rfl, hw⟩; rw [hw]; clear hw w')
      | (go_at_call 42; refine HD.out.mono ?_; rintro e w1 ⟨b, rfl, h1⟩; have H1 := Lib.hid h1; clear h1)
      | fail)
    exact bodyPost_end (results_none rfl _ _ _) rfl ⟨rfl, H1.out⟩
  · have HD := Lib.hid (hdel (.inr hbal))
    have hd : decide (0 ≤ n ∧ n ≤ 1073741824) = false := by unfold isBal at hbal; exact decide_eq_false hbal
    have HB := Lib.hid hd
    clear hac hdel hset hk hd hbal
    go_enter Try.func21, Try.ntmps21
    go_wp2_with (first
      | (go_at_call 36; refine (ledger_account HK.out _).mono ?_; rintro e w' ⟨rfl, hw⟩; rw [hw]; clear hw w')
      | (go_at_call 11; refine (bound_Balance n _).mono ?_; rw [HB.out]; rintro e w' ⟨rfl, hw⟩; rw [hw]; clear hw w')
      | (go_at_call 42; refine HD.out.mono ?_; rintro e w1 ⟨b, rfl, h1⟩; have H1 := Lib.hid h1; clear h1)
      | fail)
    exact bodyPost_end (results_none rfl _ _ _) rfl ⟨rfl, H1.out⟩
  · have HD := Lib.hid (hset (by simp [hn, hbal]))
    have hd : decide (0 ≤ n ∧ n ≤ 1073741824) = true := by unfold isBal at hbal; exact decide_eq_true hbal
    have HB := Lib.hid hd
    clear hac hdel hset hk hd hbal
    go_enter Try.func21, Try.ntmps21
    go_wp2_with (first
      | (go_at_call 36; refine (ledger_account HK.out _).mono ?_; rintro e w' ⟨rfl, hw⟩; rw [hw]; clear hw w')
      | (go_at_call 11; refine (bound_Balance n _).mono ?_; rw [HB.out]; rintro e w' ⟨rfl, hw⟩; rw [hw]; clear hw w')
      | (go_at_call 43; refine HD.out.mono ?_; rintro e w1 ⟨rfl, h1⟩; have H1 := Lib.hid h1; clear h1)
      | fail)
    exact bodyPost_end (results_none rfl _ _ _) rfl ⟨rfl, H1.out⟩
/-- A ledger in memory, with all that it lies in. -/
def LdX (g N : Nat) (A : Acc) (M : Cls Int) (FL : FP) (w : World) : Prop :=
  ∃ gl F, w.heap[g]? = some (.cells (lcells A gl).toArray 53 (0, 0)) ∧ GrAt codI 68 gl M F w ∧ (∀ k, F k → N ≤ k ∧ k ≠ g) ∧ N ≤ g ∧ AccOk A ∧ M.length ≤ 10000 ∧ ∀ k, FL k ↔ k = g ∨ F k
/-- A ledger changed. -/
def LdTo (g N : Nat) (A : Acc) (M : Cls Int) (FL : FP) (w w' : World) : Prop := ∃ F', LdX g N A M F' w' ∧ (∀ k, F' k → FL k ∨ w.heap.size ≤ k) ∧ Only FL (fun _ => False) w w'
section
variable {g N : Nat} {A A' : Acc} {M M' : Cls Int} {FL : FP} {w w' w1 : World}
theorem LdX.at (h : LdX g N A M FL w) : ∃ gl, LdAt N g gl A M w := by
  obtain ⟨gl, F, h1, h2, h3, h4, h5, h6, h7⟩ := h
  exact ⟨gl, h1, ⟨F, h2, h3⟩, h4, h5, h6⟩
theorem LdX.of {gl : Nat} (h : LdAt N g gl A M w) : ∃ FL, LdX g N A M FL w ∧ ∀ k, FL k → N ≤ k := by
  obtain ⟨F, h1, h2⟩ := h.gr
  exact ⟨_, ⟨gl, F, h.blk, h1, h2, h.lo, h.ok, h.len, fun k => Iff.rfl⟩, fun k hk => hk.elim (fun e => by rw [e]; exact h.lo) (fun e => (h2 k e).1)⟩
theorem LdX.lt (h : LdX g N A M FL w) {k : Nat} (hk : FL k) : k < w.heap.size := by
  obtain ⟨gl, F, h1, h2, h3, h4, h5, h6, h7⟩ := h
  rcases (h7 k).1 hk with rfl | e
  · exact (Array.getElem?_eq_some_iff.1 h1).1
  · exact h2.2.2.1 k e
theorem LdX.lo (h : LdX g N A M FL w) {k : Nat} (hk : FL k) : N ≤ k := by
  obtain ⟨gl, F, h1, h2, h3, h4, h5, h6, h7⟩ := h
  rcases (h7 k).1 hk with rfl | e
  · exact h4
  · exact (h3 k e).1
theorem LdX.own (h : LdX g N A M FL w) : FL g := by
  obtain ⟨gl, F, h1, h2, h3, h4, h5, h6, h7⟩ := h
  exact (h7 g).2 (.inl rfl)
theorem LdX.keep (h : LdX g N A M FL w) (hg : Grow w w') (hk : ∀ k, FL k → w'.heap[k]? = w.heap[k]?) : LdX g N A M FL w' := by
  obtain ⟨gl, F, h1, h2, h3, h4, h5, h6, h7⟩ := h
  exact ⟨gl, F, (hk g ((h7 g).2 (.inl rfl))).trans h1, h2.keep hg (fun k hf => hk k ((h7 k).2 (.inr hf))), h3, h4, h5, h6, h7⟩
theorem LdX.below (h : LdX g N A M FL w) (hb : Below w.heap.size w w') : LdX g N A M FL w' := h.keep (Grow.of_below hb) (fun k hk => hb.block k (h.lt hk))
theorem LdX.size (h : LdX g N A M FL w) : N ≤ w.heap.size := Nat.le_of_lt (Nat.lt_of_le_of_lt (h.lo h.own) (h.lt h.own))
theorem LdX.srt (h : LdX g N A M FL w) : SrtC M ∧ AccOk A ∧ M.length ≤ 10000 := by
  obtain ⟨gl, F, h1, h2, h3, h4, h5, h6, h7⟩ := h
  exact ⟨h2.1, h5, h6⟩
theorem LdTo.of_below (h : LdX g N A M FL w) (hb : Below w.heap.size w w') : LdTo g N A M FL w w' := ⟨FL, h.below hb, fun k hk => .inl hk, Only.of_later hb⟩
theorem LdTo.later (hb : Below w.heap.size w w1) (h : LdTo g N A M FL w1 w') : LdTo g N A M FL w w' := by
  obtain ⟨F', h1, h2, h3⟩ := h
  exact ⟨F', h1, fun k hk => (h2 k hk).imp id (fun h => Nat.le_trans hb.size h), only_trans (Only.of_later hb) h3⟩
theorem ledger_LockX (h : LdX g N A M FL w) (hlen : M.length < 10000) {a i : Int} (hac : isAcc a) (ha : (Lit.int .i64 a).wf = true) (hi : (Lit.int .i64 i).wf = true) (n : Int) : Calls Try.prog 21 #[.pointer (some ⟨g, 0, none⟩), .int .i64 a, .int .i64 i, .int .i64 n] w fun e w' => e = .returned (.tuple #[]) ∧ LdTo g N A (lockM M a i n) FL w w' := by
  obtain ⟨gl, h0⟩ := h.at
  have hN := h.size
  obtain ⟨gl, F, h1, hF, hF2, h4, h5, h6, h7⟩ := h
  have h0 : LdAt N g gl A M w := ⟨h1, ⟨F, hF, hF2⟩, h4, h5, h6⟩
  have hM : (lockM M a i n).length ≤ 10000 := by have := lockM_len h0.srt a i n; omega
  have fin : ∀ w', GrTo codI 68 gl (lockM M a i n) F w w' → LdTo g N A (lockM M a i n) FL w w' := fun w' ht => by
    obtain ⟨F', k1, k2, k3⟩ := ht
    refine ⟨_, ⟨gl, F', (k3.block g h0.lt (fun hf => (hF2 g hf).2 rfl) (fun h => h)).trans h1, k1, fun k hk => (k2 k hk).elim (hF2 k) (fun hk => by have := h0.lt; omega), h4, h5, hM, fun k => Iff.rfl⟩, fun k hk => ?_, k3.grow, fun k hk h8 h9 => k3.block k hk (fun e => h8 ((h7 k).2 (.inr e))) h9⟩
    rcases hk with e | e
    · exact .inl ((h7 k).2 (.inl e))
    · exact (k2 k e).imp (fun e => (h7 k).2 (.inr e)) id
  refine ledger_LockG (R := fun w' => LdTo g N A (lockM M a i n) FL w w') h0.ptr hac (fun hc => ?_) (fun hc => ?_)
  · have e : lockM M a i n = cdel M a i := by unfold lockM; rw [if_neg (by simp [hac]), if_pos hc]
    rw [e] at fin ⊢
    refine (grid_Del_I hF (by omega) ha hi).mono ?_
    rintro e w' ⟨rfl, h3⟩
    exact ⟨_, rfl, fin w' h3⟩
  · have e : lockM M a i n = cput M a i n := by unfold lockM; rw [if_neg (by simp [hac]), if_neg hc]
    rw [e] at fin ⊢
    refine (grid_Set_I hF (by omega) ha hi n).mono ?_
    rintro e w' ⟨rfl, h3⟩
    exact ⟨rfl, fin w' h3⟩
/-- A change of the struct's block alone. -/
theorem LdX.off (h : LdX g N A M FL w) (h' : ∀ gl, LdAt N g gl A M w → LdAt N g gl A' M w' ∧ Below N w w' ∧ Off g w w') : LdTo g N A' M FL w w' := by
  obtain ⟨gl, F, h1, hF, hF2, h4, h5, h6, h7⟩ := h
  have h0 : LdAt N g gl A M w := ⟨h1, ⟨F, hF, hF2⟩, h4, h5, h6⟩
  obtain ⟨k1, k2, k3⟩ := h' gl h0
  refine ⟨FL, ⟨gl, F, k1.blk, hF.keep (Grow.of_below k2) (fun k hk => k3 k (hF.2.2.1 k hk) (hF2 k hk).2), hF2, h4, k1.ok, h6, h7⟩, fun k hk => .inl hk, Grow.of_below k2, fun k hk h8 h9 => k3 k hk (fun e => h8 ((h7 k).2 (.inl e)))⟩
theorem ledger_TransferX (h : LdX g N A M FL w) {a : Int} (ha : (Lit.int .i64 a).wf = true) (b n : Int) : Calls Try.prog 13 #[.pointer (some ⟨g, 0, none⟩), .int .i64 a, .int .i64 b, .int .i64 n] w fun e w' => e = .returned (.int .i64 (transE A M a b n)) ∧ LdTo g N (transA A M a b n) M FL w w' := by
  obtain ⟨gl, F, h1, hF, hF2, h4, h5, h6, h7⟩ := h
  have h0 : LdAt N g gl A M w := ⟨h1, ⟨F, hF, hF2⟩, h4, h5, h6⟩
  have hN : N ≤ w.heap.size := Nat.le_of_lt (Nat.lt_of_le_of_lt h4 h0.lt)
  refine (ledger_TransferF h0 hN ha b n).mono ?_
  rintro e w' ⟨he, k1, k2, k3⟩
  exact ⟨he, FL, ⟨gl, F, k1.blk, hF.keep (Grow.of_below k2) (fun k hk => k3 k (hF.2.2.1 k hk) (hF2 k hk).2), hF2, h4, k1.ok, h6, h7⟩, fun k hk => .inl hk, Grow.of_below k2, fun k hk h8 h9 => k3 k hk (fun e => h8 ((h7 k).2 (.inl e)))⟩
theorem ledger_FreeX (h : LdX g N A M FL w) (a : Int) : Calls Try.prog 27 #[.pointer (some ⟨g, 0, none⟩), .int .i64 a] w fun e w' => e = .returned (.int .i64 (accOf A a).1) ∧ w' = w := by
  obtain ⟨gl, h0⟩ := h.at
  exact ledger_Free h0 a
theorem ledger_LockedX (h : LdX g N A M FL w) {a : Int} (ha : (Lit.int .i64 a).wf = true) : Calls Try.prog 31 #[.pointer (some ⟨g, 0, none⟩), .int .i64 a] w fun e w' => e = .returned (.int .i64 (lockedOf M a)) ∧ Below w.heap.size w w' := by
  obtain ⟨gl, h0⟩ := h.at
  exact ledger_Locked h0 ha
end
end Go.Proofs.Ytoohcckhdhfpnaa
end

section
namespace Go.Proofs.Ytoohcckhdhfpnaa
open Go.RowKit Go.Maps Go.Shelf
set_option linter.unusedVariables false
set_option linter.unusedSimpArgs false

set_option maxRecDepth 100000 in
set_option maxHeartbeats 4000000 in
theorem ledger_unholdF {N g gl : Nat} {A : Acc} {M : Cls Int} {w : World} (h : LdAt N g gl A M w) {a b : Int} (hb : isAcc b) (n : Int) :
    Calls Try.prog 40 #[.pointer (some ⟨g, 0, none⟩), .int .i64 a, .int .i64 n, .int .i64 b] w fun e w' => e = .returned (.int .i64 (heldM A a n)) ∧ LdAt N g gl (unheld A a n b) M w' ∧ Below N w w' ∧ Off g w w' := by
  by_cases hac : isAcc a
  · have hm0 : heldM A a n = min (max n 0) (A a.toNat).2 := by rw [heldM, if_pos hac]
    have hu0 : unheld A a n b = giveA (takeA A a.toNat (heldM A a n)) b.toNat (heldM A a n) := by rw [unheld, if_pos hac]
    obtain ⟨m, hm⟩ : ∃ m, m = heldM A a n := ⟨_, rfl⟩
    rw [hu0, ← hm]
    rw [← hm] at hm0
    clear hm hu0
    obtain ⟨k, rfl, hk⟩ := isAcc_nat hac
    obtain ⟨j, rfl, hj⟩ := isAcc_nat hb
    rw [Int.toNat_natCast] at hm0 ⊢
    rw [Int.toNat_natCast]
    have h0 : 0 ≤ (A k).2 := h.ok.held k
    have hmn : 0 ≤ m ∧ m ≤ (A k).2 := by omega
    obtain ⟨ok1, sm1⟩ := takeA_ok h.ok hk hmn.1 hmn.2
    have ok2 := giveA_ok ok1 hj hmn.1 (by rw [sm1]; have := h.ok.all; omega)
    have hh := h.held hk
    have hf := h.frozen (k * 2 + 1)
    obtain ⟨u, hu⟩ : ∃ u, u = (A k).2 := ⟨_, rfl⟩
    have hu1 : u ≤ 1073741824 := by have := h.ok.one hk; have := h.ok.free k; unfold both at *; omega
    obtain ⟨w1, hw1⟩ : ∃ w1, w1 = w.setCell ⟨g, k * 2 + 1, none⟩ (.int .i64 (u - m)) := ⟨_, rfl⟩
    have p1 := h.setHeld hk (u - m) (by rw [hu]; exact ok1)
    rw [← hw1] at p1
    have p1' : LdAt N g gl (takeA A k m) M w1 := by unfold takeA; rw [← hu]; exact p1.1
    have hfr := p1'.free hj
    obtain ⟨f, hff⟩ : ∃ f, f = (takeA A k m j).1 := ⟨_, rfl⟩
    have hf0 : 0 ≤ f := by rw [hff]; exact ok1.free j
    have hf1 : f ≤ 1073741824 := by have := ok1.one hj; have := ok1.held j; unfold both at *; omega
    have p2 := p1'.setFree hj (f + m) (by rw [hff]; exact ok2)
    have hfz := p1'.frozen (j * 2)
    have hn1 : IntKind.i64.wrap (u - m) = u - m := IntWalk.i64_in _ (by omega)
    have hn2 : IntKind.i64.wrap (f + m) = f + m := IntWalk.i64_in _ (by omega)
    have hmm : min (max n 0) u = m := by rw [hu]; exact hm0.symm
    rw [← hu] at hh
    rw [← hff] at hfr
    have hend : LdAt N g gl (giveA (takeA A k m) j m) M (w1.setCell ⟨g, j * 2, none⟩ (.int .i64 (f + m))) ∧ Below N w (w1.setCell ⟨g, j * 2, none⟩ (.int .i64 (f + m))) ∧ Off g w (w1.setCell ⟨g, j * 2, none⟩ (.int .i64 (f + m))) := ⟨by unfold giveA; rw [← hff]; exact p2.1, p1.2.trans p2.2, (show Off g w w1 by rw [hw1]; exact Off.set).trans (by rw [hw1]; simp [World.setCell]) Off.set⟩
    have HE := Lib.hid hend
    have HK := Lib.hid (And.intro hk hj)
    have HW1 := Lib.hid hw1
    have HFR := Lib.hid (And.intro hfr hfz)
    clear h hac hb hm0 hk hj h0 hmn ok1 sm1 ok2 hu p1 p1' hff p2 hend hw1 hfr hfz
    go_enter Try.func40, Try.ntmps40
    go_upto_region 6 with (first
      | (go_at_call 36; refine (ledger_account HK.out.1 _).mono ?_; rintro e w' ⟨rfl, hw⟩; rw [hw]; clear hw w')
      | fail)
    rw [← HW1.out]
    obtain ⟨hfr, hfz⟩ := HFR.out
    clear hf hh
    go_wp2_with (first
      | (go_at_call 36; refine (ledger_account HK.out.2 _).mono ?_; rintro e w' ⟨rfl, hw⟩; rw [hw]; clear hw w')
      | fail)
    go_ret
    exact ⟨rfl, HE.out⟩
  · have e1 : heldM A a n = 0 := by rw [heldM, if_neg hac]
    have e2 : unheld A a n b = A := by rw [unheld, if_neg hac]
    have HH := Lib.hid (And.intro h hac)
    rw [e1, e2]
    clear h hb hac e1 e2
    go_enter Try.func40, Try.ntmps40
    go_wp2_with (first
      | (go_at_call 36; refine (ledger_account_no HH.out.2 _).mono ?_; rintro e w' ⟨rfl, hw⟩; rw [hw]; clear hw w')
      | fail)
    exact bodyPost_ret (v := .int .i64 0) (by simp [results, Try.results40, go_sem]) rfl ⟨rfl, HH.out.1, Below.refl _ _, Off.refl _ _⟩
section
variable {N g gl : Nat} {A : Acc} {M : Cls Int} {w : World}
set_option maxRecDepth 100000 in
theorem ledger_SlashF (h : LdAt N g gl A M w) (a n : Int) : Calls Try.prog 19 #[.pointer (some ⟨g, 0, none⟩), .int .i64 a, .int .i64 n] w fun e w' => e = .returned (.int .i64 (heldM A a n)) ∧ LdAt N g gl (unheld A a n 0) M w' ∧ Below N w w' ∧ Off g w w' := by
  have HH := Lib.hid h
  clear h
  go_enter Try.func19, Try.ntmps19
  go_wp2_with (first | (go_at_call 40; refine (ledger_unholdF HH.out (by unfold isAcc; omega) n).mono ?_; rintro e w1 ⟨rfl, h1⟩; have H1 := Lib.hid h1; clear h1) | fail)
  go_ret
  exact ⟨rfl, H1.out⟩
set_option maxRecDepth 100000 in
theorem ledger_ReleaseF (h : LdAt N g gl A M w) (a n : Int) : Calls Try.prog 17 #[.pointer (some ⟨g, 0, none⟩), .int .i64 a, .int .i64 n] w fun e w' => e = .returned (.int .i64 (heldM A a n)) ∧ LdAt N g gl (unheld A a n a) M w' ∧ Below N w w' ∧ Off g w w' := by
  have hu : Calls Try.prog 40 #[.pointer (some ⟨g, 0, none⟩), .int .i64 a, .int .i64 n, .int .i64 a] w fun e w' => e = .returned (.int .i64 (heldM A a n)) ∧ LdAt N g gl (unheld A a n a) M w' ∧ Below N w w' ∧ Off g w w' := by
    by_cases ha : isAcc a
    · exact ledger_unholdF h ha n
    · have e1 : heldM A a n = 0 := by rw [heldM, if_neg ha]
      have HH := Lib.hid (And.intro h ha)
      rw [e1, unheld_noacc ha]
      clear h ha e1
      go_enter Try.func40, Try.ntmps40
      go_wp2_with (first
        | (go_at_call 36; refine (ledger_account_no HH.out.2 _).mono ?_; rintro e w' ⟨rfl, hw⟩; rw [hw]; clear hw w')
        | fail)
      exact bodyPost_ret (v := .int .i64 0) (by simp [results, Try.results40, go_sem]) rfl ⟨rfl, HH.out.1, Below.refl _ _, Off.refl _ _⟩
  have HH := Lib.hid hu
  clear h hu
  go_enter Try.func17, Try.ntmps17
  go_wp2_with (first | (go_at_call 40; refine HH.out.mono ?_; rintro e w1 ⟨rfl, h1⟩; have H1 := Lib.hid h1; clear h1) | fail)
  go_ret
  exact ⟨rfl, H1.out⟩
end
section
variable {g N : Nat} {A : Acc} {M : Cls Int} {FL : FP} {w w' : World}
theorem LdX.toF (h : LdX g N A M FL w) {A' : Acc} {E : Int} {e : Ending} {w' : World} {gl : Nat} (hg : w.cell? ⟨g, 20, none⟩ = some (.pointer (some ⟨gl, 0, none⟩))) (h' : e = .returned (.int .i64 E) ∧ LdAt N g gl A' M w' ∧ Below N w w' ∧ Off g w w') : e = .returned (.int .i64 E) ∧ LdTo g N A' M FL w w' := by
  obtain ⟨gl', F, h1, hF, hF2, h4, h5, h6, h7⟩ := h
  have h0 : LdAt N g gl' A M w := ⟨h1, ⟨F, hF, hF2⟩, h4, h5, h6⟩
  obtain rfl : gl' = gl := by have := h0.ptr; rw [hg] at this; injection this with q; injection q with q; injection q with q; injection q with q; exact q.symm
  obtain ⟨he, k1, k2, k3⟩ := h'
  exact ⟨he, FL, ⟨gl', F, k1.blk, hF.keep (Grow.of_below k2) (fun k hk => k3 k (hF.2.2.1 k hk) (hF2 k hk).2), hF2, h4, k1.ok, h6, h7⟩, fun k hk => .inl hk, Grow.of_below k2, fun k hk h8 h9 => k3 k hk (fun e => h8 ((h7 k).2 (.inl e)))⟩
theorem ledger_ReserveX (h : LdX g N A M FL w) {a : Int} (ha : (Lit.int .i64 a).wf = true) (n : Int) : Calls Try.prog 15 #[.pointer (some ⟨g, 0, none⟩), .int .i64 a, .int .i64 n] w fun e w' => e = .returned (.int .i64 (spendE A M a n false)) ∧ LdTo g N (reserveA A M a n) M FL w w' := by
  obtain ⟨gl, h0⟩ := h.at
  exact (ledger_ReserveF h0 h.size ha n).mono fun e w' h' => h.toF h0.ptr h'
theorem ledger_ReleaseX (h : LdX g N A M FL w) (a n : Int) : Calls Try.prog 17 #[.pointer (some ⟨g, 0, none⟩), .int .i64 a, .int .i64 n] w fun e w' => e = .returned (.int .i64 (heldM A a n)) ∧ LdTo g N (unheld A a n a) M FL w w' := by
  obtain ⟨gl, h0⟩ := h.at
  exact (ledger_ReleaseF h0 a n).mono fun e w' h' => h.toF h0.ptr h'
theorem ledger_SlashX (h : LdX g N A M FL w) (a n : Int) : Calls Try.prog 19 #[.pointer (some ⟨g, 0, none⟩), .int .i64 a, .int .i64 n] w fun e w' => e = .returned (.int .i64 (heldM A a n)) ∧ LdTo g N (unheld A a n 0) M FL w w' := by
  obtain ⟨gl, h0⟩ := h.at
  exact (ledger_SlashF h0 a n).mono fun e w' h' => h.toF h0.ptr h'
theorem ledger_IssuedX (h : LdX g N A M FL w) : Calls Try.prog 12 #[.pointer (some ⟨g, 0, none⟩)] w fun e w' => e = .returned (.int .i64 (sumTo A 10)) ∧ Below w.heap.size w w' := by
  obtain ⟨gl, h0⟩ := h.at
  exact ledger_Issued h0
theorem ledger_HeldX (h : LdX g N A M FL w) (a : Int) : Calls Try.prog 29 #[.pointer (some ⟨g, 0, none⟩), .int .i64 a] w fun e w' => e = .returned (.int .i64 (accOf A a).2) ∧ w' = w := by
  obtain ⟨gl, h0⟩ := h.at
  exact ledger_Held h0 a
end
end Go.Proofs.Ytoohcckhdhfpnaa
end

section
namespace Go.Proofs.Ytoohcckhdhfpnaa
open Go.RowKit Go.Maps
set_option linter.unusedVariables false
set_option linter.unusedSimpArgs false

section
variable {P : Program} {α : Type} {r : RowTy P α} {w w' : World} {v u : Value} {xs ys : List α} {B : Nat}
theorem RdR.take {ao : Option Addr} {n cap : Nat} (h : RdR r w (.slice ao n cap) xs) {k : Nat} (hk : k ≤ xs.length) : RdR r w (sliced ao 0 k cap r.k) (xs.take k) := by
  rcases h with ⟨e, rfl⟩ | ⟨b, off, c, e, hc, hb, hr⟩
  · injection e with e1 e2 e3
    subst e1 e2 e3
    have : k = 0 := by simpa using hk
    subst this
    exact .inl ⟨by simp [sliced], by simp⟩
  · injection e with e1 e2 e3
    subst e1 e3
    have hl : (xs.take k).length = k := by simp; omega
    refine .inr ⟨b, off, cap, by rw [hl]; simp [sliced, Addr.add], by rw [hl]; omega, hb, fun j u hj => hr j u ?_⟩
    rw [← List.take_append_drop k xs, r.all_append, List.getElem?_append_left (List.getElem?_eq_some_iff.1 hj).1]
    exact hj
theorem RdR.drop {ao : Option Addr} {n cap : Nat} (h : RdR r w (.slice ao n cap) xs) {k : Nat} (hk : k ≤ xs.length) : RdR r w (sliced ao k n cap r.k) (xs.drop k) := by
  rcases h with ⟨e, rfl⟩ | ⟨b, off, c, e, hc, hb, hr⟩
  · injection e with e1 e2 e3
    subst e1 e2 e3
    have : k = 0 := by simpa using hk
    subst this
    exact .inl ⟨by simp [sliced], by simp⟩
  · injection e with e1 e2 e3
    subst e1 e2 e3
    have hl : (xs.drop k).length = xs.length - k := by simp
    by_cases hkc : cap = k
    · have hd : xs.drop k = [] := List.drop_of_length_le (by omega)
      rw [hd]
      refine .inr ⟨b, off, 0, ?_, Nat.le_refl _, hb, fun j u hj => by simp [RowTy.all] at hj⟩
      simp only [sliced, if_pos hkc, List.length_nil]
      congr 1 <;> omega
    · refine .inr ⟨b, off + k * r.k, cap - k, by rw [hl]; simp [sliced, hkc, Addr.add], by rw [hl]; omega, hb, fun j u hj => ?_⟩
      have hdl : (r.all (xs.take k)).length = k * r.k := by rw [r.all_len, List.length_take, Nat.min_eq_left hk]
      have := hr (k * r.k + j) u (by
        rw [← List.take_append_drop k xs, r.all_append, List.getElem?_append_right (by rw [hdl]; omega), hdl, Nat.add_sub_cancel_left]
        exact hj)
      rwa [← Nat.add_assoc] at this
theorem OwnR.none {b : Nat} (h : w.heap[b]? = some (.cells #[] r.T (0, 0))) (hB : B ≤ b) : OwnR r B (.slice (some ⟨b, 0, none⟩) 0 0) [] w :=
  ⟨by simp [RowTy.all], .inr ⟨b, 0, #[], rfl, hB, h, Nat.le_refl _, by unfold maxLen; omega, by simp, by simp [RowTy.all]⟩⟩
theorem run_noneR (w : World) : (Instr.buildSlice r.S 0 #[]).run P w = .ok (.slice (some ⟨w.heap.size, 0, none⟩) 0 0) (w.alloc (.cells #[] r.T)) := by
  obtain ⟨i0, z, b, h1, h2, h3, h4, h5, h6⟩ := r.info
  simp [Instr.buildSlice, run_underlying r.slice, sizeOf, typeInfo, h1, newRow, Instr.fill]
  have e : ∀ f : Nat → Value, Array.map f (Array.range 0) = #[] := fun f => Array.eq_empty_of_size_eq_zero (by simp)
  rw [e]
theorem run_appsR (hown : OwnR r B v xs w) (hr : RdR r w u ys) (hlen : xs.length + ys.length ≤ 1000000) (hB : B ≤ w.heap.size) (ty : TypeId) :
    ∃ v' w', (Builtin.append_ #[r.S, r.S] ty #[v, u]).run P w = .ok v' w' ∧ OwnR r B v' (xs ++ ys) w' ∧ w.grownBy w' v.ownBlock ∧ (v'.ownBlock = v.ownBlock ∨ v'.ownBlock = some w.heap.size) := by
  obtain ⟨i0, z, b, h1, h2, h3, h4, h5, h6⟩ := r.info
  rcases hr with ⟨rfl, rfl⟩ | ⟨bb, off, cap, rfl, hc, hb, hcell⟩
  · exact ⟨v, w, run_append_owned_none (P := P) (w := w) B r.S ty r.T i0 r.k r.slice h1 v _ _ hown, by rw [List.append_nil]; exact hown, ⟨rfl, rfl, rfl, Nat.le_refl _, fun _ _ _ => rfl⟩, .inl rfl⟩
  · have hby : (xs.length + ys.length) * b ≤ 140737488355328 := Nat.le_trans (Nat.mul_le_mul hlen h6) (by omega)
    obtain ⟨v', w', e1, e2, e3, e4, e5⟩ := run_append_own_at (P := P) (w := w) B r.S ty r.T i0 (.agg z) r.k b r.slice h1 h2 h3 h5 h4 r.pos v _ _ hown ⟨bb, off, none⟩ ys.length cap (r.all ys) (r.all_len ys)
      (fun j u hj => by rw [Addr.add_mid]; exact hcell j u hj) (r.all_ones ys) (by unfold maxLen; omega) hby hB
    refine ⟨v', w', e1, ?_, e3, e5⟩
    unfold OwnR
    rw [r.all_append, List.length_append]
    exact e2
section
variable {ops : Array Oper} {rest : List Oper} {o : Oper} {a : Act} {Q : Exit → Act → World → Prop}
theorem wpl_appsR {s x : Operand} (hgd : o.guard = none) (ho : o.op = .call { callee := .builtin .append, args := #[s, x], argTypes := #[r.S, r.S] }) (hs : a.eval s = v) (hx : a.eval x = u)
    (hown : OwnR r B v xs w) (hr : RdR r w u ys) (hlen : xs.length + ys.length ≤ 1000000) (hB : B ≤ w.heap.size)
    (h : ∀ v' w', OwnR r B v' (xs ++ ys) w' → w.grownBy w' v.ownBlock → (v'.ownBlock = v.ownBlock ∨ v'.ownBlock = some w.heap.size) → wpList P ops Q rest (a.put o.dst v') w') : wpList P ops Q (o :: rest) a w := by
  obtain ⟨v', w', hrun, h1, h2, h3⟩ := run_appsR hown hr hlen hB o.type
  refine wpList_plain hgd fun K hK => ?_
  unfold Oper.wp
  simp [execOp, ho, resolve, invoke, builtin, hs, hx, hrun, Result.andThen]
  exact hK _ _ (h v' w' h1 h2 h3)
theorem step_appsR {K : Act → World → Prop} {E : Prop} (hg : o.guard = none) (d x : Operand) (hop : o.op = Op.call { callee := Callee.builtin Builtin.append, args := #[d, x], argTypes := #[r.S, r.S] })
    (B : Nat) (v u : Value) (xs ys : List α) (hd : a.eval d = v) (hx : a.eval x = u) (hown : OwnR r B v xs w) (hr : RdR r w u ys) (hlen : xs.length + ys.length ≤ 1000000) (hB : B ≤ w.heap.size)
    (hK : ∀ v' w', OwnR r B v' (xs ++ ys) w' → w.grownBy w' v.ownBlock → (v'.ownBlock = v.ownBlock ∨ v'.ownBlock = some w.heap.size) → K (a.put o.dst v') w') :
    if Region.wanted o (yielded ops a.tmps) = true then Oper.wp P o a w K Q else E := by
  obtain ⟨v', w', hrun, h1, h2, h3⟩ := run_appsR hown hr hlen hB o.type
  have hw : Region.wanted o (yielded ops a.tmps) = true := by simp [Region.wanted, hg]
  rw [if_pos hw]
  unfold Oper.wp
  simp [execOp, hop, resolve, invoke, builtin, hd, hx, hrun, Result.andThen]
  exact hK _ _ h1 h2 h3
theorem wpl_sliceHi {ao : Option Addr} {n cap k : Nat} {x y : Operand} (hgd : o.guard = none) (ho : o.op = .slice r.S x none (some y) none) (hx : a.eval x = .slice ao n cap) (hy : a.eval y = .int .i64 k) (hk : k ≤ cap)
    (h : ∀ u, u = sliced ao 0 k cap r.k → wpList P ops Q rest (a.put o.dst u) w) : wpList P ops Q (o :: rest) a w := by
  obtain ⟨i0, z, b, h1, h2, h3, h4, h5, h6⟩ := r.info
  have hs : P.underlying r.S = some (.slice (P.elem r.S)) := by rw [r.slice]; simp [Program.elem, r.slice]
  have he : P.elem r.S = r.T := by simp [Program.elem, r.slice]
  refine wpList_plain hgd fun K hK => ?_
  unfold Oper.wp
  simp [execOp, ho, hx, hy, run_sliceAt_slice _ _ _ _ _ _ hs, run_slice_h _ _ _ _ _ hs _ _ (Int.natCast_nonneg k) (Int.ofNat_le.2 hk), he, sizeOf, typeInfo, h1, h3, Result.andThen]
  exact hK _ _ (h _ rfl)
theorem wpl_sliceLo {ao : Option Addr} {n cap k : Nat} {x y : Operand} (hgd : o.guard = none) (ho : o.op = .slice r.S x (some y) none none) (hx : a.eval x = .slice ao n cap) {zk : Int} (hy : a.eval y = .int .i64 zk) (hzk : zk = (k : Int)) (hk : k ≤ n)
    (h : ∀ u, u = sliced ao k n cap r.k → wpList P ops Q rest (a.put o.dst u) w) : wpList P ops Q (o :: rest) a w := by
  subst hzk
  obtain ⟨i0, z, b, h1, h2, h3, h4, h5, h6⟩ := r.info
  have hs : P.underlying r.S = some (.slice (P.elem r.S)) := by rw [r.slice]; simp [Program.elem, r.slice]
  have he : P.elem r.S = r.T := by simp [Program.elem, r.slice]
  refine wpList_plain hgd fun K hK => ?_
  unfold Oper.wp
  simp [execOp, ho, hx, hy, run_sliceAt_slice _ _ _ _ _ _ hs, run_slice_l _ _ _ _ _ hs _ _ (Int.natCast_nonneg k) (Int.ofNat_le.2 hk), he, sizeOf, typeInfo, h1, h3, Result.andThen]
  exact hK _ _ (h _ rfl)
theorem wpl_noneR (hgd : o.guard = none) (ho : o.op = .buildSlice r.S 0 #[])
    (h : wpList P ops Q rest (a.put o.dst (.slice (some ⟨w.heap.size, 0, none⟩) 0 0)) (w.alloc (.cells #[] r.T))) : wpList P ops Q (o :: rest) a w := by
  refine wpList_plain hgd fun K hK => ?_
  unfold Oper.wp
  simp [execOp, ho, run_noneR, Result.andThen]
  exact hK _ _ h
end
end
end Go.Proofs.Ytoohcckhdhfpnaa
end

section
namespace Go.Proofs.Ytoohcckhdhfpnaa
open Go.RowKit Go.Maps
set_option linter.unusedVariables false
set_option linter.unusedSimpArgs false

def lkL (x : Int × Int) : List Value := [.int .i64 x.1, .int .i64 x.2]
theorem lockInfo : (Try.prog.info? 44).map (fun i => (i.zero, i.size, i.bytes)) = some (some (.agg #[.int .i64 0, .int .i64 0]), 2, 16) := by kernel_rfl
/-- A lock of the reference: its id, its amount. -/
def lockP : RowTy Try.prog (Int × Int) where
  T := 44
  S := 35
  k := 2
  f := lkL
  len := fun _ => rfl
  one := fun x u hu => by
    simp only [lkL, List.mem_cons, List.not_mem_nil, or_false] at hu
    rcases hu with rfl | rfl <;> rfl
  pos := by decide
  small := by decide
  slice := Try.underlying35
  info := by
    obtain ⟨i0, hi, hz⟩ := Option.map_eq_some_iff.1 lockInfo
    simp only [Prod.mk.injEq] at hz
    obtain ⟨h1, h2, h3⟩ := hz
    exact ⟨i0, _, _, hi, h1, h2, rfl, h3, by decide⟩
  row := ⟨_, Try.underlying44, rfl⟩
/-- Accounts as they lie in a block. -/
def AcRow (A : Acc) (vs : Nat → Value) (C : Array Value) : Prop := C.size = 30 ∧ ∀ k, k < 10 → C[k * 3]? = some (.int .i64 (A k).1) ∧ C[k * 3 + 1]? = some (.int .i64 (A k).2) ∧ C[k * 3 + 2]? = some (vs k)
/-- The reference's ledger at y, its accounts at ab, all in the blocks of F. -/
def RlAt (y ab : Nat) (F : FP) (A : Acc) (M : Cls Int) (w : World) : Prop :=
  ∃ vs C, w.heap[y]? = some (.cells #[.slice (some ⟨ab, 0, none⟩) 10 10] 42 (0, 0)) ∧ w.heap[ab]? = some (.cells C 39 (0, 0)) ∧ AcRow A vs C ∧ (∀ k : Nat, k < 10 → RdR lockP w (vs k) (rowOf M k) ∧ ∀ b, (vs k).ownBlock = some b → F b ∧ b ≠ y ∧ b ≠ ab) ∧ F y ∧ F ab ∧ y ≠ ab ∧ (∀ k, F k → k < w.heap.size) ∧ (∀ x ∈ M, isAcc x.1.1) ∧ SrtC M
def RlTo (y ab : Nat) (F : FP) (A : Acc) (M : Cls Int) (w w' : World) : Prop := ∃ F', RlAt y ab F' A M w' ∧ (∀ k, F' k → F k ∨ w.heap.size ≤ k) ∧ Only F (fun _ => False) w w'
section
variable {y ab : Nat} {F : FP} {A A' : Acc} {M : Cls Int} {w w' : World}
theorem RlAt.lt (h : RlAt y ab F A M w) {k : Nat} (hk : F k) : k < w.heap.size := by
  obtain ⟨vs, C, h1, h2, h3, h4, h5, h6, h7, h8, h9⟩ := h
  exact h8 k hk
theorem RlAt.keys (h : RlAt y ab F A M w) : ∀ x ∈ M, isAcc x.1.1 := by
  obtain ⟨vs, C, h1, h2, h3, h4, h5, h6, h7, h8, h9, h10⟩ := h
  exact h9
theorem RlAt.srt (h : RlAt y ab F A M w) : SrtC M := by
  obtain ⟨vs, C, h1, h2, h3, h4, h5, h6, h7, h8, h9, h10⟩ := h
  exact h10
theorem RlAt.keep (h : RlAt y ab F A M w) (hg : Grow w w') (hk : ∀ k, F k → w'.heap[k]? = w.heap[k]?) : RlAt y ab F A M w' := by
  obtain ⟨vs, C, h1, h2, h3, h4, h5, h6, h7, h8, h9⟩ := h
  exact ⟨vs, C, (hk y h5).trans h1, (hk ab h6).trans h2, h3, fun k hk' => ⟨(h4 k hk').1.keep hg.size (fun b hb => hk b ((h4 k hk').2 b hb).1), (h4 k hk').2⟩, h5, h6, h7, fun k hk' => Nat.lt_of_lt_of_le (h8 k hk') hg.size, h9⟩
theorem RlAt.below (h : RlAt y ab F A M w) (hb : Below w.heap.size w w') : RlAt y ab F A M w' := h.keep (Grow.of_below hb) (fun k hk => hb.block k (h.lt hk))
/-- Its cells. -/
theorem RlAt.cells (h : RlAt y ab F A M w) {k : Nat} (hk : k < 10) : ∃ v, w.cell? ⟨y, 0, none⟩ = some (.slice (some ⟨ab, 0, none⟩) 10 10) ∧ w.cell? ⟨ab, k * 3, none⟩ = some (.int .i64 (A k).1) ∧ w.cell? ⟨ab, k * 3 + 1, none⟩ = some (.int .i64 (A k).2) ∧ w.cell? ⟨ab, k * 3 + 2, none⟩ = some v ∧ RdR lockP w v (rowOf M k) ∧ ∀ j, w.frozen? ⟨ab, j, none⟩ = false := by
  obtain ⟨vs, C, h1, h2, ⟨-, h3⟩, h4, -⟩ := h
  obtain ⟨c0, c1, c2⟩ := h3 k hk
  exact ⟨vs k, by rw [World.cell?, h1]; rfl, by rw [World.cell?, h2]; exact c0, by rw [World.cell?, h2]; exact c1, by rw [World.cell?, h2]; exact c2, (h4 k hk).1, fun j => by rw [World.frozen?, h2]; rfl⟩
theorem AcRow.set0 {vs : Nat → Value} {C : Array Value} (h : AcRow A vs C) {k : Nat} (hk : k < 10) (x : Int) : AcRow (upd A k (x, (A k).2)) vs (C.setIfInBounds (k * 3) (.int .i64 x)) := by
  obtain ⟨h1, h2⟩ := h
  refine ⟨by simpa using h1, fun j hj => ?_⟩
  obtain ⟨c0, c1, c2⟩ := h2 j hj
  by_cases e : j = k
  · subst e
    rw [Array.getElem?_setIfInBounds_self_of_lt (by omega), Array.getElem?_setIfInBounds_ne (by omega), Array.getElem?_setIfInBounds_ne (by omega)]
    simp [upd, c1, c2]
  · rw [Array.getElem?_setIfInBounds_ne (by omega), Array.getElem?_setIfInBounds_ne (by omega), Array.getElem?_setIfInBounds_ne (by omega)]
    simp [upd, e, c0, c1, c2]
theorem AcRow.set1 {vs : Nat → Value} {C : Array Value} (h : AcRow A vs C) {k : Nat} (hk : k < 10) (x : Int) : AcRow (upd A k ((A k).1, x)) vs (C.setIfInBounds (k * 3 + 1) (.int .i64 x)) := by
  obtain ⟨h1, h2⟩ := h
  refine ⟨by simpa using h1, fun j hj => ?_⟩
  obtain ⟨c0, c1, c2⟩ := h2 j hj
  by_cases e : j = k
  · subst e
    rw [Array.getElem?_setIfInBounds_ne (by omega), Array.getElem?_setIfInBounds_self_of_lt (by omega), Array.getElem?_setIfInBounds_ne (by omega)]
    simp [upd, c0, c2]
  · rw [Array.getElem?_setIfInBounds_ne (by omega), Array.getElem?_setIfInBounds_ne (by omega), Array.getElem?_setIfInBounds_ne (by omega)]
    simp [upd, e, c0, c1, c2]
theorem RlAt.putA (h : RlAt y ab F A M w) {j : Nat} {u : Value} (hA : ∀ vs C, AcRow A vs C → AcRow A' vs (C.setIfInBounds j u)) : RlAt y ab F A' M (w.setCell ⟨ab, j, none⟩ u) := by
  obtain ⟨vs, C, h1, h2, h3, h4, h5, h6, h7, h8, h9⟩ := h
  have ho : ∀ k, k ≠ ab → (w.setCell ⟨ab, j, none⟩ u).heap[k]? = w.heap[k]? := fun k hk => Below.heap_setCell _ _ _ k hk
  have hs : (w.setCell ⟨ab, j, none⟩ u).heap.size = w.heap.size := by simp [World.setCell]
  refine ⟨vs, C.setIfInBounds j u, (ho y h7).trans h1, ?_, hA vs C h3, fun k hk => ⟨(h4 k hk).1.keep (by omega) (fun b hb => ho b ((h4 k hk).2 b hb).2.2), (h4 k hk).2⟩, h5, h6, h7, fun k hk => by rw [hs]; exact h8 k hk, h9⟩
  simp [World.setCell, Array.getElem?_modify, h2]
theorem RlAt.free (h : RlAt y ab F A M w) {k : Nat} (hk : k < 10) (x : Int) : RlAt y ab F (upd A k (x, (A k).2)) M (w.setCell ⟨ab, k * 3, none⟩ (.int .i64 x)) := h.putA (fun vs C hc => hc.set0 hk x)
theorem RlAt.held (h : RlAt y ab F A M w) {k : Nat} (hk : k < 10) (x : Int) : RlAt y ab F (upd A k ((A k).1, x)) M (w.setCell ⟨ab, k * 3 + 1, none⟩ (.int .i64 x)) := h.putA (fun vs C hc => hc.set1 hk x)
theorem RlTo.of_below (h : RlAt y ab F A M w) (hb : Below w.heap.size w w') : RlTo y ab F A M w w' := ⟨F, h.below hb, fun k hk => .inl hk, Only.of_later hb⟩
theorem RlTo.refl (h : RlAt y ab F A M w) : RlTo y ab F A M w w := RlTo.of_below h (Below.refl _ _)
theorem RlTo.set (h : RlAt y ab F A M w) (ht : RlTo y ab F A' M w w') {A2 : Acc} {j : Nat} {u : Value} (h2 : RlAt y ab F A2 M (w'.setCell ⟨ab, j, none⟩ u)) : RlTo y ab F A2 M w (w'.setCell ⟨ab, j, none⟩ u) := by
  obtain ⟨F', k1, k2, k3⟩ := ht
  have hF : F ab := by
    obtain ⟨vs, C, -, -, -, -, -, q, -⟩ := h
    exact q
  refine ⟨F, h2, fun k hk => .inl hk, ⟨k3.grow.os, k3.grow.tape, k3.grow.output, by have := k3.grow.size; simpa [World.setCell] using this⟩, fun k hk q1 q2 => ?_⟩
  rw [Below.heap_setCell _ _ _ k (by show k ≠ ab; exact fun e => q1 (e ▸ hF))]
  exact k3.block k hk q1 q2
end
theorem ref6_Is (a : Int) (w : World) : Calls Try.prog 38 #[.int .i64 a] w fun e w' => e = .returned (.bool (decide (0 ≤ a ∧ a < 10))) ∧ w' = w := by
  by_cases h0 : 0 ≤ a
  · by_cases h1 : a < 10
    · rw [decide_eq_true (show 0 ≤ a ∧ a < 10 from ⟨h0, h1⟩)]
      have g : a ≥ 0 := h0
      go_enter Try.func38, Try.ntmps38
      go_wp2
      go_ret
      exact ⟨rfl, rfl⟩
    · rw [decide_eq_false (show ¬ (0 ≤ a ∧ a < 10) by omega)]
      have g : a ≥ 0 := h0
      go_enter Try.func38, Try.ntmps38
      go_wp2
      go_ret
      exact ⟨rfl, rfl⟩
  · rw [decide_eq_false (show ¬ (0 ≤ a ∧ a < 10) by omega)]
    have g : ¬ a ≥ 0 := h0
    go_enter Try.func38, Try.ntmps38
    go_wp2
    go_ret
    exact ⟨rfl, rfl⟩
section
variable {y ab : Nat} {F : FP} {A : Acc} {M : Cls Int} {w : World}
theorem ref6_Free (h : RlAt y ab F A M w) (a : Int) : Calls Try.prog 28 #[.pointer (some ⟨y, 0, none⟩), .int .i64 a] w fun e w' => e = .returned (.int .i64 (accOf A a).1) ∧ w' = w := by
  by_cases ha : isAcc a
  · obtain ⟨k, rfl⟩ : ∃ k : Nat, a = k := ⟨a.toNat, by have := ha.1; omega⟩
    have hk : k < 10 := by have := ha.2; omega
    obtain ⟨v, c, c0, c1, c2, -, -⟩ := h.cells hk
    have hI := ref6_Is (k : Int) w
    rw [decide_eq_true (show 0 ≤ (k : Int) ∧ (k : Int) < 10 from ha)] at hI
    have HI := Lib.hid hI
    rw [accOf, if_pos ha, Int.toNat_natCast]
    have hk' : (k : Int) < 10 := ha.2
    clear hI h ha c1 c2
    go_enter Try.func28, Try.ntmps28
    go_wp2_with (first
      | (go_at_call 38; refine HI.out.mono ?_; rintro e w' ⟨rfl, hw⟩; rw [hw]; clear hw w')
      | fail)
    go_ret
    exact ⟨rfl, rfl⟩
  · have hI := ref6_Is a w
    rw [decide_eq_false (show ¬ (0 ≤ a ∧ a < 10) from ha)] at hI
    have HI := Lib.hid hI
    rw [accOf, if_neg ha]
    clear hI h ha
    go_enter Try.func28, Try.ntmps28
    go_wp2_with (first
      | (go_at_call 38; refine HI.out.mono ?_; rintro e w' ⟨rfl, hw⟩; rw [hw]; clear hw w')
      | fail)
    go_ret
    exact ⟨rfl, rfl⟩
theorem ref6_Held (h : RlAt y ab F A M w) (a : Int) : Calls Try.prog 30 #[.pointer (some ⟨y, 0, none⟩), .int .i64 a] w fun e w' => e = .returned (.int .i64 (accOf A a).2) ∧ w' = w := by
  by_cases ha : isAcc a
  · obtain ⟨k, rfl⟩ : ∃ k : Nat, a = k := ⟨a.toNat, by have := ha.1; omega⟩
    have hk : k < 10 := by have := ha.2; omega
    obtain ⟨v, c, c0, c1, c2, -, -⟩ := h.cells hk
    have hI := ref6_Is (k : Int) w
    rw [decide_eq_true (show 0 ≤ (k : Int) ∧ (k : Int) < 10 from ha)] at hI
    have HI := Lib.hid hI
    rw [accOf, if_pos ha, Int.toNat_natCast]
    have hk' : (k : Int) < 10 := ha.2
    clear hI h ha c0 c2
    go_enter Try.func30, Try.ntmps30
    go_wp2_with (first
      | (go_at_call 38; refine HI.out.mono ?_; rintro e w' ⟨rfl, hw⟩; rw [hw]; clear hw w')
      | fail)
    go_ret
    exact ⟨rfl, rfl⟩
  · have hI := ref6_Is a w
    rw [decide_eq_false (show ¬ (0 ≤ a ∧ a < 10) from ha)] at hI
    have HI := Lib.hid hI
    rw [accOf, if_neg ha]
    clear hI h ha
    go_enter Try.func30, Try.ntmps30
    go_wp2_with (first
      | (go_at_call 38; refine HI.out.mono ?_; rintro e w' ⟨rfl, hw⟩; rw [hw]; clear hw w')
      | fail)
    go_ret
    exact ⟨rfl, rfl⟩
end
end Go.Proofs.Ytoohcckhdhfpnaa
end

section
namespace Go.Proofs.Ytoohcckhdhfpnaa
open Go.RowKit Go.Maps
set_option linter.unusedVariables false
set_option linter.unusedSimpArgs false

section
variable {y ab : Nat} {F : FP} {A : Acc} {M : Cls Int} {w : World}
theorem rowOf_no {a : Int} (h : ∀ x ∈ M, isAcc x.1.1) (ha : ¬ isAcc a) : rowOf M a = [] := by
  cases hr : rowOf M a with
  | nil => rfl
  | cons x l =>
    have := mem_rowOf.1 (show x ∈ rowOf M a by rw [hr]; simp)
    exact absurd (h _ this) ha
set_option maxRecDepth 100000 in
set_option maxHeartbeats 4000000 in
theorem ref6_Locked (h : RlAt y ab F A M w) (a : Int) (hlen : (rowOf M a).length ≤ 1000000) : Calls Try.prog 32 #[.pointer (some ⟨y, 0, none⟩), .int .i64 a] w fun e w' => e = .returned (.int .i64 (lockedOf M a)) ∧ w' = w := by
  by_cases ha : isAcc a
  · obtain ⟨k, rfl⟩ : ∃ k : Nat, a = k := ⟨a.toNat, by have := ha.1; omega⟩
    have hk : k < 10 := by have := ha.2; omega
    obtain ⟨v, c, c0, c1, c2, hrd, -⟩ := h.cells hk
    have hI := ref6_Is (k : Int) w
    rw [decide_eq_true (show 0 ≤ (k : Int) ∧ (k : Int) < 10 from ha)] at hI
    have HI := Lib.hid hI
    have hk' : (k : Int) < 10 := ha.2
    obtain ⟨ao, cap, rfl⟩ := hrd.lenOf
    unfold lockedOf
    obtain ⟨xs, hxs⟩ : ∃ xs, xs = rowOf M k := ⟨_, rfl⟩
    rw [← hxs] at hrd hlen c2 ⊢
    obtain ⟨n, hn⟩ : ∃ n, n = xs.length := ⟨_, rfl⟩
    rw [← hn] at hlen c2 hrd
    have HRD := Lib.hid (And.intro hrd hn)
    clear hI h ha c0 c1 hrd hxs hn
    go_enter Try.func32, Try.ntmps32
    go_wp2_with fail
    go_loopw [5, 6] (fun m i wr => ∃ j : Nat, j ≤ n ∧ m = .int .i64 (maxTo (xs.take j)) ∧ i = .int .i64 j ∧ wr = w) (fun _ i _ => n - (intOf i).toNat)
    case atStart => exact ⟨0, by omega, rfl, rfl, rfl⟩
    case round =>
      obtain ⟨j, hj, rfl, rfl, rfl⟩ := hrel
      by_cases hlt : j < n
      · have g1 : (j : Int) < n := by omega
        obtain ⟨b, off, rfl, hr, hb⟩ := HRD.out.1.at (show j < xs.length by rw [← HRD.out.2]; exact hlt)
        obtain ⟨x, hx⟩ : ∃ x, x = xs[j]'(by rw [← HRD.out.2]; exact hlt) := ⟨_, rfl⟩
        rw [← hx] at hr
        have d1 : wr.cell? ⟨b, off + j * 2 + 1, none⟩ = some (.int .i64 x.2) := hr 1 _ rfl
        have htk : xs.take (j + 1) = xs.take j ++ [x] := by rw [hx]; exact (take_snoc (by rw [← HRD.out.2]; exact hlt)).symm
        obtain ⟨mx, hmx⟩ : ∃ mx, mx = maxTo (xs.take j) := ⟨_, rfl⟩
        obtain ⟨xn, hxn⟩ : ∃ xn, xn = x.2 := ⟨_, rfl⟩
        have hst : maxTo (xs.take (j + 1)) = max mx xn := by rw [htk, maxTo_snoc, hmx, hxn]
        rw [← hmx]
        rw [← hxn] at d1
        obtain ⟨mz, hmz⟩ : ∃ mz, mz = max mx xn := ⟨_, rfl⟩
        have M1 : max mx xn = mz := hmz.symm
        have M2 : (if mx < xn then xn else mx) = mz := by rw [hmz]; split <;> omega
        rw [← hmz] at hst
        have HST := Lib.hid hst
        clear hmx hxn hst htk hx hr hmz
        go_wp2_with (first
          | (go_at_call 38; refine HI.out.mono ?_; rintro e w' ⟨rfl, hw⟩; rw [hw]; clear hw w')
          | fail)
        go_roundw
        case rel => exact ⟨j + 1, by omega, by rw [HST.out], by go_num, by first | rfl | trivial⟩
        case measure => simp [intOf]; omega
      · obtain rfl : j = n := by omega
        have g1 : ¬ (j : Int) < j := by omega
        have ht : maxTo (xs.take j) = maxTo xs := by rw [HRD.out.2, List.take_length]
        rw [ht]
        obtain ⟨mx, hmx⟩ : ∃ mx, mx = maxTo xs := ⟨_, rfl⟩
        have HM := Lib.hid hmx
        rw [← hmx]
        clear ht hmx
        go_wp2_with (first
          | (go_at_call 38; refine HI.out.mono ?_; rintro e w' ⟨rfl, hw⟩; rw [hw]; clear hw w')
          | fail)
        exact bodyPost_ret (v := .int .i64 mx) (by simp [results, Try.results32, go_sem]) rfl ⟨by rw [HM.out], rfl⟩
  · have hI := ref6_Is a w
    rw [decide_eq_false (show ¬ (0 ≤ a ∧ a < 10) from ha)] at hI
    have HI := Lib.hid hI
    have hz : lockedOf M a = 0 := by unfold lockedOf; rw [rowOf_no h.keys ha]; rfl
    rw [hz]
    clear hI h ha hz hlen
    go_enter Try.func32, Try.ntmps32
    go_wp2_with fail
    go_loopw [5, 6] (fun m i wr => m = .int .i64 0 ∧ i = .int .i64 0 ∧ wr = w) (fun _ _ _ => 0)
    case atStart => exact ⟨rfl, rfl, rfl⟩
    case round =>
      obtain ⟨rfl, rfl, rfl⟩ := hrel
      go_wp2_with (first
        | (go_at_call 38; refine HI.out.mono ?_; rintro e w' ⟨rfl, hw⟩; rw [hw]; clear hw w')
        | fail)
      exact bodyPost_ret (v := .int .i64 0) (by simp [results, Try.results32, go_sem]) rfl ⟨rfl, rfl⟩
set_option maxRecDepth 100000 in
set_option maxHeartbeats 4000000 in
theorem ref6_Issued (h : RlAt y ab F A M w) (hok : AccOk A) : Calls Try.prog 33 #[.pointer (some ⟨y, 0, none⟩)] w fun e w' => e = .returned (.int .i64 (sumTo A 10)) ∧ Below w.heap.size w w' := by
  obtain ⟨v, c, -⟩ := h.cells (show 0 < 10 by omega)
  have hmono : ∀ k : Nat, k ≤ 10 → 0 ≤ sumTo A k ∧ sumTo A k ≤ 1073741824 := fun k hk => by
    have h1 := sumTo_mono (A := A) (fun k => by unfold both; have := hok.free k; have := hok.held k; omega) (show 0 ≤ k by omega)
    have h2 := sumTo_mono (A := A) (fun k => by unfold both; have := hok.free k; have := hok.held k; omega) hk
    have h3 := hok.all
    have h0 : sumTo A 0 = 0 := rfl
    omega
  have HM := Lib.hid hmono
  have HH := Lib.hid (And.intro h hok)
  clear h hok hmono
  go_enter Try.func33, Try.ntmps33
  go_wp2_with fail
  go_loopw [3, 4] (fun m i wr => ∃ j : Nat, j ≤ 10 ∧ m = .int .i64 (sumTo A j) ∧ i = .int .i64 j ∧ Below w.heap.size w wr) (fun _ i _ => 10 - (intOf i).toNat)
  case atStart => exact ⟨0, by omega, rfl, rfl, Below.refl _ _⟩
  case round =>
    obtain ⟨j, hj, rfl, rfl, hb⟩ := hrel
    have HB := Lib.hid hb
    obtain ⟨v', c', -⟩ := (HH.out.1.below hb).cells (show 0 < 10 by omega)
    by_cases hlt : j < 10
    · have g1 : (j : Int) < 10 := by omega
      obtain ⟨m1, m2⟩ := HM.out (j + 1) (by omega)
      obtain ⟨m3, m4⟩ := HM.out j (by omega)
      have f0 := HH.out.2.free j
      have f1 := HH.out.2.held j
      have hs : sumTo A (j + 1) = sumTo A j + (A j).1 + (A j).2 := by show sumTo A j + both A j = _; unfold both; omega
      obtain ⟨sj, hsj⟩ : ∃ sj, sj = sumTo A j := ⟨_, rfl⟩
      obtain ⟨a0, ha0⟩ : ∃ a0, a0 = (A j).1 := ⟨_, rfl⟩
      obtain ⟨a1, ha1⟩ : ∃ a1, a1 = (A j).2 := ⟨_, rfl⟩
      rw [hs] at m1 m2
      rw [← hsj, ← ha0, ← ha1] at hs m1 m2
      rw [← hsj] at m3 m4 ⊢
      rw [← ha0] at f0
      rw [← ha1] at f1
      have W1 : IntKind.i64.wrap (sj + a0) = sj + a0 := IntWalk.i64_in _ (by omega)
      have W2 : IntKind.i64.wrap (sj + a0 + a1) = sj + a0 + a1 := IntWalk.i64_in _ (by omega)
      have HS := Lib.hid hs
      have hcc : ∀ W, Below w.heap.size w W → W.cell? ⟨y, 0, none⟩ = some (.slice (some ⟨ab, 0, none⟩) 10 10) ∧ W.cell? ⟨ab, j * 3, none⟩ = some (.int .i64 a0) ∧ W.cell? ⟨ab, j * 3 + 1, none⟩ = some (.int .i64 a1) := fun W hW => by
        obtain ⟨v2, q1, q2, q3, -⟩ := (HH.out.1.below hW).cells hlt
        rw [ha0, ha1]
        exact ⟨q1, q2, q3⟩
      have HCC := Lib.hid hcc
      obtain ⟨e1, e2, e3⟩ := hcc wr hb
      clear m1 m2 m3 m4 f0 f1 hs hsj ha0 ha1 c' hcc hb
      go_upto_region 5 with fail
      have D1 := Lib.hid (HCC.out _ HB.out.drew)
      go_region_held3 (fun (W : World) => W.cell? ⟨y, 0, none⟩ = some (.slice (some ⟨ab, 0, none⟩) 10 10) ∧ W.cell? ⟨ab, j * 3, none⟩ = some (.int .i64 a0) ∧ W.cell? ⟨ab, j * 3 + 1, none⟩ = some (.int .i64 a1)) (exact D1.out) (fail)
      go_wp2_with fail
      go_roundw
      case rel => exact ⟨j + 1, by omega, by rw [HS.out], by go_num, HB.out.drew⟩
      case measure => simp [intOf]; omega
    · obtain rfl : j = 10 := by omega
      have g1 : ¬ ((10 : Nat) : Int) < 10 := by omega
      obtain ⟨sj, hsj⟩ : ∃ sj, sj = sumTo A 10 := ⟨_, rfl⟩
      have HSJ := Lib.hid hsj
      rw [← hsj]
      clear hsj hb
      go_wp2_with fail
      exact bodyPost_ret (v := .int .i64 sj) (by simp [results, Try.results33, go_sem]) rfl ⟨by rw [HSJ.out], HB.out⟩
set_option maxRecDepth 100000 in
set_option maxHeartbeats 4000000 in
theorem ref6_may (h : RlAt y ab F A M w) (hok : AccOk A) (a n : Int) (hlen : (rowOf M a).length ≤ 1000000) : Calls Try.prog 39 #[.pointer (some ⟨y, 0, none⟩), .int .i64 a, .int .i64 n] w fun e w' => e = .returned (.int .i64 (spendE A M a n false)) ∧ Below w.heap.size w w' := by
  by_cases ha : isAcc a
  · obtain ⟨k, rfl⟩ : ∃ k : Nat, a = k := ⟨a.toNat, by have := ha.1; omega⟩
    have hk : k < 10 := by have := ha.2; omega
    have hI := ref6_Is (k : Int) w
    rw [decide_eq_true (show 0 ≤ (k : Int) ∧ (k : Int) < 10 from ha)] at hI
    have HI := Lib.hid hI
    have hk' : (k : Int) < 10 := ha.2
    have HA := Lib.hid ha
    by_cases hb : isBal n
    · have g1 : ¬ n < 0 := by have := hb.1; omega
      have g2 : ¬ n > 1073741824 := by have := hb.2; omega
      obtain ⟨v, c, c0, c1, c2, -, -⟩ := h.cells hk
      obtain ⟨fr, hfr⟩ : ∃ fr, fr = (A k).1 := ⟨_, rfl⟩
      have fr0 : 0 ≤ fr := by rw [hfr]; exact hok.free k
      have fr1 : fr ≤ 1073741824 := by
        have h1 := hok.all
        have h2 := sumTo_mono (A := A) (fun k => by unfold both; have := hok.free k; have := hok.held k; omega) (show k + 1 ≤ 10 by omega)
        have h3 := sumTo_mono (A := A) (fun k => by unfold both; have := hok.free k; have := hok.held k; omega) (show 0 ≤ k by omega)
        have h4 : sumTo A (k + 1) = sumTo A k + both A k := rfl
        have h5 : sumTo A 0 = 0 := rfl
        have h6 := hok.held k
        unfold both at h4
        omega
      rw [← hfr] at c0
      have hsp : spendE A M k n false = if fr < n then 6 else if 0 < n ∧ fr - n < lockedOf M k then 7 else 0 := by
        unfold spendE
        rw [if_neg (fun e => e.elim (fun e => e HA.out) (fun e => e hb)), Int.toNat_natCast, ← hfr]
        simp
      have HSP := Lib.hid hsp
      have HFR := Lib.hid (And.intro fr0 fr1)
      have HB := Lib.hid hb
      by_cases q1 : n > fr
      · have he : spendE A M k n false = 6 := by rw [hsp, if_pos (by omega)]
        rw [he]
        clear hI h ha c1 c2 hok hsp he hb hfr fr0 fr1 hlen
        go_enter Try.func39, Try.ntmps39
        go_wp2_with (first
          | (go_at_call 38; refine HI.out.mono ?_; rintro e w' ⟨rfl, hw⟩; rw [hw]; clear hw w')
          | fail)
        exact bodyPost_ret (v := .int .i64 6) (by simp [results, Try.results39, go_sem]) rfl ⟨rfl, Below.refl _ w⟩
      · have W1 : IntKind.i64.wrap (fr - n) = fr - n := IntWalk.i64_in _ (by have := hb.1; have := hb.2; omega)
        by_cases q2 : n > 0
        · have hL := ref6_Locked (h.below (Below.refl _ w).drew) (k : Int) hlen
          obtain ⟨lk, hlk⟩ : ∃ lk, lk = lockedOf M k := ⟨_, rfl⟩
          rw [← hlk] at hL hsp
          have HL := Lib.hid hL
          have D1 := Lib.hid (show w.drew.cell? ⟨y, 0, none⟩ = some (.slice (some ⟨ab, 0, none⟩) 10 10) ∧ w.drew.cell? ⟨ab, k * 3, none⟩ = some (.int .i64 fr) from ⟨c, c0⟩)
          have fin : ∀ e, e = spendE A M k n false → ∀ W, Below w.heap.size w W → (Ending.returned (.int .i64 e) = .returned (.int .i64 (spendE A M k n false)) ∧ Below w.heap.size w W) := fun e he W hW => ⟨by rw [he], hW⟩
          have HF := Lib.hid fin
          have HSQ := Lib.hid hsp
          by_cases q3 : fr - n < lk
          · have he : spendE A M k n false = 7 := by rw [hsp, if_neg (by omega), if_pos ⟨q2, q3⟩]
            rw [he]
            clear hI h ha c1 c2 hok hsp he hb hfr fr0 fr1 hlen hL hlk fin
            go_enter Try.func39, Try.ntmps39
            have mixed : Try.prog.follows .mixedOrders = true := by kernel_rfl
            go_upto_region 5 with (first
              | (go_at_call 38; refine HI.out.mono ?_; rintro e w' ⟨rfl, hw⟩; rw [hw]; clear hw w')
              | fail)
            go_region_held3 (fun (W : World) => W.cell? ⟨y, 0, none⟩ = some (.slice (some ⟨ab, 0, none⟩) 10 10) ∧ W.cell? ⟨ab, k * 3, none⟩ = some (.int .i64 fr)) (exact D1.out) (first
              | (go_at_call 32; refine HL.out.mono ?_; rintro e w' ⟨rfl, hw⟩; rw [hw]; clear hw w')
              | fail)
            go_wp2_with fail
            exact bodyPost_ret (v := .int .i64 7) (by simp [results, Try.results39, go_sem]) rfl ⟨rfl, (Below.refl _ w).drew⟩
          · have he : spendE A M k n false = 0 := by rw [hsp, if_neg (by omega), if_neg (by omega)]
            rw [he]
            clear hI h ha c1 c2 hok hsp he hb hfr fr0 fr1 hlen hL hlk fin
            go_enter Try.func39, Try.ntmps39
            have mixed : Try.prog.follows .mixedOrders = true := by kernel_rfl
            go_upto_region 5 with (first
              | (go_at_call 38; refine HI.out.mono ?_; rintro e w' ⟨rfl, hw⟩; rw [hw]; clear hw w')
              | fail)
            go_region_held3 (fun (W : World) => W.cell? ⟨y, 0, none⟩ = some (.slice (some ⟨ab, 0, none⟩) 10 10) ∧ W.cell? ⟨ab, k * 3, none⟩ = some (.int .i64 fr)) (exact D1.out) (first
              | (go_at_call 32; refine HL.out.mono ?_; rintro e w' ⟨rfl, hw⟩; rw [hw]; clear hw w')
              | fail)
            go_wp2_with fail
            exact bodyPost_ret (v := .int .i64 0) (by simp [results, Try.results39, go_sem]) rfl ⟨rfl, (Below.refl _ w).drew⟩
        · have he : spendE A M k n false = 0 := by rw [hsp, if_neg (by omega), if_neg (by omega)]
          rw [he]
          obtain rfl : n = 0 := by have := hb.1; omega
          clear hI h ha c1 c2 hok hsp he hb hfr fr0 fr1 hlen g1 g2 q2 W1 HSP HB
          go_enter Try.func39, Try.ntmps39
          have mixed : Try.prog.follows .mixedOrders = true := by kernel_rfl
          go_upto_region 5 with (first
            | (go_at_call 38; refine HI.out.mono ?_; rintro e w' ⟨rfl, hw⟩; rw [hw]; clear hw w')
            | fail)
          go_wp2_with fail
          go_quiet (fail)
          go_wp2_with fail
          exact bodyPost_ret (v := .int .i64 0) (by simp [results, Try.results39, go_sem]) rfl ⟨rfl, ⟨rfl, rfl, rfl, Nat.le_refl _, fun k hk => rfl⟩⟩
    · have he : spendE A M k n false = 1 := if_pos (.inr hb)
      rw [he]
      have hn : n < 0 ∨ n > 1073741824 := by unfold isBal at hb; omega
      clear hI h ha hok he hb hlen
      rcases hn with q | q
      · go_enter Try.func39, Try.ntmps39
        go_wp2_with (first
          | (go_at_call 38; refine HI.out.mono ?_; rintro e w' ⟨rfl, hw⟩; rw [hw]; clear hw w')
          | fail)
        exact bodyPost_ret (v := .int .i64 1) (by simp [results, Try.results39, go_sem]) rfl ⟨rfl, Below.refl _ w⟩
      · have q' : ¬ n < 0 := by omega
        go_enter Try.func39, Try.ntmps39
        go_wp2_with (first
          | (go_at_call 38; refine HI.out.mono ?_; rintro e w' ⟨rfl, hw⟩; rw [hw]; clear hw w')
          | fail)
        exact bodyPost_ret (v := .int .i64 1) (by simp [results, Try.results39, go_sem]) rfl ⟨rfl, Below.refl _ w⟩
  · have hI := ref6_Is a w
    rw [decide_eq_false (show ¬ (0 ≤ a ∧ a < 10) from ha)] at hI
    have HI := Lib.hid hI
    have he : spendE A M a n false = 1 := if_pos (.inl ha)
    rw [he]
    clear hI h ha hok he hlen
    go_enter Try.func39, Try.ntmps39
    go_wp2_with (first
      | (go_at_call 38; refine HI.out.mono ?_; rintro e w' ⟨rfl, hw⟩; rw [hw]; clear hw w')
      | fail)
    exact bodyPost_ret (v := .int .i64 1) (by simp [results, Try.results39, go_sem]) rfl ⟨rfl, Below.refl _ w⟩
end
end Go.Proofs.Ytoohcckhdhfpnaa
end

section
namespace Go.Proofs.Ytoohcckhdhfpnaa
open Go.RowKit Go.Maps
set_option linter.unusedVariables false
set_option linter.unusedSimpArgs false

section
variable {N g gl y ab : Nat} {F : FP} {A : Acc} {M : Cls Int} {w : World}
set_option maxRecDepth 100000 in
set_option maxHeartbeats 4000000 in
theorem law_alike (h : LdAt N g gl A M w) (k : RlAt y ab F A M w) (hok : AccOk A) (hlen : ∀ a, (rowOf M a).length ≤ 1000000) : Calls Try.prog 7 #[.pointer (some ⟨g, 0, none⟩), .pointer (some ⟨y, 0, none⟩)] w fun e w' => e = .returned (.bool true) ∧ Below w.heap.size w w' := by
  have HH := Lib.hid (And.intro h (And.intro k (And.intro hok hlen)))
  clear h k hok hlen
  go_enter Try.func7, Try.ntmps7
  go_wp2_with fail
  go_loopw [5] (fun i wr => ∃ a : Int, -1 ≤ a ∧ a ≤ 11 ∧ i = .int .i64 a ∧ Below w.heap.size w wr) (fun i _ => (11 - intOf i).toNat)
  case atStart => exact ⟨-1, by omega, by omega, rfl, by first | exact Below.refl _ _ | exact (Below.refl _ _).drew⟩
  case round =>
    obtain ⟨a, h1, h2, rfl, hb⟩ := hrel
    obtain ⟨q1, hq1⟩ : ∃ q, q = (accOf A a).1 := ⟨_, rfl⟩
    obtain ⟨q2, hq2⟩ : ∃ q, q = (accOf A a).2 := ⟨_, rfl⟩
    obtain ⟨q3, hq3⟩ : ∃ q, q = lockedOf M a := ⟨_, rfl⟩
    have HQ := Lib.hid (And.intro hq1 (And.intro hq2 hq3))
    have HB := Lib.hid hb
    have hF : ∀ W, Below w.heap.size w W → Calls Try.prog 27 #[.pointer (some ⟨g, 0, none⟩), .int .i64 a] W fun e w' => e = .returned (.int .i64 q1) ∧ Below W.heap.size W w' := fun W hW => (ledger_Free (HH.out.1.below hW) a).mono (by rintro e w' ⟨rfl, rfl⟩; exact ⟨by rw [HQ.out.1], Below.refl _ _⟩)
    have hHd : ∀ W, Below w.heap.size w W → Calls Try.prog 29 #[.pointer (some ⟨g, 0, none⟩), .int .i64 a] W fun e w' => e = .returned (.int .i64 q2) ∧ Below W.heap.size W w' := fun W hW => (ledger_Held (HH.out.1.below hW) a).mono (by rintro e w' ⟨rfl, rfl⟩; exact ⟨by rw [HQ.out.2.1], Below.refl _ _⟩)
    have hL : ∀ W, Below w.heap.size w W → Calls Try.prog 31 #[.pointer (some ⟨g, 0, none⟩), .int .i64 a] W fun e w' => e = .returned (.int .i64 q3) ∧ Below W.heap.size W w' := fun W hW => (ledger_Locked (HH.out.1.below hW) (by simp [Lit.wf, IntKind.min, IntKind.max, IntKind.signed, IntKind.bits]; omega)).mono (by rintro e w' ⟨rfl, hx⟩; exact ⟨by rw [HQ.out.2.2], hx⟩)
    have rF : ∀ W, Below w.heap.size w W → Calls Try.prog 28 #[.pointer (some ⟨y, 0, none⟩), .int .i64 a] W fun e w' => e = .returned (.int .i64 q1) ∧ Below W.heap.size W w' := fun W hW => (ref6_Free (HH.out.2.1.below hW) a).mono (by rintro e w' ⟨rfl, rfl⟩; exact ⟨by rw [HQ.out.1], Below.refl _ _⟩)
    have rH : ∀ W, Below w.heap.size w W → Calls Try.prog 30 #[.pointer (some ⟨y, 0, none⟩), .int .i64 a] W fun e w' => e = .returned (.int .i64 q2) ∧ Below W.heap.size W w' := fun W hW => (ref6_Held (HH.out.2.1.below hW) a).mono (by rintro e w' ⟨rfl, rfl⟩; exact ⟨by rw [HQ.out.2.1], Below.refl _ _⟩)
    have rL : ∀ W, Below w.heap.size w W → Calls Try.prog 32 #[.pointer (some ⟨y, 0, none⟩), .int .i64 a] W fun e w' => e = .returned (.int .i64 q3) ∧ Below W.heap.size W w' := fun W hW => (ref6_Locked (HH.out.2.1.below hW) a (HH.out.2.2.2 a)).mono (by rintro e w' ⟨rfl, rfl⟩; exact ⟨by rw [HQ.out.2.2], Below.refl _ _⟩)
    have C1 := Lib.hid hF
    have C2 := Lib.hid hHd
    have C3 := Lib.hid hL
    have D1 := Lib.hid rF
    have D2 := Lib.hid rH
    have D3 := Lib.hid rL
    clear hF hHd hL rF rH rL hq1 hq2 hq3 hb
    by_cases hle : a ≤ 10
    · go_wp2_with (first
        | (go_at_call 27; refine (C1.out _ HB.out).mono ?_; rintro e w1 ⟨rfl, hx⟩; have H1 := Lib.hid (HB.out.trans (hx.mono HB.out.size)); clear hx)
        | (go_at_call 28; refine (D1.out _ H1.out).mono ?_; rintro e w2 ⟨rfl, hx⟩; have H2 := Lib.hid (H1.out.trans (hx.mono H1.out.size)); clear hx)
        | (go_at_call 29; refine (C2.out _ H2.out).mono ?_; rintro e w3 ⟨rfl, hx⟩; have H3 := Lib.hid (H2.out.trans (hx.mono H2.out.size)); clear hx)
        | (go_at_call 30; refine (D2.out _ H3.out).mono ?_; rintro e w4 ⟨rfl, hx⟩; have H4 := Lib.hid (H3.out.trans (hx.mono H3.out.size)); clear hx)
        | (go_at_call 31; refine (C3.out _ H4.out).mono ?_; rintro e w5 ⟨rfl, hx⟩; have H5 := Lib.hid (H4.out.trans (hx.mono H4.out.size)); clear hx)
        | (go_at_call 32; refine (D3.out _ H5.out).mono ?_; rintro e w6 ⟨rfl, hx⟩; have H6 := Lib.hid (H5.out.trans (hx.mono H5.out.size)); clear hx)
        | fail)
      go_roundw
      case rel => exact ⟨a + 1, by omega, by omega, by go_num, by first | exact H6.out | exact H6.out.drew⟩
      case measure => simp [intOf]; omega
    · go_wp2_with (first
        | (go_at_call 12; refine (ledger_Issued (HH.out.1.below HB.out)).mono ?_; rintro e w1 ⟨rfl, hx⟩; have H1 := Lib.hid (HB.out.trans (hx.mono HB.out.size)); clear hx)
        | (go_at_call 33; refine (ref6_Issued (HH.out.2.1.below H1.out) HH.out.2.2.1).mono ?_; rintro e w2 ⟨rfl, hx⟩; have H2 := Lib.hid (H1.out.trans (hx.mono H1.out.size)); clear hx)
        | fail)
      exact bodyPost_ret (v := .bool true) (by simp [results, Try.results7, go_sem]) rfl ⟨rfl, H2.out⟩
end
end Go.Proofs.Ytoohcckhdhfpnaa
end

section
namespace Go.Proofs.Ytoohcckhdhfpnaa
open Go.RowKit Go.Maps Go.Shelf
set_option linter.unusedVariables false
set_option linter.unusedSimpArgs false

section
variable {g N : Nat} {A : Acc} {M : Cls Int} {FL : FP} {w w' : World}
theorem ledger_MintX (h : LdX g N A M FL w) (a n : Int) : Calls Try.prog 23 #[.pointer (some ⟨g, 0, none⟩), .int .i64 a, .int .i64 n] w fun e w' => e = .returned (.int .i64 (mintE A a n)) ∧ LdTo g N (mintA A a n) M FL w w' := by
  have hs := h.size
  obtain ⟨gl, h0⟩ := h.at
  exact (ledger_MintF h0 hs a n).mono fun e w' h' => h.toF h0.ptr h'
theorem ledger_BurnX (h : LdX g N A M FL w) {a : Int} (ha : (Lit.int .i64 a).wf = true) (n : Int) : Calls Try.prog 25 #[.pointer (some ⟨g, 0, none⟩), .int .i64 a, .int .i64 n] w fun e w' => e = .returned (.int .i64 (spendE A M a n false)) ∧ LdTo g N (spent A M a n false) M FL w w' := by
  have hs := h.size
  obtain ⟨gl, h0⟩ := h.at
  exact (ledger_BurnF h0 hs ha n).mono fun e w' h' => h.toF h0.ptr h'
end
/-- What lies in Z is as it was. -/
def Kept (Z : FP) (w w' : World) : Prop := Grow w w' ∧ ∀ k, Z k → w'.heap[k]? = w.heap[k]?
theorem Kept.refl (Z : FP) (w : World) : Kept Z w w := ⟨Grow.refl w, fun _ _ => rfl⟩
theorem Kept.trans {Z : FP} {a b c : World} (h : Kept Z a b) (k : Kept Z b c) : Kept Z a c := ⟨h.1.trans k.1, fun j hj => (k.2 j hj).trans (h.2 j hj)⟩
theorem Kept.weak {Z Y : FP} {a b : World} (h : Kept Z a b) (hy : ∀ k, Y k → Z k) : Kept Y a b := ⟨h.1, fun j hj => h.2 j (hy j hj)⟩
theorem Kept.below {Z : FP} {N : Nat} {a b : World} (h : Kept Z a b) (hZ : ∀ k, k < N → Z k) : Below N a b := ⟨h.1.os, h.1.tape, h.1.output, h.1.size, fun k hk => h.2 k (hZ k hk)⟩
theorem Kept.of_below {Z : FP} {a b : World} (h : Below a.heap.size a b) (hZ : ∀ k, Z k → k < a.heap.size) : Kept Z a b := ⟨Grow.of_below h, fun k hk => h.block k (hZ k hk)⟩
/-- Both, apart: the ledger's balances and locks, and the document's; and away from Z. -/
def Two (g N y ab : Nat) (Z : FP) (A : Acc) (M : Cls Int) (A2 : Acc) (M2 : Cls Int) (w : World) : Prop := ∃ FL F, LdX g N A M FL w ∧ RlAt y ab F A2 M2 w ∧ (∀ k, F k → ¬ FL k) ∧ ∀ k, Z k → k < w.heap.size ∧ ¬ FL k ∧ ¬ F k
section
variable {g N y ab : Nat} {Z Y : FP} {A A2 : Acc} {M M2 : Cls Int} {w w' : World}
theorem Two.below (h : Two g N y ab Z A M A2 M2 w) (hb : Below w.heap.size w w') : Two g N y ab Z A M A2 M2 w' := by
  obtain ⟨FL, F, h1, h2, h3, h4⟩ := h
  exact ⟨FL, F, h1.below hb, h2.below hb, h3, fun k hk => ⟨Nat.lt_of_lt_of_le (h4 k hk).1 hb.size, (h4 k hk).2⟩⟩
theorem Two.drew (h : Two g N y ab Z A M A2 M2 w) : Two g N y ab Z A M A2 M2 w.drew := h.below (Below.refl _ w).drew
theorem Two.weak (h : Two g N y ab Z A M A2 M2 w) (hy : ∀ k, Y k → Z k) : Two g N y ab Y A M A2 M2 w := by
  obtain ⟨FL, F, h1, h2, h3, h4⟩ := h
  exact ⟨FL, F, h1, h2, h3, fun k hk => h4 k (hy k hk)⟩
theorem Two.lt (h : Two g N y ab Z A M A2 M2 w) {k : Nat} (hk : Z k) : k < w.heap.size := by
  obtain ⟨FL, F, h1, h2, h3, h4⟩ := h
  exact (h4 k hk).1
theorem Two.more (h : Two g N y ab Z A M A2 M2 w) (o : Obj) : Two g N y ab (fun k => Z k ∨ k = w.heap.size) A M A2 M2 (w.alloc o) := by
  obtain ⟨FL, F, h1, h2, h3, h4⟩ := h
  have hb : Below w.heap.size w (w.alloc o) := (Below.refl _ w).alloc (Nat.le_refl _) _
  refine ⟨FL, F, h1.below hb, h2.below hb, h3, fun k hk => ?_⟩
  rw [World.size_alloc]
  rcases hk with e | rfl
  · exact ⟨by have := (h4 k e).1; omega, (h4 k e).2⟩
  · exact ⟨by omega, fun q => by have := h1.lt q; omega, fun q => by have := h2.lt q; omega⟩
/-- The ledger acts. -/
theorem Two.ld (h : Two g N y ab Z A M A2 M2 w) : ∃ FL, LdX g N A M FL w ∧ ∀ A' M' w', LdTo g N A' M' FL w w' → Two g N y ab Z A' M' A2 M2 w' ∧ Kept Z w w' := by
  obtain ⟨FL, F, h1, h2, h3, h4⟩ := h
  refine ⟨FL, h1, fun A' M' w' ht => ?_⟩
  obtain ⟨FL', k1, k2, k3⟩ := ht
  refine ⟨⟨FL', F, k1, h2.keep k3.grow (fun k hk => k3.block k (h2.lt hk) (h3 k hk) (fun q => q)), fun k hk hf => ?_, fun k hk => ⟨Nat.lt_of_lt_of_le (h4 k hk).1 k3.grow.size, fun q => ?_, (h4 k hk).2.2⟩⟩, k3.grow, fun k hk => k3.block k (h4 k hk).1 (h4 k hk).2.1 (fun q => q)⟩
  · rcases k2 k hf with e | e
    · exact h3 k hk e
    · have := h2.lt hk; omega
  · rcases k2 k q with e | e
    · exact (h4 k hk).2.1 e
    · have := (h4 k hk).1; omega
/-- The document's acts. -/
theorem Two.rl (h : Two g N y ab Z A M A2 M2 w) : ∃ F, RlAt y ab F A2 M2 w ∧ ∀ A' M' w', RlTo y ab F A' M' w w' → Two g N y ab Z A M A' M' w' ∧ Kept Z w w' := by
  obtain ⟨FL, F, h1, h2, h3, h4⟩ := h
  refine ⟨F, h2, fun A' M' w' ht => ?_⟩
  obtain ⟨F', k1, k2, k3⟩ := ht
  refine ⟨⟨FL, F', h1.keep k3.grow (fun k hk => k3.block k (h1.lt hk) (fun q => h3 k q hk) (fun q => q)), k1, fun k hk hf => ?_, fun k hk => ⟨Nat.lt_of_lt_of_le (h4 k hk).1 k3.grow.size, (h4 k hk).2.1, fun q => ?_⟩⟩, k3.grow, fun k hk => k3.block k (h4 k hk).1 (h4 k hk).2.2 (fun q => q)⟩
  · rcases k2 k hk with e | e
    · exact h3 k e hf
    · have := h1.lt hf; omega
  · rcases k2 k q with e | e
    · exact (h4 k hk).2.2 e
    · have := (h4 k hk).1; omega
theorem Two.srt (h : Two g N y ab Z A M A2 M2 w) : SrtC M ∧ AccOk A ∧ M.length ≤ 10000 := by
  obtain ⟨FL, F, h1, h2, h3, h4⟩ := h
  exact h1.srt
end
end Go.Proofs.Ytoohcckhdhfpnaa
end

section
namespace Go.Proofs.Ytoohcckhdhfpnaa
open Go.ChangeShapes Go.WideShapes Go.ChangeAt Go.RowKit

section
variable {H : Type} {enc : TypeId × Value → H} {P : Program}

/-- Every argument reads as it read, where below the heap's old end nothing has turned. -/
theorem trodAll_stays (hl : laidOutB P = true) {W W' : World} (hb : Below W.heap.size W W') : ∀ (ts : List TypeId) (vs : List Value) (ds : List (DataW H)) (ps : List MemPlace),
    (ts.all fun t => P.readableRec t && decide (t < P.types.size)) = true → DataW.TrodAll enc P W 0 (fun _ => true) true ts vs ds ps →
    DataW.TrodAll enc P W' 0 (fun b => decide (b < W.heap.size)) true ts vs ds ps
  | [], [], [], _, _, h => h
  | t :: ts, v :: vs, d :: ds, _, hr, h => by
    obtain ⟨p, q, h1, h2, rfl⟩ := h
    simp only [List.all_cons, Bool.and_eq_true, decide_eq_true_eq] at hr
    have lt : ∀ x ∈ p, x.block < W.heap.size := by obtain ⟨m, hm⟩ := h1; exact DataW.trod_lt m _ _ _ hm
    exact ⟨p, q, Below.trod hl hr.1.1 hr.1.2 h1 hb lt, trodAll_stays hl hb ts vs ds q hr.2 h2, rfl⟩
  | [], _ :: _, _, _, _, h => h.elim
  | [], [], _ :: _, _, _, h => h.elim
  | _ :: _, [], _, _, _, h => h.elim
  | _ :: _, _ :: _, [], _, _, h => h.elim

theorem trodAll_lengths {w : World} {base : Nat} {spare : Nat → Bool} {held : Bool} : ∀ (ts : List TypeId) (vs : List Value) (ds : List (DataW H)) (ps : List MemPlace), DataW.TrodAll enc P w base spare held ts vs ds ps → ds.length = ts.length ∧ vs.length = ts.length
  | [], [], [], _, _ => ⟨rfl, rfl⟩
  | _ :: ts, _ :: vs, _ :: ds, _, h => by
    obtain ⟨_, q, _, h2, _⟩ := h
    have := trodAll_lengths ts vs ds q h2
    exact ⟨by simp [this.1], by simp [this.2]⟩
  | [], _ :: _, _, _, h => h.elim
  | [], [], _ :: _, _, h => h.elim
  | _ :: _, [], _, _, h => h.elim
  | _ :: _, _ :: _, [], _, h => h.elim

/-- What a law's specification says. -/
def IsLaw (s : ChangeSpec) (n : Nat) : Prop := s.vars = [] ∧ ∀ (H : Type) (ds : List (DataW H)), ds.length = n → s.fn H ds = { results := [.lit (.bool true)], args := ds }

/-- The closed facts on the program that a law's row needs. -/
structure LawFacts (P : Program) (fn : Func) : Prop where
  laid : laidOutB P = true
  read : (fn.params.toList.all fun t => P.readableRec t && decide (t < P.types.size)) = true
  res : ∃ T, fn.resultTypes = #[T] ∧ P.underlying T = some .bool

theorem law_post {fn : Func} {s : ChangeSpec} (hs : IsLaw s fn.params.size) (hf : LawFacts P fn) {W W' : World} {args : Array Value} {ds gs : List (DataW H)} {before : List MemPlace}
    (hW : DataW.Whole enc P fn.params.toList s.vars false W args.toList ds gs before) (hb : Below W.heap.size W W') :
    s.post enc P fn false true false false W args (.bool true) W' := by
  have hW' := hW
  obtain ⟨p, q, hA, hV, _, _, _⟩ := hW
  rw [hs.1] at hV
  obtain ⟨rfl, _⟩ := trodVars_none hV
  have hlen : ds.length = fn.params.size := by have := (trodAll_lengths _ _ _ _ hA).1; simpa using this
  have hfn := hs.2 H ds hlen
  obtain ⟨T, hT, hB⟩ := hf.res
  refine ⟨_, _, _, [], p, [], hW', ?_, ?_, ?_, hb.frame _, fun h => by cases h⟩
  · rw [List.append_nil, hfn, hT]
    exact trodAll_mk1 (shut_bool hB _)
  · rw [List.append_nil, hfn]
    exact trodAll_stays hf.laid hb _ _ _ _ hf.read hA
  · rw [List.append_nil, hfn, hs.1]
    rfl

end
end Go.Proofs.Ytoohcckhdhfpnaa
end
