/-
  Ledgers: Mint, Lock.
-/
import Derived.Test.YtjmaeiphjjjdoaaLd6
namespace Go.Proofs.Ytjmaeiphjjjdoaa
open Go.RowKit Go.Maps Go.Shelf
set_option linter.unusedVariables false
set_option linter.unusedSimpArgs false

def mintE (A : Acc) (a n : Int) : Int := if ¬ isAcc a ∨ ¬ isBal n then 1 else if 1073741824 < sumTo A 10 + n then 10 else 0
def mintA (A : Acc) (a n : Int) : Acc := if mintE A a n = 0 then giveA A a.toNat n else A
def lockM (M : Cls Int) (a i n : Int) : Cls Int := if ¬ isAcc a then M else if n = 0 ∨ ¬ isBal n then cdel M a i else cput M a i n
theorem lockM_len {M : Cls Int} (h : SrtC M) (a i n : Int) : (lockM M a i n).length ≤ M.length + 1 := by
  unfold lockM
  split
  · omega
  · split
    · have := h.length_del a i; omega
    · rw [h.length_put]; split <;> omega
section
variable {N g gl : Nat} {A : Acc} {M : Cls Int} {w : World}
set_option maxRecDepth 100000 in
set_option maxHeartbeats 1000000 in
theorem ledger_Mint (h : LdAt N g gl A M w) (hN : N ≤ w.heap.size) (a n : Int) : Calls Try.prog 27 #[.pointer (some ⟨g, 0, none⟩), .int .i64 a, .int .i64 n] w fun e w' => e = .returned (.int .i64 (mintE A a n)) ∧ LdAt N g gl (mintA A a n) M w' ∧ Below N w w' := by
  have hok := h.ok
  by_cases hac : isAcc a
  · obtain ⟨k, rfl, hk⟩ := isAcc_nat hac
    have HK := Lib.hid hk
    by_cases hbal : isBal n
    · have hbal' := hbal
      unfold isBal at hbal'
      have hd : decide (0 ≤ n ∧ n ≤ 1073741824) = true := decide_eq_true hbal'
      obtain ⟨s, hs⟩ : ∃ s, s = sumTo A 10 := ⟨_, rfl⟩
      have hs0 : 0 ≤ s ∧ s ≤ 1073741824 := by rw [hs]; exact hok.part (Nat.le_refl _)
      have hn1 : IntKind.i64.wrap (s + n) = s + n := IntWalk.i64_in _ (by omega)
      obtain ⟨sn, hsn⟩ : ∃ sn, sn = s + n := ⟨_, rfl⟩
      rw [← hsn] at hn1
      have hiss := ledger_Issued h
      rw [← hs] at hiss
      by_cases hov : 1073741824 < sn
      · have e : mintE A k n = 10 := by unfold mintE; rw [if_neg (by simp [hac, hbal]), if_pos (by omega)]
        have e2 : mintA A k n = A := by unfold mintA; rw [e]; rfl
        have hd2 : decide (0 ≤ sn ∧ sn ≤ 1073741824) = false := decide_eq_false (by omega)
        rw [e, e2]
        have HI := Lib.hid hiss
        have HD := Lib.hid (And.intro hd hd2)
        have HH := Lib.hid (And.intro h hN)
        have hn2 : IntKind.i64.wrap (s + n) = sn := by rw [← hsn]; exact hn1
        clear hok hac hbal hbal' hd hs hs0 hn1 hiss hov e e2 hd2 h hN hk hsn
        go_enter Try.func27, Try.ntmps27
        have tok : True := trivial
        go_wp2_with (first
          | (go_at_call 46; refine (ledger_account HK.out _).mono ?_; rintro e w' ⟨rfl, hw⟩; rw [hw]; clear hw w')
          | (go_at_call 33; have _t := tok; refine (bound_Balance n _).mono ?_; rw [HD.out.1]; rintro e w' ⟨rfl, hw⟩; rw [hw]; clear hw w' tok)
          | (go_at_call 21; refine HI.out.mono ?_; rintro e w1 ⟨rfl, hb⟩; have H1 := Lib.hid hb; clear hb)
          | (go_at_call 33; refine (bound_Balance sn _).mono ?_; rw [HD.out.2]; rintro e w' ⟨rfl, hw⟩; rw [hw]; clear hw w')
          | fail)
        go_ret
        exact ⟨rfl, HH.out.1.below H1.out, H1.out.mono HH.out.2⟩
      · have e : mintE A k n = 0 := by unfold mintE; rw [if_neg (by simp [hac, hbal]), if_neg (by omega)]
        have e2 : mintA A k n = giveA A k n := by unfold mintA; rw [e]; rfl
        have hd2 : decide (0 ≤ sn ∧ sn ≤ 1073741824) = true := decide_eq_true (by omega)
        have ok2 : AccOk (giveA A k n) := giveA_ok hok hk hbal'.1 (by omega)
        obtain ⟨v, hv⟩ : ∃ v, v = (A k).1 := ⟨_, rfl⟩
        have hv0 : 0 ≤ v ∧ v ≤ 1073741824 := by have := hok.one hk; have := hok.held k; have := hok.free k; unfold both at *; omega
        have hn3 : IntKind.i64.wrap (v + n) = v + n := IntWalk.i64_in _ (by omega)
        have hpay : ∀ w1, LdAt N g gl A M w1 → w1.cell? ⟨g, k * 2, none⟩ = some (.int .i64 v) ∧ LdAt N g gl (giveA A k n) M (w1.setCell ⟨g, k * 2, none⟩ (.int .i64 (v + n))) ∧ Below N w1 (w1.setCell ⟨g, k * 2, none⟩ (.int .i64 (v + n))) := fun w1 h1 => ⟨by rw [hv]; exact h1.free hk, by rw [hv]; exact h1.setFree hk _ ok2⟩
        rw [e, e2]
        have HI := Lib.hid hiss
        have HP := Lib.hid hpay
        have HD := Lib.hid (And.intro hd hd2)
        have HH := Lib.hid (And.intro h hN)
        have hn2 : IntKind.i64.wrap (s + n) = sn := by rw [← hsn]; exact hn1
        clear hok hac hbal hbal' hd hs hs0 hn1 hiss hov e e2 hd2 h hN hk hsn ok2 hv hpay hv0
        go_enter Try.func27, Try.ntmps27
        have tok : True := trivial
        go_wp2_with (first
          | (go_at_call 46; refine (ledger_account HK.out _).mono ?_; rintro e w' ⟨rfl, hw⟩; rw [hw]; clear hw w')
          | (go_at_call 33; have _t := tok; refine (bound_Balance n _).mono ?_; rw [HD.out.1]; rintro e w' ⟨rfl, hw⟩; rw [hw]; clear hw w' tok)
          | (go_at_call 21; refine HI.out.mono ?_; rintro e w1 ⟨rfl, hb⟩; have h1 := HH.out.1.below hb; have hc1 := (HP.out w1 h1).1; have hf1 := h1.frozen (k * 2); have H1 := Lib.hid (And.intro h1 (hb.mono HH.out.2)); clear hb h1)
          | (go_at_call 33; refine (bound_Balance sn _).mono ?_; rw [HD.out.2]; rintro e w' ⟨rfl, hw⟩; rw [hw]; clear hw w')
          | fail)
        go_ret
        exact ⟨rfl, (HP.out _ H1.out.1).2.1, H1.out.2.trans (HP.out _ H1.out.1).2.2⟩
    · have e : mintE A k n = 1 := by unfold mintE; rw [if_pos (.inr hbal)]
      have e2 : mintA A k n = A := by unfold mintA; rw [e]; rfl
      have hd : decide (0 ≤ n ∧ n ≤ 1073741824) = false := by unfold isBal at hbal; exact decide_eq_false hbal
      rw [e, e2]
      have HD := Lib.hid hd
      have HH := Lib.hid h
      clear hok hac hbal hd e e2 h hN hk
      go_enter Try.func27, Try.ntmps27
      go_wp2_with (first
        | (go_at_call 46; refine (ledger_account HK.out _).mono ?_; rintro e w' ⟨rfl, hw⟩; rw [hw]; clear hw w')
        | (go_at_call 33; refine (bound_Balance n _).mono ?_; rw [HD.out]; rintro e w' ⟨rfl, hw⟩; rw [hw]; clear hw w')
        | fail)
      exact bodyPost_ret (v := .int .i64 1) (by simp [results, Try.results27, go_sem]) rfl ⟨rfl, HH.out, Below.refl _ _⟩
  · have e : mintE A a n = 1 := by unfold mintE; rw [if_pos (.inl hac)]
    have e2 : mintA A a n = A := by unfold mintA; rw [e]; rfl
    rw [e, e2]
    have HH := Lib.hid (And.intro h hac)
    clear hok hac e e2 h hN
    go_enter Try.func27, Try.ntmps27
    go_wp2_with (first
      | (go_at_call 46; refine (ledger_account_no HH.out.2 _).mono ?_; rintro e w' ⟨rfl, hw⟩; rw [hw]; clear hw w')
      | fail)
    exact bodyPost_ret (v := .int .i64 1) (by simp [results, Try.results27, go_sem]) rfl ⟨rfl, HH.out.1, Below.refl _ _⟩
theorem LdAt.relock {M' : Cls Int} {w' : World} (h : LdAt N g gl A M w) (hN : N ≤ w.heap.size) (hl : M'.length ≤ 10000) {F : FP} (hF : ∀ k, F k → N ≤ k ∧ k ≠ g) (ht : GrTo codI 80 gl M' F w w') : LdAt N g gl A M' w' ∧ Below N w w' := by
  obtain ⟨F', h1, h2, h3⟩ := ht
  refine ⟨⟨(h3.block g h.lt (fun hf => (hF g hf).2 rfl) (fun h => h)).trans h.blk, ⟨F', h1, fun k hk => (h2 k hk).elim (hF k) (fun hk => by have := h.lt; omega)⟩, h.lo, h.ok, hl⟩, h3.below hN (fun k hk => (hF k hk).1) (fun k h => h.elim)⟩
theorem LdAt.srt (h : LdAt N g gl A M w) : SrtC M := by obtain ⟨F, h1, _⟩ := h.gr; exact h1.1
set_option maxRecDepth 100000 in
set_option maxHeartbeats 1000000 in
theorem ledger_Lock (h : LdAt N g gl A M w) (hN : N ≤ w.heap.size) (hlen : M.length < 10000) {a i : Int} (ha : (Lit.int .i64 a).wf = true) (hi : (Lit.int .i64 i).wf = true) (n : Int) : Calls Try.prog 26 #[.pointer (some ⟨g, 0, none⟩), .int .i64 a, .int .i64 i, .int .i64 n] w fun e w' => e = .returned (.tuple #[]) ∧ LdAt N g gl A (lockM M a i n) w' ∧ Below N w w' := by
  by_cases hac : isAcc a
  · have hM : (lockM M a i n).length ≤ 10000 := by have := lockM_len h.srt a i n; omega
    obtain ⟨F, hF, hF2⟩ := h.gr
    have hp := h.ptr
    have hdel : n = 0 ∨ ¬ isBal n → Calls Try.prog 49 #[.pointer (some ⟨gl, 0, none⟩), .int .i64 a, .int .i64 i] w fun e w' => e = .returned (.bool (cget M a i).isSome) ∧ LdAt N g gl A (lockM M a i n) w' ∧ Below N w w' := fun hc => by
      have e : lockM M a i n = cdel M a i := by unfold lockM; rw [if_neg (by simp [hac]), if_pos hc]
      rw [e] at hM ⊢
      refine (grid_Del_I hF (by have := h.len; omega) ha hi).mono ?_
      rintro e w' ⟨rfl, h3⟩
      exact ⟨rfl, h.relock hN hM hF2 h3⟩
    have hset : ¬ (n = 0 ∨ ¬ isBal n) → Calls Try.prog 50 #[.pointer (some ⟨gl, 0, none⟩), .int .i64 a, .int .i64 i, .int .i64 n] w fun e w' => e = .returned (.tuple #[]) ∧ LdAt N g gl A (lockM M a i n) w' ∧ Below N w w' := fun hc => by
      have e : lockM M a i n = cput M a i n := by unfold lockM; rw [if_neg (by simp [hac]), if_neg hc]
      rw [e] at hM ⊢
      refine (grid_Set_I hF (by have := h.len; omega) ha hi n).mono ?_
      rintro e w' ⟨rfl, h3⟩
      exact ⟨rfl, h.relock hN hM hF2 h3⟩
    obtain ⟨k, rfl, hk⟩ := isAcc_nat hac
    have HK := Lib.hid hk
    have hex : n = 0 ∨ (¬ n = 0 ∧ ¬ isBal n) ∨ (¬ n = 0 ∧ isBal n) := by by_cases h1 : n = 0; exact .inl h1; by_cases h2 : isBal n; exact .inr (.inr ⟨h1, h2⟩); exact .inr (.inl ⟨h1, h2⟩)
    rcases hex with hn | ⟨hn, hbal⟩ | ⟨hn, hbal⟩
    · have HD := Lib.hid (hdel (.inl hn))
      clear h hN hlen ha hi hac hM hF hF2 hdel hset hk
      go_enter Try.func26, Try.ntmps26
      go_wp2_with (first
        | (go_at_call 46; refine (ledger_account HK.out _).mono ?_; rintro e w' ⟨rfl, hw⟩; rw [hw]; clear hw w')
        | (go_at_call 49; refine HD.out.mono ?_; rintro e w1 ⟨rfl, h1⟩; have H1 := Lib.hid h1; clear h1)
        | fail)
      exact bodyPost_end (results_none rfl _ _ _) rfl ⟨rfl, H1.out⟩
    · have HD := Lib.hid (hdel (.inr hbal))
      have hd : decide (0 ≤ n ∧ n ≤ 1073741824) = false := by unfold isBal at hbal; exact decide_eq_false hbal
      have HB := Lib.hid hd
      clear h hN hlen ha hi hac hM hF hF2 hdel hset hk hd hbal
      go_enter Try.func26, Try.ntmps26
      go_wp2_with (first
        | (go_at_call 46; refine (ledger_account HK.out _).mono ?_; rintro e w' ⟨rfl, hw⟩; rw [hw]; clear hw w')
        | (go_at_call 33; refine (bound_Balance n _).mono ?_; rw [HB.out]; rintro e w' ⟨rfl, hw⟩; rw [hw]; clear hw w')
        | (go_at_call 49; refine HD.out.mono ?_; rintro e w1 ⟨rfl, h1⟩; have H1 := Lib.hid h1; clear h1)
        | fail)
      exact bodyPost_end (results_none rfl _ _ _) rfl ⟨rfl, H1.out⟩
    · have HD := Lib.hid (hset (by simp [hn, hbal]))
      have hd : decide (0 ≤ n ∧ n ≤ 1073741824) = true := by unfold isBal at hbal; exact decide_eq_true hbal
      have HB := Lib.hid hd
      clear h hN hlen ha hi hac hM hF hF2 hdel hset hk hd hbal
      go_enter Try.func26, Try.ntmps26
      go_wp2_with (first
        | (go_at_call 46; refine (ledger_account HK.out _).mono ?_; rintro e w' ⟨rfl, hw⟩; rw [hw]; clear hw w')
        | (go_at_call 33; refine (bound_Balance n _).mono ?_; rw [HB.out]; rintro e w' ⟨rfl, hw⟩; rw [hw]; clear hw w')
        | (go_at_call 50; refine HD.out.mono ?_; rintro e w1 ⟨rfl, h1⟩; have H1 := Lib.hid h1; clear h1)
        | fail)
      exact bodyPost_end (results_none rfl _ _ _) rfl ⟨rfl, H1.out⟩
  · have e : lockM M a i n = M := by unfold lockM; rw [if_pos hac]
    rw [e]
    have HH := Lib.hid (And.intro h hac)
    clear h hN hlen ha hi hac e
    go_enter Try.func26, Try.ntmps26
    go_wp2_with (first
      | (go_at_call 46; refine (ledger_account_no HH.out.2 _).mono ?_; rintro e w' ⟨rfl, hw⟩; rw [hw]; clear hw w')
      | fail)
    exact bodyPost_end (results_none rfl _ _ _) rfl ⟨rfl, HH.out.1, Below.refl _ _⟩
end
end Go.Proofs.Ytjmaeiphjjjdoaa
