/-
  The law LedgerWay, walked.
-/
import Derived.Test.YtjmaeiphjjjdoaaLdHo
namespace Go.Proofs.Ytjmaeiphjjjdoaa
open Go.RowKit Go.Maps Go.Shelf
set_option linter.unusedVariables false
set_option linter.unusedSimpArgs false

/-- All there is lies at one account. -/
def only (a : Nat) (n : Int) : Acc := upd acc0 a (n, 0)
theorem only_start (n : Int) : accL [n] = only 0 n := by
  funext k
  by_cases e : k = 0
  · subst e; unfold only; rw [upd_same]; rfl
  · unfold only; rw [upd_other _ _ e, accL1_other e]; rfl
theorem only_same (a : Nat) (n : Int) : only a n a = (n, 0) := upd_same _ _ _
theorem only_other {a k : Nat} (n : Int) (h : k ≠ a) : only a n k = (0, 0) := by unfold only; rw [upd_other _ _ h]; rfl
theorem only_sum {a : Nat} (ha : a < 10) (n : Int) : sumTo (only a n) 10 = n := by
  unfold only
  rw [sumTo_upd, if_pos ha]
  have h1 : sumTo acc0 10 = 0 := by decide
  have h2 : both acc0 a = 0 := rfl
  rw [h1, h2]; simp
theorem only_transE {a b : Nat} (ha : a < 10) (hb : b < 10) {n : Int} (hn : isBal n) : transE (only a n) [] a b n = 0 := by
  unfold transE spendE
  have c1 : ¬ (¬ isAcc (a : Int) ∨ ¬ isBal n) := by simp [isAcc_at a ha, hn]
  rw [if_pos (isAcc_at b hb), if_neg c1, Int.toNat_natCast, only_same, lockedOf_nil, if_neg (by simp only; omega), if_neg (by simp only; omega)]
theorem only_transA {a b : Nat} (ha : a < 10) (hb : b < 10) {n : Int} (hn : isBal n) : transA (only a n) [] a b n = only b n := by
  unfold transA
  rw [only_transE ha hb hn, if_pos rfl, Int.toNat_natCast]
  have hs : spendA (only a n) a n = acc0 := by
    unfold spendA only
    rw [Int.toNat_natCast, upd_upd, upd_same]
    simp only [Int.sub_self]
    exact upd_id acc0 a
  rw [hs]
  unfold giveA only
  simp [acc0]
theorem wf_small {t : Nat} (h : t < 10) : (Lit.int .i64 (t : Int)).wf = true := by
  have h1 : (-9223372036854775808 : Int) ≤ t ∧ (t : Int) ≤ 9223372036854775807 := by omega
  simpa [Lit.wf, IntKind.min, IntKind.max, IntKind.signed, IntKind.bits] using h1
theorem bits_1023 (x : Int) : ∃ z : Nat, bits .and .i64 x 1023 = z ∧ z ≤ 1023 := by
  refine ⟨(BitVec.ofInt 64 x &&& BitVec.ofInt 64 1023).toNat, ?_, ?_⟩
  · have h7 : (BitVec.ofInt 64 x &&& BitVec.ofInt 64 1023).toNat ≤ 1023 := by
      rw [BitVec.toNat_and]
      exact Nat.le_trans Nat.and_le_right (by decide)
    show IntKind.i64.wrap ((BitVec.ofInt 64 x &&& BitVec.ofInt 64 1023).toNat : Int) = _
    exact IntWalk.i64_in _ (by omega)
  · rw [BitVec.toNat_and]
    exact Nat.le_trans Nat.and_le_right (by decide)
set_option maxRecDepth 100000 in
set_option maxHeartbeats 4000000 in
theorem ledgerWay_walk (n : Int) (wn : (Lit.int .i64 n).wf = true) (v : Value) (l : List Int) (w : World) (hr : RdI w v l) (hb : ∀ n ∈ l, (Lit.int .i64 n).wf = true) (hm : l.length ≤ maxLen) : Calls Try.prog 13 #[.int .i64 n, v] w fun e w' => e = .returned (.bool true) ∧ Below w.heap.size w w' := by
  obtain ⟨ao, cap, rfl⟩ := hr.lenOf
  obtain ⟨L, hL⟩ : ∃ L, L = l.length := ⟨_, rfl⟩
  rw [← hL] at hr ⊢
  have HRD := Lib.hid (And.intro hr hL)
  obtain ⟨w0, hw⟩ : ∃ w0, w0 = w.alloc (.cells #[.int .i64 n] 3) := ⟨_, rfl⟩
  have hrd : RdI w0 (.slice (some ⟨w.heap.size, 0, none⟩) 1 1) [n] := by rw [hw]; exact RdI.lit w 3 [n] 1 rfl
  have hb0 : Below w.heap.size w w0 := by rw [hw]; exact (Below.refl _ w).alloc (Nat.le_refl _) _
  have HW := Lib.hid hw
  have H0 := Lib.hid (And.intro hrd hb0)
  clear hw hrd hb0 hr hb hm hL wn
  go_enter Try.func13, Try.ntmps13
  by_cases hbad : n < 0 ∨ 1073741824 < n ∨ 60 < (L : Int)
  · have hex : n < 0 ∨ (¬ n < 0 ∧ 1073741824 < n) ∨ (¬ n < 0 ∧ ¬ 1073741824 < n ∧ 60 < (L : Int)) := by omega
    clear hbad
    rcases hex with h1 | ⟨h1, h2⟩ | ⟨h1, h2, h3⟩
    all_goals go_wp2_with fail
    all_goals exact bodyPost_ret (v := .bool true) (by simp [results, Try.results13, go_sem]) rfl ⟨rfl, Below.refl _ _⟩
  have h1 : ¬ n < 0 := by omega
  have h2 : ¬ 1073741824 < n := by omega
  have h3 : ¬ 60 < (L : Int) := by omega
  have hbn : isBal n := by unfold isBal; omega
  have HK := Lib.hid (And.intro (newOk_one hbn) hbn)
  clear hbad hbn
  go_wp2_with (first
    | (go_at_call 14; rw [← HW.out]; refine (ledger_New_ok H0.out.1 (by simp [maxLen]) HK.out.1).mono ?_; rw [only_start]; rintro e w1 ⟨g, gl, rfl, hl, hb⟩; have H1 := Lib.hid (And.intro hl hb); clear hl hb)
    | fail)
  clear h1 h2
  go_loopw [7, 8] (fun a i wr => ∃ (k : Nat) (t : Nat), k ≤ L ∧ t < 10 ∧ i = .int .i64 k ∧ a = .int .i64 t ∧ LdAt w0.heap.size g gl (only t n) [] wr ∧ Below w0.heap.size w0 wr) (fun _ i _ => L - (intOf i).toNat)
  case atStart => exact ⟨0, 0, by omega, by omega, rfl, rfl, H1.out⟩
  case round =>
    obtain ⟨k, t, hk, ht, rfl, rfl, hld, hbl⟩ := hrel
    have HS := Lib.hid (And.intro hld (And.intro hbl ht))
    by_cases hlt : k < L
    · have hlt' : (k : Int) < L := by omega
      obtain ⟨a, rfl, ca⟩ := (HRD.out.1.below ((H0.out.2.trans (hbl.mono H0.out.2.size)).mono (Nat.le_refl _))).at (show k < l.length by rw [← HRD.out.2]; exact hlt)
      obtain ⟨x, hx⟩ : ∃ x, x = l.getD k 0 := ⟨_, rfl⟩
      rw [← hx] at ca
      obtain ⟨z, hz, hz1⟩ := bits_1023 x
      obtain ⟨tt, hto⟩ : ∃ tt, tt = z % 10 := ⟨_, rfl⟩
      have hto10 : tt < 10 := by omega
      have hrem : (z : Int).tmod 10 = tt := by rw [hto]; exact (Int.ofNat_tmod z 10).symm
      have HT := Lib.hid hto10
      clear hld hbl hx hto hto10 hz1 ht
      go_wp2_with (first
        | (go_at_call 22; refine (ledger_Transfer HS.out.1 HS.out.2.1.size (wf_small HS.out.2.2) tt n).mono ?_; rw [only_transE HS.out.2.2 HT.out HK.out.2, only_transA HS.out.2.2 HT.out HK.out.2]; rintro e w2 ⟨rfl, hl, hb⟩; have H2 := Lib.hid (And.intro hl (HS.out.2.1.trans hb)); clear hl hb)
        | fail)
      go_roundw
      case rel => exact ⟨k + 1, tt, by omega, HT.out, by go_num, rfl, H2.out⟩
      case measure => simp [intOf]; omega
    · have hge : ¬ (k : Int) < L := by omega
      have e1 : (accOf (only t n) t).1 = n := by rw [accOf, if_pos (isAcc_at t ht), Int.toNat_natCast, only_same]
      have e2 : sumTo (only t n) 10 = n := only_sum ht n
      by_cases h0 : t = 0
      · subst h0
        have HE := Lib.hid (And.intro e1 e2)
        clear hld hbl e1 e2 ht
        go_wp2_with (first
          | (go_at_call 29; refine (ledger_Free HS.out.1 _).mono ?_; rintro e w6 ⟨rfl, hw⟩; rw [hw]; clear hw w6; try rw [show (accOf (only 0 n) 0).1 = n from HE.out.1])
          | (go_at_call 21; refine (ledger_Issued HS.out.1).mono ?_; rw [HE.out.2]; rintro e w3 ⟨rfl, hb⟩; have H3 := Lib.hid (HS.out.2.1.trans (hb.mono HS.out.2.1.size)); clear hb)
          | (go_at_call 19; refine (law_known _).mono ?_; rintro e w9 ⟨rfl, hb⟩; have H9 := Lib.hid (H3.out.trans (hb.mono H3.out.size)); clear hb)
          | fail)
        go_ret
        exact ⟨rfl, H0.out.2.trans (H9.out.mono H0.out.2.size)⟩
      · have e3 : (accOf (only t n) 0).1 = 0 := by rw [accOf0, only_other n (by omega)]
        have hne : ((t : Int) == 0) = false := by rw [beq_eq_false_iff_ne]; omega
        have HE := Lib.hid (And.intro e1 (And.intro e2 e3))
        clear hld hbl e1 e2 e3 ht
        have tok : True := trivial
        go_wp2_with (first
          | (go_at_call 29; have _t := tok; refine (ledger_Free HS.out.1 _).mono ?_; rw [HE.out.1]; rintro e w6 ⟨rfl, hw⟩; rw [hw]; clear hw w6 tok)
          | (go_at_call 29; refine (ledger_Free H3.out.1 0).mono ?_; rw [HE.out.2.2]; rintro e w6 ⟨rfl, hw⟩; rw [hw]; clear hw w6)
          | (go_at_call 21; refine (ledger_Issued HS.out.1).mono ?_; rw [HE.out.2.1]; rintro e w3 ⟨rfl, hb⟩; have H3 := Lib.hid (And.intro (HS.out.1.below hb) (HS.out.2.1.trans (hb.mono HS.out.2.1.size))); clear hb)
          | (go_at_call 19; refine (law_known _).mono ?_; rintro e w9 ⟨rfl, hb⟩; have H9 := Lib.hid (H3.out.2.trans (hb.mono H3.out.2.size)); clear hb)
          | fail)
        go_ret
        exact ⟨rfl, H0.out.2.trans (H9.out.mono H0.out.2.size)⟩
end Go.Proofs.Ytjmaeiphjjjdoaa
