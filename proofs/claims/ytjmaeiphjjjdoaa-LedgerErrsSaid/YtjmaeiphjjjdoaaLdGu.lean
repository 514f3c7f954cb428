/-
  Locks that are laid within what is free stay within it; the law LedgerGuards, walked.
-/
import Derived.Test.YtjmaeiphjjjdoaaLdIs
import Derived.Test.YtjmaeiphjjjdoaaLdWa
import Derived.Deep.QuietTactic
import Derived.BigQuiet
namespace Go.Proofs.Ytjmaeiphjjjdoaa
open Go.RowKit Go.Maps Go.Shelf
set_option linter.unusedVariables false
set_option linter.unusedSimpArgs false
set_option linter.constructorNameAsVariable false

def Grd (A : Acc) (M : Cls Int) : Prop := ∀ k : Nat, k < 10 → lockedOf M k ≤ (A k).1
theorem lockedOf_nonneg (M : Cls Int) (a : Int) : 0 ≤ lockedOf M a := maxTo_nonneg _
theorem Grd.more {A B : Acc} {M : Cls Int} (h : Grd A M) (hb : ∀ k, k < 10 → (A k).1 ≤ (B k).1) : Grd B M := fun k hk => Int.le_trans (h k hk) (hb k hk)
theorem Grd.spend {A : Acc} {M : Cls Int} (h : Grd A M) {a n : Int} (he : spendE A M a n false = 0) : Grd (spendA A a n) M := by
  obtain ⟨ha, hn, hf⟩ := spendE_ok he
  intro k hk
  unfold spendA
  by_cases e : k = a.toNat
  · subst e
    rw [upd_same]
    simp only
    unfold spendE at he
    split at he
    · cases he
    · split at he
      · cases he
      · split at he
        · cases he
        · rename_i h3
          unfold isAcc at ha
          unfold isBal at hn
          rw [Int.toNat_of_nonneg ha.1]
          have h0 := h a.toNat hk
          rw [Int.toNat_of_nonneg ha.1] at h0
          by_cases hp : 0 < n
          · have : ¬ ((A a.toNat).1 - n < lockedOf M a) := fun hc => h3 ⟨hp, rfl, hc⟩
            omega
          · omega
  · rw [upd_other _ _ e]; exact h k hk
theorem giveA_more {A : Acc} {a : Nat} {n : Int} (hn : 0 ≤ n) (k : Nat) : (A k).1 ≤ (giveA A a n k).1 := by
  unfold giveA
  by_cases e : k = a
  · subst e; rw [upd_same]; simp only; omega
  · rw [upd_other _ _ e]; exact Int.le_refl _
theorem Grd.trans {A : Acc} {M : Cls Int} (h : Grd A M) (a b n : Int) : Grd (transA A M a b n) M := by
  unfold transA
  split
  · rename_i he
    unfold transE at he
    split at he
    · rename_i hb
      obtain ⟨ha, hn, hf⟩ := spendE_ok he
      unfold isBal at hn
      by_cases e : a = b
      · subst e
        intro k hk
        have e2 : giveA (spendA A a n) a.toNat n = A := by
          funext j
          unfold giveA spendA
          by_cases ej : j = a.toNat
          · subst ej; rw [upd_same, upd_same]; simp
          · rw [upd_other _ _ ej, upd_other _ _ ej]
        rw [e2]; exact h k hk
      · rw [show decide (a = b) = false from decide_eq_false e] at he
        exact (h.spend he).more (fun k _ => giveA_more hn.1 k)
    · cases he
  · exact h
theorem Grd.reserve {A : Acc} {M : Cls Int} (h : Grd A M) (a n : Int) : Grd (reserveA A M a n) M := by
  unfold reserveA
  split
  · rename_i he
    refine (h.spend he).more (fun k _ => ?_)
    by_cases e : k = a.toNat
    · subst e; rw [upd_same]; exact Int.le_refl _
    · rw [upd_other _ _ e]; exact Int.le_refl _
  · exact h
theorem heldM_nonneg {A : Acc} (hA : AccOk A) (a n : Int) : 0 ≤ heldM A a n := by
  unfold heldM
  split
  · have := hA.held a.toNat; omega
  · exact Int.le_refl _
theorem Grd.unheld {A : Acc} {M : Cls Int} (h : Grd A M) (hA : AccOk A) (a n b : Int) : Grd (unheld A a n b) M := by
  unfold Go.Proofs.Ytjmaeiphjjjdoaa.unheld
  split
  · refine h.more (fun k _ => Int.le_trans (b := (takeA A a.toNat (heldM A a n) k).1) ?_ (giveA_more (heldM_nonneg hA a n) k))
    unfold takeA
    by_cases e : k = a.toNat
    · subst e; rw [upd_same]; exact Int.le_refl _
    · rw [upd_other _ _ e]; exact Int.le_refl _
  · exact h
theorem Grd.burn {A : Acc} {M : Cls Int} (h : Grd A M) (a n : Int) : Grd (spent A M a n false) M := by
  unfold spent
  split
  · rename_i he; exact h.spend he
  · exact h
theorem lockedOf_le {M : Cls Int} {a x : Int} (h0 : 0 ≤ x) (h : ∀ i n, ((a, i), n) ∈ M → n ≤ x) : lockedOf M a ≤ x := by
  rcases maxTo_is (rowOf M a) with e | ⟨y, hy, e⟩
  · unfold lockedOf; rw [e]; exact h0
  · unfold lockedOf; rw [e]; exact h y.1 y.2 (mem_rowOf.1 hy)
theorem le_lockedOf {M : Cls Int} {a i n : Int} (h : ((a, i), n) ∈ M) : n ≤ lockedOf M a := maxTo_le (x := (i, n)) (mem_rowOf.2 h)
theorem Grd.lock {A : Acc} {M : Cls Int} (h : Grd A M) (hA : AccOk A) {a n : Int} (i : Int) (hn : n ≤ (accOf A a).1) : Grd A (lockM M a i n) := by
  intro k hk
  unfold lockM
  split
  · exact h k hk
  · rename_i ha
    have ha : isAcc a := Decidable.byContradiction ha
    split
    · refine lockedOf_le (hA.free k) (fun j m hm => ?_)
      rw [mem_cdel] at hm
      exact Int.le_trans (le_lockedOf hm.1) (h k hk)
    · refine lockedOf_le (hA.free k) (fun j m hm => ?_)
      rw [mem_cput] at hm
      rcases hm with e | ⟨hm, -⟩
      · simp only [Prod.mk.injEq] at e
        obtain ⟨⟨e3, e4⟩, e2⟩ := e
        rw [accOf, if_pos ha] at hn
        rw [e2, ← Int.toNat_natCast k, e3]; exact hn
      · exact Int.le_trans (le_lockedOf hm) (h k hk)
set_option maxRecDepth 100000 in
set_option maxHeartbeats 8000000 in
theorem ledgerGuards_walk (v : Value) (l : List Int) (u : Value) (acts : List A4) (w : World) (hr : RdI w v l) (hbd : ∀ n ∈ l, (Lit.int .i64 n).wf = true) (hm : l.length ≤ maxLen) (hra : RdS actR w u acts) (hma : acts.length ≤ maxLen ∧ ∀ x ∈ acts, ActWf x) :
    Calls Try.prog 5 #[v, u] w fun e w' => e = .returned (.bool true) ∧ Below w.heap.size w w' := by
  obtain ⟨ao, cap, rfl⟩ := hr.lenOf
  obtain ⟨K, hK⟩ : ∃ K, K = l.length := ⟨_, rfl⟩
  rw [← hK] at hr hm ⊢
  obtain ⟨ao2, cap2, rfl, hrd⟩ := hra
  obtain ⟨hmx, hwf⟩ := hma
  have hmx' : (acts.length : Int) ≤ 9223372036854775807 := Int.le_trans (Int.ofNat_le.2 hmx) (by decide +kernel)
  obtain ⟨L, hL⟩ : ∃ L, L = acts.length := ⟨_, rfl⟩
  have HRD := Lib.hid hrd
  have HL := Lib.hid hL
  have HWF := Lib.hid hwf
  have HR := Lib.hid (And.intro hr hK)
  rw [← hL] at hmx' ⊢
  clear hrd hL hmx hwf hr hm hbd hK
  go_enter Try.func5, Try.ntmps5
  by_cases c0 : (10 : Int) < (K : Int)
  · go_wp2_with fail
    exact bodyPost_ret (v := .bool true) (by simp [results, Try.results5, go_sem]) rfl ⟨rfl, Below.refl _ _⟩
  by_cases c1 : (10000 : Int) < (L : Int)
  · go_wp2_with fail
    exact bodyPost_ret (v := .bool true) (by simp [results, Try.results5, go_sem]) rfl ⟨rfl, Below.refl _ _⟩
  have hK10 : K ≤ 10 := by omega
  go_wp2_with (first
    | (go_at_call 20; refine (law_begin _ l w HR.out.1 (by rw [← HR.out.2]; exact hK10)).mono ?_; rintro e w1 ⟨g, gl, A, rfl, hl, hb⟩; have H1 := Lib.hid (And.intro hl hb); clear hl hb)
    | fail)
  have hs0 : LdS w.heap.size g gl 0 A [] w w1 := ⟨H1.out.1, H1.out.2, H1.out.2.size, Nat.le_refl _⟩
  have hg0 : Grd A [] := fun k hk => by rw [lockedOf_nil]; exact H1.out.1.ok.free k
  have H2 := Lib.hid (And.intro hg0 hs0)
  clear hs0 hg0
  go_loopw [6] (fun i wr => ∃ (k : Nat) (A : Acc) (M : Cls Int), k ≤ L ∧ k ≤ 100 ∧ i = .int .i64 k ∧ Grd A M ∧ LdS w.heap.size g gl k A M w wr) (fun i _ => 100 - (intOf i).toNat)
  case atStart => exact ⟨0, A, [], by omega, by omega, rfl, H2.out.1, H2.out.2⟩
  case round =>
    obtain ⟨k, B, M, hkL, hk1, rfl, hgd, hst⟩ := hrel
    clear H1 H2
    have HGD := Lib.hid hgd
    clear hgd
    have HS := Lib.hid hst
    clear hst
    by_cases hin : k < L ∧ k < 100
    · obtain ⟨hlt, hlt1⟩ := hin
      have hlt' : (k : Int) < L := by omega
      have hlt2 : (k : Int) < 100 := by omega
      obtain ⟨b, off, rfl, hrg, hbw⟩ := HRD.out k (by rw [← HL.out]; exact hlt)
      obtain ⟨x, hx⟩ : ∃ x, x = acts[k]'(by rw [← HL.out]; exact hlt) := ⟨_, rfl⟩
      rw [← hx] at hrg
      have hxw : ActWf x := by rw [hx]; exact HWF.out _ (List.getElem_mem _)
      have hrg2 : wr.rangeAt b (off + k * 4) (ac x) := rangeAt_block hrg (HS.out.old.block b hbw)
      obtain ⟨kd, xa, xb, xn⟩ := x
      obtain ⟨-, wxa, wxb, wxn⟩ := hxw
      dsimp only at wxa wxb wxn
      have HX := Lib.hid hrg2
      have HWX := Lib.hid (And.intro wxa (And.intro wxb wxn))
      clear hx hrg hbw hrg2 hlt hlt1 wxa wxb wxn
      obtain ⟨nb, hnb⟩ : ∃ nb, nb = wr.heap.size := ⟨_, rfl⟩
      go_upto_block 2 with (first
        | (refine wpl_loadR (r := actR) _ rfl rfl rfl HX.out ?_; dsimp only [actR, ac])
        | fail)
      obtain ⟨W, hW⟩ : ∃ W, W = wr.alloc (.cells #[.int .i64 kd, .int .i64 xa, .int .i64 xb, .int .i64 xn] 33) := ⟨_, rfl⟩
      have hbW : Below wr.heap.size wr W := by rw [hW]; exact (Below.refl _ wr).alloc (Nat.le_refl _) _
      have hatW : W.heap[nb]? = some (.cells #[.int .i64 kd, .int .i64 xa, .int .i64 xb, .int .i64 xn] 33 (0, 0)) := by rw [hW, hnb]; exact World.alloc_heap_new _ _
      rw [← hW]
      rw [← hnb]
      have S0 := Lib.hid (HS.out.later hbW)
      have hne : nb ≠ g := by have := HS.out.at_.lt; omega
      have hnlt : nb < W.heap.size := by rw [hW, hnb, World.size_alloc]; omega
      have HNB := Lib.hid (And.intro hne hnlt)
      have q0 := cells4 hatW 0
      have q1 := cells4 hatW 1
      have q2 := cells4 hatW 2
      have q3 := cells4 hatW 3
      dsimp at q0 q1 q2 q3
      have HAT := Lib.hid hatW
      clear hW hnb hbW hatW hne hnlt
      go_cut [] (fun wx => ∃ (B' : Acc) (M' : Cls Int), Grd B' M' ∧ LdS w.heap.size g gl (k + 1) B' M' w wx)
      case first =>
        have hkj : kd = 1 ∨ kd = 2 ∨ kd = 3 ∨ kd = 4 ∨ kd = 5 ∨ kd = 7 ∨ (kd ≠ 1 ∧ kd ≠ 2 ∧ kd ≠ 3 ∧ kd ≠ 4 ∧ kd ≠ 5 ∧ kd ≠ 7) := by omega
        rcases hkj with rfl | rfl | rfl | rfl | rfl | rfl | ⟨h1, h2, h3, h4, h5, h7⟩
        · go_wp2_with (first
            | (go_at_call 22; with_reducible refine (ledger_Transfer S0.out.at_ S0.out.size HWX.out.1 xb xn).mono ?_; rintro e w3 ⟨rfl, hl, hb⟩; have S1 := Lib.hid (S0.out.next (j := k + 1) hl hb (by have := S0.out.len; omega)); clear hl hb)
            | fail)
          go_meet
          exact ⟨transA B M xa xb xn, M, HGD.out.trans xa xb xn, S1.out⟩
        · go_wp2_with (first
            | (go_at_call 23; with_reducible refine (ledger_Reserve S0.out.at_ S0.out.size HWX.out.1 xn).mono ?_; rintro e w3 ⟨rfl, hl, hb⟩; have S1 := Lib.hid (S0.out.next (j := k + 1) hl hb (by have := S0.out.len; omega)); clear hl hb)
            | fail)
          go_meet
          exact ⟨reserveA B M xa xn, M, HGD.out.reserve xa xn, S1.out⟩
        · go_wp2_with (first
            | (go_at_call 24; with_reducible refine (ledger_Release S0.out.at_ xa xn).mono ?_; rintro e w3 ⟨rfl, hl, hb⟩; have S1 := Lib.hid (S0.out.next (j := k + 1) hl hb (by have := S0.out.len; omega)); clear hl hb)
            | fail)
          go_meet
          exact ⟨unheld B xa xn xa, M, HGD.out.unheld S0.out.at_.ok xa xn xa, S1.out⟩
        · go_wp2_with (first
            | (go_at_call 25; with_reducible refine (ledger_Slash S0.out.at_ xa xn).mono ?_; rintro e w3 ⟨rfl, hl, hb⟩; have S1 := Lib.hid (S0.out.next (j := k + 1) hl hb (by have := S0.out.len; omega)); clear hl hb)
            | fail)
          go_meet
          exact ⟨unheld B xa xn 0, M, HGD.out.unheld S0.out.at_.ok xa xn 0, S1.out⟩
        · obtain ⟨f, hf⟩ : ∃ f, f = (accOf B xa).1 := ⟨_, rfl⟩
          have hfr : ∀ n, Calls Try.prog 29 #[.pointer (some ⟨g, 0, none⟩), .int .i64 xa] (W.drewN n) fun e w' => e = .returned (.int .i64 f) ∧ w' = W.drewN n := fun n => by
            rw [hf]; exact ledger_Free (w := W.drewN n) (S0.out.at_.below (w' := W.drewN n) ⟨rfl, rfl, rfl, Nat.le_refl _, fun _ _ => rfl⟩) xa
          have HF := Lib.hid hf
          have HFR := Lib.hid hfr
          clear hf hfr
          go_upto_region 20 with fail
          go_quiet ((go_at_call 29; exact Calls.quiet_of_same (HFR.out _)))
          have S2 := Lib.hid (S0.out.later (W' := W.drewN nq) ⟨rfl, rfl, rfl, Nat.le_refl _, fun _ _ => rfl⟩)
          by_cases hle : xn ≤ f
          · have HLE := Lib.hid hle
            go_wp2_with (first
              | (go_at_call 26; with_reducible refine (ledger_Lock S2.out.at_ S2.out.size (by have := S2.out.len; omega) HWX.out.1 HWX.out.2.1 xn).mono ?_; rintro e w3 ⟨rfl, hl, hb⟩; have S1 := Lib.hid (S2.out.next (j := k + 1) hl hb (Nat.le_trans (lockM_len S2.out.at_.srt xa xb xn) (by have := S2.out.len; omega))); clear hl hb)
              | fail)
            go_meet
            exact ⟨B, lockM M xa xb xn, HGD.out.lock S0.out.at_.ok xb (by rw [← HF.out]; exact HLE.out), S1.out⟩
          · go_wp2_with fail
            go_meet
            exact ⟨B, M, HGD.out, S2.out.next (j := k + 1) S2.out.at_ (Below.refl _ _) (by have := S2.out.len; omega)⟩
        · go_wp2_with (first
            | (go_at_call 28; with_reducible refine (ledger_Burn S0.out.at_ S0.out.size HWX.out.1 xn).mono ?_; rintro e w3 ⟨rfl, hl, hb⟩; have S1 := Lib.hid (S0.out.next (j := k + 1) hl hb (by have := S0.out.len; omega)); clear hl hb)
            | fail)
          go_meet
          exact ⟨spent B M xa xn false, M, HGD.out.burn xa xn, S1.out⟩
        · have e1 : (kd == 1) = false := by simp [h1]
          have e2 : (kd == 2) = false := by simp [h2]
          have e3 : (kd == 3) = false := by simp [h3]
          have e4 : (kd == 4) = false := by simp [h4]
          have e5 : (kd == 5) = false := by simp [h5]
          have e7 : (kd == 7) = false := by simp [h7]
          clear h1 h2 h3 h4 h5 h7
          go_wp2_with fail
          go_meet
          exact ⟨B, M, HGD.out, S0.out.next (j := k + 1) S0.out.at_ (Below.refl _ _) (by have := S0.out.len; omega)⟩
      case rest =>
        obtain ⟨C, M2, hg2, hs2⟩ := hcut
        have HG2 := Lib.hid hg2
        have H2 := Lib.hid hs2
        clear hs2 hg2 q0 q1 q2 q3 S0 HAT HNB HS HGD
        go_wp2_with fail
        go_loopw [8] (fun j wy => ∃ m : Nat, m ≤ 10 ∧ j = .int .i64 m ∧ LdS w.heap.size g gl (k + 1) C M2 w wy) (fun j _ => 10 - (intOf j).toNat)
        case atStart => exact ⟨0, by omega, rfl, H2.out⟩
        case round =>
          obtain ⟨m, hm, rfl, hy⟩ := hrel
          by_cases hlt : m < 10
          · have hlt' : (m : Int) < 10 := by omega
            have ef := accOf_at C hlt
            have hgm := HG2.out m hlt
            obtain ⟨f, hf⟩ : ∃ f, f = (C m).1 := ⟨_, rfl⟩
            obtain ⟨lk, hlk⟩ : ∃ lk, lk = lockedOf M2 m := ⟨_, rfl⟩
            rw [← hf, ← hlk] at hgm
            have e1 : (accOf C m).1 = f := by rw [ef, hf]
            have n1 : ¬ f < lk := by omega
            have HY := Lib.hid (And.intro hy (And.intro e1 (And.intro hlk hlt)))
            clear hy e1 ef hf hlk hgm H2 hm hlt
            go_wp2_with (first
              | (go_at_call 29; refine (ledger_Free HY.out.1.at_ m).mono ?_; rw [HY.out.2.1]; rintro e w6 ⟨rfl, hw⟩; rw [hw]; clear hw w6)
              | (go_at_call 31; refine (ledger_Locked HY.out.1.at_ (wf_small HY.out.2.2.2)).mono ?_; rw [← HY.out.2.2.1]; rintro e w6 ⟨rfl, hb⟩; have H6 := Lib.hid (HY.out.1.later hb); clear hb)
              | fail)
            go_roundw
            case rel => exact ⟨m + 1, by omega, by go_num, H6.out⟩
            case measure => simp [intOf]; omega
          · obtain rfl : m = 10 := by omega
            have HY := Lib.hid hy
            clear hy hlt hm H2
            go_wp2_with fail
            go_roundw
            case rel => exact ⟨k + 1, C, M2, by omega, by omega, by go_num, HG2.out, HY.out⟩
            case measure => simp [intOf]; omega
    · have hex : (¬ (k : Int) < L) ∨ ((k : Int) < L ∧ ¬ (k : Int) < 100) := by omega
      clear hin hkL hk1
      rcases hex with hq | ⟨hq1, hq2⟩
      all_goals go_wp2_with (first
        | (go_at_call 19; refine (law_known _).mono ?_; rintro e w9 ⟨rfl, hb⟩; have H9 := Lib.hid (HS.out.old.trans (hb.mono HS.out.size)); clear hb)
        | fail)
      all_goals go_ret
      all_goals exact ⟨rfl, H9.out⟩
end Go.Proofs.Ytjmaeiphjjjdoaa
