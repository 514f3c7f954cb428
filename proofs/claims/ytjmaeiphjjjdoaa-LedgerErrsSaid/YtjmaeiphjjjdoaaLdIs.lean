/-
  What an act leaves of the ledger; the law LedgerIssues, walked.
-/
import Derived.Test.YtjmaeiphjjjdoaaLdBg
import Derived.Test.YtjmaeiphjjjdoaaLdAc
import Derived.Test.YtjmaeiphjjjdoaaLdF
import Derived.Test.YtjmaeiphjjjdoaaLdHo
import Derived.Deep.CutBlock
import Derived.Deep.DeepCutAuto
namespace Go.Proofs.Ytjmaeiphjjjdoaa
open Go.RowKit Go.Maps Go.Shelf
set_option linter.unusedVariables false
set_option linter.unusedSimpArgs false
set_option linter.constructorNameAsVariable false

theorem sum_transA (A : Acc) (M : Cls Int) (a b n : Int) : sumTo (transA A M a b n) 10 = sumTo A 10 := by
  unfold transA
  split
  · rename_i h
    unfold transE at h
    split at h
    · rename_i hb
      obtain ⟨ha, -, -⟩ := spendE_ok h
      have hb' : b.toNat < 10 := by unfold isAcc at hb; omega
      rw [sum_giveA _ hb', sum_spendA _ ha]; omega
    · cases h
  · rfl
theorem sum_heldUp (A : Acc) {a : Nat} (ha : a < 10) (n : Int) : sumTo (upd A a ((A a).1, (A a).2 + n)) 10 = sumTo A 10 + n := by
  rw [sumTo_upd, if_pos ha]; unfold both; simp only; omega
theorem sum_reserveA (A : Acc) (M : Cls Int) (a n : Int) : sumTo (reserveA A M a n) 10 = sumTo A 10 := by
  unfold reserveA
  split
  · rename_i h
    obtain ⟨ha, -, -⟩ := spendE_ok h
    have ha' : a.toNat < 10 := by unfold isAcc at ha; omega
    rw [sum_heldUp _ ha', sum_spendA _ ha]; omega
  · rfl
theorem sum_takeA (A : Acc) {a : Nat} (ha : a < 10) (n : Int) : sumTo (takeA A a n) 10 = sumTo A 10 - n := by
  rw [takeA, sumTo_upd, if_pos ha]; unfold both; simp only; omega
theorem sum_unheld (A : Acc) {a b : Int} (hb : isAcc a → isAcc b) (n : Int) : sumTo (unheld A a n b) 10 = sumTo A 10 := by
  unfold unheld
  split
  · rename_i ha
    have hb := hb ha
    have ha' : a.toNat < 10 := by unfold isAcc at ha; omega
    have hb' : b.toNat < 10 := by unfold isAcc at hb; omega
    rw [sum_giveA _ hb', sum_takeA _ ha']; omega
  · rfl
theorem sum_mintA (A : Acc) (a n : Int) : sumTo (mintA A a n) 10 = sumTo A 10 + (if mintE A a n = 0 then n else 0) := by
  unfold mintA
  split
  · rename_i h
    have ha : isAcc a := by
      unfold mintE at h
      split at h
      · cases h
      · rename_i h1
        exact Decidable.byContradiction fun c => h1 (.inl c)
    have ha' : a.toNat < 10 := by unfold isAcc at ha; omega
    rw [sum_giveA _ ha']
  · omega
theorem mintE_bal {A : Acc} {a n : Int} (h : mintE A a n = 0) : isBal n := by
  unfold mintE at h
  split at h
  · cases h
  · rename_i h1
    exact Decidable.byContradiction fun c => h1 (.inr c)
theorem sum_spent (A : Acc) (M : Cls Int) (a n : Int) (q : Bool) : sumTo (spent A M a n q) 10 = sumTo A 10 - (if spendE A M a n q = 0 then n else 0) := by
  unfold spent
  split
  · rename_i h
    obtain ⟨ha, -, -⟩ := spendE_ok h
    rw [sum_spendA _ ha]
  · omega

theorem Off.at {g k : Nat} {w w' : World} (h : Off g w w') (hk : k < w.heap.size) (hn : k ≠ g) : w'.heap[k]? = w.heap[k]? := h k hk hn
theorem cells4 {w : World} {b : Nat} {T : TypeId} {C : Array Value} (h : w.heap[b]? = some (.cells C T (0, 0))) (i : Nat) : w.cell? ⟨b, i, none⟩ = C[i]? := by rw [World.cell?, h]; simp
/-- A ledger in play, with so many acts done. -/
structure LdS (N g gl k : Nat) (A : Acc) (M : Cls Int) (w W : World) : Prop where
  at_ : LdAt N g gl A M W
  old : Below N w W
  size : N ≤ W.heap.size
  len : M.length ≤ k
theorem LdS.later {N g gl k : Nat} {A : Acc} {M : Cls Int} {w W W' : World} (h : LdS N g gl k A M w W) (hb : Below W.heap.size W W') : LdS N g gl k A M w W' :=
  ⟨h.at_.below hb, h.old.trans (hb.mono h.size), Nat.le_trans h.size hb.size, h.len⟩
theorem LdS.next {N g gl k : Nat} {A A' : Acc} {M M' : Cls Int} {w W W' : World} (h : LdS N g gl k A M w W) (h1 : LdAt N g gl A' M' W') (h2 : Below N W W') {j : Nat} (h3 : M'.length ≤ j) : LdS N g gl j A' M' w W' :=
  ⟨h1, h.old.trans h2, Nat.le_trans h.size h2.size, h3⟩
set_option maxRecDepth 100000 in
set_option maxHeartbeats 8000000 in
theorem ledgerIssues_walk (v : Value) (l : List Int) (u : Value) (acts : List A4) (w : World) (hr : RdI w v l) (hbd : ∀ n ∈ l, (Lit.int .i64 n).wf = true) (hm : l.length ≤ maxLen) (hra : RdS actR w u acts) (hma : acts.length ≤ maxLen ∧ ∀ x ∈ acts, ActWf x) :
    Calls Try.prog 4 #[v, u] w fun e w' => e = .returned (.bool true) ∧ Below w.heap.size w w' := by
  obtain ⟨ao, cap, rfl⟩ := hr.lenOf
  obtain ⟨K, hK⟩ : ∃ K, K = l.length := ⟨_, rfl⟩
  rw [← hK] at hr hm ⊢
  obtain ⟨ao2, cap2, rfl, hrd⟩ := hra
  obtain ⟨hmx, hwf⟩ := hma
  have hmx' : (acts.length : Int) ≤ 9223372036854775807 := Int.le_trans (Int.ofNat_le.2 hmx) (by decide +kernel)
  obtain ⟨L, hL⟩ : ∃ L, L = acts.length := ⟨_, rfl⟩
  have HRD := Lib.hid hrd
  have HL := Lib.hid hL
  have HWF := Lib.hid hwf
  have HR := Lib.hid (And.intro hr hK)
  rw [← hL] at hmx' ⊢
  clear hrd hL hmx hwf hr hm hbd hK
  go_enter Try.func4, Try.ntmps4
  by_cases c0 : (10 : Int) < (K : Int)
  · go_wp2_with fail
    exact bodyPost_ret (v := .bool true) (by simp [results, Try.results4, go_sem]) rfl ⟨rfl, Below.refl _ _⟩
  by_cases c1 : (10000 : Int) < (L : Int)
  · go_wp2_with fail
    exact bodyPost_ret (v := .bool true) (by simp [results, Try.results4, go_sem]) rfl ⟨rfl, Below.refl _ _⟩
  have hK10 : K ≤ 10 := by omega
  go_wp2_with (first
    | (go_at_call 20; refine (law_begin _ l w HR.out.1 (by rw [← HR.out.2]; exact hK10)).mono ?_; rintro e w1 ⟨g, gl, A, rfl, hl, hb⟩; have H1 := Lib.hid (And.intro hl hb); clear hl hb)
    | (go_at_call 21; refine (ledger_Issued H1.out.1).mono ?_; rintro e w2 ⟨rfl, hb⟩; have H2 := Lib.hid (LdS.later (k := 0) (w := w) ⟨H1.out.1, H1.out.2, H1.out.2.size, Nat.le_refl _⟩ hb); clear hb)
    | fail)
  obtain ⟨wt, hwt⟩ : ∃ wt, wt = sumTo A 10 := ⟨_, rfl⟩
  rw [← hwt]
  go_loopw [6, 7] (fun q i wr => ∃ (k : Nat) (A : Acc) (M : Cls Int), k ≤ L ∧ k ≤ 100 ∧ i = .int .i64 k ∧ q = .int .i64 (sumTo A 10) ∧ LdS w.heap.size g gl k A M w wr) (fun _ i _ => 100 - (intOf i).toNat)
  case atStart => exact ⟨0, A, [], by omega, by omega, rfl, by rw [hwt], H2.out⟩
  case round =>
    obtain ⟨k, B, M, hkL, hk1, rfl, rfl, hst⟩ := hrel
    clear H1 H2 hwt
    have HS := Lib.hid hst
    clear hst
    by_cases hin : k < L ∧ k < 100
    · obtain ⟨hlt, hlt1⟩ := hin
      have hlt' : (k : Int) < L := by omega
      have hlt2 : (k : Int) < 100 := by omega
      obtain ⟨b, off, rfl, hrg, hbw⟩ := HRD.out k (by rw [← HL.out]; exact hlt)
      obtain ⟨x, hx⟩ : ∃ x, x = acts[k]'(by rw [← HL.out]; exact hlt) := ⟨_, rfl⟩
      rw [← hx] at hrg
      have hxw : ActWf x := by rw [hx]; exact HWF.out _ (List.getElem_mem _)
      have hrg2 : wr.rangeAt b (off + k * 4) (ac x) := rangeAt_block hrg (HS.out.old.block b hbw)
      obtain ⟨kd, xa, xb, xn⟩ := x
      obtain ⟨-, wxa, wxb, wxn⟩ := hxw
      dsimp only at wxa wxb wxn
      have HX := Lib.hid hrg2
      have HWX := Lib.hid (And.intro wxa (And.intro wxb wxn))
      clear hx hrg hbw hrg2 hlt hlt1 wxa wxb wxn
      obtain ⟨nb, hnb⟩ : ∃ nb, nb = wr.heap.size := ⟨_, rfl⟩
      go_upto_block 2 with (first
        | (refine wpl_loadR (r := actR) _ rfl rfl rfl HX.out ?_; dsimp only [actR, ac])
        | fail)
      obtain ⟨W, hW⟩ : ∃ W, W = wr.alloc (.cells #[.int .i64 kd, .int .i64 xa, .int .i64 xb, .int .i64 xn] 33) := ⟨_, rfl⟩
      have hbW : Below wr.heap.size wr W := by rw [hW]; exact (Below.refl _ wr).alloc (Nat.le_refl _) _
      have hatW : W.heap[nb]? = some (.cells #[.int .i64 kd, .int .i64 xa, .int .i64 xb, .int .i64 xn] 33 (0, 0)) := by rw [hW, hnb]; exact World.alloc_heap_new _ _
      rw [← hW]
      rw [← hnb]
      have S0 := Lib.hid (HS.out.later hbW)
      have hne : nb ≠ g := by have := HS.out.at_.lt; omega
      have hnlt : nb < W.heap.size := by rw [hW, hnb, World.size_alloc]; omega
      have HNB := Lib.hid (And.intro hne hnlt)
      have q0 := cells4 hatW 0
      have q1 := cells4 hatW 1
      have q2 := cells4 hatW 2
      have q3 := cells4 hatW 3
      dsimp at q0 q1 q2 q3
      have HAT := Lib.hid hatW
      clear hW hnb hbW hatW hne hnlt
      go_cut [6] (fun q wx => ∃ (B' : Acc) (M' : Cls Int), q = .int .i64 (sumTo B' 10) ∧ LdS w.heap.size g gl (k + 1) B' M' w wx)
      case first =>
        have hkj : kd = 1 ∨ kd = 2 ∨ kd = 3 ∨ kd = 4 ∨ kd = 5 ∨ kd = 6 ∨ kd = 7 ∨ (kd ≠ 1 ∧ kd ≠ 2 ∧ kd ≠ 3 ∧ kd ≠ 4 ∧ kd ≠ 5 ∧ kd ≠ 6 ∧ kd ≠ 7) := by omega
        rcases hkj with rfl | rfl | rfl | rfl | rfl | rfl | rfl | ⟨h1, h2, h3, h4, h5, h6, h7⟩
        · go_wp2_with (first
            | (go_at_call 22; with_reducible refine (ledger_Transfer S0.out.at_ S0.out.size HWX.out.1 xb xn).mono ?_; rintro e w3 ⟨rfl, hl, hb⟩; have S1 := Lib.hid (S0.out.next (j := k + 1) hl hb (by have := S0.out.len; omega)); clear hl hb)
            | fail)
          go_meet
          exact ⟨transA B M xa xb xn, M, by rw [sum_transA], S1.out⟩
        · go_wp2_with (first
            | (go_at_call 23; with_reducible refine (ledger_Reserve S0.out.at_ S0.out.size HWX.out.1 xn).mono ?_; rintro e w3 ⟨rfl, hl, hb⟩; have S1 := Lib.hid (S0.out.next (j := k + 1) hl hb (by have := S0.out.len; omega)); clear hl hb)
            | fail)
          go_meet
          exact ⟨reserveA B M xa xn, M, by rw [sum_reserveA], S1.out⟩
        · go_wp2_with (first
            | (go_at_call 24; with_reducible refine (ledger_Release S0.out.at_ xa xn).mono ?_; rintro e w3 ⟨rfl, hl, hb⟩; have S1 := Lib.hid (S0.out.next (j := k + 1) hl hb (by have := S0.out.len; omega)); clear hl hb)
            | fail)
          go_meet
          exact ⟨unheld B xa xn xa, M, by rw [sum_unheld B (fun h => h)], S1.out⟩
        · go_wp2_with (first
            | (go_at_call 25; with_reducible refine (ledger_Slash S0.out.at_ xa xn).mono ?_; rintro e w3 ⟨rfl, hl, hb⟩; have S1 := Lib.hid (S0.out.next (j := k + 1) hl hb (by have := S0.out.len; omega)); clear hl hb)
            | fail)
          go_meet
          exact ⟨unheld B xa xn 0, M, by rw [sum_unheld B (fun _ => by decide)], S1.out⟩
        · go_wp2_with (first
            | (go_at_call 26; with_reducible refine (ledger_Lock S0.out.at_ S0.out.size (by have := S0.out.len; omega) HWX.out.1 HWX.out.2.1 xn).mono ?_; rintro e w3 ⟨rfl, hl, hb⟩; have S1 := Lib.hid (S0.out.next (j := k + 1) hl hb (Nat.le_trans (lockM_len S0.out.at_.srt xa xb xn) (by have := S0.out.len; omega))); clear hl hb)
            | fail)
          go_meet
          exact ⟨B, lockM M xa xb xn, rfl, S1.out⟩
        · obtain ⟨E, hE⟩ : ∃ E, E = mintE B xa xn := ⟨_, rfl⟩
          obtain ⟨s, hs⟩ : ∃ s, s = sumTo B 10 := ⟨_, rfl⟩
          have hsum := sum_mintA B xa xn
          rw [← hE, ← hs] at hsum
          rw [← hs]
          have hs0 : 0 ≤ s ∧ s ≤ 1073741824 := by rw [hs]; exact S0.out.at_.ok.part (Nat.le_refl _)
          have hwr : E = 0 → IntKind.i64.wrap (s + xn) = s + xn := fun h0 => IntWalk.i64_in _ (by
            have hb : isBal xn := by
              rw [h0] at hE
              exact mintE_bal hE.symm
            unfold isBal at hb; omega)
          have HE := Lib.hid (And.intro hE (And.intro hsum hwr))
          clear hE hsum hwr hs hs0
          by_cases h0 : E = 0
          · subst h0
            have hwr := HE.out.2.2 rfl
            go_wp2_with (first
              | (go_at_call 27; with_reducible refine (ledger_MintF S0.out.at_ S0.out.size xa xn).mono ?_; rw [← HE.out.1]; rintro e w3 ⟨rfl, hl, hb, ho⟩; have r3 := (ho.at HNB.out.2 HNB.out.1).trans HAT.out; have q33 := cells4 r3 3; dsimp at q33; clear q3 r3 ho; have S1 := Lib.hid (S0.out.next (j := k + 1) hl hb (by have := S0.out.len; omega)); clear hl hb)
              | fail)
            go_meet
            exact ⟨mintA B xa xn, M, by rw [HE.out.2.1, if_pos trivial], S1.out⟩
          · go_wp2_with (first
              | (go_at_call 27; with_reducible refine (ledger_MintF S0.out.at_ S0.out.size xa xn).mono ?_; rw [← HE.out.1]; rintro e w3 ⟨rfl, hl, hb, ho⟩; have S1 := Lib.hid (S0.out.next (j := k + 1) hl hb (by have := S0.out.len; omega)); clear hl hb ho)
              | fail)
            go_meet
            exact ⟨mintA B xa xn, M, by rw [HE.out.2.1, if_neg h0]; simp, S1.out⟩
        · obtain ⟨E, hE⟩ : ∃ E, E = spendE B M xa xn false := ⟨_, rfl⟩
          obtain ⟨s, hs⟩ : ∃ s, s = sumTo B 10 := ⟨_, rfl⟩
          have hsum := sum_spent B M xa xn false
          rw [← hE, ← hs] at hsum
          rw [← hs]
          have hs0 : 0 ≤ s ∧ s ≤ 1073741824 := by rw [hs]; exact S0.out.at_.ok.part (Nat.le_refl _)
          have hwr : E = 0 → IntKind.i64.wrap (s - xn) = s - xn := fun h0 => IntWalk.i64_in _ (by
            have hb : isBal xn := by
              rw [h0] at hE
              exact (spendE_ok hE.symm).2.1
            unfold isBal at hb; omega)
          have HE := Lib.hid (And.intro hE (And.intro hsum hwr))
          clear hE hsum hwr hs hs0
          by_cases h0 : E = 0
          · subst h0
            have hwr := HE.out.2.2 rfl
            go_wp2_with (first
              | (go_at_call 28; with_reducible refine (ledger_BurnF S0.out.at_ S0.out.size HWX.out.1 xn).mono ?_; rw [← HE.out.1]; rintro e w3 ⟨rfl, hl, hb, ho⟩; have r3 := (ho.at HNB.out.2 HNB.out.1).trans HAT.out; have q33 := cells4 r3 3; dsimp at q33; clear q3 r3 ho; have S1 := Lib.hid (S0.out.next (j := k + 1) hl hb (by have := S0.out.len; omega)); clear hl hb)
              | fail)
            go_meet
            exact ⟨spent B M xa xn false, M, by rw [HE.out.2.1, if_pos trivial], S1.out⟩
          · go_wp2_with (first
              | (go_at_call 28; with_reducible refine (ledger_BurnF S0.out.at_ S0.out.size HWX.out.1 xn).mono ?_; rw [← HE.out.1]; rintro e w3 ⟨rfl, hl, hb, ho⟩; have S1 := Lib.hid (S0.out.next (j := k + 1) hl hb (by have := S0.out.len; omega)); clear hl hb ho)
              | fail)
            go_meet
            exact ⟨spent B M xa xn false, M, by rw [HE.out.2.1, if_neg h0]; simp, S1.out⟩
        · have e1 : (kd == 1) = false := by simp [h1]
          have e2 : (kd == 2) = false := by simp [h2]
          have e3 : (kd == 3) = false := by simp [h3]
          have e4 : (kd == 4) = false := by simp [h4]
          have e5 : (kd == 5) = false := by simp [h5]
          have e6 : (kd == 6) = false := by simp [h6]
          have e7 : (kd == 7) = false := by simp [h7]
          clear h1 h2 h3 h4 h5 h6 h7
          go_wp2_with fail
          go_meet
          exact ⟨B, M, rfl, S0.out.next (j := k + 1) S0.out.at_ (Below.refl _ _) (by have := S0.out.len; omega)⟩
      case rest =>
        obtain ⟨C, M2, rfl, hs2⟩ := hcut
        have H2 := Lib.hid hs2
        clear hs2 q0 q1 q2 q3 S0 HAT HNB HS
        go_wp2_with fail
        obtain ⟨t, ht⟩ : ∃ t, t = sumTo C 10 := ⟨_, rfl⟩
        have HT := Lib.hid ht
        rw [← ht]
        clear ht
        go_loopw [9, 10] (fun n j wy => ∃ m : Nat, m ≤ 10 ∧ j = .int .i64 m ∧ n = .int .i64 (sumTo C m) ∧ LdS w.heap.size g gl (k + 1) C M2 w wy) (fun _ j _ => 10 - (intOf j).toNat)
        case atStart => exact ⟨0, by omega, rfl, rfl, H2.out⟩
        case round =>
          obtain ⟨m, hm, rfl, rfl, hy⟩ := hrel
          by_cases hlt : m < 10
          · have hlt' : (m : Int) < 10 := by omega
            have hHF := hy.at_.ok.free m
            have hHH := hy.at_.ok.held m
            have hp1 := hy.at_.ok.part (n := m) (by omega)
            have hp2 := hy.at_.ok.part (n := m + 1) (by omega)
            have hst : sumTo C (m + 1) = sumTo C m + ((C m).1 + (C m).2) := rfl
            have ef := accOf_at C hlt
            obtain ⟨f, hf⟩ : ∃ f, f = (C m).1 := ⟨_, rfl⟩
            obtain ⟨h, hh⟩ : ∃ h, h = (C m).2 := ⟨_, rfl⟩
            obtain ⟨s, hs⟩ : ∃ s, s = sumTo C m := ⟨_, rfl⟩
            rw [← hf] at hHF hst
            rw [← hh] at hHH hst
            rw [← hs] at hp1 hst ⊢
            have e1 : (accOf C m).1 = f := by rw [ef, hf]
            have e2 : (accOf C m).2 = h := by rw [ef, hh]
            have n1 : ¬ f < 0 := by omega
            have n2 : ¬ h < 0 := by omega
            have w1 : IntKind.i64.wrap (s + f) = s + f := IntWalk.i64_in _ (by omega)
            have w2 : IntKind.i64.wrap (s + f + h) = s + f + h := IntWalk.i64_in _ (by omega)
            have HY := Lib.hid (And.intro hy (And.intro e1 (And.intro e2 hst)))
            clear hy e1 e2 hst ef hf hh hs hHF hHH hp1 hp2 H2 hm hlt
            go_wp2_with (first
              | (go_at_call 29; refine (ledger_Free HY.out.1.at_ m).mono ?_; rw [HY.out.2.1]; rintro e w6 ⟨rfl, hw⟩; rw [hw]; clear hw w6)
              | (go_at_call 30; refine (ledger_Held HY.out.1.at_ m).mono ?_; rw [HY.out.2.2.1]; rintro e w6 ⟨rfl, hw⟩; rw [hw]; clear hw w6)
              | fail)
            go_roundw
            case rel => exact ⟨m + 1, by omega, by go_num, by rw [HY.out.2.2.2]; go_num, HY.out.1⟩
            case measure => simp [intOf]; omega
          · obtain rfl : m = 10 := by omega
            rw [← HT.out]
            have HY := Lib.hid hy
            clear hy hlt hm H2
            go_wp2_with (first
              | (go_at_call 21; refine (ledger_Issued HY.out.at_).mono ?_; rw [← HT.out]; rintro e w7 ⟨rfl, hb⟩; have H7 := Lib.hid (HY.out.later hb); clear hb)
              | fail)
            go_roundw
            case rel => exact ⟨k + 1, C, M2, by omega, by omega, by go_num, by rw [HT.out], H7.out⟩
            case measure => simp [intOf]; omega
    · have hex : (¬ (k : Int) < L) ∨ ((k : Int) < L ∧ ¬ (k : Int) < 100) := by omega
      clear hin hkL hk1
      rcases hex with hq | ⟨hq1, hq2⟩
      all_goals go_wp2_with (first
        | (go_at_call 19; refine (law_known _).mono ?_; rintro e w9 ⟨rfl, hb⟩; have H9 := Lib.hid (HS.out.old.trans (hb.mono HS.out.size)); clear hb)
        | fail)
      all_goals go_ret
      all_goals exact ⟨rfl, H9.out⟩
end Go.Proofs.Ytjmaeiphjjjdoaa
