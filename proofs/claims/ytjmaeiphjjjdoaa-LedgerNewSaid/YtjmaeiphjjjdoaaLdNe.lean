/-
  The law LedgerNew, walked.
-/
import Derived.Test.YtjmaeiphjjjdoaaLdHo
namespace Go.Proofs.Ytjmaeiphjjjdoaa
open Go.RowKit Go.Maps Go.Shelf
set_option linter.unusedVariables false
set_option linter.unusedSimpArgs false

def okB (l : List Int) : Nat → Bool
  | 0 => decide (l.length ≤ 10)
  | k + 1 => okB l k && decide (isBal (l.getD k 0))
def allTo (l : List Int) : Nat → Int
  | 0 => 0
  | k + 1 => allTo l k + if isBal (l.getD k 0) then l.getD k 0 else 0
theorem okB_iff (l : List Int) : ∀ k, okB l k = true ↔ l.length ≤ 10 ∧ ∀ j, j < k → isBal (l.getD j 0)
  | 0 => by simp [okB]
  | k + 1 => by
    rw [okB, Bool.and_eq_true, okB_iff l k, decide_eq_true_eq]
    constructor
    · rintro ⟨⟨h1, h2⟩, h3⟩
      exact ⟨h1, fun j hj => by by_cases e : j = k; subst e; exact h3; exact h2 j (by omega)⟩
    · rintro ⟨h1, h2⟩
      exact ⟨⟨h1, fun j hj => h2 j (by omega)⟩, h2 k (by omega)⟩
theorem allTo_bounds (l : List Int) : ∀ k, 0 ≤ allTo l k ∧ allTo l k ≤ 1073741824 * k
  | 0 => by simp [allTo]
  | k + 1 => by
    have h := allTo_bounds l k
    rw [allTo]
    by_cases c : isBal (l.getD k 0)
    · rw [if_pos c]; unfold isBal at c; omega
    · rw [if_neg c]; omega
theorem allTo_sum (l : List Int) (hl : l.length ≤ 10) : ∀ k, k ≤ l.length → (∀ j, j < k → isBal (l.getD j 0)) → allTo l k = sumTo (accL (l.take k)) 10
  | 0, _, _ => by rw [List.take_zero, accL_nil]; show (0 : Int) = sumTo acc0 10; decide
  | k + 1, hk, h => by
    rw [allTo, if_pos (h k (by omega)), allTo_sum l hl k (by omega) (fun j hj => h j (by omega)), sum_accL_step l (by omega)]
theorem newOk_iff (l : List Int) : newOk l ↔ okB l l.length = true ∧ allTo l l.length ≤ 1073741824 := by
  rw [okB_iff]
  unfold newOk
  constructor
  · rintro ⟨h1, h2, h3⟩
    refine ⟨⟨h1, h2⟩, ?_⟩
    rw [allTo_sum l h1 _ (Nat.le_refl _) h2, List.take_length]; exact h3
  · rintro ⟨⟨h1, h2⟩, h3⟩
    refine ⟨h1, h2, ?_⟩
    rw [allTo_sum l h1 _ (Nat.le_refl _) h2, List.take_length] at h3; exact h3
set_option maxRecDepth 100000 in
set_option maxHeartbeats 4000000 in
theorem ledgerNew_walk (v : Value) (l : List Int) (w : World) (hr : RdI w v l) (hb : ∀ n ∈ l, (Lit.int .i64 n).wf = true) (hm : l.length ≤ maxLen) : Calls Try.prog 9 #[v] w fun e w' => e = .returned (.bool true) ∧ Below w.heap.size w w' := by
  obtain ⟨ao, cap, rfl⟩ := hr.lenOf
  obtain ⟨L, hL⟩ : ∃ L, L = l.length := ⟨_, rfl⟩
  rw [← hL] at hr ⊢
  have HRD := Lib.hid (And.intro hr (And.intro hL hm))
  clear hr hb hm
  go_enter Try.func9, Try.ntmps9
  by_cases hbad : 60 < (L : Int)
  · clear hL
    go_wp2_with fail
    exact bodyPost_ret (v := .bool true) (by simp [results, Try.results9, go_sem]) rfl ⟨rfl, Below.refl _ _⟩
  have hL60 : L ≤ 60 := by omega
  have hq1 : decide ((L : Int) ≤ 10) = okB l 0 := by rw [okB, hL]; exact decide_eq_decide.2 (by omega)
  have HQ0 := Lib.hid hq1
  by_cases hok : newOk l
  · have HK := Lib.hid hok
    clear hL hok hq1
    go_wp2_with (first
      | (go_at_call 14; refine (ledger_New_ok HRD.out.1 (by have := HRD.out.2.1; have := HRD.out.2.2; omega) HK.out).mono ?_; rintro e w1 ⟨g, gl, rfl, hl, hb⟩; have H1 := Lib.hid (And.intro hl hb); clear hl hb)
      | fail)
    go_loopw [5, 6, 7] (fun q s i wr => ∃ k : Nat, k ≤ L ∧ i = .int .i64 k ∧ q = .bool (okB l k) ∧ s = .int .i64 (allTo l k) ∧ LdAt w.heap.size g gl (accL l) [] wr ∧ Below w.heap.size w wr) (fun _ _ i _ => L - (intOf i).toNat)
    case atStart => exact ⟨0, by omega, rfl, by rw [HQ0.out], rfl, H1.out⟩
    case round =>
      obtain ⟨k, hk, rfl, rfl, rfl, hst⟩ := hrel
      have HS := Lib.hid hst
      by_cases hlt : k < L
      · have hlt' : (k : Int) < L := by omega
        have hb1 : Below w.heap.size w wr := HS.out.2
        obtain ⟨a, rfl, ca⟩ := (HRD.out.1.below hb1).at (show k < l.length by rw [← HRD.out.2.1]; exact hlt)
        obtain ⟨n, hn⟩ : ∃ n, n = l.getD k 0 := ⟨_, rfl⟩
        rw [← hn] at ca
        obtain ⟨s, hs⟩ : ∃ s, s = allTo l k := ⟨_, rfl⟩
        obtain ⟨q, hq⟩ : ∃ q, q = okB l k := ⟨_, rfl⟩
        have hsb := allTo_bounds l k
        rw [← hs] at hsb ⊢
        rw [← hq]
        have hq1 : okB l (k + 1) = (q && decide (isBal n)) := by rw [okB, hq, hn]
        have hs1 : allTo l (k + 1) = s + if isBal n then n else 0 := by rw [allTo, hs, hn]
        have HN := Lib.hid (And.intro hq1 hs1)
        clear hst hb1 hn hs hq hq1 hs1
        by_cases hbal : isBal n
        · have c1 : ¬ n < 0 := by unfold isBal at hbal; omega
          have c2 : ¬ 1073741824 < n := by unfold isBal at hbal; omega
          have hn1 : IntKind.i64.wrap (s + n) = s + n := IntWalk.i64_in _ (by unfold isBal at hbal; omega)
          have HB := Lib.hid hbal
          clear hsb hbal
          go_wp2_with fail
          go_roundw
          case rel => exact ⟨k + 1, by omega, by go_num, by rw [HN.out.1, decide_eq_true HB.out, Bool.and_true], by rw [HN.out.2, if_pos HB.out], HS.out⟩
          case measure => simp [intOf]; omega
        · have hex : n < 0 ∨ (¬ n < 0 ∧ 1073741824 < n) := by unfold isBal at hbal; omega
          have HB := Lib.hid hbal
          clear hsb hbal
          rcases hex with c1 | ⟨c1, c2⟩
          all_goals
            go_wp2_with fail
            go_roundw
            case rel => exact ⟨k + 1, by omega, by go_num, by rw [HN.out.1, decide_eq_false HB.out, Bool.and_false], by rw [HN.out.2, if_neg HB.out, Int.add_zero], HS.out⟩
            case measure => simp [intOf]; omega
      · have hge : ¬ (k : Int) < L := by omega
        obtain rfl : k = L := by omega
        have hif := newOk_iff l
        rw [← HRD.out.2.1] at hif
        obtain ⟨s, hs⟩ : ∃ s, s = allTo l k := ⟨_, rfl⟩
        obtain ⟨q, hq⟩ : ∃ q, q = okB l k := ⟨_, rfl⟩
        rw [← hs, ← hq] at hif
        rw [← hs, ← hq]
        obtain ⟨rfl, hsle⟩ := hif.1 HK.out
        have hsum : sumTo (accL l) 10 = s := by
          have h1 := HK.out
          rw [hs, HRD.out.2.1, allTo_sum l h1.1 _ (Nat.le_refl _) h1.2.1, List.take_length]
        have HM := Lib.hid hsum
        clear hst hif hs hq hsum
        go_wp2_with (first
          | (go_at_call 21; refine (ledger_Issued HS.out.1).mono ?_; rw [HM.out]; rintro e w3 ⟨rfl, hb⟩; have H3 := Lib.hid (HS.out.2.trans (hb.mono HS.out.2.size)); clear hb)
          | (go_at_call 19; refine (law_known _).mono ?_; rintro e w9 ⟨rfl, hb⟩; have H9 := Lib.hid (H3.out.trans (hb.mono H3.out.size)); clear hb)
          | fail)
        go_ret
        exact ⟨rfl, H9.out⟩
  · have HK := Lib.hid hok
    clear hL hok hq1
    go_wp2_with (first
      | (go_at_call 14; refine (ledger_New_bad HRD.out.1 (by have := HRD.out.2.1; have := HRD.out.2.2; omega) HK.out).mono ?_; rintro e w1 ⟨rfl, hb⟩; have H1 := Lib.hid hb; clear hb)
      | fail)
    go_loopw [5, 6, 7] (fun q s i wr => ∃ k : Nat, k ≤ L ∧ i = .int .i64 k ∧ q = .bool (okB l k) ∧ s = .int .i64 (allTo l k) ∧ Below w.heap.size w wr) (fun _ _ i _ => L - (intOf i).toNat)
    case atStart => exact ⟨0, by omega, rfl, by rw [HQ0.out], rfl, H1.out⟩
    case round =>
      obtain ⟨k, hk, rfl, rfl, rfl, hst⟩ := hrel
      have HS := Lib.hid hst
      by_cases hlt : k < L
      · have hlt' : (k : Int) < L := by omega
        have hb1 : Below w.heap.size w wr := HS.out
        obtain ⟨a, rfl, ca⟩ := (HRD.out.1.below hb1).at (show k < l.length by rw [← HRD.out.2.1]; exact hlt)
        obtain ⟨n, hn⟩ : ∃ n, n = l.getD k 0 := ⟨_, rfl⟩
        rw [← hn] at ca
        obtain ⟨s, hs⟩ : ∃ s, s = allTo l k := ⟨_, rfl⟩
        obtain ⟨q, hq⟩ : ∃ q, q = okB l k := ⟨_, rfl⟩
        have hsb := allTo_bounds l k
        rw [← hs] at hsb ⊢
        rw [← hq]
        have hq1 : okB l (k + 1) = (q && decide (isBal n)) := by rw [okB, hq, hn]
        have hs1 : allTo l (k + 1) = s + if isBal n then n else 0 := by rw [allTo, hs, hn]
        have HN := Lib.hid (And.intro hq1 hs1)
        clear hst hb1 hn hs hq hq1 hs1
        by_cases hbal : isBal n
        · have c1 : ¬ n < 0 := by unfold isBal at hbal; omega
          have c2 : ¬ 1073741824 < n := by unfold isBal at hbal; omega
          have hn1 : IntKind.i64.wrap (s + n) = s + n := IntWalk.i64_in _ (by unfold isBal at hbal; omega)
          have HB := Lib.hid hbal
          clear hsb hbal
          go_wp2_with fail
          go_roundw
          case rel => exact ⟨k + 1, by omega, by go_num, by rw [HN.out.1, decide_eq_true HB.out, Bool.and_true], by rw [HN.out.2, if_pos HB.out], HS.out⟩
          case measure => simp [intOf]; omega
        · have hex : n < 0 ∨ (¬ n < 0 ∧ 1073741824 < n) := by unfold isBal at hbal; omega
          have HB := Lib.hid hbal
          clear hsb hbal
          rcases hex with c1 | ⟨c1, c2⟩
          all_goals
            go_wp2_with fail
            go_roundw
            case rel => exact ⟨k + 1, by omega, by go_num, by rw [HN.out.1, decide_eq_false HB.out, Bool.and_false], by rw [HN.out.2, if_neg HB.out, Int.add_zero], HS.out⟩
            case measure => simp [intOf]; omega
      · have hge : ¬ (k : Int) < L := by omega
        obtain rfl : k = L := by omega
        have hif := newOk_iff l
        rw [← HRD.out.2.1] at hif
        obtain ⟨s, hs⟩ : ∃ s, s = allTo l k := ⟨_, rfl⟩
        obtain ⟨q, hq⟩ : ∃ q, q = okB l k := ⟨_, rfl⟩
        rw [← hs, ← hq] at hif
        rw [← hs, ← hq]
        have hex : q = false ∨ (q = true ∧ 1073741824 < s) := by
          cases q
          · exact .inl rfl
          · exact .inr ⟨rfl, by by_cases c : s ≤ 1073741824; exact absurd (hif.2 ⟨rfl, c⟩) HK.out; omega⟩
        clear hst hif hs hq
        rcases hex with rfl | ⟨rfl, hov⟩
        rotate_left
        have hov2 : decide (s ≤ 1073741824) = false := decide_eq_false (by omega)
        all_goals
          go_wp2_with (first
            | (go_at_call 19; refine (law_known _).mono ?_; rintro e w9 ⟨rfl, hb⟩; have H9 := Lib.hid (HS.out.trans (hb.mono HS.out.size)); clear hb)
            | fail)
          go_ret
          exact ⟨rfl, H9.out⟩
end Go.Proofs.Ytjmaeiphjjjdoaa
