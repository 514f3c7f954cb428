/-
  Ledgers: New.
-/
import Derived.Test.YtfgkaookgfghoaaGreatLd7
import Derived.Test.YtfgkaookgfghoaaGreatOpI
namespace Go.Proofs.YtfgkaookgfghoaaGreat
open Go.RowKit Go.Maps Go.Shelf
set_option linter.unusedVariables false
set_option linter.unusedSimpArgs false

/-- The accounts of some balances. -/
def accL (l : List Int) : Acc := fun k => (l.getD k 0, 0)
def newOk (l : List Int) : Prop := l.length ≤ 10 ∧ (∀ k, k < l.length → isBal (l.getD k 0)) ∧ sumTo (accL l) 10 ≤ 1073741824
theorem accL_nil : accL [] = acc0 := by funext k; simp [accL, acc0]
theorem take_getD {l : List Int} {k j : Nat} : (l.take k).getD j 0 = if j < k then l.getD j 0 else 0 := by
  by_cases h : j < k
  · rw [if_pos h, List.getD_eq_getElem?_getD, List.getD_eq_getElem?_getD, List.getElem?_take_of_lt h]
  · rw [if_neg h, List.getD_eq_getElem?_getD, List.getElem?_eq_none (by simp; omega)]; rfl
theorem accL_step (l : List Int) (k : Nat) : upd (accL (l.take k)) k (l.getD k 0, (accL (l.take k) k).2) = accL (l.take (k + 1)) := by
  funext j
  by_cases e : j = k
  · subst e
    rw [upd_same]
    show (l.getD j 0, (0 : Int)) = ((l.take (j + 1)).getD j 0, 0)
    rw [take_getD, if_pos (by omega)]
  · rw [upd_other _ _ e]
    show ((l.take k).getD j 0, (0 : Int)) = ((l.take (k + 1)).getD j 0, 0)
    rw [take_getD, take_getD]
    by_cases h : j < k
    · rw [if_pos h, if_pos (by omega)]
    · rw [if_neg h, if_neg (by omega)]
theorem sum_accL_step (l : List Int) {k : Nat} (hk : k < 10) : sumTo (accL (l.take (k + 1))) 10 = sumTo (accL (l.take k)) 10 + l.getD k 0 := by
  rw [← accL_step, sumTo_upd, if_pos hk]
  have : both (accL (l.take k)) k = 0 := by unfold both accL; rw [take_getD, if_neg (by omega)]; rfl
  rw [this]
  show sumTo (accL (l.take k)) 10 + (l.getD k 0 + 0 - 0) = _
  omega
theorem accL_ok {l : List Int} (h : ∀ k, k < l.length → isBal (l.getD k 0)) (hs : sumTo (accL l) 10 ≤ 1073741824) : AccOk (accL l) := by
  refine ⟨fun k => ?_, fun k => by simp [accL], hs⟩
  unfold accL
  by_cases c : k < l.length
  · exact (h k c).1
  · rw [List.getD_eq_getElem?_getD, List.getElem?_eq_none (by omega)]; simp
theorem sum_accL_mono {l : List Int} (h : ∀ k, k < l.length → isBal (l.getD k 0)) (k : Nat) : sumTo (accL (l.take k)) 10 ≤ sumTo (accL l) 10 := by
  have key : ∀ n, sumTo (accL (l.take k)) n ≤ sumTo (accL l) n := by
    intro n
    induction n with
    | zero => exact Int.le_refl _
    | succ n ih =>
      rw [sumTo, sumTo]
      have : both (accL (l.take k)) n ≤ both (accL l) n := by
        unfold both accL
        rw [take_getD]
        by_cases c : n < l.length
        · have := (h n c).1; split <;> simp only <;> omega
        · have e : l.getD n 0 = 0 := by rw [List.getD_eq_getElem?_getD, List.getElem?_eq_none (by omega)]; rfl
          rw [e]; split <;> simp
      omega
  exact key 10
theorem newOk_nil : newOk [] := ⟨by simp, fun k hk => absurd hk (Nat.not_lt_zero k), by rw [accL_nil]; decide⟩
theorem LdAt.start {N g gl : Nat} {w1 w2 : World} (ho : GrOwn codI 146 N gl [] w1) (hN : N ≤ w1.heap.size) (hg : g = w1.heap.size) (hw : w2 = w1.alloc (.cells (lcells acc0 gl).toArray 86)) : LdAt N g gl acc0 [] w2 ∧ Below N w1 w2 := by
  obtain ⟨F, h1, h2⟩ := ho
  have hB : Below w1.heap.size w1 w2 := by rw [hw]; exact (Below.refl _ w1).alloc (Nat.le_refl _) _
  refine ⟨⟨by rw [hw, hg]; exact World.alloc_heap_new _ _, ⟨F, h1.keep (Grow.of_below hB) (fun k hk => hB.block k (h1.2.2.1 k hk)), fun k hk => ⟨h2 k hk, fun e => by have := h1.2.2.1 k hk; omega⟩⟩, by omega, AccOk.zero, by simp⟩, hB.mono hN⟩
set_option maxRecDepth 100000 in
set_option maxHeartbeats 4000000 in
theorem ledger_New (v : Value) (l : List Int) (w : World) (hr : RdI w v l) (hm : l.length ≤ maxLen) : Calls Tryz.prog 10 #[v] w fun e w' => Below w.heap.size w w' ∧ ((newOk l ∧ ∃ g, e = .returned (.tuple #[.pointer (some ⟨g, 0, none⟩), .int .i64 0]) ∧ ∃ gl, LdAt w.heap.size g gl (accL l) [] w') ∨ (¬ newOk l ∧ e = .returned (.tuple #[.pointer none, .int .i64 1]))) := by
  obtain ⟨ao, cap, rfl⟩ := hr.lenOf
  obtain ⟨L, hL⟩ : ∃ L, L = l.length := ⟨_, rfl⟩
  rw [← hL] at hr hm ⊢
  have HR := Lib.hid (And.intro hr hL)
  clear hr hm hL
  go_enter Tryz.func10, Tryz.ntmps10
  by_cases c0 : (10 : Int) < (L : Int)
  · go_wp2_with fail
    exact bodyPost_ret (v := .tuple #[.pointer none, .int .i64 1]) (by simp [results, Tryz.results10, go_sem]) rfl ⟨Below.refl _ _, .inr ⟨fun h => by have := h.1; have := HR.out.2; omega, rfl⟩⟩
  have hL10 : L ≤ 10 := by omega
  go_wp2_with (first
    | (go_at_call 24; refine (grid_New_own_I w).mono ?_; rintro e w1 ⟨gl, rfl, ho1, hb1⟩; have H1 := Lib.hid (And.intro ho1 hb1); clear ho1 hb1)
    | fail)
  obtain ⟨w2, hw2⟩ : ∃ w2, w2 = w1.alloc (.cells #[.int .i64 0, .int .i64 0, .int .i64 0, .int .i64 0, .int .i64 0, .int .i64 0, .int .i64 0, .int .i64 0, .int .i64 0, .int .i64 0, .int .i64 0, .int .i64 0, .int .i64 0, .int .i64 0, .int .i64 0, .int .i64 0, .int .i64 0, .int .i64 0, .int .i64 0, .int .i64 0, .pointer (some ⟨gl, 0, none⟩)] 86) := ⟨_, rfl⟩
  obtain ⟨g, hg⟩ : ∃ g, g = w1.heap.size := ⟨_, rfl⟩
  obtain ⟨hl0, hb0⟩ := LdAt.start H1.out.1 H1.out.2.size hg (hw2.trans rfl)
  rw [← hw2, ← hg]
  have H2 := Lib.hid (And.intro hl0 (H1.out.2.trans hb0))
  clear hw2 hg hl0 hb0 H1
  go_loopw [15] (fun i wr => ∃ k : Nat, k ≤ L ∧ i = .int .i64 k ∧ (∀ j, j < k → isBal (l.getD j 0)) ∧ LdAt w.heap.size g gl (accL (l.take k)) [] wr ∧ Below w.heap.size w wr) (fun i _ => L - (intOf i).toNat)
  case atStart => exact ⟨0, by omega, rfl, fun j hj => by omega, by rw [List.take_zero, accL_nil]; exact H2.out.1, H2.out.2⟩
  case round =>
    obtain ⟨k, hk, rfl, hbs, hld, hbl⟩ := hrel
    have HS := Lib.hid (And.intro hbs (And.intro hld hbl))
    by_cases hlt : k < L
    · have hlt' : (k : Int) < L := by omega
      have hk10 : (k : Int) < 10 := by omega
      obtain ⟨a, rfl, ca⟩ := (HR.out.1.below hbl).at (show k < l.length by rw [← HR.out.2]; exact hlt)
      obtain ⟨n, hn⟩ : ∃ n, n = l.getD k 0 := ⟨_, rfl⟩
      rw [← hn] at ca
      obtain ⟨s, hs⟩ : ∃ s, s = sumTo (accL (l.take k)) 10 := ⟨_, rfl⟩
      have hs0 : 0 ≤ s ∧ s ≤ 1073741824 := by rw [hs]; exact hld.ok.part (Nat.le_refl _)
      have hiss := ledger_Issued hld
      rw [← hs] at hiss
      have HI := Lib.hid hiss
      have hs1 : sumTo (accL (l.take (k + 1))) 10 = s + n := by rw [hs, hn]; exact sum_accL_step l (by omega)
      have HN := Lib.hid (And.intro hn hs1)
      clear hiss hs hn hs1 hbs hld hbl
      by_cases hbal : isBal n
      · have hbal' := hbal
        unfold isBal at hbal'
        have hd : decide (0 ≤ n ∧ n ≤ 1073741824) = true := decide_eq_true hbal'
        obtain ⟨sn, hsn⟩ : ∃ sn, sn = s + n := ⟨_, rfl⟩
        have hn2 : IntKind.i64.wrap (s + n) = sn := by rw [hsn]; exact IntWalk.i64_in _ (by omega)
        by_cases hov : 1073741824 < sn
        · have hd2 : decide (0 ≤ sn ∧ sn ≤ 1073741824) = false := decide_eq_false (by omega)
          have hbad : ¬ newOk l := fun h => by have h1 := sum_accL_mono h.2.1 (k + 1); have h2 := HN.out.2; have h3 := h.2.2; omega
          have HD := Lib.hid (And.intro hd (And.intro hd2 hbad))
          clear hbal hbal' hd hsn hd2 hov hbad hs0
          have tok : True := trivial
          go_wp2_with (first
            | (go_at_call 25; have _t := tok; refine (bound_Balance n _).mono ?_; rw [HD.out.1]; rintro e w' ⟨rfl, hw⟩; rw [hw]; clear hw w' tok)
            | (go_at_call 26; refine HI.out.mono ?_; rintro e w3 ⟨rfl, hb⟩; have H3 := Lib.hid hb; clear hb)
            | (go_at_call 25; refine (bound_Balance sn _).mono ?_; rw [HD.out.2.1]; rintro e w' ⟨rfl, hw⟩; rw [hw]; clear hw w')
            | fail)
          exact bodyPost_ret (v := .tuple #[.pointer none, .int .i64 1]) (by simp [results, Tryz.results10, go_sem]) rfl ⟨HS.out.2.2.trans (H3.out.mono HS.out.2.2.size), .inr ⟨HD.out.2.2, rfl⟩⟩
        · have hd2 : decide (0 ≤ sn ∧ sn ≤ 1073741824) = true := decide_eq_true (by omega)
          have hok2 : AccOk (upd (accL (l.take k)) k (n, (accL (l.take k) k).2)) := by
            have hld := HS.out.2.1
            have h1 := HN.out.2
            rw [HN.out.1, ← accL_step] at h1
            rw [HN.out.1] at hsn hbal'
            rw [HN.out.1]
            refine ⟨fun j => ?_, fun j => ?_, by omega⟩
            · by_cases e : j = k
              · subst e; rw [upd_same]; exact hbal'.1
              · rw [upd_other _ _ e]; exact hld.ok.free j
            · by_cases e : j = k
              · subst e; rw [upd_same]; exact hld.ok.held j
              · rw [upd_other _ _ e]; exact hld.ok.held j
          have hpay : ∀ w1, LdAt w.heap.size g gl (accL (l.take k)) [] w1 → LdAt w.heap.size g gl (accL (l.take (k + 1))) [] (w1.setCell ⟨g, k * 2, none⟩ (.int .i64 n)) ∧ Below w.heap.size w1 (w1.setCell ⟨g, k * 2, none⟩ (.int .i64 n)) := fun w1 h1 => by
            have := h1.setFree (a := k) (by omega) n hok2
            refine ⟨?_, this.2⟩
            rw [← accL_step, ← HN.out.1]; exact this.1
          have HD := Lib.hid (And.intro hd (And.intro hd2 hbal))
          have HP := Lib.hid hpay
          clear hbal hbal' hd hsn hd2 hov hs0 hok2 hpay
          have tok : True := trivial
          go_wp2_with (first
            | (go_at_call 25; have _t := tok; refine (bound_Balance n _).mono ?_; rw [HD.out.1]; rintro e w' ⟨rfl, hw⟩; rw [hw]; clear hw w' tok)
            | (go_at_call 26; refine HI.out.mono ?_; rintro e w3 ⟨rfl, hb⟩; have h3 := HS.out.2.1.below hb; have hf3 := h3.frozen (k * 2); have hc3 := h3.free (k := k) (by omega); have H3 := Lib.hid (And.intro h3 (hb.mono HS.out.2.2.size)); clear hb h3)
            | (go_at_call 25; refine (bound_Balance sn _).mono ?_; rw [HD.out.2.1]; rintro e w' ⟨rfl, hw⟩; rw [hw]; clear hw w')
            | fail)
          go_roundw
          case rel =>
            refine ⟨k + 1, by omega, by go_num, fun j hj => ?_, (HP.out _ H3.out.1).1, HS.out.2.2.trans (H3.out.2.trans (HP.out _ H3.out.1).2)⟩
            by_cases e : j = k
            · subst e; rw [← HN.out.1]; exact HD.out.2.2
            · exact HS.out.1 j (by omega)
          case measure => simp [intOf]; omega
      · have hd : decide (0 ≤ n ∧ n ≤ 1073741824) = false := by unfold isBal at hbal; exact decide_eq_false hbal
        have hbad : ¬ newOk l := fun h => hbal (by rw [HN.out.1]; exact h.2.1 k (by rw [← HR.out.2]; exact hlt))
        have HD := Lib.hid (And.intro hd hbad)
        clear hbal hd hbad hs0
        go_wp2_with (first
          | (go_at_call 25; refine (bound_Balance n _).mono ?_; rw [HD.out.1]; rintro e w' ⟨rfl, hw⟩; rw [hw]; clear hw w')
          | fail)
        exact bodyPost_ret (v := .tuple #[.pointer none, .int .i64 1]) (by simp [results, Tryz.results10, go_sem]) rfl ⟨HS.out.2.2, .inr ⟨HD.out.2, rfl⟩⟩
    · have hge : ¬ (k : Int) < L := by omega
      have hkl : l.take k = l := List.take_of_length_le (by have := HR.out.2; omega)
      have hfin : newOk l ∧ LdAt w.heap.size g gl (accL l) [] wr := by
        rw [hkl] at hld
        exact ⟨⟨by have := HR.out.2; omega, fun j hj => hbs j (by have := HR.out.2; omega), hld.ok.all⟩, hld⟩
      have HF := Lib.hid hfin
      clear hfin hkl hbs hld hbl
      go_wp2_with fail
      exact bodyPost_ret (v := .tuple #[.pointer (some ⟨g, 0, none⟩), .int .i64 0]) (by simp [results, Tryz.results10, go_sem]) rfl ⟨HS.out.2.2, .inl ⟨HF.out.1, g, rfl, gl, HF.out.2⟩⟩
end Go.Proofs.YtfgkaookgfghoaaGreat
