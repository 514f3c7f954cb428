/-
  The law LedgerErrs, walked.
-/
import Derived.Test.YtjmaeiphjjjdoaaLdE
import Derived.Test.YtjmaeiphjjjdoaaLdGu
import Derived.StillTailTactics
import Derived.Deep.RegionHeld3
import Derived.WalkKit
namespace Go.Proofs.Ytjmaeiphjjjdoaa
open Go.RowKit Go.Maps Go.Shelf
set_option linter.unusedVariables false
set_option linter.unusedSimpArgs false
set_option linter.constructorNameAsVariable false

/-- The first k of ten numbers. -/
def fst10 (f : Nat → Int) (k : Nat) : List Value := (List.range 10).map fun i => Value.int .i64 (if i < k then f i else 0)
theorem fst10_at (f : Nat → Int) (k : Nat) {i : Nat} (h : i < 10) : (fst10 f k)[i]? = some (.int .i64 (if i < k then f i else 0)) := by simp [fst10, h]
theorem fst10_set (f : Nat → Int) {k : Nat} (h : k < 10) : (fst10 f k).set k (.int .i64 (f k)) = fst10 f (k + 1) := by
  refine List.ext_getElem? (fun i => ?_)
  by_cases hi : i < 10
  · rw [fst10_at f (k + 1) hi]
    by_cases e : i = k
    · subst e; rw [List.getElem?_set_self (by simp [fst10]; exact hi), if_pos (by omega)]
    · rw [List.getElem?_set_ne (by omega), fst10_at f k hi]
      by_cases c : i < k
      · rw [if_pos c, if_pos (by omega)]
      · rw [if_neg c, if_neg (by omega)]
  · rw [List.getElem?_eq_none (by simp [fst10]; omega), List.getElem?_eq_none (by simp [fst10]; omega)]
theorem fst10_zero (f : Nat → Int) : fst10 f 0 = [.int .i64 0, .int .i64 0, .int .i64 0, .int .i64 0, .int .i64 0, .int .i64 0, .int .i64 0, .int .i64 0, .int .i64 0, .int .i64 0] := rfl
/-- Two rows of ten numbers of the call's own, filled as far as j. -/
structure Rec (wc : World) (fb hb : Nat) (F H : Nat → Int) (j : Nat) (W : World) : Prop where
  old : Below wc.heap.size wc W
  fat : W.heap[fb]? = some (.cells (fst10 F j).toArray 54 (0, 0))
  hat : W.heap[hb]? = some (.cells (fst10 H j).toArray 54 (0, 0))
/-- Both rows are full. -/
def Ten (fb hb : Nat) (F H : Nat → Int) (W : World) : Prop := W.heap[fb]? = some (.cells (fst10 F 10).toArray 54 (0, 0)) ∧ W.heap[hb]? = some (.cells (fst10 H 10).toArray 54 (0, 0))
section
variable {wc W W' : World} {fb hb j g : Nat} {F H : Nat → Int}
theorem Rec.flt (h : Rec wc fb hb F H j W) : fb < W.heap.size := (Array.getElem?_eq_some_iff.1 h.fat).1
theorem Rec.hlt (h : Rec wc fb hb F H j W) : hb < W.heap.size := (Array.getElem?_eq_some_iff.1 h.hat).1
theorem Rec.drew (h : Rec wc fb hb F H j W) : Rec wc fb hb F H j W.drew := ⟨h.old.drew, h.fat, h.hat⟩
theorem Rec.fcell (h : Rec wc fb hb F H j W) {i : Nat} (hi : i < 10) : W.cell? ⟨fb, i, none⟩ = some (.int .i64 (if i < j then F i else 0)) ∧ W.frozen? ⟨fb, i, none⟩ = false := ⟨cell_of h.fat (fst10_at F j hi), by simp [World.frozen?, h.fat]⟩
theorem Rec.hcell (h : Rec wc fb hb F H j W) {i : Nat} (hi : i < 10) : W.cell? ⟨hb, i, none⟩ = some (.int .i64 (if i < j then H i else 0)) ∧ W.frozen? ⟨hb, i, none⟩ = false := ⟨cell_of h.hat (fst10_at H j hi), by simp [World.frozen?, h.hat]⟩
theorem Rec.setF (h : Rec wc fb hb F H j W) (hf : wc.heap.size ≤ fb) (hne : fb ≠ hb) (hj : j < 10) :
    (W.setCell ⟨fb, j, none⟩ (.int .i64 (F j))).heap[fb]? = some (.cells (fst10 F (j + 1)).toArray 54 (0, 0)) ∧ (W.setCell ⟨fb, j, none⟩ (.int .i64 (F j))).heap[hb]? = some (.cells (fst10 H j).toArray 54 (0, 0)) ∧ Below wc.heap.size wc (W.setCell ⟨fb, j, none⟩ (.int .i64 (F j))) := by
  refine ⟨by rw [setCell_at h.fat, fst10_set F hj], (Below.heap_setCell _ _ _ hb (by show hb ≠ fb; exact fun e => hne e.symm)).trans h.hat, h.old.trans (below_set hf)⟩
theorem Rec.set (h : Rec wc fb hb F H j W) (hf : wc.heap.size ≤ fb) (hh : wc.heap.size ≤ hb) (hne : fb ≠ hb) (hj : j < 10) :
    Rec wc fb hb F H (j + 1) ((W.setCell ⟨fb, j, none⟩ (.int .i64 (F j))).setCell ⟨hb, j, none⟩ (.int .i64 (H j))) := by
  obtain ⟨h1, h2, h3⟩ := h.setF hf hne hj
  exact ⟨h3.trans (below_set hh), (Below.heap_setCell _ _ _ fb (by show fb ≠ hb; exact hne)).trans h1, by rw [setCell_at h2, fst10_set H hj]⟩
theorem Ten.off {w2 : World} (h : Ten fb hb F H W) (ho : Off g W w2) (hf : fb ≠ g) (hh : hb ≠ g) : Ten fb hb F H w2 := ⟨(ho.at (Array.getElem?_eq_some_iff.1 h.1).1 hf).trans h.1, (ho.at (Array.getElem?_eq_some_iff.1 h.2).1 hh).trans h.2⟩
theorem Ten.fcell (h : Ten fb hb F H W) {i : Nat} (hi : i < 10) : W.cell? ⟨fb, i, none⟩ = some (.int .i64 (F i)) := by rw [cell_of h.1 (fst10_at F 10 hi), if_pos hi]
theorem Ten.hcell (h : Ten fb hb F H W) {i : Nat} (hi : i < 10) : W.cell? ⟨hb, i, none⟩ = some (.int .i64 (H i)) := by rw [cell_of h.2 (fst10_at H 10 hi), if_pos hi]
end
set_option maxRecDepth 100000 in
set_option maxHeartbeats 8000000 in
theorem ledgerErrs_walk (v : Value) (l : List Int) (u : Value) (acts : List A4) (kd : Int) (wkd : (Lit.int .i64 kd).wf = true) (xa : Int) (wxa : (Lit.int .i64 xa).wf = true) (xb : Int) (wxb : (Lit.int .i64 xb).wf = true) (xn : Int) (wxn : (Lit.int .i64 xn).wf = true) (w : World) (hr : RdI w v l) (hbd : ∀ n ∈ l, (Lit.int .i64 n).wf = true) (hm : l.length ≤ maxLen) (hra : RdS actR w u acts) (hma : acts.length ≤ maxLen ∧ ∀ x ∈ acts, ActWf x) :
    Calls Try.prog 6 #[v, u, .agg #[.int .i64 kd, .int .i64 xa, .int .i64 xb, .int .i64 xn]] w fun e w' => e = .returned (.bool true) ∧ Below w.heap.size w w' := by
  obtain ⟨ao, cap, rfl⟩ := hr.lenOf
  obtain ⟨K, hK⟩ : ∃ K, K = l.length := ⟨_, rfl⟩
  rw [← hK] at hr hm ⊢
  obtain ⟨ao2, cap2, rfl, hrd⟩ := hra
  obtain ⟨hmx, hwf⟩ := hma
  have hmx' : (acts.length : Int) ≤ 9223372036854775807 := Int.le_trans (Int.ofNat_le.2 hmx) (by decide +kernel)
  obtain ⟨L, hL⟩ : ∃ L, L = acts.length := ⟨_, rfl⟩
  have HRD := Lib.hid hrd
  have HL := Lib.hid hL
  have HWF := Lib.hid hwf
  have HR := Lib.hid (And.intro hr hK)
  have HWX := Lib.hid (And.intro wxa (And.intro wxb wxn))
  rw [← hL] at hmx' ⊢
  clear hrd hL hmx hwf hr hm hbd hK wkd wxa wxb wxn
  obtain ⟨w0, hw0⟩ : ∃ w0, w0 = w.alloc (.cells #[.int .i64 kd, .int .i64 xa, .int .i64 xb, .int .i64 xn] 33) := ⟨_, rfl⟩
  obtain ⟨nb, hnb⟩ : ∃ nb, nb = w.heap.size := ⟨_, rfl⟩
  have hb0 : Below w.heap.size w w0 := by rw [hw0]; exact (Below.refl _ w).alloc (Nat.le_refl _) _
  have hat0 : w0.heap[nb]? = some (.cells #[.int .i64 kd, .int .i64 xa, .int .i64 xb, .int .i64 xn] 33 (0, 0)) := by rw [hw0, hnb]; exact World.alloc_heap_new _ _
  have hlt0 : nb < w0.heap.size := by rw [hw0, hnb]; simp
  have HW0 := Lib.hid hw0
  have H0 := Lib.hid (And.intro hb0 (And.intro hat0 hlt0))
  have HN := Lib.hid hnb
  clear hw0 hb0 hat0 hlt0 hnb
  go_enter Try.func6, Try.ntmps6
  by_cases c0 : (10 : Int) < (K : Int)
  · go_wp2_with fail
    exact bodyPost_ret (v := .bool true) (by simp [results, Try.results6, go_sem]) rfl ⟨rfl, (Below.refl _ w).alloc (Nat.le_refl _) _⟩
  by_cases c1 : (10000 : Int) < (L : Int)
  · go_wp2_with fail
    exact bodyPost_ret (v := .bool true) (by simp [results, Try.results6, go_sem]) rfl ⟨rfl, (Below.refl _ w).alloc (Nat.le_refl _) _⟩
  have hK10 : K ≤ 10 := by omega
  go_upto_block 0 with (first
    | (go_at_call 20; rw [← HW0.out]; refine (law_begin _ l w0 (HR.out.1.below H0.out.1) (by rw [← HR.out.2]; exact hK10)).mono ?_; rintro e w1 ⟨g, gl, A, rfl, hl, hb⟩; have H1 := Lib.hid (And.intro hl hb); clear hl hb)
    | fail)
  rw [← HN.out]
  have hs0 : LdS w0.heap.size g gl 0 A [] w0 w1 := ⟨H1.out.1, H1.out.2, H1.out.2.size, Nat.le_refl _⟩
  have HS0 := Lib.hid hs0
  clear hs0 H1
  go_cut [] (fun wx => ∃ M : Cls Int, LdS w0.heap.size g gl 100 A M w0 wx)
  case first =>
    go_wp2_with fail
    go_loopw [8] (fun i wr => ∃ (k : Nat) (M : Cls Int), k ≤ L ∧ k ≤ 100 ∧ i = .int .i64 k ∧ LdS w0.heap.size g gl k A M w0 wr) (fun i _ => 100 - (intOf i).toNat)
    case atStart => exact ⟨0, [], by omega, by omega, rfl, HS0.out⟩
    case round =>
      obtain ⟨k, M, hkL, hk1, rfl, hst⟩ := hrel
      have HS := Lib.hid hst
      clear hst HS0
      by_cases hin : k < L ∧ k < 100
      · obtain ⟨hlt, hlt1⟩ := hin
        have hlt' : (k : Int) < L := by omega
        have hlt2 : (k : Int) < 100 := by omega
        obtain ⟨b, off, rfl, hrg, hbw⟩ := HRD.out k (by rw [← HL.out]; exact hlt)
        obtain ⟨x, hx⟩ : ∃ x, x = acts[k]'(by rw [← HL.out]; exact hlt) := ⟨_, rfl⟩
        rw [← hx] at hrg
        have hxw : ActWf x := by rw [hx]; exact HWF.out _ (List.getElem_mem _)
        have hrg2 : wr.rangeAt b (off + k * 4) (ac x) := rangeAt_block hrg ((HS.out.old.block b (by have := H0.out.1.size; omega)).trans (H0.out.1.block b hbw))
        obtain ⟨ya, yb, yc, yd⟩ := x
        obtain ⟨-, wya, wyb, -⟩ := hxw
        dsimp only at wya wyb
        have d1 : wr.cell? ⟨b, off + k * 4 + 1, none⟩ = some (.int .i64 yb) := hrg2 1 _ rfl
        have d2 : wr.cell? ⟨b, off + k * 4 + 2, none⟩ = some (.int .i64 yc) := hrg2 2 _ rfl
        have d3 : wr.cell? ⟨b, off + k * 4 + 3, none⟩ = some (.int .i64 yd) := hrg2 3 _ rfl
        have HWY := Lib.hid (And.intro wya wyb)
        have S2 := Lib.hid (HS.out.later (W' := wr.drew) (Below.refl _ wr).drew)
        clear hx hrg hbw hrg2 hlt hlt1 wya wyb
        go_upto_region 9 with fail
        go_still_tail 16, (by kernel_rfl)
        change wpList _ _ _ _ _ wr.drew
        go_wp2_with (first
          | (go_at_call 26; with_reducible refine (ledger_Lock S2.out.at_ S2.out.size (by have := S2.out.len; omega) HWY.out.1 HWY.out.2 yd).mono ?_; rintro e w3 ⟨rfl, hl, hb⟩; have S1 := Lib.hid (S2.out.next (j := k + 1) hl hb (Nat.le_trans (lockM_len S2.out.at_.srt yb yc yd) (by have := S2.out.len; omega))); clear hl hb)
          | fail)
        go_roundw
        case rel => exact ⟨k + 1, lockM M yb yc yd, by omega, by omega, by go_num, S1.out⟩
        case measure => simp [intOf]; omega
      · have hex : (¬ (k : Int) < L) ∨ ((k : Int) < L ∧ ¬ (k : Int) < 100) := by omega
        have hk100 : k ≤ 100 := hk1
        clear hin hkL hk1
        rcases hex with hq | ⟨hq1, hq2⟩
        all_goals go_wp2_with fail
        all_goals go_meet
        all_goals exact ⟨M, HS.out.next HS.out.at_ (Below.refl _ _) (by have := HS.out.len; omega)⟩
  case rest =>
    obtain ⟨M, hst⟩ := hcut
    have HS := Lib.hid hst
    clear hst HS0 HRD HWF HL
    go_upto_block 2 with fail
    go_cut [9, 10] (fun p q wx => ∃ fb hb, p = .pointer (some ⟨fb, 0, none⟩) ∧ q = .pointer (some ⟨hb, 0, none⟩) ∧ wc.heap.size ≤ fb ∧ wc.heap.size ≤ hb ∧ fb ≠ hb ∧ Rec wc fb hb (fun k => (A k).1) (fun k => (A k).2) 10 wx)
    case first =>
      go_wp2_with fail
      obtain ⟨w2, hw2⟩ : ∃ w2, w2 = (wc.alloc (.cells #[.int .i64 0, .int .i64 0, .int .i64 0, .int .i64 0, .int .i64 0, .int .i64 0, .int .i64 0, .int .i64 0, .int .i64 0, .int .i64 0] 54)).alloc (.cells #[.int .i64 0, .int .i64 0, .int .i64 0, .int .i64 0, .int .i64 0, .int .i64 0, .int .i64 0, .int .i64 0, .int .i64 0, .int .i64 0] 54) := ⟨_, rfl⟩
      obtain ⟨fb, hfb⟩ : ∃ fb, fb = wc.heap.size := ⟨_, rfl⟩
      obtain ⟨hb, hhb⟩ : ∃ hb, hb = fb + 1 := ⟨_, rfl⟩
      have hrec : Rec wc fb hb (fun k => (A k).1) (fun k => (A k).2) 0 w2 := by
        refine ⟨by rw [hw2]; exact ((Below.refl _ wc).alloc (Nat.le_refl _) _).alloc (by simp) _, ?_, ?_⟩
        · rw [hw2, hfb, Below.heap_alloc _ _ _ (by simp)]; exact World.alloc_heap_new _ _
        · rw [hw2, hhb, hfb, ← World.size_alloc wc]; exact World.alloc_heap_new _ _
      rw [← hw2, ← hfb]
      rw [← hhb]
      have HB := Lib.hid (show wc.heap.size ≤ fb ∧ wc.heap.size ≤ hb ∧ fb ≠ hb from ⟨by omega, by omega, by omega⟩)
      have HRE := Lib.hid hrec
      clear hw2 hfb hhb hrec
      go_loopw [11] (fun i wr => ∃ j : Nat, j ≤ 10 ∧ i = .int .i64 j ∧ Rec wc fb hb (fun k => (A k).1) (fun k => (A k).2) j wr) (fun i _ => 10 - (intOf i).toNat)
      case atStart => exact ⟨0, by omega, rfl, HRE.out⟩
      case round =>
        obtain ⟨j, hj, rfl, hre⟩ := hrel
        have HR2 := Lib.hid hre
        clear hre HRE
        by_cases hlt : j < 10
        · have hlt' : (j : Int) < 10 := by omega
          have ef := accOf_at A hlt
          have hla : LdAt w0.heap.size g gl A M wr.drew := HS.out.at_.below HR2.out.old.drew
          obtain ⟨f, hf⟩ : ∃ f, f = (A j).1 := ⟨_, rfl⟩
          obtain ⟨h, hh⟩ : ∃ h, h = (A j).2 := ⟨_, rfl⟩
          have c1 : Calls Try.prog 29 #[.pointer (some ⟨g, 0, none⟩), .int .i64 j] wr.drew fun e w' => e = .returned (.int .i64 f) ∧ w' = wr.drew := by
            rw [hf, ← ef]; exact ledger_Free hla j
          have c2 : Calls Try.prog 30 #[.pointer (some ⟨g, 0, none⟩), .int .i64 j] wr.drew fun e w' => e = .returned (.int .i64 h) ∧ w' = wr.drew := by
            rw [hh, ← ef]; exact ledger_Held hla j
          have f1 := (HR2.out.fcell hlt).2
          have f2 := (HR2.out.fcell hlt).1
          obtain ⟨h1, h2, -⟩ := HR2.out.setF HB.out.1 HB.out.2.2 hlt
          try dsimp only at h1 h2
          rw [← hf] at h1 h2
          have f4 : (wr.setCell ⟨fb, j, none⟩ (.int .i64 f)).cell? ⟨hb, j, none⟩ = some (.int .i64 (if j < j then (A j).2 else 0)) := cell_of h2 (fst10_at _ j hlt)
          have f3 : (wr.setCell ⟨fb, j, none⟩ (.int .i64 f)).frozen? ⟨hb, j, none⟩ = false := by simp only [World.frozen?, h2]; rfl
          rw [if_neg (Nat.lt_irrefl j)] at f2 f4
          have hend := HR2.out.set HB.out.1 HB.out.2.1 HB.out.2.2 hlt
          try dsimp only at hend
          rw [← hf, ← hh] at hend
          have HE := Lib.hid hend
          have C1 := Lib.hid c1
          have C2 := Lib.hid c2
          clear h1 h2 hend hla ef hf hh c1 c2
          go_upto_region 14 with fail
          go_region_held3 (fun w' => True) (exact trivial) (first
            | (go_at_call 29; with_reducible refine C1.out.mono ?_; rintro e w6 ⟨rfl, hw⟩; rw [hw]; clear hw w6)
            | (go_at_call 30; with_reducible refine C2.out.mono ?_; rintro e w6 ⟨rfl, hw⟩; rw [hw]; clear hw w6)
            | fail)
          all_goals go_wp2_with fail
          go_roundw
          case rel => exact ⟨j + 1, by omega, by go_num, HE.out.drew⟩
          case measure => simp [intOf]; omega
        · obtain rfl : j = 10 := by omega
          clear hlt hj
          go_wp2_with fail
          go_meet
          exact ⟨fb, hb, rfl, rfl, HB.out.1, HB.out.2.1, HB.out.2.2, HR2.out⟩
    case rest =>
      obtain ⟨fb, hb, rfl, rfl, hfb, hhb, hne, hre⟩ := hcut
      rename_i wd _
      have hlg := HS.out.at_.lt
      have hst := HS.out.later hre.old
      have hat := (hst.old.block nb H0.out.2.2).trans H0.out.2.1
      have HB := Lib.hid (show fb ≠ g ∧ hb ≠ g from ⟨by omega, by omega⟩)
      have HR2 := Lib.hid (And.intro hst (show Ten fb hb _ _ _ from ⟨hre.fat, hre.hat⟩))
      have q0 := cells4 hat 0
      have q1 := cells4 hat 1
      have q2 := cells4 hat 2
      have q3 := cells4 hat 3
      dsimp at q0 q1 q2 q3
      clear hfb hhb hne hre hlg hst hat HS
      go_upto_block 4 with fail
      go_cut [12] (fun q wx => ∃ (E : Int) (B : Acc), q = .int .i64 E ∧ (E ≠ 0 → B = A) ∧ LdS w0.heap.size g gl 100 B M w0 wx ∧ Ten fb hb (fun k => (A k).1) (fun k => (A k).2) wx)
      case first =>
        have hkj : kd = 1 ∨ kd = 2 ∨ kd = 6 ∨ kd = 7 ∨ (kd ≠ 1 ∧ kd ≠ 2 ∧ kd ≠ 6 ∧ kd ≠ 7) := by omega
        rcases hkj with rfl | rfl | rfl | rfl | ⟨h1, h2, h6, h7⟩
        · go_wp2_with (first
            | (go_at_call 22; with_reducible refine (ledger_TransferF HR2.out.1.at_ HR2.out.1.size HWX.out.1 xb xn).mono ?_; rintro e w3 ⟨rfl, hl, hb, ho⟩; have S1 := Lib.hid (And.intro (HR2.out.1.next (j := 100) hl hb HR2.out.1.len) (HR2.out.2.off ho HB.out.1 HB.out.2)); clear hl hb ho)
            | fail)
          go_meet
          exact ⟨transE A M xa xb xn, transA A M xa xb xn, rfl, fun h => by unfold transA; rw [if_neg h], S1.out⟩
        · go_wp2_with (first
            | (go_at_call 23; with_reducible refine (ledger_ReserveF HR2.out.1.at_ HR2.out.1.size HWX.out.1 xn).mono ?_; rintro e w3 ⟨rfl, hl, hb, ho⟩; have S1 := Lib.hid (And.intro (HR2.out.1.next (j := 100) hl hb HR2.out.1.len) (HR2.out.2.off ho HB.out.1 HB.out.2)); clear hl hb ho)
            | fail)
          go_meet
          exact ⟨spendE A M xa xn false, reserveA A M xa xn, rfl, fun h => by unfold reserveA; rw [if_neg h], S1.out⟩
        · go_wp2_with (first
            | (go_at_call 27; with_reducible refine (ledger_MintF HR2.out.1.at_ HR2.out.1.size xa xn).mono ?_; rintro e w3 ⟨rfl, hl, hb, ho⟩; have S1 := Lib.hid (And.intro (HR2.out.1.next (j := 100) hl hb HR2.out.1.len) (HR2.out.2.off ho HB.out.1 HB.out.2)); clear hl hb ho)
            | fail)
          go_meet
          exact ⟨mintE A xa xn, mintA A xa xn, rfl, fun h => by unfold mintA; rw [if_neg h], S1.out⟩
        · go_wp2_with (first
            | (go_at_call 28; with_reducible refine (ledger_BurnF HR2.out.1.at_ HR2.out.1.size HWX.out.1 xn).mono ?_; rintro e w3 ⟨rfl, hl, hb, ho⟩; have S1 := Lib.hid (And.intro (HR2.out.1.next (j := 100) hl hb HR2.out.1.len) (HR2.out.2.off ho HB.out.1 HB.out.2)); clear hl hb ho)
            | fail)
          go_meet
          exact ⟨spendE A M xa xn false, spent A M xa xn false, rfl, fun h => by unfold spent; rw [if_neg h], S1.out⟩
        · have e1 : (kd == 1) = false := by simp [h1]
          have e2 : (kd == 2) = false := by simp [h2]
          have e6 : (kd == 6) = false := by simp [h6]
          have e7 : (kd == 7) = false := by simp [h7]
          clear h1 h2 h6 h7
          go_wp2_with fail
          go_meet
          exact ⟨0, A, rfl, fun h => rfl, HR2.out⟩
      case rest =>
        obtain ⟨E, B, rfl, hEB, hst, hten⟩ := hcut
        have HT := Lib.hid (And.intro hst (And.intro hten hEB))
        clear hst hten hEB HR2 q0 q1 q2 q3
        go_upto_block 5 with fail
        go_cut [] (fun wx => Below w0.heap.size w0 wx ∧ w0.heap.size ≤ wx.heap.size)
        case first =>
          go_wp2_with fail
          go_loopw [13] (fun i wr => ∃ j : Nat, j ≤ 10 ∧ i = .int .i64 j ∧ LdS w0.heap.size g gl 100 B M w0 wr ∧ Ten fb hb (fun k => (A k).1) (fun k => (A k).2) wr) (fun i _ => 10 - (intOf i).toNat)
          case atStart => exact ⟨0, by omega, rfl, HT.out.1, HT.out.2.1⟩
          case round =>
            obtain ⟨j, hj, rfl, hst, hten⟩ := hrel
            have HY := Lib.hid (And.intro hst hten)
            clear hst hten
            by_cases hin : j < 10 ∧ E ≠ 0
            · obtain ⟨hlt, hE⟩ := hin
              have hlt' : (j : Int) < 10 := by omega
              have hE1 : (E == 0) = false := by simp [hE]
              have hE2 : (E != 0) = true := by simp [hE]
              obtain rfl : B = A := HT.out.2.2 hE
              have ef := accOf_at B hlt
              obtain ⟨f, hf⟩ : ∃ f, f = (B j).1 := ⟨_, rfl⟩
              obtain ⟨h, hh⟩ : ∃ h, h = (B j).2 := ⟨_, rfl⟩
              have cf := HY.out.2.fcell hlt
              have ch := HY.out.2.hcell hlt
              try dsimp only at cf ch
              rw [← hf] at cf
              rw [← hh] at ch
              have c1 : ∀ n, Calls Try.prog 29 #[.pointer (some ⟨g, 0, none⟩), .int .i64 j] (wr.drewN n) fun e w' => e = .returned (.int .i64 f) ∧ w' = wr.drewN n := fun n => by
                rw [hf, ← ef]; exact ledger_Free (w := wr.drewN n) (HY.out.1.at_.below (w' := wr.drewN n) ⟨rfl, rfl, rfl, Nat.le_refl _, fun _ _ => rfl⟩) j
              have c2 : ∀ n, Calls Try.prog 30 #[.pointer (some ⟨g, 0, none⟩), .int .i64 j] (wr.drewN n) fun e w' => e = .returned (.int .i64 h) ∧ w' = wr.drewN n := fun n => by
                rw [hh, ← ef]; exact ledger_Held (w := wr.drewN n) (HY.out.1.at_.below (w' := wr.drewN n) ⟨rfl, rfl, rfl, Nat.le_refl _, fun _ _ => rfl⟩) j
              have C1 := Lib.hid c1
              have C2 := Lib.hid c2
              clear c1 c2 ef hf hh hE hlt
              go_upto_region 28 with fail
              go_quiet (first
                | (go_at_call 29; exact Calls.quiet_of_same (C1.out _))
                | (go_at_call 30; exact Calls.quiet_of_same (C2.out _)))
              go_wp2_with fail
              go_roundw
              case rel => exact ⟨j + 1, by omega, by go_num, HY.out.1.later (W' := wr.drewN nq) ⟨rfl, rfl, rfl, Nat.le_refl _, fun _ _ => rfl⟩, HY.out.2⟩
              case measure => simp [intOf]; omega
            · have hex : (¬ (j : Int) < 10) ∨ ((j : Int) < 10 ∧ E = 0) := by omega
              clear hin
              rcases hex with h1 | ⟨h1, rfl⟩
              all_goals go_wp2_with fail
              all_goals go_meet
              all_goals exact ⟨HY.out.1.old, HY.out.1.size⟩
        case rest =>
          obtain ⟨hbl, hsz⟩ := hcut
          have HE := Lib.hid (And.intro hbl hsz)
          clear hbl hsz HT
          go_wp2_with (first
            | (go_at_call 19; refine (law_known _).mono ?_; rintro e w9 ⟨rfl, hb9⟩; have H9 := Lib.hid (H0.out.1.trans ((HE.out.1.trans (hb9.mono HE.out.2)).mono H0.out.1.size)); clear hb9)
            | fail)
          go_ret
          exact ⟨rfl, H9.out⟩
end Go.Proofs.Ytjmaeiphjjjdoaa
