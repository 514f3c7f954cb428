/-
  The law GridSwaps, walked.
-/
import Derived.Test.YtlfngdfbimcjhaaAct
import Derived.BigQuiet
import Derived.Deep.RegionHeld3
import Derived.Deep.QuietTactic
namespace Go.Proofs.Ytlfngdfbimcjhaa
open Go.RowKit Go.Maps Go.Shelf
set_option linter.unusedVariables false
set_option linter.unusedSimpArgs false
set_option linter.constructorNameAsVariable false

/-- Both tables in k acts. -/
structure Sw (M M' : Cls Int) (k : Nat) : Prop where
  s : SrtC M
  s' : SrtC M'
  m : Mir M M'
  l : M.length ≤ k
theorem Sw.step {M M' : Cls Int} {k : Nat} (h : Sw M M' k) (x : A4) : Sw (stepM M x) (stepT M' x) (k + 1) :=
  ⟨stepM_srt h.s x, stepT_srt h.s' x, h.m.step x, Nat.le_trans (stepM_len h.s x) (by have := h.l; omega)⟩
theorem Sw.len {M M' : Cls Int} {k : Nat} (h : Sw M M' k) : M'.length = M.length := (h.m.length h.s h.s').symm
theorem Sw.row {M M' : Cls Int} {k : Nat} (h : Sw M M' k) (a : Int) : colOf M' a = rowOf M a := (h.m.row h.s h.s' a).symm

theorem wp_meetF {P : Program} {c : Code} {K : Act → World → Prop} {Q : Exit → Act → World → Prop} {a fr : Act} {w : World} {S : World → Prop} (h : c.wp P (Exit.then (fun a w => a = fr ∧ S w) (fun _ _ _ => False)) a w) (hK : ∀ w, S w → K fr w) : c.wp P (Exit.then K Q) a w :=
  (wpIn_wide (n := 0)).1 (region_meet h (fun a w ⟨e, hs⟩ => by rw [e]; exact hK w hs))
theorem OwnN.lenAt {B n : Nat} {v : Value} {l : List Int} {w : World} (h : OwnN B v l w) (hn : n = l.length) : ∃ ao cap, v = .slice ao n cap := by rw [hn]; exact h.lenOf
theorem OwnN.atn {B n cap : Nat} {ao : Option Addr} {l : List Int} {w : World} (h : OwnN B (.slice ao n cap) l w) (hn : n = l.length) {k : Nat} (hk : k < n) : ∃ b, ao = some ⟨b, 0, none⟩ ∧ w.cell? ⟨b, k, none⟩ = some (.int .i64 (l.getD k 0)) := by
  obtain ⟨b, c, e, hc, _, _⟩ := h.at (k := k) (by omega)
  injection e with e1 e2 e3
  exact ⟨b, e1, by rw [hc, List.getD_eq_getElem?_getD, List.getElem?_eq_getElem (by omega)]; rfl⟩

set_option maxRecDepth 100000 in
set_option maxHeartbeats 4000000 in
theorem gridSwaps_walk (v : Value) (l : List A4) (at_ : Int) (wa : (Lit.int .i64 at_).wf = true) (w : World) (hr : RdS actR w v l) (hm : l.length ≤ maxLen ∧ ∀ x ∈ l, ActWf x) :
    Calls Try.prog 8 #[v, .int .i64 at_] w fun e w' => e = .returned (.bool true) ∧ Below w.heap.size w w' := by
  obtain ⟨ao, cap, rfl, hrd⟩ := hr
  obtain ⟨hmx, hwf⟩ := hm
  have hmx' : (l.length : Int) ≤ 9223372036854775807 := Int.le_trans (Int.ofNat_le.2 hmx) (by decide +kernel)
  obtain ⟨L, hL⟩ : ∃ L, L = l.length := ⟨_, rfl⟩
  have HRD := Lib.hid hrd
  have HL := Lib.hid hL
  have HWF := Lib.hid hwf
  have HWA := Lib.hid wa
  rw [← hL] at hmx' ⊢
  clear hrd hL hmx hwf wa
  go_enter Try.func8, Try.ntmps8
  have tok1 : True := trivial
  by_cases c0 : (10000 : Int) < (L : Int)
  · go_wp2_with fail
    exact bodyPost_ret (v := .bool true) (by simp [results, Try.results8, go_sem]) rfl ⟨rfl, Below.refl _ _⟩
  go_wp2_with (first
    | (go_at_call 10; have _t := tok1; refine (grid_New_own_I w).mono ?_; rintro e w1 ⟨g, rfl, ho1, hb1⟩; have H1 := Lib.hid (And.intro ho1 hb1); clear ho1 hb1 tok1)
    | (go_at_call 10; refine (grid_New_own_I _).mono ?_; rintro e w2 ⟨h, rfl, ho2, hb2⟩; have H2 := Lib.hid (And.intro ho2 hb2); clear ho2 hb2)
    | fail)
  have hg2 : Gr2 w.heap.size (fun _ => False) g h [] [] w2 := Gr2.mk2 H1.out.1 H2.out.1 H2.out.2 H1.out.2.size (Nat.le_refl _)
  have hbl2 : Below w.heap.size w w2 := H1.out.2.trans (H2.out.2.mono H1.out.2.size)
  have H3 := Lib.hid (And.intro hg2 hbl2)
  clear hg2 hbl2 H1 H2
  go_loopw [7] (fun i wr => ∃ (k : Nat) (M M' : Cls Int), k ≤ L ∧ k ≤ 100 ∧ i = .int .i64 k ∧ Sw M M' k ∧ Gr2 w.heap.size (fun _ => False) g h M M' wr ∧ Below w.heap.size w wr) (fun i _ => 100 - (intOf i).toNat)
  case atStart => exact ⟨0, [], [], by omega, by omega, rfl, ⟨List.Pairwise.nil, List.Pairwise.nil, fun a b v => by simp, Nat.zero_le _⟩, H3.out⟩
  case round =>
    obtain ⟨k, M, M', hkL, hk1, rfl, hsw, hgr, hbl⟩ := hrel
    have HSW := Lib.hid hsw
    have HGR := Lib.hid (And.intro hgr hbl)
    clear hsw hgr hbl H3
    by_cases hin : k < L ∧ k < 100
    · obtain ⟨hlt, hlt1⟩ := hin
      have hlt' : (k : Int) < L := by omega
      have hlt2 : (k : Int) < 100 := by omega
      obtain ⟨b, off, rfl, hrg, hbw⟩ := HRD.out k (by rw [← HL.out]; exact hlt)
      obtain ⟨x, hx⟩ : ∃ x, x = l[k]'(by rw [← HL.out]; exact hlt) := ⟨_, rfl⟩
      rw [← hx] at hrg
      have hxw : ActWf x := by rw [hx]; exact HWF.out _ (List.getElem_mem _)
      have hrg2 : wr.rangeAt b (off + k * 4) (ac x) := rangeAt_block hrg (HGR.out.2.block b hbw)
      obtain ⟨kd, xa, xb, xv⟩ := x
      have HX := Lib.hid (And.intro hxw hrg2)
      clear hx hrg hbw hrg2 hxw hlt hlt1
      obtain ⟨nb, hnb⟩ : ∃ nb, nb = wr.heap.size := ⟨_, rfl⟩
      have wxa : (Lit.int .i64 xa).wf = true := HX.out.1.2.1
      have wxb : (Lit.int .i64 xb).wf = true := HX.out.1.2.2.1
      have hl1 : M.length ≤ 1000000 := by have := HSW.out.l; omega
      have hl2 : M'.length ≤ 1000000 := by have := HSW.out.len; omega
      have HWX := Lib.hid (And.intro wxa wxb)
      have HLL := Lib.hid (And.intro hl1 hl2)
      clear wxa wxb hl1 hl2
      by_cases k2 : kd = 2
      · subst k2
        go_upto_region 11 with (first
          | (refine wpl_loadR (r := actR) _ rfl rfl rfl HX.out.2 ?_; dsimp only [actR, ac])
          | fail)
        obtain ⟨W, hW⟩ : ∃ W, W = wr.alloc (.cells #[.int .i64 2, .int .i64 xa, .int .i64 xb, .int .i64 xv] 31) := ⟨_, rfl⟩
        have hS0 := Sw2.start HGR.out.1 HGR.out.2 hnb hW
        rw [← hW]
        rw [← hnb]
        clear hW hnb
        have S0 := Lib.hid hS0.drew
        clear hS0
        obtain ⟨d, hd⟩ : ∃ d, d = (cget M xa xb).isSome := ⟨_, rfl⟩
        have hd' : d = (cget M' xb xa).isSome := by rw [hd, HSW.out.m.get HSW.out.s HSW.out.s']
        have HDD := Lib.hid (And.intro hd hd')
        clear hd hd'
        apply wp_meetF (S := fun wc => Gr2 w.heap.size (fun _ => False) g h (cdel M xa xb) (cdel M' xb xa) wc ∧ Below w.heap.size w wc)
        case h =>
          have tokd : True := trivial
          go_region_held3 (fun w' => w'.cell? ⟨nb, 1, none⟩ = some (.int .i64 xa) ∧ w'.cell? ⟨nb, 2, none⟩ = some (.int .i64 xb)) (first | exact ⟨cells4 S0.out.at_ 1, cells4 S0.out.at_ 2⟩ | exact ⟨cells4 S1.out.at_ 1, cells4 S1.out.at_ 2⟩ | exact ⟨cells4 S2.out.at_ 1, cells4 S2.out.at_ 2⟩) (first
            | (go_at_call 27; have _t := tokd; with_reducible refine (S0.out.del HLL.out.1 HWX.out.1 HWX.out.2 HDD.out.1).mono ?_; rintro e wx1 ⟨rfl, hs1⟩; have S1 := Lib.hid hs1; clear hs1 tokd)
            | (go_at_call 27; with_reducible refine (S1.out.flip.del HLL.out.2 HWX.out.2 HWX.out.1 HDD.out.2).mono ?_; rintro e wx2 ⟨rfl, hs2⟩; have S2 := Lib.hid hs2.flip; clear hs2)
            | fail)
          all_goals exact ⟨rfl, S2.out.gr.forget, S2.out.old⟩
        case hK =>
          rintro wc ⟨hgc, hbc⟩
          have HC := Lib.hid (And.intro hgc hbc)
          clear hgc hbc S0 HGR
          go_wp2_with fail
          go_roundw
          case rel => exact ⟨k + 1, cdel M xa xb, cdel M' xb xa, by omega, by omega, by go_num, HSW.out.step (2, xa, xb, xv), HC.out⟩
          case measure => simp [intOf]; omega
      · have k2' : (kd == 2) = false := by simp [k2]
        have hst : stepM M (kd, xa, xb, xv) = cput M xa xb xv := if_neg k2
        have hst' : stepT M' (kd, xa, xb, xv) = cput M' xb xa xv := if_neg k2
        have hsw2 := HSW.out.step (kd, xa, xb, xv)
        rw [hst, hst'] at hsw2
        have HSW2 := Lib.hid hsw2
        clear hst hst' hsw2
        have S0 := Lib.hid (Sw2.start (T := 31) (C := #[.int .i64 kd, .int .i64 xa, .int .i64 xb, .int .i64 xv]) HGR.out.1 HGR.out.2 hnb rfl)
        have tokd : True := trivial
        subst hnb
        go_wp2_with (first
          | (refine wpl_loadR (r := actR) _ rfl rfl rfl HX.out.2 ?_; dsimp only [actR, ac])
          | (go_at_call 22; have _t := tokd; with_reducible refine (S0.out.set HLL.out.1 HWX.out.1 HWX.out.2).mono ?_; rintro e wx1 ⟨rfl, hs1⟩; have S1 := Lib.hid hs1; have q1 := cells4 hs1.at_ 1; have q2 := cells4 hs1.at_ 2; have q3 := cells4 hs1.at_ 3; dsimp at q1 q2 q3; clear hs1 tokd)
          | (go_at_call 22; with_reducible refine (S1.out.flip.set HLL.out.2 HWX.out.2 HWX.out.1).mono ?_; rintro e wx2 ⟨rfl, hs2⟩; have S2 := Lib.hid hs2.flip; clear hs2)
          | fail)
        go_roundw
        case rel => exact ⟨k + 1, cput M xa xb xv, cput M' xb xa xv, by omega, by omega, by go_num, HSW2.out, S2.out.gr.forget, S2.out.old⟩
        case measure => simp [intOf]; omega
    · have hlM : M.length ≤ 1000 := by have := HSW.out.l; omega
      obtain ⟨xs, hxs⟩ : ∃ xs, xs = rowOf M at_ := ⟨_, rfl⟩
      have hxs' : xs = colOf M' at_ := by rw [hxs, HSW.out.row]
      have hxl : xs.length ≤ 1000 := by have := row_length M at_; rw [hxs]; omega
      obtain ⟨n, hn⟩ : ∃ n, n = xs.length := ⟨_, rfl⟩
      have hn1 : n = (xs.map (·.1)).length := by rw [List.length_map, hn]
      have hn2 : n = (xs.map (·.2)).length := by rw [List.length_map, hn]
      obtain ⟨ml, hml⟩ : ∃ ml, ml = M.length := ⟨_, rfl⟩
      have hml' : ml = M'.length := by rw [hml, HSW.out.len]
      obtain ⟨F, hF, hF2⟩ := HGR.out.1.one
      obtain ⟨F', hF', hF2'⟩ := HGR.out.1.flip.one
      have HXS := Lib.hid (And.intro hxs (And.intro hxs' hxl))
      have HNN := Lib.hid (And.intro hn1 hn2)
      have HML := Lib.hid (And.intro hml (And.intro hml' hlM))
      have HF := Lib.hid (And.intro hF hF')
      have HB := Lib.hid HGR.out.2
      have hnb : (n : Int) ≤ 1000 := by omega
      have hmb : (ml : Int) ≤ 1000 := by omega
      clear hxs hxs' hxl hn1 hn2 hml hml' hlM hF hF' hF2 hF2' HGR HSW hn
      have hex : (¬ (k : Int) < L) ∨ ((k : Int) < L ∧ ¬ (k : Int) < 100) := by omega
      clear hin hkL hk1
      rcases hex with hq | ⟨hq1, hq2⟩
      all_goals have tokd : True := trivial
      all_goals go_wp2_with (first
        | (go_at_call 18; refine (grid_Row_I HF.out.1 (by have := HML.out; omega) HWA.out).mono ?_; rw [← HXS.out.1]; rintro e w3 ⟨f, rfl, hway, hb⟩; have hway' := hway; obtain ⟨gf, lb, rfl, -⟩ := hway'; have H3 := Lib.hid (And.intro hway hb); clear hway hb)
        | (go_at_call 17; have _t := tokd; refine (told_way H3.out.1 HXS.out.2.2).mono ?_; rintro e w4 ⟨u, v, rfl, hu, hv, hb⟩; obtain ⟨ab1, ac1, rfl⟩ := hu.lenAt HNN.out.1; obtain ⟨ab2, ac2, rfl⟩ := hv.lenAt HNN.out.2; have H4 := Lib.hid (And.intro (H3.out.2.trans (hb.mono H3.out.2.size)) (And.intro hu hv)); clear hu hv hb tokd)
        | (go_at_call 19; refine (grid_Column_I (HF.out.2.keep (Grow.of_below H4.out.1) (fun k hk => H4.out.1.block k (HF.out.2.2.2.1 k hk))) (by have := HML.out; omega) HWA.out).mono ?_; rw [← HXS.out.2.1]; rintro e w5 ⟨f, rfl, hway, hb⟩; have hway' := hway; obtain ⟨gf', lb', rfl, -⟩ := hway'; have H5 := Lib.hid (And.intro hway hb); clear hway hb)
        | (go_at_call 17; refine (told_way H5.out.1 HXS.out.2.2).mono ?_; rintro e w6 ⟨u, v, rfl, hu, hv, hb⟩; obtain ⟨ab3, ac3, rfl⟩ := hu.lenAt HNN.out.1; obtain ⟨ab4, ac4, rfl⟩ := hv.lenAt HNN.out.2; have H6 := Lib.hid (And.intro (H5.out.2.trans (hb.mono H5.out.2.size)) (And.intro hu hv)); clear hu hv hb)
        | (go_at_call 14; refine (grid_Len_I (HF.out.1.keep (Grow.of_below (H4.out.1.trans (H6.out.1.mono H4.out.1.size))) (fun k hk => (H4.out.1.trans (H6.out.1.mono H4.out.1.size)).block k (HF.out.1.2.2.1 k hk)))).mono ?_; rw [← HML.out.1]; rintro e w7 ⟨rfl, rfl⟩)
        | (go_at_call 14; refine (grid_Len_I (HF.out.2.keep (Grow.of_below (H4.out.1.trans (H6.out.1.mono H4.out.1.size))) (fun k hk => (H4.out.1.trans (H6.out.1.mono H4.out.1.size)).block k (HF.out.2.2.2.1 k hk)))).mono ?_; rw [← HML.out.2.1]; rintro e w8 ⟨rfl, rfl⟩)
        | fail)
      all_goals have hB6 : Below w4.heap.size w4 w8 := H6.out.1
      all_goals have hB0 : Below w.heap.size w w8 := (HB.out.trans (H4.out.1.mono HB.out.size)).trans (hB6.mono (HB.out.trans (H4.out.1.mono HB.out.size)).size)
      all_goals have HU := Lib.hid (And.intro (OwnN.of H4.out.2.1 (Nat.le_refl _) (fun k hk => hB6.block k (H4.out.2.1.block hk).2)) (OwnN.of H4.out.2.2 (Nat.le_refl _) (fun k hk => hB6.block k (H4.out.2.2.block hk).2)))
      all_goals have HU2 := Lib.hid H6.out.2
      all_goals have HB0 := Lib.hid hB0
      all_goals clear hB6 hB0 H3 H4 H5 H6 HF HB HXS HML
      all_goals
        go_loopw [15] (fun i wr => ∃ j : Nat, j ≤ n ∧ i = .int .i64 j ∧ Below w8.heap.size w8 wr) (fun i _ => n - (intOf i).toNat)
        case atStart => exact ⟨0, by omega, rfl, Below.refl _ _⟩
        case round =>
          obtain ⟨j, hj, rfl, hbj⟩ := hrel
          by_cases hlt : j < n
          · obtain ⟨b1, rfl, q1⟩ := OwnN.atn (HU.out.1.of (Nat.le_refl _) (fun k hk => hbj.block k (HU.out.1.block hk).2)) HNN.out.1 hlt
            obtain ⟨b2, rfl, q2⟩ := OwnN.atn (HU.out.2.of (Nat.le_refl _) (fun k hk => hbj.block k (HU.out.2.block hk).2)) HNN.out.2 hlt
            obtain ⟨b3, rfl, q3⟩ := OwnN.atn (HU2.out.1.of (Nat.le_refl _) (fun k hk => hbj.block k (HU2.out.1.block hk).2)) HNN.out.1 hlt
            obtain ⟨b4, rfl, q4⟩ := OwnN.atn (HU2.out.2.of (Nat.le_refl _) (fun k hk => hbj.block k (HU2.out.2.block hk).2)) HNN.out.2 hlt
            obtain ⟨p, hp⟩ : ∃ p, p = (xs.map (·.1)).getD j 0 := ⟨_, rfl⟩
            obtain ⟨q, hq⟩ : ∃ q, q = (xs.map (·.2)).getD j 0 := ⟨_, rfl⟩
            rw [← hp] at q1 q3
            rw [← hq] at q2 q4
            clear hp hq
            have hlt' : (j : Int) < n := by omega
            have HBJ := Lib.hid hbj
            clear hbj
            go_upto_region 22 with fail
            go_quiet (fail)
            go_wp2_with fail
            go_roundw
            case rel => exact ⟨j + 1, by omega, by go_num, HBJ.out.trans ⟨rfl, rfl, rfl, Nat.le_refl _, fun _ _ => rfl⟩⟩
            case measure => simp [intOf]; omega
          · have hge : ¬ (j : Int) < n := by omega
            have HBJ := Lib.hid (HB0.out.trans (hbj.mono HB0.out.size))
            clear hbj
            go_wp2_with (first
              | (go_at_call 15; refine (law_known _).mono ?_; rintro e w9 ⟨rfl, hb⟩; have H9 := Lib.hid (HBJ.out.trans (hb.mono HBJ.out.size)); clear hb)
              | fail)
            go_ret
            exact ⟨rfl, H9.out⟩
end Go.Proofs.Ytlfngdfbimcjhaa
