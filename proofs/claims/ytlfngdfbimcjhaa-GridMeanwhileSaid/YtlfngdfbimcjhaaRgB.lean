/-
  The law's built.
-/
import Derived.Test.YtlfngdfbimcjhaaRgA
namespace Go.Proofs.Ytlfngdfbimcjhaa
open Go.RowKit Go.Maps Go.Shelf
set_option linter.unusedVariables false
set_option linter.unusedSimpArgs false
set_option linter.constructorNameAsVariable false

theorem GrX.new {N g : Nat} {w1 w2 : World} {yb : Nat} (h1 : GrOwn codI 67 N g [] w1) (hN : N ≤ w1.heap.size) (hy : yb = w1.heap.size) (hw : w2 = w1.alloc (.cells #[.slice none 0 0] 28)) : GrX N (fun _ => False) g yb [] [] w2 := by
  obtain ⟨F, a1, a2⟩ := h1
  have hB : Below w1.heap.size w1 w2 := by rw [hw]; exact (Below.refl _ w1).alloc (Nat.le_refl _) _
  refine ⟨F, .slice none 0 0, a1.keep (Grow.of_below hB) (fun k hk => hB.block k (a1.2.2.1 k hk)), ⟨by rw [hy, hw]; exact Boxed.new w1 _ _, OwnR.nil _ _⟩, fun k hk => ⟨a2 k hk, fun h => h⟩, ⟨by omega, fun h => h, fun hf => by have := a1.2.2.1 _ hf; omega⟩, fun k hk => by cases hk⟩


set_option maxHeartbeats 8000000 in
set_option maxRecDepth 100000 in
theorem law_built (v : Value) (l : List A4) (w : World) (hr : RdS actR w v l) (hm : l.length ≤ maxLen ∧ ∀ x ∈ l, ActWf x) :
    Calls Try.prog 16 #[v] w fun e w' => ∃ (g yb : Nat) (M : Cls Int), e = .returned (.tuple #[.pointer (some ⟨g, 0, none⟩), .pointer (some ⟨yb, 0, none⟩)]) ∧ M.length ≤ 100 ∧ GrX w.heap.size (fun _ => False) g yb M M w' ∧ Below w.heap.size w w' := by
  obtain ⟨ao, cap, rfl, hrd⟩ := hr
  obtain ⟨hmx, hwf⟩ := hm
  have hmx' : (l.length : Int) ≤ 9223372036854775807 := Int.le_trans (Int.ofNat_le.2 hmx) (by decide +kernel)
  obtain ⟨L, hL⟩ : ∃ L, L = l.length := ⟨_, rfl⟩
  have HRD := Lib.hid hrd
  have HL := Lib.hid hL
  have HWF := Lib.hid hwf
  rw [← hL] at hmx' ⊢
  clear hrd hL hmx hwf
  go_enter Try.func16, Try.ntmps16
  go_wp2_with (first
    | (go_at_call 10; refine (grid_New_own_I w).mono ?_; rintro e w1 ⟨g, rfl, ho1, hb1⟩; have H1 := Lib.hid (And.intro ho1 hb1); clear ho1 hb1)
    | fail)
  obtain ⟨yb, hyb⟩ : ∃ yb, yb = w1.heap.size := ⟨_, rfl⟩
  obtain ⟨w2, hw2⟩ : ∃ w2, w2 = w1.alloc (.cells #[.slice none 0 0] 28) := ⟨_, rfl⟩
  have hX := GrX.new H1.out.1 H1.out.2.size hyb hw2
  have hb2 : Below w.heap.size w w2 := by rw [hw2]; exact H1.out.2.alloc H1.out.2.size _
  rw [← hw2]
  rw [← hyb]
  have H2 := Lib.hid (And.intro hX hb2)
  clear hX hb2 H1 hw2 hyb
  go_loopw [6] (fun i wr => ∃ (k : Nat) (M : Cls Int), k ≤ L ∧ k ≤ 100 ∧ i = .int .i64 k ∧ M.length ≤ k ∧ GrX w.heap.size (fun _ => False) g yb M M wr ∧ Below w.heap.size w wr) (fun i _ => 100 - (intOf i).toNat)
  case atStart => exact ⟨0, [], by omega, by omega, rfl, Nat.le_refl _, H2.out⟩
  case round =>
    obtain ⟨k, M, hkL, hk1, rfl, hlM, hgr, hbl⟩ := hrel
    have HGR := Lib.hid (And.intro hgr hbl)
    clear hgr hbl H2
    by_cases hin : k < L ∧ k < 100
    · obtain ⟨hlt, hlt1⟩ := hin
      have hlt' : (k : Int) < L := by omega
      have hlt2 : (k : Int) < 100 := by omega
      obtain ⟨b, off, rfl, hrg, hbw⟩ := HRD.out k (by rw [← HL.out]; exact hlt)
      obtain ⟨x, hx⟩ : ∃ x, x = l[k]'(by rw [← HL.out]; exact hlt) := ⟨_, rfl⟩
      rw [← hx] at hrg
      have hxw : ActWf x := by rw [hx]; exact HWF.out _ (List.getElem_mem _)
      have hrg2 : wr.rangeAt b (off + k * 4) (ac x) := rangeAt_block hrg (HGR.out.2.block b hbw)
      have hl2 := stepA_len HGR.out.1.srt x
      have HX := Lib.hid (And.intro hxw hrg2)
      have HLM := Lib.hid (And.intro hlM hl2)
      clear hx hrg hbw hrg2 hxw hlt hlt1 hl2 hlM
      go_wp2_with (first
        | (refine wpl_loadR (r := actR) _ rfl rfl rfl HX.out.2 ?_)
        | (go_at_call 11; refine (law_act HGR.out.1 HGR.out.2.size (fun k h => h.elim) (by have := HLM.out.1; omega) x HX.out.1).mono ?_; rintro e w3 ⟨rfl, hg3, hz3⟩; have H3 := Lib.hid (And.intro hg3 (HGR.out.2.trans hz3.1)); clear hg3 hz3)
        | fail)
      go_roundw
      case rel => exact ⟨k + 1, stepA M x, by omega, by omega, by go_num, by have := HLM.out; omega, H3.out⟩
      case measure => simp [intOf]; omega
    · have hex : (¬ (k : Int) < L) ∨ ((k : Int) < L ∧ ¬ (k : Int) < 100) := by omega
      have hl100 : M.length ≤ 100 := by omega
      have HM := Lib.hid hl100
      clear hin hkL hk1 hlM hl100
      rcases hex with hq | ⟨hq1, hq2⟩
      all_goals go_wp2_with fail
      all_goals exact bodyPost_ret (v := .tuple #[.pointer (some ⟨g, 0, none⟩), .pointer (some ⟨yb, 0, none⟩)]) (by simp [results, Try.results16, go_sem]) rfl ⟨g, yb, rfl, M, HM.out, HGR.out⟩
end Go.Proofs.Ytlfngdfbimcjhaa
