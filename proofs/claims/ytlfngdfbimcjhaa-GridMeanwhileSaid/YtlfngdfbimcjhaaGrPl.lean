/-
  The law's same; the law GridPlays, walked.
-/
import Derived.Test.YtlfngdfbimcjhaaRgB
import Derived.Test.YtlfngdfbimcjhaaGrRw
namespace Go.Proofs.Ytlfngdfbimcjhaa
open Go.RowKit Go.Maps Go.Shelf
set_option linter.unusedVariables false
set_option linter.unusedSimpArgs false
set_option linter.constructorNameAsVariable false

theorem GrAt.later {M : Cls Int} {F : FP} {g : Nat} {T : TypeId} {w w' : World} (h : GrAt codI T g M F w) (hb : Below w.heap.size w w') : GrAt codI T g M F w' := h.keep (Grow.of_below hb) (fun k hk => hb.block k (h.2.2.1 k hk))
set_option maxHeartbeats 8000000 in
set_option maxRecDepth 100000 in
theorem law_same (u v : Value) (M : Cls Int) (w : World) (hu : RdR cellR w u M) (hv : RdR cellR w v M) (hl : M.length ≤ 400000) :
    Calls Try.prog 13 #[u, v] w fun e w' => e = .returned (.bool true) ∧ Below w.heap.size w w' := by
  obtain ⟨n, hn⟩ : ∃ n, n = M.length := ⟨_, rfl⟩
  obtain ⟨a1, c1, rfl⟩ := hu.lenOf
  obtain ⟨a2, c2, rfl⟩ := hv.lenOf
  rw [← hn] at hu hv hl ⊢
  have HU := Lib.hid (And.intro hu hv)
  have HN := Lib.hid hn
  have hnI : (n : Int) ≤ 400000 := by omega
  clear hu hv hn
  go_enter Try.func13, Try.ntmps13
  go_wp2_with fail
  go_loopw [5] (fun i wr => ∃ k : Nat, k ≤ n ∧ i = .int .i64 k ∧ Below w.heap.size w wr) (fun i _ => n - (intOf i).toNat)
  case atStart => exact ⟨0, by omega, rfl, Below.refl _ _⟩
  case round =>
    obtain ⟨k, hk, rfl, hb⟩ := hrel
    by_cases hlt : k < n
    · have hlt' : (k : Int) < n := by omega
      have hkl : k < M.length := by rw [← HN.out]; exact hlt
      obtain ⟨b1, o1, rfl, h1, -⟩ := (HU.out.1.below hb).at hkl
      obtain ⟨b2, o2, rfl, h2, -⟩ := (HU.out.2.below hb).at hkl
      obtain ⟨x, hx⟩ : ∃ x, x = M[k] := ⟨_, rfl⟩
      rw [← hx] at h1 h2
      obtain ⟨⟨xa, xb⟩, xv⟩ := x
      obtain ⟨p0, p1, p2⟩ := cell3 h1
      obtain ⟨q0, q1, q2⟩ := cell3 h2
      rw [show cellR.k = 3 from rfl] at p0 p1 p2 q0 q1 q2
      dsimp only at p0 p1 p2 q0 q1 q2
      have HB := Lib.hid hb
      clear hb hx h1 h2 hkl
      go_upto_region 6 with fail
      go_quiet (fail)
      go_wp2_with fail
      go_roundw
      case rel => exact ⟨k + 1, by omega, by go_num, HB.out.trans ⟨rfl, rfl, rfl, Nat.le_refl _, fun _ _ => rfl⟩⟩
      case measure => simp [intOf]; omega
    · have hge : ¬ (k : Int) < n := by omega
      have HB := Lib.hid hb
      clear hb
      go_wp2_with fail
      exact bodyPost_ret (v := .bool true) (by simp [results, Try.results13, go_sem]) rfl ⟨rfl, HB.out⟩
set_option maxHeartbeats 8000000 in
set_option maxRecDepth 100000 in
theorem gridPlays_walk (v : Value) (l : List A4) (w : World) (hr : RdS actR w v l) (hm : l.length ≤ maxLen ∧ ∀ x ∈ l, ActWf x) :
    Calls Try.prog 3 #[v] w fun e w' => e = .returned (.bool true) ∧ Below w.heap.size w w' := by
  obtain ⟨ao, cap, rfl, hrd⟩ := hr
  obtain ⟨hmx, hwf⟩ := hm
  have hmx' : (l.length : Int) ≤ 9223372036854775807 := Int.le_trans (Int.ofNat_le.2 hmx) (by decide +kernel)
  obtain ⟨L, hL⟩ : ∃ L, L = l.length := ⟨_, rfl⟩
  have HRD := Lib.hid hrd
  have HL := Lib.hid hL
  have HWF := Lib.hid hwf
  rw [← hL] at hmx' ⊢
  clear hrd hL hmx hwf
  go_enter Try.func3, Try.ntmps3
  by_cases c0 : (10000 : Int) < (L : Int)
  · go_wp2_with fail
    exact bodyPost_ret (v := .bool true) (by simp [results, Try.results3, go_sem]) rfl ⟨rfl, Below.refl _ _⟩
  go_wp2_with (first
    | (go_at_call 10; refine (grid_New_own_I w).mono ?_; rintro e w1 ⟨g, rfl, ho1, hb1⟩; have H1 := Lib.hid (And.intro ho1 hb1); clear ho1 hb1)
    | fail)
  obtain ⟨yb, hyb⟩ : ∃ yb, yb = w1.heap.size := ⟨_, rfl⟩
  obtain ⟨w2, hw2⟩ : ∃ w2, w2 = w1.alloc (.cells #[.slice none 0 0] 28) := ⟨_, rfl⟩
  have hX := GrX.new H1.out.1 H1.out.2.size hyb hw2
  have hb2 : Below w.heap.size w w2 := by rw [hw2]; exact H1.out.2.alloc H1.out.2.size _
  rw [← hw2]
  rw [← hyb]
  have H2 := Lib.hid (And.intro hX hb2)
  clear hX hb2 H1 hw2 hyb
  go_loopw [5] (fun i wr => ∃ (k : Nat) (M : Cls Int), k ≤ L ∧ k ≤ 100 ∧ i = .int .i64 k ∧ M.length ≤ k ∧ GrX w.heap.size (fun _ => False) g yb M M wr ∧ Below w.heap.size w wr) (fun i _ => 100 - (intOf i).toNat)
  case atStart => exact ⟨0, [], by omega, by omega, rfl, Nat.le_refl _, H2.out⟩
  case round =>
    obtain ⟨k, M, hkL, hk1, rfl, hlM, hgr, hbl⟩ := hrel
    have HGR := Lib.hid (And.intro hgr hbl)
    clear hgr hbl H2
    by_cases hin : k < L ∧ k < 100
    · obtain ⟨hlt, hlt1⟩ := hin
      have hlt' : (k : Int) < L := by omega
      have hlt2 : (k : Int) < 100 := by omega
      obtain ⟨b, off, rfl, hrg, hbw⟩ := HRD.out k (by rw [← HL.out]; exact hlt)
      obtain ⟨x, hx⟩ : ∃ x, x = l[k]'(by rw [← HL.out]; exact hlt) := ⟨_, rfl⟩
      rw [← hx] at hrg
      have hxw : ActWf x := by rw [hx]; exact HWF.out _ (List.getElem_mem _)
      have hrg2 : wr.rangeAt b (off + k * 4) (ac x) := rangeAt_block hrg (HGR.out.2.block b hbw)
      have hl2 := stepA_len HGR.out.1.srt x
      have HX := Lib.hid (And.intro hxw hrg2)
      have HLM := Lib.hid (And.intro hlM hl2)
      clear hx hrg hbw hrg2 hxw hlt hlt1 hl2 hlM
      obtain ⟨M1, hM1⟩ : ∃ M1, M1 = stepA M x := ⟨_, rfl⟩
      have HM1 := Lib.hid hM1
      have hl3 : M1.length ≤ 101 := by have := HLM.out; rw [hM1]; omega
      have HL3 := Lib.hid hl3
      clear hM1 hl3
      go_upto_region 11 with (first
        | (refine wpl_loadR (r := actR) _ rfl rfl rfl HX.out.2 ?_)
        | (go_at_call 11; refine (law_act HGR.out.1 HGR.out.2.size (fun k h => h.elim) (by have := HLM.out.1; omega) x HX.out.1).mono ?_; rw [← HM1.out]; rintro e w3 ⟨rfl, hg3, hz3⟩; have H3 := Lib.hid (And.intro hg3 (HGR.out.2.trans hz3.1)); clear hg3 hz3)
        | fail)
      obtain ⟨F, vr, hF, hR, -⟩ := H3.out.1
      obtain ⟨a2, c2, hv2⟩ := hR.own.lenOf
      obtain ⟨n2, hn2⟩ : ∃ n2, n2 = M1.length := ⟨_, rfl⟩
      rw [← hn2] at hv2
      subst hv2
      have HF := Lib.hid hF
      have HR := Lib.hid hR
      have HN2 := Lib.hid hn2
      clear hF hR hn2
      go_upto_region 12 with (first
        | (go_at_call 12; refine (law_cells (some ⟨g, 0, none⟩) M1 w3 (fun w' hb => grid_Cells_I (HF.out.later hb) (by have := HL3.out; omega)) (by have := HL3.out; omega)).mono ?_; rintro e w4 ⟨vc, rfl, ho4, hb4⟩; obtain ⟨a4, c4, hv4⟩ := ho4.lenOf; rw [← HN2.out] at hv4; subst hv4; have hb5 : Below w3.heap.size w3 w4.drew := hb4.drew; have H5 := Lib.hid (And.intro (OwnR.later ho4 (Below.refl _ w4).drew) (And.intro (HR.out.below hb5) (HF.out.later hb5))); have HB5 := Lib.hid hb5; clear ho4 hb4 hb5)
        | fail)
      have hn2 : (n2 : Int) ≤ 1000 := by have := HN2.out; have := HL3.out; omega
      go_region_held3 (fun w' => w'.cell? ⟨yb, 0, none⟩ = some (.slice a2 n2 c2)) (first | exact H5.out.2.1.at_.cell | exact H6.out.2.1.at_.cell) (first
        | (go_at_call 13; with_reducible refine (law_same (.slice a4 n2 c4) (.slice a2 n2 c2) M1 _ H5.out.1.reads H5.out.2.1.own.reads (by have := HL3.out; omega)).mono ?_; rintro e w6 ⟨rfl, hb6⟩; have H6 := Lib.hid (And.intro (HB5.out.trans (hb6.mono HB5.out.size)) (And.intro (H5.out.2.1.below hb6) (H5.out.2.2.later hb6))); clear hb6)
        | (go_at_call 14; with_reducible refine (grid_Len_I H6.out.2.2).mono ?_; rw [← HN2.out]; rintro e w7 ⟨rfl, rfl⟩)
        | fail)
      all_goals
        go_wp2_with fail
        go_roundw
        case rel => exact ⟨k + 1, M1, by omega, by omega, by go_num, by have := HLM.out; rw [HM1.out]; omega, H3.out.1.below H6.out.1, H3.out.2.trans (H6.out.1.mono H3.out.2.size)⟩
        case measure => simp [intOf]; omega
    · have hex : (¬ (k : Int) < L) ∨ ((k : Int) < L ∧ ¬ (k : Int) < 100) := by omega
      have hl100 : M.length ≤ 100 := by omega
      have HM := Lib.hid hl100
      clear hin hkL hk1 hlM hl100
      rcases hex with hq | ⟨hq1, hq2⟩
      all_goals go_wp2_with (first
        | (go_at_call 15; refine (law_known _).mono ?_; rintro e w9 ⟨rfl, hb⟩; have H9 := Lib.hid (HGR.out.2.trans (hb.mono HGR.out.2.size)); clear hb)
        | fail)
      all_goals go_ret
      all_goals exact ⟨rfl, H9.out⟩
end Go.Proofs.Ytlfngdfbimcjhaa
