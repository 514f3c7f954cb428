/-
  BlakeKeys, walked.
-/
import Derived.Test.YtjpmldjafkbncaaDoorBCalls
import Derived.Test.YtjpmldjafkbncaaDoorMono
namespace Go.Proofs.YtjpmldjafkbncaaDoor
open Go.RowKit
set_option linter.unusedVariables false
set_option linter.unusedSimpArgs false

theorem keyedL_take (key p : List Nat) : keyedL (key.take 64) p = keyedL key p := by
  unfold keyedL
  rw [List.take_take, Nat.min_self]
theorem keyed_row (key : List Nat) {p : List Nat} {v u : Value} (w : World) (hG : Glob w) (hk : RdB w v key) (hp : RdBB w u [p]) (bk : ∀ x ∈ key, x < 256) (bp : ∀ x ∈ p, x < 256) (lk : key.length ≤ 1000000) (lp : p.length ≤ 1000000) :
    Calls Tryd.prog 9 #[v, u] w fun e w' => e = .returned (.agg (Bs (keyedL key p)).toArray) ∧ Below w.heap.size w w' := by
  have := blake_Keyed v u key [p] w hG hk hp bk (by simpa using bp) lk (by simpa using lp) (by simp)
  simpa using this
theorem keyed_take (key : List Nat) {p : List Nat} {v u : Value} (w : World) (hG : Glob w) (hk : RdB w v (key.take 64)) (hp : RdBB w u [p]) (bk : ∀ x ∈ key, x < 256) (bp : ∀ x ∈ p, x < 256) (lk : key.length ≤ 1000000) (lp : p.length ≤ 1000000) :
    Calls Tryd.prog 9 #[v, u] w fun e w' => e = .returned (.agg (Bs (keyedL key p)).toArray) ∧ Below w.heap.size w w' := by
  have := keyed_row (key.take 64) w hG hk hp (fun x hx => bk x (List.mem_of_mem_take hx)) bp (by simp; omega) lp
  rwa [keyedL_take] at this
theorem sum_row {p : List Nat} {u : Value} (w : World) (hG : Glob w) (hp : RdBB w u [p]) (bp : ∀ x ∈ p, x < 256) (lp : p.length ≤ 1000000) :
    Calls Tryd.prog 11 #[u] w fun e w' => e = .returned (.agg (Bs (keyedL [] p)).toArray) ∧ Below w.heap.size w w' := by
  have := blake_Sum u [p] w hG hp (by simpa using bp) (by simpa using lp) (by simp)
  simpa using this

set_option maxHeartbeats 8000000 in
set_option maxRecDepth 100000 in
theorem blakeKeys_walk (v0 : Value) (key : List Nat) (v1 : Value) (p : List Nat) (w : World) (hG : Glob w) (h0 : RdB w v0 key) (b0 : ∀ x ∈ key, x < 256) (m0 : key.length ≤ maxLen) (h1 : RdB w v1 p) (b1 : ∀ x ∈ p, x < 256) (m1 : p.length ≤ maxLen) :
    Calls Tryd.prog 6 #[v0, v1] w fun e w' => e = .returned (.bool true) ∧ Below w.heap.size w w' := by
  obtain ⟨bo, dap, rfl⟩ := h1.lenOf
  have H1 := Lib.hid h1
  have B0 := Lib.hid b0
  have B1 := Lib.hid b1
  have HH := Lib.hid (⟨hG, Below.refl _ _⟩ : Hand w w)
  clear h1 b0 b1 hG m0 m1
  obtain ⟨KK, hK⟩ : ∃ KK, KK = key.take 64 := ⟨_, rfl⟩
  have hKl : KK.length = min 64 key.length := by rw [hK]; simp
  have E : (if (key.length : Int) < 64 then (key.length : Int) else 64) = (KK.length : Int) := by split <;> omega
  have hle : (KK.length : Int) ≤ key.length := by omega
  have RE := eqK
  have RG := guardH
  have hcase : (∃ a cap, v0 = .slice (some a) key.length cap ∧ key.length ≤ cap ∧ RdB w v0 key ∧ RdB w (.slice (some a) KK.length cap) KK) ∨ (v0 = .slice none 0 0 ∧ key = []) := by
    rcases h0 with ⟨h, h'⟩ | ⟨a, cap, h, h', h''⟩
    · exact .inr ⟨h, h'⟩
    · subst h
      refine .inl ⟨a, cap, rfl, h', .inr ⟨a, cap, rfl, h', h''⟩, ?_⟩
      rw [hK]
      have := rd_take (w := w) (k := (key.take 64).length) (.inr ⟨a, cap, rfl, h', h''⟩ : RdB w (.slice (some a) key.length cap) key) (by simp; omega)
      have e : key.take (key.take 64).length = key.take 64 := by simp [List.take_take, ← List.take_eq_take_min]
      rwa [e] at this
  rcases hcase with ⟨a, cap, rfl, hcap, h0, hk⟩ | ⟨rfl, rfl⟩
  · have hKc : (KK.length : Int) ≤ cap := by omega
    have hKc2 : KK.length ≤ cap := by omega
    have H0 := Lib.hid h0
    have HKK := Lib.hid hK
    have HK := Lib.hid (hK ▸ hk : RdB w (.slice (some a) KK.length cap) (key.take 64))
    clear h0 hk hK hKl
    go_enter Tryd.func6, Tryd.ntmps6
    by_cases c0 : (300 : Int) < key.length
    · go_wp2_with fail
      exact bodyPost_ret (v := .bool true) (by simp [results, Tryd.results6, go_sem]) rfl ⟨rfl, Below.refl _ _⟩
    by_cases c1 : (500 : Int) < p.length
    · go_wp2_with fail
      exact bodyPost_ret (v := .bool true) (by simp [results, Tryd.results6, go_sem]) rfl ⟨rfl, Below.refl _ _⟩
    have L0 := Lib.hid (show key.length ≤ 1000000 by omega)
    have L1 := Lib.hid (show p.length ≤ 1000000 by omega)
    go_upto_region 3 with fail
    refine wp_region_plan_lit (L := Later) 38 [.pure, .pure, .any (fun w v => RdBB w v [p]), .pin (.agg (Bs (keyedL key p)).toArray), .pure, .pure, .pure, .pure, .pure, .pure, .any (fun w v => RdBB w v [p]), .pin (.agg (Bs (keyedL key p)).toArray), .pure, .pure, .pure, .any (fun w v => RdBB w v [p]), .pin (.agg (Bs (keyedL [] p)).toArray), .pure, .any (fun w v => RdBB w v [p]), .pin (.agg (Bs (keyedL [] p)).toArray), .pure, .pure, .pure, .pin (.bool true), .pure, .pure] (by kernel_rfl) (by kernel_rfl) rfl (fun w => Below.refl _ w) Later.tr ⟨fun w w' v hL hR => RdBB.below hR hL, fun w w' v hL hR => RdBB.below hR hL, fun w w' v hL hR => RdBB.below hR hL, fun w w' v hL hR => RdBB.below hR hL, trivial⟩ ?_
    iterate 2
      first
      | (refine wm_skip (by rfl) (fun K hK => ?_))
      | (refine wm_move (by rfl) (.inl rfl) (fun K hK => ?_))
      | (refine wm_move (by rfl) (.inr rfl) (fun K hK => ?_))
      | (refine wm_run (by rfl) (fun K hK => ?_)
         apply Exists.intro
         apply And.intro
         · intro w hL
           simp [go_sem]
           rfl)
      simp only [Act.put, Act.eval, List.setIfInBounds_toArray, List.set_cons_succ, List.set_cons_zero]
      refine hK _ ?_
      clear hK K
    refine wm_any (fun K hK => ⟨fun w' hL hk => ?_, fun v15 => ?_⟩)
    · have hh : Hand w w' := HH.out.on (((Below.refl _ w).drew).trans (hL.mono (Nat.le_refl _)))
      go_wp2_with (fail)
      exact qr_any rfl rfl rfl (below_new _ _) (rdBB_new _ (hh.rd H1.out))
    simp only [Act.put, Act.eval, List.setIfInBounds_toArray, List.set_cons_succ, List.set_cons_zero]
    refine hK _ ?_
    clear hK K
    refine wm_pin (fun K hK => ⟨fun w' hL hk => ?_, ?_⟩)
    · have hh : Hand w w' := HH.out.on (((Below.refl _ w).drew).trans (hL.mono (Nat.le_refl _)))
      have hr : RdBB w' v15 [p] := hk.get 15 2 (by kernel_rfl) rfl
      go_wp2_with (first | (go_at_call 9; refine (keyed_row key _ hh.glob (hh.rd H0.out) hr B0.out B1.out L0.out L1.out).mono ?_; rintro e wn ⟨rfl, hbn⟩) | fail)
      exact qr_pin rfl rfl rfl hbn
    simp only [Act.put, Act.eval, List.setIfInBounds_toArray, List.set_cons_succ, List.set_cons_zero]
    refine hK _ ?_
    clear hK K
    iterate 6
      first
      | (refine wm_skip (by rfl) (fun K hK => ?_))
      | (refine wm_move (by rfl) (.inl rfl) (fun K hK => ?_))
      | (refine wm_move (by rfl) (.inr rfl) (fun K hK => ?_))
      | (refine wm_run (by rfl) (fun K hK => ?_)
         apply Exists.intro
         apply And.intro
         · intro w hL
           simp [go_sem, E, RE, RG, hKc2]
           rfl)
      simp only [Act.put, Act.eval, List.setIfInBounds_toArray, List.set_cons_succ, List.set_cons_zero]
      refine hK _ ?_
      clear hK K
    refine wm_any (fun K hK => ⟨fun w' hL hk => ?_, fun v23 => ?_⟩)
    · have hh : Hand w w' := HH.out.on (((Below.refl _ w).drew).trans (hL.mono (Nat.le_refl _)))
      go_wp2_with (fail)
      exact qr_any rfl rfl rfl (below_new _ _) (rdBB_new _ (hh.rd H1.out))
    simp only [Act.put, Act.eval, List.setIfInBounds_toArray, List.set_cons_succ, List.set_cons_zero]
    refine hK _ ?_
    clear hK K
    refine wm_pin (fun K hK => ⟨fun w' hL hk => ?_, ?_⟩)
    · have hh : Hand w w' := HH.out.on (((Below.refl _ w).drew).trans (hL.mono (Nat.le_refl _)))
      have hr : RdBB w' v23 [p] := hk.get 23 10 (by kernel_rfl) rfl
      go_wp2_with (first | (go_at_call 9; refine (keyed_take key _ hh.glob (hh.rd HK.out) hr B0.out B1.out L0.out L1.out).mono ?_; rintro e wn ⟨rfl, hbn⟩) | fail)
      exact qr_pin rfl rfl rfl hbn
    simp only [Act.put, Act.eval, List.setIfInBounds_toArray, List.set_cons_succ, List.set_cons_zero]
    refine hK _ ?_
    clear hK K
    iterate 3
      first
      | (refine wm_skip (by rfl) (fun K hK => ?_))
      | (refine wm_move (by rfl) (.inl rfl) (fun K hK => ?_))
      | (refine wm_move (by rfl) (.inr rfl) (fun K hK => ?_))
      | (refine wm_run (by rfl) (fun K hK => ?_)
         apply Exists.intro
         apply And.intro
         · intro w hL
           simp [go_sem, E, RE, RG, hKc2]
           rfl)
      simp only [Act.put, Act.eval, List.setIfInBounds_toArray, List.set_cons_succ, List.set_cons_zero]
      refine hK _ ?_
      clear hK K
    refine wm_any (fun K hK => ⟨fun w' hL hk => ?_, fun v28 => ?_⟩)
    · have hh : Hand w w' := HH.out.on (((Below.refl _ w).drew).trans (hL.mono (Nat.le_refl _)))
      go_wp2_with (fail)
      exact qr_any rfl rfl rfl (below_new _ _) (rdBB_new _ (hh.rd H1.out))
    simp only [Act.put, Act.eval, List.setIfInBounds_toArray, List.set_cons_succ, List.set_cons_zero]
    refine hK _ ?_
    clear hK K
    refine wm_pin (fun K hK => ⟨fun w' hL hk => ?_, ?_⟩)
    · have hh : Hand w w' := HH.out.on (((Below.refl _ w).drew).trans (hL.mono (Nat.le_refl _)))
      have hr : RdBB w' v28 [p] := hk.get 28 15 (by kernel_rfl) rfl
      go_wp2_with (first | (go_at_call 9; refine (keyed_row [] _ hh.glob (.inl ⟨rfl, rfl⟩) hr (by simp) B1.out (by simp) L1.out).mono ?_; rintro e wn ⟨rfl, hbn⟩) | fail)
      exact qr_pin rfl rfl rfl hbn
    simp only [Act.put, Act.eval, List.setIfInBounds_toArray, List.set_cons_succ, List.set_cons_zero]
    refine hK _ ?_
    clear hK K
    iterate 1
      first
      | (refine wm_skip (by rfl) (fun K hK => ?_))
      | (refine wm_move (by rfl) (.inl rfl) (fun K hK => ?_))
      | (refine wm_move (by rfl) (.inr rfl) (fun K hK => ?_))
      | (refine wm_run (by rfl) (fun K hK => ?_)
         apply Exists.intro
         apply And.intro
         · intro w hL
           simp [go_sem]
           rfl)
      simp only [Act.put, Act.eval, List.setIfInBounds_toArray, List.set_cons_succ, List.set_cons_zero]
      refine hK _ ?_
      clear hK K
    refine wm_any (fun K hK => ⟨fun w' hL hk => ?_, fun v31 => ?_⟩)
    · have hh : Hand w w' := HH.out.on (((Below.refl _ w).drew).trans (hL.mono (Nat.le_refl _)))
      go_wp2_with (fail)
      exact qr_any rfl rfl rfl (below_new _ _) (rdBB_new _ (hh.rd H1.out))
    simp only [Act.put, Act.eval, List.setIfInBounds_toArray, List.set_cons_succ, List.set_cons_zero]
    refine hK _ ?_
    clear hK K
    refine wm_pin (fun K hK => ⟨fun w' hL hk => ?_, ?_⟩)
    · have hh : Hand w w' := HH.out.on (((Below.refl _ w).drew).trans (hL.mono (Nat.le_refl _)))
      have hr : RdBB w' v31 [p] := hk.get 31 18 (by kernel_rfl) rfl
      go_wp2_with (first | (go_at_call 11; refine (sum_row _ hh.glob hr B1.out L1.out).mono ?_; rintro e wn ⟨rfl, hbn⟩) | fail)
      exact qr_pin rfl rfl rfl hbn
    simp only [Act.put, Act.eval, List.setIfInBounds_toArray, List.set_cons_succ, List.set_cons_zero]
    refine hK _ ?_
    clear hK K
    iterate 3
      first
      | (refine wm_skip (by rfl) (fun K hK => ?_))
      | (refine wm_move (by rfl) (.inl rfl) (fun K hK => ?_))
      | (refine wm_move (by rfl) (.inr rfl) (fun K hK => ?_))
      | (refine wm_run (by rfl) (fun K hK => ?_)
         apply Exists.intro
         apply And.intro
         · intro w hL
           simp [go_sem, E, RE, RG, hKc2]
           rfl)
      simp only [Act.put, Act.eval, List.setIfInBounds_toArray, List.set_cons_succ, List.set_cons_zero]
      refine hK _ ?_
      clear hK K
    refine wm_pin (fun K hK => ⟨fun w' hL hk => ?_, ?_⟩)
    · have hh : Hand w w' := HH.out.on (((Below.refl _ w).drew).trans (hL.mono (Nat.le_refl _)))
      go_wp2_with (first | (go_at_call 13; refine (law_known _ hh.glob).mono ?_; rintro e wn ⟨rfl, hbn⟩) | fail)
      exact qr_pin rfl rfl rfl hbn
    simp only [Act.put, Act.eval, List.setIfInBounds_toArray, List.set_cons_succ, List.set_cons_zero]
    refine hK _ ?_
    clear hK K
    iterate 2
      first
      | (refine wm_skip (by rfl) (fun K hK => ?_))
      | (refine wm_move (by rfl) (.inl rfl) (fun K hK => ?_))
      | (refine wm_move (by rfl) (.inr rfl) (fun K hK => ?_))
      | (refine wm_run (by rfl) (fun K hK => ?_)
         apply Exists.intro
         apply And.intro
         · intro w hL
           simp [go_sem]
           rfl)
      simp only [Act.put, Act.eval, List.setIfInBounds_toArray, List.set_cons_succ, List.set_cons_zero]
      refine hK _ ?_
      clear hK K
    refine wm_end (fun w' hL hk => ?_)
    clear hk
    go_wp2
    exact bodyPost_ret (v := .bool true) (by simp [results, Tryd.results6, go_sem]) rfl ⟨rfl, ((Below.refl _ w).drew).trans (hL.mono (Nat.le_refl _))⟩
  · clear E hle hKl
    subst hK
    have H0 := Lib.hid (.inl ⟨rfl, rfl⟩ : RdB w (.slice none 0 0) [])
    have HK := Lib.hid (.inl ⟨rfl, rfl⟩ : RdB w (.slice none 0 0) (List.take 64 []))
    go_enter Tryd.func6, Tryd.ntmps6
    by_cases c1 : (500 : Int) < p.length
    · go_wp2_with fail
      exact bodyPost_ret (v := .bool true) (by simp [results, Tryd.results6, go_sem]) rfl ⟨rfl, Below.refl _ _⟩
    have L1 := Lib.hid (show p.length ≤ 1000000 by omega)
    go_upto_region 3 with fail
    refine wp_region_plan_lit (L := Later) 38 [.pure, .pure, .any (fun w v => RdBB w v [p]), .pin (.agg (Bs (keyedL [] p)).toArray), .pure, .pure, .pure, .pure, .pure, .pure, .any (fun w v => RdBB w v [p]), .pin (.agg (Bs (keyedL [] p)).toArray), .pure, .pure, .pure, .any (fun w v => RdBB w v [p]), .pin (.agg (Bs (keyedL [] p)).toArray), .pure, .any (fun w v => RdBB w v [p]), .pin (.agg (Bs (keyedL [] p)).toArray), .pure, .pure, .pure, .pin (.bool true), .pure, .pure] (by kernel_rfl) (by kernel_rfl) rfl (fun w => Below.refl _ w) Later.tr ⟨fun w w' v hL hR => RdBB.below hR hL, fun w w' v hL hR => RdBB.below hR hL, fun w w' v hL hR => RdBB.below hR hL, fun w w' v hL hR => RdBB.below hR hL, trivial⟩ ?_
    iterate 2
      first
      | (refine wm_skip (by rfl) (fun K hK => ?_))
      | (refine wm_move (by rfl) (.inl rfl) (fun K hK => ?_))
      | (refine wm_move (by rfl) (.inr rfl) (fun K hK => ?_))
      | (refine wm_run (by rfl) (fun K hK => ?_)
         apply Exists.intro
         apply And.intro
         · intro w hL
           simp [go_sem]
           rfl)
      simp only [Act.put, Act.eval, List.setIfInBounds_toArray, List.set_cons_succ, List.set_cons_zero]
      refine hK _ ?_
      clear hK K
    refine wm_any (fun K hK => ⟨fun w' hL hk => ?_, fun v15 => ?_⟩)
    · have hh : Hand w w' := HH.out.on (((Below.refl _ w).drew).trans (hL.mono (Nat.le_refl _)))
      go_wp2_with (fail)
      exact qr_any rfl rfl rfl (below_new _ _) (rdBB_new _ (hh.rd H1.out))
    simp only [Act.put, Act.eval, List.setIfInBounds_toArray, List.set_cons_succ, List.set_cons_zero]
    refine hK _ ?_
    clear hK K
    refine wm_pin (fun K hK => ⟨fun w' hL hk => ?_, ?_⟩)
    · have hh : Hand w w' := HH.out.on (((Below.refl _ w).drew).trans (hL.mono (Nat.le_refl _)))
      have hr : RdBB w' v15 [p] := hk.get 15 2 (by kernel_rfl) rfl
      go_wp2_with (first | (go_at_call 9; refine (keyed_row [] _ hh.glob (hh.rd H0.out) hr (by simp) B1.out (by simp) L1.out).mono ?_; rintro e wn ⟨rfl, hbn⟩) | fail)
      exact qr_pin rfl rfl rfl hbn
    simp only [Act.put, Act.eval, List.setIfInBounds_toArray, List.set_cons_succ, List.set_cons_zero]
    refine hK _ ?_
    clear hK K
    iterate 6
      first
      | (refine wm_skip (by rfl) (fun K hK => ?_))
      | (refine wm_move (by rfl) (.inl rfl) (fun K hK => ?_))
      | (refine wm_move (by rfl) (.inr rfl) (fun K hK => ?_))
      | (refine wm_run (by rfl) (fun K hK => ?_)
         apply Exists.intro
         apply And.intro
         · intro w hL
           simp [go_sem, RE, RG]
           rfl)
      simp only [Act.put, Act.eval, List.setIfInBounds_toArray, List.set_cons_succ, List.set_cons_zero]
      refine hK _ ?_
      clear hK K
    refine wm_any (fun K hK => ⟨fun w' hL hk => ?_, fun v23 => ?_⟩)
    · have hh : Hand w w' := HH.out.on (((Below.refl _ w).drew).trans (hL.mono (Nat.le_refl _)))
      go_wp2_with (fail)
      exact qr_any rfl rfl rfl (below_new _ _) (rdBB_new _ (hh.rd H1.out))
    simp only [Act.put, Act.eval, List.setIfInBounds_toArray, List.set_cons_succ, List.set_cons_zero]
    refine hK _ ?_
    clear hK K
    refine wm_pin (fun K hK => ⟨fun w' hL hk => ?_, ?_⟩)
    · have hh : Hand w w' := HH.out.on (((Below.refl _ w).drew).trans (hL.mono (Nat.le_refl _)))
      have hr : RdBB w' v23 [p] := hk.get 23 10 (by kernel_rfl) rfl
      go_wp2_with (first | (go_at_call 9; refine (keyed_take [] _ hh.glob (hh.rd HK.out) hr (by simp) B1.out (by simp) L1.out).mono ?_; rintro e wn ⟨rfl, hbn⟩) | fail)
      exact qr_pin rfl rfl rfl hbn
    simp only [Act.put, Act.eval, List.setIfInBounds_toArray, List.set_cons_succ, List.set_cons_zero]
    refine hK _ ?_
    clear hK K
    iterate 3
      first
      | (refine wm_skip (by rfl) (fun K hK => ?_))
      | (refine wm_move (by rfl) (.inl rfl) (fun K hK => ?_))
      | (refine wm_move (by rfl) (.inr rfl) (fun K hK => ?_))
      | (refine wm_run (by rfl) (fun K hK => ?_)
         apply Exists.intro
         apply And.intro
         · intro w hL
           simp [go_sem, RE, RG]
           rfl)
      simp only [Act.put, Act.eval, List.setIfInBounds_toArray, List.set_cons_succ, List.set_cons_zero]
      refine hK _ ?_
      clear hK K
    refine wm_any (fun K hK => ⟨fun w' hL hk => ?_, fun v28 => ?_⟩)
    · have hh : Hand w w' := HH.out.on (((Below.refl _ w).drew).trans (hL.mono (Nat.le_refl _)))
      go_wp2_with (fail)
      exact qr_any rfl rfl rfl (below_new _ _) (rdBB_new _ (hh.rd H1.out))
    simp only [Act.put, Act.eval, List.setIfInBounds_toArray, List.set_cons_succ, List.set_cons_zero]
    refine hK _ ?_
    clear hK K
    refine wm_pin (fun K hK => ⟨fun w' hL hk => ?_, ?_⟩)
    · have hh : Hand w w' := HH.out.on (((Below.refl _ w).drew).trans (hL.mono (Nat.le_refl _)))
      have hr : RdBB w' v28 [p] := hk.get 28 15 (by kernel_rfl) rfl
      go_wp2_with (first | (go_at_call 9; refine (keyed_row [] _ hh.glob (.inl ⟨rfl, rfl⟩) hr (by simp) B1.out (by simp) L1.out).mono ?_; rintro e wn ⟨rfl, hbn⟩) | fail)
      exact qr_pin rfl rfl rfl hbn
    simp only [Act.put, Act.eval, List.setIfInBounds_toArray, List.set_cons_succ, List.set_cons_zero]
    refine hK _ ?_
    clear hK K
    iterate 1
      first
      | (refine wm_skip (by rfl) (fun K hK => ?_))
      | (refine wm_move (by rfl) (.inl rfl) (fun K hK => ?_))
      | (refine wm_move (by rfl) (.inr rfl) (fun K hK => ?_))
      | (refine wm_run (by rfl) (fun K hK => ?_)
         apply Exists.intro
         apply And.intro
         · intro w hL
           simp [go_sem]
           rfl)
      simp only [Act.put, Act.eval, List.setIfInBounds_toArray, List.set_cons_succ, List.set_cons_zero]
      refine hK _ ?_
      clear hK K
    refine wm_any (fun K hK => ⟨fun w' hL hk => ?_, fun v31 => ?_⟩)
    · have hh : Hand w w' := HH.out.on (((Below.refl _ w).drew).trans (hL.mono (Nat.le_refl _)))
      go_wp2_with (fail)
      exact qr_any rfl rfl rfl (below_new _ _) (rdBB_new _ (hh.rd H1.out))
    simp only [Act.put, Act.eval, List.setIfInBounds_toArray, List.set_cons_succ, List.set_cons_zero]
    refine hK _ ?_
    clear hK K
    refine wm_pin (fun K hK => ⟨fun w' hL hk => ?_, ?_⟩)
    · have hh : Hand w w' := HH.out.on (((Below.refl _ w).drew).trans (hL.mono (Nat.le_refl _)))
      have hr : RdBB w' v31 [p] := hk.get 31 18 (by kernel_rfl) rfl
      go_wp2_with (first | (go_at_call 11; refine (sum_row _ hh.glob hr B1.out L1.out).mono ?_; rintro e wn ⟨rfl, hbn⟩) | fail)
      exact qr_pin rfl rfl rfl hbn
    simp only [Act.put, Act.eval, List.setIfInBounds_toArray, List.set_cons_succ, List.set_cons_zero]
    refine hK _ ?_
    clear hK K
    iterate 3
      first
      | (refine wm_skip (by rfl) (fun K hK => ?_))
      | (refine wm_move (by rfl) (.inl rfl) (fun K hK => ?_))
      | (refine wm_move (by rfl) (.inr rfl) (fun K hK => ?_))
      | (refine wm_run (by rfl) (fun K hK => ?_)
         apply Exists.intro
         apply And.intro
         · intro w hL
           simp [go_sem, RE, RG]
           rfl)
      simp only [Act.put, Act.eval, List.setIfInBounds_toArray, List.set_cons_succ, List.set_cons_zero]
      refine hK _ ?_
      clear hK K
    refine wm_pin (fun K hK => ⟨fun w' hL hk => ?_, ?_⟩)
    · have hh : Hand w w' := HH.out.on (((Below.refl _ w).drew).trans (hL.mono (Nat.le_refl _)))
      go_wp2_with (first | (go_at_call 13; refine (law_known _ hh.glob).mono ?_; rintro e wn ⟨rfl, hbn⟩) | fail)
      exact qr_pin rfl rfl rfl hbn
    simp only [Act.put, Act.eval, List.setIfInBounds_toArray, List.set_cons_succ, List.set_cons_zero]
    refine hK _ ?_
    clear hK K
    iterate 2
      first
      | (refine wm_skip (by rfl) (fun K hK => ?_))
      | (refine wm_move (by rfl) (.inl rfl) (fun K hK => ?_))
      | (refine wm_move (by rfl) (.inr rfl) (fun K hK => ?_))
      | (refine wm_run (by rfl) (fun K hK => ?_)
         apply Exists.intro
         apply And.intro
         · intro w hL
           simp [go_sem]
           rfl)
      simp only [Act.put, Act.eval, List.setIfInBounds_toArray, List.set_cons_succ, List.set_cons_zero]
      refine hK _ ?_
      clear hK K
    refine wm_end (fun w' hL hk => ?_)
    clear hk
    go_wp2
    exact bodyPost_ret (v := .bool true) (by simp [results, Tryd.results6, go_sem]) rfl ⟨rfl, ((Below.refl _ w).drew).trans (hL.mono (Nat.le_refl _))⟩
end Go.Proofs.YtjpmldjafkbncaaDoor
