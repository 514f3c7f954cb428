/-
  The law GridStops, walked.
-/
import Derived.Test.YtlfngdfbimcjhaaStopK
import Derived.Test.YtlfngdfbimcjhaaCel
import Derived.BigRegion
import Derived.RegionTactic
import Derived.Shelf.Abstract
import Derived.Shelf.RegionOpen
import Derived.LoopNIn
import Derived.LoopIn
import Derived.WalkArith
namespace Go.Proofs.Ytlfngdfbimcjhaa
open Go.RowKit Go.Maps Go.Shelf
attribute [local go_sem] Oper.semAt_some
set_option linter.unusedVariables false
set_option linter.unusedSimpArgs false

set_option maxHeartbeats 4000000 in
set_option maxRecDepth 100000 in
theorem gridStops_walk (n st : Int) (wn : (Lit.int .i64 n).wf = true) (ws : (Lit.int .i64 st).wf = true) (w : World) :
    Calls Try.prog 6 #[.int .i64 n, .int .i64 st] w fun e w' => e = .returned (.bool true) ∧ Below w.heap.size w w' := by
  refine (callsIn_wide (n := 2)).1 ?_
  have q1 : ∀ g lb w, (binOp .eql 44 (.func g #[] lb) .nilFunc).run Try.prog w = .ok (.bool false) w := fun g lb w => by kernel_rfl
  refine callsIn_of_wp_marks Try.func6 rfl trivial ?_ rfl
  simp only [Try.ntmps6, List.size_toArray, List.length_cons, List.length_nil, Nat.reduceAdd, Nat.reduceSub, Array.replicate_succ, Array.replicate_zero, List.push_toArray, List.append_toArray, List.nil_append, List.cons_append]
  by_cases hbad : n < 0 ∨ 60 < n ∨ st < 1 ∨ 70 < st
  · have hex : n < 0 ∨ (¬ n < 0 ∧ 60 < n) ∨ (¬ n < 0 ∧ ¬ 60 < n ∧ st < 1) ∨ (¬ n < 0 ∧ ¬ 60 < n ∧ ¬ st < 1 ∧ 70 < st) := by omega
    clear hbad
    rcases hex with h | ⟨h1, h⟩ | ⟨h1, h2, h⟩ | ⟨h1, h2, h3, h⟩
    all_goals gi_wp2_with fail
    all_goals exact ⟨.bool true, by simp [results, Try.results6, go_sem], rfl, ((Below.refl _ w).alloc (Nat.le_refl _) _).alloc (by simp) _⟩
  obtain ⟨m, rfl⟩ : ∃ m : Nat, n = m := ⟨n.toNat, by omega⟩
  obtain ⟨t, rfl⟩ : ∃ t : Nat, st = t := ⟨st.toNat, by omega⟩
  have h1 : ¬ (m : Int) < 0 := by omega
  have h2 : ¬ 60 < (m : Int) := by omega
  have h3 : ¬ (t : Int) < 1 := by omega
  have h4 : ¬ 70 < (t : Int) := by omega
  have hm60 : m ≤ 60 := by omega
  have ht1 : 1 ≤ t := by omega
  have ht70 : t ≤ 70 := by omega
  clear hbad wn ws
  have wf3 : (Lit.int .i64 3).wf = true := by decide
  have wfk : ∀ k : Nat, k ≤ 60 → (Lit.int .i64 (k : Int)).wf = true := fun k hk => by simp [Lit.wf, IntKind.min, IntKind.max, IntKind.signed, IntKind.bits]; omega
  have WF3 := Lib.hid wf3
  have WFK := Lib.hid wfk
  have Q1 := Lib.hid q1
  clear wf3 wfk
  obtain ⟨w0, hw0⟩ : ∃ w0, w0 = ((w.alloc (.cells #[.int .i64 (t : Nat)] 3)).alloc (.cells #[.bool false] 4)) := ⟨_, rfl⟩
  have hB0 : Below w.heap.size w w0 := by rw [hw0]; exact ((Below.refl _ w).alloc (Nat.le_refl _) _).alloc (by simp) _
  have x0 : Boxed w0 w.heap.size 3 (.int .i64 (t : Nat)) := by rw [hw0]; exact (Boxed.new w _ _).alloc _
  have x1 : Boxed w0 (w.heap.size + 1) 4 (.bool false) := by
    have := Boxed.new (w.alloc (.cells #[.int .i64 (t : Nat)] 3)) 4 (.bool false)
    rw [World.size_alloc] at this
    rw [hw0]; exact this
  have hs0 : w0.heap.size = w.heap.size + 2 := by rw [hw0]; simp
  obtain ⟨s, hs⟩ : ∃ s, s = w.heap.size := ⟨_, rfl⟩
  obtain ⟨rb, hrb⟩ : ∃ rb, rb = s + 1 := ⟨_, rfl⟩
  have c0 : ((w.alloc (.cells #[.int .i64 (t : Nat)] 3)).alloc (.cells #[.bool false] 4)).cell? ⟨w.heap.size, 0, none⟩ = some (.int .i64 (t : Nat)) := by rw [← hw0]; exact x0.cell
  have H0 := Lib.hid (And.intro hB0 (And.intro x0 (And.intro x1 (And.intro hs0 (And.intro hs hrb)))))
  have HW0 := Lib.hid hw0
  clear hB0 x0 x1 hs0 hw0 hs hrb q1
  gi_wp2_with (first
    | (refine ⟨trivial, ?_⟩; gi_at_call 10; rw [← HW0.out]; refine (callsIn_wide.2 (grid_New_own_I w0)).mono ?_; rintro e w1 ⟨g, rfl, ho1, hb1⟩; have H1 := Lib.hid (And.intro ho1 hb1); clear ho1 hb1)
    | fail)
  gi_loopw [6] (fun i wr => ∃ (k : Nat) (M : Cls Int), k ≤ m ∧ i = .int .i64 k ∧ Cross M k ∧ GrOwn codI 67 w0.heap.size g M wr ∧ Below w0.heap.size w0 wr) (fun i _ => m - (intOf i).toNat)
  case atStart => exact ⟨0, [], by omega, rfl, Cross.nil, H1.out⟩
  case round =>
    obtain ⟨k, M, hkm, rfl, hcr, hgo, hbl⟩ := hrel
    have HCR := Lib.hid hcr
    have HG := Lib.hid (And.intro hgo hbl)
    clear hcr hgo hbl H1
    by_cases hlt : k < m
    · have hlt' : (k : Int) < m := by omega
      have hk60 : k ≤ 60 := by omega
      have hlM : M.length ≤ 1000 := by have := HCR.out.l; omega
      have hlM2 : (cput M 3 k k).length ≤ 1001 := by have := length_put_le HCR.out.s 3 k k; omega
      have HLM := Lib.hid (And.intro hlM hlM2)
      clear hlM hlM2
      have tokd : True := trivial
      gi_wp2_with (first
        | (refine ⟨trivial, ?_⟩; gi_at_call 22; have _t := tokd; refine (callsIn_wide.2 (grid_Set_own_I HG.out.1 HG.out.2.size (by have := HLM.out.1; omega) WF3.out (WFK.out k hk60))).mono ?_; rintro e w2 ⟨rfl, ho2, hb2⟩; have H2 := Lib.hid (And.intro ho2 (HG.out.2.trans hb2)); clear ho2 hb2 tokd)
        | (refine ⟨trivial, ?_⟩; gi_at_call 22; refine (callsIn_wide.2 (grid_Set_own_I H2.out.1 H2.out.2.size (by have := HLM.out.2; omega) (WFK.out k hk60) WF3.out)).mono ?_; rintro e w3 ⟨rfl, ho3, hb3⟩; have H3 := Lib.hid (And.intro ho3 (H2.out.2.trans hb3)); clear ho3 hb3)
        | fail)
      go_roundw
      case rel => exact ⟨k + 1, _, by omega, by go_num, HCR.out.step, H3.out⟩
      case measure => simp [intOf]; omega
    · have hge : ¬ (k : Int) < m := by omega
      obtain rfl : k = m := by omega
      obtain ⟨F, hF, hF2⟩ := HG.out.1
      have HF := Lib.hid hF
      clear hF hF2
      have hlM : M.length ≤ 1000 := by have := HCR.out.l; omega
      have HLM := Lib.hid hlM
      clear hlM
      gi_wp2_with (first
        | (refine ⟨trivial, ?_⟩; gi_at_call 18; refine (callsIn_wide.2 (grid_Row_I HF.out (by have := HLM.out; omega) WF3.out)).mono ?_; rw [HCR.out.row]; rintro e w2 ⟨f, rfl, hway, hb⟩; obtain ⟨gf, lb, rfl, hw1⟩ := hway; have H2 := Lib.hid (And.intro hw1 hb); clear hw1 hb)
        | (refine ⟨trivial, ?_⟩; gi_at_call 19; refine (callsIn_wide.2 (grid_Column_I (HF.out.keep (Grow.of_below H2.out.2) (fun k hk => H2.out.2.block k (HF.out.2.2.1 k hk))) (by have := HLM.out; omega) WF3.out)).mono ?_; rw [HCR.out.col]; rintro e w3 ⟨f, rfl, hway, hb⟩; obtain ⟨gf', lb', rfl, hw1⟩ := hway; have H3 := Lib.hid (And.intro hw1 hb); have q1 := Q1.out; clear hw1 hb)
        | fail)
      obtain ⟨hB0, x0, x1, hs0, hs, hrb⟩ := H0.out
      rw [← hs] at x0 x1 hs0 ⊢
      rw [← hrb] at x1 ⊢
      have hb3 : Below w0.heap.size w0 w3 := HG.out.2.trans ((H2.out.2.trans (H3.out.2.mono H2.out.2.size)).mono HG.out.2.size)
      obtain ⟨jb, hjb⟩ : ∃ jb, jb = w3.heap.size := ⟨_, rfl⟩
      obtain ⟨kb, hkb⟩ : ∃ kb, kb = jb + 1 := ⟨_, rfl⟩
      obtain ⟨wA, hwA⟩ : ∃ wA, wA = (w3.alloc (.cells #[.int .i64 0] 3)).alloc (.cells #[.int .i64 0] 3) := ⟨_, rfl⟩
      rw [← hwA]
      have hB3A : Below w3.heap.size w3 wA := by rw [hwA]; exact ((Below.refl _ w3).alloc (Nat.le_refl _) _).alloc (by simp) _
      have hsA : wA.heap.size = jb + 2 := by rw [hwA, hjb]; simp
      have y0 : Boxed wA s 3 (.int .i64 (t : Nat)) := (hB3A.block s (by have := hb3.size; omega)).trans ((hb3.block s (by omega)).trans x0)
      have y1 : Boxed wA rb 4 (.bool false) := (hB3A.block rb (by have := hb3.size; omega)).trans ((hb3.block rb (by omega)).trans x1)
      have y2 : Boxed wA jb 3 (.int .i64 0) := by rw [hwA, hjb]; exact (Boxed.new w3 _ _).alloc _
      have y3 : Boxed wA kb 3 (.int .i64 0) := by
        have := Boxed.new (w3.alloc (.cells #[.int .i64 0] 3)) 3 (.int .i64 0)
        rw [World.size_alloc, ← hjb] at this
        rw [hwA, hkb]; exact this
      rw [← hjb]
      try rw [← hkb]
      have l0 : s < rb := by omega
      have l1 : rb < jb := by have := hb3.size; omega
      have l2 : jb < kb := by omega
      have l3 : kb < wA.heap.size := by omega
      have HA := Lib.hid (And.intro hB0 (And.intro hb3 (And.intro hB3A (And.intro hs (And.intro hsA hjb)))))
      have HY := Lib.hid (And.intro y1 y3)
      have hsb : w2.heap.size ≤ w3.heap.size := H3.out.2.size
      have hBA2 : Below w2.heap.size w2 wA := H3.out.2.trans (hB3A.mono hsb)
      have h2j : w2.heap.size ≤ jb := by omega
      clear hB0 x0 x1 hs0 hs hrb hb3 hjb hkb hwA hB3A hsA y1 y3 c0 H0 HW0 HF HLM HG hsb
      refine range_outerU (n := 0) (gf := gf) (lb := lb) rfl H2.out.1.1 (H2.out.1.2 0) (Grow.of_below hBA2) (fun k hk => ⟨hk, hBA2.block k hk⟩) (fun _ => rfl)
        (fun k => k = jb) (by rintro k rfl; omega) (StpA wA.heap.size s jb t) (StpX 2 wA.heap.size s jb t) (StpA.stab (by omega) (by omega)) (StpX.stab (by omega) (by omega))
        ⟨by show 0 < t; omega, y0, y2, fun _ h => h, Nat.le_refl _⟩
        (fun x T => (((T.setIfInBounds 56 (.int .i64 x.1)).setIfInBounds 57 (.int .i64 x.2)).setIfInBounds 11 (.int .i64 x.1)).setIfInBounds 12 (.int .i64 x.2)) ?assign ?body (fun Φ W => (∀ k, ¬ Φ k) ∧ Boxed W jb 3 (.int .i64 (min k t : Nat))) ?f1 ?f2 ?fin
      case assign =>
        intro l x W K hK
        simp only [encs_I]
        gi_wp2
        exact hK
      case body =>
        rintro l pre x Φ W hpx ⟨hpt, hI⟩ hl hΦ -
        obtain ⟨rfl, hpn⟩ := diag_pre hpx
        obtain ⟨p, hp⟩ : ∃ p, p = pre.length := ⟨_, rfl⟩
        have hlen : (pre ++ [((pre.length : Int), (pre.length : Int))]).length = p + 1 := by simp [hp]
        rw [← hp] at hpt hI hpn ⊢
        obtain ⟨p1, hp1⟩ : ∃ p1, p1 = p + 1 := ⟨_, rfl⟩
        rw [← hp1, ← hp] at hlen
        have he1 : ((p1 : Nat) : Int) = (p : Int) + 1 := by omega
        have hp0 : ¬ (p : Int) < 0 := by omega
        have hI2 := (hI.step (by omega) p1).1
        have hO2 := (hI.step (by omega) p1).2
        rw [he1] at hO2
        have c1 := hI.bj.cell
        have c0 := hI.bs.cell
        have f1 := hI.bj.frozen
        have d1 := hI2.bj.cell
        have d0 := hI2.bs.cell
        rw [he1] at d0 d1 hI2
        have HI2 := Lib.hid (And.intro hI2 hO2)
        have HLE := Lib.hid hlen
        have hts : t ≤ p1 ↔ (t : Int) ≤ (p : Int) + 1 := by omega
        have HP1 := Lib.hid hp1
        clear hI hI2 hO2 hlen hpx hp he1 hp1
        by_cases hge : t ≤ p1
        · have dge : decide ((t : Int) ≤ (p : Int) + 1) = true := decide_eq_true (hts.1 hge)
          gi_wp2_with fail
          exact ⟨Φ, fun k h => .inl h, HI2.out.2, rfl, by rw [HLE.out]; have := HP1.out; omega, by rw [HLE.out]; exact HI2.out.1⟩
        · have dge : decide ((t : Int) ≤ (p : Int) + 1) = false := decide_eq_false (fun h => hge (hts.2 h))
          gi_wp2_with fail
          exact ⟨Φ, fun k h => .inl h, HI2.out.2, by rw [HLE.out]; omega, by rw [HLE.out]; exact HI2.out.1⟩
      case f1 =>
        rintro Φ W ⟨h0, hI⟩
        rw [diag_len] at h0 hI
        rw [Nat.min_eq_left (by omega)]
        exact ⟨hI.no, hI.bj⟩
      case f2 =>
        rintro c pre Φ W hpre ⟨rfl, h0, hI⟩
        have := hpre.length_le
        rw [diag_len] at this
        rw [h0] at hI
        rw [Nat.min_eq_right (by omega)]
        exact ⟨rfl, hI.no, hI.bj⟩
      case fin =>
        intro D Φ W3 ⟨hno, hbj⟩ hon hD hnD hK
        have hWs : wA.heap.size ≤ W3.heap.size := hon.grow.size
        have hDl : D < W3.heap.size := (Array.getElem?_eq_some_iff.1 hK).1
        have hk3 : ∀ k, k < wA.heap.size → k ≠ jb → W3.heap[k]? = wA.heap[k]? := fun k hk hne => hon.block k hk hne (fun h => h)
        have z0 : Boxed W3 s 3 (.int .i64 (t : Nat)) := (hk3 s (by omega) (by omega)).trans y0
        have z1 : Boxed W3 rb 4 (.bool false) := (hk3 rb (by omega) (by omega)).trans HY.out.1
        have z3 : Boxed W3 kb 3 (.int .i64 0) := (hk3 kb (by omega) (by omega)).trans HY.out.2
        have hg3 : Grow w3 W3 := (Grow.of_below HA.out.2.2.1).trans hon.grow
        have h3j : w3.heap.size ≤ jb := by have := HA.out.2.2.2.2.2; omega
        have hG3 : ∀ k, k < w3.heap.size → k < w3.heap.size ∧ W3.heap[k]? = w3.heap[k]? := fun k hk => ⟨hk, (hk3 k (by omega) (by omega)).trans (HA.out.2.2.1.block k hk)⟩
        have HD := Lib.hid (And.intro hK (And.intro hD hDl))
        have HON := Lib.hid hon
        have HZ := Lib.hid (And.intro hbj z1)
        clear hK hon hbj hno hnD hk3 y0 y2 HY
        gi_wp2_with fail
        refine range_outerU (n := 0) (gf := gf') (lb := lb') rfl H3.out.1.1 (H3.out.1.2 0) hg3 hG3 (fun _ => rfl)
          (fun k => k = kb) (by rintro k rfl; omega) (StpA W3.heap.size s kb t) (StpX 4 W3.heap.size s kb t) (StpA.stab (by omega) (by omega)) (StpX.stab (by omega) (by omega))
          ⟨by show 0 < t; omega, z0, z3, fun _ h => h, Nat.le_refl _⟩
          (fun x T => (((T.setIfInBounds 71 (.int .i64 x.1)).setIfInBounds 72 (.int .i64 x.2)).setIfInBounds 13 (.int .i64 x.1)).setIfInBounds 14 (.int .i64 x.2)) ?assign2 ?body2 (fun Φ W => (∀ k, ¬ Φ k) ∧ Boxed W kb 3 (.int .i64 (min k t : Nat))) ?g1 ?g2 ?gfin
        case assign2 =>
          intro l x W K hK
          simp only [encs_I]
          gi_wp2
          exact hK
        case body2 =>
          rintro l pre x Φ W hpx ⟨hpt, hI⟩ hl hΦ -
          obtain ⟨rfl, hpn⟩ := diag_pre hpx
          obtain ⟨p, hp⟩ : ∃ p, p = pre.length := ⟨_, rfl⟩
          have hlen : (pre ++ [((pre.length : Int), (pre.length : Int))]).length = p + 1 := by simp [hp]
          rw [← hp] at hpt hI hpn ⊢
          obtain ⟨p1, hp1⟩ : ∃ p1, p1 = p + 1 := ⟨_, rfl⟩
          rw [← hp1, ← hp] at hlen
          have he1 : ((p1 : Nat) : Int) = (p : Int) + 1 := by omega
          have hp0 : ¬ (p : Int) < 0 := by omega
          have hI2 := (hI.step (by omega) p1).1
          have hO2 := (hI.step (by omega) p1).2
          rw [he1] at hO2
          have c1 := hI.bj.cell
          have c0 := hI.bs.cell
          have f1 := hI.bj.frozen
          have d1 := hI2.bj.cell
          have d0 := hI2.bs.cell
          rw [he1] at d0 d1 hI2
          have HI2 := Lib.hid (And.intro hI2 hO2)
          have HLE := Lib.hid hlen
          have hts : t ≤ p1 ↔ (t : Int) ≤ (p : Int) + 1 := by omega
          have HP1 := Lib.hid hp1
          clear hI hI2 hO2 hlen hpx hp he1 hp1
          by_cases hge : t ≤ p1
          · have dge : decide ((t : Int) ≤ (p : Int) + 1) = true := decide_eq_true (hts.1 hge)
            gi_wp2_with fail
            exact ⟨Φ, fun k h => .inl h, HI2.out.2, rfl, by rw [HLE.out]; have := HP1.out; omega, by rw [HLE.out]; exact HI2.out.1⟩
          · have dge : decide ((t : Int) ≤ (p : Int) + 1) = false := decide_eq_false (fun h => hge (hts.2 h))
            gi_wp2_with fail
            exact ⟨Φ, fun k h => .inl h, HI2.out.2, by rw [HLE.out]; omega, by rw [HLE.out]; exact HI2.out.1⟩
        case g1 =>
          rintro Φ W ⟨h0, hI⟩
          rw [diag_len] at h0 hI
          rw [Nat.min_eq_left (by omega)]
          exact ⟨hI.no, hI.bj⟩
        case g2 =>
          rintro c pre Φ W hpre ⟨rfl, h0, hI⟩
          have := hpre.length_le
          rw [diag_len] at this
          rw [h0] at hI
          rw [Nat.min_eq_right (by omega)]
          exact ⟨rfl, hI.no, hI.bj⟩
        case gfin =>
          intro D' Φ' W5 ⟨hno', hbk⟩ hon' hD' hnD' hK'
          have hk5 : ∀ k, k < W3.heap.size → k ≠ kb → W5.heap[k]? = W3.heap[k]? := fun k hk hne => hon'.block k hk hne (fun h => h)
          have v0 : Boxed W5 s 3 (.int .i64 (t : Nat)) := (hk5 s (by omega) (by omega)).trans z0
          have v1 : Boxed W5 rb 4 (.bool false) := (hk5 rb (by omega) (by omega)).trans HZ.out.2
          have v2 : Boxed W5 jb 3 (.int .i64 (min k t : Nat)) := (hk5 jb (by omega) (by omega)).trans HZ.out.1
          have hDn : D ≠ kb := by have := HD.out.2.1; omega
          have v3 : W5.heap[D]? = some (.deferred (some [])) := (hk5 D (by omega) hDn).trans HD.out.1
          obtain ⟨mn, hmn⟩ : ∃ mn, mn = min k t := ⟨_, rfl⟩
          rw [← hmn] at v2 hbk
          have c0 := v0.cell
          have c1 := v1.cell
          have c2 := v2.cell
          have c3 := hbk.cell
          have f1 := v1.frozen
          have HV := Lib.hid (And.intro v1 (And.intro v3 (And.intro hon' (And.intro hK' hD'))))
          have hmi : (mn : Int) = min (k : Int) (t : Int) := by rw [hmn]; omega
          clear v0 v1 v2 v3 hbk hon' hK' hk5 hmn z0 z1 z3 hno' hnD' hg3 hG3 HZ
          gi_wp2_with (first
            | (refine ⟨trivial, ?_⟩; gi_at_call 15; refine (callsIn_wide.2 (law_known _)).mono ?_; rintro e w9 ⟨rfl, hb⟩; have b9 : Boxed w9 rb 4 (.bool false) := (hb.block rb HV.out.1.lt).trans HV.out.1; have g1 := b9.cell; have g2 := b9.frozen; have H9 := Lib.hid hb; have HB9 := Lib.hid b9; clear hb b9)
            | fail)
          obtain ⟨w10, hw10⟩ : ∃ w10, w10 = w9.setCell ⟨rb, 0, none⟩ (.bool true) := ⟨_, rfl⟩
          rw [← hw10]
          obtain ⟨v1, v3, hon', hK', hD'⟩ := HV.out
          obtain ⟨hK, hD, hDl⟩ := HD.out
          have hon := HON.out
          obtain ⟨hB0, hb3, hB3A, hs, hsA, hjw⟩ := HA.out
          have h9 := H9.out
          have hDl' : D' < W5.heap.size := (Array.getElem?_eq_some_iff.1 hK').1
          have hs35 : W3.heap.size ≤ W5.heap.size := hon'.grow.size
          have hs59 : W5.heap.size ≤ w9.heap.size := h9.size
          have hs03 := hb3.size
          have hs00 := hB0.size
          have ho10 : ∀ k, k ≠ rb → w10.heap[k]? = w9.heap[k]? := fun k hk => by rw [hw10]; exact Below.heap_setCell _ _ _ k hk
          have hs10 : w10.heap.size = w9.heap.size := by rw [hw10]; simp [World.setCell]
          have b10 : Boxed w10 rb 4 (.bool true) := by rw [hw10]; exact HB9.out.set _
          refine marks_leave [D', D] w10 (by simp; omega) (fun d hd => ?_) (fun w' hg hk => ⟨.bool true, ?_, rfl, ?_⟩)
          · simp only [List.mem_cons, List.not_mem_nil, or_false] at hd
            rcases hd with rfl | rfl
            · rw [ho10 _ (by omega), h9.block _ hDl']; exact hK'
            · rw [ho10 _ (by omega), h9.block _ (by omega)]; exact v3
          · have hb : Boxed w' rb 4 (.bool true) := (hk rb (by simp; omega)).trans b10
            have hc := hb.cell
            simp [results, Try.results6, go_sem, hc]
          · have hgA : Grow wA w' := ((hon.grow.trans hon'.grow).trans (Grow.of_below h9)).trans (Grow.trans (by rw [hw10]; exact ⟨rfl, rfl, rfl, by simp [World.setCell]⟩) hg)
            have hg0 : Grow w w' := ((Grow.of_below hB0).trans (Grow.of_below hb3)).trans ((Grow.of_below hB3A).trans hgA)
            refine ⟨hg0.os, hg0.tape, hg0.output, hg0.size, fun j hj => ?_⟩
            rw [hk j (by simp; omega), ho10 j (by omega), h9.block j (by omega), hon'.block j (by omega) (by omega) (fun h => h), hon.block j (by omega) (by omega) (fun h => h), hB3A.block j (by omega), hb3.block j (by omega)]
            exact hB0.block j hj
end Go.Proofs.Ytlfngdfbimcjhaa
