/-
  The law GridMeanwhile, walked.
-/
import Derived.Test.YtlfngdfbimcjhaaRgF
import Derived.Test.YtlfngdfbimcjhaaStilR
import Derived.BigRegion
import Derived.RegionTactic
import Derived.Shelf.Abstract
import Derived.Shelf.RegionOpen
import Derived.LoopNIn
import Derived.LoopIn
namespace Go.Proofs.Ytlfngdfbimcjhaa
open Go.RowKit Go.Maps Go.Shelf
attribute [local go_sem] Oper.semAt_some
set_option linter.unusedVariables false
set_option linter.unusedSimpArgs false
set_option linter.constructorNameAsVariable false

set_option maxHeartbeats 4000000 in
set_option maxRecDepth 100000 in
theorem gridMeanwhile_walk (v : Value) (l : List A4) (v2 : Value) (m : List A4) (wy : Int) (ww : (Lit.int .i64 wy).wf = true) (at_ : Int) (wa : (Lit.int .i64 at_).wf = true) (w : World) (hr : RdS actR w v l) (hm : l.length ≤ maxLen ∧ ∀ x ∈ l, ActWf x) (hr2 : RdS actR w v2 m) (hm2 : m.length ≤ maxLen ∧ ∀ x ∈ m, ActWf x) :
    Calls Try.prog 5 #[v, v2, .int .i64 wy, .int .i64 at_] w fun e w' => e = .returned (.bool true) ∧ Below w.heap.size w w' := by
  have hr0 := hr
  obtain ⟨ao, cap, rfl, -⟩ := hr0
  obtain ⟨L, hL⟩ : ∃ L, L = l.length := ⟨_, rfl⟩
  have hr02 := hr2
  obtain ⟨ao2, cap2, rfl, -⟩ := hr02
  obtain ⟨L2, hL2⟩ : ∃ L2, L2 = m.length := ⟨_, rfl⟩
  rw [← hL] at hr ⊢
  rw [← hL2] at hr2 ⊢
  refine (callsIn_wide (n := 3)).1 ?_
  have q1 : ∀ g lb w, (binOp .eql 44 (.func g #[] lb) .nilFunc).run Try.prog w = .ok (.bool false) w := fun g lb w => by kernel_rfl
  have mixed : Try.prog.follows .mixedOrders = true := by kernel_rfl
  refine callsIn_of_wp_marks Try.func5 rfl trivial ?_ rfl
  simp only [Try.ntmps5, List.size_toArray, List.length_cons, List.length_nil, Nat.reduceAdd, Nat.reduceSub, Array.replicate_succ, Array.replicate_zero, List.push_toArray, List.append_toArray, List.nil_append, List.cons_append]
  by_cases hbad : 10000 < (L : Int) ∨ 10000 < (L2 : Int) ∨ wy < 0 ∨ 1 < wy
  · have hex : 10000 < (L : Int) ∨ (¬ 10000 < (L : Int) ∧ 10000 < (L2 : Int)) ∨ (¬ 10000 < (L : Int) ∧ ¬ 10000 < (L2 : Int) ∧ wy < 0) ∨ (¬ 10000 < (L : Int) ∧ ¬ 10000 < (L2 : Int) ∧ ¬ wy < 0 ∧ 1 < wy) := by omega
    clear hbad hr hr2 hm hm2 hL hL2
    rcases hex with h | ⟨h1, h⟩ | ⟨h1, h2, h⟩ | ⟨h1, h2, h3, h⟩
    all_goals gi_wp2_with fail
    all_goals exact ⟨.bool true, by simp [results, Try.results5, go_sem], rfl, (((Below.refl _ w).alloc (Nat.le_refl _) _).alloc (by simp) _).alloc (by simp; omega) _⟩
  have h1 : ¬ 10000 < (L : Int) := by omega
  have h2 : ¬ 10000 < (L2 : Int) := by omega
  have h3 : ¬ wy < 0 := by omega
  have h4 : ¬ 1 < wy := by omega
  have hL10 : L ≤ 10000 := by omega
  have hL210 : L2 ≤ 10000 := by omega
  obtain ⟨w0, hw0⟩ : ∃ w0, w0 = ((w.alloc (.cells #[.slice ao2 L2 cap2] 22)).alloc (.cells #[.int .i64 wy] 3)).alloc (.cells #[.bool false] 4) := ⟨_, rfl⟩
  obtain ⟨mb, hmb⟩ : ∃ mb, mb = w.heap.size := ⟨_, rfl⟩
  obtain ⟨wb, hwb⟩ : ∃ wb, wb = mb + 1 := ⟨_, rfl⟩
  obtain ⟨rb, hrb⟩ : ∃ rb, rb = wb + 1 := ⟨_, rfl⟩
  have hB0 : Below w.heap.size w w0 := by rw [hw0]; exact (((Below.refl _ w).alloc (Nat.le_refl _) _).alloc (by simp) _).alloc (by simp; omega) _
  have hs0 : w0.heap.size = mb + 3 := by rw [hw0, hmb]; simp
  have x0 : Boxed w0 mb 22 (.slice ao2 L2 cap2) := by rw [hw0, hmb]; exact ((Boxed.new w _ _).alloc _).alloc _
  have x1 : Boxed w0 wb 3 (.int .i64 wy) := by
    have := (Boxed.new (w.alloc (.cells #[.slice ao2 L2 cap2] 22)) 3 (.int .i64 wy)).alloc (.cells #[.bool false] 4)
    rw [World.size_alloc, ← hmb, ← hwb] at this
    rw [hw0]; exact this
  have x2 : Boxed w0 rb 4 (.bool false) := by
    have := Boxed.new ((w.alloc (.cells #[.slice ao2 L2 cap2] 22)).alloc (.cells #[.int .i64 wy] 3)) 4 (.bool false)
    rw [World.size_alloc, World.size_alloc, ← hmb, ← hwb, ← hrb] at this
    rw [hw0]; exact this
  have c5 : (((w.alloc (.cells #[.slice ao2 L2 cap2] 22)).alloc (.cells #[.int .i64 wy] 3)).alloc (.cells #[.bool false] 4)).cell? ⟨w.heap.size, 0, none⟩ = some (.slice ao2 L2 cap2) := by rw [← hw0, ← hmb]; exact x0.cell
  have c6 : (((w.alloc (.cells #[.slice ao2 L2 cap2] 22)).alloc (.cells #[.int .i64 wy] 3)).alloc (.cells #[.bool false] 4)).cell? ⟨w.heap.size + 1, 0, none⟩ = some (.int .i64 wy) := by rw [← hw0, ← hmb, ← hwb]; exact x1.cell
  have HR := Lib.hid (And.intro (RdS.below (N := 0) hr hB0) hm)
  have HR2 := Lib.hid (And.intro hr2 (And.intro hm2 hL2))
  have H0 := Lib.hid (And.intro hB0 (And.intro x0 (And.intro x1 (And.intro x2 (And.intro hs0 (And.intro hmb (And.intro hwb hrb)))))))
  have HW0 := Lib.hid hw0
  have HWA := Lib.hid wa
  have Q1 := Lib.hid q1
  have MIX := Lib.hid mixed
  clear hB0 hs0 x0 x1 x2 hr hr2 hm hm2 hL hL2 hbad hw0 wa ww q1 mixed hmb hwb hrb
  have hwy : wy = 0 ∨ wy = 1 := by omega
  clear h3 h4
  rcases hwy with rfl | rfl
  all_goals gi_wp2_with (first
    | (refine ⟨trivial, ?_⟩; gi_at_call 16; rw [← HW0.out, ← H0.out.2.2.2.2.2.1, ← H0.out.2.2.2.2.2.2.1, ← H0.out.2.2.2.2.2.2.2]; refine (callsIn_wide.2 (law_built _ l w0 HR.out.1 HR.out.2)).mono ?_; rintro e w1 ⟨g, yb, M, rfl, hlM, hX, hb1⟩; have H1 := Lib.hid (And.intro hX (And.intro hb1 hlM)); clear hX hb1 hlM)
    | (refine ⟨trivial, ?_⟩; gi_at_call 20; obtain ⟨w2, hw2⟩ : ∃ w2, w2 = (w1.alloc (.cells #[.pointer (some ⟨g, 0, none⟩)] 23)).alloc (.cells #[.pointer (some ⟨yb, 0, none⟩)] 25) := ⟨_, rfl⟩; obtain ⟨gb, hgb⟩ : ∃ gb, gb = w1.heap.size := ⟨_, rfl⟩; obtain ⟨xb, hxb⟩ : ∃ xb, xb = gb + 1 := ⟨_, rfl⟩; have hb2 : Below w1.heap.size w1 w2 := (by rw [hw2]; exact ((Below.refl _ w1).alloc (Nat.le_refl _) _).alloc (by simp) _); have z9 : Boxed w2 gb 23 (.pointer (some ⟨g, 0, none⟩)) := (by rw [hw2, hgb]; exact (Boxed.new w1 _ _).alloc _); have z10 : Boxed w2 xb 25 (.pointer (some ⟨yb, 0, none⟩)) := (by have h := Boxed.new (w1.alloc (.cells #[.pointer (some ⟨g, 0, none⟩)] 23)) 25 (.pointer (some ⟨yb, 0, none⟩)); rw [World.size_alloc, ← hgb, ← hxb] at h; rw [hw2]; exact h); have hs2 : w2.heap.size = gb + 2 := (by rw [hw2, hgb]; simp); rw [← hw2, ← hgb]; try rw [← hxb]; obtain ⟨vr, hvr⟩ := (H1.out.1.below hb2).ref; refine (callsIn_wide.2 (ref_Row yb vr M at_ w2 hvr (by have := H1.out.2.2; omega))).mono ?_; rintro e w3 ⟨u, rfl, hu, hb3⟩; obtain ⟨n0, hn0⟩ : ∃ n0, n0 = (rowC M at_).length := ⟨_, rfl⟩; obtain ⟨ab0, ac0, rfl⟩ := hu.lenAt hn0; have hB4 : Below w3.heap.size w3 (w3.alloc (.cells #[.slice ab0 n0 ac0] 26)) := (Below.refl _ w3).alloc (Nat.le_refl _) _; have c9 : (w3.alloc (.cells #[.slice ab0 n0 ac0] 26)).cell? ⟨gb, 0, none⟩ = some (.pointer (some ⟨g, 0, none⟩)) := Boxed.cell (show Boxed _ gb 23 _ from (hB4.block gb (by have := hb3.size; omega)).trans ((hb3.block gb (by omega)).trans z9)); have H2 := Lib.hid (And.intro hb2 (And.intro z9 (And.intro z10 (And.intro hs2 (And.intro hgb hxb))))); have H3 := Lib.hid (And.intro hb3 (And.intro hu hn0)); clear hb2 z9 z10 hs2 hw2 hgb hxb hvr hb3 hu hn0 hB4)
    | (refine ⟨trivial, ?_⟩; gi_at_call 18; obtain ⟨w4, hw4⟩ : ∃ w4, w4 = w3.alloc (.cells #[.slice ab0 n0 ac0] 26) := ⟨_, rfl⟩; obtain ⟨pb, hpb⟩ : ∃ pb, pb = w3.heap.size := ⟨_, rfl⟩; rw [← hw4, ← hpb]; have hb34 : Below w3.heap.size w3 w4 := (by rw [hw4]; exact (Below.refl _ w3).alloc (Nat.le_refl _) _); have hb24 : Below w2.heap.size w2 w4 := H3.out.1.trans (hb34.mono H3.out.1.size); have hb14 : Below w1.heap.size w1 w4 := H2.out.1.trans (hb24.mono H2.out.1.size); have z11 : Boxed w4 pb 26 (.slice ab0 n0 ac0) := (by rw [hw4, hpb]; exact Boxed.new w3 _ _); obtain ⟨F, hF, hF2⟩ := (H1.out.1.below hb14).one; refine (callsIn_wide.2 (grid_Row_I hF (by have := H1.out.2.2; omega) HWA.out)).mono ?_; rw [← rowC_map]; rintro e w5 ⟨f, rfl, hway, hb5⟩; obtain ⟨gf, lb, rfl, hw1⟩ := hway; have hb15 : Below w1.heap.size w1 w5 := hb14.trans (hb5.mono hb14.size); have hb05 : Below w0.heap.size w0 w5 := H1.out.2.1.trans (hb15.mono H1.out.2.1.size); have y9 : Boxed w5 gb 23 _ := (hb5.block gb (by have := hb24.size; have := H2.out.2.2.2; omega)).trans ((hb24.block gb (by have := H2.out.2.2.2; omega)).trans H2.out.2.1); have y10 : Boxed w5 xb 25 _ := (hb5.block xb (by have := hb24.size; have := H2.out.2.2.2; omega)).trans ((hb24.block xb (by have := H2.out.2.2.2; omega)).trans H2.out.2.2.1); have y11 : Boxed w5 pb 26 _ := (hb5.block pb z11.lt).trans z11; have y6 : Boxed w5 wb 3 _ := (hb05.block wb H0.out.2.2.1.lt).trans H0.out.2.2.1; have d6 := y6.cell; have d10 := y10.cell; have H4 := Lib.hid (And.intro hw1 (And.intro hb15 (And.intro hpb (And.intro (OwnR.of (H3.out.2.1.later (hb34.trans (hb5.mono hb34.size))) H2.out.1.size (fun k hk => rfl)) (And.intro y9 (And.intro y10 y11)))))); have q1 := Q1.out; clear hw4 hpb hb34 hb24 hb14 z11 hF hF2 hw1 hb5 hb15 hb05 y9 y10 y11 y6 c9)
    | (refine ⟨trivial, ?_⟩; gi_at_call 21; obtain ⟨vr2, hvr2⟩ := (H1.out.1.below H4.out.2.1).ref; refine (callsIn_wide.2 (ref_Column yb vr2 M at_ w5 hvr2 (by have := H1.out.2.2; omega))).mono ?_; rintro e w6 ⟨u, rfl, hu, hb6⟩; obtain ⟨n1, hn1⟩ : ∃ n1, n1 = (colC M at_).length := ⟨_, rfl⟩; obtain ⟨ab1, ac1, rfl⟩ := hu.lenAt hn1; have y11 : Boxed w6 pb 26 _ := (hb6.block pb H4.out.2.2.2.2.2.2.lt).trans H4.out.2.2.2.2.2.2; have f11 := y11.frozen; have d11 := y11.cell; have y9 : Boxed w6 gb 23 _ := (hb6.block gb H4.out.2.2.2.2.1.lt).trans H4.out.2.2.2.2.1; have e9 : (w6.setCell ⟨pb, 0, none⟩ (.slice ab1 n1 ac1)).cell? ⟨gb, 0, none⟩ = some (.pointer (some ⟨g, 0, none⟩)) := Boxed.cell (show Boxed _ gb 23 _ from (Below.heap_setCell _ _ _ gb (by have := H4.out.2.2.1; have := H3.out.1.size; have := H2.out.2.2.2; show gb ≠ pb; omega)).trans y9); have H5 := Lib.hid (And.intro hb6 (And.intro hu hn1)); clear hvr2 hu hb6 hn1 y11 y9)
    | (refine ⟨trivial, ?_⟩; gi_at_call 19; obtain ⟨w7, hw7⟩ : ∃ w7, w7 = w6.setCell ⟨pb, 0, none⟩ (.slice ab1 n1 ac1) := ⟨_, rfl⟩; rw [← hw7]; have hp1 : w1.heap.size ≤ pb := (by have := H4.out.2.2.1; have := H3.out.1.size; have := H2.out.1.size; omega); have hgp : gb < pb ∧ xb < pb ∧ pb < w5.heap.size := (by have := H4.out.2.2.1; have := H3.out.1.size; have := H2.out.2.2.2; have := H4.out.2.2.2.2.2.2.lt; omega); have hk7 : ∀ k, k ≠ pb → w7.heap[k]? = w6.heap[k]? := (fun k hk => by rw [hw7]; exact Below.heap_setCell _ _ _ k hk); have hg7 : Grow w6 w7 := (by rw [hw7]; exact ⟨rfl, rfl, rfl, by simp [World.setCell]⟩); have hb16 : Below w1.heap.size w1 w6 := H4.out.2.1.trans (H5.out.1.mono H4.out.2.1.size); have hb17 : Below w1.heap.size w1 w7 := ⟨hg7.os.trans hb16.os, hg7.tape.trans hb16.tape, hg7.output.trans hb16.output, Nat.le_trans hb16.size hg7.size, fun k hk => (hk7 k (by omega)).trans (hb16.block k hk)⟩; have z11 : Boxed w7 pb 26 (.slice ab1 n1 ac1) := (by rw [hw7]; exact (show Boxed w6 pb 26 _ from (H5.out.1.block pb hgp.2.2).trans H4.out.2.2.2.2.2.2).set _); have zo : OwnR cellR w1.heap.size (.slice ab1 n1 ac1) (colC M at_) w7 := OwnR.of H5.out.2.1 H4.out.2.1.size (fun k hk => hk7 k (by have := (H5.out.2.1.block hk).1; omega)); obtain ⟨F, hF, hF2⟩ := (H1.out.1.below hb17).one; refine (callsIn_wide.2 (grid_Column_I hF (by have := H1.out.2.2; omega) HWA.out)).mono ?_; rw [← colC_map]; rintro e w8 ⟨f, rfl, hway, hb8⟩; obtain ⟨gf', lb', rfl, hw1⟩ := hway; have s57 : w5.heap.size ≤ w7.heap.size := Nat.le_trans H5.out.1.size hg7.size; have y9 : Boxed w8 gb 23 _ := (hb8.block gb (by omega)).trans ((hk7 gb (by omega)).trans ((H5.out.1.block gb (by omega)).trans H4.out.2.2.2.2.1)); have y10 : Boxed w8 xb 25 _ := (hb8.block xb (by omega)).trans ((hk7 xb (by omega)).trans ((H5.out.1.block xb (by omega)).trans H4.out.2.2.2.2.2.1)); have y11 : Boxed w8 pb 26 _ := (hb8.block pb z11.lt).trans z11; have H6 := Lib.hid (And.intro hw1 (And.intro (hb17.trans (hb8.mono hb17.size)) (And.intro hp1 (And.intro (zo.later hb8) (And.intro y9 (And.intro y10 y11)))))); clear hw7 hp1 hgp hk7 hg7 hb16 hb17 z11 zo hF hF2 hw1 hb8 s57 y9 y10 y11 f11 d11 e9)
    | fail)
  · obtain ⟨hB0, x0, x1, x2, hs0, hmb, hwb, hrb⟩ := H0.out
    obtain ⟨hww, hb1E, -, hown, y9, y10, y11⟩ := H4.out
    have s01 := H1.out.2.1.size
    have s1E := hb1E.size
    obtain ⟨wS, hwS⟩ : ∃ wS, wS = w5.alloc (.cells #[.int .i64 0] 3) := ⟨_, rfl⟩
    obtain ⟨nb, hnb⟩ : ∃ nb, nb = w5.heap.size := ⟨_, rfl⟩
    have hES : Below w5.heap.size w5 wS := by rw [hwS]; exact (Below.refl _ _).alloc (Nat.le_refl _) _
    have hsS : wS.heap.size = nb + 1 := by rw [hwS, hnb]; simp
    have y13 : Boxed wS nb 3 (.int .i64 ((0 : Nat) : Int)) := by rw [hwS, hnb]; exact Boxed.new w5 _ _
    rw [← hwS, ← hnb]
    have hb1S : Below w1.heap.size w1 wS := hb1E.trans (hES.mono s1E)
    have hb0S : Below w0.heap.size w0 wS := H1.out.2.1.trans (hb1S.mono s01)
    have hbwS : Below w.heap.size w wS := hB0.trans (hb0S.mono hB0.size)
    obtain ⟨R, hR, -⟩ := H1.out.1.toR
    have hR1 : ∀ k, R k → k < w1.heap.size := fun k hk => hR.lt hk
    have hnl : n0 = (rowC M at_).length := H3.out.2.2
    have hl1 : (rowC M at_).length ≤ 100 := Nat.le_trans (rowC_len M at_) H1.out.2.2
    obtain ⟨pc, hpc⟩ : ∃ pc, pc = rowC M at_ := ⟨_, rfl⟩
    rw [← hpc] at hnl hl1 hown hww
    have hgb : w1.heap.size ≤ gb ∧ w1.heap.size ≤ xb := by have := H2.out.2.2.2; omega
    have hpb : w1.heap.size ≤ pb := by have := H4.out.2.2.1; have := H3.out.1.size; have := H2.out.1.size; omega
    have hBk : ∀ k, MwB mb wb gb xb pb (.slice ab0 n0 ac0) k → (k < w0.heap.size ∨ w1.heap.size ≤ k) ∧ k < nb := by
      rintro k (rfl | rfl | rfl | rfl | rfl | h)
      · exact ⟨.inl (by omega), by omega⟩
      · exact ⟨.inl (by omega), by omega⟩
      · exact ⟨.inr hgb.1, by have := y9.lt; omega⟩
      · exact ⟨.inr hgb.2, by have := y10.lt; omega⟩
      · exact ⟨.inr hpb, by have := y11.lt; omega⟩
      · exact ⟨.inr (hown.block h).1, by have := (hown.block h).2; omega⟩
    have hB : ∀ k, MwB mb wb gb xb pb (.slice ab0 n0 ac0) k → k < wS.heap.size ∧ k ≠ nb := fun k hk => by have := (hBk k hk).2; omega
    have hI0 : MwI w w0.heap.size wS.heap.size mb wb gb xb pb nb (.slice ao2 L2 cap2) 0 g yb (.slice ab0 n0 ac0) pc 0 M R (fun _ => False) wS :=
      ⟨⟨hbwS, (hb0S.block mb x0.lt).trans x0, (hb0S.block wb x1.lt).trans x1, (hES.block gb y9.lt).trans y9, (hES.block xb y10.lt).trans y10, (hES.block pb y11.lt).trans y11, OwnR.of (hown.later hES) (Nat.zero_le _) (fun _ _ => rfl)⟩,
        y13, hR.keep (Grow.of_below hb1S) (fun k hk => hb1S.block k (hR1 k hk)), by have := H1.out.2.2; omega, fun k => ⟨fun h => h.elim, fun h => by have := hR1 k h.1; omega⟩,
        fun k hk => ⟨fun hb => by have h1 := (hBk k hb).1; have h2 := hR1 k hk; have h3 := hR.lo hk; omega, by have := hR1 k hk; omega⟩, Nat.le_refl _⟩
    have yr : Boxed wS rb 4 (.bool false) := (hb0S.block rb x2.lt).trans x2
    have hww0 : w.heap.size ≤ w0.heap.size := hB0.size
    have hN : w0.heap.size ≤ nb := by omega
    have hrb0 : rb < w0.heap.size := x2.lt
    have hrw : w.heap.size ≤ rb := by omega
    have HI := Lib.hid (And.intro hI0 (And.intro yr (And.intro hbwS hww)))
    have HBB := Lib.hid (And.intro hB hN)
    have HNL := Lib.hid (And.intro hnl hl1)
    have HR2' := Lib.hid HR2.out
    have hnbS : nb < wS.heap.size := by omega
    have hrS : rb ≠ nb := by omega
    have hmwr : ¬ MwB mb wb gb xb pb (.slice ab0 n0 ac0) rb ∨ True := .inr trivial
    clear hnl hl1 hnb s01 s1E hsS hB0 x0 x1 x2 hs0 hmb hwb hrb hown y9 y10 y11 hwS hb1E hR hR1 hpc hgb hpb hBk hI0 yr hb1S hb0S hbwS hww c5 c6 d6 d10 y13 hmwr
    refine range_outerU (n := 1) (gf := gf) (lb := lb) rfl HI.out.2.2.2.1 (HI.out.2.2.2.2 1) (Grow.of_below hES) (fun k hk => ⟨hk, hES.block k hk⟩) (fun _ => rfl)
      (MwP w0.heap.size wS.heap.size mb wb gb xb pb (.slice ab0 n0 ac0)) (fun k hk => hk.1) (MwJ w w0.heap.size wS.heap.size mb wb gb xb pb nb (.slice ao2 L2 cap2) 0 g yb (.slice ab0 n0 ac0) pc) (fun _ _ _ _ => False) (MwJ.stab HBB.out.1 hnbS hww0 (by omega)) (fun c _ _ _ h => h.elim)
      ⟨M, R, HI.out.1⟩
      (fun x T => (((T.setIfInBounds 58 (.int .i64 x.1)).setIfInBounds 59 (.int .i64 x.2)).setIfInBounds 14 (.int .i64 x.1)).setIfInBounds 15 (.int .i64 x.2)) ?assign0 ?body0 (fun Φ W => MwJ w w0.heap.size wS.heap.size mb wb gb xb pb nb (.slice ao2 L2 cap2) 0 g yb (.slice ab0 n0 ac0) pc (pc.map (fun x => (x.1.2, x.2))) Φ W) ?ff0 ?gg0 ?fin0
    case assign0 =>
      intro l x W K hK
      simp only [encs_I]
      gi_wp2
      exact hK
    case body0 =>
      rintro l pre x Φ W hpx ⟨M', R', hI⟩ hl hΦ -
      obtain ⟨hk, hx⟩ := pairs_at hpx
      obtain ⟨y, hy⟩ : ∃ y, y = pc[pre.length] := ⟨_, rfl⟩
      obtain ⟨⟨ca, cb⟩, cv⟩ := y
      rw [← hy] at hx
      dsimp only at hx
      subst hx
      obtain ⟨b3, off, rfl, hrg, -⟩ := hI.st.own.reads.at hk
      rw [← hy] at hrg
      obtain ⟨r0, r1, r2⟩ := cell3 hrg
      obtain ⟨p, hp⟩ : ∃ p, p = pre.length := ⟨_, rfl⟩
      obtain ⟨ppx, hppx⟩ : ∃ ppx, ppx = pre ++ [(cb, cv)] := ⟨_, rfl⟩
      have hlen : ppx.length = p + 1 := by rw [hppx, hp]; simp
      rw [← hp, show cellR.k = 3 from rfl] at r0 r1 r2
      rw [← hp] at hI hk
      rw [← hppx]
      dsimp only at r0 r1 r2
      obtain ⟨p1, hp1⟩ : ∃ p1, p1 = p + 1 := ⟨_, rfl⟩
      have he1 : ((p1 : Nat) : Int) = (p : Int) + 1 := by omega
      rw [← hp1] at hlen
      have hlt : (p : Int) < n0 := by have := HNL.out.1; omega
      have hnle : ¬ (n0 : Int) ≤ (p : Int) := by omega
      have hp100 : p ≤ 100 := by have := HNL.out; omega
      have cN := hI.bn.cell
      have fN := hI.bn.frozen
      have cP := hI.st.bp.cell
      have cW := hI.st.bw.cell
      have cG := hI.st.bg.cell
      have cX := hI.st.bx.cell
      have hMl : M'.length ≤ 200 := by have := hI.len; omega
      have HI1 := Lib.hid hI
      have HL1 := Lib.hid (And.intro hlen (And.intro hp1 (And.intro he1 hMl)))
      by_cases hm : p < L2
      · have hm' : (p : Int) < L2 := by omega
        have hpm : p < m.length := by rw [← HR2.out.2.2]; exact hm
        have hRS := HR2.out.1
        obtain ⟨ao', cap', e1, hrd⟩ := hRS
        injection e1 with e1 e2 e3
        obtain ⟨b2, o2, e4, hrg2, hb2w⟩ := hrd p hpm
        rw [e4] at e1
        subst e1
        clear e2 e3 e4 hrd
        obtain ⟨xm, hxm⟩ : ∃ xm, xm = m[p] := ⟨_, rfl⟩
        rw [← hxm] at hrg2
        have hxw : ActWf xm := by rw [hxm]; exact HR2.out.2.1.2 _ (List.getElem_mem _)
        have hrg3 : W.rangeAt b2 (o2 + p * actR.k) (actR.f xm) := rangeAt_block hrg2 (hI.st.old.block b2 hb2w)
        obtain ⟨kd, xa, xb', xv⟩ := xm
        have m0 : W.cell? ⟨b2, o2 + p * 4, none⟩ = some (.int .i64 kd) := by have := hrg3 0 (.int .i64 kd) (by simp [actR, ac]); simpa [actR] using this
        have m1 : W.cell? ⟨b2, o2 + p * 4 + 1, none⟩ = some (.int .i64 xa) := by have := hrg3 1 (.int .i64 xa) (by simp [actR, ac]); simpa [actR] using this
        have m2 : W.cell? ⟨b2, o2 + p * 4 + 2, none⟩ = some (.int .i64 xb') := by have := hrg3 2 (.int .i64 xb') (by simp [actR, ac]); simpa [actR] using this
        have m3 : W.cell? ⟨b2, o2 + p * 4 + 3, none⟩ = some (.int .i64 xv) := by have := hrg3 3 (.int .i64 xv) (by simp [actR, ac]); simpa [actR] using this
        have cM := hI.st.bm.cell
        have hsN : w0.heap.size ≤ W.drew.heap.size := by have := hI.sz; show w0.heap.size ≤ W.heap.size; omega
        have hgd : GrR w0.heap.size R' g yb M' W.drew := hI.gr.keep (Grow.of_below (Below.refl 0 W).drew) (fun _ _ => rfl)
        have HX := Lib.hid (And.intro hxw (And.intro hsN hgd))
        clear hrg2 hb2w hxm hxw hrg3 hsN hgd hI hrg hy hpx hΦ hp hppx hlen hp1 he1 hMl hpm
        gi_wp2_with fail
        refine wpIn_region_still_tailR 11 MIX.out (by kernel_rfl) (by kernel_rfl) ?_
        simp only [List.take_succ_cons, List.take_zero, List.drop_succ_cons, List.drop_zero]
        change wpStill _ _ W.drew _ _ _
        repeat still_step
        refine wpStill_nil ?_
        change wpListIn _ _ _ _ _ _ _ W.drew
        gi_wp2_with (first
          | (refine ⟨trivial, ?_⟩; gi_at_call 11; refine (CallsIn.inRound l (callsIn_wide.2 (law_actR HX.out.2.2 HX.out.2.1 (by have := HL1.out.2.2.2; omega) (kd, xa, xb', xv) HX.out.1))).mono ?_; rintro e W2 ⟨rfl, ha⟩; have ha2 : ActTo w0.heap.size R' g yb (stepA M' (kd, xa, xb', xv)) W W2 := ActTo.undrew ha; have hbx := (HI1.out.boxes (fun k hk => (HBB.out.1 k hk).1) hnbS hww0 ha2).2; have cN2 := hbx.cell; have fN2 := hbx.frozen; have HA := Lib.hid ha2; clear ha ha2 hbx)
          | fail)
        have hn := HI1.out.next HBB.out.1 hnbS HBB.out.2 hww0 (by have h1 := stepA_len HI1.out.gr.srt (kd, xa, xb', xv); have h2 := HI1.out.len; omega) HA.out p1 HL1.out.2.1
        rw [HL1.out.2.2.1] at hn
        obtain ⟨Φ', n1', n2', R2, n3'⟩ := hn
        exact ⟨Φ', n1', n2', _, R2, by rw [HL1.out.1]; exact n3'⟩
      · have hm' : ¬ (p : Int) < L2 := by omega
        have cM := hI.st.bm.cell
        have HA := Lib.hid (ActTo.same hI.gr (Below.refl W.heap.size W).drew)
        obtain ⟨q, hq⟩ : ∃ q, q = decide (p < L2) := ⟨_, rfl⟩
        have hq0 : q = !true := by rw [hq]; exact decide_eq_false hm
        have dm : decide (p < L2) = q := hq.symm
        have HQ := Lib.hid hq0
        clear hI hrg hy hpx hΦ hp hppx hlen hp1 he1 hMl hm' hm hq0 hq
        gi_wp2_with fail
        refine wpIn_region_still_tailR 11 MIX.out (by kernel_rfl) (by kernel_rfl) ?_
        simp only [List.take_succ_cons, List.take_zero, List.drop_succ_cons, List.drop_zero]
        change wpStill _ _ W.drew _ _ _
        still_step
        still_step
        still_step
        still_step
        still_step
        iterate 6 (refine wpStill_skipS (j := 4) (b := q) (t := true) ?_ ?_ ?_ HQ.out ?_; rfl; rfl; kernel_rfl)
        refine wpStill_nil ?_
        change wpListIn _ _ _ _ _ _ _ W.drew
        iterate 2 (refine wpListIn_skipS (j := 4) (b := q) (t := true) ?_ ?_ ?_ HQ.out ?_; rfl; rfl; kernel_rfl)
        have hq1 : q = false := HQ.out
        clear HQ
        subst hq1
        gi_wp2_with fail
        have hn := HI1.out.next HBB.out.1 hnbS HBB.out.2 hww0 (by have h2 := HI1.out.len; omega) HA.out p1 HL1.out.2.1
        rw [HL1.out.2.2.1] at hn
        obtain ⟨Φ', n1', n2', R2, n3'⟩ := hn
        exact ⟨Φ', n1', n2', _, R2, by rw [HL1.out.1]; exact n3'⟩
    case ff0 => exact fun Φ W h => h
    case gg0 => exact fun c pre Φ W _ h => h.elim
    case fin0 =>
      rintro D Φ W3 ⟨M3, R3, hI3⟩ hon hD hnD hK
      rw [List.length_map] at hI3
      have hnl := HNL.out.1
      have hMl : M3.length ≤ 200 := by have := hI3.len; have := HNL.out; omega
      have cG := hI3.st.bg.cell
      have cX := hI3.st.bx.cell
      have hDl : D < W3.heap.size := (Array.getElem?_eq_some_iff.1 hK).1
      have yr3 : Boxed W3 rb 4 (.bool false) := (hon.block rb (by omega) (fun e => by have := e.2.1; omega) (fun h => h)).trans HI.out.2.1
      obtain ⟨F3, v3, hF3, hRf3, -⟩ := hI3.gr
      obtain ⟨a3, c3, hv3⟩ := hRf3.own.lenOf
      obtain ⟨n3, hn3⟩ : ∃ n3, n3 = M3.length := ⟨_, rfl⟩
      rw [← hn3] at hv3
      subst hv3
      have bN := hI3.bn
      rw [← hnl] at bN
      have bP := hI3.st.bp
      have bX := hI3.st.bx
      have HF3 := Lib.hid (And.intro hF3 (And.intro hRf3 (And.intro bN (And.intro bP (And.intro bX yr3)))))
      have HL3 := Lib.hid (And.intro hMl hn3)
      have HO := Lib.hid hI3.st.old
      have HD := Lib.hid (And.intro hK (And.intro hD hDl))
      clear hI3 hnl hMl hon hnD hK hF3 hRf3 hn3 bN bP bX yr3
      gi_wp2_with (first
        | (refine ⟨trivial, ?_⟩; gi_at_call 12; refine (callsIn_wide.2 (law_cells (some ⟨g, 0, none⟩) M3 W3 (fun w' hb => grid_Cells_I (HF3.out.1.later hb) (by have := HL3.out.1; omega)) (by have := HL3.out.1; omega))).mono ?_; rintro e W4 ⟨vc, rfl, ho4, hb4⟩; obtain ⟨a4, c4, hv4⟩ := ho4.lenOf; rw [← HL3.out.2] at hv4; subst hv4; have e1 := Boxed.cell (show Boxed W4 nb 3 _ from (hb4.block nb HF3.out.2.2.1.lt).trans HF3.out.2.2.1); have e2 := Boxed.cell (show Boxed W4 pb 26 _ from (hb4.block pb HF3.out.2.2.2.1.lt).trans HF3.out.2.2.2.1); have e3 := Boxed.cell (show Boxed W4 xb 25 _ from (hb4.block xb HF3.out.2.2.2.2.1.lt).trans HF3.out.2.2.2.2.1); have e4 := (HF3.out.2.1.below hb4).at_.cell; have H4c := Lib.hid (And.intro hb4 ho4); clear ho4 hb4)
        | (refine ⟨trivial, ?_⟩; gi_at_call 13; refine (callsIn_wide.2 (law_same (.slice a4 n3 c4) (.slice a3 n3 c3) M3 W4 H4c.out.2.reads (HF3.out.2.1.below H4c.out.1).own.reads (by have := HL3.out.1; omega))).mono ?_; rintro e W5 ⟨rfl, hb5⟩; have H5c := Lib.hid (H4c.out.1.trans (hb5.mono H4c.out.1.size)); clear hb5)
        | (refine ⟨trivial, ?_⟩; gi_at_call 15; refine (callsIn_wide.2 (law_known _)).mono ?_; rintro e W6 ⟨rfl, hb⟩; have hb6 : Below W3.heap.size W3 W6 := H5c.out.trans (hb.mono H5c.out.size); have b6 : Boxed W6 rb 4 (.bool false) := (hb6.block rb HF3.out.2.2.2.2.2.lt).trans HF3.out.2.2.2.2.2; have g1 := b6.cell; have g2 := b6.frozen; have H6c := Lib.hid (And.intro hb6 b6); clear hb hb6 b6)
        | fail)
      obtain ⟨w10, hw10⟩ : ∃ w10, w10 = W6.setCell ⟨rb, 0, none⟩ (.bool true) := ⟨_, rfl⟩
      rw [← hw10]
      obtain ⟨hb6, b6⟩ := H6c.out
      obtain ⟨hK, hD, hDl⟩ := HD.out
      have hold := HO.out
      have ho10 : ∀ k, k ≠ rb → w10.heap[k]? = W6.heap[k]? := fun k hk => by rw [hw10]; exact Below.heap_setCell _ _ _ k hk
      have b10 : Boxed w10 rb 4 (.bool true) := by rw [hw10]; exact b6.set _
      have hgs : Grow W6 w10 := by rw [hw10]; exact ⟨rfl, rfl, rfl, by simp [World.setCell]⟩
      refine marks_leave [D] w10 (by simp) (fun d hd => ?_) (fun w' hg hk => ⟨.bool true, ?_, rfl, ?_⟩)
      · simp only [List.mem_cons, List.not_mem_nil, or_false] at hd
        subst hd
        rw [ho10 _ (by omega), hb6.block _ hDl]; exact hK
      · have hb : Boxed w' rb 4 (.bool true) := (hk rb (by simp; omega)).trans b10
        have hc := hb.cell
        simp [results, Try.results5, go_sem, hc]
      · have hg0 : Grow w w' := ((Grow.of_below hold).trans (Grow.of_below hb6)).trans (hgs.trans hg)
        have hs3 := hold.size
        refine ⟨hg0.os, hg0.tape, hg0.output, hg0.size, fun j hj => ?_⟩
        rw [hk j (by simp; omega), ho10 j (by omega), hb6.block j (by omega)]
        exact hold.block j hj
  · obtain ⟨hB0, x0, x1, x2, hs0, hmb, hwb, hrb⟩ := H0.out
    obtain ⟨hww, hb1E, -, hown, y9, y10, y11⟩ := H6.out
    have s01 := H1.out.2.1.size
    have s1E := hb1E.size
    obtain ⟨wS, hwS⟩ : ∃ wS, wS = w8.alloc (.cells #[.int .i64 0] 3) := ⟨_, rfl⟩
    obtain ⟨nb, hnb⟩ : ∃ nb, nb = w8.heap.size := ⟨_, rfl⟩
    have hES : Below w8.heap.size w8 wS := by rw [hwS]; exact (Below.refl _ _).alloc (Nat.le_refl _) _
    have hsS : wS.heap.size = nb + 1 := by rw [hwS, hnb]; simp
    have y13 : Boxed wS nb 3 (.int .i64 ((0 : Nat) : Int)) := by rw [hwS, hnb]; exact Boxed.new w8 _ _
    rw [← hwS, ← hnb]
    have hb1S : Below w1.heap.size w1 wS := hb1E.trans (hES.mono s1E)
    have hb0S : Below w0.heap.size w0 wS := H1.out.2.1.trans (hb1S.mono s01)
    have hbwS : Below w.heap.size w wS := hB0.trans (hb0S.mono hB0.size)
    obtain ⟨R, hR, -⟩ := H1.out.1.toR
    have hR1 : ∀ k, R k → k < w1.heap.size := fun k hk => hR.lt hk
    have hnl : n1 = (colC M at_).length := H5.out.2.2
    have hl1 : (colC M at_).length ≤ 100 := Nat.le_trans (colC_len M at_) H1.out.2.2
    obtain ⟨pc, hpc⟩ : ∃ pc, pc = colC M at_ := ⟨_, rfl⟩
    rw [← hpc] at hnl hl1 hown hww
    have hgb : w1.heap.size ≤ gb ∧ w1.heap.size ≤ xb := by have := H2.out.2.2.2; omega
    have hpb : w1.heap.size ≤ pb := by have := H4.out.2.2.1; have := H3.out.1.size; have := H2.out.1.size; omega
    have hBk : ∀ k, MwB mb wb gb xb pb (.slice ab1 n1 ac1) k → (k < w0.heap.size ∨ w1.heap.size ≤ k) ∧ k < nb := by
      rintro k (rfl | rfl | rfl | rfl | rfl | h)
      · exact ⟨.inl (by omega), by omega⟩
      · exact ⟨.inl (by omega), by omega⟩
      · exact ⟨.inr hgb.1, by have := y9.lt; omega⟩
      · exact ⟨.inr hgb.2, by have := y10.lt; omega⟩
      · exact ⟨.inr hpb, by have := y11.lt; omega⟩
      · exact ⟨.inr (hown.block h).1, by have := (hown.block h).2; omega⟩
    have hB : ∀ k, MwB mb wb gb xb pb (.slice ab1 n1 ac1) k → k < wS.heap.size ∧ k ≠ nb := fun k hk => by have := (hBk k hk).2; omega
    have hI0 : MwI w w0.heap.size wS.heap.size mb wb gb xb pb nb (.slice ao2 L2 cap2) 1 g yb (.slice ab1 n1 ac1) pc 0 M R (fun _ => False) wS :=
      ⟨⟨hbwS, (hb0S.block mb x0.lt).trans x0, (hb0S.block wb x1.lt).trans x1, (hES.block gb y9.lt).trans y9, (hES.block xb y10.lt).trans y10, (hES.block pb y11.lt).trans y11, OwnR.of (hown.later hES) (Nat.zero_le _) (fun _ _ => rfl)⟩,
        y13, hR.keep (Grow.of_below hb1S) (fun k hk => hb1S.block k (hR1 k hk)), by have := H1.out.2.2; omega, fun k => ⟨fun h => h.elim, fun h => by have := hR1 k h.1; omega⟩,
        fun k hk => ⟨fun hb => by have h1 := (hBk k hb).1; have h2 := hR1 k hk; have h3 := hR.lo hk; omega, by have := hR1 k hk; omega⟩, Nat.le_refl _⟩
    have yr : Boxed wS rb 4 (.bool false) := (hb0S.block rb x2.lt).trans x2
    have hww0 : w.heap.size ≤ w0.heap.size := hB0.size
    have hN : w0.heap.size ≤ nb := by omega
    have hrb0 : rb < w0.heap.size := x2.lt
    have hrw : w.heap.size ≤ rb := by omega
    have HI := Lib.hid (And.intro hI0 (And.intro yr (And.intro hbwS hww)))
    have HBB := Lib.hid (And.intro hB hN)
    have HNL := Lib.hid (And.intro hnl hl1)
    have HR2' := Lib.hid HR2.out
    have hnbS : nb < wS.heap.size := by omega
    have hrS : rb ≠ nb := by omega
    have hmwr : ¬ MwB mb wb gb xb pb (.slice ab1 n1 ac1) rb ∨ True := .inr trivial
    clear hnl hl1 hnb s01 s1E hsS hB0 x0 x1 x2 hs0 hmb hwb hrb hown y9 y10 y11 hwS hb1E hR hR1 hpc hgb hpb hBk hI0 yr hb1S hb0S hbwS hww c5 c6 d6 d10 y13 hmwr
    refine range_outerU (n := 1) (gf := gf') (lb := lb') rfl HI.out.2.2.2.1 (HI.out.2.2.2.2 1) (Grow.of_below hES) (fun k hk => ⟨hk, hES.block k hk⟩) (fun _ => rfl)
      (MwP w0.heap.size wS.heap.size mb wb gb xb pb (.slice ab1 n1 ac1)) (fun k hk => hk.1) (MwJ w w0.heap.size wS.heap.size mb wb gb xb pb nb (.slice ao2 L2 cap2) 1 g yb (.slice ab1 n1 ac1) pc) (fun _ _ _ _ => False) (MwJ.stab HBB.out.1 hnbS hww0 (by omega)) (fun c _ _ _ h => h.elim)
      ⟨M, R, HI.out.1⟩
      (fun x T => (((T.setIfInBounds 58 (.int .i64 x.1)).setIfInBounds 59 (.int .i64 x.2)).setIfInBounds 14 (.int .i64 x.1)).setIfInBounds 15 (.int .i64 x.2)) ?assign1 ?body1 (fun Φ W => MwJ w w0.heap.size wS.heap.size mb wb gb xb pb nb (.slice ao2 L2 cap2) 1 g yb (.slice ab1 n1 ac1) pc (pc.map (fun x => (x.1.1, x.2))) Φ W) ?ff1 ?gg1 ?fin1
    case assign1 =>
      intro l x W K hK
      simp only [encs_I]
      gi_wp2
      exact hK
    case body1 =>
      rintro l pre x Φ W hpx ⟨M', R', hI⟩ hl hΦ -
      obtain ⟨hk, hx⟩ := pairs_at hpx
      obtain ⟨y, hy⟩ : ∃ y, y = pc[pre.length] := ⟨_, rfl⟩
      obtain ⟨⟨ca, cb⟩, cv⟩ := y
      rw [← hy] at hx
      dsimp only at hx
      subst hx
      obtain ⟨b3, off, rfl, hrg, -⟩ := hI.st.own.reads.at hk
      rw [← hy] at hrg
      obtain ⟨r0, r1, r2⟩ := cell3 hrg
      obtain ⟨p, hp⟩ : ∃ p, p = pre.length := ⟨_, rfl⟩
      obtain ⟨ppx, hppx⟩ : ∃ ppx, ppx = pre ++ [(ca, cv)] := ⟨_, rfl⟩
      have hlen : ppx.length = p + 1 := by rw [hppx, hp]; simp
      rw [← hp, show cellR.k = 3 from rfl] at r0 r1 r2
      rw [← hp] at hI hk
      rw [← hppx]
      dsimp only at r0 r1 r2
      obtain ⟨p1, hp1⟩ : ∃ p1, p1 = p + 1 := ⟨_, rfl⟩
      have he1 : ((p1 : Nat) : Int) = (p : Int) + 1 := by omega
      rw [← hp1] at hlen
      have hlt : (p : Int) < n1 := by have := HNL.out.1; omega
      have hnle : ¬ (n1 : Int) ≤ (p : Int) := by omega
      have hp100 : p ≤ 100 := by have := HNL.out; omega
      have cN := hI.bn.cell
      have fN := hI.bn.frozen
      have cP := hI.st.bp.cell
      have cW := hI.st.bw.cell
      have cG := hI.st.bg.cell
      have cX := hI.st.bx.cell
      have hMl : M'.length ≤ 200 := by have := hI.len; omega
      have HI1 := Lib.hid hI
      have HL1 := Lib.hid (And.intro hlen (And.intro hp1 (And.intro he1 hMl)))
      by_cases hm : p < L2
      · have hm' : (p : Int) < L2 := by omega
        have hpm : p < m.length := by rw [← HR2.out.2.2]; exact hm
        have hRS := HR2.out.1
        obtain ⟨ao', cap', e1, hrd⟩ := hRS
        injection e1 with e1 e2 e3
        obtain ⟨b2, o2, e4, hrg2, hb2w⟩ := hrd p hpm
        rw [e4] at e1
        subst e1
        clear e2 e3 e4 hrd
        obtain ⟨xm, hxm⟩ : ∃ xm, xm = m[p] := ⟨_, rfl⟩
        rw [← hxm] at hrg2
        have hxw : ActWf xm := by rw [hxm]; exact HR2.out.2.1.2 _ (List.getElem_mem _)
        have hrg3 : W.rangeAt b2 (o2 + p * actR.k) (actR.f xm) := rangeAt_block hrg2 (hI.st.old.block b2 hb2w)
        obtain ⟨kd, xa, xb', xv⟩ := xm
        have m0 : W.cell? ⟨b2, o2 + p * 4, none⟩ = some (.int .i64 kd) := by have := hrg3 0 (.int .i64 kd) (by simp [actR, ac]); simpa [actR] using this
        have m1 : W.cell? ⟨b2, o2 + p * 4 + 1, none⟩ = some (.int .i64 xa) := by have := hrg3 1 (.int .i64 xa) (by simp [actR, ac]); simpa [actR] using this
        have m2 : W.cell? ⟨b2, o2 + p * 4 + 2, none⟩ = some (.int .i64 xb') := by have := hrg3 2 (.int .i64 xb') (by simp [actR, ac]); simpa [actR] using this
        have m3 : W.cell? ⟨b2, o2 + p * 4 + 3, none⟩ = some (.int .i64 xv) := by have := hrg3 3 (.int .i64 xv) (by simp [actR, ac]); simpa [actR] using this
        have cM := hI.st.bm.cell
        have hsN : w0.heap.size ≤ W.drew.heap.size := by have := hI.sz; show w0.heap.size ≤ W.heap.size; omega
        have hgd : GrR w0.heap.size R' g yb M' W.drew := hI.gr.keep (Grow.of_below (Below.refl 0 W).drew) (fun _ _ => rfl)
        have HX := Lib.hid (And.intro hxw (And.intro hsN hgd))
        clear hrg2 hb2w hxm hxw hrg3 hsN hgd hI hrg hy hpx hΦ hp hppx hlen hp1 he1 hMl hpm
        gi_wp2_with fail
        refine wpIn_region_still_tailR 11 MIX.out (by kernel_rfl) (by kernel_rfl) ?_
        simp only [List.take_succ_cons, List.take_zero, List.drop_succ_cons, List.drop_zero]
        change wpStill _ _ W.drew _ _ _
        repeat still_step
        refine wpStill_nil ?_
        change wpListIn _ _ _ _ _ _ _ W.drew
        gi_wp2_with (first
          | (refine ⟨trivial, ?_⟩; gi_at_call 11; refine (CallsIn.inRound l (callsIn_wide.2 (law_actR HX.out.2.2 HX.out.2.1 (by have := HL1.out.2.2.2; omega) (kd, xa, xb', xv) HX.out.1))).mono ?_; rintro e W2 ⟨rfl, ha⟩; have ha2 : ActTo w0.heap.size R' g yb (stepA M' (kd, xa, xb', xv)) W W2 := ActTo.undrew ha; have hbx := (HI1.out.boxes (fun k hk => (HBB.out.1 k hk).1) hnbS hww0 ha2).2; have cN2 := hbx.cell; have fN2 := hbx.frozen; have HA := Lib.hid ha2; clear ha ha2 hbx)
          | fail)
        have hn := HI1.out.next HBB.out.1 hnbS HBB.out.2 hww0 (by have h1 := stepA_len HI1.out.gr.srt (kd, xa, xb', xv); have h2 := HI1.out.len; omega) HA.out p1 HL1.out.2.1
        rw [HL1.out.2.2.1] at hn
        obtain ⟨Φ', n1', n2', R2, n3'⟩ := hn
        exact ⟨Φ', n1', n2', _, R2, by rw [HL1.out.1]; exact n3'⟩
      · have hm' : ¬ (p : Int) < L2 := by omega
        have cM := hI.st.bm.cell
        have HA := Lib.hid (ActTo.same hI.gr (Below.refl W.heap.size W).drew)
        obtain ⟨q, hq⟩ : ∃ q, q = decide (p < L2) := ⟨_, rfl⟩
        have hq0 : q = !true := by rw [hq]; exact decide_eq_false hm
        have dm : decide (p < L2) = q := hq.symm
        have HQ := Lib.hid hq0
        clear hI hrg hy hpx hΦ hp hppx hlen hp1 he1 hMl hm' hm hq0 hq
        gi_wp2_with fail
        refine wpIn_region_still_tailR 11 MIX.out (by kernel_rfl) (by kernel_rfl) ?_
        simp only [List.take_succ_cons, List.take_zero, List.drop_succ_cons, List.drop_zero]
        change wpStill _ _ W.drew _ _ _
        still_step
        still_step
        still_step
        still_step
        still_step
        iterate 6 (refine wpStill_skipS (j := 4) (b := q) (t := true) ?_ ?_ ?_ HQ.out ?_; rfl; rfl; kernel_rfl)
        refine wpStill_nil ?_
        change wpListIn _ _ _ _ _ _ _ W.drew
        iterate 2 (refine wpListIn_skipS (j := 4) (b := q) (t := true) ?_ ?_ ?_ HQ.out ?_; rfl; rfl; kernel_rfl)
        have hq1 : q = false := HQ.out
        clear HQ
        subst hq1
        gi_wp2_with fail
        have hn := HI1.out.next HBB.out.1 hnbS HBB.out.2 hww0 (by have h2 := HI1.out.len; omega) HA.out p1 HL1.out.2.1
        rw [HL1.out.2.2.1] at hn
        obtain ⟨Φ', n1', n2', R2, n3'⟩ := hn
        exact ⟨Φ', n1', n2', _, R2, by rw [HL1.out.1]; exact n3'⟩
    case ff1 => exact fun Φ W h => h
    case gg1 => exact fun c pre Φ W _ h => h.elim
    case fin1 =>
      rintro D Φ W3 ⟨M3, R3, hI3⟩ hon hD hnD hK
      rw [List.length_map] at hI3
      have hnl := HNL.out.1
      have hMl : M3.length ≤ 200 := by have := hI3.len; have := HNL.out; omega
      have cG := hI3.st.bg.cell
      have cX := hI3.st.bx.cell
      have hDl : D < W3.heap.size := (Array.getElem?_eq_some_iff.1 hK).1
      have yr3 : Boxed W3 rb 4 (.bool false) := (hon.block rb (by omega) (fun e => by have := e.2.1; omega) (fun h => h)).trans HI.out.2.1
      obtain ⟨F3, v3, hF3, hRf3, -⟩ := hI3.gr
      obtain ⟨a3, c3, hv3⟩ := hRf3.own.lenOf
      obtain ⟨n3, hn3⟩ : ∃ n3, n3 = M3.length := ⟨_, rfl⟩
      rw [← hn3] at hv3
      subst hv3
      have bN := hI3.bn
      rw [← hnl] at bN
      have bP := hI3.st.bp
      have bX := hI3.st.bx
      have HF3 := Lib.hid (And.intro hF3 (And.intro hRf3 (And.intro bN (And.intro bP (And.intro bX yr3)))))
      have HL3 := Lib.hid (And.intro hMl hn3)
      have HO := Lib.hid hI3.st.old
      have HD := Lib.hid (And.intro hK (And.intro hD hDl))
      clear hI3 hnl hMl hon hnD hK hF3 hRf3 hn3 bN bP bX yr3
      gi_wp2_with (first
        | (refine ⟨trivial, ?_⟩; gi_at_call 12; refine (callsIn_wide.2 (law_cells (some ⟨g, 0, none⟩) M3 W3 (fun w' hb => grid_Cells_I (HF3.out.1.later hb) (by have := HL3.out.1; omega)) (by have := HL3.out.1; omega))).mono ?_; rintro e W4 ⟨vc, rfl, ho4, hb4⟩; obtain ⟨a4, c4, hv4⟩ := ho4.lenOf; rw [← HL3.out.2] at hv4; subst hv4; have e1 := Boxed.cell (show Boxed W4 nb 3 _ from (hb4.block nb HF3.out.2.2.1.lt).trans HF3.out.2.2.1); have e2 := Boxed.cell (show Boxed W4 pb 26 _ from (hb4.block pb HF3.out.2.2.2.1.lt).trans HF3.out.2.2.2.1); have e3 := Boxed.cell (show Boxed W4 xb 25 _ from (hb4.block xb HF3.out.2.2.2.2.1.lt).trans HF3.out.2.2.2.2.1); have e4 := (HF3.out.2.1.below hb4).at_.cell; have H4c := Lib.hid (And.intro hb4 ho4); clear ho4 hb4)
        | (refine ⟨trivial, ?_⟩; gi_at_call 13; refine (callsIn_wide.2 (law_same (.slice a4 n3 c4) (.slice a3 n3 c3) M3 W4 H4c.out.2.reads (HF3.out.2.1.below H4c.out.1).own.reads (by have := HL3.out.1; omega))).mono ?_; rintro e W5 ⟨rfl, hb5⟩; have H5c := Lib.hid (H4c.out.1.trans (hb5.mono H4c.out.1.size)); clear hb5)
        | (refine ⟨trivial, ?_⟩; gi_at_call 15; refine (callsIn_wide.2 (law_known _)).mono ?_; rintro e W6 ⟨rfl, hb⟩; have hb6 : Below W3.heap.size W3 W6 := H5c.out.trans (hb.mono H5c.out.size); have b6 : Boxed W6 rb 4 (.bool false) := (hb6.block rb HF3.out.2.2.2.2.2.lt).trans HF3.out.2.2.2.2.2; have g1 := b6.cell; have g2 := b6.frozen; have H6c := Lib.hid (And.intro hb6 b6); clear hb hb6 b6)
        | fail)
      obtain ⟨w10, hw10⟩ : ∃ w10, w10 = W6.setCell ⟨rb, 0, none⟩ (.bool true) := ⟨_, rfl⟩
      rw [← hw10]
      obtain ⟨hb6, b6⟩ := H6c.out
      obtain ⟨hK, hD, hDl⟩ := HD.out
      have hold := HO.out
      have ho10 : ∀ k, k ≠ rb → w10.heap[k]? = W6.heap[k]? := fun k hk => by rw [hw10]; exact Below.heap_setCell _ _ _ k hk
      have b10 : Boxed w10 rb 4 (.bool true) := by rw [hw10]; exact b6.set _
      have hgs : Grow W6 w10 := by rw [hw10]; exact ⟨rfl, rfl, rfl, by simp [World.setCell]⟩
      refine marks_leave [D] w10 (by simp) (fun d hd => ?_) (fun w' hg hk => ⟨.bool true, ?_, rfl, ?_⟩)
      · simp only [List.mem_cons, List.not_mem_nil, or_false] at hd
        subst hd
        rw [ho10 _ (by omega), hb6.block _ hDl]; exact hK
      · have hb : Boxed w' rb 4 (.bool true) := (hk rb (by simp; omega)).trans b10
        have hc := hb.cell
        simp [results, Try.results5, go_sem, hc]
      · have hg0 : Grow w w' := ((Grow.of_below hold).trans (Grow.of_below hb6)).trans (hgs.trans hg)
        have hs3 := hold.size
        refine ⟨hg0.os, hg0.tape, hg0.output, hg0.size, fun j hj => ?_⟩
        rw [hk j (by simp; omega), ho10 j (by omega), hb6.block j (by omega)]
        exact hold.block j hj
end Go.Proofs.Ytlfngdfbimcjhaa
