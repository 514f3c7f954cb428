/-
  The table and the reference side by side; the law's act.
-/
import Derived.Test.YtlfngdfbimcjhaaRgO
import Derived.Test.YtlfngdfbimcjhaaRgR
import Derived.Test.YtlfngdfbimcjhaaAct
import Derived.Test.YtlfngdfbimcjhaaGrSw
namespace Go.Proofs.Ytlfngdfbimcjhaa
open Go.RowKit Go.Maps Go.Shelf
set_option linter.unusedVariables false
set_option linter.unusedSimpArgs false
set_option linter.constructorNameAsVariable false

/-- The table and the reference, apart, the call's own, and away from Z. -/
def GrX (N : Nat) (Z : Nat → Prop) (g yb : Nat) (M M' : Cls Int) (w : World) : Prop :=
  ∃ F v, GrAt codI 67 g M F w ∧ RefG yb v M' w ∧ (∀ k, F k → N ≤ k ∧ ¬ Z k) ∧ (N ≤ yb ∧ ¬ Z yb ∧ ¬ F yb) ∧ ∀ k, v.ownBlock = some k → N ≤ k ∧ ¬ Z k ∧ ¬ F k
/-- What is left alone. -/
def GrZ (N : Nat) (Z : Nat → Prop) (w w' : World) : Prop := Below N w w' ∧ w.heap.size ≤ w'.heap.size ∧ ∀ k, Z k → w'.heap[k]? = w.heap[k]?
section
variable {N g yb : Nat} {Z Z' : Nat → Prop} {M M' M1 : Cls Int} {w w' w'' : World}
theorem GrZ.refl (N : Nat) (Z : Nat → Prop) (w : World) : GrZ N Z w w := ⟨Below.refl _ _, Nat.le_refl _, fun _ _ => rfl⟩
theorem GrZ.trans (h : GrZ N Z w w') (k : GrZ N Z w' w'') : GrZ N Z w w'' := ⟨h.1.trans k.1, Nat.le_trans h.2.1 k.2.1, fun j hj => (k.2.2 j hj).trans (h.2.2 j hj)⟩
theorem GrZ.mono (h : GrZ N Z' w w') (hZ : ∀ k, Z k → Z' k) : GrZ N Z w w' := ⟨h.1, h.2.1, fun k hk => h.2.2 k (hZ k hk)⟩
theorem GrZ.of_below (hb : Below w.heap.size w w') (hN : N ≤ w.heap.size) (hZ : ∀ k, Z k → k < w.heap.size) : GrZ N Z w w' := ⟨hb.mono hN, hb.size, fun k hk => hb.block k (hZ k hk)⟩
theorem GrX.mono (hh : GrX N Z' g yb M M' w) (hZ : ∀ k, Z k → Z' k) : GrX N Z g yb M M' w := by
  obtain ⟨F, v, h1, h2, h3, ⟨h4, h5, h6⟩, h7⟩ := hh
  exact ⟨F, v, h1, h2, fun k hk => ⟨(h3 k hk).1, fun e => (h3 k hk).2 (hZ k e)⟩, ⟨h4, fun e => h5 (hZ _ e), h6⟩, fun k hk => ⟨(h7 k hk).1, fun e => (h7 k hk).2.1 (hZ k e), (h7 k hk).2.2⟩⟩
theorem GrX.below (hh : GrX N Z g yb M M' w) (hb : Below w.heap.size w w') : GrX N Z g yb M M' w' := by
  obtain ⟨F, v, h1, h2, h3, h4, h5⟩ := hh
  exact ⟨F, v, h1.keep (Grow.of_below hb) (fun k hk => hb.block k (h1.2.2.1 k hk)), h2.below hb, h3, h4, h5⟩
theorem GrX.see (hh : GrX N Z g yb M M' w) : GrX N (fun k => k = w.heap.size ∨ Z k) g yb M M' w := by
  obtain ⟨F, v, h1, h2, h3, ⟨h4, h5, h6⟩, h7⟩ := hh
  refine ⟨F, v, h1, h2, fun k hk => ⟨(h3 k hk).1, fun e => e.elim (fun e => by have := h1.2.2.1 k hk; omega) (h3 k hk).2⟩, ⟨h4, fun e => e.elim (fun e => by have := h2.at_.lt; omega) h5, h6⟩, fun k hk => ⟨(h7 k hk).1, fun e => e.elim (fun e => by have := (h2.own.block hk).2; omega) (h7 k hk).2.1, (h7 k hk).2.2⟩⟩
theorem GrX.srt (hh : GrX N Z g yb M M' w) : SrtC M := by obtain ⟨F, v, h1, _⟩ := hh; exact h1.1
theorem GrX.one (hh : GrX N Z g yb M M' w) : GrOwn codI 67 N g M w := by
  obtain ⟨F, v, h1, h2, h3, _⟩ := hh
  exact ⟨F, h1, fun k hk => (h3 k hk).1⟩
theorem GrX.ref (hh : GrX N Z g yb M M' w) : ∃ v, RefG yb v M' w := by obtain ⟨F, v, h1, h2, _⟩ := hh; exact ⟨v, h2⟩
/-- A step of the table. -/
theorem GrX.stepG {F : FP} {v : Value} (h1 : GrAt codI 67 g M F w) (h2 : RefG yb v M' w) (h3 : ∀ k, F k → N ≤ k ∧ ¬ Z k) (h4 : N ≤ yb ∧ ¬ Z yb ∧ ¬ F yb) (h5 : ∀ k, v.ownBlock = some k → N ≤ k ∧ ¬ Z k ∧ ¬ F k) (hN : N ≤ w.heap.size) (hZ : ∀ k, Z k → k < w.heap.size) (hc : GrTo codI 67 g M1 F w w') : GrX N Z g yb M1 M' w' ∧ GrZ N Z w w' := by
  obtain ⟨F', c1, c2, c3⟩ := hc
  have hlt := h2.at_.lt
  have hF' : ∀ k, k < w.heap.size → ¬ F k → ¬ F' k := fun k hk hn e => (c2 k e).elim hn (fun h => by omega)
  refine ⟨⟨F', v, c1, h2.keep (c3.block yb hlt h4.2.2 (fun h => h)) (fun k hk => c3.block k (h2.own.block hk).2 (h5 k hk).2.2 (fun h => h)), fun k hk => (c2 k hk).elim (h3 k) (fun h => ⟨by omega, fun hz => by have := hZ k hz; omega⟩), ⟨h4.1, h4.2.1, hF' yb hlt h4.2.2⟩, fun k hk => ⟨(h5 k hk).1, (h5 k hk).2.1, hF' k (h2.own.block hk).2 (h5 k hk).2.2⟩⟩,
    c3.below hN (fun k hk => (h3 k hk).1) (fun k h => h.elim), c3.grow.size, fun k hz => c3.block k (hZ k hz) (fun hf => (h3 k hf).2 hz) (fun h => h)⟩
/-- A step of the reference. -/
theorem GrX.stepX {F : FP} {v : Value} (h1 : GrAt codI 67 g M F w) (h2 : RefG yb v M' w) (h3 : ∀ k, F k → N ≤ k ∧ ¬ Z k) (h4 : N ≤ yb ∧ ¬ Z yb ∧ ¬ F yb) (h5 : ∀ k, v.ownBlock = some k → N ≤ k ∧ ¬ Z k ∧ ¬ F k) (hN : N ≤ w.heap.size) (hZ : ∀ k, Z k → k < w.heap.size) (hc : RefTo yb v M1 w w') : GrX N Z g yb M M1 w' ∧ GrZ N Z w w' := by
  obtain ⟨v', c1, c2, c3, c4⟩ := hc
  refine ⟨⟨F, v', h1.keep c2 (fun k hk => c3 k (h1.2.2.1 k hk) (fun e => h4.2.2 (by rw [← e]; exact hk))), c1, h3, h4, fun k hk => (c4 k hk).elim (h5 k) (fun h => ⟨by omega, fun hz => by have := hZ k hz; omega, fun hf => by have := h1.2.2.1 k hf; omega⟩)⟩,
    ⟨c2.os, c2.tape, c2.output, c2.size, fun k hk => c3 k (by omega) (by omega)⟩, c2.size, fun k hz => c3 k (hZ k hz) (fun e => h4.2.1 (by rw [← e]; exact hz))⟩
theorem GrX.gset (hh : GrX N Z g yb M M' w) (hN : N ≤ w.heap.size) (hZ : ∀ k, Z k → k < w.heap.size) (hlen : M.length ≤ 400000) {a b v : Int} (ha : (Lit.int .i64 a).wf = true) (hb : (Lit.int .i64 b).wf = true) :
    Calls Try.prog 22 #[.pointer (some ⟨g, 0, none⟩), .int .i64 a, .int .i64 b, .int .i64 v] w fun e w' => e = .returned (.tuple #[]) ∧ GrX N Z g yb (cput M a b v) M' w' ∧ GrZ N Z w w' := by
  obtain ⟨F, u, h1, h2, h3, h4, h5⟩ := hh
  refine (grid_Set_I h1 (by omega) ha hb v).mono ?_
  rintro e w' ⟨rfl, hc⟩
  exact ⟨rfl, GrX.stepG h1 h2 h3 h4 h5 hN hZ hc⟩
theorem GrX.gdel (hh : GrX N Z g yb M M' w) (hN : N ≤ w.heap.size) (hZ : ∀ k, Z k → k < w.heap.size) (hlen : M.length ≤ 400000) {a b : Int} (ha : (Lit.int .i64 a).wf = true) (hb : (Lit.int .i64 b).wf = true) {d : Bool} (hd : d = (cget M a b).isSome) :
    Calls Try.prog 27 #[.pointer (some ⟨g, 0, none⟩), .int .i64 a, .int .i64 b] w fun e w' => e = .returned (.bool d) ∧ GrX N Z g yb (cdel M a b) M' w' ∧ GrZ N Z w w' := by
  obtain ⟨F, u, h1, h2, h3, h4, h5⟩ := hh
  refine (grid_Del_I h1 (by omega) ha hb).mono ?_
  rintro e w' ⟨rfl, hc⟩
  exact ⟨by rw [hd], GrX.stepG h1 h2 h3 h4 h5 hN hZ hc⟩
theorem GrX.xset (hh : GrX N Z g yb M M' w) (hN : N ≤ w.heap.size) (hZ : ∀ k, Z k → k < w.heap.size) (hs : SrtC M') (hlen : M'.length ≤ 400000) (a b v : Int) :
    Calls Try.prog 29 #[.pointer (some ⟨yb, 0, none⟩), .int .i64 a, .int .i64 b, .int .i64 v] w fun e w' => e = .returned (.tuple #[]) ∧ GrX N Z g yb M (cput M' a b v) w' ∧ GrZ N Z w w' := by
  obtain ⟨F, u, h1, h2, h3, h4, h5⟩ := hh
  refine (ref_Set yb u M' a b v w h2 hs hlen).mono ?_
  rintro e w' ⟨rfl, hc⟩
  exact ⟨rfl, GrX.stepX h1 h2 h3 h4 h5 hN hZ hc⟩
theorem GrX.xdel (hh : GrX N Z g yb M M' w) (hN : N ≤ w.heap.size) (hZ : ∀ k, Z k → k < w.heap.size) (hs : SrtC M') (hlen : M'.length ≤ 400000) (a b : Int) {d : Bool} (hd : d = (cget M' a b).isSome) :
    Calls Try.prog 30 #[.pointer (some ⟨yb, 0, none⟩), .int .i64 a, .int .i64 b] w fun e w' => e = .returned (.bool d) ∧ GrX N Z g yb M (cdel M' a b) w' ∧ GrZ N Z w w' := by
  obtain ⟨F, u, h1, h2, h3, h4, h5⟩ := hh
  refine (ref_Del yb u M' a b w h2 hs hlen).mono ?_
  rintro e w' ⟨rfl, hc⟩
  exact ⟨by rw [hd], GrX.stepX h1 h2 h3 h4 h5 hN hZ hc⟩
theorem GrX.gget (hh : GrX N Z g yb M M' w) {a b : Int} (ha : (Lit.int .i64 a).wf = true) (hb : (Lit.int .i64 b).wf = true) {x : Int} {d : Bool} (hx : x = (cget M a b).getD 0) (hd : d = (cget M a b).isSome) :
    Calls Try.prog 28 #[.pointer (some ⟨g, 0, none⟩), .int .i64 a, .int .i64 b] w fun e w' => e = .returned (.tuple #[.int .i64 x, .bool d]) ∧ w' = w := by
  obtain ⟨F, u, h1, h2, h3, h4, h5⟩ := hh
  refine (grid_Get_I h1 ha hb).mono ?_
  rintro e w' ⟨rfl, hw⟩
  exact ⟨by rw [hx, hd]; rfl, hw⟩
theorem GrX.xget (hh : GrX N Z g yb M M' w) (hs : SrtC M') (hlen : M'.length ≤ 400000) (a b : Int) {x : Int} {d : Bool} (hx : x = (cget M' a b).getD 0) (hd : d = (cget M' a b).isSome) :
    Calls Try.prog 31 #[.pointer (some ⟨yb, 0, none⟩), .int .i64 a, .int .i64 b] w fun e w' => e = .returned (.tuple #[.int .i64 x, .bool d]) ∧ Below w.heap.size w w' := by
  obtain ⟨F, u, h1, h2, h3, h4, h5⟩ := hh
  refine (ref_Get yb u M' a b w h2 hs (by omega)).mono ?_
  rintro e w' ⟨rfl, hw⟩
  exact ⟨by rw [hx, hd], hw⟩
end
/-- One act, in both. -/
def stepA (M : Cls Int) (x : A4) : Cls Int := if x.1 = 1 then cput M x.2.1 x.2.2.1 x.2.2.2 else if x.1 = 2 then cdel M x.2.1 x.2.2.1 else M
theorem stepA_len {M : Cls Int} (h : SrtC M) (x : A4) : (stepA M x).length ≤ M.length + 1 := by
  unfold stepA; split
  · rw [h.length_put]; split <;> omega
  · split
    · have := h.length_del x.2.1 x.2.2.1; omega
    · omega
/-- Both in one state, an act in a box. -/
structure GrB (N : Nat) (Z : Nat → Prop) (g yb nb : Nat) (C : Array Value) (w : World) (M M' : Cls Int) (W : World) : Prop where
  gr : GrX N (fun k => k = nb ∨ Z k) g yb M M' W
  gz : GrZ N Z w W
  hN : N ≤ W.heap.size
  hZ : ∀ k, (k = nb ∨ Z k) → k < W.heap.size
  at_ : W.heap[nb]? = some (.cells C 31 (0, 0))
theorem GrB.next {N g yb nb : Nat} {Z : Nat → Prop} {C : Array Value} {w W W' : World} {M M' M1 M1' : Cls Int} (h : GrB N Z g yb nb C w M M' W) (h1 : GrX N (fun k => k = nb ∨ Z k) g yb M1 M1' W') (h2 : GrZ N (fun k => k = nb ∨ Z k) W W') : GrB N Z g yb nb C w M1 M1' W' :=
  ⟨h1, h.gz.trans (h2.mono (fun k hk => .inr hk)), Nat.le_trans h.hN h2.2.1, fun k hk => Nat.lt_of_lt_of_le (h.hZ k hk) h2.2.1, (h2.2.2 nb (.inl rfl)).trans h.at_⟩
theorem GrB.below {N g yb nb : Nat} {Z : Nat → Prop} {C : Array Value} {w W W' : World} {M M' : Cls Int} (h : GrB N Z g yb nb C w M M' W) (hb : Below W.heap.size W W') : GrB N Z g yb nb C w M M' W' :=
  h.next (h.gr.below hb) (GrZ.of_below hb h.hN h.hZ)
theorem GrB.start {N g yb nb : Nat} {Z : Nat → Prop} {C : Array Value} {w W : World} {M M' : Cls Int} (h : GrX N Z g yb M M' w) (hN : N ≤ w.heap.size) (hZ : ∀ k, Z k → k < w.heap.size) (hn : nb = w.heap.size) (hW : W = w.alloc (.cells C 31)) : GrB N Z g yb nb C w M M' W := by
  have hB : Below w.heap.size w W := by rw [hW]; exact (Below.refl _ w).alloc (Nat.le_refl _) _
  have hs : W.heap.size = w.heap.size + 1 := by rw [hW]; simp
  rw [hn]
  exact ⟨h.see.below hB, GrZ.of_below hB hN hZ, by omega, fun k hk => hk.elim (fun e => by omega) (fun e => by have := hZ k e; omega), by rw [hW]; exact World.alloc_heap_new _ _⟩
set_option maxHeartbeats 8000000 in
set_option maxRecDepth 100000 in
theorem law_act {N g yb : Nat} {Z : Nat → Prop} {M : Cls Int} {w : World} (hh : GrX N Z g yb M M w) (hN : N ≤ w.heap.size) (hZ : ∀ k, Z k → k < w.heap.size) (hlen : M.length ≤ 300000) (x : A4) (hx : ActWf x) :
    Calls Try.prog 11 #[.pointer (some ⟨g, 0, none⟩), .pointer (some ⟨yb, 0, none⟩), .agg (ac x).toArray] w fun e w' => e = .returned (.bool true) ∧ GrX N Z g yb (stepA M x) (stepA M x) w' ∧ GrZ N Z w w' := by
  obtain ⟨kd, xa, xb, xv⟩ := x
  have hsM := hh.srt
  obtain ⟨W, hW⟩ : ∃ W, W = w.alloc (.cells #[.int .i64 kd, .int .i64 xa, .int .i64 xb, .int .i64 xv] 31) := ⟨_, rfl⟩
  obtain ⟨nb, hnb⟩ : ∃ nb, nb = w.heap.size := ⟨_, rfl⟩
  have hS := GrB.start hh hN hZ hnb hW
  have wxa : (Lit.int .i64 xa).wf = true := hx.2.1
  have wxb : (Lit.int .i64 xb).wf = true := hx.2.2.1
  have S0 := Lib.hid hS
  have HW := Lib.hid (And.intro wxa wxb)
  have HSM := Lib.hid hsM
  have h1 := cells4 hS.at_ 0
  have h2 := cells4 hS.at_ 1
  have h3 := cells4 hS.at_ 2
  have h4 := cells4 hS.at_ 3
  dsimp at h1 h2 h3 h4
  rw [hW, hnb] at h1 h2 h3 h4
  have hl4 : M.length ≤ 400000 := by omega
  have HL := Lib.hid hl4
  have HWW := Lib.hid hW
  clear hh hN hZ hx hsM hS wxa wxb hlen hl4 hW
  go_enter Try.func11, Try.ntmps11
  simp only [ac]
  by_cases k1 : kd = 1
  · subst k1
    have HA := Lib.hid (show stepA M (1, xa, xb, xv) = cput M xa xb xv from rfl)
    go_upto_region 3 with fail
    rw [← HWW.out, ← hnb]
    clear h1 h2 h3 h4 HWW hnb
    have c1 := cells4 S0.out.at_ 1
    have c2 := cells4 S0.out.at_ 2
    have c3 := cells4 S0.out.at_ 3
    dsimp at c1 c2 c3
    go_wp2_with (first
      | (go_at_call 22; refine (GrX.gset S0.out.gr S0.out.hN S0.out.hZ HL.out HW.out.1 HW.out.2).mono ?_; rintro e w1 ⟨rfl, hg, hz⟩; have S1 := Lib.hid (S0.out.next hg hz); have d1 := cells4 S1.out.at_ 1; have d2 := cells4 S1.out.at_ 2; have d3 := cells4 S1.out.at_ 3; dsimp at d1 d2 d3; clear hg hz)
      | (go_at_call 29; refine (GrX.xset S1.out.gr S1.out.hN S1.out.hZ HSM.out HL.out xa xb xv).mono ?_; rintro e w2 ⟨rfl, hg, hz⟩; have S2 := Lib.hid (S1.out.next hg hz); clear hg hz)
      | fail)
    exact bodyPost_ret (v := .bool true) (by simp [results, Try.results11, go_sem]) rfl ⟨rfl, by rw [HA.out]; exact S2.out.gr.mono (fun k hk => .inr hk), S2.out.gz⟩
  · have e1 : (kd == 1) = false := by simp [k1]
    by_cases k2 : kd = 2
    · subst k2
      have HA := Lib.hid (show stepA M (2, xa, xb, xv) = cdel M xa xb from rfl)
      go_upto_region 7 with fail
      rw [← HWW.out, ← hnb]
      clear h1 h2 h3 h4 HWW hnb
      have S0' := Lib.hid (S0.out.below (Below.refl _ W).drew)
      obtain ⟨d, hd⟩ : ∃ d, d = (cget M xa xb).isSome := ⟨_, rfl⟩
      have HD := Lib.hid hd
      clear hd S0
      apply wp_meetF (S := fun wc => GrB N Z g yb nb #[.int .i64 2, .int .i64 xa, .int .i64 xb, .int .i64 xv] w (cdel M xa xb) (cdel M xa xb) wc)
      case h =>
        go_region_held3 (fun w' => w'.cell? ⟨nb, 1, none⟩ = some (.int .i64 xa) ∧ w'.cell? ⟨nb, 2, none⟩ = some (.int .i64 xb)) (first | exact ⟨cells4 S0'.out.at_ 1, cells4 S0'.out.at_ 2⟩ | exact ⟨cells4 S1.out.at_ 1, cells4 S1.out.at_ 2⟩ | exact ⟨cells4 S2.out.at_ 1, cells4 S2.out.at_ 2⟩) (first
          | (go_at_call 27; with_reducible refine (GrX.gdel S0'.out.gr S0'.out.hN S0'.out.hZ HL.out HW.out.1 HW.out.2 HD.out).mono ?_; rintro e w1 ⟨rfl, hg, hz⟩; have S1 := Lib.hid (S0'.out.next hg hz); clear hg hz)
          | (go_at_call 30; with_reducible refine (GrX.xdel S1.out.gr S1.out.hN S1.out.hZ HSM.out HL.out xa xb HD.out).mono ?_; rintro e w2 ⟨rfl, hg, hz⟩; have S2 := Lib.hid (S1.out.next hg hz); clear hg hz)
          | fail)
        all_goals exact ⟨rfl, S2.out⟩
      case hK =>
        rintro wc hS2
        have S2 := Lib.hid hS2
        clear hS2
        go_wp2_with fail
        exact bodyPost_ret (v := .bool true) (by simp [results, Try.results11, go_sem]) rfl ⟨rfl, by rw [HA.out]; exact S2.out.gr.mono (fun k hk => .inr hk), S2.out.gz⟩
    · have e2 : (kd == 2) = false := by simp [k2]
      have HA := Lib.hid (show stepA M (kd, xa, xb, xv) = M from (if_neg k1).trans (if_neg k2))
      go_upto_region 8 with fail
      rw [← HWW.out, ← hnb]
      clear h1 h2 h3 h4 HWW hnb
      have c1 := cells4 S0.out.at_ 1
      have c2 := cells4 S0.out.at_ 2
      dsimp at c1 c2
      obtain ⟨y, hy⟩ : ∃ y, y = (cget M xa xb).getD 0 := ⟨_, rfl⟩
      obtain ⟨d, hd⟩ : ∃ d, d = (cget M xa xb).isSome := ⟨_, rfl⟩
      have HY := Lib.hid (And.intro hy hd)
      clear hy hd
      go_wp2_with (first
        | (go_at_call 28; refine (GrX.gget S0.out.gr HW.out.1 HW.out.2 HY.out.1 HY.out.2).mono ?_; rintro e w1 ⟨rfl, hw1⟩; subst hw1)
        | (go_at_call 31; refine (GrX.xget S0.out.gr HSM.out HL.out xa xb HY.out.1 HY.out.2).mono ?_; rintro e w2 ⟨rfl, hb⟩; have S2 := Lib.hid (S0.out.below hb); clear hb)
        | fail)
      exact bodyPost_ret (v := .bool true) (by simp [results, Try.results11, go_sem]) rfl ⟨rfl, by rw [HA.out]; exact S2.out.gr.mono (fun k hk => .inr hk), S2.out.gz⟩
end Go.Proofs.Ytlfngdfbimcjhaa
