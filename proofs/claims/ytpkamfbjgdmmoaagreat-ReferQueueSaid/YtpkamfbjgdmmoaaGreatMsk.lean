/-
  Joined texts.
-/
import Derived.BigRegion
import Derived.RegionTactic
import Derived.TacticsInMore
import Derived.LoopNIn
import Derived.LoopIn
import Derived.Deep.RegionHeld3
import Derived.Test.YtpkamfbjgdmmoaaGreatMsj

section
namespace Go.Proofs.YtpkamfbjgdmmoaaGreat
open Go.RowKit Go.Maps Go.Shelf
attribute [local go_sem] Oper.semAt_some
set_option linter.unusedVariables false
set_option linter.unusedSimpArgs false

theorem RvToX.via {r g vb N : Nat} {ts : List Trk} {R : List Rfm} {S : Vs} {A : Acc} {M : Cls Int} {Z B : FP} {w w1 : World} (h : RvToX r g vb N ts R S A M Z B w w1) : ∃ Z1, RvAt r g vb N ts R S A M Z1 w1 ∧ (∀ j, Z1 j → Z j ∨ w.heap.size ≤ j) ∧ ∀ R' S' A' M' w', RvTo r g vb N ts R' S' A' M' Z1 w1 w' → RvToX r g vb N ts R' S' A' M' Z B w w' ∧ ∀ j, j < w.heap.size → ¬ Z j → w'.heap[j]? = w1.heap[j]? := by
  obtain ⟨hB, Z1, h1, h2, h3⟩ := h
  refine ⟨Z1, h1, h2, fun R' S' A' M' w' ⟨Z2, k1, k2, k3⟩ => ?_⟩
  have hs := h3.grow.size
  have hst : ∀ j, j < w.heap.size → ¬ Z j → w'.heap[j]? = w1.heap[j]? := fun j hj hz => k3.block j (by omega) (fun e => (h2 j e).elim hz (fun e => by omega)) (fun h => h)
  exact ⟨⟨hB, Z2, k1, fun j hj => (k2 j hj).elim (h2 j) (fun e => .inr (by omega)), h3.grow.trans k3.grow, fun j hj h4 h5 => (hst j hj (fun e => h4 (.inl e))).trans (h3.block j hj h4 h5)⟩, hst⟩
theorem boxed_at {W W' : World} {p : Nat} {T : TypeId} {v : Value} (h : Boxed W p T v) (hb : W'.heap[p]? = W.heap[p]?) : W'.cell? ⟨p, 0, none⟩ = some v := Boxed.cell (t := T) (hb.trans h)
set_option maxHeartbeats 8000000 in
set_option maxRecDepth 100000 in
attribute [local go_sem ↓] loadSt_R_hide appEv_hide in
theorem refer_Service {r g vb N : Nat} {ts : List Trk} {R : List Rfm} {S : Vs} {A : Acc} {M : Cls Int} {Z : FP} {w : World} (h : RvAt r g vb N ts R S A M Z w) (hi : Rin ts R) {now : Int} (hsi : Rsi R now) (hn : soon now) (hf : ∀ k : Nat, k < R.length → Fits10 (tallyOf S k).a (tallyOf S k).n (tallyOf S k).s (sumTo A 10)) :
    Calls Tryz.prog 17 #[.pointer (some ⟨r, 0, none⟩), .pointer (some ⟨g, 0, none⟩), .pointer (some ⟨vb, 0, none⟩), .int .i64 now] w fun e w' => ∃ v, e = .returned v ∧ RvTo r g vb N ts (serviceR ts (sumTo A 10) R S now).1 (serviceR ts (sumTo A 10) R S now).2.1 A M Z w w' ∧ OwnR evR w.heap.size v (serviceR ts (sumTo A 10) R S now).2.2 w' := by
  refine (callsIn_wide (n := 2)).1 ?_
  obtain ⟨W0, hW0⟩ : ∃ W0, W0 = (((w.alloc (.cells #[.pointer (some ⟨r, 0, none⟩)] 35)).alloc (.cells #[.pointer (some ⟨g, 0, none⟩)] 33)).alloc (.cells #[.pointer (some ⟨vb, 0, none⟩)] 34)).alloc (.cells #[.int .i64 now] 3) := ⟨_, rfl⟩
  obtain ⟨p4, hp4⟩ : ∃ p4, p4 = w.heap.size := ⟨_, rfl⟩
  obtain ⟨p5, hp5⟩ : ∃ p5, p5 = p4 + 1 := ⟨_, rfl⟩
  obtain ⟨p6, hp6⟩ : ∃ p6, p6 = p5 + 1 := ⟨_, rfl⟩
  obtain ⟨p7, hp7⟩ : ∃ p7, p7 = p6 + 1 := ⟨_, rfl⟩
  have hb0 : Below w.heap.size w W0 := by rw [hW0]; exact ((((Below.refl _ w).alloc (Nat.le_refl _) _).alloc (by simp) _).alloc (by simp; omega) _).alloc (by simp; omega) _
  have hsz : W0.heap.size = p4 + 4 := by rw [hW0, hp4]; simp
  have x4 : Boxed W0 p4 35 (.pointer (some ⟨r, 0, none⟩)) := by rw [hW0, hp4]; exact (((Boxed.new w _ _).alloc _).alloc _).alloc _
  have x5 : Boxed W0 p5 33 (.pointer (some ⟨g, 0, none⟩)) := by
    have := Boxed.new (w.alloc (.cells #[.pointer (some ⟨r, 0, none⟩)] 35)) 33 (.pointer (some ⟨g, 0, none⟩))
    rw [World.size_alloc] at this
    rw [hW0, hp5, hp4]; exact (this.alloc _).alloc _
  have x6 : Boxed W0 p6 34 (.pointer (some ⟨vb, 0, none⟩)) := by
    have := Boxed.new ((w.alloc (.cells #[.pointer (some ⟨r, 0, none⟩)] 35)).alloc (.cells #[.pointer (some ⟨g, 0, none⟩)] 33)) 34 (.pointer (some ⟨vb, 0, none⟩))
    rw [World.size_alloc, World.size_alloc] at this
    rw [hW0, hp6, hp5, hp4]; exact this.alloc _
  have x7 : Boxed W0 p7 3 (.int .i64 now) := by
    have := Boxed.new (((w.alloc (.cells #[.pointer (some ⟨r, 0, none⟩)] 35)).alloc (.cells #[.pointer (some ⟨g, 0, none⟩)] 33)).alloc (.cells #[.pointer (some ⟨vb, 0, none⟩)] 34)) 3 (.int .i64 now)
    rw [World.size_alloc, World.size_alloc, World.size_alloc] at this
    rw [hW0, hp7, hp6, hp5, hp4]; exact this
  have hz : ∀ j, w.heap.size ≤ j → ¬ Z j := fun j hj e => by have := h.lt e; omega
  obtain ⟨FR, hre, -⟩ := (h.below hb0).re
  obtain ⟨tb, cap, gb, c0, -, -, -⟩ := hre.cells
  obtain ⟨n, hnn⟩ : ∃ n, n = ts.length := ⟨_, rfl⟩
  have hnI : (n : Int) ≤ 100 := by have := hi.tlen; omega
  rw [← hnn] at c0
  have hkeep : ∀ R' W, RvToX r g vb N ts R' S A M Z (fun _ => False) W0 W → W.cell? ⟨p4, 0, none⟩ = some (.pointer (some ⟨r, 0, none⟩)) ∧ W.cell? ⟨p5, 0, none⟩ = some (.pointer (some ⟨g, 0, none⟩)) ∧ W.cell? ⟨p6, 0, none⟩ = some (.pointer (some ⟨vb, 0, none⟩)) ∧ W.cell? ⟨p7, 0, none⟩ = some (.int .i64 now) := fun R' W hX =>
    ⟨boxed_at x4 (hX.old (by omega) (hz _ (by omega)) (fun h => h)), boxed_at x5 (hX.old (by omega) (hz _ (by omega)) (fun h => h)), boxed_at x6 (hX.old (by omega) (hz _ (by omega)) (fun h => h)), boxed_at x7 (hX.old (by omega) (hz _ (by omega)) (fun h => h))⟩
  have X0 : RvToX r g vb N ts R S A M Z (fun _ => False) W0 W0 := RvToX.start (h.below hb0) (fun j hj => hj.elim)
  obtain ⟨c4, c5, c6, c7⟩ := hkeep _ _ X0
  have cr := c0
  have HK := Lib.hid hkeep
  have HX0 := Lib.hid X0
  have HW0 := Lib.hid hW0
  have HB0 := Lib.hid hb0
  have HZ := Lib.hid hz
  have HIN := Lib.hid (And.intro hi (And.intro hsi (And.intro hn hf)))
  have HN := Lib.hid hnn
  have HPP := Lib.hid (And.intro hp4 (And.intro hp5 (And.intro hp6 (And.intro hp7 hsz))))
  have HBX := Lib.hid (And.intro x4 (And.intro x5 (And.intro x6 x7)))
  clear hre c0 hkeep hb0 x4 x5 x6 x7 hnn h X0 hi hsi hn hf hz
  refine callsIn_of_wp_marks Tryz.func17 rfl trivial ?_ rfl
  simp only [Tryz.ntmps17, List.size_toArray, List.length_cons, List.length_nil, Nat.reduceAdd, Nat.reduceSub, Array.replicate_succ, Array.replicate_zero, List.push_toArray, List.append_toArray, List.nil_append, List.cons_append]
  rw [hW0] at c4 c5 c6 c7 cr
  rw [hp7, hp6, hp5, hp4] at c7
  rw [hp6, hp5, hp4] at c6
  rw [hp5, hp4] at c5
  rw [hp4] at c4
  clear hW0 hp7 hp6 hp5 hp4 hsz
  gi_wp2_with fail
  rw [← HW0.out]
  rw [← HPP.out.1, ← HPP.out.2.1, ← HPP.out.2.2.1, ← HPP.out.2.2.2.1]
  clear c4 c5 c6 c7 cr
  gi_loopw [29] (fun i wr => ∃ k : Nat, k ≤ n ∧ i = .int .i64 k ∧ RvToX r g vb N ts (chooseAll ts R S now k) S A M Z (fun _ => False) W0 wr) (fun i _ => n - (intOf i).toNat)
  case atStart => exact ⟨0, Nat.zero_le _, rfl, HX0.out⟩
  case round => as_aux_lemma =>
    obtain ⟨k, hk, rfl, hX⟩ := hrel
    obtain ⟨c4, c5, c6, c7⟩ := HK.out _ wr hX
    by_cases hlt : k < n
    · have hlt' : (k : Int) < n := by omega
      have hcall : Calls Tryz.prog 56 #[.pointer (some ⟨r, 0, none⟩), .pointer (some ⟨vb, 0, none⟩), .int .i64 k, .int .i64 now] wr fun e w' => (∃ u, e = .returned u) ∧ RvToX r g vb N ts (chooseAll ts R S now (k + 1)) S A M Z (fun _ => False) W0 w' := by
        obtain ⟨Z1, h1, -, lift⟩ := hX.via
        obtain ⟨hi, hsi, hn, hf⟩ := HIN.out
        have hkl : k < ts.length := by rw [← HN.out]; exact hlt
        refine (refer_choose h1 (hi.chooseAll hn S k) hkl hn).mono ?_
        rintro e w' ⟨he, hto⟩
        rw [chooseAll_snoc, trkAt_is hkl]
        exact ⟨he, (lift _ _ _ _ _ hto).1⟩
      have HC := Lib.hid hcall
      clear hcall hX
      gi_wp2_with (first
        | (refine ⟨trivial, ?_⟩; gi_at_call 56; refine (callsIn_wide.2 HC.out).mono ?_; rintro e w' ⟨⟨v, rfl⟩, hb⟩; have HB := Lib.hid hb; clear hb)
        | (gi_at_call 56; refine (callsIn_wide.2 HC.out).mono ?_; rintro e w' ⟨⟨v, rfl⟩, hb⟩; have HB := Lib.hid hb; clear hb)
        | fail)
      exact ⟨⟨k + 1, hlt, by go_num, HB.out⟩, by simp [intOf]; omega⟩
    · obtain rfl : k = n := by omega
      obtain ⟨R1, hR1⟩ : ∃ R1, R1 = chooseAll ts R S now k := ⟨_, rfl⟩
      rw [← hR1] at hX
      obtain ⟨wb, hwb⟩ : ∃ wb, wb = wr.heap.size := ⟨_, rfl⟩
      obtain ⟨W1, hW1⟩ : ∃ W1, W1 = wr.alloc (.cells #[.slice none 0 0] 48) := ⟨_, rfl⟩
      have hb1 : Below wr.heap.size wr W1 := by rw [hW1]; exact (Below.refl _ wr).alloc (Nat.le_refl _) _
      have x10 : Boxed W1 wb 48 (.slice none 0 0) := by rw [hW1, hwb]; exact Boxed.new wr _ _
      have hs1 : W1.heap.size = wb + 1 := by rw [hW1, hwb]; simp
      obtain ⟨hi, hsi, hn, hf⟩ := HIN.out
      have hi1 : Rin ts R1 := by rw [hR1]; exact hi.chooseAll hn S _
      have hsi1 : Rsi R1 now := by rw [hR1]; exact hsi.chooseAll ts S _
      have hl1 : R1.length = R.length := by rw [hR1]; exact chooseAll_len _ _ _ _ _
      obtain ⟨Z1, h1, hz1, -⟩ := hX.via
      have hX1 := (hX.below hb1).1
      obtain ⟨d4, d5, d6, d7⟩ := HK.out _ W1 hX1
      obtain ⟨FR1, hre1, -⟩ := hX1.re
      have hall := refer_All hre1 (by have := hi1.len; omega)
      have c4' := d4
      rw [hW1] at c4'
      have hXs := hX.size
      have H1 := Lib.hid (And.intro x10 (And.intro hb1 (And.intro hs1 (And.intro hX (And.intro h1 (And.intro hz1 hX1))))))
      have HI1 := Lib.hid (And.intro hi1 (And.intro hsi1 (And.intro hl1 hXs)))
      have HR1 := Lib.hid hR1
      have HW1 := Lib.hid hW1
      have HWB := Lib.hid hwb
      have HALL := Lib.hid hall
      have HD := Lib.hid (And.intro d4 (And.intro d5 (And.intro d6 d7)))
      clear x10 hb1 hs1 h1 hz1 hX1 hi1 hsi1 hl1 hXs hR1 hW1 hwb hall hre1 d4 d5 d6 d7 hX hi hsi hn hf
      gi_wp2_with (first
        | (refine ⟨trivial, ?_⟩; gi_at_call 57; rw [← HW1.out]; refine (callsIn_wide.2 HALL.out).mono ?_; rintro e w2 ⟨ab, v2, rfl, hbx, ho, hl, hb⟩; have H2 := Lib.hid (And.intro hbx (And.intro ho (And.intro hl hb))); clear hbx ho hl hb)
        | (gi_at_call 57; rw [← HW1.out]; refine (callsIn_wide.2 HALL.out).mono ?_; rintro e w2 ⟨ab, v2, rfl, hbx, ho, hl, hb⟩; have H2 := Lib.hid (And.intro hbx (And.intro ho (And.intro hl hb))); clear hbx ho hl hb)
        | fail)
      rw [← HWB.out]
      obtain ⟨hab, ho2, hl2, hb2⟩ := H2.out
      obtain ⟨x10, hb1, hs1, hX, h1, hz1, hX1⟩ := H1.out
      obtain ⟨hi1, hsi1, hl1, hXs⟩ := HI1.out
      obtain ⟨p4e, p5e, p6e, p7e, p0s⟩ := HPP.out
      have hb12 : Below wr.heap.size wr w2 := hb1.trans (hb2.mono hb1.size)
      have h2 : RvAt r g vb N ts R1 S A M Z1 w2 := h1.below hb12
      have hs2 := hb2.size
      have hwbl : wb < w2.heap.size := by omega
      have hwbz : ¬ Z1 wb := fun e => by have := h1.lt e; have := hb1.size; have := HWB.out; omega
      have hit := now1_iter_R 0 ab v2 (rowR 0 R1) w2 hab ho2.reads (by rw [rowR_len]; have := hi1.len; omega) (fun k => k = ab ∨ v2.ownBlock = some k) (.inl rfl) (fun k hk => .inr hk)
      have hGl : ∀ k, (k = ab ∨ v2.ownBlock = some k) → k < w2.heap.size := fun k hk => hk.elim (fun e => by rw [e]; exact hab.lt) (fun e => (ho2.block e).2)
      have hGn : ∀ k, (k = ab ∨ v2.ownBlock = some k) → W1.heap.size ≤ k := fun k hk => hk.elim (fun e => by omega) (fun e => by have := (ho2.block e).1; omega)
      have hΨ : ∀ k, (Z1 k ∨ k = wb) → k < w2.heap.size ∧ ¬ (k = ab ∨ v2.ownBlock = some k) := by
        rintro k (e | rfl)
        · have := h1.lt e; have := hb1.size
          exact ⟨by omega, fun hg => by have := hGn _ hg; omega⟩
        · exact ⟨hwbl, fun hg => by have := hGn _ hg; omega⟩
      have xw2 : Boxed w2 wb 48 (.slice none 0 0) := (hb2.block wb (by omega)).trans x10
      have hold : ∀ k, k < w.heap.size → ¬ Z k → w2.heap[k]? = w.heap[k]? ∧ ¬ Z1 k ∧ k ≠ wb := fun k hk hz => by
        have e0 := HB0.out.block k hk
        have hs0 := HB0.out.size
        have e1 := hX.old (k := k) (by omega) hz (fun h => h)
        have e2 := hb12.block k (by omega)
        exact ⟨e2.trans (e1.trans e0), fun e => (hz1 k e).elim hz (fun e => by omega), by have := HWB.out; omega⟩
      have hgr : Grow w w2 := (Grow.of_below HB0.out).trans ((Grow.mk (by obtain ⟨-, Zx, -, -, q⟩ := hX; exact q.grow.os) (by obtain ⟨-, Zx, -, -, q⟩ := hX; exact q.grow.tape) (by obtain ⟨-, Zx, -, -, q⟩ := hX; exact q.grow.output) hXs).trans (Grow.of_below hb12))
      have hz1w : ∀ k, Z1 k → Z k ∨ w.heap.size ≤ k := fun k hk => (hz1 k hk).imp id (fun e => by have := HB0.out.size; omega)
      have hpz : ∀ p, p4 ≤ p → p < p4 + 4 → p < w2.heap.size ∧ ¬ Z1 p ∧ p ≠ wb := fun p q1 q2 => by
        have hw := HWB.out
        have := hb1.size
        exact ⟨by omega, fun e => (hz1 p e).elim (HZ.out p (by omega)) (fun e => by omega), by omega⟩
      obtain ⟨d4, d5, d6, d7⟩ := HD.out
      have hq4 := (hpz p4 (by omega) (by omega))
      have hq5 := (hpz p5 (by omega) (by omega))
      have hq6 := (hpz p6 (by omega) (by omega))
      have hq7 := (hpz p7 (by omega) (by omega))
      have lW1 : ∀ p, p4 ≤ p → p < p4 + 4 → p < W1.heap.size := fun p q1 q2 => by have hw := HWB.out; have := hb1.size; omega
      have i4 : w2.cell? ⟨p4, 0, none⟩ = some (.pointer (some ⟨r, 0, none⟩)) := (World.cell?_of_block (a := ⟨p4, 0, none⟩) (hb2.block p4 (lW1 _ (by omega) (by omega)))).trans d4
      have i5 : w2.cell? ⟨p5, 0, none⟩ = some (.pointer (some ⟨g, 0, none⟩)) := (World.cell?_of_block (a := ⟨p5, 0, none⟩) (hb2.block p5 (lW1 _ (by omega) (by omega)))).trans d5
      have i6 : w2.cell? ⟨p6, 0, none⟩ = some (.pointer (some ⟨vb, 0, none⟩)) := (World.cell?_of_block (a := ⟨p6, 0, none⟩) (hb2.block p6 (lW1 _ (by omega) (by omega)))).trans d6
      have i7 : w2.cell? ⟨p7, 0, none⟩ = some (.int .i64 now) := (World.cell?_of_block (a := ⟨p7, 0, none⟩) (hb2.block p7 (lW1 _ (by omega) (by omega)))).trans d7
      have HC2 := Lib.hid (And.intro i4 (And.intro i5 (And.intro i6 (And.intro i7 (And.intro hq4 (And.intro hq5 (And.intro hq6 hq7)))))))
      have HO2 := Lib.hid (And.intro hold (And.intro hgr hz1w))
      have HWZ := Lib.hid (And.intro hwbl hwbz)
      have hst := SvI.stab (r := r) (g := g) (vb := vb) (N := N) (ts := ts) (A := A) (M := M) (is := sumTo A 10) (now := now) (R := R1) (S := S) (w2 := w2) (fun k hk => (hΨ k (.inl hk)).1) hwbl
      have hst0 := SvI.start (is := sumTo A 10) (now := now) h2 xw2
      clear x10 hb1 hs1 hX h1 hz1 hX1 hi1 hsi1 hl1 hXs p4e p5e p6e p7e p0s hb12 h2 hwbl hwbz xw2 hold hgr hz1w hpz d4 d5 d6 d7 hq4 hq5 hq6 hq7 lW1 i4 i5 i6 i7 hab ho2 hl2 hb2 hs2 hGn c4 c5 c6 c7 c4' hlt
      refine range_outerBU (n := 0) (gf := 119) (lb := #[.pointer (some ⟨ab, 0, none⟩)]) rfl enters_now_R hit (Grow.refl w2) (fun k hk => ⟨hGl k hk, rfl⟩) (fun _ => rfl)
        (fun k => Z1 k ∨ k = wb) hΨ (SvI r g vb N ts A M Z1 (sumTo A 10) now R1 S w2.heap.size wb w2) (fun _ _ _ _ => False) hst (fun c _ _ _ h => h.elim) hst0
        (fun x N T => (((T.setIfInBounds 40 (.int .i64 x.1)).setIfInBounds 41 (.agg (rfS.f x.2).toArray)).setIfInBounds 11 (.int .i64 x.1)).setIfInBounds 12 (.pointer (some ⟨N, 0, none⟩)))
        (fun x N W => W.heap[N]? = some (.cells (rfS.f x.2).toArray 56 (0, 0))) (fun x N W W' h e => e.trans h) ?assign ?body ?done ?stop
      case stop => exact fun _ _ _ _ _ _ h => h.elim
      case assign =>
        intro l x W K hK
        simp only [encs_R]
        gi_wp2_with (first
          | (refine wplIn_allocS (s := rfS) rfl rfl rfl ?_)
          | (refine wplIn_storeS (s := rfS) (t := x.2) (b := W.heap.size) _ _ rfl rfl rfl rfl rfl (World.alloc_heap_new W _) (zeroS rfS) ?_; rw [newS])
          | fail)
        exact hK _ ((Below.refl _ W).alloc (Nat.le_refl _) _) (by simp) (World.alloc_heap_new _ _)
      case done => as_aux_lemma =>
        rintro D Φ W3 ⟨v3, Z2, e1, e2, e3, e4, e5, e6, e7, e8⟩ hon hD hnD hK
        obtain ⟨ao, cp, rfl⟩ := e3.lenOf
        have cw := e2.cell
        obtain ⟨evs, hevs⟩ : ∃ evs, evs = (serveP ts (sumTo A 10) now R1 S (rowR 0 R1)).2.2 := ⟨_, rfl⟩
        obtain ⟨ln, hln⟩ : ∃ ln, ln = evs.length := ⟨_, rfl⟩
        rw [← hevs, ← hln] at cw e3 e4 e6
        have HE := Lib.hid (And.intro e1 (And.intro e3 (And.intro e4 (And.intro e5 (And.intro e6 (And.intro e7 e8))))))
        have HDD := Lib.hid (And.intro hD (And.intro hnD hK))
        have HEV := Lib.hid hevs
        have HGW := Lib.hid hon.grow
        clear e1 e2 e3 e4 e5 e6 e7 e8 hD hnD hK hevs hon hln
        gi_wp2_with fail
        obtain ⟨e1, e3, e4, e5, e6, e7, e8⟩ := HE.out
        obtain ⟨hD, hnD, hK⟩ := HDD.out
        obtain ⟨hold, hgr, hz1w⟩ := HO2.out
        have hgs := hgr.size
        refine marks_leave [D] _ (by simp) (fun d' hd' => ?_) (fun w' hg' hk' => ⟨.slice ao ln cp, by simp [results, Tryz.results17, go_sem], ⟨_, rfl, ?_, ?_⟩⟩)
        · simp only [List.mem_cons, List.not_mem_nil, or_false] at hd'
          subst hd'; exact hK
        · have hDz : ∀ q, Z2 q → q ≠ D := fun q hq e => hnD ((e4 D).2 (.inl ⟨e ▸ hq, hD⟩))
          have hne : ∀ q, q < w.heap.size → q ∉ [D] := fun q hq e => by rw [List.mem_singleton] at e; omega
          unfold serviceR
          rw [← HN.out, ← HR1.out]
          exact ⟨Z2, e1.keep hg' (fun q hq => hk' q (fun e => hDz q hq (List.mem_singleton.1 e))), fun q hq => (e5 q hq).elim (hz1w q) (fun e => .inr (by omega)), hgr.trans (HGW.out.trans hg'), fun q hq h1 h2 => (hk' q (hne q hq)).trans ((e7 q (by omega) (hold q hq h1).2.1 (hold q hq h1).2.2).trans (hold q hq h1).1)⟩
        · unfold serviceR
          rw [← HN.out, ← HR1.out, ← HEV.out]
          exact e3.of hgs (fun q hq => hk' q (fun e => by rw [List.mem_singleton] at e; exact hnD ((e4 D).2 (.inr (e ▸ hq)))))
      case body => as_aux_lemma =>
        rintro l pre x Φ Nx W hpx hJ hl hΦ - hlN hNW hAt
        have hxm : x ∈ rowR 0 R1 := hpx.subset (by simp)
        obtain ⟨kx, hkx, hx1⟩ := mem_rowR.1 hxm
        rw [Nat.zero_add] at hx1
        have hkl : kx < R1.length := (List.getElem?_eq_some_iff.1 hkx).1
        have hxR : x.2 ∈ R1 := List.mem_of_getElem? hkx
        obtain ⟨hi1, hsi1, hl1, hXs⟩ := HI1.out
        obtain ⟨hi, hsi, hn, hf⟩ := HIN.out
        obtain ⟨i4, i5, i6, i7, q4, q5, q6, q7⟩ := HC2.out
        have hlen := hi1.len
        obtain ⟨tk, htk⟩ : ∃ tk : Nat, x.2.tr = tk := ⟨x.2.tr.toNat, by have := hi1.tr _ hxR; omega⟩
        have htl : tk < ts.length := by have := hi1.tr _ hxR; omega
        have htA : trkAt ts x.2.tr = ts[tk] := by rw [htk]; exact trkAt_is htl
        obtain ⟨v, Z2, bw, ov, X0, hk0, ⟨zN, zw, zv⟩, STAY, APP⟩ := hJ.round (x := x) HWZ.out.1 HWZ.out.2 (show w2.heap.size ≤ Nx by omega) hNW (fun k hk => (hΦ k hk).2)
        have hsP := serveP_snoc ts (sumTo A 10) now R1 S pre x
        have hqlen : (serveP ts (sumTo A 10) now R1 S pre).1.length = R1.length := serveP_len _ _ _ _ _ _
        have htal := tallyOf_serveP ts (sumTo A 10) now R1 S pre x.1
        obtain ⟨q, hq⟩ : ∃ q, q = serveP ts (sumTo A 10) now R1 S pre := ⟨_, rfl⟩
        rw [← hq] at hsP hqlen htal ov X0 STAY APP
        have hevl := serveP_evl ts (sumTo A 10) now R1 S pre
        rw [← hq] at hevl
        obtain ⟨Rq, Sq, Ev3⟩ := q
        simp only at hsP hqlen htal ov X0 STAY APP hevl
        have hev : Ev3.length ≤ 1000000 := by have h2 := hpx.length_le; rw [List.length_append, List.length_singleton, rowR_len] at h2; omega
        obtain ⟨ao, cp, rfl⟩ := ov.lenOf
        obtain ⟨m, hm⟩ : ∃ m, m = Ev3.length := ⟨_, rfl⟩
        rw [← hm] at bw ov zv APP
        have hNlt : w2.heap.size ≤ Nx := by omega
        have hkp : ∀ R' S' W', RvToX r g vb N ts R' S' A M Z2 (fun j => j = Nx ∨ j = wb) W W' → W'.cell? ⟨p4, 0, none⟩ = some (.pointer (some ⟨r, 0, none⟩)) ∧ W'.cell? ⟨p5, 0, none⟩ = some (.pointer (some ⟨g, 0, none⟩)) ∧ W'.cell? ⟨p6, 0, none⟩ = some (.pointer (some ⟨vb, 0, none⟩)) ∧ W'.cell? ⟨p7, 0, none⟩ = some (.int .i64 now) := fun R' S' W' hX => by
          have key : ∀ p, p < w2.heap.size ∧ ¬ Z1 p ∧ p ≠ wb → W'.heap[p]? = w2.heap[p]? := fun p hp =>
            (hX.old (by omega) (hk0 p hp.1 hp.2.1 hp.2.2).2 (fun e => e.elim (fun e => by omega) hp.2.2)).trans (hk0 p hp.1 hp.2.1 hp.2.2).1
          exact ⟨(World.cell?_of_block (a := ⟨p4, 0, none⟩) (key p4 q4)).trans i4, (World.cell?_of_block (a := ⟨p5, 0, none⟩) (key p5 q5)).trans i5, (World.cell?_of_block (a := ⟨p6, 0, none⟩) (key p6 q6)).trans i6, (World.cell?_of_block (a := ⟨p7, 0, none⟩) (key p7 q7)).trans i7⟩
        obtain ⟨U, hU⟩ : ∃ U, U = cfmU ts[tk] (tallyOf S x.1) (sumTo A 10) x.2 now := ⟨_, rfl⟩
        obtain ⟨y, hy⟩ : ∃ y : Rfm, y = { x.2 with un := U } := ⟨_, rfl⟩
        obtain ⟨o, ho⟩ : ∃ o, o = outE ts[tk] y now := ⟨_, rfl⟩
        have eY : svY ts (sumTo A 10) now Sq x = y := by unfold svY; rw [htA, htal, ← hU, ← hy]
        have eO : svO ts (sumTo A 10) now Sq x = o := by unfold svO; rw [htA, eY, ← ho]
        have hcf : ∀ wx, RvToX r g vb N ts Rq Sq A M Z2 (fun j => j = Nx ∨ j = wb) W wx → Calls Tryz.prog 58 #[.pointer (some ⟨r, 0, none⟩), .pointer (some ⟨g, 0, none⟩), .pointer (some ⟨vb, 0, none⟩), .int .i64 x.1, .agg (rfS.f x.2).toArray, .int .i64 now] wx fun e w' => e = .returned (.int .i64 U) ∧ Below wx.heap.size wx w' := fun wx hX => by
          obtain ⟨Zx, k1, -, -⟩ := hX.via
          have := refer_confirming k1 x.1 x.2 htl htk hn (hi1.si _ hxR) (hsi1 _ hxR) (hi1.ok _ (List.getElem_mem _)) (fun _ => by rw [htal, hx1]; exact hf kx (by omega))
          rw [htal, ← hU] at this
          exact this
        have hse : ∀ wx, RvToX r g vb N ts Rq Sq A M Z2 (fun j => j = Nx ∨ j = wb) W wx → Calls Tryz.prog 41 #[.pointer (some ⟨r, 0, none⟩), .int .i64 x.1, .agg (rfS.f y).toArray] wx fun e w' => e = .returned (.tuple #[]) ∧ RvToX r g vb N ts (Rq.set kx y) Sq A M Z2 (fun j => j = Nx ∨ j = wb) W w' ∧ ∀ j, j < W.heap.size → ¬ Z2 j → w'.heap[j]? = wx.heap[j]? := fun wx hX => by
          obtain ⟨FRx, k1, lift⟩ := hX.re
          rw [hx1]
          refine (refer_set k1 k1.size (R' := Rq.set kx y) (k := kx) (by omega) (by omega) y (by rw [if_pos (by omega)])).mono ?_
          rintro e w' ⟨he, hto⟩
          exact ⟨he, lift _ _ hto⟩
        have hou : ∀ R' wx, RvToX r g vb N ts R' Sq A M Z2 (fun j => j = Nx ∨ j = wb) W wx → Calls Tryz.prog 59 #[.pointer (some ⟨r, 0, none⟩), .agg (rfS.f y).toArray, .int .i64 now] wx fun e w' => e = .returned (.int .i64 o) ∧ Below wx.heap.size wx w' := fun R' wx hX => by
          obtain ⟨FRx, k1, -⟩ := hX.re
          have := refer_outcome k1 y htl (by rw [hy]; exact htk) hn (by rw [hy]; exact (show soon x.2.sb from hi1.sb _ hxR)) (by rw [hy]; exact (show soon x.2.si from hi1.si _ hxR))
          rw [← ho] at this
          exact this
        have hen : ∀ wx, RvToX r g vb N ts (Rq.set kx y) Sq A M Z2 (fun j => j = Nx ∨ j = wb) W wx → RfBox wx Nx y → Calls Tryz.prog 60 #[.pointer (some ⟨r, 0, none⟩), .pointer (some ⟨vb, 0, none⟩), .int .i64 x.1, .pointer (some ⟨Nx, 0, none⟩), .int .i64 o, .int .i64 now] wx fun e w' => e = .returned (.agg #[.int .i64 1, .int .i64 x.1, .int .i64 o]) ∧ RvToX r g vb N ts (Rq.set kx (endX y o now (tallyOf Sq x.1))) (closeS Sq x.1 o now) A M Z2 (fun j => j = Nx ∨ j = wb) W w' ∧ w'.heap[wb]? = wx.heap[wb]? := fun wx hX hbx => by
          rw [hx1]
          refine (hX.en (k := kx) (by rw [List.length_set]; omega) (by rw [List.length_set]; omega) (.inl rfl) hbx o now).mono ?_
          rintro e w' ⟨he, hx', -, hst⟩
          rw [List.set_set] at hx'
          exact ⟨he, hx', hst wb (by have := HWZ.out.1; omega) zw (by have := HWZ.out.1; omega)⟩
        have bx0 : RfBox W Nx x.2 := hAt
        obtain ⟨c4, c5, c6, c7⟩ := hkp _ _ _ X0
        obtain ⟨x0, -⟩ := rf_at bx0.range
        have ld0 := run_loadSt_R bx0.range
        have b3 : ∀ wA, Below W.heap.size W wA → (wA.frozen? ⟨Nx, 40, none⟩ = false ∧ wA.cell? ⟨Nx, 40, none⟩ = some (.int .i64 x.2.un)) ∧ RvToX r g vb N ts Rq Sq A M Z2 (fun j => j = Nx ∨ j = wb) W (wA.setCell ⟨Nx, 40, none⟩ (.int .i64 U)) ∧ RfBox (wA.setCell ⟨Nx, 40, none⟩ (.int .i64 U)) Nx y ∧ (wA.setCell ⟨Nx, 40, none⟩ (.int .i64 U)).heap[wb]? = W.heap[wb]? := fun wA hb => by
          have bA : RfBox wA Nx x.2 := (hb.block Nx hNW).trans bx0
          have hwl := HWZ.out.1
          obtain ⟨y0, y1, -, -, y36, y37, y38, y39, y40, y41⟩ := rf_at bA.range
          refine ⟨⟨bA.frozen _, y40⟩, (X0.below hb).1.setCell (.inl rfl) 40 _, by rw [hy]; exact bA.set (rf_set_un x.2 U), (Below.heap_setCell _ _ _ wb (by show wb ≠ Nx; omega)).trans (hb.block wb (by omega))⟩
        have HKP := Lib.hid hkp
        have HCF := Lib.hid (hcf W X0)
        have HSE := Lib.hid hse
        have HOU := Lib.hid hou
        have HEN := Lib.hid hen
        have HB3 := Lib.hid b3
        have HST := Lib.hid STAY
        have HAP := Lib.hid APP
        have HSP := Lib.hid hsP
        have HY := Lib.hid (And.intro eY eO)
        have HX0 := Lib.hid X0
        have HBW := Lib.hid (And.intro bw (And.intro ov (And.intro zN (And.intro zw (And.intro zv (And.intro hNW (And.intro hqlen (And.intro hx1 hlen))))))))
        obtain ⟨st, hst⟩ : ∃ st, st = x.2.st := ⟨_, rfl⟩
        rw [← hst] at x0
        obtain ⟨ref, href⟩ : ∃ ref, ref = x.1 := ⟨_, rfl⟩
        rw [← href]
        rw [← href] at HCF HSE HEN
        have HREF := Lib.hid href
        obtain ⟨xx, hxx⟩ : ∃ xx, xx = x.2 := ⟨_, rfl⟩
        rw [← hxx]
        rw [← hxx] at ld0 HCF
        have HXX := Lib.hid hxx
        have HEVL := Lib.hid hev
        have HPQ := Lib.hid (And.intro q4 (And.intro q6 q7))
        clear hev hevl hm hit hGl hΨ hst0 hxm hkx hkl hxR hi1 hsi1 hl1 hXs hi hsi hn hf i4 i5 i6 i7 q4 q5 q6 q7 htk htl htA bw ov X0 hk0 zN zw zv STAY APP hsP hqlen htal hq hkp hU hy ho eY eO hcf hse hou hen bx0 b3 hAt hlen hpx hJ hl hΦ hlN hx1 href hxx
        by_cases z1 : st = 1
        · have b1 : (st != 1) = false := by simp [z1]
          have HZ1 := Lib.hid (show x.2.st = 1 by rw [← hst]; exact z1)
          clear z1 hst
          gi_upto_region 14 with (first
            | (refine ⟨trivial, rfl, ?_⟩; gi_at_call 58; refine (CallsIn.inRound l (callsIn_wide.2 HCF.out)).mono ?_; rintro e wA ⟨rfl, hb⟩; have HA := Lib.hid (HB3.out wA hb); have fA := HA.out.1.1; have cA := HA.out.1.2; clear hb)
            | (gi_at_call 58; refine (CallsIn.inRound l (callsIn_wide.2 HCF.out)).mono ?_; rintro e wA ⟨rfl, hb⟩; have HA := Lib.hid (HB3.out wA hb); have fA := HA.out.1.1; have cA := HA.out.1.2; clear hb)
            | fail)
          obtain ⟨w3, hw3⟩ : ∃ w3, w3 = wA.setCell ⟨Nx, 40, none⟩ (.int .i64 U) := ⟨_, rfl⟩
          obtain ⟨-, X3, bx3, e3⟩ := HA.out
          rw [← hw3] at X3 bx3 e3 ⊢
          obtain ⟨c4, c5, c6, c7⟩ := HKP.out _ _ _ X3
          have ld3 := run_loadSt_R bx3.range
          have HS3 := Lib.hid (HSE.out w3 X3)
          have H3 := Lib.hid (And.intro bx3 e3)
          clear X3 bx3 e3 hw3 x0 ld0 fA cA
          gi_upto_region 15 with (first
            | (refine ⟨trivial, rfl, ?_⟩; gi_at_call 41; refine (CallsIn.inRound l (callsIn_wide.2 HS3.out)).mono ?_; rintro e w4 ⟨rfl, hb, hk⟩; have H4 := Lib.hid (And.intro hb hk); clear hb hk)
            | (gi_at_call 41; refine (CallsIn.inRound l (callsIn_wide.2 HS3.out)).mono ?_; rintro e w4 ⟨rfl, hb, hk⟩; have H4 := Lib.hid (And.intro hb hk); clear hb hk)
            | fail)
          obtain ⟨X4, k4⟩ := H4.out
          obtain ⟨bw, ov, zN, zw, zv, hNW, hqlen, hx1, hlen⟩ := HBW.out
          have bx4 : RfBox w4 Nx y := (k4 Nx hNW zN).trans H3.out.1
          have e4 : w4.heap[wb]? = W.heap[wb]? := (k4 wb bw.lt zw).trans H3.out.2
          obtain ⟨c4, c5, c6, c7⟩ := HKP.out _ _ _ X4
          have ld4 := run_loadSt_R bx4.range
          have HO4 := Lib.hid (HOU.out _ w4 X4)
          have H4' := Lib.hid (And.intro bx4 (And.intro e4 X4))
          clear X4 k4 bx4 e4 bw ov zN zw zv hNW hqlen hx1 hlen ld3
          gi_upto_region 16 with (first
            | (refine ⟨trivial, rfl, ?_⟩; gi_at_call 59; refine (CallsIn.inRound l (callsIn_wide.2 HO4.out)).mono ?_; rintro e w5 ⟨rfl, hb⟩; have H5 := Lib.hid hb; clear hb)
            | (gi_at_call 59; refine (CallsIn.inRound l (callsIn_wide.2 HO4.out)).mono ?_; rintro e w5 ⟨rfl, hb⟩; have H5 := Lib.hid hb; clear hb)
            | fail)
          obtain ⟨bx4, e4, X4⟩ := H4'.out
          obtain ⟨bw, ov, zN, zw, zv, hNW, hqlen, hx1, hlen⟩ := HBW.out
          have hs4 := X4.size
          have X5 := (X4.below H5.out).1
          have bx5 : RfBox w5 Nx y := (H5.out.block Nx (by omega)).trans bx4
          have e5 : w5.heap[wb]? = W.heap[wb]? := (H5.out.block wb (by have := bw.lt; omega)).trans e4
          have HX5 := Lib.hid (And.intro X5 (And.intro bx5 e5))
          clear bx4 e4 X4 bw ov zN zw zv hNW hqlen hx1 hlen hs4 X5 bx5 e5 c4 c5 c6 c7 ld4
          by_cases z2 : o = 1
          · have b2 : (o != 1) = false := by simp [z2]
            have HZ2 := Lib.hid z2
            clear z2
            gi_wp2_with fail
            obtain ⟨X5, bx5, e5⟩ := HX5.out
            refine HST.out _ _ _ ?_ X5 e5
            rw [HSP.out]
            unfold serve1
            obtain ⟨bw, ov, zN, zw, zv, hNW, hqlen, hx1, hlen⟩ := HBW.out
            rw [if_pos HZ1.out, if_pos (HY.out.2.trans HZ2.out), HY.out.1, hx1, Int.toNat_natCast]
          · have b2 : (o != 1) = true := by simpa using z2
            have HZ2 := Lib.hid z2
            clear z2
            have harm : ∀ w9, RvToX r g vb N ts (Rq.set kx (endX y o now (tallyOf Sq ref))) (closeS Sq ref o now) A M Z2 (fun j => j = Nx ∨ j = wb) W w9 → w9.heap[wb]? = w5.heap[wb]? → ∃ aoa capa m2 wa, (appEv #[.slice ao m cp, .slice (some ⟨w9.heap.size, 0, none⟩) 1 1]).run Tryz.prog (w9.alloc (.cells #[.int .i64 1, .int .i64 ref, .int .i64 o] 68)) = .ok (.slice aoa m2 capa) wa ∧ w9.cell? ⟨wb, 0, none⟩ = some (.slice ao m cp) ∧ (w9.alloc (.cells #[.int .i64 1, .int .i64 ref, .int .i64 o] 68)).cell? ⟨wb, 0, none⟩ = some (.slice ao m cp) ∧ wa.cell? ⟨wb, 0, none⟩ = some (.slice ao m cp) ∧ wa.frozen? ⟨wb, 0, none⟩ = false ∧ (w9.cell? ⟨p4, 0, none⟩ = some (.pointer (some ⟨r, 0, none⟩)) ∧ w9.cell? ⟨p6, 0, none⟩ = some (.pointer (some ⟨vb, 0, none⟩)) ∧ w9.cell? ⟨p7, 0, none⟩ = some (.int .i64 now)) ∧ ((w9.alloc (.cells #[.int .i64 1, .int .i64 ref, .int .i64 o] 68)).cell? ⟨p4, 0, none⟩ = some (.pointer (some ⟨r, 0, none⟩)) ∧ (w9.alloc (.cells #[.int .i64 1, .int .i64 ref, .int .i64 o] 68)).cell? ⟨p6, 0, none⟩ = some (.pointer (some ⟨vb, 0, none⟩)) ∧ (w9.alloc (.cells #[.int .i64 1, .int .i64 ref, .int .i64 o] 68)).cell? ⟨p7, 0, none⟩ = some (.int .i64 now)) ∧ (wa.cell? ⟨p4, 0, none⟩ = some (.pointer (some ⟨r, 0, none⟩)) ∧ wa.cell? ⟨p6, 0, none⟩ = some (.pointer (some ⟨vb, 0, none⟩)) ∧ wa.cell? ⟨p7, 0, none⟩ = some (.int .i64 now)) ∧ ((wa.setCell ⟨wb, 0, none⟩ (.slice aoa m2 capa)).cell? ⟨p4, 0, none⟩ = some (.pointer (some ⟨r, 0, none⟩)) ∧ (wa.setCell ⟨wb, 0, none⟩ (.slice aoa m2 capa)).cell? ⟨p6, 0, none⟩ = some (.pointer (some ⟨vb, 0, none⟩)) ∧ (wa.setCell ⟨wb, 0, none⟩ (.slice aoa m2 capa)).cell? ⟨p7, 0, none⟩ = some (.int .i64 now)) ∧ Leaves (fun k => Z1 k ∨ k = wb) (fun k => Φ k ∨ k = Nx) W (fun Φ' W' => SvI r g vb N ts A M Z1 (sumTo A 10) now R1 S w2.heap.size wb w2 (pre ++ [x]) Φ' W') (wa.setCell ⟨wb, 0, none⟩ (.slice aoa m2 capa)) := fun w9 hx9 hw9 => by
              obtain ⟨X5, bx5, e5⟩ := HX5.out
              obtain ⟨bw, ov, zN, zw, zv, hNW, hqlen, hx1, hlen⟩ := HBW.out
              obtain ⟨q4, q6, q7⟩ := HPQ.out
              have hwl := HWZ.out.1
              have e9 : w9.heap[wb]? = W.heap[wb]? := hw9.trans e5
              have hs9 := hx9.size
              have ov9 : OwnR evR w2.heap.size (.slice ao m cp) Ev3 w9 := ov.of (Nat.le_refl _) (fun k hk => hx9.old (ov.block hk).2 (zv k hk).1 (fun e => e.elim (zv k hk).2.1 (zv k hk).2.2))
              have hbm : Below w9.heap.size w9 (w9.alloc (.cells #[.int .i64 1, .int .i64 ref, .int .i64 o] 68)) := (Below.refl _ w9).alloc (Nat.le_refl _) _
              have ovm : OwnR evR w2.heap.size (.slice ao m cp) Ev3 (w9.alloc (.cells #[.int .i64 1, .int .i64 ref, .int .i64 o] 68)) := ov9.of (Nat.le_refl _) (fun k hk => hbm.block k (ov9.block hk).2)
              have hNs : w2.heap.size ≤ W.heap.size := by omega
              obtain ⟨va, wa, hrun, hO, hg, hat, hne⟩ := run_appEv (y := (1, ref, o)) ovm (rangeAt_whole (T := 68) (World.alloc_heap_new w9 _)) HEVL.out (by rw [World.size_alloc]; omega)
              obtain ⟨aoa, capa, rfl⟩ := hO.lenOf
              have hvn : ∀ p, p < w2.heap.size → (Value.slice ao m cp).ownBlock ≠ some p := fun p hp e => by have := (ov.block e).1; omega
              have ha : ∀ p, p < w2.heap.size → wa.heap[p]? = w9.heap[p]? := fun p hp => (hg.block p (by rw [World.size_alloc]; omega) (fun e => hvn p hp e.symm)).trans (hbm.block p (by omega))
              have hz : ∀ p, p ≠ wb → ∀ v', (wa.setCell ⟨wb, 0, none⟩ v').heap[p]? = wa.heap[p]? := fun p hp v' => Below.heap_setCell _ _ _ p hp
              obtain ⟨c4, c5, c6, c7⟩ := HKP.out _ _ _ hx9
              have mv : ∀ W' : World, (∀ p, p < w2.heap.size → p ≠ wb → W'.heap[p]? = w9.heap[p]?) → (W'.cell? ⟨p4, 0, none⟩ = some (.pointer (some ⟨r, 0, none⟩)) ∧ W'.cell? ⟨p6, 0, none⟩ = some (.pointer (some ⟨vb, 0, none⟩)) ∧ W'.cell? ⟨p7, 0, none⟩ = some (.int .i64 now)) := fun W' hW' => ⟨(World.cell?_of_block (a := ⟨p4, 0, none⟩) (hW' p4 q4.1 q4.2.2)).trans c4, (World.cell?_of_block (a := ⟨p6, 0, none⟩) (hW' p6 q6.1 q6.2.2)).trans c6, (World.cell?_of_block (a := ⟨p7, 0, none⟩) (hW' p7 q7.1 q7.2.2)).trans c7⟩
              refine ⟨aoa, capa, _, wa, hrun, boxed_at bw e9, boxed_at bw ((hbm.block wb (by omega)).trans e9), boxed_at bw ((ha wb hwl).trans e9), Boxed.frozen (t := 48) (((ha wb hwl).trans e9).trans bw), ⟨c4, c6, c7⟩, mv _ (fun p hp _ => hbm.block p (by omega)), mv _ (fun p hp _ => ha p hp), mv _ (fun p hp hpw => (hz p hpw _).trans (ha p hp)), HAP.out _ _ (1, ref, o) w9 _ wa _ ?_ hx9 e9 hbm hO hg hat⟩
              rw [HSP.out]
              unfold serve1
              rw [if_pos HZ1.out, if_neg (fun e => HZ2.out (HY.out.2.symm.trans e)), HY.out.1, HY.out.2, HREF.out, hx1, Int.toNat_natCast]
            obtain ⟨X5, bx5, e5⟩ := HX5.out
            have X5d := (X5.below (Below.refl _ w5).drew).1
            have hen5 := HEN.out w5.drew X5d bx5
            obtain ⟨c4, c5, c6, c7⟩ := HKP.out _ _ _ X5d
            obtain ⟨bw, ov, zN, zw, zv, hNW, hqlen, hx1, hlen⟩ := HBW.out
            have cw5 : w5.drew.cell? ⟨wb, 0, none⟩ = some (.slice ao m cp) := boxed_at bw e5
            have HARM := Lib.hid harm
            have HE5 := Lib.hid hen5
            have Q0 := Lib.hid (And.intro c4 (And.intro c6 c7))
            clear harm X5 bx5 e5 X5d hen5 c4 c5 c6 c7 bw ov zN zw zv hNW hqlen hx1 hlen
            have mixed : Tryz.prog.follows .mixedOrders = true := by kernel_rfl
            gi_upto_region 17 with fail
            refine wpIn_region_heldR (S := fun wx => (wx.cell? ⟨p4, 0, none⟩ = some (.pointer (some ⟨r, 0, none⟩)) ∧ wx.cell? ⟨p6, 0, none⟩ = some (.pointer (some ⟨vb, 0, none⟩)) ∧ wx.cell? ⟨p7, 0, none⟩ = some (.int .i64 now))) (R := fun _ wx => Leaves (fun k => Z1 k ∨ k = wb) (fun k => Φ k ∨ k = Nx) W (fun Φ' W' => SvI r g vb N ts A M Z1 (sumTo A 10) now R1 S w2.heap.size wb w2 (pre ++ [x]) Φ' W') wx) mixed (by kernel_rfl) Q0.out (fun hHeld => ?_) ?_
            · refine wpAnyH_take (i := 1) (v := ?_) rfl (by kernel_rfl) (by kernel_rfl) (by kernel_rfl) (fun _ _ _ h => h) (Or.inl ⟨by kernel_rfl, ?_⟩) (by assumption) ?_
              rotate_left
              · intro w' hSw
                try dsimp only at hSw
                go_simp
                try with_reducible rfl
              try simp only [Act.put, List.getElem_toArray, List.getElem_cons_zero, List.getElem_cons_succ, List.setIfInBounds_toArray, List.set_cons_zero, List.set_cons_succ]
              refine wpAnyH_take (i := 2) (v := ?_) rfl (by kernel_rfl) (by kernel_rfl) (by kernel_rfl) (fun _ _ _ h => h) (Or.inl ⟨by kernel_rfl, ?_⟩) (by assumption) ?_
              rotate_left
              · intro w' hSw
                try dsimp only at hSw
                go_simp
                try with_reducible rfl
              try simp only [Act.put, List.getElem_toArray, List.getElem_cons_zero, List.getElem_cons_succ, List.setIfInBounds_toArray, List.set_cons_zero, List.set_cons_succ]
              refine wpAnyH_take (i := 3) (v := ?_) rfl (by kernel_rfl) (by kernel_rfl) (by kernel_rfl) (fun _ _ _ h => h) (Or.inl ⟨by kernel_rfl, ?_⟩) (by assumption) ?_
              rotate_left
              · intro w' hSw
                try dsimp only at hSw
                go_simp
                try with_reducible rfl
              try simp only [Act.put, List.getElem_toArray, List.getElem_cons_zero, List.getElem_cons_succ, List.setIfInBounds_toArray, List.set_cons_zero, List.set_cons_succ]
              refine wpAnyH_take (i := 4) (v := ?_) rfl (by kernel_rfl) (by kernel_rfl) (by kernel_rfl) (fun _ _ _ h => h) (Or.inl ⟨by kernel_rfl, ?_⟩) (by assumption) ?_
              rotate_left
              · intro w' hSw
                try dsimp only at hSw
                go_simp
                try with_reducible rfl
              try simp only [Act.put, List.getElem_toArray, List.getElem_cons_zero, List.getElem_cons_succ, List.setIfInBounds_toArray, List.set_cons_zero, List.set_cons_succ]
              refine wpAnyH_take (i := 5) (v := ?_) rfl (by kernel_rfl) (by kernel_rfl) (by kernel_rfl) (fun _ _ _ h => h) (Or.inl ⟨by kernel_rfl, ?_⟩) (by assumption) ?_
              rotate_left
              · intro w' hSw
                try dsimp only at hSw
                go_simp
                try with_reducible rfl
              try simp only [Act.put, List.getElem_toArray, List.getElem_cons_zero, List.getElem_cons_succ, List.setIfInBounds_toArray, List.set_cons_zero, List.set_cons_succ]
              refine wpAnyH_ready (rs := [0, 6]) (by kernel_rfl) (by simp) ?_
              refine AllReadyH.cons rfl (fun K hK => ?_) (AllReadyH.cons rfl (fun K hK => ?_) AllReadyH.nil)
              · rw [if_pos (by kernel_rfl)]
                try simp only [List.getElem_toArray, List.getElem_cons_zero, List.getElem_cons_succ]
                go_simp
                skip
                first | refine hK.out _ _ ?_ (fun hHeld => ?_) | (go_wp2_with fail; refine hK.out _ _ ?_ (fun hHeld => ?_))
                · try dsimp only
                  exact Q0.out
                clear hK K
                try simp only [Act.put, List.getElem_toArray, List.getElem_cons_zero, List.getElem_cons_succ, List.setIfInBounds_toArray, List.set_cons_zero, List.set_cons_succ]
                refine wpAnyH_ready (rs := [6]) (by kernel_rfl) (by simp) ?_
                refine AllReadyH.cons rfl (fun K hK => ?_) AllReadyH.nil
                rw [if_pos (by kernel_rfl)]
                try simp only [List.getElem_toArray, List.getElem_cons_zero, List.getElem_cons_succ]
                go_simp
                go_at_call 60
                refine HE5.out.mono ?_
                rintro e w9 ⟨rfl, hx9, hw9⟩
                obtain ⟨aoa, capa, m2, wa, hrun, cw9, cwm, cwa, fwa, s9, sm, sa, sz, hL⟩ := HARM.out w9 hx9 hw9
                have S9 := Lib.hid s9
                have SM := Lib.hid sm
                have SA := Lib.hid sa
                have SZ := Lib.hid sz
                have HL := Lib.hid hL
                clear hx9 hw9 s9 sm sa sz hL
                first | refine hK.out _ _ ?_ (fun hHeld => ?_) | (go_wp2_with fail; refine hK.out _ _ ?_ (fun hHeld => ?_))
                · try dsimp only
                  exact S9.out
                clear hK K
                try simp only [Act.put, List.getElem_toArray, List.getElem_cons_zero, List.getElem_cons_succ, List.setIfInBounds_toArray, List.set_cons_zero, List.set_cons_succ]
                refine wpAnyH_ready (rs := [7]) (by kernel_rfl) (by simp) ?_
                refine AllReadyH.cons rfl (fun K hK => ?_) AllReadyH.nil
                rw [if_pos (by kernel_rfl)]
                try simp only [List.getElem_toArray, List.getElem_cons_zero, List.getElem_cons_succ]
                go_simp
                skip
                first | refine hK.out _ _ ?_ (fun hHeld => ?_) | (go_wp2_with fail; refine hK.out _ _ ?_ (fun hHeld => ?_))
                · try dsimp only
                  exact SM.out
                clear hK K
                try simp only [Act.put, List.getElem_toArray, List.getElem_cons_zero, List.getElem_cons_succ, List.setIfInBounds_toArray, List.set_cons_zero, List.set_cons_succ]
                refine wpAnyH_ready (rs := [8]) (by kernel_rfl) (by simp) ?_
                refine AllReadyH.cons rfl (fun K hK => ?_) AllReadyH.nil
                rw [if_pos (by kernel_rfl)]
                try simp only [List.getElem_toArray, List.getElem_cons_zero, List.getElem_cons_succ]
                go_simp
                skip
                first | refine hK.out _ _ ?_ (fun hHeld => ?_) | (go_wp2_with fail; refine hK.out _ _ ?_ (fun hHeld => ?_))
                · try dsimp only
                  exact SA.out
                clear hK K
                try simp only [Act.put, List.getElem_toArray, List.getElem_cons_zero, List.getElem_cons_succ, List.setIfInBounds_toArray, List.set_cons_zero, List.set_cons_succ]
                refine wpAnyH_ready (rs := [9]) (by kernel_rfl) (by simp) ?_
                refine AllReadyH.cons rfl (fun K hK => ?_) AllReadyH.nil
                rw [if_pos (by kernel_rfl)]
                try simp only [List.getElem_toArray, List.getElem_cons_zero, List.getElem_cons_succ]
                go_simp
                skip
                first | refine hK.out _ _ ?_ (fun hHeld => ?_) | (go_wp2_with fail; refine hK.out _ _ ?_ (fun hHeld => ?_))
                · try dsimp only
                  exact SZ.out
                clear hK K
                try simp only [Act.put, List.getElem_toArray, List.getElem_cons_zero, List.getElem_cons_succ, List.setIfInBounds_toArray, List.set_cons_zero, List.set_cons_succ]
                exact wpAnyH_done (by kernel_rfl) HL.out _
              · rw [if_pos (by kernel_rfl)]
                try simp only [List.getElem_toArray, List.getElem_cons_zero, List.getElem_cons_succ]
                go_simp
                go_at_call 60
                refine HE5.out.mono ?_
                rintro e w9 ⟨rfl, hx9, hw9⟩
                obtain ⟨aoa, capa, m2, wa, hrun, cw9, cwm, cwa, fwa, s9, sm, sa, sz, hL⟩ := HARM.out w9 hx9 hw9
                have S9 := Lib.hid s9
                have SM := Lib.hid sm
                have SA := Lib.hid sa
                have SZ := Lib.hid sz
                have HL := Lib.hid hL
                clear hx9 hw9 s9 sm sa sz hL
                first | refine hK.out _ _ ?_ (fun hHeld => ?_) | (go_wp2_with fail; refine hK.out _ _ ?_ (fun hHeld => ?_))
                · try dsimp only
                  exact S9.out
                clear hK K
                try simp only [Act.put, List.getElem_toArray, List.getElem_cons_zero, List.getElem_cons_succ, List.setIfInBounds_toArray, List.set_cons_zero, List.set_cons_succ]
                refine wpAnyH_ready (rs := [0, 7]) (by kernel_rfl) (by simp) ?_
                refine AllReadyH.cons rfl (fun K hK => ?_) (AllReadyH.cons rfl (fun K hK => ?_) AllReadyH.nil)
                · rw [if_pos (by kernel_rfl)]
                  try simp only [List.getElem_toArray, List.getElem_cons_zero, List.getElem_cons_succ]
                  go_simp
                  skip
                  first | refine hK.out _ _ ?_ (fun hHeld => ?_) | (go_wp2_with fail; refine hK.out _ _ ?_ (fun hHeld => ?_))
                  · try dsimp only
                    exact S9.out
                  clear hK K
                  try simp only [Act.put, List.getElem_toArray, List.getElem_cons_zero, List.getElem_cons_succ, List.setIfInBounds_toArray, List.set_cons_zero, List.set_cons_succ]
                  refine wpAnyH_ready (rs := [7]) (by kernel_rfl) (by simp) ?_
                  refine AllReadyH.cons rfl (fun K hK => ?_) AllReadyH.nil
                  rw [if_pos (by kernel_rfl)]
                  try simp only [List.getElem_toArray, List.getElem_cons_zero, List.getElem_cons_succ]
                  go_simp
                  skip
                  first | refine hK.out _ _ ?_ (fun hHeld => ?_) | (go_wp2_with fail; refine hK.out _ _ ?_ (fun hHeld => ?_))
                  · try dsimp only
                    exact SM.out
                  clear hK K
                  try simp only [Act.put, List.getElem_toArray, List.getElem_cons_zero, List.getElem_cons_succ, List.setIfInBounds_toArray, List.set_cons_zero, List.set_cons_succ]
                  refine wpAnyH_ready (rs := [8]) (by kernel_rfl) (by simp) ?_
                  refine AllReadyH.cons rfl (fun K hK => ?_) AllReadyH.nil
                  rw [if_pos (by kernel_rfl)]
                  try simp only [List.getElem_toArray, List.getElem_cons_zero, List.getElem_cons_succ]
                  go_simp
                  skip
                  first | refine hK.out _ _ ?_ (fun hHeld => ?_) | (go_wp2_with fail; refine hK.out _ _ ?_ (fun hHeld => ?_))
                  · try dsimp only
                    exact SA.out
                  clear hK K
                  try simp only [Act.put, List.getElem_toArray, List.getElem_cons_zero, List.getElem_cons_succ, List.setIfInBounds_toArray, List.set_cons_zero, List.set_cons_succ]
                  refine wpAnyH_ready (rs := [9]) (by kernel_rfl) (by simp) ?_
                  refine AllReadyH.cons rfl (fun K hK => ?_) AllReadyH.nil
                  rw [if_pos (by kernel_rfl)]
                  try simp only [List.getElem_toArray, List.getElem_cons_zero, List.getElem_cons_succ]
                  go_simp
                  skip
                  first | refine hK.out _ _ ?_ (fun hHeld => ?_) | (go_wp2_with fail; refine hK.out _ _ ?_ (fun hHeld => ?_))
                  · try dsimp only
                    exact SZ.out
                  clear hK K
                  try simp only [Act.put, List.getElem_toArray, List.getElem_cons_zero, List.getElem_cons_succ, List.setIfInBounds_toArray, List.set_cons_zero, List.set_cons_succ]
                  exact wpAnyH_done (by kernel_rfl) HL.out _
                · rw [if_pos (by kernel_rfl)]
                  try simp only [List.getElem_toArray, List.getElem_cons_zero, List.getElem_cons_succ]
                  go_simp
                  skip
                  first | refine hK.out _ _ ?_ (fun hHeld => ?_) | (go_wp2_with fail; refine hK.out _ _ ?_ (fun hHeld => ?_))
                  · try dsimp only
                    exact SM.out
                  clear hK K
                  try simp only [Act.put, List.getElem_toArray, List.getElem_cons_zero, List.getElem_cons_succ, List.setIfInBounds_toArray, List.set_cons_zero, List.set_cons_succ]
                  refine wpAnyH_ready (rs := [0]) (by kernel_rfl) (by simp) ?_
                  refine AllReadyH.cons rfl (fun K hK => ?_) AllReadyH.nil
                  rw [if_pos (by kernel_rfl)]
                  try simp only [List.getElem_toArray, List.getElem_cons_zero, List.getElem_cons_succ]
                  go_simp
                  skip
                  first | refine hK.out _ _ ?_ (fun hHeld => ?_) | (go_wp2_with fail; refine hK.out _ _ ?_ (fun hHeld => ?_))
                  · try dsimp only
                    exact SM.out
                  clear hK K
                  try simp only [Act.put, List.getElem_toArray, List.getElem_cons_zero, List.getElem_cons_succ, List.setIfInBounds_toArray, List.set_cons_zero, List.set_cons_succ]
                  refine wpAnyH_ready (rs := [8]) (by kernel_rfl) (by simp) ?_
                  refine AllReadyH.cons rfl (fun K hK => ?_) AllReadyH.nil
                  rw [if_pos (by kernel_rfl)]
                  try simp only [List.getElem_toArray, List.getElem_cons_zero, List.getElem_cons_succ]
                  go_simp
                  skip
                  first | refine hK.out _ _ ?_ (fun hHeld => ?_) | (go_wp2_with fail; refine hK.out _ _ ?_ (fun hHeld => ?_))
                  · try dsimp only
                    exact SA.out
                  clear hK K
                  try simp only [Act.put, List.getElem_toArray, List.getElem_cons_zero, List.getElem_cons_succ, List.setIfInBounds_toArray, List.set_cons_zero, List.set_cons_succ]
                  refine wpAnyH_ready (rs := [9]) (by kernel_rfl) (by simp) ?_
                  refine AllReadyH.cons rfl (fun K hK => ?_) AllReadyH.nil
                  rw [if_pos (by kernel_rfl)]
                  try simp only [List.getElem_toArray, List.getElem_cons_zero, List.getElem_cons_succ]
                  go_simp
                  skip
                  first | refine hK.out _ _ ?_ (fun hHeld => ?_) | (go_wp2_with fail; refine hK.out _ _ ?_ (fun hHeld => ?_))
                  · try dsimp only
                    exact SZ.out
                  clear hK K
                  try simp only [Act.put, List.getElem_toArray, List.getElem_cons_zero, List.getElem_cons_succ, List.setIfInBounds_toArray, List.set_cons_zero, List.set_cons_succ]
                  exact wpAnyH_done (by kernel_rfl) HL.out _
            · exact fun _ _ h => h
        · have b1 : (st != 1) = true := by simpa using z1
          have HZ1 := Lib.hid (show ¬ x.2.st = 1 by rw [← hst]; exact z1)
          clear z1 hst
          gi_wp2_with fail
          refine HST.out _ _ _ ?_ HX0.out rfl
          rw [HSP.out]
          unfold serve1
          rw [if_neg HZ1.out]
end Go.Proofs.YtpkamfbjgdmmoaaGreat
end

section
namespace Go.Proofs.YtpkamfbjgdmmoaaGreat
open Go.RowKit Go.Maps Go.Shelf
set_option linter.unusedVariables false
set_option linter.unusedSimpArgs false

theorem ledger_New_ok {v : Value} {l : List Int} {w : World} (hr : RdI w v l) (hm : l.length ≤ maxLen) (hok : newOk l) : Calls Tryz.prog 28 #[v] w fun e w' => ∃ g gl, e = .returned (.tuple #[.pointer (some ⟨g, 0, none⟩), .int .i64 0]) ∧ LdAt w.heap.size g gl (accL l) [] w' ∧ Below w.heap.size w w' := by
  refine (ledger_New v l w hr hm).mono ?_
  rintro e w' ⟨hb, ⟨-, g, rfl, gl, hl⟩ | ⟨hno, -⟩⟩
  · exact ⟨g, gl, rfl, hl, hb⟩
  · exact absurd hok hno
/-- A slice literal's numbers. -/
theorem RdI.lit (w : World) (T : TypeId) (l : List Int) (n : Nat) (hn : l.length = n) : RdI (w.alloc (.cells (l.map (fun n => Value.int .i64 n)).toArray T)) (.slice (some ⟨w.heap.size, 0, none⟩) n n) l := by
  subst hn
  refine .inr ⟨⟨w.heap.size, 0, none⟩, _, rfl, Nat.le_refl _, fun i hi => ?_⟩
  have h := World.alloc_heap_new w (.cells (l.map (fun n => Value.int .i64 n)).toArray T)
  have e : (⟨w.heap.size, 0, none⟩ : Addr).add i = ⟨w.heap.size, i, none⟩ := by rw [Addr.add_mid]; simp
  rw [e]
  refine cell_of h ?_
  simp [hi, List.getD_eq_getElem?_getD]
end Go.Proofs.YtpkamfbjgdmmoaaGreat
end

section
namespace Go.Proofs.YtpkamfbjgdmmoaaGreat
open Go.RowKit Go.Maps Go.Shelf
set_option linter.unusedVariables false
set_option linter.unusedSimpArgs false

section
variable {w : World} {ops : Array Oper} {rest : List Oper} {o : Oper} {a : Act} {Q : Exit → Act → World → Prop}
theorem wpl_appN {s x : Operand} {B ub : Nat} {v : Value} {xs : List Int} {y : Int} (hgd : o.guard = none)
    (ho : o.op = .call { callee := .builtin .append, args := #[s, x], argTypes := #[22, 22] }) (hs : a.eval s = v) (hx : a.eval x = .slice (some ⟨ub, 0, none⟩) 1 1)
    (hown : OwnN B v xs w) (hc : w.cell? ⟨ub, 0, none⟩ = some (.int .i64 y)) (hlen : xs.length ≤ 100000) (hB : B ≤ w.heap.size)
    (h : ∀ v' w', OwnN B v' (xs ++ [y]) w' → w.grownBy w' v.ownBlock → wpList Tryz.prog ops Q rest (a.put o.dst v') w') : wpList Tryz.prog ops Q (o :: rest) a w := by
  obtain ⟨i0, hi, hz⟩ := Option.map_eq_some_iff.1 infoI
  simp only [Prod.mk.injEq] at hz
  obtain ⟨hz0, hz1, hz2⟩ := hz
  refine wpList_append_own _ hgd s x _ ho B 3 i0 (.int .i64 0) 1 8 Tryz.underlying22 hi hz0 hz1 hz2 rfl (by decide) v _ _ hs hown ⟨ub, 0, none⟩ 1 1 [.int .i64 y] hx (by simp)
    (fun j u hj => by
      cases j with
      | zero => simp only [List.getElem?_cons_zero, Option.some.injEq] at hj; subst hj; rw [Addr.add_mid]; exact hc
      | succ j => simp at hj) (by simp [Value.oneCell']) (by unfold maxLen; omega) (by omega) hB ?_
  intro v' w' h1 h2 h3
  refine h v' w' ?_ h2
  unfold OwnN
  rw [List.length_append]
  simpa [Is] using h1
end
theorem OwnN.readsI {B : Nat} {v : Value} {l : List Int} {w : World} (h : OwnN B v l w) : RdI w v l := by
  have h0 := h
  obtain ⟨hl, h2⟩ := h
  rcases h2 with ⟨rfl, e⟩ | ⟨g, cap, cur, rfl, _, hg, hn, _, hs, ht⟩
  · exact .inl ⟨rfl, List.eq_nil_of_length_eq_zero e⟩
  · refine .inr ⟨⟨g, 0, none⟩, cap, rfl, hn, fun i hi => ?_⟩
    have e : (⟨g, 0, none⟩ : Addr).add i = ⟨g, i, none⟩ := by rw [Addr.add_mid]; simp
    rw [e, World.cell?, hg]
    have h1 : (Is l)[i]? = some (.int .i64 (l.getD i 0)) := by simp [Is, hi, List.getD_eq_getElem?_getD]
    rw [← ht, List.getElem?_take_of_lt (by omega)] at h1
    simpa using h1
end Go.Proofs.YtpkamfbjgdmmoaaGreat
end

section
namespace Go.Proofs.YtpkamfbjgdmmoaaGreat
open Go.RowKit Go.Maps Go.Shelf
set_option linter.unusedVariables false
set_option linter.unusedSimpArgs false

theorem newOk_12 {l : List Int} (hl : l.length ≤ 10) (h : ∀ n ∈ l, 0 ≤ n ∧ n ≤ 16777215) : newOk l := by
  have hg : ∀ k, 0 ≤ l.getD k 0 ∧ l.getD k 0 ≤ 16777215 := fun k => by
    by_cases c : k < l.length
    · rw [List.getD_eq_getElem?_getD, List.getElem?_eq_getElem c]; exact h _ (List.getElem_mem _)
    · rw [List.getD_eq_getElem?_getD, List.getElem?_eq_none (by omega)]; simp
  refine ⟨hl, fun k _ => by have := hg k; unfold isBal; omega, ?_⟩
  have key : ∀ n : Nat, sumTo (accL l) n ≤ n * 16777215 := by
    intro n
    induction n with
    | zero => simp [sumTo]
    | succ n ih =>
      rw [sumTo]
      have : both (accL l) n = l.getD n 0 := by unfold both accL; simp only; omega
      rw [this]
      have := hg n
      omega
  have := key 10
  omega
theorem LdX.lower12 {g N N' : Nat} {A : Acc} {M : Cls Int} {FL : FP} {w : World} (h : LdX g N A M FL w) (hN : N' ≤ N) : LdX g N' A M FL w := by
  obtain ⟨gl, F, h1, h2, h3, h4, h5, h6, h7⟩ := h
  exact ⟨gl, F, h1, h2, fun k hk => ⟨Nat.le_trans hN (h3 k hk).1, (h3 k hk).2⟩, Nat.le_trans hN h4, h5, h6, h7⟩
theorem VoX.made12 {vb gv gd gw gp N : Nat} {FV FD FW FQ : FP} {w : World} (h : VoAt vb gv gd gw gp N (fun _ => Pl.zero) [] [] [] [] FV FD FW FQ w) : VoX vb N Vs.zero (fun k => k = vb ∨ FV k ∨ FD k ∨ FW k ∨ FQ k) w := ⟨gv, gd, gw, gp, FV, FD, FW, FQ, h, fun k => Iff.rfl⟩
theorem VoAt.lower12 {vb gv gd gw gp N N' : Nat} {P : Nat → Pl} {V : Cls Bal} {D : Cls Dlg} {G Q : Cls Wgt} {FV FD FW FQ : FP} {w : World} (h : VoAt vb gv gd gw gp N P V D G Q FV FD FW FQ w) (hN : N' ≤ N) : VoAt vb gv gd gw gp N' P V D G Q FV FD FW FQ w :=
  ⟨h.blk, h.v, h.d, h.g, h.q, ⟨h.off.vd, h.off.vw, h.off.vq, h.off.dw, h.off.dq, h.off.wq, h.off.b, fun k hk => Nat.le_trans hN (h.off.n k hk), Nat.le_trans hN h.off.nb⟩⟩
theorem ReX.lower {r N N' : Nat} {ts : List Trk} {R : List Rfm} {F : FP} {w : World} (h : ReX r N ts R F w) (hN : N' ≤ N) : ReX r N' ts R F w := by
  obtain ⟨tb, cap, gb, FG, h1, h2, h3, h4, h5, h6, h7, h8, h9⟩ := h
  exact ⟨tb, cap, gb, FG, h1, h2, h3, h4, fun k hk => ⟨Nat.le_trans hN (h5 k hk).1, (h5 k hk).2⟩, Nat.le_trans hN h6, Nat.le_trans hN h7, h8, h9⟩
/-- What the pair is, at p, since w0. -/
def P12 (p r g vb : Nat) (ts : List Trk) (R : List Rfm) (S : Vs) (A : Acc) (M : Cls Int) (w0 w : World) : Prop :=
  ∃ Z, RvAt r g vb w0.heap.size ts R S A M Z w ∧ (∃ px py pz, w.heap[p]? = some (.cells #[.pointer (some ⟨g, 0, none⟩), .pointer (some ⟨vb, 0, none⟩), .pointer (some ⟨r, 0, none⟩), .pointer px, .pointer py, .pointer pz, .int .i64 0] 40 (0, 0))) ∧ ¬ Z p ∧ w0.heap.size ≤ p ∧ Below w0.heap.size w0 w
section
variable {p r g vb : Nat} {ts : List Trk} {R R' : List Rfm} {S S' : Vs} {A A' : Acc} {M M' : Cls Int} {w0 w w' : World}
theorem P12.via (h : P12 p r g vb ts R S A M w0 w) : ∃ Z, RvAt r g vb w0.heap.size ts R S A M Z w ∧ ∀ R' S' A' M' w', RvTo r g vb w0.heap.size ts R' S' A' M' Z w w' → P12 p r g vb ts R' S' A' M' w0 w' := by
  obtain ⟨Z, h1, ⟨px, py, pz, h2⟩, h3, h4, h5⟩ := h
  refine ⟨Z, h1, fun R' S' A' M' w' ⟨Z2, k1, k2, k3⟩ => ?_⟩
  have hp := (Array.getElem?_eq_some_iff.1 h2).1
  have hs := k3.grow.size
  have hs0 := h5.size
  exact ⟨Z2, k1, ⟨px, py, pz, (k3.block p hp h3 (fun h => h)).trans h2⟩, fun e => (k2 p e).elim h3 (fun e => by omega), h4, ⟨k3.grow.os.trans h5.os, k3.grow.tape.trans h5.tape, k3.grow.output.trans h5.output, Nat.le_trans hs0 hs, fun k hk => (k3.block k (by omega) (fun e => by have := h1.lo e; omega) (fun h => h)).trans (h5.block k hk)⟩⟩
theorem P12.below (h : P12 p r g vb ts R S A M w0 w) (hb : Below w.heap.size w w') : P12 p r g vb ts R S A M w0 w' := by
  obtain ⟨Z, h1, lift⟩ := h.via
  exact lift _ _ _ _ _ (RvTo.of_below h1 hb)
theorem P12.drew (h : P12 p r g vb ts R S A M w0 w) : P12 p r g vb ts R S A M w0 w.drew := h.below (Below.refl _ w).drew
theorem P12.lt (h : P12 p r g vb ts R S A M w0 w) : p < w.heap.size := by
  obtain ⟨Z, h1, ⟨px, py, pz, h2⟩, -⟩ := h
  exact (Array.getElem?_eq_some_iff.1 h2).1
theorem P12.size (h : P12 p r g vb ts R S A M w0 w) : w0.heap.size ≤ w.heap.size := by
  obtain ⟨Z, h1, h2, h3, h4, h5⟩ := h
  exact h5.size
theorem P12.old (h : P12 p r g vb ts R S A M w0 w) : Below w0.heap.size w0 w := by
  obtain ⟨Z, h1, h2, h3, h4, h5⟩ := h
  exact h5
theorem P12.cells (h : P12 p r g vb ts R S A M w0 w) : w.cell? ⟨p, 0, none⟩ = some (.pointer (some ⟨g, 0, none⟩)) ∧ w.cell? ⟨p, 1, none⟩ = some (.pointer (some ⟨vb, 0, none⟩)) ∧ w.cell? ⟨p, 2, none⟩ = some (.pointer (some ⟨r, 0, none⟩)) := by
  obtain ⟨Z, h1, ⟨px, py, pz, h2⟩, -⟩ := h
  refine ⟨?_, ?_, ?_⟩ <;> (rw [World.cell?, h2]; rfl)
theorem P12.dcells (h : P12 p r g vb ts R S A M w0 w) : w.drew.cell? ⟨p, 0, none⟩ = some (.pointer (some ⟨g, 0, none⟩)) ∧ w.drew.cell? ⟨p, 1, none⟩ = some (.pointer (some ⟨vb, 0, none⟩)) ∧ w.drew.cell? ⟨p, 2, none⟩ = some (.pointer (some ⟨r, 0, none⟩)) := h.drew.cells
end
/-- Ten accounts of a thousand. -/
def thou (k : Nat) : List Int := List.replicate k 1000
theorem thou_snoc (k : Nat) : thou (k + 1) = thou k ++ [1000] := by unfold thou; rw [List.replicate_succ']
theorem thou_len (k : Nat) : (thou k).length = k := by simp [thou]
def A12 : Acc := accL (thou 10)
set_option maxRecDepth 100000 in
set_option maxHeartbeats 4000000 in
theorem law12_begin {ts : List Trk} {w : World} {b cap : Nat} (hr : w.rangeAt b 0 (trkR.all ts)) (hb : b < w.heap.size) (hc : ts.length ≤ cap) (hl : ts.length ≤ 100) (hok : newB ts = true) : Calls Tryz.prog 13 #[.slice (some ⟨b, 0, none⟩) ts.length cap] w fun e w' => ∃ p g vb r, e = .returned (.pointer (some ⟨p, 0, none⟩)) ∧ P12 p r g vb ts [] Vs.zero A12 [] w w' := by
  have hnew : ∀ W : World, Below w.heap.size w W → Calls Tryz.prog 32 #[.slice (some ⟨b, 0, none⟩) ts.length cap] W fun e w' => Below W.heap.size W w' ∧ ∃ r F, e = .returned (.tuple #[.pointer (some ⟨r, 0, none⟩), .int .i64 0]) ∧ ReX r W.heap.size ts [] F w' := fun W hW => by
    refine (refer_NewX (rangeAt_block hr (hW.block b hb)) (Nat.lt_of_lt_of_le hb hW.size) hc hl).mono ?_
    rintro e w' ⟨hb', ⟨-, h⟩ | ⟨h, -⟩⟩
    · exact ⟨hb', h⟩
    · rw [hok] at h; cases h
  have hnew2 : ∀ W : World, Below w.heap.size w W → Calls Tryz.prog 33 #[.slice (some ⟨b, 0, none⟩) ts.length cap] W fun e w' => Below W.heap.size W w' ∧ ∃ r, e = .returned (.tuple #[.pointer (some ⟨r, 0, none⟩), .int .i64 0]) := fun W hW => by
    refine (ref12_New (rangeAt_block hr (hW.block b hb)) (Nat.lt_of_lt_of_le hb hW.size) hc hl).mono ?_
    rintro e w' ⟨hb', ⟨-, h⟩ | ⟨h, -⟩⟩
    · exact ⟨hb', h⟩
    · rw [hok] at h; cases h
  obtain ⟨n, hn⟩ : ∃ n, n = ts.length := ⟨_, rfl⟩
  rw [← hn] at hnew hnew2 ⊢
  have HNW := Lib.hid (And.intro hnew hnew2)
  have HOK := Lib.hid (newOk_12 (l := thou 10) (by rw [thou_len]; omega) (by intro n hn; unfold thou at hn; rw [List.mem_replicate] at hn; omega))
  clear hr hb hc hl hok hnew hnew2 hn
  go_enter Tryz.func13, Tryz.ntmps13
  go_wp2_with fail
  go_loopw [3, 4] (fun u i wr => ∃ (k : Nat), k ≤ 10 ∧ i = .int .i64 k ∧ OwnN w.heap.size u (thou k) wr ∧ Below w.heap.size w wr) (fun _ i _ => 10 - (intOf i).toNat)
  case atStart => exact ⟨0, by omega, rfl, OwnN.nil _ _, Below.refl _ _⟩
  case round =>
    obtain ⟨k, hk, rfl, how, hbl⟩ := hrel
    have hnl : (thou k).length = k := thou_len k
    have HS := Lib.hid (And.intro hnl (And.intro how hbl))
    by_cases hlt : k < 10
    · have h10' : (k : Int) < 10 := by omega
      clear hnl how hbl
      go_wp2_with (first
        | (at_builtin; refine wpl_appN (B := w.heap.size) (ub := wr.heap.size) (xs := thou k) (y := 1000) rfl rfl rfl rfl (HS.out.2.1.of (Nat.le_refl _) (fun k hk => Below.heap_alloc _ _ _ (HS.out.2.1.block hk).2)) (by rw [World.cell?, World.alloc_heap_new]; rfl) (by rw [thou_len]; omega) (by have := HS.out.2.2.size; rw [World.size_alloc]; omega) ?_; intro v' w4 hO4 hg4; have HO4 := Lib.hid hO4; have HG4 := Lib.hid hg4; clear hO4 hg4)
        | fail)
      go_roundw
      case rel =>
        refine ⟨k + 1, by omega, by go_num, ?_, ?_⟩
        · rw [thou_snoc]; exact HO4.out
        · exact Below.grown (HS.out.2.2.alloc HS.out.2.2.size _) HG4.out (by have := HS.out.2.2.size; rw [World.size_alloc]; omega) (fun j hj => (HS.out.2.1.block hj).1)
      case measure => simp [intOf]; omega
    · obtain rfl : k = 10 := by omega
      have hrd := how.readsI
      have HRD := Lib.hid hrd
      have s0 := hbl.size
      have HBL := Lib.hid hbl
      have hlg := ledger_New_ok hrd (by rw [thou_len]; unfold maxLen; omega) HOK.out
      have HLG := Lib.hid hlg
      clear hnl how hbl hrd hlg hlt hk
      go_wp2_with (first
        | (go_at_call 28; refine HLG.out.mono ?_; rintro e w1 ⟨g, gl, rfl, hl, hb⟩; have H1 := Lib.hid (And.intro hl hb); clear hl hb)
        | (go_at_call 31; refine (ref6_New _ (thou 10) w1 (HRD.out.below H1.out.2) (by rw [thou_len]; omega)).mono ?_; rintro e w2 ⟨px, c, rfl, hb⟩; have H2 := Lib.hid hb; have B2 := Lib.hid (HBL.out.trans ((H1.out.2.trans (H2.out.mono H1.out.2.size)).mono HBL.out.size)); clear hb)
        | (go_at_call 32; refine (HNW.out.1 w2 B2.out).mono ?_; rintro e w3 ⟨hb, r, FR, rfl, hre⟩; have H3 := Lib.hid (And.intro hb hre); have B3 := Lib.hid (B2.out.trans (hb.mono B2.out.size)); clear hb hre)
        | (go_at_call 33; refine (HNW.out.2 w3 B3.out).mono ?_; rintro e w4 ⟨hb, pz, rfl⟩; have H4 := Lib.hid hb; clear hb)
        | (go_at_call 29; refine (voting_NewV w4).mono ?_; rintro e w5 ⟨vb, gv, gd, gw, gp, FV, FD, FW, FQ, rfl, hv, hb⟩; have H5 := Lib.hid (And.intro hv hb); clear hv hb)
        | (go_at_call 34; refine (ref11_New w5).mono ?_; rintro e w6 ⟨py, rfl, hb⟩; have H6 := Lib.hid hb; clear hb)
        | fail)
      obtain ⟨hld0, b1⟩ := H1.out
      obtain ⟨b3, hre3⟩ := H3.out
      obtain ⟨hv5, b5⟩ := H5.out
      have b2 := H2.out
      have b4 := H4.out
      have b6 := H6.out
      have s1 := b1.size
      have s2 := b2.size
      have s3 := b3.size
      have s4 := b4.size
      have s5 := b5.size
      have s6 := b6.size
      obtain ⟨W7, hW7⟩ : ∃ W7, W7 = w6.alloc (.cells #[.pointer (some ⟨g, 0, none⟩), .pointer (some ⟨vb, 0, none⟩), .pointer (some ⟨r, 0, none⟩), .pointer px, .pointer py, .pointer (some ⟨pz, 0, none⟩), .int .i64 0] 40) := ⟨_, rfl⟩
      have b7 : Below w6.heap.size w6 W7 := by rw [hW7]; exact (Below.refl _ w6).alloc (Nat.le_refl _) _
      have xp : W7.heap[w6.heap.size]? = some (.cells #[.pointer (some ⟨g, 0, none⟩), .pointer (some ⟨vb, 0, none⟩), .pointer (some ⟨r, 0, none⟩), .pointer px, .pointer py, .pointer (some ⟨pz, 0, none⟩), .int .i64 0] 40 (0, 0)) := by rw [hW7]; exact World.alloc_heap_new _ _
      obtain ⟨FL, hld, -⟩ := LdX.of hld0
      have b67 := b6.trans (b7.mono s6)
      have b57 := b5.trans (b67.mono s5)
      have b47 := b4.trans (b57.mono s4)
      have b37 := b3.trans (b47.mono s3)
      have b27 := b2.trans (b37.mono s2)
      have b17 := b1.trans (b27.mono s1)
      have hlt : ∀ k, (k = vb ∨ FV k ∨ FD k ∨ FW k ∨ FQ k) → w4.heap.size ≤ k ∧ k < w5.heap.size := fun k hk => ⟨by
        rcases hk with e | e
        · rw [e]; exact hv5.off.nb
        · exact hv5.off.n k e, hv5.lt hk⟩
      have hvo := (VoX.made12 (hv5.lower12 (N' := w.heap.size) (by omega))).below b67
      have hldl := (hld.lower12 s0).below b27
      have hrel := (hre3.lower (N' := w.heap.size) (by omega)).below b47
      have hlv : LvAt g vb w.heap.size Vs.zero A12 [] (fun k => (k = vb ∨ FV k ∨ FD k ∨ FW k ∨ FQ k) ∨ FL k) W7 := ⟨_, FL, hvo, hldl, fun k hk hf => by have := hlt k hk; have := hld.lt hf; omega, fun k => Iff.rfl⟩
      have hrv : RvAt r g vb w.heap.size ts [] Vs.zero A12 [] (fun k => FR k ∨ ((k = vb ∨ FV k ∨ FD k ∨ FW k ∨ FQ k) ∨ FL k)) W7 := ⟨FR, _, hrel, hlv, fun k hk hf => by
        have h1 := hre3.lo hk
        have h2 := hre3.lt hk
        rcases hf with hf | hf
        · have := hlt k hf; omega
        · have := hld.lt hf; omega, fun k => Iff.rfl⟩
      rw [← hW7]
      refine bodyPost_ret (v := .pointer (some ⟨w6.heap.size, 0, none⟩)) (by simp [results, Tryz.results13, go_sem]) rfl ⟨w6.heap.size, g, vb, r, rfl, _, hrv, ⟨px, py, _, xp⟩, ?_, by omega, HBL.out.trans (b17.mono s0)⟩
      rintro (hk | hk | hk)
      · have := hre3.lt hk; omega
      · have := hlt _ hk; omega
      · have := hld.lt hk; omega
end Go.Proofs.YtpkamfbjgdmmoaaGreat
end

section
namespace Go.Proofs.YtpkamfbjgdmmoaaGreat
open Go.RowKit Go.Maps Go.Shelf
set_option linter.unusedVariables false
set_option linter.unusedSimpArgs false

section
variable {p r g vb : Nat} {ts : List Trk} {R : List Rfm} {S : Vs} {A : Acc} {M : Cls Int} {w0 w : World}
theorem P12.submit (h : P12 p r g vb ts R S A M w0 w) (hi : Rin ts R) {a : Int} (ha : (Lit.int .i64 a).wf = true) (t : Int) (h0 : Hsh) (af now : Int) : Calls Tryz.prog 14 #[.pointer (some ⟨r, 0, none⟩), .pointer (some ⟨g, 0, none⟩), .pointer (some ⟨vb, 0, none⟩), .int .i64 a, .int .i64 t, .agg (hsB h0.l).toArray, .int .i64 af, .int .i64 now] w fun e w' => e = .returned (.tuple #[.int .i64 (subN ts R S A M a t af), .int .i64 (subE ts R S A M a t af)]) ∧ P12 p r g vb ts (subR ts R S A M a t af h0 now) (subS ts R S A M a t af) (subA ts R S A M a t af) M w0 w' := by
  obtain ⟨Z, h1, lift⟩ := h.via
  exact (refer_Submit h1 hi ha t h0 af now).mono fun e w' ⟨he, hto⟩ => ⟨he, lift _ _ _ _ _ hto⟩
theorem P12.deposit (h : P12 p r g vb ts R S A M w0 w) (hi : Rin ts R) {a ref : Int} (ha : (Lit.int .i64 a).wf = true) (hr : (Lit.int .i64 ref).wf = true) : Calls Tryz.prog 15 #[.pointer (some ⟨r, 0, none⟩), .pointer (some ⟨g, 0, none⟩), .int .i64 a, .int .i64 ref] w fun e w' => e = .returned (.int .i64 (depE ts R A M a ref)) ∧ P12 p r g vb ts (depR ts R A M a ref) S (depA ts R A M a ref) M w0 w' := by
  obtain ⟨Z, h1, lift⟩ := h.via
  exact (refer_Deposit h1 hi ha hr).mono fun e w' ⟨he, hto⟩ => ⟨he, lift _ _ _ _ _ hto⟩
theorem P12.service (h : P12 p r g vb ts R S A M w0 w) (hi : Rin ts R) {now : Int} (hsi : Rsi R now) (hn : soon now) (hf : ∀ k : Nat, k < R.length → Fits10 (tallyOf S k).a (tallyOf S k).n (tallyOf S k).s (sumTo A 10)) : Calls Tryz.prog 17 #[.pointer (some ⟨r, 0, none⟩), .pointer (some ⟨g, 0, none⟩), .pointer (some ⟨vb, 0, none⟩), .int .i64 now] w fun e w' => ∃ v, e = .returned v ∧ P12 p r g vb ts (serviceR ts (sumTo A 10) R S now).1 (serviceR ts (sumTo A 10) R S now).2.1 A M w0 w' ∧ OwnR evR w.heap.size v (serviceR ts (sumTo A 10) R S now).2.2 w' := by
  obtain ⟨Z, h1, lift⟩ := h.via
  exact (refer_Service h1 hi hsi hn hf).mono fun e w' ⟨v, he, hto, ho⟩ => ⟨v, he, lift _ _ _ _ _ hto, ho⟩
end
/-- A track: half of the votes, and a tenth of all there is. -/
def trkP : Trk := ⟨1, 20, 2, 10, 3, 1, 1, 500000000, 500000000, 1, 0, 1, 100000000, 100000000, 1, 0, 50, 2⟩
set_option maxRecDepth 100000 in
theorem law12_plain (w : World) : Calls Tryz.prog 12 #[] w fun e w' => e = .returned (.agg (trkR.f trkP).toArray) ∧ Below w.heap.size w w' := by
  go_enter Tryz.func12, Tryz.ntmps12
  go_wp2_with (first
    | (refine wpl_allocR (r := trkR) (ty := 26) rfl rfl rfl ?_; intro C hC)
    | (refine wpl_storeR (r := trkR) (ty := 26) (t := trkP) (C := C) _ _ rfl rfl rfl rfl rfl (World.alloc_heap_new w _) hC ?_; rw [World.setRow_alloc_new])
    | fail)
  have hr : (w.alloc (.cells (trkR.f trkP).toArray 26)).rangeAt w.heap.size 0 (trkR.f trkP) := rangeAt_whole (T := 26) (World.alloc_heap_new _ _)
  exact bodyPost_ret (v := .agg (trkR.f trkP).toArray) (results_R1 (r := trkR) (t := trkP) (b := w.heap.size) Tryz.results12 rfl hr) rfl ⟨rfl, (Below.refl _ w).alloc (Nat.le_refl _) _⟩
end Go.Proofs.YtpkamfbjgdmmoaaGreat
end

section
namespace Go.Proofs.YtpkamfbjgdmmoaaGreat
open Go.RowKit Go.Maps Go.Shelf
set_option linter.unusedVariables false
set_option linter.unusedSimpArgs false

def hsh0 : Hsh := ⟨List.replicate 32 0, rfl⟩
/-- What known does. -/
def kT : List Trk := [trkP]
def kR1 : List Rfm := subR kT [] Vs.zero A12 [] 1 0 0 hsh0 0
def kS1 : Vs := subS kT [] Vs.zero A12 [] 1 0 0
def kA1 : Acc := subA kT [] Vs.zero A12 [] 1 0 0
def kR2 : List Rfm := (serviceR kT (sumTo kA1 10) kR1 kS1 29).1
def kS2 : Vs := (serviceR kT (sumTo kA1 10) kR1 kS1 29).2.1
instance (x y s i : Int) : Decidable (Fits10 x y s i) := by unfold Fits10; infer_instance
theorem k12_ok : subN kT [] Vs.zero A12 [] 1 0 0 = 0 ∧ subE kT [] Vs.zero A12 [] 1 0 0 = 0 ∧ kR1 = [newX 0 hsh0 0 0 1] ∧ kR2 = [newX 0 hsh0 0 0 1] ∧ (serviceR kT (sumTo kA1 10) kR1 kS1 29).2.2 = [] ∧ (serviceR kT (sumTo kA1 10) kR2 kS2 30).2.2 = [(1, 0, 4)] ∧ Fits10 (tallyOf kS1 0).a (tallyOf kS1 0).n (tallyOf kS1 0).s (sumTo kA1 10) ∧ Fits10 (tallyOf kS2 0).a (tallyOf kS2 0).n (tallyOf kS2 0).s (sumTo kA1 10) := by decide +kernel
theorem rin_nil {ts : List Trk} (h : newB ts = true) : Rin ts [] := by
  unfold newB at h
  rw [Bool.and_eq_true] at h
  have hl := of_decide_eq_true h.1
  exact ⟨by simp, hl, fun t ht => List.all_eq_true.1 h.2 t ht, fun x hx => (by cases hx), fun x hx => (by cases hx), fun x hx => (by cases hx), fun x hx => (by cases hx)⟩
theorem k12_newB : newB kT = true := by decide +kernel
theorem k12_rin : Rin kT [newX 0 hsh0 0 0 1] := by
  have h := (rin_nil k12_newB).snoc (y := newX 0 hsh0 0 0 1) (by simp) (by decide) (by decide) (by unfold soon; decide) (by unfold soon; decide)
  exact h
theorem k12_rsi (n : Int) (hn : -1 ≤ n) : Rsi [newX 0 hsh0 0 0 1] n := fun x hx => by rw [List.mem_singleton] at hx; subst hx; exact hn
theorem row1 {B : Nat} {v : Value} {x : Ev} {w : World} (h : OwnR evR B v [x] w) : ∃ b cap, v = .slice (some ⟨b, 0, none⟩) 1 cap ∧ w.cell? ⟨b, 0, none⟩ = some (.int .i64 x.1) ∧ w.cell? ⟨b, 1, none⟩ = some (.int .i64 x.2.1) ∧ w.cell? ⟨b, 2, none⟩ = some (.int .i64 x.2.2) := by
  have h' := h
  obtain ⟨h1, h2⟩ := h
  rcases h2 with ⟨rfl, h0⟩ | ⟨g, cap, cur, rfl, hg, hh, hc, hr⟩
  · cases h0
  · exact ⟨g, cap, rfl, World.ownsRow.cells h' rfl 0 _ rfl, World.ownsRow.cells h' rfl 1 _ rfl, World.ownsRow.cells h' rfl 2 _ rfl⟩
set_option maxRecDepth 100000 in
set_option maxHeartbeats 4000000 in
theorem law12_known (w : World) : Calls Tryz.prog 20 #[] w fun e w' => e = .returned (.bool true) ∧ Below w.heap.size w w' := by
  obtain ⟨e1, e2, e3, e4, e5, e6, e7, e8⟩ := k12_ok
  have HPL := Lib.hid (law12_plain w)
  have hbg : ∀ W : World, Calls Tryz.prog 13 #[.slice (some ⟨W.heap.size, 0, none⟩) 1 1] (W.alloc (.cells (trkR.f trkP).toArray 26)) fun e w' => ∃ p g vb r, e = .returned (.pointer (some ⟨p, 0, none⟩)) ∧ P12 p r g vb kT [] Vs.zero A12 [] (W.alloc (.cells (trkR.f trkP).toArray 26)) w' := fun W => law12_begin (ts := kT) (by unfold kT; rw [trkR.all_one]; exact rangeAt_whole (T := 26) (World.alloc_heap_new _ _)) (by rw [World.size_alloc]; omega) (by unfold kT; simp) (by unfold kT; simp) k12_newB
  have HB := Lib.hid hbg
  have hsub : ∀ p r g vb w0 w, P12 p r g vb kT [] Vs.zero A12 [] w0 w → Calls Tryz.prog 14 #[.pointer (some ⟨r, 0, none⟩), .pointer (some ⟨g, 0, none⟩), .pointer (some ⟨vb, 0, none⟩), .int .i64 1, .int .i64 0, .agg (hsB hsh0.l).toArray, .int .i64 0, .int .i64 0] w fun e w' => e = .returned (.tuple #[.int .i64 0, .int .i64 0]) ∧ P12 p r g vb kT kR1 kS1 kA1 [] w0 w' := fun p r g vb w0 w hp => by
    have := hp.submit (rin_nil k12_newB) (a := 1) (by decide) 0 hsh0 0 0
    rw [e1, e2] at this
    exact this
  have hs1 : ∀ p r g vb w0 w, P12 p r g vb kT kR1 kS1 kA1 [] w0 w → Calls Tryz.prog 17 #[.pointer (some ⟨r, 0, none⟩), .pointer (some ⟨g, 0, none⟩), .pointer (some ⟨vb, 0, none⟩), .int .i64 29] w fun e w' => ∃ v, e = .returned v ∧ P12 p r g vb kT kR2 kS2 kA1 [] w0 w' ∧ OwnR evR w.heap.size v [] w' := fun p r g vb w0 w hp => by
    have := hp.service (now := 29) (by rw [e3]; exact k12_rin) (by rw [e3]; exact k12_rsi _ (by omega)) (by unfold soon; omega) (fun k hk => by rw [e3] at hk; simp at hk; subst hk; exact e7)
    rw [e5] at this
    exact this
  have hs2 : ∀ p r g vb w0 w, P12 p r g vb kT kR2 kS2 kA1 [] w0 w → Calls Tryz.prog 17 #[.pointer (some ⟨r, 0, none⟩), .pointer (some ⟨g, 0, none⟩), .pointer (some ⟨vb, 0, none⟩), .int .i64 30] w fun e w' => ∃ v, e = .returned v ∧ (∃ R S, P12 p r g vb kT R S kA1 [] w0 w') ∧ OwnR evR w.heap.size v [(1, 0, 4)] w' := fun p r g vb w0 w hp => by
    have := hp.service (now := 30) (by rw [e4]; exact k12_rin) (by rw [e4]; exact k12_rsi _ (by omega)) (by unfold soon; omega) (fun k hk => by rw [e4] at hk; simp at hk; subst hk; exact e8)
    rw [e6] at this
    exact this.mono fun e w' ⟨v, h1, h2, h3⟩ => ⟨v, h1, ⟨_, _, h2⟩, h3⟩
  have HSU := Lib.hid hsub
  have HS1 := Lib.hid hs1
  have HS2 := Lib.hid hs2
  clear e1 e2 e3 e4 e5 e6 e7 e8 hbg hsub hs1 hs2
  go_enter Tryz.func20, Tryz.ntmps20
  have mixed : Tryz.prog.follows .mixedOrders = true := by kernel_rfl
  go_upto_region 4 with (first
    | (go_at_call 12; refine HPL.out.mono ?_; rintro e w1 ⟨rfl, hb⟩; have H1 := Lib.hid hb; clear hb)
    | (go_at_call 13; refine (HB.out w1).mono ?_; rintro e w2 ⟨p, g, vb, r, rfl, hp⟩; have Q2 := Lib.hid hp; have D2 := Lib.hid hp.dcells; clear hp)
    | fail)
  obtain ⟨d0, d1, d2⟩ := D2.out
  have C2 := Lib.hid (And.intro d0 (And.intro d1 d2))
  have SX := fun (W : World) => (W.cell? ⟨p, 0, none⟩ = some (.pointer (some ⟨g, 0, none⟩)) ∧ W.cell? ⟨p, 1, none⟩ = some (.pointer (some ⟨vb, 0, none⟩)) ∧ W.cell? ⟨p, 2, none⟩ = some (.pointer (some ⟨r, 0, none⟩)))
  clear SX
  go_region_held3 (fun W => W.cell? ⟨p, 0, none⟩ = some (.pointer (some ⟨g, 0, none⟩)) ∧ W.cell? ⟨p, 1, none⟩ = some (.pointer (some ⟨vb, 0, none⟩)) ∧ W.cell? ⟨p, 2, none⟩ = some (.pointer (some ⟨r, 0, none⟩))) (first | exact C2.out | exact C3.out) (first
    | (go_at_call 14; refine (HSU.out _ _ _ _ _ _ Q2.out.drew).mono ?_; rintro e w3 ⟨rfl, hp⟩; have Q3 := Lib.hid hp; have C3 := Lib.hid hp.cells; have D3 := Lib.hid hp.dcells; clear hp)
    | fail)
  go_upto_region 5 with fail
  go_region_held3 (fun W => W.cell? ⟨p, 0, none⟩ = some (.pointer (some ⟨g, 0, none⟩)) ∧ W.cell? ⟨p, 1, none⟩ = some (.pointer (some ⟨vb, 0, none⟩)) ∧ W.cell? ⟨p, 2, none⟩ = some (.pointer (some ⟨r, 0, none⟩))) (first | exact D3.out | exact C4.out) (first
    | (go_at_call 17; refine (HS1.out _ _ _ _ _ _ Q3.out.drew).mono ?_; rintro e w4 ⟨v4, rfl, hp, ho⟩; obtain ⟨ao4, cp4, hv4⟩ := ho.lenOf; replace hv4 : v4 = .slice ao4 0 cp4 := hv4; subst hv4; have Q4 := Lib.hid hp; have C4 := Lib.hid hp.cells; have D4 := Lib.hid hp.dcells; clear hp ho)
    | fail)
  go_upto_region 6 with fail
  go_region_held3 (fun W => W.cell? ⟨p, 0, none⟩ = some (.pointer (some ⟨g, 0, none⟩)) ∧ W.cell? ⟨p, 1, none⟩ = some (.pointer (some ⟨vb, 0, none⟩)) ∧ W.cell? ⟨p, 2, none⟩ = some (.pointer (some ⟨r, 0, none⟩))) (first | exact D4.out | exact C5.out) (first
    | (go_at_call 17; refine (HS2.out _ _ _ _ _ _ Q4.out.drew).mono ?_; rintro e w5 ⟨v5, rfl, ⟨R5, S5, hp⟩, ho⟩; obtain ⟨b5, cp5, hv5, hr5⟩ := row1 ho; subst hv5; have Q5 := Lib.hid hp; have C5 := Lib.hid hp.cells; have R5' := Lib.hid hr5; clear hp ho hr5)
    | fail)
  obtain ⟨k0, k1, k2⟩ := R5'.out
  go_wp2_with fail
  go_ret
  have hb1 : Below w.heap.size w (w1.alloc (.cells (trkR.f trkP).toArray 26)) := H1.out.alloc H1.out.size _
  exact ⟨rfl, hb1.trans (Q5.out.old.mono hb1.size)⟩
end Go.Proofs.YtpkamfbjgdmmoaaGreat
end

section
namespace Go.Proofs.YtpkamfbjgdmmoaaGreat
open Go.RowKit Go.Maps Go.Shelf
set_option linter.unusedVariables false
set_option linter.unusedSimpArgs false

def soonB (n : Int) : Bool := decide (-1 ≤ n ∧ n ≤ 1099511627776)
theorem soonB_of {n : Int} (h : soonB n = true) : soon n := by
  show -1 ≤ n ∧ n ≤ 1099511627776
  unfold soonB at h
  exact of_decide_eq_true h
def rinB (ts : List Trk) (R : List Rfm) : Bool :=
  decide (R.length ≤ 12) && newB ts && R.all fun x => decide (0 ≤ x.tr ∧ x.tr < ts.length) && decide (0 ≤ x.who ∧ x.who < 10) && soonB x.sb && soonB x.si
theorem rinB_of {ts : List Trk} {R : List Rfm} (h : rinB ts R = true) : Rin ts R := by
  unfold rinB at h
  simp only [Bool.and_eq_true, List.all_eq_true] at h
  obtain ⟨⟨h1, h2⟩, h3⟩ := h
  have h4 := rin_nil h2
  exact ⟨of_decide_eq_true h1, h4.tlen, h4.ok, fun x hx => of_decide_eq_true (h3 x hx).1.1.1, fun x hx => of_decide_eq_true (h3 x hx).1.1.2, fun x hx => soonB_of (h3 x hx).1.2, fun x hx => soonB_of (h3 x hx).2⟩
structure St12 where
  R : List Rfm
  S : Vs
  A : Acc
  M : Cls Int
def St12.zero : St12 := ⟨[], Vs.zero, A12, []⟩
def srvB (ts : List Trk) (s : St12) (now : Int) : Bool :=
  rinB ts s.R && (s.R.all fun x => decide (x.si ≤ now)) && soonB now && (List.range s.R.length).all fun (k : Nat) => decide (Fits10 (tallyOf s.S k).a (tallyOf s.S k).n (tallyOf s.S k).s (sumTo s.A 10))
def St12.sub (ts : List Trk) (s : St12) (a t : Int) (h0 : Hsh) (af now : Int) : St12 := ⟨subR ts s.R s.S s.A s.M a t af h0 now, subS ts s.R s.S s.A s.M a t af, subA ts s.R s.S s.A s.M a t af, s.M⟩
def St12.dep (ts : List Trk) (s : St12) (a ref : Int) : St12 := ⟨depR ts s.R s.A s.M a ref, s.S, depA ts s.R s.A s.M a ref, s.M⟩
def St12.can (s : St12) (ref now : Int) : St12 := ⟨endR s.R s.S ref 5 now, endS s.R s.S ref 5 now, s.A, s.M⟩
def St12.kil (ts : List Trk) (s : St12) (ref now : Int) : St12 := ⟨killR s.R s.S ref now, endS s.R s.S ref 6 now, killA ts s.R s.A ref, s.M⟩
def St12.rfd (ts : List Trk) (s : St12) (a ref : Int) : St12 := ⟨rfdR s.R a ref, s.S, rfdA ts s.R s.A a ref, s.M⟩
def St12.srv (ts : List Trk) (s : St12) (now : Int) : St12 := ⟨(serviceR ts (sumTo s.A 10) s.R s.S now).1, (serviceR ts (sumTo s.A 10) s.R s.S now).2.1, s.A, s.M⟩
def St12.evs (ts : List Trk) (s : St12) (now : Int) : List Ev := (serviceR ts (sumTo s.A 10) s.R s.S now).2.2
def Pq (p r g vb : Nat) (ts : List Trk) (s : St12) (w0 w : World) : Prop := P12 p r g vb ts s.R s.S s.A s.M w0 w
section
variable {p r g vb : Nat} {ts : List Trk} {s : St12} {w0 w w' : World}
theorem Pq.below (h : Pq p r g vb ts s w0 w) (hb : Below w.heap.size w w') : Pq p r g vb ts s w0 w' := P12.below h hb
theorem Pq.drew (h : Pq p r g vb ts s w0 w) : Pq p r g vb ts s w0 w.drew := P12.drew h
theorem Pq.old (h : Pq p r g vb ts s w0 w) : Below w0.heap.size w0 w := P12.old h
theorem Pq.cells (h : Pq p r g vb ts s w0 w) : w.cell? ⟨p, 0, none⟩ = some (.pointer (some ⟨g, 0, none⟩)) ∧ w.cell? ⟨p, 1, none⟩ = some (.pointer (some ⟨vb, 0, none⟩)) ∧ w.cell? ⟨p, 2, none⟩ = some (.pointer (some ⟨r, 0, none⟩)) := P12.cells h
theorem Pq.dcells (h : Pq p r g vb ts s w0 w) : w.drew.cell? ⟨p, 0, none⟩ = some (.pointer (some ⟨g, 0, none⟩)) ∧ w.drew.cell? ⟨p, 1, none⟩ = some (.pointer (some ⟨vb, 0, none⟩)) ∧ w.drew.cell? ⟨p, 2, none⟩ = some (.pointer (some ⟨r, 0, none⟩)) := P12.dcells h
theorem Pq.Submit (h : Pq p r g vb ts s w0 w) (hi : rinB ts s.R = true) {a : Int} (ha : (Lit.int .i64 a).wf = true) (t : Int) (h0 : Hsh) (af now : Int) : Calls Tryz.prog 14 #[.pointer (some ⟨r, 0, none⟩), .pointer (some ⟨g, 0, none⟩), .pointer (some ⟨vb, 0, none⟩), .int .i64 a, .int .i64 t, .agg (hsB h0.l).toArray, .int .i64 af, .int .i64 now] w fun e w' => e = .returned (.tuple #[.int .i64 (subN ts s.R s.S s.A s.M a t af), .int .i64 (subE ts s.R s.S s.A s.M a t af)]) ∧ Pq p r g vb ts (s.sub ts a t h0 af now) w0 w' := P12.submit h (rinB_of hi) ha t h0 af now
theorem Pq.Deposit (h : Pq p r g vb ts s w0 w) (hi : rinB ts s.R = true) {a ref : Int} (ha : (Lit.int .i64 a).wf = true) (hr : (Lit.int .i64 ref).wf = true) : Calls Tryz.prog 15 #[.pointer (some ⟨r, 0, none⟩), .pointer (some ⟨g, 0, none⟩), .int .i64 a, .int .i64 ref] w fun e w' => e = .returned (.int .i64 (depE ts s.R s.A s.M a ref)) ∧ Pq p r g vb ts (s.dep ts a ref) w0 w' := P12.deposit h (rinB_of hi) ha hr
theorem Pq.Service (h : Pq p r g vb ts s w0 w) {now : Int} (hb : srvB ts s now = true) : Calls Tryz.prog 17 #[.pointer (some ⟨r, 0, none⟩), .pointer (some ⟨g, 0, none⟩), .pointer (some ⟨vb, 0, none⟩), .int .i64 now] w fun e w' => ∃ v, e = .returned v ∧ Pq p r g vb ts (s.srv ts now) w0 w' ∧ OwnR evR w.heap.size v (s.evs ts now) w' := by
  unfold srvB at hb
  simp only [Bool.and_eq_true, List.all_eq_true] at hb
  obtain ⟨⟨⟨h1, h2⟩, h3⟩, h4⟩ := hb
  exact P12.service h (rinB_of h1) (fun x hx => of_decide_eq_true (h2 x hx)) (soonB_of h3) (fun k hk => of_decide_eq_true (h4 k (List.mem_range.2 hk)))
theorem Pq.Free (h : Pq p r g vb ts s w0 w) (a : Int) : Calls Tryz.prog 25 #[.pointer (some ⟨g, 0, none⟩), .int .i64 a] w fun e w' => e = .returned (.int .i64 (accOf s.A a).1) ∧ w' = w := by
  obtain ⟨Z, h1, lift⟩ := P12.via h
  obtain ⟨FL, hld, -⟩ := h1.ld
  exact ledger_FreeX hld a
theorem Pq.Transfer (h : Pq p r g vb ts s w0 w) {a : Int} (ha : (Lit.int .i64 a).wf = true) (b n : Int) : Calls Tryz.prog 27 #[.pointer (some ⟨g, 0, none⟩), .int .i64 a, .int .i64 b, .int .i64 n] w fun e w' => e = .returned (.int .i64 (transE s.A s.M a b n)) ∧ Pq p r g vb ts ⟨s.R, s.S, transA s.A s.M a b n, s.M⟩ w0 w' := by
  obtain ⟨Z, h1, lift⟩ := P12.via h
  obtain ⟨FL, hld, lift2⟩ := h1.ld
  exact (ledger_TransferX hld ha b n).mono fun e w' ⟨he, hto⟩ => ⟨he, lift _ _ _ _ _ (lift2 _ _ _ hto)⟩
theorem Pq.Get (h : Pq p r g vb ts s w0 w) {b : Int} (hb : (Lit.int .i64 b).wf = true) : Calls Tryz.prog 21 #[.pointer (some ⟨r, 0, none⟩), .int .i64 b] w fun e w' => e = .returned (.tuple #[.agg (rfS.f (refAt s.R b)).toArray, .bool (refHas s.R b)]) ∧ Pq p r g vb ts s w0 w' := by
  obtain ⟨Z, h1, lift⟩ := P12.via h
  obtain ⟨FR, hre, -⟩ := h1.re
  exact (refer_Get hre hb).mono fun e w' ⟨he, hbl⟩ => ⟨he, P12.below h hbl⟩
end
/-- The pair over one track. -/
theorem begin12 {t : Trk} (hok : newB [t] = true) (W : World) : Calls Tryz.prog 13 #[.slice (some ⟨W.heap.size, 0, none⟩) 1 1] (W.alloc (.cells (trkR.f t).toArray 26)) fun e w' => ∃ p g vb r, e = .returned (.pointer (some ⟨p, 0, none⟩)) ∧ Pq p r g vb [t] St12.zero (W.alloc (.cells (trkR.f t).toArray 26)) w' :=
  law12_begin (ts := [t]) (by rw [trkR.all_one]; exact rangeAt_whole (T := 26) (World.alloc_heap_new _ _)) (by rw [World.size_alloc]; omega) (by simp) (by simp) hok
theorem row3 {B : Nat} {v : Value} {x y z : Ev} {w : World} (h : OwnR evR B v [x, y, z] w) : ∃ b cap, v = .slice (some ⟨b, 0, none⟩) 3 cap ∧ (w.cell? ⟨b, 3, none⟩ = some (.int .i64 y.1) ∧ w.cell? ⟨b, 4, none⟩ = some (.int .i64 y.2.1) ∧ w.cell? ⟨b, 5, none⟩ = some (.int .i64 y.2.2)) ∧ w.cell? ⟨b, 6, none⟩ = some (.int .i64 z.1) ∧ w.cell? ⟨b, 7, none⟩ = some (.int .i64 z.2.1) ∧ w.cell? ⟨b, 8, none⟩ = some (.int .i64 z.2.2) := by
  have h' := h
  obtain ⟨h1, h2⟩ := h
  rcases h2 with ⟨rfl, h0⟩ | ⟨g, cap, cur, rfl, hg, hh, hc, hr⟩
  · cases h0
  · exact ⟨g, cap, rfl, ⟨World.ownsRow.cells h' rfl 3 _ rfl, World.ownsRow.cells h' rfl 4 _ rfl, World.ownsRow.cells h' rfl 5 _ rfl⟩, World.ownsRow.cells h' rfl 6 _ rfl, World.ownsRow.cells h' rfl 7 _ rfl, World.ownsRow.cells h' rfl 8 _ rfl⟩
end Go.Proofs.YtpkamfbjgdmmoaaGreat
end
