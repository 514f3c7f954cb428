/-
  The law's told: all that a way tells, in two rows.
-/
import Derived.Test.YtlfngdfbimcjhaaMid
import Derived.Test.YtlfngdfbimcjhaaTwoA
import Derived.Test.YtlfngdfbimcjhaaIterF
import Derived.Test.YtlfngdfbimcjhaaStill
import Derived.BigRegion
import Derived.RegionTactic
import Derived.Shelf.Abstract
import Derived.Shelf.RegionOpen
import Derived.LoopNIn
import Derived.LoopIn
namespace Go.Proofs.Ytlfngdfbimcjhaa
open Go.RowKit Go.Shelf
attribute [local go_sem] Oper.semAt_some
attribute [local go_sem ↓] append_hide
set_option linter.unusedVariables false
set_option linter.unusedSimpArgs false

/-- What told's loop holds. -/
structure ToldC (N0 kb vb : Nat) (pre : List (Int × Int)) (Φ : FP) (W : World) (u v : Value) : Prop where
  bu : Boxed W kb 40 u
  bv : Boxed W vb 40 v
  ou : OwnN N0 u (pre.map (·.1)) W
  ov : OwnN N0 v (pre.map (·.2)) W
  dis : ∀ k, u.ownBlock = some k → v.ownBlock ≠ some k
  iff : ∀ k, Φ k ↔ u.ownBlock = some k ∨ v.ownBlock = some k
  sz : N0 ≤ W.heap.size
def ToldI (N0 kb vb : Nat) (pre : List (Int × Int)) (Φ : FP) (W : World) : Prop := ∃ u v, ToldC N0 kb vb pre Φ W u v
theorem ToldI.stab {N0 kb vb : Nat} (h1 : kb < N0) (h2 : vb < N0) : Stab N0 (ToldI N0 kb vb) := by
  rintro pre Φ W ⟨u, v, h⟩
  refine ⟨fun k hk => ((h.iff k).1 hk).elim (fun e => h.ou.block e) (fun e => h.ov.block e), h.sz, fun W' hg hk => ⟨u, v, (hk kb (.inl h1)).trans h.bu, (hk vb (.inl h2)).trans h.bv, h.ou.of (Nat.le_refl _) (fun k e => hk k (.inr ((h.iff k).2 (.inl e)))), h.ov.of (Nat.le_refl _) (fun k e => hk k (.inr ((h.iff k).2 (.inr e)))), h.dis, h.iff, Nat.le_trans h.sz hg.size⟩⟩
theorem lit_len {l : List Int} {v : Value} {B : Nat} {w : World} (h : OwnN B v l w) : ∃ ao cap, v = .slice ao l.length cap := h.lenOf

set_option maxHeartbeats 4000000 in
set_option maxRecDepth 100000 in
theorem law_told (gf : Nat) (lbx : Array Value) (xs : List (Int × Int)) (w : World) (eg : ∀ args w, (callFunc gf args).run Try.prog w = .ok (.enter gf args) w) (hit : IterF Try.prog 0 gf lbx (fun x : Int × Int => #[.int .i64 x.1, .int .i64 x.2]) xs (fun k => k < w.heap.size) w) (hlen : xs.length ≤ 1000) :
    Calls Try.prog 17 #[.func (.func gf) #[] lbx] w fun e w' => ∃ u v, e = .returned (.tuple #[u, v, .bool true]) ∧ OwnN w.heap.size u (xs.map (·.1)) w' ∧ OwnN w.heap.size v (xs.map (·.2)) w' ∧ Below w.heap.size w w' := by
  refine (callsIn_wide (n := 2)).1 ?_
  have mixed : Try.prog.follows .mixedOrders = true := by kernel_rfl
  have q1 : ∀ g lb w, (binOp .eql 44 (.func g #[] lb) .nilFunc).run Try.prog w = .ok (.bool false) w := fun g lb w => by kernel_rfl
  refine callsIn_of_wp_marks Try.func17 rfl trivial ?_ rfl
  simp only [Try.ntmps17, List.size_toArray, List.length_cons, List.length_nil, Nat.reduceAdd, Nat.reduceSub, Array.replicate_succ, Array.replicate_zero, List.push_toArray, List.append_toArray, List.nil_append, List.cons_append]
  have HIT := Lib.hid hit
  have HEG := Lib.hid eg
  have HLN := Lib.hid hlen
  clear hit eg hlen
  gi_wp2_with fail
  obtain ⟨s, hs⟩ : ∃ s, s = w.heap.size := ⟨_, rfl⟩
  obtain ⟨rv, hrv⟩ : ∃ rv, rv = s + 1 := ⟨_, rfl⟩
  obtain ⟨rb, hrb⟩ : ∃ rb, rb = rv + 1 := ⟨_, rfl⟩
  obtain ⟨kb, hkb⟩ : ∃ kb, kb = rb + 1 := ⟨_, rfl⟩
  obtain ⟨vb, hvb⟩ : ∃ vb, vb = kb + 1 := ⟨_, rfl⟩
  obtain ⟨w1, hw1⟩ : ∃ w1, w1 = (((((w.alloc (.cells #[.slice none 0 0] 40)).alloc (.cells #[.slice none 0 0] 40)).alloc (.cells #[.bool false] 4)).alloc (.cells #[.slice none 0 0] 40)).alloc (.cells #[.slice none 0 0] 40)) := ⟨_, rfl⟩
  rw [← hw1]
  have hB : Below w.heap.size w w1 := by rw [hw1]; exact (((((Below.refl _ w).alloc (Nat.le_refl _) _).alloc (by simp) _).alloc (by simp; omega) _).alloc (by simp; omega) _).alloc (by simp; omega) _
  have hsz : w1.heap.size = s + 5 := by rw [hw1, hs]; simp
  have x0 : Boxed w1 s 40 (.slice none 0 0) := by rw [hw1, hs]; exact ((((Boxed.new w _ _).alloc _).alloc _).alloc _).alloc _
  have x1 : Boxed w1 rv 40 (.slice none 0 0) := by
    have := Boxed.new (w.alloc (.cells #[.slice none 0 0] 40)) 40 (.slice none 0 0)
    rw [World.size_alloc] at this
    rw [hw1, hrv, hs]; exact ((this.alloc _).alloc _).alloc _
  have x2 : Boxed w1 rb 4 (.bool false) := by
    have := Boxed.new ((w.alloc (.cells #[.slice none 0 0] 40)).alloc (.cells #[.slice none 0 0] 40)) 4 (.bool false)
    rw [World.size_alloc, World.size_alloc] at this
    rw [hw1, hrb, hrv, hs]; exact (this.alloc _).alloc _
  have x3 : Boxed w1 kb 40 (.slice none 0 0) := by
    have := Boxed.new (((w.alloc (.cells #[.slice none 0 0] 40)).alloc (.cells #[.slice none 0 0] 40)).alloc (.cells #[.bool false] 4)) 40 (.slice none 0 0)
    rw [World.size_alloc, World.size_alloc, World.size_alloc] at this
    rw [hw1, hkb, hrb, hrv, hs]; exact this.alloc _
  have x4 : Boxed w1 vb 40 (.slice none 0 0) := by
    have := Boxed.new ((((w.alloc (.cells #[.slice none 0 0] 40)).alloc (.cells #[.slice none 0 0] 40)).alloc (.cells #[.bool false] 4)).alloc (.cells #[.slice none 0 0] 40)) 40 (.slice none 0 0)
    rw [World.size_alloc, World.size_alloc, World.size_alloc, World.size_alloc] at this
    rw [hw1, hvb, hkb, hrb, hrv, hs]; exact this
  rw [← hs, ← hrv, ← hrb, ← hkb, ← hvb]
  have l0 : s < rv := by omega
  have l1 : rv < rb := by omega
  have l2 : rb < kb := by omega
  have l3 : kb < vb := by omega
  have l4 : vb < w1.heap.size := by omega
  have HB1 := Lib.hid hB
  have HS := Lib.hid (And.intro hs hsz)
  have HR := Lib.hid (And.intro x0 (And.intro x1 x2))
  clear hw1 hs hrv hrb hkb hvb hB hsz x0 x1 x2
  refine range_outerF (n := 0) (gf := gf) (lb := lbx) rfl HEG.out HIT.out (Grow.of_below HB1.out) (fun k hk => ⟨hk, HB1.out.block k hk⟩) (fun _ => rfl)
    (fun k => k = kb ∨ k = vb) (by rintro k (rfl | rfl) <;> omega) (ToldI w1.heap.size kb vb) (fun _ _ _ _ => False) (ToldI.stab (by omega) l4) (fun c _ _ _ h => h.elim)
    ⟨_, _, x3, x4, OwnN.nil _ _, OwnN.nil _ _, (by intro k h; cases h), (by intro k; constructor; exact fun h => h.elim; rintro (h | h) <;> cases h), Nat.le_refl _⟩
    (fun x => { tmps := #[.func (.func gf) #[] lbx, undef, .pointer (some ⟨s, 0, none⟩), .pointer (some ⟨rv, 0, none⟩), .pointer (some ⟨rb, 0, none⟩), .pointer (some ⟨kb, 0, none⟩), .pointer (some ⟨vb, 0, none⟩), .int .i64 x.1, .int .i64 x.2, .func (.func gf) #[] lbx, .bool false, .func (.func gf) #[] lbx, .int .i64 x.1, .int .i64 x.2, undef, undef, undef, undef, undef, undef, undef, undef, undef, undef, undef, undef, undef], defers := [] }) ?assign ?body ?done ?stop
  case assign =>
    intro l x W K hK
    gi_wp2
    exact hK
  case body =>
    rintro l pre x Φ W hpx ⟨u, v, hI⟩ hl1 hΦ -
    have hpl := hpx.length_le
    rw [List.length_append, List.length_singleton] at hpl
    have hpl2 : pre.length ≤ 999 := by have := HLN.out; omega
    have hsW : w1.heap.size ≤ W.heap.size := hI.sz
    have hm0 : Mid W w1.heap.size kb vb u v u v (pre.map (·.1)) (pre.map (·.2)) W.drew := Mid.keep (Mid.start hI.bu hI.bv hI.ou hI.ov hI.dis) ((Below.refl _ W).drew)
    have hlk : kb < w1.heap.size := by omega
    have HI := Lib.hid hI
    have HM0 := Lib.hid hm0
    have HPL := Lib.hid hpl2
    clear hI hm0 hΦ hpl hpl2
    gi_wp2_with fail
    refine two_app _ (fun _ => trivial) _ _ _ _ _ _ _ _ _ _ HM0.out hlk l4 (by omega) hsW (by have := HPL.out; simp; omega) (by have := HPL.out; simp; omega) ?_
    rintro p q u' v' w' ⟨d1, d2, d3, d4, d5, d6, d7, d8⟩
    obtain ⟨ao1, cp1, e1⟩ := d3.lenOf
    have c1 := d1.cell
    obtain ⟨m, hm⟩ : ∃ m, m = (pre.map (·.1) ++ [x.1]).length := ⟨_, rfl⟩
    rw [← hm] at e1
    have hm1000 : (m : Int) ≤ 1000 := by have := HPL.out; rw [hm]; simp; omega
    have hcmp : decide ((m : Int) > 1000) = false := by simp; omega
    have hcmp2 : decide ((1000 : Int) < (m : Int)) = false := by simp; omega
    have hfin : Leaves (fun k => k = kb ∨ k = vb) Φ W (fun Φ' W' => ToldI w1.heap.size kb vb (pre ++ [x]) Φ' W') w' :=
      ⟨fun k => u'.ownBlock = some k ∨ v'.ownBlock = some k, fun k hk => hk.elim (fun e => (d6 k e).imp (fun e => (HI.out.iff k).2 (.inl e)) id) (fun e => (d7 k e).imp (fun e => (HI.out.iff k).2 (.inr e)) id),
        ⟨d8.grow, fun k hk h1 h2 => d8.block k hk h1 (fun h => h2 ((HI.out.iff k).2 h))⟩, u', v', ⟨d1, d2, by simpa using d3, by simpa using d4, d5, fun k => Iff.rfl, Nat.le_trans hsW d8.grow.size⟩⟩
    have HFIN := Lib.hid hfin
    subst e1
    clear hfin d1 d2 d3 d4 d5 d6 d7 d8 hm
    gi_wp2
    exact HFIN.out
  case done =>
    rintro D Φ W3 ⟨u3, v3, hC⟩ hon hD hnD hK
    obtain ⟨x0, x1, x2⟩ := HR.out
    have hkeep : ∀ k, k < kb → W3.heap[k]? = w1.heap[k]? := fun k hk => hon.block k (by omega) (by omega) (fun h => h)
    have y0 : Boxed W3 s 40 (.slice none 0 0) := (hkeep s (by omega)).trans x0
    have y1 : Boxed W3 rv 40 (.slice none 0 0) := (hkeep rv (by omega)).trans x1
    have y2 : Boxed W3 rb 4 (.bool false) := (hkeep rb (by omega)).trans x2
    obtain ⟨ao1, cp1, rfl⟩ := hC.ou.lenOf
    obtain ⟨ao2, cp2, rfl⟩ := hC.ov.lenOf
    obtain ⟨m1, hm1⟩ : ∃ m, m = (xs.map (·.1)).length := ⟨_, rfl⟩
    obtain ⟨m2, hm2⟩ : ∃ m, m = (xs.map (·.2)).length := ⟨_, rfl⟩
    rw [← hm1, ← hm2] at hC
    have c0 := hC.bu.cell
    have c1 := hC.bv.cell
    have c2 := y0.cell
    have c3 := y1.cell
    have c4 := y2.cell
    have f2 := y0.frozen
    have f3 := y1.frozen
    have f4 := y2.frozen
    have hiff := hC.iff
    have hpost : ∀ W5, W5 = ((W3.setCell ⟨s, 0, none⟩ (.slice ao1 m1 cp1)).setCell ⟨rv, 0, none⟩ (.slice ao2 m2 cp2)).setCell ⟨rb, 0, none⟩ (.bool true) →
        W5.heap[D]? = some (.deferred (some [])) ∧ OwnN w.heap.size (.slice ao1 m1 cp1) (xs.map (·.1)) (W5.putObj D (.deferred none)) ∧ OwnN w.heap.size (.slice ao2 m2 cp2) (xs.map (·.2)) (W5.putObj D (.deferred none)) ∧ Below w.heap.size w (W5.putObj D (.deferred none)) ∧
        (W5.putObj D (.deferred none)).cell? ⟨s, 0, none⟩ = some (.slice ao1 m1 cp1) ∧ (W5.putObj D (.deferred none)).cell? ⟨rv, 0, none⟩ = some (.slice ao2 m2 cp2) ∧ (W5.putObj D (.deferred none)).cell? ⟨rb, 0, none⟩ = some (.bool true) := by
      intro W5 hW5
      obtain ⟨hs, hsz⟩ := HS.out
      have hDl : D < W3.heap.size := (Array.getElem?_eq_some_iff.1 hK).1
      have hb : ∀ k, kb ≤ k → W5.heap[k]? = W3.heap[k]? := fun k hk => by
        rw [hW5, Below.heap_setCell _ _ _ k (by show k ≠ rb; omega), Below.heap_setCell _ _ _ k (by show k ≠ rv; omega), Below.heap_setCell _ _ _ k (by show k ≠ s; omega)]
      have b0 : Boxed W5 s 40 (.slice ao1 m1 cp1) := by
        rw [hW5]
        exact (Below.heap_setCell _ _ _ s (by show s ≠ rb; omega)).trans ((Below.heap_setCell _ _ _ s (by show s ≠ rv; omega)).trans (y0.set _))
      have b1 : Boxed W5 rv 40 (.slice ao2 m2 cp2) := by
        rw [hW5]
        have : Boxed (W3.setCell ⟨s, 0, none⟩ (.slice ao1 m1 cp1)) rv 40 (.slice none 0 0) := (Below.heap_setCell _ _ _ rv (by show rv ≠ s; omega)).trans y1
        exact (Below.heap_setCell _ _ _ rv (by show rv ≠ rb; omega)).trans (this.set _)
      have b2 : Boxed W5 rb 4 (.bool true) := by
        rw [hW5]
        have : Boxed ((W3.setCell ⟨s, 0, none⟩ (.slice ao1 m1 cp1)).setCell ⟨rv, 0, none⟩ (.slice ao2 m2 cp2)) rb 4 (.bool false) := (Below.heap_setCell _ _ _ rb (by show rb ≠ rv; omega)).trans ((Below.heap_setCell _ _ _ rb (by show rb ≠ s; omega)).trans y2)
        exact this.set _
      have hput : ∀ k, k ≠ D → (W5.putObj D (.deferred none)).heap[k]? = W5.heap[k]? := fun k hk => put_other hk
      have hO2 := hon
      have hw2 := HB1.out
      refine ⟨(hb D (by omega)).trans hK, hC.ou.of (by omega) (fun k hk => ?_), hC.ov.of (by omega) (fun k hk => ?_), ⟨?_, ?_, ?_, ?_, fun k hk => ?_⟩, ((Boxed.cell (show Boxed (W5.putObj D (.deferred none)) s _ _ from (hput s (by omega)).trans b0))), ((Boxed.cell (show Boxed (W5.putObj D (.deferred none)) rv _ _ from (hput rv (by omega)).trans b1))), ((Boxed.cell (show Boxed (W5.putObj D (.deferred none)) rb _ _ from (hput rb (by omega)).trans b2)))⟩
      · rw [hput k (fun e => hnD ((hiff D).2 (.inl (by rw [← e]; exact hk))))]; exact hb k (by have := (hC.ou.block hk).1; omega)
      · rw [hput k (fun e => hnD ((hiff D).2 (.inr (by rw [← e]; exact hk))))]; exact hb k (by have := (hC.ov.block hk).1; omega)
      · rw [hW5]; exact hO2.grow.os.trans hw2.os
      · rw [hW5]; exact hO2.grow.tape.trans hw2.tape
      · rw [hW5]; exact hO2.grow.output.trans hw2.output
      · have h1 := hO2.grow.size; have h2 := hw2.size; rw [hW5]; simp [World.putObj, World.setCell]; omega
      · rw [hput k (by omega), hW5, Below.heap_setCell _ _ _ k (by show k ≠ rb; omega), Below.heap_setCell _ _ _ k (by show k ≠ rv; omega), Below.heap_setCell _ _ _ k (by show k ≠ s; omega), hO2.block k (by omega) (by omega) (fun h => h)]
        exact hw2.block k (by omega)
    have HP := Lib.hid hpost
    clear hpost hC hon hK hkeep y0 y1 y2 x0 x1 x2 hm1 hm2
    gi_wp2
    refine region_calm ?_
    go_region
    gi_wp2
    obtain ⟨W5, hW5⟩ : ∃ W5, W5 = ((W3.setCell ⟨s, 0, none⟩ (.slice ao1 m1 cp1)).setCell ⟨rv, 0, none⟩ (.slice ao2 m2 cp2)).setCell ⟨rb, 0, none⟩ (.bool true) := ⟨_, rfl⟩
    rw [← hW5]
    obtain ⟨p1, p2, p3, p4, p5, p6, p7⟩ := HP.out W5 hW5
    refine ⟨by simp, .inl ⟨_, _, rfl, run_takeDeferred (show W5.drew.heap[D]? = _ from p1), ?_⟩⟩
    obtain ⟨W6, hW6⟩ : ∃ W6, W6 = W5.drew.putObj D (.deferred none) := ⟨_, rfl⟩
    have e2 : OwnN w.heap.size (.slice ao1 m1 cp1) (xs.map (·.1)) W6 := by rw [hW6]; exact p2
    have e3 : OwnN w.heap.size (.slice ao2 m2 cp2) (xs.map (·.2)) W6 := by rw [hW6]; exact p3
    have e4 : Below w.heap.size w W6 := by rw [hW6]; exact ⟨p4.os, p4.tape, p4.output, p4.size, p4.block⟩
    have e5 : W6.cell? ⟨s, 0, none⟩ = some (.slice ao1 m1 cp1) := by rw [hW6]; exact p5
    have e6 : W6.cell? ⟨rv, 0, none⟩ = some (.slice ao2 m2 cp2) := by rw [hW6]; exact p6
    have e7 : W6.cell? ⟨rb, 0, none⟩ = some (.bool true) := by rw [hW6]; exact p7
    rw [← hW6]
    clear hW6 hW5
    exact ⟨.tuple #[.slice ao1 m1 cp1, .slice ao2 m2 cp2, .bool true], by simp [results, Try.results17, go_sem, e5, e6, e7], _, _, rfl, e2, e3, e4⟩
  case stop =>
    rintro D Φ c pre W3 hpre h
    exact h.elim
end Go.Proofs.Ytlfngdfbimcjhaa
