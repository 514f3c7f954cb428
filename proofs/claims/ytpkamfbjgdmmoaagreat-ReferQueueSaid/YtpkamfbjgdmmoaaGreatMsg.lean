/-
  Joined texts.
-/
import Derived.WalkKit
import Derived.ProofKit
import Derived.OpenShut
import Derived.Carry
import Derived.Below
import Derived.ChangeOld
import Derived.ChangeArms
import Derived.Deep.Matrix
import Derived.Laws.MakeOwn
import Derived.BigRegion
import Derived.RegionTactic
import Derived.StillTailTactics
import Derived.OrdersHeld
import Derived.Deep.RegionHeld
import Derived.Deep.DeepCutAuto
import Derived.Deep.RegionHeld3
import Derived.Test.YtpkamfbjgdmmoaaGreatMsf

section
namespace Go.Proofs.YtpkamfbjgdmmoaaGreat
open Go.RowKit Go.Maps Go.Shelf
set_option linter.unusedVariables false
set_option linter.unusedSimpArgs false

/-- Tracks, and referenda, at block r; all lie from N on, in the blocks of F. -/
def ReX (r N : Nat) (ts : List Trk) (R : List Rfm) (F : FP) (w : World) : Prop :=
  ∃ tb cap gb FG, w.heap[r]? = some (.cells #[.slice (some ⟨tb, 0, none⟩) ts.length cap, .pointer (some ⟨gb, 0, none⟩)] 93 (0, 0)) ∧ w.rangeAt tb 0 (trkR.all ts) ∧ tb < w.heap.size ∧ GrAt rfS.cod 173 gb (tabR 0 R) FG w ∧ (∀ k, FG k → N ≤ k ∧ k ≠ r ∧ k ≠ tb) ∧ N ≤ r ∧ N ≤ tb ∧ r ≠ tb ∧ ∀ k, F k ↔ k = r ∨ k = tb ∨ FG k
def ReTo (r N : Nat) (ts : List Trk) (R : List Rfm) (F : FP) (w w' : World) : Prop := ∃ F', ReX r N ts R F' w' ∧ (∀ k, F' k → F k ∨ w.heap.size ≤ k) ∧ Only F (fun _ => False) w w'
section
variable {r N : Nat} {ts : List Trk} {R R' : List Rfm} {F : FP} {w w' w1 : World}
theorem ReX.lt (h : ReX r N ts R F w) {k : Nat} (hk : F k) : k < w.heap.size := by
  obtain ⟨tb, cap, gb, FG, h1, h2, h3, h4, h5, h6, h7, h8, h9⟩ := h
  rcases (h9 k).1 hk with rfl | rfl | e
  · exact (Array.getElem?_eq_some_iff.1 h1).1
  · exact h3
  · exact h4.2.2.1 k e
theorem ReX.lo (h : ReX r N ts R F w) {k : Nat} (hk : F k) : N ≤ k := by
  obtain ⟨tb, cap, gb, FG, h1, h2, h3, h4, h5, h6, h7, h8, h9⟩ := h
  rcases (h9 k).1 hk with rfl | rfl | e
  · exact h6
  · exact h7
  · exact (h5 k e).1
theorem ReX.own (h : ReX r N ts R F w) : F r := by
  obtain ⟨tb, cap, gb, FG, h1, h2, h3, h4, h5, h6, h7, h8, h9⟩ := h
  exact (h9 r).2 (.inl rfl)
theorem ReX.size (h : ReX r N ts R F w) : N ≤ w.heap.size := Nat.le_of_lt (Nat.lt_of_le_of_lt (h.lo h.own) (h.lt h.own))
theorem ReX.keep (h : ReX r N ts R F w) (hg : Grow w w') (hk : ∀ k, F k → w'.heap[k]? = w.heap[k]?) : ReX r N ts R F w' := by
  obtain ⟨tb, cap, gb, FG, h1, h2, h3, h4, h5, h6, h7, h8, h9⟩ := h
  exact ⟨tb, cap, gb, FG, (hk r ((h9 r).2 (.inl rfl))).trans h1, rangeAt_block h2 (hk tb ((h9 tb).2 (.inr (.inl rfl)))), Nat.lt_of_lt_of_le h3 hg.size, h4.keep hg (fun k hf => hk k ((h9 k).2 (.inr (.inr hf)))), h5, h6, h7, h8, h9⟩
theorem ReX.below (h : ReX r N ts R F w) (hb : Below w.heap.size w w') : ReX r N ts R F w' := h.keep (Grow.of_below hb) (fun k hk => hb.block k (h.lt hk))
theorem ReX.at (h : ReX r N ts R F w) (hl : ts.length ≤ 100) : ReAt F r ts w := by
  obtain ⟨tb, cap, gb, FG, h1, h2, h3, h4, h5, h6, h7, h8, h9⟩ := h
  exact ⟨tb, cap, _, h1, h2, (h9 r).2 (.inl rfl), (h9 tb).2 (.inr (.inl rfl)), h3, hl⟩
theorem ReTo.refl (h : ReX r N ts R F w) : ReTo r N ts R F w w := ⟨F, h, fun k hk => .inl hk, Only.refl _ _ _⟩
theorem ReTo.of_below (h : ReX r N ts R F w) (hb : Below w.heap.size w w') : ReTo r N ts R F w w' := ⟨F, h.below hb, fun k hk => .inl hk, Only.of_later hb⟩
theorem ReTo.trans (h : ReTo r N ts R F w w1) (hk : ∀ F', ReX r N ts R F' w1 → ReTo r N ts R' F' w1 w') : ReTo r N ts R' F w w' := by
  obtain ⟨F1, h1, h2, h3⟩ := h
  obtain ⟨F2, k1, k2, k3⟩ := hk F1 h1
  have hs := h3.grow.size
  exact ⟨F2, k1, fun k hk => (k2 k hk).elim (fun e => h2 k e) (fun e => .inr (by omega)), only_cons h3 h2 k3⟩
/-- Its table, its pointers. -/
theorem ReX.cells (h : ReX r N ts R F w) : ∃ tb cap gb, w.cell? ⟨r, 0, none⟩ = some (.slice (some ⟨tb, 0, none⟩) ts.length cap) ∧ w.cell? ⟨r, 1, none⟩ = some (.pointer (some ⟨gb, 0, none⟩)) ∧ w.rangeAt tb 0 (trkR.all ts) ∧ tb < w.heap.size := by
  obtain ⟨tb, cap, gb, FG, h1, h2, h3, h4, h5, h6, h7, h8, h9⟩ := h
  exact ⟨tb, cap, gb, by rw [World.cell?, h1]; rfl, by rw [World.cell?, h1]; rfl, h2, h3⟩
end
/-- A referendum of a list, nothing of what is none. -/
def refAt (R : List Rfm) (b : Int) : Rfm := if 0 ≤ b then (R[b.toNat]?).getD rf0 else rf0
def refHas (R : List Rfm) (b : Int) : Bool := decide (0 ≤ b ∧ b < R.length)
theorem refHas_get (R : List Rfm) (b : Int) : (cget (tabR 0 R) 0 b).isSome = refHas R b := by
  rw [get_tabR]; unfold refHas
  by_cases h : 0 ≤ b
  · rw [if_pos h]
    by_cases h2 : b < R.length
    · rw [List.getElem?_eq_getElem (by omega)]; simp [h, h2]
    · rw [List.getElem?_eq_none (by omega)]; simp [h2]
  · rw [if_neg h]; simp [h]
theorem refAt_get (R : List Rfm) (b : Int) : (cget (tabR 0 R) 0 b).getD rfS.zero = refAt R b := by
  rw [get_tabR]; unfold refAt
  by_cases h : 0 ≤ b
  · rw [if_pos h, if_pos h]; rfl
  · rw [if_neg h, if_neg h]; rfl
/-- All three side by side. -/
def RvAt (r g vb N : Nat) (ts : List Trk) (R : List Rfm) (S : Vs) (A : Acc) (M : Cls Int) (Z : FP) (w : World) : Prop := ∃ FR Zn, ReX r N ts R FR w ∧ LvAt g vb N S A M Zn w ∧ (∀ k, FR k → ¬ Zn k) ∧ ∀ k, Z k ↔ FR k ∨ Zn k
def RvTo (r g vb N : Nat) (ts : List Trk) (R : List Rfm) (S : Vs) (A : Acc) (M : Cls Int) (Z : FP) (w w' : World) : Prop := ∃ Z', RvAt r g vb N ts R S A M Z' w' ∧ (∀ k, Z' k → Z k ∨ w.heap.size ≤ k) ∧ Only Z (fun _ => False) w w'
section
variable {r g vb N : Nat} {ts : List Trk} {R R' : List Rfm} {S S' : Vs} {A A' : Acc} {M M' : Cls Int} {Z : FP} {w w' w1 : World}
theorem RvAt.lt (h : RvAt r g vb N ts R S A M Z w) {k : Nat} (hk : Z k) : k < w.heap.size := by
  obtain ⟨FR, Zn, h1, h2, h3, h4⟩ := h
  exact ((h4 k).1 hk).elim h1.lt h2.lt
theorem RvAt.lo (h : RvAt r g vb N ts R S A M Z w) {k : Nat} (hk : Z k) : N ≤ k := by
  obtain ⟨FR, Zn, h1, h2, h3, h4⟩ := h
  exact ((h4 k).1 hk).elim h1.lo h2.lo
theorem RvAt.size (h : RvAt r g vb N ts R S A M Z w) : N ≤ w.heap.size := by obtain ⟨FR, Zn, h1, h2, h3, h4⟩ := h; exact h1.size
theorem RvAt.keep (h : RvAt r g vb N ts R S A M Z w) (hg : Grow w w') (hk : ∀ k, Z k → w'.heap[k]? = w.heap[k]?) : RvAt r g vb N ts R S A M Z w' := by
  obtain ⟨FR, Zn, h1, h2, h3, h4⟩ := h
  exact ⟨FR, Zn, h1.keep hg (fun k hf => hk k ((h4 k).2 (.inl hf))), h2.keep hg (fun k hf => hk k ((h4 k).2 (.inr hf))), h3, h4⟩
theorem RvAt.below (h : RvAt r g vb N ts R S A M Z w) (hb : Below w.heap.size w w') : RvAt r g vb N ts R S A M Z w' := h.keep (Grow.of_below hb) (fun k hk => hb.block k (h.lt hk))
theorem RvTo.of_below (h : RvAt r g vb N ts R S A M Z w) (hb : Below w.heap.size w w') : RvTo r g vb N ts R S A M Z w w' := ⟨Z, h.below hb, fun k hk => .inl hk, Only.of_later hb⟩
theorem RvTo.refl (h : RvAt r g vb N ts R S A M Z w) : RvTo r g vb N ts R S A M Z w w := RvTo.of_below h (Below.refl _ _)
theorem RvTo.trans (h : RvTo r g vb N ts R S A M Z w w1) (hk : ∀ Z', RvAt r g vb N ts R S A M Z' w1 → RvTo r g vb N ts R' S' A' M' Z' w1 w') : RvTo r g vb N ts R' S' A' M' Z w w' := by
  obtain ⟨Z1, h1, h2, h3⟩ := h
  obtain ⟨Z2, k1, k2, k3⟩ := hk Z1 h1
  have hs := h3.grow.size
  exact ⟨Z2, k1, fun k hk => (k2 k hk).elim (fun e => h2 k e) (fun e => .inr (by omega)), only_cons h3 h2 k3⟩
theorem RvTo.later (hb : Below w.heap.size w w1) (h : RvTo r g vb N ts R S A M Z w1 w') : RvTo r g vb N ts R S A M Z w w' := by
  obtain ⟨Z1, h1, h2, h3⟩ := h
  exact ⟨Z1, h1, fun k hk => (h2 k hk).imp id (fun e => Nat.le_trans hb.size e), only_trans (Only.of_later hb) h3⟩
theorem RvTo.below (h : RvAt r g vb N ts R S A M Z w) (ht : RvTo r g vb N ts R' S' A' M' Z w w') : Below N w w' := by
  obtain ⟨Z2, k1, k2, k3⟩ := ht
  exact k3.below h.size (fun k hk => h.lo hk) (fun k h => h.elim)
/-- A block that is none of theirs stays. -/
theorem RvTo.old (ht : RvTo r g vb N ts R' S' A' M' Z w w') {k : Nat} (hk : k < w.heap.size) (hz : ¬ Z k) : w'.heap[k]? = w.heap[k]? := by
  obtain ⟨Z2, k1, k2, k3⟩ := ht
  exact k3.block k hk hz (fun h => h)
/-- What changes refer alone. -/
theorem RvAt.re (h : RvAt r g vb N ts R S A M Z w) : ∃ FR, ReX r N ts R FR w ∧ ∀ R' w', ReTo r N ts R' FR w w' → RvTo r g vb N ts R' S A M Z w w' := by
  obtain ⟨FR, Zn, h1, h2, h3, h4⟩ := h
  refine ⟨FR, h1, fun R' w' ⟨F', k1, k2, k3⟩ => ⟨fun k => F' k ∨ Zn k, ⟨F', Zn, k1, h2.keep k3.grow (fun k hk => k3.block k (h2.lt hk) (fun e => h3 k e hk) (fun h => h)), fun k hk hl => (k2 k hk).elim (fun e => h3 k e hl) (fun e => by have := h2.lt hl; omega), fun k => Iff.rfl⟩, fun k hk => ?_, k3.grow, fun k hk h5 h6 => k3.block k hk (fun e => h5 ((h4 k).2 (.inl e))) h6⟩⟩
  rcases hk with e | e
  · exact (k2 k e).imp (fun e => (h4 k).2 (.inl e)) id
  · exact .inl ((h4 k).2 (.inr e))
/-- What changes the ledger and the voting alone. -/
theorem RvAt.lv (h : RvAt r g vb N ts R S A M Z w) : ∃ Zn, LvAt g vb N S A M Zn w ∧ ∀ S' A' M' w', LvTo g vb N S' A' M' Zn w w' → RvTo r g vb N ts R S' A' M' Z w w' := by
  obtain ⟨FR, Zn, h1, h2, h3, h4⟩ := h
  refine ⟨Zn, h2, fun S' A' M' w' ⟨F', k1, k2, k3⟩ => ⟨fun k => FR k ∨ F' k, ⟨FR, F', h1.keep k3.grow (fun k hk => k3.block k (h1.lt hk) (fun e => h3 k hk e) (fun h => h)), k1, fun k hk hl => (k2 k hl).elim (fun e => h3 k hk e) (fun e => by have := h1.lt hk; omega), fun k => Iff.rfl⟩, fun k hk => ?_, k3.grow, fun k hk h5 h6 => k3.block k hk (fun e => h5 ((h4 k).2 (.inr e))) h6⟩⟩
  rcases hk with e | e
  · exact .inl ((h4 k).2 (.inl e))
  · exact (k2 k e).imp (fun e => (h4 k).2 (.inr e)) id
theorem RvAt.vo (h : RvAt r g vb N ts R S A M Z w) : ∃ F, VoX vb N S F w ∧ ∀ S' w', VoTo vb N S' F w w' → RvTo r g vb N ts R S' A M Z w w' := by
  obtain ⟨Zn, h1, h2⟩ := h.lv
  obtain ⟨F, k1, k2⟩ := h1.vo
  exact ⟨F, k1, fun S' w' ht => h2 _ _ _ _ (k2 _ _ ht)⟩
theorem RvAt.ld (h : RvAt r g vb N ts R S A M Z w) : ∃ FL, LdX g N A M FL w ∧ ∀ A' M' w', LdTo g N A' M' FL w w' → RvTo r g vb N ts R S A' M' Z w w' := by
  obtain ⟨Zn, h1, h2⟩ := h.lv
  obtain ⟨F, k1, k2⟩ := h1.ld
  exact ⟨F, k1, fun A' M' w' ht => h2 _ _ _ _ (k2 _ _ _ ht)⟩
theorem RvTo.cons {Z1 : FP} (h2 : ∀ k, Z1 k → Z k ∨ w.heap.size ≤ k) (h3 : Only Z (fun _ => False) w w1) (h : RvTo r g vb N ts R S A M Z1 w1 w') : RvTo r g vb N ts R S A M Z w w' := by
  obtain ⟨Z2, k1, k2, k3⟩ := h
  have := h3.grow.size
  exact ⟨Z2, k1, fun k hk => (k2 k hk).elim (fun e => h2 k e) (fun e => .inr (by omega)), only_cons h3 h2 k3⟩
/-- The next step from a changed one. -/
theorem RvTo.re (h : RvTo r g vb N ts R S A M Z w w1) : ∃ FR, ReX r N ts R FR w1 ∧ ∀ R' w', ReTo r N ts R' FR w1 w' → RvTo r g vb N ts R' S A M Z w w' := by
  obtain ⟨Z1, h1, h2, h3⟩ := h
  obtain ⟨FR, k1, k2⟩ := h1.re
  exact ⟨FR, k1, fun R' w' ht => RvTo.cons h2 h3 (k2 _ _ ht)⟩
theorem RvTo.lv (h : RvTo r g vb N ts R S A M Z w w1) : ∃ Zn, LvAt g vb N S A M Zn w1 ∧ ∀ S' A' M' w', LvTo g vb N S' A' M' Zn w1 w' → RvTo r g vb N ts R S' A' M' Z w w' := by
  obtain ⟨Z1, h1, h2, h3⟩ := h
  obtain ⟨FR, k1, k2⟩ := h1.lv
  exact ⟨FR, k1, fun S' A' M' w' ht => RvTo.cons h2 h3 (k2 _ _ _ _ ht)⟩
theorem RvTo.vo (h : RvTo r g vb N ts R S A M Z w w1) : ∃ F, VoX vb N S F w1 ∧ ∀ S' w', VoTo vb N S' F w1 w' → RvTo r g vb N ts R S' A M Z w w' := by
  obtain ⟨Z1, h1, h2, h3⟩ := h
  obtain ⟨FR, k1, k2⟩ := h1.vo
  exact ⟨FR, k1, fun S' w' ht => RvTo.cons h2 h3 (k2 _ _ ht)⟩
theorem RvTo.ld (h : RvTo r g vb N ts R S A M Z w w1) : ∃ FL, LdX g N A M FL w1 ∧ ∀ A' M' w', LdTo g N A' M' FL w1 w' → RvTo r g vb N ts R S A' M' Z w w' := by
  obtain ⟨Z1, h1, h2, h3⟩ := h
  obtain ⟨FR, k1, k2⟩ := h1.ld
  exact ⟨FR, k1, fun A' M' w' ht => RvTo.cons h2 h3 (k2 _ _ _ ht)⟩
end
end Go.Proofs.YtpkamfbjgdmmoaaGreat
end

section
namespace Go.Proofs.YtpkamfbjgdmmoaaGreat
open Go.RowKit Go.Maps Go.Shelf
set_option linter.unusedVariables false
set_option linter.unusedSimpArgs false

set_option maxRecDepth 100000 in
set_option maxHeartbeats 4000000 in
theorem refer_NewX {ts : List Trk} {w : World} {b cap : Nat} (hr : w.rangeAt b 0 (trkR.all ts)) (hb : b < w.heap.size) (hc : ts.length ≤ cap) (hl : ts.length ≤ 100) :
    Calls Tryz.prog 32 #[.slice (some ⟨b, 0, none⟩) ts.length cap] w fun e w' => Below w.heap.size w w' ∧ ((newB ts = true ∧ ∃ r F, e = .returned (.tuple #[.pointer (some ⟨r, 0, none⟩), .int .i64 0]) ∧ ReX r w.heap.size ts [] F w') ∨ (newB ts = false ∧ e = .returned (.tuple #[.pointer none, .int .i64 1]))) := by
  obtain ⟨n, hn⟩ : ∃ n, n = ts.length := ⟨_, rfl⟩
  rw [← hn] at hc hl ⊢
  have HR := Lib.hid (And.intro hr (And.intro hb (And.intro hc hn)))
  clear hr hb hc
  by_cases hlen : 1 ≤ n ∧ n ≤ 4
  · have hd : decide ((1 : Int) ≤ (n : Int) ∧ (n : Int) ≤ 4) = true := decide_eq_true (by omega)
    have HD := Lib.hid hd
    have hn4 : n ≤ 4 := hlen.2
    have HLN := Lib.hid (And.intro hlen hn)
    clear hd hlen hn
    go_enter Tryz.func32, Tryz.ntmps32
    go_wp2_with (first
      | (go_at_call 36; refine (bound_Within _ _ _ _).mono ?_; rw [HD.out]; rintro e w' ⟨rfl, hw⟩; rw [hw]; clear hw w')
      | fail)
    go_loopw [12] (fun i wr => ∃ k : Nat, k ≤ n ∧ i = .int .i64 k ∧ (ts.take k).all trackB = true ∧ Below w.heap.size w wr) (fun i _ => n - (intOf i).toNat)
    case atStart => exact ⟨0, by omega, rfl, by simp, Below.refl _ _⟩
    case round =>
      obtain ⟨k, hk, rfl, hall, hbl⟩ := hrel
      by_cases hlt : k < n
      · have hlt' : (k : Int) < n := by omega
        have hkl : k < ts.length := by rw [← HLN.out.2]; exact hlt
        have hrk : wr.rangeAt b (k * 18) (trkR.f ts[k]) := fun j u hj => by
          have hj18 : j < 18 := by have := (List.getElem?_eq_some_iff.1 hj).1; rwa [trkR.len] at this
          have := rangeAt_block HR.out.1 (hbl.block b HR.out.2.1) (k * 18 + j) u (by rw [show k * 18 + j = k * trkR.k + j from rfl, trkR.all_at hkl hj18]; exact hj)
          rwa [Nat.zero_add] at this
        have hts : (ts.take (k + 1)).all trackB = ((ts.take k).all trackB && trackB ts[k]) := by rw [List.take_succ_eq_append_getElem hkl, List.all_append]; simp
        have hna : trackB ts[k] = false → ts.all trackB = false := fun h => by
          rw [Bool.eq_false_iff]
          intro hall
          rw [List.all_eq_true] at hall
          rw [hall _ (List.getElem_mem hkl)] at h
          cases h
        obtain ⟨t, ht⟩ : ∃ t, t = ts[k] := ⟨_, rfl⟩
        rw [← ht] at hrk hts hna
        obtain ⟨W1, hW1⟩ : ∃ W1, W1 = wr.alloc (.cells (trkR.f t).toArray 26) := ⟨_, rfl⟩
        have hr1 : W1.rangeAt wr.heap.size 0 (trkR.f t) := by rw [hW1]; exact rangeAt_whole (T := 26) (World.alloc_heap_new _ _)
        have hb1 : Below w.heap.size w W1 := by rw [hW1]; exact hbl.alloc hbl.size _
        have his := track_IsR t W1
        obtain ⟨q, hq⟩ : ∃ q, q = trackB t := ⟨_, rfl⟩
        rw [← hq] at his hts hna
        have HRK := Lib.hid hrk
        have HA := Lib.hid (And.intro hall (And.intro hts hna))
        have HB := Lib.hid hbl
        have HW1 := Lib.hid hW1
        have HR1 := Lib.hid hr1
        have HB1 := Lib.hid hb1
        have HIS := Lib.hid his
        clear hrk hts hna ht hW1 hr1 hb1 his hq hall hbl hkl
        cases q
        · go_wp2_with (first
            | (refine wpl_allocR (r := trkR) (ty := 26) rfl rfl rfl ?_; intro C hC)
            | (refine wpl_loadR (r := trkR) (t := t) (b := b) (k := k * 18) _ rfl rfl rfl HRK.out ?_)
            | (refine wpl_loadR (r := trkR) (t := t) (b := wr.heap.size) (k := 0) _ rfl rfl rfl HR1.out ?_)
            | (refine wpl_storeR (r := trkR) (ty := 26) (t := t) (C := C) _ _ rfl rfl rfl rfl rfl (World.alloc_heap_new wr _) hC ?_; rw [World.setRow_alloc_new]; rw [show wr.alloc (.cells (trkR.f t).toArray 26) = W1 from HW1.out.symm])
            | (go_at_call 78; refine HIS.out.mono ?_; rintro e w2 ⟨rfl, hb⟩; have H2 := Lib.hid hb; clear hb)
            | fail)
          exact bodyPost_ret (v := .tuple #[.pointer none, .int .i64 1]) (by simp [results, Tryz.results32, go_sem]) rfl ⟨HB1.out.trans (H2.out.mono HB1.out.size), .inr ⟨by unfold newB; rw [HA.out.2.2 (by first | rfl | trivial), Bool.and_false], rfl⟩⟩
        · go_wp2_with (first
            | (refine wpl_allocR (r := trkR) (ty := 26) rfl rfl rfl ?_; intro C hC)
            | (refine wpl_loadR (r := trkR) (t := t) (b := b) (k := k * 18) _ rfl rfl rfl HRK.out ?_)
            | (refine wpl_loadR (r := trkR) (t := t) (b := wr.heap.size) (k := 0) _ rfl rfl rfl HR1.out ?_)
            | (refine wpl_storeR (r := trkR) (ty := 26) (t := t) (C := C) _ _ rfl rfl rfl rfl rfl (World.alloc_heap_new wr _) hC ?_; rw [World.setRow_alloc_new]; rw [show wr.alloc (.cells (trkR.f t).toArray 26) = W1 from HW1.out.symm])
            | (go_at_call 78; refine HIS.out.mono ?_; rintro e w2 ⟨rfl, hb⟩; have H2 := Lib.hid hb; clear hb)
            | fail)
          go_roundw
          case rel => exact ⟨k + 1, by omega, by go_num, by rw [HA.out.2.1, HA.out.1]; rfl, HB1.out.trans (H2.out.mono HB1.out.size)⟩
          case measure => simp [intOf]; omega
      · have hge : ¬ (k : Int) < n := by omega
        have hkn : k = n := by omega
        subst hkn
        have hfull : ts.all trackB = true := by rw [HLN.out.2, List.take_length] at hall; exact hall
        have hcl := slices_CloneT (v := .nilFunc) (rangeAt_block HR.out.1 (hbl.block b HR.out.2.1)) (Nat.lt_of_lt_of_le HR.out.2.1 hbl.size) (by rw [← HR.out.2.2.2]; exact HR.out.2.2.1) (by have := HLN.out; omega) (ts := ts) (cap := cap)
        rw [← HLN.out.2] at hcl
        have hnb : newB ts = true := by unfold newB; rw [hfull, ← HLN.out.2, decide_eq_true HLN.out.1]; rfl
        have HCL := Lib.hid hcl
        have HBL := Lib.hid hbl
        have HNB := Lib.hid hnb
        clear hall hbl hfull hcl hnb hk hlt
        go_wp2_with (first
          | (go_at_call 79; refine HCL.out.mono ?_; rintro e w3 ⟨g, c, rfl, hg, ho, hb⟩; have H3 := Lib.hid (And.intro hg (And.intro ho hb)); clear hg ho hb)
          | (go_at_call 80; refine (grid_New_R _).mono ?_; rintro e w4 ⟨rfl, hw⟩; have hb4 : Below w3.heap.size w3 w4 := (by rw [hw]; exact (Below.refl _ w3).alloc (Nat.le_refl _) _); have hg4 : GrAt rfS.cod 173 w3.heap.size [] (fun k => k = w3.heap.size) w4 := (by rw [hw]; exact GrAt.new_R w3); clear hw; have H4 := Lib.hid hb4; have G4 := Lib.hid hg4; clear hb4 hg4)
          | fail)
        have hb3 := HBL.out.trans (H3.out.2.2.mono HBL.out.size)
        have hb4 := hb3.trans (H4.out.mono hb3.size)
        obtain ⟨W5, hW5⟩ : ∃ W5, W5 = w4.alloc (.cells #[.slice (some ⟨g, 0, none⟩) k c, .pointer (some ⟨w3.heap.size, 0, none⟩)] 93) := ⟨_, rfl⟩
        have hb5 : Below w4.heap.size w4 W5 := by rw [hW5]; exact (Below.refl _ w4).alloc (Nat.le_refl _) _
        have hown := H3.out.2.1
        have hglt : g < w3.heap.size := (hown.block rfl).2
        have hrg : w3.rangeAt g 0 (trkR.all ts) := by
          rcases hown.reads with ⟨e, -⟩ | ⟨b', o', c', e, -, -, hr⟩
          · cases e
          · injection e with e1 e2 e3
            injection e1 with e1
            injection e1 with e4 e5
            subst e4 e5
            exact hr
        have hs4 := H4.out.size
        have hg4l : w3.heap.size < w4.heap.size := G4.out.2.2.1 _ rfl
        have hre : ReX w4.heap.size w.heap.size ts [] (fun j => j = w4.heap.size ∨ j = g ∨ j = w3.heap.size) W5 := by
          have hg5 := GrAt.keep G4.out (Grow.of_below hb5) (fun k hk => by subst hk; exact hb5.block _ hg4l)
          refine ⟨g, c, w3.heap.size, fun j => j = w3.heap.size, by rw [hW5, ← HLN.out.2]; exact World.alloc_heap_new _ _, rangeAt_block hrg ((hb5.block g (by omega)).trans (H4.out.block g hglt)), by have := hb5.size; omega, hg5, fun j hj => by subst hj; exact ⟨hb3.size, by omega, by omega⟩, hb4.size, Nat.le_trans HBL.out.size H3.out.1, by omega, fun j => Iff.rfl⟩
        rw [← hW5]
        exact bodyPost_ret (v := .tuple #[.pointer (some ⟨w4.heap.size, 0, none⟩), .int .i64 0]) (by simp [results, Tryz.results32, go_sem]) rfl ⟨hb4.trans (hb5.mono hb4.size), .inl ⟨HNB.out, _, _, rfl, hre⟩⟩
  · have hd : decide ((1 : Int) ≤ (n : Int) ∧ (n : Int) ≤ 4) = false := decide_eq_false (by omega)
    have HD := Lib.hid hd
    have hnb : newB ts = false := by unfold newB; rw [← hn, decide_eq_false hlen]; rfl
    have HNB := Lib.hid hnb
    clear hd hlen hn hnb
    go_enter Tryz.func32, Tryz.ntmps32
    go_wp2_with (first
      | (go_at_call 36; refine (bound_Within _ _ _ _).mono ?_; rw [HD.out]; rintro e w' ⟨rfl, hw⟩; rw [hw]; clear hw w')
      | fail)
    exact bodyPost_ret (v := .tuple #[.pointer none, .int .i64 1]) (by simp [results, Tryz.results32, go_sem]) rfl ⟨Below.refl _ _, .inr ⟨HNB.out, rfl⟩⟩
end Go.Proofs.YtpkamfbjgdmmoaaGreat
end

section
namespace Go.Proofs.YtpkamfbjgdmmoaaGreat
open Go.ChangeShapes Go.WideShapes Go.ChangeAt Go.RowKit

section
variable {H : Type} {enc : TypeId × Value → H} {P : Program}

/-- Every argument reads as it read, where below the heap's old end nothing has turned. -/
theorem trodAll_stays (hl : laidOutB P = true) {W W' : World} (hb : Below W.heap.size W W') : ∀ (ts : List TypeId) (vs : List Value) (ds : List (DataW H)) (ps : List MemPlace),
    (ts.all fun t => P.readableRec t && decide (t < P.types.size)) = true → DataW.TrodAll enc P W 0 (fun _ => true) true ts vs ds ps →
    DataW.TrodAll enc P W' 0 (fun b => decide (b < W.heap.size)) true ts vs ds ps
  | [], [], [], _, _, h => h
  | t :: ts, v :: vs, d :: ds, _, hr, h => by
    obtain ⟨p, q, h1, h2, rfl⟩ := h
    simp only [List.all_cons, Bool.and_eq_true, decide_eq_true_eq] at hr
    have lt : ∀ x ∈ p, x.block < W.heap.size := by obtain ⟨m, hm⟩ := h1; exact DataW.trod_lt m _ _ _ hm
    exact ⟨p, q, Below.trod hl hr.1.1 hr.1.2 h1 hb lt, trodAll_stays hl hb ts vs ds q hr.2 h2, rfl⟩
  | [], _ :: _, _, _, _, h => h.elim
  | [], [], _ :: _, _, _, h => h.elim
  | _ :: _, [], _, _, _, h => h.elim
  | _ :: _, _ :: _, [], _, _, h => h.elim

theorem trodAll_lengths {w : World} {base : Nat} {spare : Nat → Bool} {held : Bool} : ∀ (ts : List TypeId) (vs : List Value) (ds : List (DataW H)) (ps : List MemPlace), DataW.TrodAll enc P w base spare held ts vs ds ps → ds.length = ts.length ∧ vs.length = ts.length
  | [], [], [], _, _ => ⟨rfl, rfl⟩
  | _ :: ts, _ :: vs, _ :: ds, _, h => by
    obtain ⟨_, q, _, h2, _⟩ := h
    have := trodAll_lengths ts vs ds q h2
    exact ⟨by simp [this.1], by simp [this.2]⟩
  | [], _ :: _, _, _, h => h.elim
  | [], [], _ :: _, _, h => h.elim
  | _ :: _, [], _, _, h => h.elim
  | _ :: _, _ :: _, [], _, h => h.elim

/-- What a law's specification says. -/
def IsLaw (s : ChangeSpec) (n : Nat) : Prop := s.vars = [] ∧ ∀ (H : Type) (ds : List (DataW H)), ds.length = n → s.fn H ds = { results := [.lit (.bool true)], args := ds }

/-- The closed facts on the program that a law's row needs. -/
structure LawFacts (P : Program) (fn : Func) : Prop where
  laid : laidOutB P = true
  read : (fn.params.toList.all fun t => P.readableRec t && decide (t < P.types.size)) = true
  res : ∃ T, fn.resultTypes = #[T] ∧ P.underlying T = some .bool

theorem law_post {fn : Func} {s : ChangeSpec} (hs : IsLaw s fn.params.size) (hf : LawFacts P fn) {W W' : World} {args : Array Value} {ds gs : List (DataW H)} {before : List MemPlace}
    (hW : DataW.Whole enc P fn.params.toList s.vars false W args.toList ds gs before) (hb : Below W.heap.size W W') :
    s.post enc P fn false true false false W args (.bool true) W' := by
  have hW' := hW
  obtain ⟨p, q, hA, hV, _, _, _⟩ := hW
  rw [hs.1] at hV
  obtain ⟨rfl, _⟩ := trodVars_none hV
  have hlen : ds.length = fn.params.size := by have := (trodAll_lengths _ _ _ _ hA).1; simpa using this
  have hfn := hs.2 H ds hlen
  obtain ⟨T, hT, hB⟩ := hf.res
  refine ⟨_, _, _, [], p, [], hW', ?_, ?_, ?_, hb.frame _, fun h => by cases h⟩
  · rw [List.append_nil, hfn, hT]
    exact trodAll_mk1 (shut_bool hB _)
  · rw [List.append_nil, hfn]
    exact trodAll_stays hf.laid hb _ _ _ _ hf.read hA
  · rw [List.append_nil, hfn, hs.1]
    rfl

end
end Go.Proofs.YtpkamfbjgdmmoaaGreat
end

section
namespace Go.Proofs.YtpkamfbjgdmmoaaGreat
open Go.ChangeShapes Go.WideShapes Go.ChangeAt Go.RowKit

section
variable {H : Type} {enc : TypeId × Value → H} {P : Program} {w : World} {base : Nat} {spare : Nat → Bool} {held : Bool}

/-- A cell's kind: an integer's, or none: a bool. -/
abbrev Leaf := Option IntKind

/-- The fields' leaves, where each field begins where the one before it ends. -/
def fieldLeaves (P : Program) (of : TypeId → Option (List Leaf)) : Nat → List Field → Option (List Leaf)
  | _, [] => some []
  | off, f :: fs => match of f.type, fieldLeaves P of (off + P.cellsOf f.type) fs with
    | some a, some b => if f.offset = off ∧ a.length = P.cellsOf f.type then some (a ++ b) else .none
    | _, _ => .none

def repeatLeaves (a : List Leaf) : Nat → List Leaf
  | 0 => []
  | n + 1 => a ++ repeatLeaves a n

/-- A flat type's leaves. -/
def leaves (P : Program) : Nat → TypeId → Option (List Leaf)
  | 0, _ => .none
  | n + 1, t => match P.underlying t with
    | some .bool => some [.none]
    | some (.int k) => some [some k]
    | some (.struct fs) => match fieldLeaves P (leaves P n) 0 fs.toList with
      | some ls => if ls.length = P.cellsOf t then some ls else .none
      | .none => .none
    | some (.array m e) => match leaves P n e with
      | some a => if a.length = P.cellsOf e ∧ m * P.cellsOf e = P.cellsOf t then some (repeatLeaves a m) else .none
      | .none => .none
    | _ => .none

end
end Go.Proofs.YtpkamfbjgdmmoaaGreat
end

section
namespace Go.Proofs.YtpkamfbjgdmmoaaGreat
open Go.ChangeShapes Go.WideShapes Go.ChangeAt Go.RowKit Go.Deep
set_option linter.unusedVariables false

/-- A slice of integers reads as these. -/
def RdI (w : World) (v : Value) (l : List Int) : Prop :=
  (v = .slice none 0 0 ∧ l = []) ∨ ∃ a cap, v = .slice (some a) l.length cap ∧ l.length ≤ cap ∧ ∀ i, i < l.length → w.cell? (a.add i) = some (.int .i64 (l.getD i 0))
theorem cell_blockI {w : World} {a : Addr} {v : Value} (h : w.cell? a = some v) : a.block < w.heap.size := by
  by_cases hh : a.block < w.heap.size
  · exact hh
  · simp [World.cell?, Array.getElem?_eq_none (Nat.le_of_not_lt hh)] at h
theorem RdI.below {w w' : World} {v : Value} {l : List Int} (h : RdI w v l) (hb : Below w.heap.size w w') : RdI w' v l := by
  rcases h with h | ⟨a, cap, hv, hc, hcell⟩
  · exact .inl h
  · refine .inr ⟨a, cap, hv, hc, fun i hi => ?_⟩
    have hl := cell_blockI (hcell i hi)
    rw [hb.cell hl]; exact hcell i hi
theorem RdI.lenOf {w : World} {v : Value} {l : List Int} (h : RdI w v l) : ∃ ao cap, v = .slice ao l.length cap := by
  rcases h with ⟨rfl, rfl⟩ | ⟨a, cap, rfl, -⟩
  · exact ⟨_, _, rfl⟩
  · exact ⟨_, _, rfl⟩
theorem RdI.at {w : World} {ao : Option Addr} {n cap : Nat} {l : List Int} (h : RdI w (.slice ao n cap) l) {i : Nat} (hi : i < l.length) : ∃ a, ao = some a ∧ w.cell? (a.add i) = some (.int .i64 (l.getD i 0)) := by
  rcases h with ⟨hv, rfl⟩ | ⟨a, cap', hv, hc, hcell⟩
  · simp at hi
  · injection hv with h1 h2 h3
    exact ⟨a, h1, hcell i hi⟩

section
variable {H : Type} {enc : TypeId × Value → H} {P : Program} {w : World} {base : Nat} {held : Bool}
end
end Go.Proofs.YtpkamfbjgdmmoaaGreat
end

section
namespace Go.Proofs.YtpkamfbjgdmmoaaGreat
open Go.RowKit Go.Maps Go.Shelf
set_option linter.unusedVariables false
set_option linter.unusedSimpArgs false

/-- The accounts of some balances. -/
def accL (l : List Int) : Acc := fun k => (l.getD k 0, 0)
def newOk (l : List Int) : Prop := l.length ≤ 10 ∧ (∀ k, k < l.length → isBal (l.getD k 0)) ∧ sumTo (accL l) 10 ≤ 1073741824
theorem accL_nil : accL [] = acc0 := by funext k; simp [accL, acc0]
theorem take_getD {l : List Int} {k j : Nat} : (l.take k).getD j 0 = if j < k then l.getD j 0 else 0 := by
  by_cases h : j < k
  · rw [if_pos h, List.getD_eq_getElem?_getD, List.getD_eq_getElem?_getD, List.getElem?_take_of_lt h]
  · rw [if_neg h, List.getD_eq_getElem?_getD, List.getElem?_eq_none (by simp; omega)]; rfl
theorem accL_step (l : List Int) (k : Nat) : upd (accL (l.take k)) k (l.getD k 0, (accL (l.take k) k).2) = accL (l.take (k + 1)) := by
  funext j
  by_cases e : j = k
  · subst e
    rw [upd_same]
    show (l.getD j 0, (0 : Int)) = ((l.take (j + 1)).getD j 0, 0)
    rw [take_getD, if_pos (by omega)]
  · rw [upd_other _ _ e]
    show ((l.take k).getD j 0, (0 : Int)) = ((l.take (k + 1)).getD j 0, 0)
    rw [take_getD, take_getD]
    by_cases h : j < k
    · rw [if_pos h, if_pos (by omega)]
    · rw [if_neg h, if_neg (by omega)]
theorem sum_accL_step (l : List Int) {k : Nat} (hk : k < 10) : sumTo (accL (l.take (k + 1))) 10 = sumTo (accL (l.take k)) 10 + l.getD k 0 := by
  rw [← accL_step, sumTo_upd, if_pos hk]
  have : both (accL (l.take k)) k = 0 := by unfold both accL; rw [take_getD, if_neg (by omega)]; rfl
  rw [this]
  show sumTo (accL (l.take k)) 10 + (l.getD k 0 + 0 - 0) = _
  omega
theorem sum_accL_mono {l : List Int} (h : ∀ k, k < l.length → isBal (l.getD k 0)) (k : Nat) : sumTo (accL (l.take k)) 10 ≤ sumTo (accL l) 10 := by
  have key : ∀ n, sumTo (accL (l.take k)) n ≤ sumTo (accL l) n := by
    intro n
    induction n with
    | zero => exact Int.le_refl _
    | succ n ih =>
      rw [sumTo, sumTo]
      have : both (accL (l.take k)) n ≤ both (accL l) n := by
        unfold both accL
        rw [take_getD]
        by_cases c : n < l.length
        · have := (h n c).1; split <;> simp only <;> omega
        · have e : l.getD n 0 = 0 := by rw [List.getD_eq_getElem?_getD, List.getElem?_eq_none (by omega)]; rfl
          rw [e]; split <;> simp
      omega
  exact key 10
theorem LdAt.start {N g gl : Nat} {w1 w2 : World} (ho : GrOwn codI 209 N gl [] w1) (hN : N ≤ w1.heap.size) (hg : g = w1.heap.size) (hw : w2 = w1.alloc (.cells (lcells acc0 gl).toArray 148)) : LdAt N g gl acc0 [] w2 ∧ Below N w1 w2 := by
  obtain ⟨F, h1, h2⟩ := ho
  have hB : Below w1.heap.size w1 w2 := by rw [hw]; exact (Below.refl _ w1).alloc (Nat.le_refl _) _
  refine ⟨⟨by rw [hw, hg]; exact World.alloc_heap_new _ _, ⟨F, h1.keep (Grow.of_below hB) (fun k hk => hB.block k (h1.2.2.1 k hk)), fun k hk => ⟨h2 k hk, fun e => by have := h1.2.2.1 k hk; omega⟩⟩, by omega, AccOk.zero, by simp⟩, hB.mono hN⟩
set_option maxRecDepth 100000 in
set_option maxHeartbeats 4000000 in
theorem ledger_New (v : Value) (l : List Int) (w : World) (hr : RdI w v l) (hm : l.length ≤ maxLen) : Calls Tryz.prog 28 #[v] w fun e w' => Below w.heap.size w w' ∧ ((newOk l ∧ ∃ g, e = .returned (.tuple #[.pointer (some ⟨g, 0, none⟩), .int .i64 0]) ∧ ∃ gl, LdAt w.heap.size g gl (accL l) [] w') ∨ (¬ newOk l ∧ e = .returned (.tuple #[.pointer none, .int .i64 1]))) := by
  obtain ⟨ao, cap, rfl⟩ := hr.lenOf
  obtain ⟨L, hL⟩ : ∃ L, L = l.length := ⟨_, rfl⟩
  rw [← hL] at hr hm ⊢
  have HR := Lib.hid (And.intro hr hL)
  clear hr hm hL
  go_enter Tryz.func28, Tryz.ntmps28
  by_cases c0 : (10 : Int) < (L : Int)
  · go_wp2_with fail
    exact bodyPost_ret (v := .tuple #[.pointer none, .int .i64 1]) (by simp [results, Tryz.results28, go_sem]) rfl ⟨Below.refl _ _, .inr ⟨fun h => by have := h.1; have := HR.out.2; omega, rfl⟩⟩
  have hL10 : L ≤ 10 := by omega
  go_wp2_with (first
    | (go_at_call 70; refine (grid_New_own_I w).mono ?_; rintro e w1 ⟨gl, rfl, ho1, hb1⟩; have H1 := Lib.hid (And.intro ho1 hb1); clear ho1 hb1)
    | fail)
  obtain ⟨w2, hw2⟩ : ∃ w2, w2 = w1.alloc (.cells #[.int .i64 0, .int .i64 0, .int .i64 0, .int .i64 0, .int .i64 0, .int .i64 0, .int .i64 0, .int .i64 0, .int .i64 0, .int .i64 0, .int .i64 0, .int .i64 0, .int .i64 0, .int .i64 0, .int .i64 0, .int .i64 0, .int .i64 0, .int .i64 0, .int .i64 0, .int .i64 0, .pointer (some ⟨gl, 0, none⟩)] 148) := ⟨_, rfl⟩
  obtain ⟨g, hg⟩ : ∃ g, g = w1.heap.size := ⟨_, rfl⟩
  obtain ⟨hl0, hb0⟩ := LdAt.start H1.out.1 H1.out.2.size hg (hw2.trans rfl)
  rw [← hw2, ← hg]
  have H2 := Lib.hid (And.intro hl0 (H1.out.2.trans hb0))
  clear hw2 hg hl0 hb0 H1
  go_loopw [15] (fun i wr => ∃ k : Nat, k ≤ L ∧ i = .int .i64 k ∧ (∀ j, j < k → isBal (l.getD j 0)) ∧ LdAt w.heap.size g gl (accL (l.take k)) [] wr ∧ Below w.heap.size w wr) (fun i _ => L - (intOf i).toNat)
  case atStart => exact ⟨0, by omega, rfl, fun j hj => by omega, by rw [List.take_zero, accL_nil]; exact H2.out.1, H2.out.2⟩
  case round =>
    obtain ⟨k, hk, rfl, hbs, hld, hbl⟩ := hrel
    have HS := Lib.hid (And.intro hbs (And.intro hld hbl))
    by_cases hlt : k < L
    · have hlt' : (k : Int) < L := by omega
      have hk10 : (k : Int) < 10 := by omega
      obtain ⟨a, rfl, ca⟩ := (HR.out.1.below hbl).at (show k < l.length by rw [← HR.out.2]; exact hlt)
      obtain ⟨n, hn⟩ : ∃ n, n = l.getD k 0 := ⟨_, rfl⟩
      rw [← hn] at ca
      obtain ⟨s, hs⟩ : ∃ s, s = sumTo (accL (l.take k)) 10 := ⟨_, rfl⟩
      have hs0 : 0 ≤ s ∧ s ≤ 1073741824 := by rw [hs]; exact hld.ok.part (Nat.le_refl _)
      have hiss := ledger_Issued hld
      rw [← hs] at hiss
      have HI := Lib.hid hiss
      have hs1 : sumTo (accL (l.take (k + 1))) 10 = s + n := by rw [hs, hn]; exact sum_accL_step l (by omega)
      have HN := Lib.hid (And.intro hn hs1)
      clear hiss hs hn hs1 hbs hld hbl
      by_cases hbal : isBal n
      · have hbal' := hbal
        unfold isBal at hbal'
        have hd : decide (0 ≤ n ∧ n ≤ 1073741824) = true := decide_eq_true hbal'
        obtain ⟨sn, hsn⟩ : ∃ sn, sn = s + n := ⟨_, rfl⟩
        have hn2 : IntKind.i64.wrap (s + n) = sn := by rw [hsn]; exact IntWalk.i64_in _ (by omega)
        by_cases hov : 1073741824 < sn
        · have hd2 : decide (0 ≤ sn ∧ sn ≤ 1073741824) = false := decide_eq_false (by omega)
          have hbad : ¬ newOk l := fun h => by have h1 := sum_accL_mono h.2.1 (k + 1); have h2 := HN.out.2; have h3 := h.2.2; omega
          have HD := Lib.hid (And.intro hd (And.intro hd2 hbad))
          clear hbal hbal' hd hsn hd2 hov hbad hs0
          have tok : True := trivial
          go_wp2_with (first
            | (go_at_call 71; have _t := tok; refine (bound_Balance n _).mono ?_; rw [HD.out.1]; rintro e w' ⟨rfl, hw⟩; rw [hw]; clear hw w' tok)
            | (go_at_call 72; refine HI.out.mono ?_; rintro e w3 ⟨rfl, hb⟩; have H3 := Lib.hid hb; clear hb)
            | (go_at_call 71; refine (bound_Balance sn _).mono ?_; rw [HD.out.2.1]; rintro e w' ⟨rfl, hw⟩; rw [hw]; clear hw w')
            | fail)
          exact bodyPost_ret (v := .tuple #[.pointer none, .int .i64 1]) (by simp [results, Tryz.results28, go_sem]) rfl ⟨HS.out.2.2.trans (H3.out.mono HS.out.2.2.size), .inr ⟨HD.out.2.2, rfl⟩⟩
        · have hd2 : decide (0 ≤ sn ∧ sn ≤ 1073741824) = true := decide_eq_true (by omega)
          have hok2 : AccOk (upd (accL (l.take k)) k (n, (accL (l.take k) k).2)) := by
            have hld := HS.out.2.1
            have h1 := HN.out.2
            rw [HN.out.1, ← accL_step] at h1
            rw [HN.out.1] at hsn hbal'
            rw [HN.out.1]
            refine ⟨fun j => ?_, fun j => ?_, by omega⟩
            · by_cases e : j = k
              · subst e; rw [upd_same]; exact hbal'.1
              · rw [upd_other _ _ e]; exact hld.ok.free j
            · by_cases e : j = k
              · subst e; rw [upd_same]; exact hld.ok.held j
              · rw [upd_other _ _ e]; exact hld.ok.held j
          have hpay : ∀ w1, LdAt w.heap.size g gl (accL (l.take k)) [] w1 → LdAt w.heap.size g gl (accL (l.take (k + 1))) [] (w1.setCell ⟨g, k * 2, none⟩ (.int .i64 n)) ∧ Below w.heap.size w1 (w1.setCell ⟨g, k * 2, none⟩ (.int .i64 n)) := fun w1 h1 => by
            have := h1.setFree (a := k) (by omega) n hok2
            refine ⟨?_, this.2⟩
            rw [← accL_step, ← HN.out.1]; exact this.1
          have HD := Lib.hid (And.intro hd (And.intro hd2 hbal))
          have HP := Lib.hid hpay
          clear hbal hbal' hd hsn hd2 hov hs0 hok2 hpay
          have tok : True := trivial
          go_wp2_with (first
            | (go_at_call 71; have _t := tok; refine (bound_Balance n _).mono ?_; rw [HD.out.1]; rintro e w' ⟨rfl, hw⟩; rw [hw]; clear hw w' tok)
            | (go_at_call 72; refine HI.out.mono ?_; rintro e w3 ⟨rfl, hb⟩; have h3 := HS.out.2.1.below hb; have hf3 := h3.frozen (k * 2); have hc3 := h3.free (k := k) (by omega); have H3 := Lib.hid (And.intro h3 (hb.mono HS.out.2.2.size)); clear hb h3)
            | (go_at_call 71; refine (bound_Balance sn _).mono ?_; rw [HD.out.2.1]; rintro e w' ⟨rfl, hw⟩; rw [hw]; clear hw w')
            | fail)
          go_roundw
          case rel =>
            refine ⟨k + 1, by omega, by go_num, fun j hj => ?_, (HP.out _ H3.out.1).1, HS.out.2.2.trans (H3.out.2.trans (HP.out _ H3.out.1).2)⟩
            by_cases e : j = k
            · subst e; rw [← HN.out.1]; exact HD.out.2.2
            · exact HS.out.1 j (by omega)
          case measure => simp [intOf]; omega
      · have hd : decide (0 ≤ n ∧ n ≤ 1073741824) = false := by unfold isBal at hbal; exact decide_eq_false hbal
        have hbad : ¬ newOk l := fun h => hbal (by rw [HN.out.1]; exact h.2.1 k (by rw [← HR.out.2]; exact hlt))
        have HD := Lib.hid (And.intro hd hbad)
        clear hbal hd hbad hs0
        go_wp2_with (first
          | (go_at_call 71; refine (bound_Balance n _).mono ?_; rw [HD.out.1]; rintro e w' ⟨rfl, hw⟩; rw [hw]; clear hw w')
          | fail)
        exact bodyPost_ret (v := .tuple #[.pointer none, .int .i64 1]) (by simp [results, Tryz.results28, go_sem]) rfl ⟨HS.out.2.2, .inr ⟨HD.out.2, rfl⟩⟩
    · have hge : ¬ (k : Int) < L := by omega
      have hkl : l.take k = l := List.take_of_length_le (by have := HR.out.2; omega)
      have hfin : newOk l ∧ LdAt w.heap.size g gl (accL l) [] wr := by
        rw [hkl] at hld
        exact ⟨⟨by have := HR.out.2; omega, fun j hj => hbs j (by have := HR.out.2; omega), hld.ok.all⟩, hld⟩
      have HF := Lib.hid hfin
      clear hfin hkl hbs hld hbl
      go_wp2_with fail
      exact bodyPost_ret (v := .tuple #[.pointer (some ⟨g, 0, none⟩), .int .i64 0]) (by simp [results, Tryz.results28, go_sem]) rfl ⟨HS.out.2.2, .inl ⟨HF.out.1, g, rfl, gl, HF.out.2⟩⟩
end Go.Proofs.YtpkamfbjgdmmoaaGreat
end

section
namespace Go.Proofs.YtpkamfbjgdmmoaaGreat
open Go.RowKit Go.Maps
set_option linter.unusedVariables false
set_option linter.unusedSimpArgs false

theorem run_makeV {P : Program} (t e : TypeId) (n s by_ : Nat) (ht : P.underlying t = some (.slice e)) (hi : (P.info? e).map (fun i => (i.size, i.bytes)) = some (s, by_)) (hz : ((P.info? e).bind (·.zero)).isSome = true) (hz2 : ((P.info? e).bind (·.zero)).map (fun z => decide (z.cells.size = s)) = some true) (hb : by_ * n ≤ 1000000) (hn : n ≤ 1000000) :
    ∃ C : Array Value, C.size = n * s ∧ ∀ w : World, (Instr.makeSlice t (.int .i64 (n : Int)) (.int .i64 (n : Int))).run P w = .ok (.slice (some ⟨w.heap.size, 0, none⟩) n n) (w.alloc (.cells C e)) := by
  obtain ⟨i, hi0, hi1⟩ := Option.map_eq_some_iff.1 hi
  simp only [Prod.mk.injEq] at hi1
  obtain ⟨z, hz0⟩ := Option.isSome_iff_exists.1 hz
  rw [hi0] at hz0
  have hz1 : i.zero = some z := by simpa using hz0
  refine ⟨madeCells z.cells (n * i.size), by simp [madeCells, hi1.1], fun w => ?_⟩
  have hbb : (i.bytes : Int) * (n : Int) ≤ 281474976710656 := by
    rw [hi1.2]
    have : ((by_ * n : Nat) : Int) ≤ 281474976710656 := by omega
    rwa [Int.natCast_mul] at this
  have := run_make (P := P) w t e i z ht hi0 hz1 .i64 .i64 n n (by omega) (by omega) hbb (by omega)
  simpa using this
set_option maxRecDepth 100000 in
set_option maxHeartbeats 4000000 in
theorem ref11_New (w : World) : Calls Tryz.prog 34 #[] w fun e w' => ∃ p, e = .returned (.pointer p) ∧ Below w.heap.size w w' := by
  obtain ⟨C1, -, h1⟩ := run_makeV (P := Tryz.prog) 166 303 12 7 56 Tryz.underlying166 (by kernel_rfl) (by kernel_rfl) (by kernel_rfl) (by decide) (by decide)
  obtain ⟨C2, -, h2⟩ := run_makeV (P := Tryz.prog) 167 306 40 9 88 Tryz.underlying167 (by kernel_rfl) (by kernel_rfl) (by kernel_rfl) (by decide) (by decide)
  have h1' : ∀ w : World, (Instr.makeSlice 166 (.int .i64 12) (.int .i64 12)).run Tryz.prog w = .ok (.slice (some ⟨w.heap.size, 0, none⟩) 12 12) (w.alloc (.cells C1 303)) := h1
  have h2' : ∀ w : World, (Instr.makeSlice 167 (.int .i64 40) (.int .i64 40)).run Tryz.prog w = .ok (.slice (some ⟨w.heap.size, 0, none⟩) 40 40) (w.alloc (.cells C2 306)) := h2
  clear h1 h2
  go_enter Tryz.func34, Tryz.ntmps34
  go_upto_region 1 with fail
  go_region
  all_goals go_wp2_with fail
  all_goals go_ret
  all_goals exact ⟨_, rfl, (((((Below.refl _ w).drew).alloc (by show w.heap.size ≤ w.heap.size; omega) _).alloc (by rw [World.size_alloc]; show w.heap.size ≤ w.heap.size + 1; omega) _).alloc (by rw [World.size_alloc, World.size_alloc]; show w.heap.size ≤ w.heap.size + 1 + 1; omega) _)⟩
/-- The document's ledger, as far as it is looked at: ten accounts of something. -/
structure R6 (w0 : World) (lb ab : Nat) (w : World) : Prop where
  l : w.heap[lb]? = some (.cells #[.slice (some ⟨ab, 0, none⟩) 10 10] 157 (0, 0))
  a : ∃ C, w.heap[ab]? = some (.cells C 160 (0, 0)) ∧ C.size = 30
  ll : w0.heap.size ≤ lb
  la : w0.heap.size ≤ ab
  ne : lb ≠ ab
  old : Below w0.heap.size w0 w
theorem R6.below {w0 w w' : World} {lb ab : Nat} (h : R6 w0 lb ab w) (hb : Below w.heap.size w w') : R6 w0 lb ab w' := by
  obtain ⟨C, h1, h2⟩ := h.a
  exact ⟨(hb.block lb (Array.getElem?_eq_some_iff.1 h.l).1).trans h.l, ⟨C, (hb.block ab (Array.getElem?_eq_some_iff.1 h1).1).trans h1, h2⟩, h.ll, h.la, h.ne, h.old.trans (hb.mono h.old.size)⟩
theorem R6.set {w0 w : World} {lb ab i : Nat} {v : Value} (h : R6 w0 lb ab w) : R6 w0 lb ab (w.setCell ⟨ab, i, none⟩ v) := by
  obtain ⟨C, h1, h2⟩ := h.a
  refine ⟨(Below.heap_setCell _ _ _ lb h.ne).trans h.l, ⟨C.setIfInBounds i v, ?_, by simp [h2]⟩, h.ll, h.la, h.ne, h.old.trans ⟨rfl, rfl, rfl, by simp [World.setCell], fun k hk => Below.heap_setCell _ _ _ k ?_⟩⟩
  · simp [World.setCell, Array.getElem?_modify, h1]
  · have := h.la; show k ≠ ab; omega
theorem R6.drew {w0 w : World} {lb ab : Nat} (h : R6 w0 lb ab w) : R6 w0 lb ab w.drew := h.below (Below.refl _ w).drew
set_option maxRecDepth 100000 in
set_option maxHeartbeats 4000000 in
theorem ref6_New (v : Value) (l : List Int) (w : World) (hr : RdI w v l) (hl : l.length ≤ 10) : Calls Tryz.prog 31 #[v] w fun e w' => ∃ p c, e = .returned (.tuple #[.pointer p, .int .i64 c]) ∧ Below w.heap.size w w' := by
  obtain ⟨C, hC, h1⟩ := run_makeV (P := Tryz.prog) 155 160 10 3 40 Tryz.underlying155 (by kernel_rfl) (by kernel_rfl) (by kernel_rfl) (by decide) (by decide)
  have h1' : ∀ w : World, (Instr.makeSlice 155 (.int .i64 10) (.int .i64 10)).run Tryz.prog w = .ok (.slice (some ⟨w.heap.size, 0, none⟩) 10 10) (w.alloc (.cells C 160)) := h1
  clear h1
  obtain ⟨ao, cap, rfl⟩ := hr.lenOf
  obtain ⟨L, hL⟩ : ∃ L, L = l.length := ⟨_, rfl⟩
  rw [← hL] at hr hl ⊢
  have HR := Lib.hid (And.intro hr hL)
  clear hr hL
  have c0 : ¬ (10 : Int) < (L : Int) := by omega
  obtain ⟨W0, hW0⟩ : ∃ W0, W0 = (w.alloc (.cells C 160)).alloc (.cells #[.slice (some ⟨w.heap.size, 0, none⟩) 10 10] 157) := ⟨_, rfl⟩
  obtain ⟨ab, hab⟩ : ∃ ab, ab = w.heap.size := ⟨_, rfl⟩
  obtain ⟨lb, hlb⟩ : ∃ lb, lb = ab + 1 := ⟨_, rfl⟩
  have h6 : R6 w lb ab W0 := by
    refine ⟨?_, ⟨C, ?_, hC⟩, by omega, by omega, by omega, by rw [hW0]; exact ((Below.refl _ w).alloc (Nat.le_refl _) _).alloc (by simp) _⟩
    · have := World.alloc_heap_new (w.alloc (.cells C 160)) (.cells #[.slice (some ⟨w.heap.size, 0, none⟩) 10 10] 157)
      rw [World.size_alloc] at this
      rw [hW0, hlb, hab]; exact this
    · rw [hW0, hab]; exact (Below.heap_alloc _ _ _ (by simp)).trans (World.alloc_heap_new w _)
  have H6 := Lib.hid h6
  have HW0 := Lib.hid (And.intro hW0 (And.intro hab hlb))
  clear hW0 h6 hC hab hlb
  go_enter Tryz.func31, Tryz.ntmps31
  go_upto_region 4 with fail
  rw [← HW0.out.1, ← HW0.out.2.1, ← HW0.out.2.2]
  go_wp2_with fail
  go_loopw [5, 6] (fun z i wr => ∃ (k : Nat) (zz : Int), k ≤ L ∧ z = .int .i64 zz ∧ i = .int .i64 k ∧ R6 w lb ab wr) (fun _ i _ => L - (intOf i).toNat)
  case atStart => exact ⟨0, 0, by omega, rfl, rfl, H6.out⟩
  case round =>
    obtain ⟨k, zz, hk, rfl, rfl, h6⟩ := hrel
    by_cases hlt : k < L
    · have hlt' : (k : Int) < L := by omega
      obtain ⟨a, rfl, ca⟩ := (HR.out.1.below h6.old).at (show k < l.length by rw [← HR.out.2]; exact hlt)
      obtain ⟨x, hx⟩ : ∃ x, x = l.getD k 0 := ⟨_, rfl⟩
      have hca : ∀ W, Below w.heap.size w W → W.cell? (a.add k) = some (.int .i64 x) := fun W hW => by
        obtain ⟨a', hv, ca'⟩ := (HR.out.1.below hW).at (show k < l.length by rw [← HR.out.2]; exact hlt)
        injection hv with hv
        subst hv
        rw [hx]; exact ca'
      have HCA := Lib.hid hca
      clear hca
      rw [← hx] at ca
      have h6k := h6
      obtain ⟨C6, ha6, hs6⟩ := h6.a
      have cl : wr.cell? ⟨lb, 0, none⟩ = some (.slice (some ⟨ab, 0, none⟩) 10 10) := by rw [World.cell?, h6.l]; rfl
      have hk10 : (k : Int) < 10 := by omega
      have hk3 : k * 3 < C6.size := by omega
      have cc : ∃ v0, wr.cell? ⟨ab, k * 3, none⟩ = some v0 := ⟨C6[k * 3], by rw [World.cell?, ha6]; simp [hk3]⟩
      obtain ⟨v0, cc⟩ := cc
      have cf : wr.frozen? ⟨ab, k * 3, none⟩ = false := by simp [World.frozen?, ha6]
      have HX := Lib.hid h6k
      clear h6 h6k ha6 hs6 hk3 hx
      by_cases hb : x < 0
      · go_wp2_with fail
        exact bodyPost_ret (v := .tuple #[.pointer none, .int .i64 1]) (by simp [results, Tryz.results31, go_sem]) rfl (by first | exact ⟨_, _, rfl, HX.out.old⟩ | exact ⟨⟨_, _, rfl⟩, HX.out.old⟩)
      · by_cases hb2 : 1073741824 < x
        · go_wp2_with fail
          exact bodyPost_ret (v := .tuple #[.pointer none, .int .i64 1]) (by simp [results, Tryz.results31, go_sem]) rfl (by first | exact ⟨_, _, rfl, HX.out.old⟩ | exact ⟨⟨_, _, rfl⟩, HX.out.old⟩)
        · go_upto_region 10 with fail
          go_still_tail 11, (by kernel_rfl)
          change wpList _ _ _ _ _ wr.drew
          have hs := HX.out.drew.set (i := k * 3) (v := .int .i64 x)
          have ca2 := HCA.out _ hs.old
          have ca3 := HCA.out _ (HX.out.set (i := k * 3) (v := .int .i64 x)).old
          have ca4 := HCA.out _ (HX.out.set (i := k * 3) (v := .int .i64 x)).drew.old
          have HS2 := Lib.hid (HX.out.set (i := k * 3) (v := .int .i64 x)).drew
          have HS := Lib.hid hs
          clear hs
          go_wp2_with fail
          go_roundw
          case rel => exact ⟨k + 1, _, by omega, rfl, by go_num, HS2.out⟩
          case measure => simp [intOf]; omega
    · have hge : ¬ (k : Int) < L := by omega
      by_cases hz : 1073741824 < zz
      · go_wp2_with fail
        exact bodyPost_ret (v := .tuple #[.pointer none, .int .i64 1]) (by simp [results, Tryz.results31, go_sem]) rfl (by first | exact ⟨_, _, rfl, h6.old⟩ | exact ⟨⟨_, _, rfl⟩, h6.old⟩)
      · go_wp2_with fail
        exact bodyPost_ret (v := .tuple #[.pointer (some ⟨lb, 0, none⟩), .int .i64 0]) (by simp [results, Tryz.results31, go_sem]) rfl (by first | exact ⟨_, _, rfl, h6.old⟩ | exact ⟨⟨_, _, rfl⟩, h6.old⟩)
theorem ref10_IsR (t : Trk) (w : World) : Calls Tryz.prog 81 #[.agg (trkR.f t).toArray] w fun e w' => e = .returned (.bool (trackB t)) ∧ Below w.heap.size w w' := ref10_Is t w
set_option maxRecDepth 100000 in
set_option maxHeartbeats 4000000 in
theorem ref12_New {ts : List Trk} {w : World} {b cap : Nat} (hr : w.rangeAt b 0 (trkR.all ts)) (hb : b < w.heap.size) (hc : ts.length ≤ cap) (hl : ts.length ≤ 100) :
    Calls Tryz.prog 33 #[.slice (some ⟨b, 0, none⟩) ts.length cap] w fun e w' => Below w.heap.size w w' ∧ ((newB ts = true ∧ ∃ r, e = .returned (.tuple #[.pointer (some ⟨r, 0, none⟩), .int .i64 0])) ∨ (newB ts = false ∧ e = .returned (.tuple #[.pointer none, .int .i64 1]))) := by
  obtain ⟨n, hn⟩ : ∃ n, n = ts.length := ⟨_, rfl⟩
  rw [← hn] at hc hl ⊢
  have HR := Lib.hid (And.intro hr (And.intro hb (And.intro hc hn)))
  clear hr hb hc
  by_cases hl1 : n < 1
  · have hnb : newB ts = false := by unfold newB; rw [← hn, decide_eq_false (by omega)]; rfl
    have hi1 : (n : Int) < 1 := by omega
    have HNB := Lib.hid hnb
    clear hl1 hn hnb
    go_enter Tryz.func33, Tryz.ntmps33
    go_wp2_with fail
    exact bodyPost_ret (v := .tuple #[.pointer none, .int .i64 1]) (by simp [results, Tryz.results33, go_sem]) rfl ⟨Below.refl _ _, .inr ⟨HNB.out, rfl⟩⟩
  by_cases hl4 : 4 < n
  · have hnb : newB ts = false := by unfold newB; rw [← hn, decide_eq_false (by omega)]; rfl
    have hi1 : ¬ (n : Int) < 1 := by omega
    have hi2 : (4 : Int) < n := by omega
    have HNB := Lib.hid hnb
    clear hl1 hl4 hn hnb
    go_enter Tryz.func33, Tryz.ntmps33
    go_wp2_with fail
    exact bodyPost_ret (v := .tuple #[.pointer none, .int .i64 1]) (by simp [results, Tryz.results33, go_sem]) rfl ⟨Below.refl _ _, .inr ⟨HNB.out, rfl⟩⟩
  have hlen : 1 ≤ n ∧ n ≤ 4 := by omega
  have hi1 : ¬ (n : Int) < 1 := by omega
  have hi2 : ¬ (4 : Int) < n := by omega
  have hn4 : n ≤ 4 := hlen.2
  have HLN := Lib.hid (And.intro hlen hn)
  clear hlen hn hl1 hl4
  go_enter Tryz.func33, Tryz.ntmps33
  go_wp2_with fail
  go_loopw [4] (fun i wr => ∃ k : Nat, k ≤ n ∧ i = .int .i64 k ∧ (ts.take k).all trackB = true ∧ Below w.heap.size w wr) (fun i _ => n - (intOf i).toNat)
  case atStart => exact ⟨0, by omega, rfl, by simp, Below.refl _ _⟩
  case round =>
    obtain ⟨k, hk, rfl, hall, hbl⟩ := hrel
    by_cases hlt : k < n
    · have hlt' : (k : Int) < n := by omega
      have hkl : k < ts.length := by rw [← HLN.out.2]; exact hlt
      have hrk : wr.rangeAt b (k * 18) (trkR.f ts[k]) := fun j u hj => by
        have hj18 : j < 18 := by have := (List.getElem?_eq_some_iff.1 hj).1; rwa [trkR.len] at this
        have := rangeAt_block HR.out.1 (hbl.block b HR.out.2.1) (k * 18 + j) u (by rw [show k * 18 + j = k * trkR.k + j from rfl, trkR.all_at hkl hj18]; exact hj)
        rwa [Nat.zero_add] at this
      have hts : (ts.take (k + 1)).all trackB = ((ts.take k).all trackB && trackB ts[k]) := by rw [List.take_succ_eq_append_getElem hkl, List.all_append]; simp
      have hna : trackB ts[k] = false → ts.all trackB = false := fun h => by
        rw [Bool.eq_false_iff]
        intro hall
        rw [List.all_eq_true] at hall
        rw [hall _ (List.getElem_mem hkl)] at h
        cases h
      obtain ⟨t, ht⟩ : ∃ t, t = ts[k] := ⟨_, rfl⟩
      rw [← ht] at hrk hts hna
      have his := ref10_IsR t wr
      obtain ⟨q, hq⟩ : ∃ q, q = trackB t := ⟨_, rfl⟩
      rw [← hq] at his hts hna
      have HRK := Lib.hid hrk
      have HA := Lib.hid (And.intro hall (And.intro hts hna))
      have HB := Lib.hid hbl
      have HIS := Lib.hid his
      clear hrk hts hna ht his hq hall hbl hkl
      cases q
      · go_wp2_with (first
          | (refine wpl_loadR (r := trkR) (t := t) (b := b) (k := k * 18) _ rfl rfl rfl HRK.out ?_)
          | (go_at_call 81; refine HIS.out.mono ?_; rintro e w2 ⟨rfl, hb⟩; have H2 := Lib.hid hb; clear hb)
          | fail)
        exact bodyPost_ret (v := .tuple #[.pointer none, .int .i64 1]) (by simp [results, Tryz.results33, go_sem]) rfl ⟨HB.out.trans (H2.out.mono HB.out.size), .inr ⟨by unfold newB; rw [HA.out.2.2 (by first | rfl | trivial), Bool.and_false], rfl⟩⟩
      · go_wp2_with (first
          | (refine wpl_loadR (r := trkR) (t := t) (b := b) (k := k * 18) _ rfl rfl rfl HRK.out ?_)
          | (go_at_call 81; refine HIS.out.mono ?_; rintro e w2 ⟨rfl, hb⟩; have H2 := Lib.hid hb; clear hb)
          | fail)
        go_roundw
        case rel => exact ⟨k + 1, by omega, by go_num, by rw [HA.out.2.1, HA.out.1]; rfl, HB.out.trans (H2.out.mono HB.out.size)⟩
        case measure => simp [intOf]; omega
    · have hge : ¬ (k : Int) < n := by omega
      have hkn : k = n := by omega
      subst hkn
      have hfull : ts.all trackB = true := by rw [HLN.out.2, List.take_length] at hall; exact hall
      have hrd : RdR trkR wr (.slice (some ⟨b, 0, none⟩) k cap) ts := by rw [HLN.out.2]; exact .inr ⟨b, 0, cap, rfl, by rw [← HLN.out.2]; exact HR.out.2.2.1, Nat.lt_of_lt_of_le HR.out.2.1 hbl.size, rangeAt_block HR.out.1 (hbl.block b HR.out.2.1)⟩
      have hown : OwnR trkR wr.heap.size (.slice (some ⟨wr.heap.size, 0, none⟩) 0 0) [] (wr.alloc (.cells #[] 26)) := OwnR.none (r := trkR) (World.alloc_heap_new wr _) (Nat.le_refl _)
      have hnb : newB ts = true := by unfold newB; rw [hfull, ← HLN.out.2, decide_eq_true HLN.out.1]; rfl
      have HRD := Lib.hid (hrd.below ((Below.refl _ wr).alloc (Nat.le_refl _) (.cells #[] 26)))
      have HO := Lib.hid hown
      have HBL := Lib.hid hbl
      have HNB := Lib.hid hnb
      clear hall hbl hfull hnb hk hlt hrd hown
      go_wp2_with (first
        | (refine wpl_noneR (r := trkR) rfl rfl ?_)
        | (refine wpl_appsR (r := trkR) (u := .slice (some ⟨b, 0, none⟩) k cap) (v := .slice (some ⟨wr.heap.size, 0, none⟩) 0 0) (xs := []) (ys := ts) rfl rfl rfl rfl HO.out HRD.out (by have := HLN.out; simp; omega) (by simp) ?_; intro v1 w1 ho hg hat; have H1 := Lib.hid (And.intro ho (And.intro hg hat)); obtain ⟨o1, n1, c1, rfl⟩ : ∃ o n c, v1 = .slice o n c := (by { obtain ⟨a, c, e⟩ := ho.lenOf; exact ⟨a, _, c, e⟩ }); clear ho hg hat)
        | fail)
      have hb1 : Below wr.heap.size wr w1 := Below.grown ((Below.refl _ wr).alloc (Nat.le_refl _) _) H1.out.2.1 (by simp) (fun j hj => by have hj' : some wr.heap.size = some j := hj; injection hj' with hj'; omega)
      have hb2 := HBL.out.trans (hb1.mono HBL.out.size)
      exact bodyPost_ret (v := .tuple #[.pointer (some ⟨w1.heap.size, 0, none⟩), .int .i64 0]) (by simp [results, Tryz.results33, go_sem]) rfl ⟨hb2.alloc hb2.size _, .inl ⟨HNB.out, _, rfl⟩⟩
end Go.Proofs.YtpkamfbjgdmmoaaGreat
end

section
namespace Go.Proofs.YtpkamfbjgdmmoaaGreat
open Go.RowKit Go.Maps Go.Shelf
attribute [local go_sem] Oper.semAt_some
set_option linter.unusedVariables false
set_option linter.unusedSimpArgs false

theorem IterF.iterI {P : Program} {α : Type} {n gf : Nat} {lb : Array Value} {encs : α → Array Value} {xs : List α} {G : FP} {w : World} (h : IterF P n gf lb encs xs G w) : Iter P n gf lb encs xs G w :=
  fun l B Ψ J Jx Φ0 W hg hG hΨ hΦ hJ hJx hr h0 => h l B Ψ J Jx Φ0 W hg hG (fun k hk => (hΨ k hk).1) hJ hJx hr h0
/-- Locks of any ledger whose row is told. -/
theorem locks_ofV (l : Value) (a : Int) (xs : List (Int × Int)) (hlen : xs.length ≤ 1000000) (w : World) (hrow : Calls Tryz.prog 114 #[l, .int .i64 a] w fun e w'' => ∃ f, e = .returned f ∧ Way Tryz.prog encs_I f xs w'' ∧ Below w.heap.size w w'') :
    Calls Tryz.prog 91 #[l, .int .i64 a] w fun e w' => ∃ bx v, e = .returned (.func (.func 132) #[] #[.pointer (some ⟨bx, 0, none⟩)]) ∧ Boxed w' bx 235 v ∧ OwnR pair_I (bx + 1) v xs w' ∧ w.heap.size ≤ bx ∧ Below w.heap.size w w' := by
  have HROW := Lib.hid hrow
  clear hrow
  go_enter Tryz.func91, Tryz.ntmps91
  go_wp2_with (first
    | (go_at_call 114; refine HROW.out.mono ?_; rintro e w1 ⟨f, rfl, hway, hb⟩; obtain ⟨gf, lb, rfl, hit⟩ := hway; have H1 := Lib.hid (And.intro hit hb); clear hit hb)
    | (go_at_call 113; refine (still_Now_I gf lb xs w1 H1.out.1.1 (H1.out.1.2 0).iterI hlen).mono ?_; rintro e w2 ⟨v, rfl, hbx, ho, hb⟩; have H2 := Lib.hid (And.intro hbx (And.intro ho hb)); clear hbx ho hb)
    | fail)
  go_ret
  exact ⟨_, v, rfl, H2.out.1, H2.out.2.1, H1.out.2.size, H1.out.2.trans (H2.out.2.2.mono H1.out.2.size)⟩
theorem ledger_LocksX {g N : Nat} {A : Acc} {M : Cls Int} {FL : FP} {w : World} (h : LdX g N A M FL w) {a : Int} (ha : (Lit.int .i64 a).wf = true) :
    Calls Tryz.prog 91 #[.pointer (some ⟨g, 0, none⟩), .int .i64 a] w fun e w' => ∃ bx v, e = .returned (.func (.func 132) #[] #[.pointer (some ⟨bx, 0, none⟩)]) ∧ Boxed w' bx 235 v ∧ OwnR pair_I (bx + 1) v (rowOf M a) w' ∧ w.heap.size ≤ bx ∧ Below w.heap.size w w' := by
  obtain ⟨gl, h0⟩ := h.at
  exact locks_ofV _ a _ (Nat.le_trans (row_length M a) (by have := h0.len; omega)) w (ledger_row h0 ha)
/-- A lock that is great enough. -/
def enough (t n : Int) (x : Int × Int) : Prop := x.1 = t ∧ n ≤ x.2
instance (t n : Int) (x : Int × Int) : Decidable (enough t n x) := by unfold enough; infer_instance
/-- Locks, one raised. -/
def raiseM (M : Cls Int) (a t n : Int) : Cls Int := if ∃ x ∈ rowOf M a, enough t n x then M else lockM M a t n
/-- What raise's range holds. -/
def RsI (N0 tb nb : Nat) (t n : Int) (pre : List (Int × Int)) (Φ : FP) (W : World) : Prop := (∀ k, ¬ Φ k) ∧ Boxed W tb 3 (.int .i64 t) ∧ Boxed W nb 3 (.int .i64 n) ∧ (∀ x ∈ pre, ¬ enough t n x) ∧ N0 ≤ W.heap.size
theorem RsI.stab {N0 tb nb : Nat} {t n : Int} (h1 : tb < N0) (h2 : nb < N0) : Stab N0 (RsI N0 tb nb t n) := by
  rintro pre Φ W ⟨h0, h3, h4, h5, hs⟩
  exact ⟨fun k hk => (h0 k hk).elim, hs, fun W' hg hk => ⟨h0, (hk tb (.inl h1)).trans h3, (hk nb (.inl h2)).trans h4, h5, Nat.le_trans hs hg.size⟩⟩
def RsX (N0 : Nat) (t n : Int) (c : Code) (pre : List (Int × Int)) (Φ : FP) (W : World) : Prop := (∀ k, ¬ Φ k) ∧ c = .ret ∧ (∃ x ∈ pre, enough t n x) ∧ N0 ≤ W.heap.size
theorem RsX.stab {N0 : Nat} {t n : Int} (c : Code) : Stab N0 (RsX N0 t n c) := by
  rintro pre Φ W ⟨h0, h3, h5, hs⟩
  exact ⟨fun k hk => (h0 k hk).elim, hs, fun W' hg hk => ⟨h0, h3, h5, Nat.le_trans hs hg.size⟩⟩
set_option maxHeartbeats 4000000 in
set_option maxRecDepth 100000 in
theorem raise_X {g N : Nat} {A : Acc} {M : Cls Int} {FL : FP} {w : World} (h : LdX g N A M FL w) (hlen : M.length < 10000) {a t : Int} (hac : isAcc a) (ha : (Lit.int .i64 a).wf = true) (ht : (Lit.int .i64 t).wf = true) (n : Int) :
    Calls Tryz.prog 55 #[.pointer (some ⟨g, 0, none⟩), .int .i64 a, .int .i64 t, .int .i64 n] w fun e w' => e = .returned (.tuple #[]) ∧ LdTo g N A (raiseM M a t n) FL w w' := by
  obtain ⟨tb, htb⟩ : ∃ tb, tb = w.heap.size := ⟨_, rfl⟩
  obtain ⟨w1, hw1⟩ : ∃ w1, w1 = (w.alloc (.cells #[.int .i64 t] 3)).alloc (.cells #[.int .i64 n] 3) := ⟨_, rfl⟩
  have hb1 : Below w.heap.size w w1 := by rw [hw1]; exact ((Below.refl _ w).alloc (Nat.le_refl _) _).alloc (by simp) _
  have x0 : Boxed w1 w.heap.size 3 (.int .i64 t) := by rw [hw1]; exact (Boxed.new w _ _).alloc _
  have x1 : Boxed w1 (w.heap.size + 1) 3 (.int .i64 n) := by
    have := Boxed.new (w.alloc (.cells #[.int .i64 t] 3)) 3 (.int .i64 n)
    rw [World.size_alloc] at this
    rw [hw1]; exact this
  have hs1 : w1.heap.size = w.heap.size + 2 := by rw [hw1]; simp
  have hlk := ledger_LocksX (h.below hb1) ha
  refine (callsIn_wide (n := 2)).1 ?_
  refine callsIn_of_wp_marks Tryz.func55 rfl trivial ?_ rfl
  simp only [Tryz.ntmps55, List.size_toArray, List.length_cons, List.length_nil, Nat.reduceAdd, Nat.reduceSub, Array.replicate_succ, Array.replicate_zero, List.push_toArray, List.append_toArray, List.nil_append, List.cons_append]
  have HW1 := Lib.hid hw1
  have H1 := Lib.hid (And.intro hb1 (And.intro x0 (And.intro x1 hs1)))
  have HLK := Lib.hid hlk
  have HH := Lib.hid (And.intro h (And.intro hlen (And.intro hac (And.intro ha ht))))
  clear hw1 hb1 x0 x1 hs1 hlk h hlen hac ha ht
  gi_wp2_with (first
    | (refine ⟨trivial, ?_⟩; gi_at_call 91; rw [← HW1.out]; refine (callsIn_wide.2 HLK.out).mono ?_; rintro e w2 ⟨bx, v, rfl, hbx, ho, hn, hb⟩; have H2 := Lib.hid (And.intro hbx (And.intro ho (And.intro hn hb))); clear hbx ho hn hb)
    | fail)
  obtain ⟨hb1, x0, x1, hs1⟩ := H1.out
  obtain ⟨hbx, ho, hn, hb2⟩ := H2.out
  rw [← htb] at x0 x1 ⊢
  obtain ⟨nb, hnb⟩ : ∃ nb, nb = tb + 1 := ⟨_, rfl⟩
  rw [← hnb] at x1 ⊢
  have y0 : Boxed w2 tb 3 (.int .i64 t) := (hb2.block tb (by omega)).trans x0
  have y1 : Boxed w2 nb 3 (.int .i64 n) := (hb2.block nb (by omega)).trans x1
  have s2 := hb2.size
  have hit := now1_iter_I 0 bx v (rowOf M a) w2 hbx ho.reads (Nat.le_trans (row_length M a) (by have := HH.out.2.1; omega)) (fun k => k = bx ∨ v.ownBlock = some k) (.inl rfl) (fun k hk => .inr hk)
  have hGl : ∀ k, (k = bx ∨ v.ownBlock = some k) → k < w2.heap.size := fun k hk => hk.elim (fun e => by rw [e]; exact hbx.lt) (fun e => (ho.block e).2)
  have hbW : Below w.heap.size w w2 := hb1.trans (hb2.mono hb1.size)
  have htl : tb < w2.heap.size := by omega
  have hnl : nb < w2.heap.size := by omega
  have hwl : w.heap.size ≤ w2.heap.size := hbW.size
  have HBW := Lib.hid (And.intro hbW (And.intro htb hnb))
  clear hb1 x0 x1 hs1 hbx ho hn hb2 hbW htb hnb s2
  refine range_outer (n := 0) (gf := 132) (lb := #[.pointer (some ⟨bx, 0, none⟩)]) rfl enters_now_I hit (Grow.refl w2) (fun k hk => ⟨hGl k hk, rfl⟩) (fun _ => rfl)
    (fun k => False) (fun k hk => hk.elim) (RsI w2.heap.size tb nb t n) (RsX w2.heap.size t n) (RsI.stab htl hnl) RsX.stab ⟨fun _ h => h, y0, y1, (fun x hx => by cases hx), Nat.le_refl _⟩
    (fun x => { tmps := #[.pointer (some ⟨g, 0, none⟩), .int .i64 a, .int .i64 t, .int .i64 n, undef, undef, .pointer (some ⟨tb, 0, none⟩), .pointer (some ⟨nb, 0, none⟩), .int .i64 x.1, .int .i64 x.2, .pointer (some ⟨g, 0, none⟩), .int .i64 a, .func (.func 132) #[] #[.pointer (some ⟨bx, 0, none⟩)], .int .i64 x.1, .int .i64 x.2, undef, undef, undef, undef, undef, undef, undef, undef, undef, undef, undef, undef, undef], defers := [] }) ?assign ?body ?done ?stop
  case assign =>
    intro l x W K hK
    simp only [encs_I]
    gi_wp2
    exact hK
  case body =>
    rintro l pre x Φ W hpx ⟨hno, b0, b1, hpre, hsz⟩ hl hΦ -
    have c0 := b0.cell
    have c1 := b1.cell
    obtain ⟨i, hi⟩ : ∃ i, i = x.1 := ⟨_, rfl⟩
    obtain ⟨m, hm⟩ : ∃ m, m = x.2 := ⟨_, rfl⟩
    have hen : enough t n x ↔ i = t ∧ n ≤ m := by rw [hi, hm]; exact Iff.rfl
    rw [← hi, ← hm]
    have HS := Lib.hid (And.intro hno (And.intro b0 (And.intro b1 (And.intro hpre (And.intro hsz hen)))))
    clear hi hm hno b0 b1 hpre hsz hen hit hGl hpx y0 y1
    by_cases q1 : i = t
    · have q1' : (i == t) = true := by simpa using q1
      by_cases q2 : n ≤ m
      · have HQ := Lib.hid (And.intro q1 q2)
        clear q1
        gi_wp2_with fail
        obtain ⟨hno, b0, b1, hpre, hsz, hen⟩ := HS.out
        exact ⟨Φ, fun k h => .inl h, Only.refl _ _ _, hno, rfl, ⟨x, by simp, hen.2 HQ.out⟩, hsz⟩
      · have q2' : ¬ (m ≥ n) := q2
        have HQ := Lib.hid q2
        clear q1
        gi_wp2_with fail
        obtain ⟨hno, b0, b1, hpre, hsz, hen⟩ := HS.out
        exact ⟨Φ, fun k h => .inl h, Only.refl _ _ _, hno, b0, b1, fun y hy => (List.mem_append.1 hy).elim (hpre y) (fun hy => by rw [List.mem_singleton.1 hy, hen]; exact fun h => absurd h.2 (by have := HQ.out; omega)), hsz⟩
    · have q1' : (i == t) = false := by simpa using q1
      have HQ := Lib.hid q1
      clear q1
      gi_wp2_with fail
      obtain ⟨hno, b0, b1, hpre, hsz, hen⟩ := HS.out
      exact ⟨Φ, fun k h => .inl h, Only.refl _ _ _, hno, b0, b1, fun y hy => (List.mem_append.1 hy).elim (hpre y) (fun hy => by rw [List.mem_singleton.1 hy, hen]; exact fun h => HQ.out h.1), hsz⟩
  case done =>
    rintro D Φ W3 ⟨hno, b0, b1, hpre, hsz⟩ hon hD hnD hK
    have c0 := b0.cell
    have c1 := b1.cell
    have hb3 : Below w2.heap.size w2 W3 := ⟨hon.grow.os, hon.grow.tape, hon.grow.output, hon.grow.size, fun k hk => hon.block k hk (fun h => h) (fun h => h)⟩
    have hbW : Below w.heap.size w W3 := HBW.out.1.trans (hb3.mono hwl)
    have hlock := ledger_LockX (HH.out.1.below hbW) HH.out.2.1 HH.out.2.2.1 HH.out.2.2.2.1 HH.out.2.2.2.2 n
    have hDl : D < W3.heap.size := (Array.getElem?_eq_some_iff.1 hK).1
    have eM : raiseM M a t n = lockM M a t n := if_neg (fun ⟨x, hx, he⟩ => hpre x hx he)
    have HD := Lib.hid (And.intro hbW (And.intro hD (And.intro hK (And.intro hDl eM))))
    have HLO := Lib.hid hlock
    clear hno b0 b1 hpre hsz hon hD hK hnD hit hGl hb3 hbW hlock hDl eM y0 y1
    gi_wp2_with (first
      | (refine ⟨trivial, ?_⟩; gi_at_call 92; refine (callsIn_wide.2 HLO.out).mono ?_; rintro e w4 ⟨rfl, ht⟩; have H4 := Lib.hid ht; clear ht)
      | fail)
    obtain ⟨hbW, hD, hK, hDl, eM⟩ := HD.out
    obtain ⟨F4, k1, k2, k3⟩ := H4.out
    have hFD : ∀ k, F4 k → k ≠ D := fun k hk e => (k2 k hk).elim (fun h => by have := HH.out.1.lt h; omega) (fun h => by omega)
    have hKD : w4.heap[D]? = some (.deferred (some [])) := (k3.block D hDl (fun h => by have := HH.out.1.lt h; omega) (fun h => h)).trans hK
    refine marks_leave [D] w4 (by simp) (fun d hd => ?_) (fun w' hg hk => ⟨_, results_none rfl _ _ _, rfl, ?_⟩)
    · simp only [List.mem_cons, List.not_mem_nil, or_false] at hd
      subst hd; exact hKD
    · rw [eM]
      have hs4 := k3.grow.size
      refine ⟨F4, k1.keep hg (fun k hk' => hk k (by simp; exact hFD k hk')), fun k hk' => (k2 k hk').imp id (fun h => by have := hbW.size; omega), (Grow.of_below hbW).trans (k3.grow.trans hg), fun k hk' h1 h2 => ?_⟩
      rw [hk k (by simp; omega), k3.block k (by have := hbW.size; omega) h1 (fun h => h)]
      exact hbW.block k hk'
  case stop =>
    rintro D Φ c pre W3 hpre ⟨hno, rfl, ⟨x, hx, he⟩, hsz⟩ hon hD hnD hK
    have hb3 : Below w2.heap.size w2 W3 := ⟨hon.grow.os, hon.grow.tape, hon.grow.output, hon.grow.size, fun k hk => hon.block k hk (fun h => h) (fun h => h)⟩
    have hbW : Below w.heap.size w W3 := HBW.out.1.trans (hb3.mono hwl)
    have eM : raiseM M a t n = M := if_pos ⟨x, hpre.subset hx, he⟩
    have HD := Lib.hid (And.intro hbW (And.intro hD (And.intro hK eM)))
    clear hno hpre hx he hsz hon hD hK hnD hit hGl hb3 hbW eM y0 y1
    gi_wp2_with fail
    obtain ⟨hbW, hD, hK, eM⟩ := HD.out
    refine marks_leave [D] W3 (by simp) (fun d hd => ?_) (fun w' hg hk => ⟨_, results_none rfl _ _ _, rfl, ?_⟩)
    · simp only [List.mem_cons, List.not_mem_nil, or_false] at hd
      subst hd; exact hK
    · rw [eM]
      refine LdTo.of_below HH.out.1 ⟨hg.os.trans hbW.os, hg.tape.trans hbW.tape, hg.output.trans hbW.output, Nat.le_trans hbW.size hg.size, fun k hk' => ?_⟩
      rw [hk k (by simp; omega)]
      exact hbW.block k hk'
end Go.Proofs.YtpkamfbjgdmmoaaGreat
end

section
namespace Go.Proofs.YtpkamfbjgdmmoaaGreat
open Go.RowKit
set_option linter.unusedVariables false
section
variable {P : Program} {ops : Array Oper} {md : Region.Mode} {n lp : Nat} {Q : Exit → Act → World → Prop}
theorem rowsIn_wideV {row : String} {args : Array Value} {w : World} {R : Value → World → Prop} (h : Rows P row args w R) : RowsIn Fence.wide n P row args w R :=
  fun c cs _ => let ⟨v, w', r, s⟩ := h c cs; ⟨v, w', r, stepsIn_wide.2 s⟩
theorem wpIn_of_wpR {o : Oper} (hd : ∀ c, o.op ≠ .defer c) (hQ : ¬ LetsOut Q) {a : Act} {w : World} {K : Act → World → Prop} (hh : o.wp P a w K Q) : o.wpIn (Fence.wide.inRound lp) n P a w K Q := by
  unfold Oper.wp at hh
  unfold Oper.wpIn
  refine ⟨fun f _ => trivial, ?_⟩
  have e : o.semAt (Fence.wide.inRound lp).round a.eval = execOp a.eval o := Oper.semAt_eq _ _ _ hd
  rw [e]
  generalize (execOp a.eval o).run P w = r at *
  cases r with
  | ok x w' =>
    cases x <;> simp only [Oper.upon] at hh <;> simp only [Oper.uponIn]
    case enter f args => exact ⟨fun h => by simp [Fence.wide] at h, CallsIn.inRound lp (callsIn_wide.2 hh)⟩
    case row row args => exact ⟨fun h => by simp [Fence.wide] at h, rowsIn_wideV hh⟩
    all_goals exact hh
  | halt x w' => cases x <;> simp only [Oper.upon] at hh <;> simp only [Oper.uponIn] <;> exact hh
theorem wpAnyIn_of_wpAnyR (hdf : ∀ (i : Nat) (o : Oper), ops[i]? = some o → ∀ c, o.op ≠ .defer c) (hQ : ¬ LetsOut Q) : ∀ (fuel : Nat) (listed : Array Bool) (a : Act) (w : World), wpAny P md ops Q fuel listed a w → wpAnyIn (Fence.wide.inRound lp) n P md ops Q fuel listed a w
  | 0, _, _, _, h => h
  | fuel + 1, listed, a, w, h => ⟨h.1, fun i hi => by
      have h1 := wpOp_mono (fun a' w' h' => wpAnyIn_of_wpAnyR hdf hQ fuel _ a' w' h') (h.2 i hi)
      unfold wpOp at h1
      unfold wpOpIn
      split
      · rename_i ho; simp only [ho] at h1; exact h1
      · rename_i o ho
        simp only [ho] at h1
        split
        · rename_i hw; simp only [hw, if_true] at h1; exact wpIn_of_wpR (hdf _ _ ho) hQ (h1.resolve_right (fun h => hQ h.2))
        · rename_i hw; simp only [hw] at h1; exact ⟨fun f _ => trivial, h1⟩⟩
/-- The beginning: S is shown of the world behind the draw, once, and handed on. -/
theorem wpIn_region_heldR {S : World → Prop} {id : Nat} {R : Act → World → Prop} {a : Act} {w : World} {l : List Oper} (hm : P.follows .mixedOrders = true) (hdb : l.all (fun o => match o.op with | .defer _ => false | _ => true) = true) (hS : S w.drew)
    (h : S w.drew → wpAnyH P .any l.toArray (Exit.then R (fun _ _ _ => False)) S l.toArray.size (Array.replicate l.toArray.size false) a w.drew) (hK : ∀ a w, R a w → Q .normal a w) : (Code.region id l.toArray true).wpIn (Fence.wide.inRound lp) n P Q a w := by
  have hdf : ∀ (i : Nat) (o : Oper), l.toArray[i]? = some o → ∀ c, o.op ≠ .defer c := fun i o ho c hc => by
    have hm := List.all_eq_true.1 hdb o (List.mem_of_getElem? (by simpa using ho))
    rw [hc] at hm; cases hm
  refine wpIn_mono (wpIn_region_any hm (wpAnyIn_of_wpAnyR hdf (fun ⟨a, w, h⟩ => h) _ _ _ _ (wpAny_of_held _ _ _ _ (h hS)))) (fun e a w hq => by cases e <;> first | exact hK _ _ hq | exact hq.elim)
end
end Go.Proofs.YtpkamfbjgdmmoaaGreat
end

section
namespace Go.Proofs.YtpkamfbjgdmmoaaGreat
open Go.RowKit Go.Maps Go.Shelf
attribute [local go_sem] Oper.semAt_some
set_option linter.unusedVariables false
set_option linter.unusedSimpArgs false

/-- A poll's tally, when what is lent to a voter changes. -/
def relend (x : Bal) (was is : Wgt) (t : Tl) : Tl := (t.sub (gainW x was)).add (gainW x is)
def Pl.withT (p : Pl) (t : Tl) : Pl := ⟨p.st, p.tr, t.a, t.n, t.s, p.en⟩
def lendP1 (was is : Wgt) (P : Nat → Pl) (x : Int × Bal) : Nat → Pl := if (P x.1.toNat).st = 1 then putP P x.1.toNat ((P x.1.toNat).withT (relend x.2 was is (P x.1.toNat).t)) else P
def lendP (was is : Wgt) (P : Nat → Pl) (l : List (Int × Bal)) : Nat → Pl := l.foldl (lendP1 was is) P
/-- What the loop holds. -/
def LenI (vb N : Nat) (S1 : Vs) (F : FP) (w3 : World) (was is : Wgt) (vbx wb ib : Nat) (B0 : Nat) (pre : List (Int × Bal)) (Φ : FP) (W : World) : Prop :=
  (∀ k, ¬ Φ k) ∧ VoX vb N { S1 with P := lendP was is S1.P pre } F W ∧ Only (fun k => k = vb) (fun _ => False) w3 W ∧ W.heap[vbx]? = w3.heap[vbx]? ∧ W.heap[wb]? = w3.heap[wb]? ∧ W.heap[ib]? = w3.heap[ib]? ∧ B0 ≤ W.heap.size
theorem LenI.stab {vb N : Nat} {S1 : Vs} {F : FP} {w3 : World} {was is : Wgt} {vbx wb ib B0 : Nat} (hF : ∀ k, F k → k < B0) (h1 : vbx < B0) (h2 : wb < B0) (h3 : ib < B0) (hw : w3.heap.size ≤ B0) : Stab B0 (LenI vb N S1 F w3 was is vbx wb ib B0) := by
  rintro pre Φ W ⟨h0, hx, ho, e1, e2, e3, hs⟩
  exact ⟨fun k hk => (h0 k hk).elim, hs, fun W' hg hk => ⟨h0, hx.keep hg (fun k hf => hk k (.inl (hF k hf))), ⟨ho.grow.trans hg, fun k hk' h4 h5 => (hk k (.inl (by omega))).trans (ho.block k hk' h4 h5)⟩, (hk vbx (.inl h1)).trans e1, (hk wb (.inl h2)).trans e2, (hk ib (.inl h3)).trans e3, Nat.le_trans hs hg.size⟩⟩
def storeT (a v : Value) : Sem Unit := Instr.storeAt 54 a v
theorem storeT_hide (a v : Value) : Instr.storeAt 54 a v = storeT a v := rfl
def loadSt_T (v : Value) : Sem Value := Instr.loadAt 54 v
theorem loadSt_T_hide (v : Value) : Instr.loadAt 54 v = loadSt_T v := rfl
theorem VoX.setTX {vb N : Nat} {S : Vs} {F : FP} {w : World} (h : VoX vb N S F w) {k : Nat} (hk : k < 12) (t : Tl) : VoX vb N { S with P := putP S.P k ⟨(S.P k).st, (S.P k).tr, t.a, t.n, t.s, (S.P k).en⟩ } F (w.setCells vb (k * 6 + 2) (tlyS.f t)) := by
  obtain ⟨gv, gd, gw, gp, FV, FD, FW, FQ, h1, h2⟩ := h
  have hg := setCells_grow (b := vb) (tlyS.f t) (k * 6 + 2) w
  have ho : ∀ i, i ≠ vb → (w.setCells vb (k * 6 + 2) (tlyS.f t)).heap[i]? = w.heap[i]? := fun i hi => setCells_off hi _ _ _
  exact ⟨gv, gd, gw, gp, FV, FD, FW, FQ, ⟨h1.blk.setT hk t, h1.v.keep hg (fun i hi => ho i (fun e => h1.off.b.1 (e ▸ hi))), h1.d.keep hg (fun i hi => ho i (fun e => h1.off.b.2.1 (e ▸ hi))), h1.g.keep hg (fun i hi => ho i (fun e => h1.off.b.2.2.1 (e ▸ hi))), h1.q.keep hg (fun i hi => ho i (fun e => h1.off.b.2.2.2 (e ▸ hi))), h1.off⟩, h2⟩
theorem run_storeT {w : World} {b k : Nat} (h : w.there b k 3) (t : Tl) : (storeT (.pointer (some ⟨b, k, none⟩)) (.agg (tlyS.f t).toArray)).run Tryz.prog w = .ok () (w.setCells b k (tlyS.f t)) :=
  run_storeAt_mid w b k 54 (tlyS.f t).toArray h (by kernel_rfl) (by simp [tlyS, Value.oneCell'])
end Go.Proofs.YtpkamfbjgdmmoaaGreat
end

section
namespace Go.Proofs.YtpkamfbjgdmmoaaGreat
open Go.RowKit Go.Maps
set_option linter.unusedVariables false
set_option linter.unusedSimpArgs false

/-- A strictly rising list of numbers below n has no more than n. -/
theorem rising_length : ∀ (n : Nat) (l : List Nat), l.Pairwise (· < ·) → (∀ x ∈ l, x < n) → l.length ≤ n
  | 0, l, _, h => by
    cases l with
    | nil => simp
    | cons x l => have := h x (by simp); omega
  | n + 1, l, hp, h => by
    have h1 : (l.filter (· < n)).length ≤ n := rising_length n _ (hp.filter _) (fun x hx => by simpa using (List.mem_filter.1 hx).2)
    have h2 : l.length ≤ (l.filter (· < n)).length + 1 := by
      clear h1
      induction l with
      | nil => simp
      | cons x l ih =>
        have hp' := List.pairwise_cons.1 hp
        have ih' := ih hp'.2 (fun y hy => h y (List.mem_cons_of_mem _ hy))
        by_cases hx : x < n
        · rw [List.filter_cons_of_pos (by simpa using hx)]; simp; omega
        · have hxn : x = n := by have := h x (by simp); omega
          cases l with
          | nil => simp
          | cons y l => have := hp'.1 y (by simp); have := h y (by simp); omega
    omega
/-- Keys within bounds: no more than so many. -/
def KeyBox {β : Type} (M : Cls β) : Prop := ∀ x ∈ M, (0 ≤ x.1.1 ∧ x.1.1 < 10) ∧ (0 ≤ x.1.2 ∧ x.1.2 < 12)
theorem KeyBox.len {β : Type} {M : Cls β} (hs : SrtC M) (h : KeyBox M) : M.length ≤ 120 := by
  have h1 : (M.map (fun x => (x.1.1 * 12 + x.1.2).toNat)).Pairwise (· < ·) := by
    refine List.pairwise_map.2 (hs.imp_of_mem ?_)
    intro x y hx hy hl
    obtain ⟨h1, h2⟩ := h x hx
    obtain ⟨h3, h4⟩ := h y hy
    unfold lexlt at hl
    omega
  have h2 := rising_length 120 _ h1 (fun n hn => by
    obtain ⟨x, hx, rfl⟩ := List.mem_map.1 hn
    obtain ⟨h1, h2⟩ := h x hx
    omega)
  simpa using h2
theorem KeyBox.put {β : Type} {M : Cls β} (h : KeyBox M) {a b : Int} (ha : 0 ≤ a ∧ a < 10) (hb : 0 ≤ b ∧ b < 12) (v : β) : KeyBox (cput M a b v) := fun x hx => by
  rcases mem_cput.1 hx with rfl | ⟨h1, -⟩
  · exact ⟨ha, hb⟩
  · exact h x h1
theorem KeyBox.del {β : Type} {M : Cls β} (h : KeyBox M) (a b : Int) : KeyBox (cdel M a b) := fun x hx => h x (mem_cdel.1 hx).1
/-- What always holds of a voting. -/
structure VInv (S : Vs) : Prop where
  v : ∀ x ∈ S.V, ((0 ≤ x.1.1 ∧ x.1.1 < 10) ∧ (0 ≤ x.1.2 ∧ x.1.2 < 12)) ∧ (S.P x.1.2.toNat).st ≠ 0 ∧ balOk x.2 = true
  d : ∀ x ∈ S.D, ((0 ≤ x.1.1 ∧ x.1.1 < 10) ∧ (0 ≤ x.1.2 ∧ x.1.2 < 12)) ∧ (0 ≤ x.2.to ∧ x.2.to < 10) ∧ (0 ≤ x.2.l ∧ x.2.l ≤ 6) ∧ (0 ≤ x.2.n ∧ x.2.n ≤ 1073741824)
  g : KeyBox S.G
  q : KeyBox S.Q
  t : ∀ k, k < 12 → 0 ≤ (S.P k).tr ∧ (S.P k).tr < 4
theorem VInv.zero : VInv Vs.zero := ⟨fun x hx => (List.not_mem_nil hx).elim, fun x hx => (List.not_mem_nil hx).elim, fun x hx => (List.not_mem_nil hx).elim, fun x hx => (List.not_mem_nil hx).elim, fun k hk => ⟨Int.le_refl 0, (by decide : (0 : Int) < 4)⟩⟩
theorem VInv.boxV {S : Vs} (h : VInv S) : KeyBox S.V := fun x hx => (h.v x hx).1
theorem VInv.boxD {S : Vs} (h : VInv S) : KeyBox S.D := fun x hx => (h.d x hx).1
theorem VInv.lens {S : Vs} (h : VInv S) {vb N : Nat} {F : FP} {w : World} (hx : VoX vb N S F w) : S.V.length ≤ 120 ∧ S.D.length ≤ 120 ∧ S.G.length ≤ 120 ∧ S.Q.length ≤ 120 := by
  obtain ⟨h1, h2, h3, h4⟩ := hx.srt
  exact ⟨h.boxV.len h1, h.boxD.len h2, h.g.len h3, h.q.len h4⟩
theorem VInv.row {S : Vs} (h : VInv S) (a : Int) : ∀ x ∈ rowOf S.V a, (0 ≤ x.1 ∧ x.1 < 12) ∧ (S.P x.1.toNat).st ≠ 0 ∧ balOk x.2 = true := fun x hx => by
  obtain ⟨h1, h2, h3⟩ := h.v _ (mem_rowOf.1 hx)
  exact ⟨h1.2, h2, h3⟩

instance (P : Nat → Pl) (r : Int) : Decidable (plHas P r) := by unfold plHas; infer_instance
def gotS (S : Vs) (a t : Int) : Wgt := (cget S.G a t).getD ⟨0, 0⟩
def capB (x : Bal) : Int := x.a + x.n + x.s
/-- Vote. -/
def voteE (S : Vs) (A : Acc) (a r : Int) (x : Bal) : Int :=
  if ¬ isAcc a ∨ balOk x = false then 1 else if ¬ plHas S.P r then 4 else if (S.P r.toNat).st ≠ 1 then 9 else if (cget S.D a (S.P r.toNat).tr).isSome = true then 5 else if (A a.toNat).1 < capB x then 6 else if (cget S.V a r).isSome = false ∧ 6 ≤ (ballots S a (S.P r.toNat).tr).length then 3 else 0
def voteT0 (S : Vs) (a r : Int) : Tl := match cget S.V a r with
  | some y => (S.P r.toNat).t.sub (gainW y (gotS S a (S.P r.toNat).tr))
  | none => (S.P r.toNat).t
def voteT (S : Vs) (a r : Int) (x : Bal) : Tl := (voteT0 S a r).add (gainW x (gotS S a (S.P r.toNat).tr))
def voteS (S : Vs) (A : Acc) (a r : Int) (x : Bal) : Vs := if voteE S A a r x = 0 then { S with P := putP S.P r.toNat ((S.P r.toNat).withT (voteT S a r x)), V := cput S.V a r x } else S
def voteM (S : Vs) (A : Acc) (M : Cls Int) (a r : Int) (x : Bal) : Cls Int := if voteE S A a r x = 0 then raiseM M a (S.P r.toNat).tr (capB x) else M
/-- Unvote. -/
def unvoteE (S : Vs) (a r : Int) : Int := if ¬ isAcc a then 1 else if ¬ plHas S.P r ∨ (cget S.V a r).isSome = false then 4 else 0
def unvoteS (S : Vs) (a r now : Int) : Vs := if unvoteE S a r = 0 then
    (if (S.P r.toNat).st = 1 then { S with V := cdel S.V a r, P := putP S.P r.toNat ((S.P r.toNat).withT ((S.P r.toNat).t.sub (gainW ((cget S.V a r).getD balS.zero) (gotS S a (S.P r.toNat).tr)))) }
     else if wonB (S.P r.toNat).st ((cget S.V a r).getD balS.zero) = true then { S with V := cdel S.V a r, Q := joinQ S.Q a (S.P r.toNat).tr (wrap64 ((S.P r.toNat).en + periodI ((cget S.V a r).getD balS.zero).l 8)) ((cget S.V a r).getD balS.zero).a now }
     else { S with V := cdel S.V a r }) else S
end Go.Proofs.YtpkamfbjgdmmoaaGreat
end

section
namespace Go.Proofs.YtpkamfbjgdmmoaaGreat
open Go.RowKit Go.Maps Go.Shelf
set_option linter.unusedVariables false
set_option linter.unusedSimpArgs false

theorem plPtr_has {vb : Nat} {P : Nat → Pl} {r : Int} (h : plHas P r) : ∃ k : Nat, r = k ∧ k < 12 ∧ (P k).st ≠ 0 ∧ plPtr vb P r = some ⟨vb, k * 6, none⟩ := by
  obtain ⟨⟨h0, h1⟩, h2⟩ := h
  refine ⟨r.toNat, by omega, by omega, h2, ?_⟩
  unfold plPtr
  rw [if_pos ⟨⟨h0, h1⟩, h2⟩]
theorem plPtr_none {vb : Nat} {P : Nat → Pl} {r : Int} (h : ¬ plHas P r) : plPtr vb P r = none := by
  unfold plPtr
  exact if_neg h
theorem wfS {n : Int} (h0 : -1000 ≤ n) (h1 : n ≤ 1099511627776) : (Lit.int .i64 n).wf = true := by
  simp [Lit.wf, IntKind.min, IntKind.max, IntKind.signed, IntKind.bits]; omega
theorem putP_withT (P : Nat → Pl) (k : Nat) : putP P k ((P k).withT (P k).t) = P := by
  funext i
  by_cases h : i = k
  · subst h; rw [putP_same]; rfl
  · rw [putP_other _ _ h]
theorem VoTo.cons {vb N : Nat} {S' : Vs} {F F1 : FP} {w w1 w' : World} (h2 : ∀ k, F1 k → F k ∨ w.heap.size ≤ k) (h3 : Only F (fun _ => False) w w1) (h : VoTo vb N S' F1 w1 w') : VoTo vb N S' F w w' := by
  obtain ⟨F2, k1, k2, k3⟩ := h
  have hs := h3.grow.size
  refine ⟨F2, k1, fun k hk => (k2 k hk).elim (fun e => h2 k e) (fun e => .inr (by omega)), h3.grow.trans k3.grow, fun k hk h4 h5 => ?_⟩
  exact (k3.block k (by omega) (fun e => (h2 k e).elim h4 (fun e => by omega)) (fun h => h)).trans (h3.block k hk h4 (fun h => h))
/-- A voting and a ledger in memory; boxes of the call's own. -/
structure Stt (g vb N : Nat) (S : Vs) (A : Acc) (M : Cls Int) (F FL Zn : FP) (w : World) (bs : List (Nat × List Value)) (W : World) : Prop where
  vo : VoX vb N S F W
  ld : LdX g N A M FL W
  dis : ∀ j, F j → ¬ FL j
  on : Only Zn (fun _ => False) w W
  sub : ∀ k, F k ∨ FL k → Zn k ∨ w.heap.size ≤ k
  bs : ∀ b ∈ bs, W.rangeAt b.1 0 b.2 ∧ (¬ F b.1 ∧ ¬ FL b.1) ∧ b.1 < W.heap.size
/-- .. one poll's tally as told. -/
abbrev Sit (g vb N k : Nat) (S : Vs) (A : Acc) (M : Cls Int) (F FL Zn : FP) (w : World) (bs : List (Nat × List Value)) (t : Tl) (W : World) : Prop :=
  Stt g vb N { S with P := putP S.P k ((S.P k).withT t) } A M F FL Zn w bs W
section
variable {g vb N k : Nat} {S S' : Vs} {A A' : Acc} {M M' : Cls Int} {F FL Zn : FP} {w : World} {bs : List (Nat × List Value)} {t : Tl} {W W' : World}
theorem Stt.start (h : LvAt g vb N S A M Zn w) : ∃ F FL, Stt g vb N S A M F FL Zn w [] w := by
  obtain ⟨F, FL, h1, h2, h3, h4⟩ := h
  exact ⟨F, FL, h1, h2, h3, Only.refl _ _ _, fun k hk => .inl ((h4 k).2 hk), fun b hb => by cases hb⟩
theorem Stt.below (h : Stt g vb N S A M F FL Zn w bs W) (hb : Below W.heap.size W W') : Stt g vb N S A M F FL Zn w bs W' :=
  ⟨h.vo.below hb, h.ld.below hb, h.dis, only_trans h.on (Only.of_later hb), h.sub, fun b hm => ⟨rangeAt_block (h.bs b hm).1 (hb.block _ (h.bs b hm).2.2), (h.bs b hm).2.1, Nat.lt_of_lt_of_le (h.bs b hm).2.2 hb.size⟩⟩
theorem Stt.box (h : Stt g vb N S A M F FL Zn w bs W) {b : Nat} {l : List Value} (hr : W.rangeAt b 0 l) (hn : ¬ F b ∧ ¬ FL b) (hl : b < W.heap.size) : Stt g vb N S A M F FL Zn w ((b, l) :: bs) W :=
  ⟨h.vo, h.ld, h.dis, h.on, h.sub, fun c hc => by
    rcases List.mem_cons.1 hc with rfl | hc
    · exact ⟨hr, hn, hl⟩
    · exact h.bs c hc⟩
theorem Stt.new (h : Stt g vb N S A M F FL Zn w bs W) {b : Nat} {l : List Value} (hr : W'.rangeAt b 0 l) (hb : Below W.heap.size W W') (hn : W.heap.size ≤ b) (hl : b < W'.heap.size) : Stt g vb N S A M F FL Zn w ((b, l) :: bs) W' :=
  (h.below hb).box hr ⟨fun hf => by have := h.vo.lt hf; omega, fun hf => by have := h.ld.lt hf; omega⟩ hl
theorem Stt.to (h : Stt g vb N S A M F FL Zn w bs W) : LvTo g vb N S A M Zn w W := ⟨fun k => F k ∨ FL k, ⟨F, FL, h.vo, h.ld, h.dis, fun k => Iff.rfl⟩, h.sub, h.on⟩
/-- The voting is changed. -/
theorem Stt.toV (h : Stt g vb N S A M F FL Zn w bs W) (ht : VoTo vb N S' F W W') : ∃ F', Stt g vb N S' A M F' FL Zn w bs W' := by
  obtain ⟨F', k1, k2, k3⟩ := ht
  refine ⟨F', k1, h.ld.keep k3.grow (fun k hk => k3.block k (h.ld.lt hk) (fun e => h.dis k e hk) (fun h => h)), fun k hk hl => (k2 k hk).elim (fun e => h.dis k e hl) (fun e => by have := h.ld.lt hl; omega), only_cons h.on (fun k hk => h.sub k (.inl hk)) k3, fun k hk => hk.elim (fun e => (k2 k e).elim (fun e => h.sub k (.inl e)) (fun e => .inr (Nat.le_trans h.on.grow.size e))) (fun e => h.sub k (.inr e)), fun b hm => ?_⟩
  obtain ⟨h1, ⟨h2, h3⟩, h4⟩ := h.bs b hm
  exact ⟨rangeAt_block h1 (k3.block _ h4 h2 (fun h => h)), ⟨fun hf => (k2 _ hf).elim h2 (fun e => by omega), h3⟩, Nat.lt_of_lt_of_le h4 k3.grow.size⟩
/-- The ledger is changed. -/
theorem Stt.toL (h : Stt g vb N S A M F FL Zn w bs W) (ht : LdTo g N A' M' FL W W') : ∃ FL', Stt g vb N S A' M' F FL' Zn w bs W' := by
  obtain ⟨F', k1, k2, k3⟩ := ht
  refine ⟨F', h.vo.keep k3.grow (fun k hk => k3.block k (h.vo.lt hk) (fun e => h.dis k hk e) (fun h => h)), k1, fun k hk hl => (k2 k hl).elim (fun e => h.dis k hk e) (fun e => by have := h.vo.lt hk; omega), only_cons h.on (fun k hk => h.sub k (.inr hk)) k3, fun k hk => hk.elim (fun e => h.sub k (.inl e)) (fun e => (k2 k e).elim (fun e => h.sub k (.inr e)) (fun e => .inr (Nat.le_trans h.on.grow.size e))), fun b hm => ?_⟩
  obtain ⟨h1, ⟨h2, h3⟩, h4⟩ := h.bs b hm
  exact ⟨rangeAt_block h1 (k3.block _ h4 h3 (fun h => h)), ⟨h2, fun hf => (k2 _ hf).elim h3 (fun e => by omega)⟩, Nat.lt_of_lt_of_le h4 k3.grow.size⟩
theorem Sit.of (h : Stt g vb N S A M F FL Zn w bs W) (k : Nat) : Sit g vb N k S A M F FL Zn w bs (S.P k).t W := by
  unfold Sit
  rw [putP_withT]
  exact h
theorem Sit.setT (h : Sit g vb N k S A M F FL Zn w bs t W) (hk : k < 12) (t' : Tl) : Sit g vb N k S A M F FL Zn w bs t' (W.setCells vb (k * 6 + 2) (tlyS.f t')) := by
  have hx := h.vo.setTX hk t'
  have hg := setCells_grow (b := vb) (tlyS.f t') (k * 6 + 2) W
  have ho : ∀ i, i ≠ vb → (W.setCells vb (k * 6 + 2) (tlyS.f t')).heap[i]? = W.heap[i]? := fun i hi => setCells_off hi _ _ _
  refine ⟨?_, h.ld.keep hg (fun i hi => ho i (fun e => h.dis vb h.vo.own (e ▸ hi))), h.dis, ?_, h.sub, fun b hb => ?_⟩
  · have e : putP (putP S.P k ((S.P k).withT t)) k ⟨(putP S.P k ((S.P k).withT t) k).st, (putP S.P k ((S.P k).withT t) k).tr, t'.a, t'.n, t'.s, (putP S.P k ((S.P k).withT t) k).en⟩ = putP S.P k ((S.P k).withT t') := by
      rw [putP_putP, putP_same]; rfl
    rw [← e]
    exact hx
  · exact only_cons h.on (fun k hk => h.sub k (.inl hk)) ⟨hg, fun i hi h1 h2 => ho i (fun e => h1 (e ▸ h.vo.own))⟩
  · obtain ⟨h1, h2, h3⟩ := h.bs b hb
    exact ⟨rangeAt_block h1 (ho _ (fun e => h2.1 (e ▸ h.vo.own))), h2, Nat.lt_of_lt_of_le h3 hg.size⟩
theorem Stt.loadV (h : Stt g vb N S A M F FL Zn w bs W) {b : Nat} {x : Bal} (hm : (b, balS.f x) ∈ bs) : (loadSt_V (.pointer (some ⟨b, 0, none⟩))).run Tryz.prog W = .ok (.agg (balS.f x).toArray) W := run_loadSt_V (h.bs _ hm).1
theorem Stt.loadW (h : Stt g vb N S A M F FL Zn w bs W) {b : Nat} {x : Wgt} (hm : (b, wgtS.f x) ∈ bs) : (loadSt_W (.pointer (some ⟨b, 0, none⟩))).run Tryz.prog W = .ok (.agg (wgtS.f x).toArray) W := run_loadSt_W (h.bs _ hm).1
theorem Sit.tally (h : Sit g vb N k S A M F FL Zn w bs t W) (hk : k < 12) : (loadSt_T (.pointer (some ⟨vb, k * 6 + 2, none⟩))).run Tryz.prog W = .ok (.agg (tlyS.f t).toArray) W ∧ (∀ t' : Tl, (storeT (.pointer (some ⟨vb, k * 6 + 2, none⟩)) (.agg (tlyS.f t').toArray)).run Tryz.prog W = .ok () (W.setCells vb (k * 6 + 2) (tlyS.f t'))) ∧ W.cell? ⟨vb, k * 6, none⟩ = some (.int .i64 (S.P k).st) ∧ W.cell? ⟨vb, k * 6 + 1, none⟩ = some (.int .i64 (S.P k).tr) ∧ W.cell? ⟨vb, k * 6 + 5, none⟩ = some (.int .i64 (S.P k).en) := by
  obtain ⟨c0, c1, c5, -, hr, hth, -⟩ := h.vo.cells hk
  have e : putP S.P k ((S.P k).withT t) k = (S.P k).withT t := putP_same _ _ _
  have hr : W.rangeAt vb (k * 6 + 2) (tlyS.f (putP S.P k ((S.P k).withT t) k).t) := hr
  rw [e] at hr
  have c0 : W.cell? ⟨vb, k * 6, none⟩ = some (.int .i64 (putP S.P k ((S.P k).withT t) k).st) := c0
  have c1 : W.cell? ⟨vb, k * 6 + 1, none⟩ = some (.int .i64 (putP S.P k ((S.P k).withT t) k).tr) := c1
  have c5 : W.cell? ⟨vb, k * 6 + 5, none⟩ = some (.int .i64 (putP S.P k ((S.P k).withT t) k).en) := c5
  rw [e] at c0 c1 c5
  exact ⟨run_loadS (s := tlyS) hr, fun t' => run_storeT hth t', c0, c1, c5⟩
end
theorem cGain (x : Bal) (l : Wgt) (h : balOk x = true) (wx : World) : Calls Tryz.prog 52 #[.agg (balS.f x).toArray, .agg (wgtS.f l).toArray] wx fun e w' => e = .returned (.agg (tlyS.f (gainW x l)).toArray) ∧ Below wx.heap.size wx w' := conv_GainW x l wx h
theorem cSub (a b : Tl) (wx : World) : Calls Tryz.prog 51 #[.agg (tlyS.f a).toArray, .agg (tlyS.f b).toArray] wx fun e w' => e = .returned (.agg (tlyS.f (a.sub b)).toArray) ∧ Below wx.heap.size wx w' := conv_SubW a b wx
theorem cAdd (a b : Tl) {u : Value} {wx : World} (hr : RdT wx u [b]) : Calls Tryz.prog 53 #[.agg (tlyS.f a).toArray, u] wx fun e w' => e = .returned (.agg (tlyS.f (a.add b)).toArray) ∧ Below wx.heap.size wx w' := conv_AddW a b u wx hr
theorem cCap (x : Bal) (h : balOk x = true) (wx : World) : Calls Tryz.prog 48 #[.agg (balS.f x).toArray] wx fun e w' => e = .returned (.int .i64 (capB x)) ∧ Below wx.heap.size wx w' := conv_CapitalW x wx h
end Go.Proofs.YtpkamfbjgdmmoaaGreat
end

section
namespace Go.Proofs.YtpkamfbjgdmmoaaGreat
open Go.RowKit Go.Maps Go.Shelf
set_option linter.unusedVariables false
set_option linter.unusedSimpArgs false

theorem refAt_is {R : List Rfm} {k : Nat} (h : k < R.length) : refAt R k = R[k] := by
  unfold refAt; rw [if_pos (by omega), Int.toNat_natCast, List.getElem?_eq_getElem h]; rfl
section
variable {r N : Nat} {ts : List Trk} {R R' : List Rfm} {F : FP} {w w' w1 : World}
set_option maxRecDepth 100000 in
theorem refer_Get (h : ReX r N ts R F w) {b : Int} (hb : (Lit.int .i64 b).wf = true) : Calls Tryz.prog 21 #[.pointer (some ⟨r, 0, none⟩), .int .i64 b] w fun e w' => e = .returned (.tuple #[.agg (rfS.f (refAt R b)).toArray, .bool (refHas R b)]) ∧ Below w.heap.size w w' := by
  obtain ⟨rb, hrb⟩ : ∃ rb, rb = w.heap.size := ⟨_, rfl⟩
  obtain ⟨W0, hW0⟩ : ∃ W0, W0 = w.alloc (rfS.obj rfS.zero) := ⟨_, rfl⟩
  have hB0 : Below w.heap.size w W0 := by rw [hW0]; exact (Below.refl _ w).alloc (Nat.le_refl _) _
  have hz : W0.heap[rb]? = some (rfS.obj rfS.zero) := by rw [hW0, hrb]; exact World.alloc_heap_new w _
  have h0 := h.below hB0
  obtain ⟨tb, cap, gb, FG, h1, h2, h3, h4, h5, h6, h7, h8, h9⟩ := h0
  have c1 : W0.cell? ⟨r, 1, none⟩ = some (.pointer (some ⟨gb, 0, none⟩)) := by rw [World.cell?, h1]; rfl
  obtain ⟨t, ht⟩ : ∃ t, t = refAt R b := ⟨_, rfl⟩
  obtain ⟨q, hq⟩ : ∃ q, q = refHas R b := ⟨_, rfl⟩
  have hg : Calls Tryz.prog 61 #[.pointer (some ⟨gb, 0, none⟩), .int .i64 0, .int .i64 b] W0 fun e w' => e = .returned (.tuple #[.agg (rfS.f t).toArray, .bool q]) ∧ w'.heap[rb]? = some (rfS.obj rfS.zero) ∧ Below W0.heap.size W0 w' := by
    have := grid_Get_R h4 (a := 0) (by decide) hb
    rw [refAt_get, refHas_get, ← ht, ← hq] at this
    exact this.mono fun e w' ⟨he, hb⟩ => ⟨he, (hb.block rb (Array.getElem?_eq_some_iff.1 hz).1).trans hz, hb⟩
  have HG := Lib.hid hg
  have HW0 := Lib.hid (And.intro hW0 hrb)
  have HB0 := Lib.hid hB0
  rw [← ht, ← hq]
  clear h h1 h2 h3 h4 h5 h6 h7 h8 h9 hg ht hq hz hB0 hW0 hrb hb
  go_enter Tryz.func21, Tryz.ntmps21
  go_upto_region 1 with (first | (refine wpl_allocS (s := rfS) rfl rfl rfl ?_) | fail)
  rw [← HW0.out.1, ← HW0.out.2]
  go_wp2_with (first
    | (go_at_call 61; refine HG.out.mono ?_; rintro e w2 ⟨rfl, hz2, hb⟩; have H2 := Lib.hid (And.intro hz2 hb); clear hz2 hb)
    | (refine wpl_storeS (s := rfS) (t := t) (b := rb) _ _ rfl rfl rfl rfl rfl H2.out.1 (zeroS rfS) ?_)
    | fail)
  exact bodyPost_ret (v := .tuple #[rfS.v t, .bool q]) (results_S2 (s := rfS) Tryz.results21 rfl rfl (rangeAt_whole (T := rfS.T) (setRow_heap _ _ _ _ _ _ H2.out.1))) rfl ⟨rfl, by
    have hb := HB0.out.trans (H2.out.2.mono HB0.out.size)
    exact ⟨hb.os, hb.tape, hb.output, by have := hb.size; simpa [World.setRow] using this, fun k hk => (setRow_other _ _ _ _ (by have := HW0.out.2; omega)).trans (hb.block k hk)⟩⟩
set_option maxRecDepth 100000 in
attribute [local go_sem ↓] loadSt_R_hide in
/-- A referendum is set: one that there is, or the next one. -/
theorem refer_set (h : ReX r N ts R F w) (hN : N ≤ w.heap.size) {k : Nat} (hk : k ≤ R.length) (hl : R.length ≤ 1000) (x : Rfm) (hr' : R' = if k < R.length then R.set k x else R ++ [x]) : Calls Tryz.prog 41 #[.pointer (some ⟨r, 0, none⟩), .int .i64 k, .agg (rfS.f x).toArray] w fun e w' => e = .returned (.tuple #[]) ∧ ReTo r N ts R' F w w' := by
  obtain ⟨W0, hW0⟩ : ∃ W0, W0 = w.alloc (.cells (rfS.f x).toArray 56) := ⟨_, rfl⟩
  have hB0 : Below w.heap.size w W0 := by rw [hW0]; exact (Below.refl _ w).alloc (Nat.le_refl _) _
  have h0 := h.below hB0
  obtain ⟨tb, cap, gb, FG, h1, h2, h3, h4, h5, h6, h7, h8, h9⟩ := h0
  have c1 : W0.cell? ⟨r, 1, none⟩ = some (.pointer (some ⟨gb, 0, none⟩)) := by rw [World.cell?, h1]; rfl
  obtain ⟨rb, hrb⟩ : ∃ rb, rb = w.heap.size := ⟨_, rfl⟩
  have lx : (loadSt_R (.pointer (some ⟨rb, 0, none⟩))).run Tryz.prog W0.drew = .ok (.agg (rfS.f x).toArray) W0.drew := run_loadSt_R (show W0.drew.rangeAt rb 0 (rfS.f x) from rangeAt_block (w := W0) (by rw [hW0, hrb]; exact atS rfS w x) rfl)
  have eM : cput (tabR 0 R) 0 k x = tabR 0 R' := by
    rw [hr']
    by_cases q : k < R.length
    · rw [if_pos q]; exact put_tabR_old q x
    · rw [if_neg q]
      obtain rfl : k = R.length := by omega
      exact put_tabR_new R x
  have hset : Calls Tryz.prog 84 #[.pointer (some ⟨gb, 0, none⟩), .int .i64 0, .int .i64 k, .agg (rfS.f x).toArray] W0.drew fun e w' => e = .returned (.tuple #[]) ∧ ReTo r N ts R' F w w' := by
    refine (grid_Set_R (h4.keep (w' := W0.drew) ⟨rfl, rfl, rfl, Nat.le_refl _⟩ (fun _ _ => rfl)) (by rw [tabR_len]; omega) (a := 0) (by decide) (wfS (by omega) (by omega)) x).mono ?_
    rintro e w' ⟨rfl, FG', k1, k2, k3⟩
    rw [eM] at k1
    have hs0 : w.heap.size ≤ W0.heap.size := hB0.size
    have hs1 : W0.heap.size ≤ w'.heap.size := k3.grow.size
    have hrl : r < W0.heap.size := (Array.getElem?_eq_some_iff.1 h1).1
    have hFn : ∀ k, FG k → k ≠ r ∧ k ≠ tb := fun k hk => (h5 k hk).2
    refine ⟨rfl, fun k => k = r ∨ k = tb ∨ FG' k, ⟨tb, cap, gb, FG', (k3.block r hrl (fun hf => (hFn r hf).1 rfl) (fun h => h)).trans h1, rangeAt_block (w := W0) h2 (k3.block tb h3 (fun hf => (hFn tb hf).2 rfl) (fun h => h)), Nat.lt_of_lt_of_le h3 hs1, k1, fun k hk => ?_, h6, h7, h8, fun k => Iff.rfl⟩, fun k hk => ?_, ?_⟩
    · rcases k2 k hk with e | e
      · exact h5 k e
      · have e : W0.heap.size ≤ k := e
        exact ⟨by omega, by omega, by omega⟩
    · rcases hk with e | e | e
      · exact .inl ((h9 k).2 (.inl e))
      · exact .inl ((h9 k).2 (.inr (.inl e)))
      · exact (k2 k e).imp (fun e => (h9 k).2 (.inr (.inr e))) (fun e => by have e : W0.heap.size ≤ k := e; omega)
    · exact ⟨(Grow.of_below hB0).trans (show Grow W0 w' from ⟨k3.grow.os, k3.grow.tape, k3.grow.output, k3.grow.size⟩), fun j hj h8 h9' => ((k3.block j (by show j < W0.heap.size; omega) (fun hf => h8 ((h9 j).2 (.inr (.inr hf)))) (fun h => h)).trans (show W0.drew.heap[j]? = W0.heap[j]? from rfl)).trans (hB0.block j hj)⟩
  have HS := Lib.hid hset
  have HW0 := Lib.hid (And.intro hW0 hrb)
  have mixed : Tryz.prog.follows .mixedOrders = true := by kernel_rfl
  clear h h1 h2 h3 h4 h5 h6 h7 h8 h9 hset hB0 hW0 hrb eM hr' hN hk hl
  go_enter Tryz.func41, Tryz.ntmps41
  go_upto_region 1 with fail
  rw [← HW0.out.1, ← HW0.out.2]
  go_still_tail 6, (by kernel_rfl)
  change wpList _ _ _ _ _ W0.drew
  go_wp2_with (first
    | (go_at_call 84; refine HS.out.mono ?_; rintro e w2 ⟨rfl, hto⟩; have H2 := Lib.hid hto; clear hto)
    | fail)
  exact bodyPost_end (results_none rfl _ _ _) rfl ⟨rfl, H2.out⟩
/-- What ongoing answers: 4, there is none; 9, it has ended. -/
def ongE (R : List Rfm) (b : Int) : Int := if refHas R b then (if (refAt R b).st = 1 then 0 else 9) else 4
def ongV (R : List Rfm) (b : Int) : Rfm := if ongE R b = 0 then refAt R b else rf0
set_option maxRecDepth 100000 in
set_option maxHeartbeats 4000000 in
attribute [local go_sem ↓] loadSt_R_hide in
theorem refer_ongoing (h : ReX r N ts R F w) {b : Int} (hb : (Lit.int .i64 b).wf = true) : Calls Tryz.prog 42 #[.pointer (some ⟨r, 0, none⟩), .int .i64 b] w fun e w' => e = .returned (.tuple #[.agg (rfS.f (ongV R b)).toArray, .int .i64 (ongE R b)]) ∧ Below w.heap.size w w' := by
  obtain ⟨rb, hrb⟩ : ∃ rb, rb = w.heap.size := ⟨_, rfl⟩
  obtain ⟨W0, hW0⟩ : ∃ W0, W0 = w.alloc (rfS.obj rfS.zero) := ⟨_, rfl⟩
  have hB0 : Below w.heap.size w W0 := by rw [hW0]; exact (Below.refl _ w).alloc (Nat.le_refl _) _
  have hz : W0.heap[rb]? = some (rfS.obj rfS.zero) := by rw [hW0, hrb]; exact World.alloc_heap_new w _
  obtain ⟨t, ht⟩ : ∃ t, t = refAt R b := ⟨_, rfl⟩
  obtain ⟨q, hq⟩ : ∃ q, q = refHas R b := ⟨_, rfl⟩
  have hg : Calls Tryz.prog 21 #[.pointer (some ⟨r, 0, none⟩), .int .i64 b] W0 fun e w' => e = .returned (.tuple #[.agg (rfS.f t).toArray, .bool q]) ∧ w'.heap[rb]? = some (rfS.obj rfS.zero) ∧ Below W0.heap.size W0 w' := by
    rw [ht, hq]
    exact (refer_Get (h.below hB0) hb).mono fun e w' ⟨he, hb⟩ => ⟨he, (hb.block rb (Array.getElem?_eq_some_iff.1 hz).1).trans hz, hb⟩
  have eE : ongE R b = if q = true then (if t.st = 1 then 0 else 9) else 4 := by unfold ongE; rw [ht, hq]
  have eV : ongV R b = if ongE R b = 0 then t else rf0 := by unfold ongV; rw [ht]
  rw [eV, eE]
  have HG := Lib.hid hg
  have HW0 := Lib.hid (And.intro hW0 hrb)
  have HB0 := Lib.hid (And.intro hB0 hrb)
  clear h hg ht hq hz hB0 hW0 hrb hb eE eV
  have fin : ∀ (w2 : World) (y : Rfm), w2.heap[rb]? = some (rfS.obj rfS.zero) → Below W0.heap.size W0 w2 → Below w.heap.size w ((w2.alloc (rfS.obj t)).setRow rb (rfS.f y).toArray) := fun w2 y hz hb => by
    have hb := (HB0.out.1.trans (hb.mono HB0.out.1.size)).alloc (by have := HB0.out.1.size; have := hb.size; omega) (rfS.obj t)
    exact ⟨hb.os, hb.tape, hb.output, by have := hb.size; simpa [World.setRow] using this, fun k hk => (setRow_other _ _ _ _ (by have := HB0.out.2; omega)).trans (hb.block k hk)⟩
  have FIN := Lib.hid fin
  have hk : ∀ (w2 : World), w2.heap[rb]? = some (rfS.obj rfS.zero) → (w2.alloc (rfS.obj t)).heap[rb]? = some (rfS.obj rfS.zero) := fun w2 hz => (Below.heap_alloc _ _ _ (Array.getElem?_eq_some_iff.1 hz).1).trans hz
  have HK := Lib.hid hk
  clear fin hk
  have c0 : ∀ w2 : World, (w2.alloc (rfS.obj t)).cell? ⟨w2.heap.size, 0, none⟩ = some (.int .i64 t.st) := fun w2 => (rf_at (atS rfS w2 t)).1
  have lt0 : ∀ w2 : World, (loadSt_R (.pointer (some ⟨w2.heap.size, 0, none⟩))).run Tryz.prog (w2.alloc (rfS.obj t)) = .ok (.agg (rfS.f t).toArray) (w2.alloc (rfS.obj t)) := fun w2 => run_loadSt_R (atS rfS w2 t)
  have LT0 := Lib.hid lt0
  have C0 := Lib.hid c0
  clear c0 lt0
  cases q
  · rw [show (if (false : Bool) = true then (if t.st = 1 then (0 : Int) else 9) else 4) = 4 from rfl, if_neg (by decide : ¬ (4 : Int) = 0)]
    go_enter Tryz.func42, Tryz.ntmps42
    go_upto_region 1 with (first | (refine wpl_allocS (s := rfS) rfl rfl rfl ?_) | fail)
    rw [← HW0.out.1, ← HW0.out.2]
    go_wp2_with (first
      | (go_at_call 21; refine HG.out.mono ?_; rintro e w2 ⟨rfl, hz2, hb⟩; have H2 := Lib.hid (And.intro hz2 hb); clear hz2 hb)
      | (refine wpl_allocS (s := rfS) rfl rfl rfl ?_)
      | (refine wpl_storeS (s := rfS) (t := t) (b := w2.heap.size) _ _ rfl rfl rfl rfl rfl (World.alloc_heap_new w2 _) (zeroS rfS) ?_; rw [newS])
      | (refine wpl_storeS (s := rfS) (t := rf0) (b := rb) _ _ rfl rfl rfl rfl rfl (HK.out _ H2.out.1) (zeroS rfS) ?_)
      | fail)
    exact bodyPost_ret (v := .tuple #[rfS.v rf0, .int .i64 4]) (results_S2 (s := rfS) Tryz.results42 rfl rfl (rangeAt_whole (T := rfS.T) (setRow_heap _ _ _ _ _ _ (HK.out _ H2.out.1)))) rfl ⟨rfl, FIN.out _ _ H2.out.1 H2.out.2⟩
  · rw [if_pos rfl]
    by_cases q1 : t.st = 1
    · rw [if_pos q1, if_pos rfl]
      have q1' : (t.st != 1) = false := by simp [q1]
      have HQ := Lib.hid q1
      clear q1
      go_enter Tryz.func42, Tryz.ntmps42
      go_upto_region 1 with (first | (refine wpl_allocS (s := rfS) rfl rfl rfl ?_) | fail)
      rw [← HW0.out.1, ← HW0.out.2]
      go_wp2_with (first
        | (go_at_call 21; refine HG.out.mono ?_; rintro e w2 ⟨rfl, hz2, hb⟩; have H2 := Lib.hid (And.intro hz2 hb); clear hz2 hb)
        | (refine wpl_allocS (s := rfS) rfl rfl rfl ?_)
        | (refine wpl_storeS (s := rfS) (t := t) (b := w2.heap.size) _ _ rfl rfl rfl rfl rfl (World.alloc_heap_new w2 _) (zeroS rfS) ?_; rw [newS]; have c0 := C0.out w2; have l0 := LT0.out w2)
        | (refine wpl_storeS (s := rfS) (t := t) (b := rb) _ _ rfl rfl rfl rfl rfl (HK.out _ H2.out.1) (zeroS rfS) ?_)
        | fail)
      exact bodyPost_ret (v := .tuple #[rfS.v t, .int .i64 0]) (results_S2 (s := rfS) Tryz.results42 rfl rfl (rangeAt_whole (T := rfS.T) (setRow_heap _ _ _ _ _ _ (HK.out _ H2.out.1)))) rfl ⟨rfl, FIN.out _ _ H2.out.1 H2.out.2⟩
    · rw [if_neg q1, if_neg (by decide)]
      have q1' : (t.st != 1) = true := by simp [q1]
      have HQ := Lib.hid q1
      clear q1
      go_enter Tryz.func42, Tryz.ntmps42
      go_upto_region 1 with (first | (refine wpl_allocS (s := rfS) rfl rfl rfl ?_) | fail)
      rw [← HW0.out.1, ← HW0.out.2]
      go_wp2_with (first
        | (go_at_call 21; refine HG.out.mono ?_; rintro e w2 ⟨rfl, hz2, hb⟩; have H2 := Lib.hid (And.intro hz2 hb); clear hz2 hb)
        | (refine wpl_allocS (s := rfS) rfl rfl rfl ?_)
        | (refine wpl_storeS (s := rfS) (t := t) (b := w2.heap.size) _ _ rfl rfl rfl rfl rfl (World.alloc_heap_new w2 _) (zeroS rfS) ?_; rw [newS]; have c0 := C0.out w2; have l0 := LT0.out w2)
        | (refine wpl_storeS (s := rfS) (t := rf0) (b := rb) _ _ rfl rfl rfl rfl rfl (HK.out _ H2.out.1) (zeroS rfS) ?_)
        | fail)
      exact bodyPost_ret (v := .tuple #[rfS.v rf0, .int .i64 9]) (results_S2 (s := rfS) Tryz.results42 rfl rfl (rangeAt_whole (T := rfS.T) (setRow_heap _ _ _ _ _ _ (HK.out _ H2.out.1)))) rfl ⟨rfl, FIN.out _ _ H2.out.1 H2.out.2⟩
end
/-- Is there a poll of that number? -/
theorem refer_hasPoll {vb N : Nat} {S : Vs} {F : FP} {w : World} (h : VoX vb N S F w) (r : Int) : Calls Tryz.prog 38 #[.pointer (some ⟨vb, 0, none⟩), .int .i64 r] w fun e w' => e = .returned (.bool (decide (plHas S.P r))) ∧ VoTo vb N S F w w' := by
  have hc := h.Close r 1 0
  have e1 : closeS S r 1 0 = S := by
    unfold closeS
    rw [if_neg]
    unfold closeE
    split
    · decide
    · split
      · decide
      · rw [if_pos (by omega)]; decide
  have e2 : (closeE S.P r 1 != 4) = decide (plHas S.P r) := by
    unfold closeE plHas
    by_cases q : (0 ≤ r ∧ r < 12) ∧ (S.P r.toNat).st ≠ 0
    · rw [if_neg (fun h => h q)]
      split
      · simp [q]
      · rw [if_pos (by omega)]; simp [q]
    · rw [if_pos q]; simp [q]
  rw [e1] at hc
  rw [← e2]
  have HC := Lib.hid hc
  clear hc e1 e2
  obtain ⟨E, hE⟩ : ∃ E, E = closeE S.P r 1 := ⟨_, rfl⟩
  rw [← hE] at HC ⊢
  clear hE
  go_enter Tryz.func38, Tryz.ntmps38
  go_wp2_with (first
    | (go_at_call 82; refine HC.out.mono ?_; rintro e w2 ⟨rfl, hto⟩; have H2 := Lib.hid hto; clear hto)
    | fail)
  go_ret
  exact ⟨rfl, H2.out⟩
end Go.Proofs.YtpkamfbjgdmmoaaGreat
end

section
namespace Go.Proofs.YtpkamfbjgdmmoaaGreat
open Go.RowKit
set_option linter.unusedVariables false

/-- A track and a tally lie in the first two blocks behind w0's. -/
structure PBox (w0 : World) (t : Trk) (x y s : Int) (w : World) : Prop where
  box : KBox w0 t w
  d0 : w.cell? ⟨w0.heap.size + 1, 0, none⟩ = some (.int .i64 x)
  d1 : w.cell? ⟨w0.heap.size + 1, 1, none⟩ = some (.int .i64 y)
  d2 : w.cell? ⟨w0.heap.size + 1, 2, none⟩ = some (.int .i64 s)
  lt : w0.heap.size + 1 < w.heap.size
theorem PBox.below {w0 : World} {t : Trk} {x y s : Int} {w w' : World} (h : PBox w0 t x y s w) (hb : Below w.heap.size w w') : PBox w0 t x y s w' :=
  ⟨h.box.below hb, ((bcell hb).1 _ _ h.lt).trans h.d0, ((bcell hb).1 _ _ h.lt).trans h.d1, ((bcell hb).1 _ _ h.lt).trans h.d2, Nat.lt_of_lt_of_le h.lt hb.size⟩
theorem PBox.new {t : Trk} {x y s : Int} {w : World} {T U : TypeId} : PBox w t x y s ((w.alloc (.cells t.cells T)).alloc (.cells #[.int .i64 x, .int .i64 y, .int .i64 s] U)) :=
  ⟨KBox.new.below (below_new (Below.refl _ _) _), by simp, by simp, by simp, by simp⟩

def placeI (t : Trk) (el : Int) : Int := ratioI (min el t.dec) t.dec
def passB (t : Trk) (x y s i el : Int) : Bool :=
  decide (atI t.ak t.aa t.ab t.ac t.ad (placeI t el) ≤ ratioI x (x + y)) && decide (atI t.sk t.sa t.sb t.sc t.sd (placeI t el) ≤ ratioI s i)

theorem trackB_out {t : Trk} (h : trackB t = true) : (1 ≤ t.dec ∧ t.dec ≤ 1000) ∧ isB t.ak t.aa t.ab t.ac t.ad = true ∧ isB t.sk t.sa t.sb t.sc t.sd = true := by
  simp only [trackB, Bool.and_eq_true] at h
  obtain ⟨⟨⟨⟨-, h1⟩, h2⟩, h3⟩, -⟩ := h
  exact ⟨withinB_out h1, h2, h3⟩

set_option maxHeartbeats 4000000 in
theorem track_Passing (t : Trk) (x y s i el : Int) (w : World) (h : Fits10 x y s i) (ht : trackB t = true) (e0 : 0 ≤ el) :
    Calls Tryz.prog 98 #[t.val, tally x y s, .int .i64 i, .int .i64 el] w fun e w' => e = .returned (.bool (passB t x y s i el)) ∧ Below w.heap.size w w' := by
  obtain ⟨⟨d0, d1⟩, ia, is⟩ := trackB_out ht
  have HP : Hid (passB t x y s i el = (decide (atI t.ak t.aa t.ab t.ac t.ad (placeI t el) ≤ ratioI x (x + y)) && decide (atI t.sk t.sa t.sb t.sc t.sd (placeI t el) ≤ ratioI s i))) := Lib.hid rfl
  have HM : Hid (ratioI (min el t.dec) t.dec = placeI t el) := Lib.hid rfl
  generalize hm : min el t.dec = m at HM
  have m0 : 0 ≤ m := by omega
  have m1 : m ≤ t.dec := by omega
  have E : (if t.dec < el then t.dec else el) = m := by omega
  have E0 : min el t.dec = m := by omega
  clear hm
  have E2 := HM.out
  go_enter Tryz.func98, Tryz.ntmps98
  go_wp2_with (first | (go_at_call 122; refine (per_Ratio _ _ _ (by omega) (by omega) (by omega) (by omega)).mono ?_; rintro e w' ⟨rfl, rfl⟩) | (go_at_call 123; refine (track_Shares _ _ _ _ _ h).mono ?_; rintro e w1 ⟨rfl, hb1⟩; have B1 := PBox.new.below hb1; clear hb1; have x6 := B1.box.c6; have x7 := B1.box.c7; have x8 := B1.box.c8; have x9 := B1.box.c9; have x10 := B1.box.c10; have x11 := B1.box.c11; have x12 := B1.box.c12; have x13 := B1.box.c13; have x14 := B1.box.c14; have x15 := B1.box.c15) | fail)
  refine (per_At _ _ _ _ _ _ _ ia).mono ?_
  rintro e w2 ⟨rfl, hb2⟩
  have B2 := B1.below hb2
  clear hb2 x6 x7 x8 x9 x10 x11 x12 x13 x14 x15
  have x11 := B2.box.c11; have x12 := B2.box.c12; have x13 := B2.box.c13; have x14 := B2.box.c14; have x15 := B2.box.c15
  go_wp2_with (first | (go_at_call 124; refine (per_At _ _ _ _ _ _ _ is).mono ?_; rintro e w3 ⟨rfl, hb3⟩; have B3 := B2.below hb3) | fail)
  all_goals
    go_ret
    exact ⟨cvRet_bool (by rw [HP.out]; first | (simp [*]; done) | (simp; omega)), (by first | exact B3.box.old | exact B2.box.old)⟩

end Go.Proofs.YtpkamfbjgdmmoaaGreat
end
