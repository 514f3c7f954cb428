/-
  The reference's reader of rows.
-/
import Derived.Test.YteioacpfphigjaaGreatDoorMgj
namespace Go.Proofs.YteioacpfphigjaaGreatDoor
open Go.RowKit Go.Maps
set_option linter.unusedVariables false
set_option linter.unusedSimpArgs false

theorem cutL_some {l p : List Nat} {s : Nat} (h : cutL l = some (p, s)) : ∃ q n, p = (l.drop q).take n ∧ s ≤ l.length ∧ 1 ≤ s := by
  unfold cutL at h
  cases ht : takeL l with
  | none => rw [ht] at h; simp at h
  | some x =>
    obtain ⟨n, q⟩ := x
    rw [ht] at h
    have hq := takeL_le ht
    simp only at h
    split at h
    · simp at h
    · simp only [Option.some.injEq, Prod.mk.injEq] at h
      obtain ⟨rfl, rfl⟩ := h
      exact ⟨q, n, rfl, by omega, by omega⟩
/-- Bytes: each is below 256, and there are not too many. -/
def ByL (l : List Nat) : Prop := (∀ c ∈ l, c < 256) ∧ l.length ≤ 1000000000
theorem ByL.drop {l : List Nat} (h : ByL l) (s : Nat) : ByL (l.drop s) := ⟨fun c hc => h.1 c (List.mem_of_mem_drop hc), by have := h.2; rw [List.length_drop]; omega⟩
theorem RdB.tail {w : World} {v : Value} {l : List Nat} (h : RdB w v l) {s : Nat} (hs : s ≤ l.length) : ∃ ao cap, v = .slice ao l.length cap ∧ l.length ≤ cap ∧ ((s = cap ∧ l.drop s = []) ∨ (s ≠ cap ∧ ∃ a, ao = some a ∧ RdB w (.slice (some (a.add s)) (l.drop s).length (cap - s)) (l.drop s))) := by
  rcases h with ⟨rfl, rfl⟩ | ⟨⟨blk, off, spot⟩, cap, rfl, hcap, hcell⟩
  · exact ⟨none, 0, rfl, by simp, Or.inl ⟨by simp at hs; exact hs, by simp⟩⟩
  · refine ⟨some _, cap, rfl, hcap, ?_⟩
    by_cases hc : s = cap
    · exact Or.inl ⟨hc, List.drop_of_length_le (by omega)⟩
    · refine Or.inr ⟨hc, _, rfl, Or.inr ⟨_, _, rfl, by rw [List.length_drop]; omega, fun i hi => ?_⟩⟩
      rw [List.length_drop] at hi
      have h1 := hcell (s + i) (by omega)
      have e : ((⟨blk, off, spot⟩ : Addr).add s).add i = (⟨blk, off, spot⟩ : Addr).add (s + i) := by
        by_cases z1 : s = 0
        · subst z1; simp [Addr.add]
        · by_cases z2 : i = 0
          · subst z2; simp [Addr.add]
          · simp only [Addr.add, Nat.add_assoc, if_neg z1, if_neg z2, if_neg (show ¬ s + i = 0 by omega)]
      rw [e, h1]
      simp [List.getElem?_drop]
theorem rd_none {w : World} {ao : Option Addr} {m c : Nat} (hm : m = 0) (hc : ao = none → c = 0) : RdB w (.slice ao m c) [] := by
  subst hm
  cases ao with
  | none => exact .inl ⟨by rw [hc rfl], rfl⟩
  | some a => exact .inr ⟨a, c, rfl, Nat.zero_le _, fun i hi => by simp at hi⟩
theorem below_setW {w w1 : World} {b i : Nat} {v : Value} (h : Below w.heap.size w w1) : w.grownBy (w1.setCell ⟨b, i, none⟩ v) (some b) :=
  ⟨h.os, h.tape, h.output, by simp [World.setCell]; exact h.size, fun k hk hne => (heap_setCell_other _ _ _ _ (by show k ≠ b; exact fun e => hne (by rw [e]))).trans (h.block k hk)⟩
/-- The reference's reader at block b, with this left, erred or not. -/
def RBe (w : World) (b : Nat) (v : Value) (E : Bool) : Prop := w.heap[b]? = some (.cells #[v, .bool E] 97 (0, 0))
theorem RBe.cell0 {w : World} {b : Nat} {v : Value} {E : Bool} (h : RBe w b v E) : w.cell? ⟨b, 0, none⟩ = some v := by simp [World.cell?, show w.heap[b]? = _ from h]
theorem RBe.cell1 {w : World} {b : Nat} {v : Value} {E : Bool} (h : RBe w b v E) : w.cell? ⟨b, 1, none⟩ = some (.bool E) := by simp [World.cell?, show w.heap[b]? = _ from h]
theorem RBe.frozen {w : World} {b : Nat} {v : Value} {E : Bool} (h : RBe w b v E) (i : Nat) : w.frozen? ⟨b, i, none⟩ = false := by simp [World.frozen?, show w.heap[b]? = _ from h]
theorem RBe.lt {w : World} {b : Nat} {v : Value} {E : Bool} (h : RBe w b v E) : b < w.heap.size := (Array.getElem?_eq_some_iff.1 h).1
theorem RBe.set0 {w : World} {b : Nat} {v : Value} {E : Bool} (v' : Value) (h : RBe w b v E) : RBe (w.setCell ⟨b, 0, none⟩ v') b v' E := heap_setCell_same w b 0 _ _ v' h
theorem RBe.set1 {w : World} {b : Nat} {v : Value} {E : Bool} (E' : Bool) (h : RBe w b v E) : RBe (w.setCell ⟨b, 1, none⟩ (.bool E')) b v E' := heap_setCell_same w b 1 _ _ (.bool E') h
def rfR (l : List Nat) (E : Bool) : List Nat × List Nat × Bool := if E = true then ([], l, true) else match cutL l with
  | some (p, s) => (p, l.drop s, false)
  | none => ([], l, true)
/-- What a row's cut tells, read of an earlier world. -/
def CutRetW (o : Option (List Nat × Nat)) (w0 w : World) (e : Ending) (w' : World) : Prop :=
  Below w.heap.size w w' ∧ match o with
  | none => e = .returned (.tuple #[.slice none 0 0, .int .i64 0, .bool false])
  | some (p, s) => ∃ v, e = .returned (.tuple #[v, .int .i64 (s : Nat), .bool true]) ∧ RdB w0 v p
set_option maxHeartbeats 1000000 in
theorem ref_CutW (v : Value) (l : List Nat) (w0 w : World) (h0 : Below w0.heap.size w0 w) (hr : RdB w0 v l) (hb : ∀ b ∈ l, b < 256) (hm : l.length ≤ 1000000000) :
    Calls Tryz.prog 120 #[v] w (CutRetW (cutL l) w0 w) := by
  have h := hr.below h0
  have HR0 : Hid (RdB w0 v l) := Lib.hid hr
  clear hr
  have HB := Lib.hid hb
  have HR : Hid (RdB w v l) := Lib.hid h
  cases ht : takeL l with
  | none =>
    have hc : cutL l = none := by unfold cutL; rw [ht]
    rw [hc]
    have HT := Lib.hid ht
    obtain ⟨ao, cap, rfl⟩ := h.lenOf
    clear h hb hc ht
    go_enter Tryz.func120, Tryz.ntmps120
    go_wp2_with (first | (go_at_call 185; refine (ref_Take _ _ _ HR.out HB.out).mono ?_; rw [HT.out]; rintro e w' ⟨rfl, hb1⟩; simp only [takeV]) | fail)
    go_ret3
    exact ⟨hb1, rfl⟩
  | some x =>
    obtain ⟨n, s⟩ := x
    obtain ⟨hs, hn, hs1⟩ := takeL_le ht
    have hc : cutL l = if n > l.length - s then none else some ((l.drop s).take n, s + n) := by unfold cutL; rw [ht]
    rw [hc]
    clear hc
    have HT := Lib.hid ht
    clear ht
    rcases h with ⟨-, h⟩ | ⟨⟨blk, off, spot⟩, cap, rfl, hcap, hcell⟩
    · subst h; simp at hs; omega
    have hspot : spot = none := by
      have := World.cell?_spot (hcell 0 (by omega)); simpa [Addr.add] using this
    subst hspot
    clear hcell hb
    by_cases hgt : n > l.length - s
    · rw [if_pos hgt]
      have g1 : decide ((l.length : Int) - (s : Int) < (n : Int)) = true := by simp; omega
      go_enter Tryz.func120, Tryz.ntmps120
      go_wp2_with (first | (go_at_call 185; refine (ref_Take _ _ _ HR.out HB.out).mono ?_; rw [HT.out]; rintro e w' ⟨rfl, hb1⟩; simp only [takeV]) | fail)
      go_ret3
      exact ⟨hb1, rfl⟩
    · rw [if_neg hgt]
      have g1 : decide ((l.length : Int) - (s : Int) < (n : Int)) = false := by simp; omega
      have hx1 : (s : Int) + (n : Int) ≤ (cap : Int) := by omega
      have hx2 : ((s : Int) + (n : Int)).toNat = s + n := by omega
      have hx3 : s + n - s = n := by omega
      have hlen : ((l.drop s).take n).length = n := by simp; omega
      have HL := Lib.hid hlen
      clear hlen
      by_cases hcs : s = cap
      · subst hcs
        obtain rfl : n = 0 := by omega
        have hrd : ∀ w, RdB w (.slice (some ⟨blk, off, none⟩) 0 0) ((l.drop s).take 0) := fun w => .inr ⟨_, _, rfl, by simp, fun i hi => by simp at hi⟩
        have HRD := Lib.hid hrd
        clear hrd
        go_enter Tryz.func120, Tryz.ntmps120
        go_wp2_with (first | (go_at_call 185; refine (ref_Take _ _ _ HR.out HB.out).mono ?_; rw [HT.out]; rintro e w' ⟨rfl, hb1⟩; simp only [takeV]) | fail)
        go_ret3
        exact ⟨hb1, _, rfl, HRD.out _⟩
      · have hrd := rd_drop HR0.out (s := s) (k := n) (by omega) rfl
        have HRD := Lib.hid hrd
        have hcs' : (cap = s) = False := by simp; omega
        clear hrd
        go_enter Tryz.func120, Tryz.ntmps120
        go_wp2_with (first | (go_at_call 185; refine (ref_Take _ _ _ HR.out HB.out).mono ?_; rw [HT.out]; rintro e w' ⟨rfl, hb1⟩; simp only [takeV]) | fail)
        go_ret3
        exact ⟨hb1, _, rfl, HRD.out⟩

set_option maxHeartbeats 4000000 in
theorem ref_RdRowW (rb : Nat) (v : Value) (E : Bool) (l : List Nat) (w0 w : World) (h0 : Below w0.heap.size w0 w) (hr : RdB w0 v l) (hbx : RBe w rb v E) (hb : ByL l) :
    Calls Tryz.prog 49 #[.pointer (some ⟨rb, 0, none⟩)] w fun e w' => ∃ u, e = .returned u ∧ RdB w0 u (rfR l E).1 ∧ w.grownBy w' (some rb) ∧ ∃ v', RBe w' rb v' (rfR l E).2.2 ∧ RdB w0 v' (rfR l E).2.1 := by
  have hT := ref_CutW v l w0 w h0 hr hb.1 hb.2
  have hlt := hbx.lt
  by_cases hE : E = true ∨ cutL l = none
  · have hres : rfR l E = ([], l, true) := by
      unfold rfR
      rcases hE with rfl | h
      · rfl
      · cases E <;> simp [h]
    rw [hres]
    have HT := Lib.hid hT
    have HX := Lib.hid hbx
    have HR := Lib.hid hr
    have hend : ∀ w1, Below w.heap.size w w1 → w.grownBy (w1.setCell ⟨rb, 1, none⟩ (.bool true)) (some rb) ∧ RBe (w1.setCell ⟨rb, 1, none⟩ (.bool true)) rb v true := fun w1 hb1 =>
      ⟨below_setW hb1, RBe.set1 true ((hb1.block rb hlt).trans hbx)⟩
    have HE := Lib.hid hend
    have c0 := hbx.cell0
    clear hT hres hb h0 hr hbx hend
    cases ht : cutL l with
    | none =>
      have HT2 := Lib.hid ht
      clear ht hE
      go_enter Tryz.func49, Tryz.ntmps49
      cases E
      all_goals
        go_wp2_with (first
          | (go_at_call 120; refine HT.out.mono ?_; rw [HT2.out]; rintro e w1 ⟨hb1, rfl⟩; have hx1 : RBe w1 rb v _ := (hb1.block rb hlt).trans HX.out; have d0 := hx1.cell0; have d1 := hx1.cell1; have f1 := hx1.frozen 1; have H1 := Lib.hid (HE.out w1 hb1); clear hx1 hb1)
          | fail)
        go_ret
        exact ⟨_, rfl, Or.inl ⟨rfl, rfl⟩, H1.out.1, v, H1.out.2, HR.out⟩
    | some x =>
      obtain ⟨pp, s⟩ := x
      have hE' : E = true := by rcases hE with h | h; exact h; rw [ht] at h; cases h
      subst hE'
      have HT2 := Lib.hid ht
      clear ht hE
      go_enter Tryz.func49, Tryz.ntmps49
      go_wp2_with (first
        | (go_at_call 120; refine HT.out.mono ?_; rw [HT2.out]; rintro e w1 ⟨hb1, u1, rfl, hu1⟩; have hx1 : RBe w1 rb v true := (hb1.block rb hlt).trans HX.out; have d0 := hx1.cell0; have d1 := hx1.cell1; have f1 := hx1.frozen 1; have H1 := Lib.hid (HE.out w1 hb1); clear hx1 hb1 hu1)
        | fail)
      go_ret
      exact ⟨_, rfl, Or.inl ⟨rfl, rfl⟩, H1.out.1, v, H1.out.2, HR.out⟩
  · obtain ⟨pp, s, ht⟩ : ∃ pp s, cutL l = some (pp, s) := by
      cases h : cutL l with
      | none => exact absurd (Or.inr h) hE
      | some x => exact ⟨x.1, x.2, rfl⟩
    have hE' : E = false := by
      cases E
      · rfl
      · exact absurd (Or.inl rfl) hE
    subst hE'
    have hres : rfR l false = (pp, l.drop s, false) := by simp [rfR, ht]
    rw [hres]
    rw [ht] at hT
    have hsl : s ≤ l.length := by obtain ⟨q1, q2, q3, q4, q5⟩ := cutL_some ht; exact q4
    obtain ⟨ao, cap, hv, hcap, htl⟩ := hr.tail hsl
    obtain ⟨m, hm⟩ : ∃ m, m = l.length := ⟨_, rfl⟩
    rw [← hm] at hsl hcap hv
    subst hv
    have HT := Lib.hid hT
    have HX := Lib.hid hbx
    have k1 : (0 : Int) ≤ (s : Int) := by omega
    have k2 : (s : Int) ≤ (m : Int) := by omega
    have k3 : (m : Int) ≤ (cap : Int) := by omega
    have k4 : (s : Int) ≤ (cap : Int) := by omega
    have hdl : (l.drop s).length = m - s := by rw [List.length_drop, hm]
    rw [hdl] at htl
    have c0 := hbx.cell0
    clear hT hres hb h0 hr hE ht hdl hm hcap hsl hbx
    rcases htl with ⟨hsc, hnil⟩ | ⟨hsc, a, rfl, htl⟩
    · have HN := Lib.hid hnil
      have hsc' : (cap = s) = True := by simp [hsc]
      have HSC := Lib.hid hsc
      have hms : m - s = 0 := by omega
      clear hnil hsc
      go_enter Tryz.func49, Tryz.ntmps49
      go_wp2_with (first
        | (go_at_call 120; refine HT.out.mono ?_; rintro e w1 ⟨hb1, u1, rfl, hu1⟩; have hx1 : RBe w1 rb _ false := (hb1.block rb hlt).trans HX.out; have d0 := hx1.cell0; have d1 := hx1.cell1; have f0 := hx1.frozen 0; have HX1 := Lib.hid hx1; have HB1 := Lib.hid hb1; have HU1 := Lib.hid hu1; clear hx1 hb1 hu1)
        | fail)
      go_ret
      refine ⟨_, rfl, HU1.out, below_setW HB1.out, _, HX1.out.set0 _, ?_⟩
      rw [HN.out]
      exact rd_none (by omega) (by have := HSC.out; omega)
    · have HN := Lib.hid htl
      have hsc' : (cap = s) = False := by simp; omega
      clear htl hsc
      go_enter Tryz.func49, Tryz.ntmps49
      go_wp2_with (first
        | (go_at_call 120; refine HT.out.mono ?_; rintro e w1 ⟨hb1, u1, rfl, hu1⟩; have hx1 : RBe w1 rb _ false := (hb1.block rb hlt).trans HX.out; have d0 := hx1.cell0; have d1 := hx1.cell1; have f0 := hx1.frozen 0; have HX1 := Lib.hid hx1; have HB1 := Lib.hid hb1; have HU1 := Lib.hid hu1; clear hx1 hb1 hu1)
        | fail)
      go_ret
      exact ⟨_, rfl, HU1.out, below_setW HB1.out, _, HX1.out.set0 _, HN.out⟩

end Go.Proofs.YteioacpfphigjaaGreatDoor
