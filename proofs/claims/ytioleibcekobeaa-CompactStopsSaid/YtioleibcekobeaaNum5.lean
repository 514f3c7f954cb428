/-
  The document's reader: its next number.
-/
import Derived.Test.YtioleibcekobeaaNum4
namespace Go.Proofs.Ytioleibcekobeaa
open Go.RowKit Go.Shelf
set_option linter.unusedVariables false

/-- A reader at block b, with this left, which has not erred. -/
def RBox (w : World) (b : Nat) (v : Value) : Prop := w.heap[b]? = some (.cells #[v, .bool false] 45 (0, 0))

theorem RBox.cell0 {w : World} {b : Nat} {v : Value} (h : RBox w b v) : w.cell? ⟨b, 0, none⟩ = some v := by simp [World.cell?, show w.heap[b]? = _ from h]
theorem RBox.cell1 {w : World} {b : Nat} {v : Value} (h : RBox w b v) : w.cell? ⟨b, 1, none⟩ = some (.bool false) := by simp [World.cell?, show w.heap[b]? = _ from h]
theorem RBox.frozen {w : World} {b : Nat} {v : Value} (h : RBox w b v) (i : Nat) : w.frozen? ⟨b, i, none⟩ = false := by simp [World.frozen?, show w.heap[b]? = _ from h]
theorem RBox.lt {w : World} {b : Nat} {v : Value} (h : RBox w b v) : b < w.heap.size := (Array.getElem?_eq_some_iff.1 h).1
theorem RBox.set {w : World} {b : Nat} {v : Value} (v' : Value) (h : RBox w b v) : RBox (w.setCell ⟨b, 0, none⟩ v') b v' := by
  obtain ⟨hlt, hk⟩ := Array.getElem?_eq_some_iff.1 h
  show (w.heap.modify b _)[b]? = _
  rw [Array.getElem?_eq_getElem (by rw [Array.size_modify]; exact hlt), Array.getElem_modify_self, hk]
  rfl

/-- What comes back of a reader's Num. -/
def NumRead (b : Nat) (w0 : World) (l : List Nat) (n : Nat) (w : World) (e : Ending) (w' : World) : Prop :=
  e = .returned (.int .i64 (n : Nat)) ∧ Below b w w' ∧ ∃ ao cap, RBox w' b (.slice ao l.length cap) ∧ RdB w0 (.slice ao l.length cap) l

set_option maxHeartbeats 2000000 in
theorem ref_RNum (b : Nat) (w0 : World) (v : Value) (l : List Nat) (n s : Nat) (w : World) (h0 : Below w0.heap.size w0 w) (hr : RdB w0 v l) (hbx : RBox w b v) (hb : ∀ x ∈ l, x < 256) (ht : takeL l = some (n, s)) :
    Calls Try.prog 24 #[.pointer (some ⟨b, 0, none⟩)] w (NumRead b w0 (l.drop s) n w) := by
  have HT := Lib.hid ht
  have HR := Lib.hid hr
  have HB := Lib.hid hb
  have HB0 := Lib.hid h0
  obtain ⟨hs1, hs2⟩ := takeL_pos ht
  rcases hr with ⟨-, h⟩ | ⟨⟨blk, off, spot⟩, cap, rfl, hcap, hcell⟩
  · subst h; simp at hs2; omega
  have hspot : spot = none := by
    have := World.cell?_spot (hcell 0 (by omega)); simpa [Addr.add] using this
  subst hspot
  have hlt := hbx.lt
  have hc0 := hbx.cell0
  have hc1 := hbx.cell1
  have hdr := rd_drop HR.out (s := s) (k := l.length - s) (by omega) rfl
  have hdl : (l.drop s).length = l.length - s := by simp
  have hdt : (l.drop s).take (l.length - s) = l.drop s := by rw [← hdl, List.take_length]
  rw [hdt, ← hdl] at hdr
  have HDR := Lib.hid hdr
  have HDL := Lib.hid hdl
  have HBX := Lib.hid hbx
  have hcs1 : (s : Int) ≤ (l.length : Int) := by omega
  have hcs2 : (s : Int) ≤ (cap : Int) := by omega
  clear hcell hdr hdt hdl h0 hb ht hbx
  go_enter Try.func24, Try.ntmps24
  by_cases hcs : s = cap
  · subst hcs
    have he0 : l.length - s = 0 := by omega
    have hd0 : l.drop s = [] := List.drop_of_length_le (by omega)
    have HD0 := Lib.hid hd0
    have hle : s - s = 0 := by omega
    clear hd0
    go_wp2_with (first | (go_at_call 16; refine (ref_Take _ _ _ (HR.out.below HB0.out) HB.out).mono ?_; rw [HT.out]; rintro e w1 ⟨rfl, hb1⟩; simp only [takeV]; have hbx1 : RBox w1 b _ := (hb1.block b hlt).trans HBX.out; have hc2 := hbx1.cell0; have hc3 := hbx1.cell1; have hf3 := hbx1.frozen 0; have HX1 := Lib.hid hbx1; have HB1 := Lib.hid hb1; clear hbx1 hb1) | fail)
    go_ret
    refine ⟨rfl, (HB1.out.mono (Nat.le_of_lt hlt)).setCell (Nat.le_refl _) _, some ⟨blk, off, none⟩, 0, ?_, ?_⟩
    · rw [HD0.out]; exact HX1.out.set _
    · rw [HD0.out]; exact .inr ⟨_, _, rfl, by simp, fun i hi => by simp at hi⟩
  · have hcs' : (cap = s) = False := by simp; omega
    go_wp2_with (first | (go_at_call 16; refine (ref_Take _ _ _ (HR.out.below HB0.out) HB.out).mono ?_; rw [HT.out]; rintro e w1 ⟨rfl, hb1⟩; simp only [takeV]; have hbx1 : RBox w1 b _ := (hb1.block b hlt).trans HBX.out; have hc2 := hbx1.cell0; have hc3 := hbx1.cell1; have hf3 := hbx1.frozen 0; have HX1 := Lib.hid hbx1; have HB1 := Lib.hid hb1; clear hbx1 hb1) | fail)
    go_ret
    refine ⟨rfl, (HB1.out.mono (Nat.le_of_lt hlt)).setCell (Nat.le_refl _) _, some ⟨blk, off + s, none⟩, cap - s, ?_, HDR.out⟩
    rw [HDL.out]; exact HX1.out.set _
end Go.Proofs.Ytioleibcekobeaa
