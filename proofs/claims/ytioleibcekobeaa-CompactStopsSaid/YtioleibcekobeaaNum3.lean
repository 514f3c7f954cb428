/-
  What compact.Nums hands out: a way over numbers, in new memory.
-/
import Derived.Test.YtioleibcekobeaaNum2
namespace Go.Proofs.Ytioleibcekobeaa
open Go.RowKit Go.Shelf
set_option linter.unusedVariables false

theorem cp_parts_int (ao : Option Addr) (n cap : Nat) (f : Fn) (lb : Array Value) (w : World) :
    Calls Try.prog 36 #[.slice ao n cap, .func f #[] lb] w fun e w' =>
      e = .returned (.func (.func 43) #[] #[.pointer (some ⟨w.heap.size, 0, none⟩), .pointer (some ⟨w.heap.size + 1, 0, none⟩)]) ∧
      w' = (w.alloc (.cells #[.slice ao n cap] 24)).alloc (.cells #[.func f #[] lb] 30) := by
  go_enter Try.func36, Try.ntmps36
  go_wp2_with fail
  go_ret
  exact ⟨rfl, rfl⟩

theorem cp_placed_int (f : Fn) (lb : Array Value) (w : World) :
    Calls Try.prog 35 #[.func f #[] lb] w fun e w' =>
      e = .returned (.func (.func 42) #[] #[.pointer (some ⟨w.heap.size, 0, none⟩)]) ∧
      w' = w.alloc (.cells #[.func f #[] lb] 65) := by
  go_enter Try.func35, Try.ntmps35
  go_wp2_with fail
  go_ret
  exact ⟨rfl, rfl⟩

/-- A way over places and numbers: its data lie in blocks made since w. -/
def NumsWay (l : List Nat) (w : World) (e : Ending) (w' : World) : Prop :=
  ∃ c : Nat, e = .returned (.func (.func 42) #[] #[.pointer (some ⟨c, 0, none⟩)]) ∧ Below w.heap.size w w' ∧
    ∀ n, Iter Try.prog (n + 1) 42 #[.pointer (some ⟨c, 0, none⟩)] (fun p : Nat × Nat => #[.int .i64 (p.2 : Int), .int .i64 (p.1 : Int)]) (numsOf l).zipIdx (fun k => w.heap.size ≤ k ∧ k < w'.heap.size) w'

theorem numsF_le : ∀ (k : Nat) (l : List Nat), (numsF k l).length ≤ l.length
  | 0, l => by simp [numsF]
  | k + 1, l => by
    simp only [numsF]
    cases h : takeL l with
    | none => simp
    | some x =>
      obtain ⟨n, s⟩ := x
      have h1 := takeL_pos h
      have h2 := numsF_le k (l.drop s)
      rw [List.length_drop] at h2
      simp only [List.length_cons]; omega
theorem numsOf_le (l : List Nat) : (numsOf l).length ≤ l.length := numsF_le _ l

set_option maxHeartbeats 1000000 in
theorem compact_Nums (v : Value) (l : List Nat) (w : World) (h : RdB w v l) (hb : ∀ b ∈ l, b < 256) (hl : l.length < 1000000000) :
    Calls Try.prog 26 #[v] w (NumsWay l w) := by
  have HR := Lib.hid h
  have HB := Lib.hid hb
  have HL := Lib.hid hl
  obtain ⟨ao, cap, rfl⟩ := h.lenOf
  clear h hb hl
  go_enter Try.func26, Try.ntmps26
  go_wp2_with (first | (go_at_call 28; refine (bytes_Clone _ _ _ HR.out (by have := HL.out; omega)).mono ?_; rintro e w1 ⟨v1, rfl, ho1, hb1, hs1⟩; have HO1 := Lib.hid ho1; have HB1 := Lib.hid hb1; obtain ⟨ao1, cap1, rfl⟩ := ho1.reads.lenOf; clear ho1 hb1) | (go_at_call 36; refine (cp_parts_int _ _ _ _ _ _).mono ?_; rintro e w2 ⟨rfl, hw2⟩; have HW2 := Lib.hid hw2; clear hw2) | (go_at_call 35; refine (cp_placed_int _ _ _).mono ?_; rintro e w3 ⟨rfl, hw3⟩; have HW3 := Lib.hid hw3; clear hw3) | fail)
  go_ret
  have hw2 := HW2.out
  have hw3 := HW3.out
  have hz2 : w2.heap.size = w1.heap.size + 2 := by rw [hw2]; simp
  have hz3 : w3.heap.size = w1.heap.size + 3 := by rw [hw3]; simp [hz2]
  have hB12 : Below w1.heap.size w1 w2 := by rw [hw2]; exact ((Below.refl _ w1).alloc (Nat.le_refl _) _).alloc (by simp) _
  have hB23 : Below w2.heap.size w2 w3 := by rw [hw3]; exact (Below.refl _ w2).alloc (Nat.le_refl _) _
  have hB13 : Below w1.heap.size w1 w3 := hB12.trans (hB23.mono (by omega))
  refine ⟨w2.heap.size, rfl, HB1.out.trans (hB13.mono hs1), fun n => ?_⟩
  have c1 : w3.cell? ⟨w1.heap.size, 0, none⟩ = some (.slice ao1 l.length cap1) := by
    have h2 : w2.cell? ⟨w1.heap.size, 0, none⟩ = some (.slice ao1 l.length cap1) := by
      rw [hw2]; exact ((Boxed.new w1 _ _).alloc _).cell
    exact (hB23.cell (p := ⟨w1.heap.size, 0, none⟩) (by show w1.heap.size < _; omega)).trans h2
  have c2 : w3.cell? ⟨w1.heap.size + 1, 0, none⟩ = some (.func (.func 15) #[] #[]) := by
    have h2 : w2.cell? ⟨w1.heap.size + 1, 0, none⟩ = some (.func (.func 15) #[] #[]) := by
      rw [hw2]
      have := (Boxed.new (w1.alloc (.cells #[.slice ao1 l.length cap1] 24)) 30 (.func (.func 15) #[] #[])).cell
      rwa [World.size_alloc] at this
    exact (hB23.cell (p := ⟨w1.heap.size + 1, 0, none⟩) (by show w1.heap.size + 1 < _; omega)).trans h2
  have c3 : w3.cell? ⟨w2.heap.size, 0, none⟩ = some (.func (.func 43) #[] #[.pointer (some ⟨w1.heap.size, 0, none⟩), .pointer (some ⟨w1.heap.size + 1, 0, none⟩)]) := by
    rw [hw3]; exact (Boxed.new w2 _ _).cell
  refine placed_int (n + 1) w2.heap.size _ (numsOf l) w3 c3 _ ⟨by omega, by omega⟩ ?_ (by omega) (Nat.lt_of_le_of_lt (numsOf_le l) HL.out)
  refine parts_int _ _ _ (.slice ao1 l.length cap1) l w3 c1 c2 (HO1.out.reads.below hB13) HB.out (Nat.le_of_lt HL.out) _ ⟨by omega, by omega⟩ ⟨by omega, by omega⟩ ?_
  intro a m c he hne
  injection he with he1 he2 he3
  subst he1
  have h := HO1.out
  rcases h.2 with ⟨h1, h0⟩ | ⟨g, cap, cur, hv, hg, hh, -⟩
  · cases h1
  · injection hv with hv
    injection hv with hv
    subst hv
    have hlt := (World.ownsRow.lt h g rfl).2
    exact ⟨hg, by show g < _; omega⟩
end Go.Proofs.Ytioleibcekobeaa
