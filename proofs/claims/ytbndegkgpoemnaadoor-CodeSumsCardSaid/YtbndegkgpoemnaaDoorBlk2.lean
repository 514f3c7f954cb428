/-
  Four words of sixteen are mixed with two: the document's way and the code's are one.
-/
import Derived.Test.YtbndegkgpoemnaaDoorBlk1
import Derived.StillTailTactics
import Derived.Deep.Quiet
namespace Go.Proofs.YtbndegkgpoemnaaDoor
open Go.RowKit
set_option linter.unusedVariables false

/-- Words in a block: so many numbers below 2^64. -/
def Ws (l : List Nat) : Array Value := (l.map fun (n : Nat) => Value.int .u64 (n : Int)).toArray
/-- The word at a place. -/
def gt (l : List Nat) (i : Nat) : Nat := l.getD i 0
def Small (l : List Nat) : Prop := ∀ i, gt l i < 18446744073709551616
/-- A block that holds just these words. -/
structure WBox (t : TypeId) (b : Nat) (l : List Nat) (w : World) : Prop where
  at_ : w.heap[b]? = some (.cells (Ws l) t (0, 0))
  small : Small l
theorem Small.set {l : List Nat} (h : Small l) (i : Nat) {x : Nat} (hx : x < 18446744073709551616) : Small (l.set i x) := by
  intro j
  have := h j
  simp only [gt, List.getD_eq_getElem?_getD, List.getElem?_set] at this ⊢
  split
  · split
    · simpa using hx
    · simp
  · exact this
theorem WBox.lt {t : TypeId} {b : Nat} {l : List Nat} {w : World} (h : WBox t b l w) : b < w.heap.size := (Array.getElem?_eq_some_iff.1 h.at_).1
theorem WBox.cell {t : TypeId} {b : Nat} {l : List Nat} {w : World} (h : WBox t b l w) {i : Nat} (hi : i < l.length) : w.cell? ⟨b, i, none⟩ = some (.int .u64 (gt l i : Nat)) := by
  simp [World.cell?, h.at_, Ws, hi, gt]
theorem WBox.frozen {t : TypeId} {b : Nat} {l : List Nat} {w : World} (h : WBox t b l w) (i : Nat) : w.frozen? ⟨b, i, none⟩ = false := by simp [World.frozen?, h.at_]
theorem set_block {w : World} {b i : Nat} {cs : Array Value} {t : TypeId} {fr : Nat × Nat} (v : Value) (h : w.heap[b]? = some (.cells cs t fr)) : (w.setCell ⟨b, i, none⟩ v).heap[b]? = some (.cells (cs.setIfInBounds i v) t fr) := by
  obtain ⟨hlt, hk⟩ := Array.getElem?_eq_some_iff.1 h
  show (w.heap.modify b _)[b]? = _
  rw [Array.getElem?_eq_getElem (by rw [Array.size_modify]; exact hlt), Array.getElem_modify_self, hk]
  rfl
theorem set_other {w : World} {k : Nat} {a : Addr} {v : Value} (h : k ≠ a.block) : (w.setCell a v).heap[k]? = w.heap[k]? := by
  show (w.heap.modify a.block _)[k]? = _
  rw [Array.getElem?_modify, if_neg (fun e => h e.symm)]
theorem WBox.set {t : TypeId} {b : Nat} {l : List Nat} {w : World} (h : WBox t b l w) (i : Nat) {x : Nat} (hx : x < 18446744073709551616) : WBox t b (l.set i x) (w.setCell ⟨b, i, none⟩ (.int .u64 (x : Nat))) := by
  refine ⟨(set_block _ h.at_).trans ?_, h.small.set i hx⟩
  simp [Ws, List.map_set]

/-- Only block b may have changed; no block is new. -/
structure Upd (b : Nat) (w w' : World) : Prop where
  os : w'.os = w.os
  tape : w'.tape = w.tape
  output : w'.output = w.output
  size : w'.heap.size = w.heap.size
  block : ∀ k, k ≠ b → w'.heap[k]? = w.heap[k]?
theorem Upd.refl (b : Nat) (w : World) : Upd b w w := ⟨rfl, rfl, rfl, rfl, fun _ _ => rfl⟩
theorem Upd.trans {b : Nat} {x y z : World} (h : Upd b x y) (k : Upd b y z) : Upd b x z := ⟨k.os.trans h.os, k.tape.trans h.tape, k.output.trans h.output, k.size.trans h.size, fun i hi => (k.block i hi).trans (h.block i hi)⟩
theorem Upd.set {b : Nat} {x y : World} (h : Upd b x y) (i : Nat) (v : Value) : Upd b x (y.setCell ⟨b, i, none⟩ v) := h.trans ⟨rfl, rfl, rfl, by simp, fun k hk => set_other hk⟩
theorem Upd.drew {b : Nat} {x y : World} (h : Upd b x y) : Upd b x y.drew := ⟨h.os, h.tape, h.output, h.size, h.block⟩
theorem Upd.below {b N : Nat} {x y : World} (h : Upd b x y) (hb : N ≤ b) : Below N x y := ⟨h.os, h.tape, h.output, Nat.le_of_eq h.size.symm, fun k hk => h.block k (by omega)⟩

/-- One number of the four is summed up, or turned. -/
def addS (v : List Nat) (a b x : Nat) : List Nat := v.set a ((gt v a + gt v b + x) % 18446744073709551616)
def rotS (v : List Nat) (d a n : Nat) : List Nat := v.set d (rot (gt v d ^^^ gt v a) n)
def mixL (v : List Nat) (a b c d x y : Nat) : List Nat :=
  rotS (addS (rotS (addS (rotS (addS (rotS (addS v a b x) d a 32) c d 0) b c 24) a b y) d a 16) c d 0) b c 63
theorem addS_len (v : List Nat) (a b x : Nat) : (addS v a b x).length = v.length := by simp [addS]
theorem rotS_len (v : List Nat) (d a n : Nat) : (rotS v d a n).length = v.length := by simp [rotS]

/-- What is known at a step: the words, and that only their block has turned. -/
structure MS (t : TypeId) (b : Nat) (w0 : World) (l : List Nat) (w : World) : Prop where
  box : WBox t b l w
  len : l.length = 16
  upd : Upd b w0 w
theorem MS.addS {t : TypeId} {b : Nat} {w0 w : World} {l : List Nat} (h : MS t b w0 l w) (i j x : Nat) {v : Int} (hv : v = ((gt l i + gt l j + x) % 18446744073709551616 : Nat)) : MS t b w0 (addS l i j x) (w.setCell ⟨b, i, none⟩ (.int .u64 v)).drew := by
  subst hv
  have k := h.box.set i (x := (gt l i + gt l j + x) % 18446744073709551616) (Nat.mod_lt _ (by decide))
  exact ⟨⟨k.at_, k.small⟩, by rw [addS_len]; exact h.len, (h.upd.set _ _).drew⟩
theorem MS.rotS {t : TypeId} {b : Nat} {w0 w : World} {l : List Nat} (h : MS t b w0 l w) (i j n : Nat) : MS t b w0 (rotS l i j n) (w.setCell ⟨b, i, none⟩ (.int .u64 (rot (gt l i ^^^ gt l j) n : Nat))).drew := by
  have k := h.box.set i (x := rot (gt l i ^^^ gt l j) n) (rot_lt (Nat.xor_lt_two_pow (n := 64) (h.box.small i) (h.box.small j)))
  exact ⟨⟨k.at_, k.small⟩, by rw [rotS_len]; exact h.len, (h.upd.set _ _).drew⟩
theorem MS.facts {t : TypeId} {b : Nat} {w0 w : World} {l : List Nat} (h : MS t b w0 l w) (i j : Nat) (hi : i < 16) (hj : j < 16) :
    w.cell? ⟨b, i, none⟩ = some (.int .u64 (gt l i : Nat)) ∧ w.cell? ⟨b, j, none⟩ = some (.int .u64 (gt l j : Nat)) ∧ w.frozen? ⟨b, i, none⟩ = false ∧ bits .xor .u64 (gt l i : Nat) (gt l j : Nat) = ((gt l i ^^^ gt l j : Nat) : Int) ∧ gt l i ^^^ gt l j < 18446744073709551616 :=
  ⟨h.box.cell (by rw [h.len]; exact hi), h.box.cell (by rw [h.len]; exact hj), h.box.frozen i, bits_xor_u64_nat _ _ (h.box.small i) (h.box.small j), Nat.xor_lt_two_pow (n := 64) (h.box.small i) (h.box.small j)⟩
theorem add3_l (p q x : Nat) : IntKind.u64.wrap (IntKind.u64.wrap ((p : Int) + (q : Int)) + (x : Int)) = ((p + q + x) % 18446744073709551616 : Nat) := by
  simp only [IntKind.wrap_u64]; omega
theorem add3_r (p q x : Nat) : IntKind.u64.wrap ((p : Int) + IntKind.u64.wrap ((q : Int) + (x : Int))) = ((p + q + x) % 18446744073709551616 : Nat) := by
  simp only [IntKind.wrap_u64]; omega
theorem add2 (p q : Nat) : IntKind.u64.wrap ((p : Int) + (q : Int)) = ((p + q + 0) % 18446744073709551616 : Nat) := by
  simp only [IntKind.wrap_u64]; omega

theorem ref_turned_still {P Q : Int} (x n : Nat) (w : World) (hP : P = (x : Int)) (hQ : Q = (n : Int)) (hx : x < 18446744073709551616) (hn : n = 32 ∨ n = 24 ∨ n = 16 ∨ n = 63) :
    Calls Tryd.prog 80 #[.int .u64 P, .int .u64 Q] w fun e w' => e = .returned (.int .u64 (rot x n : Nat)) ∧ w' = w := by
  subst hP hQ; exact (ref_turned x n w hx hn).mono fun e w' h => ⟨h.1, h.2.symm⟩
theorem lib_rotate_still {P : Int} (x n : Nat) (m : Int) (w : World) (hP : P = (x : Int)) (hx : x < 18446744073709551616) (hn : (n = 32 ∧ m = -32) ∨ (n = 24 ∧ m = -24) ∨ (n = 16 ∧ m = -16) ∨ (n = 63 ∧ m = -63)) :
    Calls Tryd.prog 86 #[.int .u64 P, .int .i64 m] w fun e w' => e = .returned (.int .u64 (rot x n : Nat)) ∧ w' = w := by
  subst hP; exact (lib_rotate x n m w hx hn).mono fun e w' h => ⟨h.1, h.2.symm⟩
end Go.Proofs.YtbndegkgpoemnaaDoor
