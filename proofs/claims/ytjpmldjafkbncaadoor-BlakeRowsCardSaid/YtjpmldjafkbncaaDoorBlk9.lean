/-
  The code's hasher: its cells.
-/
import Derived.Test.YtjpmldjafkbncaaDoorBlk8
import Derived.Test.YtjpmldjafkbncaaDoorBlk6
import Derived.Deep.MidRow
namespace Go.Proofs.YtjpmldjafkbncaaDoor
open Go.RowKit
set_option linter.unusedVariables false
set_option linter.unusedSimpArgs false

/-- A hasher's cells. -/
def hcells (h blk : List Nat) (held count : Nat) : List Value := (h.map fun (n : Nat) => Value.int .u64 (n : Int)) ++ (Bs blk ++ [.int .i64 (held : Nat), .int .u64 (count : Nat)])
/-- A hasher lies in block b. -/
structure HX (b : Nat) (h blk : List Nat) (held count : Nat) (w : World) : Prop where
  at_ : w.heap[b]? = some (.cells (hcells h blk held count).toArray 41 (0, 0))
  hl : h.length = 8
  bl : blk.length = 128
  hs : Small h
  bs : ∀ i, gt blk i < 256
theorem HX.lt {b : Nat} {h blk : List Nat} {held count : Nat} {w : World} (x : HX b h blk held count w) : b < w.heap.size := (Array.getElem?_eq_some_iff.1 x.at_).1
theorem HX.cellAt {b : Nat} {h blk : List Nat} {held count : Nat} {w : World} (x : HX b h blk held count w) (i : Nat) : w.cell? ⟨b, i, none⟩ = (hcells h blk held count)[i]? := by
  simp [World.cell?, x.at_]
theorem HX.frozen {b : Nat} {h blk : List Nat} {held count : Nat} {w : World} (x : HX b h blk held count w) (i : Nat) : w.frozen? ⟨b, i, none⟩ = false := by simp [World.frozen?, x.at_]
theorem HX.h {b : Nat} {h blk : List Nat} {held count : Nat} {w : World} (x : HX b h blk held count w) {i : Nat} (hi : i < 8) : w.cell? ⟨b, i, none⟩ = some (.int .u64 (gt h i : Nat)) := by
  rw [x.cellAt, hcells, List.getElem?_append_left (by simp [x.hl]; exact hi)]
  have := x.hl
  simp [gt, this, hi]
theorem HX.b {b : Nat} {h blk : List Nat} {held count : Nat} {w : World} (x : HX b h blk held count w) {i : Nat} (hi : i < 128) : w.cell? ⟨b, 8 + i, none⟩ = some (.int .u8 (gt blk i : Nat)) := by
  have h1 := x.hl
  have h2 := x.bl
  rw [x.cellAt, hcells, List.getElem?_append_right (by simp [h1])]
  simp only [List.length_map, h1, Nat.add_sub_cancel_left]
  rw [List.getElem?_append_left (by rw [Bs_length, h2]; exact hi)]
  simp [Bs, gt, h2, hi]
theorem HX.held {b : Nat} {h blk : List Nat} {held count : Nat} {w : World} (x : HX b h blk held count w) : w.cell? ⟨b, 136, none⟩ = some (.int .i64 (held : Nat)) := by
  have h1 := x.hl
  have h2 := x.bl
  rw [x.cellAt, hcells, List.getElem?_append_right (by simp [h1])]
  simp only [List.length_map, h1]
  rw [List.getElem?_append_right (by rw [Bs_length, h2]; decide), Bs_length, h2]
  rfl
theorem HX.count {b : Nat} {h blk : List Nat} {held count : Nat} {w : World} (x : HX b h blk held count w) : w.cell? ⟨b, 137, none⟩ = some (.int .u64 (count : Nat)) := by
  have h1 := x.hl
  have h2 := x.bl
  rw [x.cellAt, hcells, List.getElem?_append_right (by simp [h1])]
  simp only [List.length_map, h1]
  rw [List.getElem?_append_right (by rw [Bs_length, h2]; decide), Bs_length, h2]
  rfl
theorem HX.setH {b : Nat} {h blk : List Nat} {held count : Nat} {w : World} (x : HX b h blk held count w) (i : Nat) (hi : i < 8) {v : Nat} (hv : v < 18446744073709551616) : HX b (h.set i v) blk held count (w.setCell ⟨b, i, none⟩ (.int .u64 (v : Nat))) := by
  refine ⟨(set_block _ x.at_).trans ?_, by simp [x.hl], x.bl, x.hs.set i hv, x.bs⟩
  have h1 := x.hl
  congr 2
  apply Array.ext'
  simp only [Array.toList_setIfInBounds, hcells, List.map_set]
  rw [List.set_append_left _ _ (by simp [h1]; exact hi)]
theorem HX.setHeld {b : Nat} {h blk : List Nat} {held count : Nat} {w : World} (x : HX b h blk held count w) (n : Nat) : HX b h blk n count (w.setCell ⟨b, 136, none⟩ (.int .i64 (n : Nat))) := by
  refine ⟨(set_block _ x.at_).trans ?_, x.hl, x.bl, x.hs, x.bs⟩
  have h1 := x.hl
  have h2 := x.bl
  congr 2
  apply Array.ext'
  simp only [Array.toList_setIfInBounds, hcells]
  rw [List.set_append_right _ _ (by simp [h1])]
  simp only [List.length_map, h1]
  rw [List.set_append_right _ _ (by rw [Bs_length, h2]; decide), Bs_length, h2]
  rfl
theorem HX.setCount {b : Nat} {h blk : List Nat} {held count : Nat} {w : World} (x : HX b h blk held count w) (n : Nat) : HX b h blk held n (w.setCell ⟨b, 137, none⟩ (.int .u64 (n : Nat))) := by
  refine ⟨(set_block _ x.at_).trans ?_, x.hl, x.bl, x.hs, x.bs⟩
  have h1 := x.hl
  have h2 := x.bl
  congr 2
  apply Array.ext'
  simp only [Array.toList_setIfInBounds, hcells]
  rw [List.set_append_right _ _ (by simp [h1])]
  simp only [List.length_map, h1]
  rw [List.set_append_right _ _ (by rw [Bs_length, h2]; decide), Bs_length, h2]
  rfl
theorem HX.keep {b : Nat} {h blk : List Nat} {held count : Nat} {w w' : World} (x : HX b h blk held count w) (hk : w'.heap[b]? = w.heap[b]?) : HX b h blk held count w' := ⟨hk.trans x.at_, x.hl, x.bl, x.hs, x.bs⟩
/-- The block's bytes as a range of cells. -/
theorem HX.range {b : Nat} {h blk : List Nat} {held count : Nat} {w : World} (x : HX b h blk held count w) : w.rangeAt b 8 (Bs blk) := by
  intro j v hv
  have hj : j < 128 := by
    have := (List.getElem?_eq_some_iff.1 hv).1
    rw [Bs_length, x.bl] at this; exact this
  rw [x.b hj]
  have h2 := x.bl
  simp [Bs, h2, hj] at hv
  rw [← hv]
  simp [gt, h2, hj]

/-- A word of a block is made from its lowest byte on: n bytes of the block are laid into m. -/
def mTo (p : List Nat) (n : Nat) : List Nat := (List.range 16).map fun j => wordTo p (8 * j) (min 8 (n - 8 * j))
theorem mTo_len (p : List Nat) (n : Nat) : (mTo p n).length = 16 := by simp [mTo]
theorem mTo_zero (p : List Nat) : mTo p 0 = List.replicate 16 0 := by
  refine ext_gt (by simp [mTo]) fun i hi => ?_
  rw [gt_zeros, mTo, gt_map_range (by simpa [mTo] using hi)]
  simp [wordTo]
theorem mTo_all (p : List Nat) : mTo p 128 = wordsL p := by
  unfold mTo wordsL
  refine List.map_congr_left fun j hj => ?_
  have := List.mem_range.1 hj
  rw [show min 8 (128 - 8 * j) = 8 by omega]
theorem mTo_succ (p : List Nat) (n : Nat) (hn : n < 128) : mTo p (n + 1) = (mTo p n).set (n / 8) (gt (mTo p n) (n / 8) + 256 ^ (n % 8) * gt p n) := by
  have hq : n / 8 < 16 := by omega
  refine ext_gt (by simp [mTo]) fun i hi => ?_
  rw [mTo_len] at hi
  by_cases e : i = n / 8
  · subst e
    rw [gt_set_same (by rw [mTo_len]; exact hq), mTo, mTo, gt_map_range hq, gt_map_range hq]
    rw [show min 8 (n + 1 - 8 * (n / 8)) = n % 8 + 1 by omega, show min 8 (n - 8 * (n / 8)) = n % 8 by omega, wordTo, show 8 * (n / 8) + n % 8 = n by omega]
  · rw [gt_set_ne (fun h => e h.symm), mTo, mTo, gt_map_range hi, gt_map_range hi]
    congr 1; omega
theorem mTo_small {p : List Nat} (hp : ∀ i, gt p i < 256) (n : Nat) (hn : n < 128) : gt (mTo p n) (n / 8) < 256 ^ (n % 8) := by
  rw [mTo, gt_map_range (by omega), show min 8 (n - 8 * (n / 8)) = n % 8 by omega]
  exact wordTo_lt hp _ _
end Go.Proofs.YtjpmldjafkbncaaDoor
