/-
  The code's hasher takes bytes.
-/
import Derived.Test.YtjpmldjafkbncaaDoorBlkA
import Derived.Laws.CopyOwn
namespace Go.Proofs.YtjpmldjafkbncaaDoor
open Go.RowKit
set_option linter.unusedVariables false
set_option linter.unusedSimpArgs false

/-- What was hashed till now: these bytes, behind this beginning. -/
def Inv (h0 A h blk : List Nat) (held count : Nat) : Prop := held ≤ 128 ∧ count + held = A.length ∧ ∀ rest, chainL h0 (A ++ rest) 0 = chainL h (blk.take held ++ rest) count
/-- .. where more comes. -/
def PInv (h0 A h blk : List Nat) (held count : Nat) : Prop := held < 128 ∧ count + held = A.length ∧ ∀ rest, rest ≠ [] → chainL h0 (A ++ rest) 0 = chainL h (blk.take held ++ rest) count
/-- q is laid at a place of the block. -/
def laidAt (blk q : List Nat) (k : Nat) : List Nat := blk.take k ++ q ++ blk.drop (k + q.length)
theorem laidAt_len {blk q : List Nat} {k : Nat} (hb : blk.length = 128) (hk : k + q.length ≤ 128) : (laidAt blk q k).length = 128 := by simp [laidAt, hb]; omega
theorem PInv.put {h0 A h blk q : List Nat} {held count : Nat} (i : PInv h0 A h blk held count) (hb : blk.length = 128) (hq : q ≠ []) (hk : held + q.length ≤ 128) : Inv h0 (A ++ q) h (laidAt blk q held) (held + q.length) count := by
  obtain ⟨h1, h2, h3⟩ := i
  refine ⟨hk, by rw [List.length_append]; omega, fun rest => ?_⟩
  rw [List.append_assoc, h3 _ (by simp [hq])]
  have e : (laidAt blk q held).take (held + q.length) = blk.take held ++ q := by
    unfold laidAt
    rw [List.take_append_of_le_length (by simp; omega), List.take_of_length_le (by simp; omega)]
  rw [e, List.append_assoc]
theorem Inv.less {h0 A h blk : List Nat} {held count : Nat} (i : Inv h0 A h blk held count) (hlt : held < 128) : PInv h0 A h blk held count := ⟨hlt, i.2.1, fun rest _ => i.2.2 rest⟩
theorem Inv.full {h0 A h blk : List Nat} {count : Nat} (i : Inv h0 A h blk 128 count) (hb : blk.length = 128) : PInv h0 A (blockL h (wordsL blk) (count + 128) false) blk 0 (count + 128) := by
  obtain ⟨h1, h2, h3⟩ := i
  refine ⟨by omega, by omega, fun rest hr => ?_⟩
  have hpos : 0 < rest.length := List.length_pos_iff.2 hr
  rw [h3 rest, List.take_of_length_le (by omega), chainL_more (rest := blk ++ rest) (by rw [List.length_append]; omega), List.take_append_of_le_length (by omega), List.take_of_length_le (by omega), List.drop_append_of_le_length (by omega), List.drop_of_length_le (by omega)]
  rfl

/-- A slice that does not lie in block b. -/
def Apart (v : Value) (b : Nat) : Prop := ∀ a n c, v = .slice (some a) n c → a.block ≠ b
theorem RdB.grown {w wr : World} {v : Value} {l : List Nat} {b : Nat} (h : RdB w v l) (hg : w.grownBy wr (some b)) (ha : Apart v b) : RdB wr v l := by
  rcases h with h | ⟨a, cap, hv, hc, hcell⟩
  · exact .inl h
  · refine .inr ⟨a, cap, hv, hc, fun i hi => ?_⟩
    have hl := cell_block (hcell i hi)
    have hb : (a.add i).block = a.block := by unfold Addr.add; split <;> rfl
    rw [← hcell i hi]
    exact World.cell?_of_block (by rw [hb]; exact hg.block _ hl (by simp; exact ha a _ _ hv))

theorem HX.splice {b : Nat} {h blk q : List Nat} {held count : Nat} {w : World} (x : HX b h blk held count w) (hk : held + q.length ≤ 128) (hq : ∀ i, gt q i < 256) :
    HX b h (laidAt blk q held) held count (w.setRow b ((hcells h blk held count).take (8 + held) ++ Bs q ++ (hcells h blk held count).drop (8 + held + (Bs q).length)).toArray) := by
  have h1 := x.hl
  have h2 := x.bl
  refine ⟨(setRow_heap w b _ _ _ _ x.at_).trans ?_, h1, laidAt_len h2 hk, x.hs, fun i => ?_⟩
  · congr 3
    rw [Bs_length]
    unfold hcells laidAt
    rw [Bs_append, Bs_append]
    have hH : (h.map fun (n : Nat) => Value.int .u64 (n : Int)).length = 8 := by simp [h1]
    have hB : (Bs blk).length = 128 := by rw [Bs_length]; exact h2
    generalize (h.map fun (n : Nat) => Value.int .u64 (n : Int)) = H at hH ⊢
    have hBt : Bs (blk.take held) = (Bs blk).take held := by simp [Bs, List.map_take]
    have hBd : Bs (blk.drop (held + q.length)) = (Bs blk).drop (held + q.length) := by simp [Bs, List.map_drop]
    rw [hBt, hBd]
    generalize Bs blk = B at hB ⊢
    rw [show 8 + held = H.length + held by omega, List.take_length_add_append, show H.length + held + q.length = H.length + (held + q.length) by omega, List.drop_length_add_append,
      List.take_append_of_le_length (by omega), List.drop_append_of_le_length (by omega)]
    simp [List.append_assoc]
  · unfold laidAt
    by_cases c1 : i < (blk.take held ++ q).length
    · rw [gt_append_l c1]
      by_cases c2 : i < (blk.take held).length
      · rw [gt_append_l c2, gt_take (by simp at c2; omega)]; exact x.bs i
      · rw [gt_append_r (by omega)]; exact hq _
    · rw [gt_append_r (by omega), gt_drop]; exact x.bs _
end Go.Proofs.YtjpmldjafkbncaaDoor
