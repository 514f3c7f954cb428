/-
  Contracts of compact: rows laid and taken, by the program and as the document has it.
-/
import Derived.Test.YtbndegkgpoemnaaComA
import Derived.Test.YtbndegkgpoemnaaApp
import Derived.Test.YtbndegkgpoemnaaOpen
namespace Go.Proofs.Ytbndegkgpoemnaa
open Go.RowKit
set_option linter.unusedVariables false

/-- A row's bytes. -/
def rowL (p : List Nat) : List Nat := numL p.length ++ p
def rowsL : List (List Nat) → List Nat
  | [] => []
  | p :: l => rowL p ++ rowsL l
theorem rowsL_snoc (l : List (List Nat)) (p : List Nat) : rowsL (l ++ [p]) = rowsL l ++ rowL p := by
  induction l with
  | nil => simp [rowsL]
  | cons a l ih => simp [rowsL, ih]
theorem rowL_length (p : List Nat) : (rowL p).length ≤ 9 + p.length := by
  have := numL_length p.length
  simp [rowL]; omega
/-- How much rows are, each with what stands ahead of it. -/
def bulkL : List (List Nat) → Nat
  | [] => 0
  | p :: l => 9 + p.length + bulkL l
theorem rowsL_length (l : List (List Nat)) : (rowsL l).length ≤ bulkL l := by
  induction l with
  | nil => simp [rowsL]
  | cons p l ih => have := rowL_length p; simp [rowsL, bulkL]; omega
theorem bulkL_take (l : List (List Nat)) (k : Nat) : bulkL (l.take k) ≤ bulkL l := by
  induction l generalizing k with
  | nil => simp [bulkL]
  | cons p l ih =>
    cases k with
    | zero => simp [bulkL]
    | succ k => have := ih k; simp [bulkL]; omega
theorem bulkL_at (l : List (List Nat)) (k : Nat) (h : k < l.length) : 9 + (l.getD k []).length ≤ bulkL l := by
  induction l generalizing k with
  | nil => simp at h
  | cons p l ih =>
    cases k with
    | zero => simp [bulkL]
    | succ k => have := ih k (by simpa using h); simp [bulkL] at this ⊢; omega
theorem rowL_lt (p : List Nat) (h : ∀ b ∈ p, b < 256) : ∀ b ∈ rowL p, b < 256 := by
  intro b hb
  unfold rowL at hb
  rw [List.mem_append] at hb
  exact hb.elim (numL_lt _ b) (h b)

set_option maxHeartbeats 1000000 in
theorem ref_Row (v : Value) (p : List Nat) (w : World) (h : RdB w v p) (hl : p.length ≤ 1000000000) :
    Calls Try.prog 26 #[v] w (OwnRet w.heap.size (Bs (rowL p)) w) := by
  have HR : Hid (RdB w v p) := Lib.hid h
  obtain ⟨ao, cap, rfl⟩ := h.lenOf
  clear h
  have hheld : heldN (p.length : Int) = p.length := by unfold heldN; omega
  have HD := Lib.hid hheld
  have hnl := numL_length p.length
  clear hheld
  go_enter Try.func26, Try.ntmps26
  go_wp2_with (first | (go_at_call 55; refine (ref_Num _ _).mono ?_; rw [HD.out]; rintro e w1 ⟨v1, rfl, ho1, hb1, hs1⟩; have hr1 := Lib.hid (HR.out.below hb1)) | (at_builtin; refine wp_app_B rfl rfl rfl rfl ho1 hr1.out (by omega) hs1 ?_; intro v3 w3 ho3 hb3 hs3 hg3) | fail)
  go_ret
  exact ⟨v3, rfl, ho3, hb1.trans hb3, hs3⟩

set_option maxHeartbeats 1000000 in
theorem compact_Row (v u : Value) (b : List Nat) (l : List (List Nat)) (w : World) (hb : RdB w v b) (hl : RdBB w u l) (hbl : b.length + bulkL l ≤ 1000000000) (hm : l.length ≤ maxLen) :
    Calls Try.prog 32 #[v, u] w (OwnRet w.heap.size (Bs (b ++ rowsL l)) w) := by
  unfold maxLen at hm
  obtain ⟨B, hBe⟩ : ∃ B, B = w.heap.size := ⟨_, rfl⟩
  rw [← hBe]
  have HB := Lib.hid hBe
  have HLn : Hid (RdBB w u l) := Lib.hid hl
  have HBn : Hid (RdB w v b) := Lib.hid hb
  clear hBe hb
  obtain ⟨ao, cap, rfl⟩ : ∃ ao cap, u = .slice ao l.length cap := by
    rcases hl with ⟨rfl, rfl⟩ | ⟨a, cap, rfl, -⟩
    · exact ⟨_, _, rfl⟩
    · exact ⟨_, _, rfl⟩
  clear hl
  go_enter Try.func32, Try.ntmps32
  go_wp2_with (first | (go_at_call 56; refine (bytes_Clone v b w HBn.out (by omega)).mono ?_; rintro e w1 ⟨v1, rfl, ho1, hb1, hs1⟩) | fail)
  go_loopw [5, 12] (fun b' i wr => ∃ j : Nat, j ≤ l.length ∧ i = .int .i64 j ∧ OwnB B b' (Bs (b ++ rowsL (l.take j))) wr ∧ Below B w wr ∧ B ≤ wr.heap.size) (fun _ i _ => l.length - (intOf i).toNat)
  case atStart => exact ⟨0, Nat.zero_le _, rfl, by simpa [rowsL, HB.out] using ho1, by rw [HB.out]; exact hb1, by rw [HB.out]; exact hs1⟩
  case round =>
    obtain ⟨j, hj, rfl, ho, hb, hs⟩ := hrel
    by_cases hlt : j < l.length
    · obtain ⟨L, hL⟩ : ∃ L, L = b ++ rowsL (l.take j) := ⟨_, rfl⟩
      have hLl : L.length ≤ 1000000000 := by
        rw [hL, List.length_append]
        have := rowsL_length (l.take j)
        have := bulkL_take l j
        omega
      rw [← hL] at ho
      have R := (show RdBB w _ l from HLn.out)
      obtain ⟨a, cap', ha, hcap, hcell⟩ : ∃ a cap', (Value.slice ao l.length cap) = .slice (some a) l.length cap' ∧ l.length ≤ cap' ∧ ∀ i, i < l.length → ∃ u, w.cell? (a.add i) = some u ∧ RdB w u (l.getD i []) := by
        rcases R with ⟨h1, h2⟩ | h
        · rw [h2] at hlt; simp at hlt
        · exact h
      obtain ⟨x, hcj, hrj⟩ := hcell j hlt
      have halt := cell_block hcj
      obtain ⟨q, hq⟩ : ∃ q, q = l.getD j [] := ⟨_, rfl⟩
      have hql : q.length ≤ 1000000000 := by have := bulkL_at l j hlt; rw [← hq] at this; omega
      rw [← hq] at hrj
      have hnext : b ++ rowsL (l.take (j + 1)) = (L ++ numL q.length) ++ q := by
        have e : l.take (j + 1) = l.take j ++ [q] := by
          rw [List.take_succ_eq_append_getElem hlt, hq]; simp [hlt]
        rw [e, rowsL_snoc, hL, rowL]; simp
      have HN := Lib.hid hnext
      obtain ⟨u0, hc0, -⟩ := hcell 0 (by omega)
      have hsp := World.cell?_spot hc0
      clear hcell R hq hnext hL hc0
      injection ha with h1 h2 h3
      subst h1 h3
      obtain ⟨blk, off, spot⟩ := a
      have hspot : spot = none := by simpa [Addr.add] using hsp
      subst hspot
      rw [add_at] at hcj
      have hcx : wr.cell? ⟨blk, off + j, none⟩ = some x := (hb.cell (p := ⟨blk, off + j, none⟩) (by rw [HB.out]; exact halt)).trans hcj
      have HRJ := Lib.hid hrj
      obtain ⟨ao2, cap2, rfl⟩ := hrj.lenOf
      have hone : (Value.slice ao2 q.length cap2).oneCell' = true := rfl
      clear hcj halt h2 hsp hrj
      go_wp2_with fail
      refine (compact_put B u5 (Bs L) q.length _ (by omega) ho (by rw [Bs_length]; omega) hs).mono ?_
      rintro e w2 ⟨v2, rfl, ho2, hb2, hs2⟩
      rw [← Bs_append] at ho2
      have hr2 := Lib.hid (HRJ.out.below ((hb.trans hb2).mono (Nat.le_of_eq HB.out.symm)))
      have hnl := numL_length q.length
      go_wp2_with (first | (at_builtin; refine wp_app_B rfl rfl rfl rfl ho2 hr2.out (by rw [List.length_append]; omega) hs2 ?_; intro v3 w3 ho3 hb3 hs3 hg3; rw [← HN.out] at ho3) | fail)
      exact ⟨⟨j + 1, by omega, by go_num, ho3, (hb.trans hb2).trans hb3, hs3⟩, by simp [intOf]; omega⟩
    · go_wp2
      go_ret
      have : j = l.length := by omega
      subst this
      rw [List.take_length] at ho
      exact ⟨_, rfl, ho, hb, hs⟩

end Go.Proofs.Ytbndegkgpoemnaa
