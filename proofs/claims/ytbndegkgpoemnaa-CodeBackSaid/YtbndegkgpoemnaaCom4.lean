/-
  Contracts of compact: numbers laid behind bytes.
-/
import Derived.Test.YtbndegkgpoemnaaCom3
namespace Go.Proofs.Ytbndegkgpoemnaa
open Go.RowKit
set_option linter.unusedVariables false

theorem ref_Num (n : Int) (w : World) : Calls Try.prog 55 #[.int .i64 n] w (OwnRet w.heap.size (Bs (numL (heldN n))) w) := by
  by_cases c1 : heldN n < 64
  · exact ref_Num1 n _ w rfl c1
  by_cases c2 : heldN n < 16384
  · exact ref_Num2 n _ w rfl (by omega) c2
  by_cases c3 : heldN n < 1073741824
  · exact ref_Num3 n _ w rfl (by omega) c3
  · exact ref_Num4 n _ w rfl (by omega)

theorem heldN_le (n : Int) : heldN n ≤ 4611686018427387904 := by unfold heldN; omega

theorem compact_within (n : Int) (w : World) : Calls Try.prog 58 #[.int .i64 n] w fun e w' => e = .returned (.int .i64 (heldN n : Nat)) ∧ w = w' := by
  obtain ⟨M, hM⟩ : ∃ M : Int, M = (heldN n : Nat) := ⟨_, rfl⟩
  have E : min (max n 0) 4611686018427387904 = M := by rw [hM]; unfold heldN; omega
  rw [← hM]
  clear hM
  go_enter Try.func58, Try.ntmps58
  go_wp2
  go_ret
  exact ⟨rfl, rfl⟩

/-- A cell that is there lies in a block that is there. -/
theorem cell_block {w : World} {a : Addr} {i : Nat} {v : Value} (h : w.cell? (a.add i) = some v) : a.block < w.heap.size := by
  have h1 := World.block_lt_of_cell? w _ h
  have : (a.add i).block = a.block := by unfold Addr.add; split <;> rfl
  rwa [this] at h1

/-- A slice of bytes reads as these. -/
def RdB (w : World) (v : Value) (l : List Nat) : Prop :=
  (v = .slice none 0 0 ∧ l = []) ∨ ∃ a cap, v = .slice (some a) l.length cap ∧ l.length ≤ cap ∧ ∀ i, i < l.length → w.cell? (a.add i) = some (.int .u8 ((l.getD i 0 : Nat) : Int))
/-- A slice of integers reads as these. -/
def RdI (w : World) (v : Value) (l : List Int) : Prop :=
  (v = .slice none 0 0 ∧ l = []) ∨ ∃ a cap, v = .slice (some a) l.length cap ∧ l.length ≤ cap ∧ ∀ i, i < l.length → w.cell? (a.add i) = some (.int .i64 (l.getD i 0))

theorem RdB.below {w w' : World} {v : Value} {l : List Nat} (h : RdB w v l) (hb : Below w.heap.size w w') : RdB w' v l := by
  rcases h with h | ⟨a, cap, hv, hc, hcell⟩
  · exact .inl h
  · refine .inr ⟨a, cap, hv, hc, fun i hi => ?_⟩
    have hl := cell_block (hcell i hi)
    have : (a.add i).block = a.block := by unfold Addr.add; split <;> rfl
    rw [hb.cell (by rw [this]; exact hl)]; exact hcell i hi
theorem RdI.below {w w' : World} {v : Value} {l : List Int} (h : RdI w v l) (hb : Below w.heap.size w w') : RdI w' v l := by
  rcases h with h | ⟨a, cap, hv, hc, hcell⟩
  · exact .inl h
  · refine .inr ⟨a, cap, hv, hc, fun i hi => ?_⟩
    have hl := cell_block (hcell i hi)
    have : (a.add i).block = a.block := by unfold Addr.add; split <;> rfl
    rw [hb.cell (by rw [this]; exact hl)]; exact hcell i hi

theorem OwnB.reads {B : Nat} {v : Value} {l : List Nat} {w : World} (h : OwnB B v (Bs l) w) : RdB w v l := by
  have h' := h
  obtain ⟨h1, h2⟩ := h
  rcases h2 with ⟨rfl, h0⟩ | ⟨g, cap, cur, rfl, hg, hh, hc, hr⟩
  · rw [Bs_length] at h0
    exact .inl ⟨rfl, List.length_eq_zero_iff.1 h0⟩
  · have hlt := World.ownsRow.lt h' g rfl
    rw [Bs_length] at hc ⊢
    refine .inr ⟨⟨g, 0, none⟩, cap, rfl, hc, fun i hi => ?_⟩
    exact World.ownsRow.cells h' rfl i _ (by simp [Bs, hi])

theorem bytes_Clone (v : Value) (l : List Nat) (w : World) (h : RdB w v l) (hl : l.length ≤ 140737488355328) :
    Calls Try.prog 56 #[v] w (OwnRet w.heap.size (Bs l) w) := by
  rcases h with ⟨rfl, rfl⟩ | ⟨a, cap, rfl, hc, hcell⟩
  · refine (Try.bytes_Clone_nil 0 0 w).mono ?_
    rintro e w' ⟨he, rfl⟩
    exact ⟨_, he, World.ownsRow_nil _ _ _ _, Below.refl _ _, Nat.le_refl _⟩
  · refine (Try.bytes_Clone_at a l.length cap (l.map fun (b : Nat) => (b : Int)) w (by simp) hl (fun i hi => ?_)).mono ?_
    · rw [hcell i hi]; simp [hi]
    rintro e w' ⟨v', he, ho, -, hb⟩
    refine ⟨v', he, ?_, hb, hb.size⟩
    · have e1 : (l.map fun (b : Nat) => (b : Int)).map (Value.int .u8) = Bs l := by simp [Bs]
      unfold OwnB; rw [Bs_length, ← e1]; exact ho

/-- The bytes of numbers, one behind the other. -/
def numsL : List Int → List Nat
  | [] => []
  | n :: l => numL (heldN n) ++ numsL l

theorem numL_length (n : Nat) : (numL n).length ≤ 9 := by
  have := kN_cases n
  unfold numL
  split
  · simp [lowL_length]
  · split
    · simp [lowL_length]
    · split
      · simp [lowL_length]
      · simp [lowL_length]; omega

theorem numsL_snoc (l : List Int) (n : Int) : numsL (l ++ [n]) = numsL l ++ numL (heldN n) := by
  induction l with
  | nil => simp [numsL]
  | cons a l ih => simp [numsL, ih]
theorem numsL_length (l : List Int) : (numsL l).length ≤ 9 * l.length := by
  induction l with
  | nil => simp [numsL]
  | cons a l ih => have := numL_length (heldN a); simp [numsL]; omega

set_option maxHeartbeats 1000000 in
theorem compact_Put (v u : Value) (b : List Nat) (l : List Int) (w : World) (hb : RdB w v b) (hl : RdI w u l) (hbl : b.length ≤ 1099511627) (hll : l.length ≤ 109951162) :
    Calls Try.prog 27 #[v, u] w (OwnRet w.heap.size (Bs (b ++ numsL l)) w) := by
  obtain ⟨B, hBe⟩ : ∃ B, B = w.heap.size := ⟨_, rfl⟩
  rw [← hBe]
  have HB := Lib.hid hBe
  have HLn : Hid (RdI w u l) := Lib.hid hl
  have HBn : Hid (RdB w v b) := Lib.hid hb
  clear hBe hb
  obtain ⟨ao, cap, rfl⟩ : ∃ ao cap, u = .slice ao l.length cap := by
    rcases hl with ⟨rfl, rfl⟩ | ⟨a, cap, rfl, -⟩
    · exact ⟨_, _, rfl⟩
    · exact ⟨_, _, rfl⟩
  clear hl
  go_enter Try.func27, Try.ntmps27
  go_wp2_with (first | (go_at_call 56; refine (bytes_Clone v b w HBn.out (by omega)).mono ?_; rintro e w1 ⟨v1, rfl, ho1, hb1, hs1⟩) | fail)
  go_loopw [5, 12] (fun b' i wr => ∃ j : Nat, j ≤ l.length ∧ i = .int .i64 j ∧ OwnB B b' (Bs (b ++ numsL (l.take j))) wr ∧ Below B w wr ∧ B ≤ wr.heap.size) (fun _ i _ => l.length - (intOf i).toNat)
  case atStart => exact ⟨0, Nat.zero_le _, rfl, by simpa [numsL, HB.out] using ho1, by rw [HB.out]; exact hb1, by rw [HB.out]; exact hs1⟩
  case round =>
    obtain ⟨j, hj, rfl, ho, hb, hs⟩ := hrel
    by_cases hlt : j < l.length
    · obtain ⟨L, hL⟩ : ∃ L, L = b ++ numsL (l.take j) := ⟨_, rfl⟩
      have hLl : L.length ≤ 1099511627 + 9 * 109951162 := by
        rw [hL, List.length_append]
        have := numsL_length (l.take j)
        have : (l.take j).length ≤ l.length := by simp; omega
        omega
      rw [← hL] at ho
      have R := (show RdI w _ l from HLn.out)
      obtain ⟨a, cap', ha, hcap, hcell⟩ : ∃ a cap', (Value.slice ao l.length cap) = .slice (some a) l.length cap' ∧ l.length ≤ cap' ∧ ∀ i, i < l.length → w.cell? (a.add i) = some (.int .i64 (l.getD i 0)) := by
        rcases R with ⟨h1, h2⟩ | h
        · rw [h2] at hlt; simp at hlt
        · exact h
      have hcj := hcell j hlt
      have halt := cell_block hcj
      have hsp := World.cell?_spot (hcell 0 (by omega))
      obtain ⟨q, hq⟩ : ∃ q, q = l.getD j 0 := ⟨_, rfl⟩
      rw [← hq] at hcj
      have hnext : b ++ numsL (l.take (j + 1)) = L ++ numL (heldN q) := by
        have e : l.take (j + 1) = l.take j ++ [q] := by
          rw [List.take_succ_eq_append_getElem hlt, hq]; simp [hlt]
        rw [e, numsL_snoc, hL, List.append_assoc]
      have HN := Lib.hid hnext
      clear hcell R hq hnext hL
      injection ha with h1 h2 h3
      subst h1 h3
      obtain ⟨blk, off, spot⟩ := a
      have hspot : spot = none := by simpa [Addr.add] using hsp
      subst hspot
      have hadd : (⟨blk, off, none⟩ : Addr).add j = ⟨blk, off + j, none⟩ := by simp [Addr.add]
      rw [hadd] at hcj
      have hcx : wr.cell? ⟨blk, off + j, none⟩ = some (.int .i64 q) := (hb.cell (p := ⟨blk, off + j, none⟩) (by rw [HB.out]; exact halt)).trans hcj
      clear hcj halt h2 hsp
      go_wp2_with (first | (go_at_call 58; refine (compact_within _ _).mono ?_; rintro e w' ⟨rfl, rfl⟩) | fail)
      refine (compact_put B u5 (Bs L) (heldN q) _ (heldN_le q) ho (by rw [Bs_length]; omega) hs).mono ?_
      rintro e w2 ⟨v2, rfl, ho2, hb2, hs2⟩
      have ho3 : OwnB B v2 (Bs (b ++ numsL (l.take (j + 1)))) w2 := by rw [HN.out, Bs_append]; exact ho2
      clear ho2 ho
      go_wp2
      exact ⟨⟨j + 1, by omega, by go_num, ho3, hb.trans hb2, hs2⟩, by simp [intOf]; omega⟩
    · go_wp2
      go_ret
      have : j = l.length := by omega
      subst this
      rw [List.take_length] at ho
      exact ⟨_, rfl, ho, hb, hs⟩

end Go.Proofs.Ytbndegkgpoemnaa
