/-
  Contracts of compact: a row is cut, by the program and as the document has it; numbers' bytes, as the document has them.
-/
import Derived.Test.YtbndegkgpoemnaaComC
namespace Go.Proofs.Ytbndegkgpoemnaa
open Go.RowKit
set_option linter.unusedVariables false

/-- What is owned stays so, where only new memory has turned. -/
theorem own_kept {B : Nat} {v : Value} {xs : List Value} {w w' : World} (h : OwnB B v xs w) (hb : Below w.heap.size w w') (hs : B ≤ w.heap.size) : OwnB B v xs w' := by
  refine World.ownsRow.kept (row := none) h ⟨hb.os, hb.tape, hb.output, hb.size, fun k hk _ => hb.block k hk⟩ ?_
  rcases h.2 with ⟨rfl, -⟩ | ⟨g, cap, cur, rfl, -⟩
  · exact .inl rfl
  · exact .inr (by simp [Value.ownBlock])

/-- The row that bytes begin with, and how many they are. -/
def cutL (l : List Nat) : Option (List Nat × Nat) :=
  match takeL l with
  | none => none
  | some (n, s) => if n > l.length - s then none else some ((l.drop s).take n, s + n)

/-- What a cut tells. -/
def CutRet (o : Option (List Nat × Nat)) (w : World) (e : Ending) (w' : World) : Prop :=
  Below w.heap.size w w' ∧ match o with
  | none => e = .returned (.tuple #[.slice none 0 0, .int .i64 0, .bool false])
  | some (p, s) => ∃ v, e = .returned (.tuple #[v, .int .i64 (s : Nat), .bool true]) ∧ RdB w' v p
/-- .. and what it tells is its own. -/
def CutOwn (o : Option (List Nat × Nat)) (w : World) (e : Ending) (w' : World) : Prop :=
  Below w.heap.size w w' ∧ w.heap.size ≤ w'.heap.size ∧ match o with
  | none => e = .returned (.tuple #[.slice none 0 0, .int .i64 0, .bool false])
  | some (p, s) => ∃ v, e = .returned (.tuple #[v, .int .i64 (s : Nat), .bool true]) ∧ OwnB w.heap.size v (Bs p) w'

theorem takeL_le {l : List Nat} {n s : Nat} (h : takeL l = some (n, s)) : s ≤ l.length ∧ n ≤ 4611686018427387904 ∧ 1 ≤ s := by
  by_cases hl : l = []
  · simp [takeL, hl] at h
  by_cases h9 : toldN (l.getD 0 0) > 9 ∨ toldN (l.getD 0 0) > l.length
  · simp only [takeL, if_neg hl, if_pos h9] at h; exact absurd h (by simp)
  simp only [takeL, if_neg hl, if_neg h9] at h
  obtain ⟨u, hu⟩ : ∃ u, u = if toldN (l.getD 0 0) > 4 then valL ((l.take (toldN (l.getD 0 0))).drop 1) else valL (l.take (toldN (l.getD 0 0))) / 4 := ⟨_, rfl⟩
  rw [← hu] at h
  by_cases hc : u > 4611686018427387904 ∨ sizeN u ≠ toldN (l.getD 0 0)
  · rw [if_pos hc] at h; exact absurd h (by simp)
  rw [if_neg hc] at h
  have := toldN_pos (l.getD 0 0)
  injection h with h
  injection h with h1 h2
  obtain ⟨z, hz⟩ : ∃ z, z = toldN (l.getD 0 0) := ⟨_, rfl⟩
  rw [← hz] at h9 h2 this
  omega

theorem rd_drop {w : World} {a : Addr} {cap n : Nat} {l : List Nat} (h : RdB w (.slice (some a) n cap) l) {s k : Nat} (hk : s + k ≤ n) (hs : a.spot = none) : RdB w (.slice (some ⟨a.block, a.off + s, none⟩) k (cap - s)) ((l.drop s).take k) := by
  rcases h with ⟨h1, h2⟩ | ⟨a', cap', h1, hc, hcell⟩
  · cases h1
  · injection h1 with h1 h2 h3
    injection h1 with h1
    subst h1 h2 h3
    have hlen : ((l.drop s).take k).length = k := by simp; omega
    obtain ⟨b, o, sp⟩ := a
    simp only at hs; subst hs
    refine .inr ⟨⟨b, o + s, none⟩, cap - s, by rw [hlen], by rw [hlen]; omega, fun i hi => ?_⟩
    rw [hlen] at hi
    have := hcell (s + i) (by omega)
    rw [add_at] at this ⊢
    rw [show o + s + i = o + (s + i) by omega, this]
    simp only [List.getD_eq_getElem?_getD, List.getElem?_take, List.getElem?_drop]
    rw [if_pos hi]

set_option maxHeartbeats 1000000 in
theorem compact_Cut (v : Value) (l : List Nat) (w : World) (h : RdB w v l) (hb : ∀ b ∈ l, b < 256) (hm : l.length ≤ 1000000000) :
    Calls Try.prog 78 #[v] w (CutOwn (cutL l) w) := by
  have HB := Lib.hid hb
  have HR : Hid (RdB w v l) := Lib.hid h
  cases ht : takeL l with
  | none =>
    have hc : cutL l = none := by unfold cutL; rw [ht]
    rw [hc]
    have HT := Lib.hid ht
    obtain ⟨ao, cap, rfl⟩ := h.lenOf
    clear h hb hc ht
    go_enter Try.func78, Try.ntmps78
    go_wp2_with (first | (go_at_call 77; refine (compact_Take _ _ _ HR.out HB.out).mono ?_; rw [HT.out]; rintro e w' ⟨rfl, rfl⟩; simp only [takeV]) | fail)
    go_ret3
    exact ⟨Below.refl _ _, Nat.le_refl _, rfl⟩
  | some x =>
    obtain ⟨n, s⟩ := x
    obtain ⟨hs, hn, hs1⟩ := takeL_le ht
    have hc : cutL l = if n > l.length - s then none else some ((l.drop s).take n, s + n) := by unfold cutL; rw [ht]
    rw [hc]
    clear hc
    have HT := Lib.hid ht
    clear ht
    rcases h with ⟨-, h⟩ | ⟨⟨blk, off, spot⟩, cap, rfl, hcap, hcell⟩
    · subst h; simp at hs; omega
    have hspot : spot = none := by
      have := World.cell?_spot (hcell 0 (by omega)); simpa [Addr.add] using this
    subst hspot
    clear hcell hb
    by_cases hgt : n > l.length - s
    · rw [if_pos hgt]
      have g1 : decide ((l.length : Int) - (s : Int) < (n : Int)) = true := by simp; omega
      go_enter Try.func78, Try.ntmps78
      go_wp2_with (first | (go_at_call 77; refine (compact_Take _ _ _ HR.out HB.out).mono ?_; rw [HT.out]; rintro e w' ⟨rfl, rfl⟩; simp only [takeV]) | fail)
      go_ret3
      exact ⟨Below.refl _ _, Nat.le_refl _, rfl⟩
    · rw [if_neg hgt]
      have g1 : decide ((l.length : Int) - (s : Int) < (n : Int)) = false := by simp; omega
      have hx1 : (s : Int) + (n : Int) ≤ (cap : Int) := by omega
      have hx2 : ((s : Int) + (n : Int)).toNat = s + n := by omega
      have hx3 : s + n - s = n := by omega
      have hlen : ((l.drop s).take n).length = n := by simp; omega
      have HL := Lib.hid hlen
      clear hlen
      by_cases hcs : s = cap
      · subst hcs
        obtain rfl : n = 0 := by omega
        have hrd : RdB w (.slice (some ⟨blk, off, none⟩) 0 (s - s)) ((l.drop s).take 0) := .inr ⟨_, _, rfl, by simp, fun i hi => by simp at hi⟩
        rw [Nat.sub_self] at hrd
        have HRD := Lib.hid hrd
        clear hrd
        go_enter Try.func78, Try.ntmps78
        go_wp2_with (first | (go_at_call 77; refine (compact_Take _ _ _ HR.out HB.out).mono ?_; rw [HT.out]; rintro e w' ⟨rfl, rfl⟩; simp only [takeV]) | (go_at_call 56; refine (bytes_Clone _ _ _ HRD.out (by rw [HL.out]; omega)).mono ?_; rintro e w1 ⟨v1, rfl, ho1, hb1, hs1⟩) | fail)
        go_ret3
        exact ⟨hb1, hs1, v1, rfl, ho1⟩
      · have hrd := rd_drop HR.out (s := s) (k := n) (by omega) rfl
        have HRD := Lib.hid hrd
        have hcs' : (cap = s) = False := by simp; omega
        clear hrd
        go_enter Try.func78, Try.ntmps78
        go_wp2_with (first | (go_at_call 77; refine (compact_Take _ _ _ HR.out HB.out).mono ?_; rw [HT.out]; rintro e w' ⟨rfl, rfl⟩; simp only [takeV]) | (go_at_call 56; refine (bytes_Clone _ _ _ HRD.out (by rw [HL.out]; omega)).mono ?_; rintro e w1 ⟨v1, rfl, ho1, hb1, hs1⟩) | fail)
        go_ret3
        exact ⟨hb1, hs1, v1, rfl, ho1⟩

set_option maxHeartbeats 1000000 in
theorem ref_Cut (v : Value) (l : List Nat) (w : World) (h : RdB w v l) (hb : ∀ b ∈ l, b < 256) (hm : l.length ≤ 1000000000) :
    Calls Try.prog 65 #[v] w (CutRet (cutL l) w) := by
  have HB := Lib.hid hb
  have HR : Hid (RdB w v l) := Lib.hid h
  cases ht : takeL l with
  | none =>
    have hc : cutL l = none := by unfold cutL; rw [ht]
    rw [hc]
    have HT := Lib.hid ht
    obtain ⟨ao, cap, rfl⟩ := h.lenOf
    clear h hb hc ht
    go_enter Try.func65, Try.ntmps65
    go_wp2_with (first | (go_at_call 64; refine (ref_Take _ _ _ HR.out HB.out).mono ?_; rw [HT.out]; rintro e w' ⟨rfl, hb1⟩; simp only [takeV]) | fail)
    go_ret3
    exact ⟨hb1, rfl⟩
  | some x =>
    obtain ⟨n, s⟩ := x
    obtain ⟨hs, hn, hs1⟩ := takeL_le ht
    have hc : cutL l = if n > l.length - s then none else some ((l.drop s).take n, s + n) := by unfold cutL; rw [ht]
    rw [hc]
    clear hc
    have HT := Lib.hid ht
    clear ht
    rcases h with ⟨-, h⟩ | ⟨⟨blk, off, spot⟩, cap, rfl, hcap, hcell⟩
    · subst h; simp at hs; omega
    have hspot : spot = none := by
      have := World.cell?_spot (hcell 0 (by omega)); simpa [Addr.add] using this
    subst hspot
    clear hcell hb
    by_cases hgt : n > l.length - s
    · rw [if_pos hgt]
      have g1 : decide ((l.length : Int) - (s : Int) < (n : Int)) = true := by simp; omega
      go_enter Try.func65, Try.ntmps65
      go_wp2_with (first | (go_at_call 64; refine (ref_Take _ _ _ HR.out HB.out).mono ?_; rw [HT.out]; rintro e w' ⟨rfl, hb1⟩; simp only [takeV]) | fail)
      go_ret3
      exact ⟨hb1, rfl⟩
    · rw [if_neg hgt]
      have g1 : decide ((l.length : Int) - (s : Int) < (n : Int)) = false := by simp; omega
      have hx1 : (s : Int) + (n : Int) ≤ (cap : Int) := by omega
      have hx2 : ((s : Int) + (n : Int)).toNat = s + n := by omega
      have hx3 : s + n - s = n := by omega
      have hlen : ((l.drop s).take n).length = n := by simp; omega
      have HL := Lib.hid hlen
      clear hlen
      by_cases hcs : s = cap
      · subst hcs
        obtain rfl : n = 0 := by omega
        have hrd : ∀ w, RdB w (.slice (some ⟨blk, off, none⟩) 0 0) ((l.drop s).take 0) := fun w => .inr ⟨_, _, rfl, by simp, fun i hi => by simp at hi⟩
        have HRD := Lib.hid hrd
        clear hrd
        go_enter Try.func65, Try.ntmps65
        go_wp2_with (first | (go_at_call 64; refine (ref_Take _ _ _ HR.out HB.out).mono ?_; rw [HT.out]; rintro e w' ⟨rfl, hb1⟩; simp only [takeV]) | fail)
        go_ret3
        exact ⟨hb1, _, rfl, HRD.out _⟩
      · have hrd := rd_drop HR.out (s := s) (k := n) (by omega) rfl
        have HRD := Lib.hid hrd
        have hcs' : (cap = s) = False := by simp; omega
        clear hrd
        go_enter Try.func65, Try.ntmps65
        go_wp2_with (first | (go_at_call 64; refine (ref_Take _ _ _ HR.out HB.out).mono ?_; rw [HT.out]; rintro e w' ⟨rfl, hb1⟩; simp only [takeV]) | fail)
        go_ret3
        exact ⟨hb1, _, rfl, HRD.out.below hb1⟩

set_option maxHeartbeats 1000000 in
theorem ref_Nums (u : Value) (l : List Int) (w : World) (hl : RdI w u l) (hll : l.length ≤ 109951162) :
    Calls Try.prog 25 #[u] w (OwnRet w.heap.size (Bs (numsL l)) w) := by
  obtain ⟨B, hBe⟩ : ∃ B, B = w.heap.size := ⟨_, rfl⟩
  rw [← hBe]
  have HB := Lib.hid hBe
  have HLn : Hid (RdI w u l) := Lib.hid hl
  clear hBe
  obtain ⟨ao, cap, rfl⟩ : ∃ ao cap, u = .slice ao l.length cap := by
    rcases hl with ⟨rfl, rfl⟩ | ⟨a, cap, rfl, -⟩
    · exact ⟨_, _, rfl⟩
    · exact ⟨_, _, rfl⟩
  clear hl
  go_enter Try.func25, Try.ntmps25
  go_wp2_with fail
  go_loopw [3, 4] (fun b' i wr => ∃ j : Nat, j ≤ l.length ∧ i = .int .i64 j ∧ OwnB B b' (Bs (numsL (l.take j))) wr ∧ Below B w wr ∧ B ≤ wr.heap.size) (fun _ i _ => l.length - (intOf i).toNat)
  case atStart => exact ⟨0, Nat.zero_le _, rfl, World.ownsRow_nil _ _ _ _, Below.refl _ _, by rw [HB.out]; exact Nat.le_refl _⟩
  case round =>
    obtain ⟨j, hj, rfl, ho, hb, hs⟩ := hrel
    by_cases hlt : j < l.length
    · obtain ⟨L, hL⟩ : ∃ L, L = numsL (l.take j) := ⟨_, rfl⟩
      have hLl : L.length ≤ 9 * 109951162 := by
        rw [hL]
        have := numsL_length (l.take j)
        have : (l.take j).length ≤ l.length := by simp; omega
        omega
      rw [← hL] at ho
      have R := (show RdI w _ l from HLn.out)
      obtain ⟨a, cap', ha, hcap, hcell⟩ : ∃ a cap', (Value.slice ao l.length cap) = .slice (some a) l.length cap' ∧ l.length ≤ cap' ∧ ∀ i, i < l.length → w.cell? (a.add i) = some (.int .i64 (l.getD i 0)) := by
        rcases R with ⟨h1, h2⟩ | h
        · rw [h2] at hlt; simp at hlt
        · exact h
      have hcj := hcell j hlt
      have halt := cell_block hcj
      have hsp := World.cell?_spot (hcell 0 (by omega))
      obtain ⟨q, hq⟩ : ∃ q, q = l.getD j 0 := ⟨_, rfl⟩
      rw [← hq] at hcj
      have hnext : numsL (l.take (j + 1)) = L ++ numL (heldN q) := by
        have e : l.take (j + 1) = l.take j ++ [q] := by
          rw [List.take_succ_eq_append_getElem hlt, hq]; simp [hlt]
        rw [e, numsL_snoc, hL]
      have HN := Lib.hid hnext
      clear hcell R hq hnext hL
      injection ha with h1 h2 h3
      subst h1 h3
      obtain ⟨blk, off, spot⟩ := a
      have hspot : spot = none := by simpa [Addr.add] using hsp
      subst hspot
      rw [add_at] at hcj
      have hcx : wr.cell? ⟨blk, off + j, none⟩ = some (.int .i64 q) := (hb.cell (p := ⟨blk, off + j, none⟩) (by rw [HB.out]; exact halt)).trans hcj
      have hnl := numL_length (heldN q)
      clear hcj halt h2 hsp
      go_wp2_with (first | (go_at_call 55; refine (ref_Num _ _).mono ?_; rintro e w1 ⟨v1, rfl, ho1, hb1, hs1⟩; have hr1 := ho1.reads; have ho2 : OwnB B u3 (Bs L) w1 := own_kept ho hb1 hs) | (at_builtin; refine wp_app_B rfl rfl rfl rfl ho2 hr1 (by omega) (Nat.le_trans hs hs1) ?_; intro v3 w3 ho3 hb3 hs3 hg3; rw [← HN.out] at ho3; have hb4 : Below B w w3 := (hb.trans (hb1.mono hs)).trans hb3) | fail)
      exact ⟨⟨j + 1, by omega, by go_num, ho3, hb4, hs3⟩, by simp [intOf]; omega⟩
    · go_wp2
      go_ret
      have : j = l.length := by omega
      subst this
      rw [List.take_length] at ho
      exact ⟨_, rfl, ho, hb, hs⟩

end Go.Proofs.Ytbndegkgpoemnaa
