/-
  Contracts of compact: a number is taken.
-/
import Derived.Test.YtbndegkgpoemnaaCom5
import Derived.OwnWalk
namespace Go.Proofs.Ytbndegkgpoemnaa
open Go.RowKit
set_option linter.unusedVariables false

/-- The number that bytes begin with, and its size. -/
def takeL (l : List Nat) : Option (Nat × Nat) :=
  if l = [] then none else
  let s := toldN (l.getD 0 0)
  if s > 9 ∨ s > l.length then none else
  let u := if s > 4 then valL ((l.take s).drop 1) else valL (l.take s) / 4
  if u > 4611686018427387904 ∨ sizeN u ≠ s then none else some (u, s)
/-- What take tells. -/
def takeV (o : Option (Nat × Nat)) : Ending :=
  match o with
  | none => .returned (.tuple #[.int .i64 0, .int .i64 0, .bool false])
  | some (n, s) => .returned (.tuple #[.int .i64 (n : Nat), .int .i64 (s : Nat), .bool true])

theorem RdB.lenOf {w : World} {v : Value} {l : List Nat} (h : RdB w v l) : ∃ ao cap, v = .slice ao l.length cap := by
  rcases h with ⟨rfl, rfl⟩ | ⟨a, cap, rfl, -⟩
  · exact ⟨_, _, rfl⟩
  · exact ⟨_, _, rfl⟩
theorem toldN_pos (c : Nat) : 1 ≤ toldN c := by unfold toldN; split <;> (try split) <;> (try split) <;> omega

set_option maxHeartbeats 1000000 in
theorem compact_Take_0 (v : Value) (w : World) (h : RdB w v []) :
    Calls Try.prog 77 #[v] w fun e w' => e = takeV none ∧ w = w' := by
  obtain ⟨ao, cap, rfl⟩ := h.lenOf
  simp only [List.length_nil] at *
  go_enter Try.func77, Try.ntmps77
  go_wp2
  go_ret3
  exact ⟨rfl, rfl⟩

set_option maxHeartbeats 1000000 in
theorem compact_Take_short (v : Value) (l : List Nat) (w : World) (h : RdB w v l) (hl : l ≠ []) (hb : ∀ b ∈ l, b < 256) (hs : toldN (l.getD 0 0) > 9 ∨ toldN (l.getD 0 0) > l.length) :
    Calls Try.prog 77 #[v] w fun e w' => e = takeV none ∧ w = w' := by
  rcases h with ⟨-, h⟩ | ⟨⟨blk, off, spot⟩, cap, rfl, hcap, hcell⟩
  · exact absurd h hl
  have hpos : 0 < l.length := List.length_pos_iff.2 hl
  have h0 := hcell 0 hpos
  obtain ⟨c, hc⟩ : ∃ c, c = l.getD 0 0 := ⟨_, rfl⟩
  have hc2 : c < 256 := hb c (by rw [hc]; simp [hpos])
  rw [← hc] at h0 hs
  have hspot : spot = none := by simpa [Addr.add] using World.cell?_spot h0
  subst hspot
  have hadd : (⟨blk, off, none⟩ : Addr).add 0 = ⟨blk, off, none⟩ := by simp [Addr.add]
  rw [hadd] at h0
  obtain ⟨s, hS⟩ : ∃ s, s = toldN c := ⟨_, rfl⟩
  rw [← hS] at hs
  have hne : (l.length == 0) = false := by simp; omega
  have e1 : decide ((9 : Int) < (s : Int)) = true ∨ (decide ((9 : Int) < (s : Int)) = false ∧ decide (l.length < s) = true) := by
    simp; omega
  have HS := Lib.hid hS
  have HC := Lib.hid hc
  have HBd := Lib.hid hb
  clear hS hc hb hs hcell hl
  rcases e1 with e1 | ⟨e1, e2⟩
  all_goals
    go_enter Try.func77, Try.ntmps77
    go_wp2_with (first | (go_at_call 81; refine (compact_told _ _ hc2).mono ?_; rw [← HS.out]; rintro e w' ⟨rfl, rfl⟩) | fail)
    go_ret3
    exact ⟨rfl, rfl⟩

/-- The bytes of a slice of a slice. -/
theorem rd_cut {w : World} {blk off cap i j : Nat} {l : List Nat} (hl : l.length ≤ cap) (hc : ∀ i, i < l.length → w.cell? ((⟨blk, off, none⟩ : Addr).add i) = some (.int .u8 ((l.getD i 0 : Nat) : Int))) (hij : i ≤ j) (hj : j ≤ l.length) :
    RdB w (.slice (some ⟨blk, off + i, none⟩) (j - i) (cap - i)) ((l.take j).drop i) := by
  have hlen : ((l.take j).drop i).length = j - i := by simp; omega
  refine .inr ⟨⟨blk, off + i, none⟩, cap - i, by rw [hlen], by rw [hlen]; omega, fun k hk => ?_⟩
  rw [hlen] at hk
  have := hc (i + k) (by omega)
  have e1 : (⟨blk, off + i, none⟩ : Addr).add k = (⟨blk, off, none⟩ : Addr).add (i + k) := by
    unfold Addr.add; by_cases h1 : k = 0 <;> by_cases h2 : i + k = 0 <;> simp_all <;> omega
  have e2 : ((l.take j).drop i).getD k 0 = l.getD (i + k) 0 := by
    simp only [List.getD_eq_getElem?_getD, List.getElem?_drop, List.getElem?_take]
    rw [if_pos (by omega)]
  rw [e1, e2]; exact this

set_option maxHeartbeats 2000000 in
theorem compact_Take_small (v : Value) (l : List Nat) (w : World) (h : RdB w v l) (hl : l ≠ []) (hb : ∀ b ∈ l, b < 256) (hs : toldN (l.getD 0 0) ≤ 4) (hs2 : toldN (l.getD 0 0) ≤ l.length) :
    Calls Try.prog 77 #[v] w fun e w' => e = takeV (takeL l) ∧ w = w' := by
  rcases h with ⟨-, h⟩ | ⟨⟨blk, off, spot⟩, cap, rfl, hcap, hcell⟩
  · exact absurd h hl
  have hpos : 0 < l.length := List.length_pos_iff.2 hl
  have h0 := hcell 0 hpos
  obtain ⟨c, hc⟩ : ∃ c, c = l.getD 0 0 := ⟨_, rfl⟩
  have hc2 : c < 256 := hb c (by rw [hc]; simp [hpos])
  have htl : takeL l = if valL (l.take (toldN c)) / 4 > 4611686018427387904 ∨ sizeN (valL (l.take (toldN c)) / 4) ≠ toldN c then none else some (valL (l.take (toldN c)) / 4, toldN c) := by
    have a1 : ¬ (toldN c > 9 ∨ toldN c > l.length) := by rw [hc]; omega
    have a2 : ¬ (toldN c > 4) := by rw [hc]; omega
    simp only [takeL, if_neg hl, ← hc, if_neg a1, if_neg a2]
  rw [← hc] at h0 hs hs2
  have hspot : spot = none := by simpa [Addr.add] using World.cell?_spot h0
  subst hspot
  have hadd : (⟨blk, off, none⟩ : Addr).add 0 = ⟨blk, off, none⟩ := by simp [Addr.add]
  rw [hadd] at h0
  obtain ⟨s, hS⟩ : ∃ s, s = toldN c := ⟨_, rfl⟩
  have hs1 : 1 ≤ s := by rw [hS]; exact toldN_pos c
  rw [← hS] at hs hs2 htl
  have hrd := rd_cut (i := 0) hcap hcell (Nat.zero_le s) hs2
  simp only [Nat.add_zero, Nat.sub_zero, List.drop_zero] at hrd
  have hvl : (l.take s).length ≤ 8 := by rw [List.length_take]; omega
  have hvb : ∀ b ∈ l.take s, b < 256 := fun b h => hb b (List.mem_of_mem_take h)
  have hlt := valL_lt _ hvb
  rw [List.length_take, Nat.min_eq_left hs2] at hlt
  have hp : 256 ^ s ≤ 256 ^ 4 := Nat.pow_le_pow_right (by omega) hs
  obtain ⟨u, hu⟩ : ∃ u, u = valL (l.take s) := ⟨_, rfl⟩
  rw [← hu] at hlt htl
  have hu4 : u < 4294967296 := by have : (256:Nat) ^ 4 = 4294967296 := rfl; omega
  have hval := fun w' (h : RdB w' _ _) => compact_value (.slice (some ⟨blk, off, none⟩) s cap) (l.take s) w' h hvl hvb
  rw [← hu] at hval
  obtain ⟨q, hq⟩ : ∃ q, q = u / 4 := ⟨_, rfl⟩
  rw [← hq] at htl
  have hq4 : q < 1073741824 := by omega
  have hheld : heldN (q : Int) = q := by unfold heldN; omega
  have hne : (l.length == 0) = false := by simp; omega
  have g1 : decide ((9 : Int) < (s : Int)) = false := by simp; omega
  have g2 : decide (l.length < s) = false := by simp; omega
  have g3 : decide ((4 : Int) < (s : Int)) = false := by simp; omega
  obtain ⟨z, hz⟩ : ∃ z, z = sizeN q := ⟨_, rfl⟩
  rw [← hz] at htl
  have htl : takeL l = if z = s then some (q, s) else none := by
    rw [htl]; by_cases h : z = s
    · rw [if_neg (by omega), if_pos h]
    · rw [if_pos (by omega), if_neg h]
  have hsz := compact_Size (q : Int) w (by omega)
  rw [hheld, ← hz] at hsz
  have hqi : ((u : Int) / 4) = (q : Int) := by omega
  have g4 : decide ((4611686018427387904 : Int) < (q : Int)) = false := by simp; omega
  have HS := Lib.hid hS
  have HC := Lib.hid hc
  have HBd := Lib.hid hb
  have HT := Lib.hid htl
  have HQ := Lib.hid hq
  have HU := Lib.hid hu
  have HZ := Lib.hid hz
  have HR := Lib.hid hrd
  have HV := Lib.hid hval
  have HSz := Lib.hid hsz
  clear hS hc hb hcell hl htl hq hu hz hrd hval hsz hlt hp hvb hheld
  go_enter Try.func77, Try.ntmps77
  go_wp2_with (first | (go_at_call 81; refine (compact_told _ _ hc2).mono ?_; rw [← HS.out]; rintro e w' ⟨rfl, rfl⟩) | (go_at_call 82; refine (HV.out _ HR.out).mono ?_; rintro e w' ⟨rfl, rfl⟩) | (go_at_call 74; refine HSz.out.mono ?_; rintro e w' ⟨rfl, rfl⟩) | fail)
  · rename_i hz
    go_ret3
    refine ⟨?_, rfl⟩
    rw [HT.out, if_neg (by rintro rfl; simp at hz)]
    rfl
  · rename_i hz
    go_ret3
    refine ⟨?_, rfl⟩
    rw [HT.out, if_pos (by simp at hz; omega)]
    rfl

set_option maxHeartbeats 2000000 in
theorem compact_Take_long (v : Value) (l : List Nat) (w : World) (h : RdB w v l) (hl : l ≠ []) (hb : ∀ b ∈ l, b < 256) (hs : 4 < toldN (l.getD 0 0)) (hs9 : toldN (l.getD 0 0) ≤ 9) (hs2 : toldN (l.getD 0 0) ≤ l.length) :
    Calls Try.prog 77 #[v] w fun e w' => e = takeV (takeL l) ∧ w = w' := by
  rcases h with ⟨-, h⟩ | ⟨⟨blk, off, spot⟩, cap, rfl, hcap, hcell⟩
  · exact absurd h hl
  have hpos : 0 < l.length := List.length_pos_iff.2 hl
  have h0 := hcell 0 hpos
  obtain ⟨c, hc⟩ : ∃ c, c = l.getD 0 0 := ⟨_, rfl⟩
  have hc2 : c < 256 := hb c (by rw [hc]; simp [hpos])
  have htl : takeL l = if valL ((l.take (toldN c)).drop 1) > 4611686018427387904 ∨ sizeN (valL ((l.take (toldN c)).drop 1)) ≠ toldN c then none else some (valL ((l.take (toldN c)).drop 1), toldN c) := by
    have a1 : ¬ (toldN c > 9 ∨ toldN c > l.length) := by rw [hc]; omega
    have a2 : (toldN c > 4) := by rw [hc]; omega
    simp only [takeL, if_neg hl, ← hc, if_neg a1, if_pos a2]
  rw [← hc] at h0 hs hs2 hs9
  have hspot : spot = none := by simpa [Addr.add] using World.cell?_spot h0
  subst hspot
  have hadd : (⟨blk, off, none⟩ : Addr).add 0 = ⟨blk, off, none⟩ := by simp [Addr.add]
  rw [hadd] at h0
  obtain ⟨s, hS⟩ : ∃ s, s = toldN c := ⟨_, rfl⟩
  have hs1 : 1 ≤ s := by rw [hS]; exact toldN_pos c
  rw [← hS] at hs hs2 hs9 htl
  have hrd := rd_cut (i := 1) hcap hcell hs1 hs2
  have hvn : ((l.take s).drop 1).length = s - 1 := by simp; omega
  have hvl : ((l.take s).drop 1).length ≤ 8 := by omega
  have hvb : ∀ b ∈ (l.take s).drop 1, b < 256 := fun b h => hb b (List.mem_of_mem_take (List.mem_of_mem_drop h))
  have hlt := valL_lt _ hvb
  rw [hvn] at hlt
  have hp : 256 ^ (s - 1) ≤ 256 ^ 8 := Nat.pow_le_pow_right (by omega) (by omega)
  obtain ⟨u, hu⟩ : ∃ u, u = valL ((l.take s).drop 1) := ⟨_, rfl⟩
  rw [← hu] at hlt htl
  have hu4 : u < 18446744073709551616 := by have : (256:Nat) ^ 8 = 18446744073709551616 := rfl; omega
  have hval := fun w' (h : RdB w' _ _) => compact_value (.slice (some ⟨blk, off + 1, none⟩) (s - 1) (cap - 1)) ((l.take s).drop 1) w' h hvl hvb
  rw [← hu] at hval
  have hne : (l.length == 0) = false := by simp; omega
  have g1 : decide ((9 : Int) < (s : Int)) = false := by simp; omega
  have g2 : decide (l.length < s) = false := by simp; omega
  have g3 : decide ((4 : Int) < (s : Int)) = true := by simp; omega
  obtain ⟨z, hz⟩ : ∃ z, z = sizeN u := ⟨_, rfl⟩
  rw [← hz] at htl
  have HS := Lib.hid hS
  have HC := Lib.hid hc
  have HBd := Lib.hid hb
  have HT := Lib.hid htl
  have HU := Lib.hid hu
  have HR := Lib.hid hrd
  have HV := Lib.hid hval
  clear hS hc hb hcell hl htl hu hrd hval hlt hp hvb hvn
  by_cases hut : u > 4611686018427387904
  · have g4 : decide ((4611686018427387904 : Int) < (u : Int)) = true := by simp; omega
    have HZ := Lib.hid hz
    clear hz
    go_enter Try.func77, Try.ntmps77
    go_wp2_with (first | (go_at_call 81; refine (compact_told _ _ hc2).mono ?_; rw [← HS.out]; rintro e w' ⟨rfl, rfl⟩) | (go_at_call 82; refine (HV.out _ HR.out).mono ?_; rintro e w' ⟨rfl, rfl⟩) | fail)
    go_ret3
    refine ⟨?_, rfl⟩
    rw [HT.out, if_pos (.inl hut)]
    rfl
  · have g4 : decide ((4611686018427387904 : Int) < (u : Int)) = false := by simp; omega
    have hheld : heldN (u : Int) = u := by unfold heldN; omega
    have hsz := compact_Size (u : Int) w (by omega)
    rw [hheld, ← hz] at hsz
    have HZ := Lib.hid hz
    have HSz := Lib.hid hsz
    clear hz hheld hsz
    go_enter Try.func77, Try.ntmps77
    go_wp2_with (first | (go_at_call 81; refine (compact_told _ _ hc2).mono ?_; rw [← HS.out]; rintro e w' ⟨rfl, rfl⟩) | (go_at_call 82; refine (HV.out _ HR.out).mono ?_; rintro e w' ⟨rfl, rfl⟩) | (go_at_call 74; refine HSz.out.mono ?_; rintro e w' ⟨rfl, rfl⟩) | fail)
    · rename_i hz
      go_ret3
      refine ⟨?_, rfl⟩
      rw [HT.out, if_pos (.inr (by rintro rfl; simp at hz))]
      rfl
    · rename_i hz
      go_ret3
      refine ⟨?_, rfl⟩
      rw [HT.out, if_neg (by rintro (h | h); exact hut h; exact h (by simp at hz; omega))]
      rfl

theorem compact_Take (v : Value) (l : List Nat) (w : World) (h : RdB w v l) (hb : ∀ b ∈ l, b < 256) :
    Calls Try.prog 77 #[v] w fun e w' => e = takeV (takeL l) ∧ w = w' := by
  by_cases hl : l = []
  · subst hl; exact compact_Take_0 v w h
  by_cases h9 : toldN (l.getD 0 0) > 9 ∨ toldN (l.getD 0 0) > l.length
  · have : takeL l = none := by simp only [takeL, if_neg hl, if_pos h9]
    rw [this]; exact compact_Take_short v l w h hl hb h9
  by_cases h4 : toldN (l.getD 0 0) ≤ 4
  · exact compact_Take_small v l w h hl hb h4 (by omega)
  · exact compact_Take_long v l w h hl hb (by omega) (by omega) (by omega)

end Go.Proofs.Ytbndegkgpoemnaa
