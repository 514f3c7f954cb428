/-
  What a number's bytes tell: the arithmetic.
-/
import Derived.Test.YtbndegkgpoemnaaCom6
namespace Go.Proofs.Ytbndegkgpoemnaa
open Go.RowKit
set_option linter.unusedVariables false

theorem lowL_cons (n : Nat) : ∀ k, lowL n (k + 1) = n % 256 :: lowL (n / 256) k
  | 0 => by simp [lowL]
  | k + 1 => by
    rw [lowL, lowL_cons n k, lowL, Nat.div_div_eq_div_mul, ← Nat.pow_succ']
    rfl
theorem lowL_valL : ∀ t : List Nat, (∀ b ∈ t, b < 256) → lowL (valL t) t.length = t
  | [], _ => rfl
  | b :: t, h => by
    have hb : b < 256 := h b (by simp)
    rw [List.length_cons, lowL_cons, valL, show (b + 256 * valL t) % 256 = b by omega, show (b + 256 * valL t) / 256 = valL t by omega, lowL_valL t (fun x hx => h x (by simp [hx]))]
theorem valL_lowL (n : Nat) : ∀ k, valL (lowL n k) = n % 256 ^ k
  | 0 => by simp [lowL, valL, Nat.mod_one]
  | k + 1 => by
    rw [lowL, valL_snoc, valL_lowL n k, lowL_length, Nat.pow_succ, Nat.mod_mul, Nat.mul_comm]
theorem lowL_lt (n : Nat) : ∀ k, ∀ b ∈ lowL n k, b < 256
  | 0 => by simp [lowL]
  | k + 1 => by
    intro b hb
    rw [lowL, List.mem_append, List.mem_singleton] at hb
    rcases hb with hb | rfl
    · exact lowL_lt n k b hb
    · exact Nat.mod_lt _ (by omega)
theorem kN_ge (n : Nat) : 4 ≤ kN n ∧ kN n ≤ 8 := by
  rcases kN_cases n with h | h | h | h | h <;> omega
theorem numL_size (n : Nat) : (numL n).length = sizeN n := by
  unfold numL sizeN
  split
  · simp [lowL_length]
  split
  · simp [lowL_length]
  split
  · simp [lowL_length]
  · simp [lowL_length, Nat.add_comm]
theorem numL_lt (n : Nat) : ∀ b ∈ numL n, b < 256 := by
  have hk := kN_ge n
  unfold numL
  split
  · exact lowL_lt _ _
  split
  · exact lowL_lt _ _
  split
  · exact lowL_lt _ _
  · intro b hb
    rw [List.mem_cons] at hb
    rcases hb with rfl | hb
    · omega
    · exact lowL_lt _ _ b hb
theorem sizeN_le (n : Nat) : 1 ≤ sizeN n ∧ sizeN n ≤ 9 := by
  have hk := kN_ge n
  unfold sizeN
  split
  · omega
  split
  · omega
  split <;> omega
theorem numL_ne (n : Nat) : numL n ≠ [] := by
  have h := numL_size n
  have := (sizeN_le n).1
  intro e; rw [e] at h; simp at h; omega
theorem kN_fits {n : Nat} (h : n ≤ 4611686018427387904) : n < 256 ^ kN n := by
  unfold kN
  split
  · simpa using ‹_›
  split
  · simpa using ‹_›
  split
  · simpa using ‹_›
  split
  · simpa using ‹_›
  · show n < 256 ^ 8
    have : (256 : Nat) ^ 8 = 18446744073709551616 := rfl
    omega

/-- A number's first byte tells its size. -/
theorem numL_told {n : Nat} : toldN ((numL n).getD 0 0) = sizeN n := by
  have hk := kN_ge n
  unfold numL sizeN
  split
  · simp only [lowL_cons, List.getD_cons_zero]; unfold toldN; rw [if_pos (by omega)]
  split
  · simp only [lowL_cons, List.getD_cons_zero]; unfold toldN; rw [if_neg (by omega), if_pos (by omega)]
  split
  · simp only [lowL_cons, List.getD_cons_zero]; unfold toldN; rw [if_neg (by omega), if_neg (by omega), if_pos (by omega)]
  · simp only [List.getD_cons_zero]; unfold toldN; rw [if_neg (by omega), if_neg (by omega), if_neg (by omega)]; omega

/-- A number that was put is taken. -/
theorem takeL_num {n : Nat} (hn : n ≤ 4611686018427387904) (t : List Nat) : takeL (numL n ++ t) = some (n, sizeN n) := by
  have hlen := numL_size n
  have hs := sizeN_le n
  have hne := numL_ne n
  have h0 : (numL n ++ t).getD 0 0 = (numL n).getD 0 0 := by
    cases h : numL n with
    | nil => exact absurd h hne
    | cons a l => rfl
  have a0 : ¬ (numL n ++ t = []) := by simp [hne]
  have a1 : ¬ (sizeN n > 9 ∨ sizeN n > (numL n ++ t).length) := by rw [List.length_append]; omega
  have ht : (numL n ++ t).take (sizeN n) = numL n := by rw [← hlen]; exact List.take_left' rfl
  have hu : (if sizeN n > 4 then valL ((numL n).drop 1) else valL (numL n) / 4) = n := by
    have hk := kN_ge n
    have hf := kN_fits hn
    unfold sizeN numL
    split
    · rw [if_neg (by omega), valL_lowL]; omega
    split
    · rw [if_neg (by omega), valL_lowL]; omega
    split
    · rw [if_neg (by omega), valL_lowL]; omega
    · rw [if_pos (by omega), List.drop_succ_cons, List.drop_zero, valL_lowL, Nat.mod_eq_of_lt hf]
  simp only [takeL, if_neg a0, h0, numL_told, if_neg a1, ht, hu]
  rw [if_neg (by omega)]

theorem valL_mod4 {l : List Nat} (h : l ≠ []) : valL l % 4 = l.getD 0 0 % 4 := by
  cases l with
  | nil => exact absurd rfl h
  | cons a l => simp [valL]; omega

/-- What is as long as it is told is that number's bytes. -/
theorem numL_of {l : List Nat} {u : Nat} (hl : l ≠ []) (hb : ∀ b ∈ l, b < 256) (hs2 : toldN (l.getD 0 0) ≤ l.length)
    (hu : u = if toldN (l.getD 0 0) > 4 then valL ((l.take (toldN (l.getD 0 0))).drop 1) else valL (l.take (toldN (l.getD 0 0))) / 4)
    (hz : sizeN u = toldN (l.getD 0 0)) : numL u = l.take (toldN (l.getD 0 0)) := by
  obtain ⟨s, hS⟩ : ∃ s, s = toldN (l.getD 0 0) := ⟨_, rfl⟩
  rw [← hS] at hs2 hu hz ⊢
  have hpos := toldN_pos (l.getD 0 0)
  rw [← hS] at hpos
  obtain ⟨p, hp⟩ : ∃ p, p = l.take s := ⟨_, rfl⟩
  have hpl : p.length = s := by rw [hp, List.length_take]; omega
  have hpb : ∀ b ∈ p, b < 256 := by rw [hp]; exact fun b h => hb b (List.mem_of_mem_take h)
  have hp0 : p.getD 0 0 = l.getD 0 0 := by
    rw [hp]; cases l with
    | nil => exact absurd rfl hl
    | cons a t => cases s with
      | zero => omega
      | succ s => rfl
  have hpn : p ≠ [] := by intro e; rw [e] at hpl; simp at hpl; omega
  have hm := valL_mod4 hpn
  have hlow := lowL_valL p hpb
  rw [← hp] at hu ⊢
  rw [← hp0] at hS
  rw [hpl] at hlow
  have hk := kN_ge u
  unfold toldN at hS
  unfold sizeN at hz
  unfold numL
  by_cases c1 : u < 64
  · rw [if_pos c1] at hz ⊢
    rw [if_neg (by omega)] at hu
    have e : 4 * u = valL p := by split at hS <;> (try split at hS) <;> (try split at hS) <;> omega
    rw [e, hz]; exact hlow
  by_cases c2 : u < 16384
  · rw [if_neg c1, if_pos c2] at hz ⊢
    rw [if_neg (by omega)] at hu
    have e : 4 * u + 1 = valL p := by split at hS <;> (try split at hS) <;> (try split at hS) <;> omega
    rw [e, hz]; exact hlow
  by_cases c3 : u < 1073741824
  · rw [if_neg c1, if_neg c2, if_pos c3] at hz ⊢
    rw [if_neg (by omega)] at hu
    have e : 4 * u + 2 = valL p := by split at hS <;> (try split at hS) <;> (try split at hS) <;> omega
    rw [e, hz]; exact hlow
  · rw [if_neg c1, if_neg c2, if_neg c3] at hz ⊢
    rw [if_pos (by omega)] at hu
    cases p with
    | nil => exact absurd rfl hpn
    | cons c t =>
      simp only [List.getD_cons_zero, List.drop_succ_cons, List.drop_zero, List.length_cons] at hS hu hpl
      have hc : c < 256 := hpb c (by simp)
      have e : 4 * (kN u - 4) + 3 = c := by split at hS <;> (try split at hS) <;> (try split at hS) <;> omega
      have h := lowL_valL t (fun b h => hpb b (by simp [h]))
      rw [e, hu, show kN (valL t) = t.length by rw [← hu]; omega, h]

/-- What is taken stands there as that number's bytes. -/
theorem takeL_some {l : List Nat} {n s : Nat} (hb : ∀ b ∈ l, b < 256) (h : takeL l = some (n, s)) :
    n ≤ 4611686018427387904 ∧ s = sizeN n ∧ s ≤ l.length ∧ l.take s = numL n := by
  by_cases hl : l = []
  · simp [takeL, hl] at h
  by_cases h9 : toldN (l.getD 0 0) > 9 ∨ toldN (l.getD 0 0) > l.length
  · simp only [takeL, if_neg hl, if_pos h9] at h; exact absurd h (by simp)
  simp only [takeL, if_neg hl, if_neg h9] at h
  obtain ⟨u, hu⟩ : ∃ u, u = if toldN (l.getD 0 0) > 4 then valL ((l.take (toldN (l.getD 0 0))).drop 1) else valL (l.take (toldN (l.getD 0 0))) / 4 := ⟨_, rfl⟩
  rw [← hu] at h
  by_cases hc : u > 4611686018427387904 ∨ sizeN u ≠ toldN (l.getD 0 0)
  · rw [if_pos hc] at h; exact absurd h (by simp)
  rw [if_neg hc] at h
  injection h with h
  injection h with h1 h2
  have hz : sizeN u = toldN (l.getD 0 0) := by omega
  have := numL_of hl hb (by omega) hu hz
  subst h1 h2
  exact ⟨by omega, hz.symm, by omega, this.symm⟩

end Go.Proofs.Ytbndegkgpoemnaa
