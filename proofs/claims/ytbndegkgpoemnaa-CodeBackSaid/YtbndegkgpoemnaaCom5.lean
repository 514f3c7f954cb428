/-
  Contracts of compact: the number that bytes make; a number taken.
-/
import Derived.Test.YtbndegkgpoemnaaCom4
import Derived.Laws.Bits64b
namespace Go.Proofs.Ytbndegkgpoemnaa
open Go.RowKit
set_option linter.unusedVariables false

/-- The number that bytes make, the lowest first. -/
def valL : List Nat → Nat
  | [] => 0
  | b :: l => b + 256 * valL l
theorem valL_snoc (l : List Nat) (b : Nat) : valL (l ++ [b]) = valL l + b * 256 ^ l.length := by
  induction l with
  | nil => simp [valL]
  | cons a l ih =>
    simp only [List.cons_append, valL, ih, Nat.mul_add, Nat.pow_succ, List.length_cons]
    rw [Nat.mul_left_comm 256 b, Nat.mul_comm 256 (256 ^ l.length)]
    omega
theorem valL_lt (l : List Nat) (h : ∀ b ∈ l, b < 256) : valL l < 256 ^ l.length := by
  induction l with
  | nil => simp [valL]
  | cons a l ih =>
    have h1 := h a (by simp)
    have h2 := ih (fun b hb => h b (by simp [hb]))
    simp [valL, Nat.pow_succ]; omega

/-- How many bytes a number has whose first byte is c. -/
def toldN (c : Nat) : Nat := if c % 4 = 0 then 1 else if c % 4 = 1 then 2 else if c % 4 = 2 then 4 else 5 + c / 4

theorem pow_8 (j : Nat) : (2 : Nat) ^ (8 * j) = 256 ^ j := by
  rw [Nat.pow_mul]
/-- One more byte. -/
theorem or_byte {m c j : Nat} (hj : j < 8) (hm : m < 256 ^ j) (hc : c < 256) :
    bits .or .u64 (m : Int) (IntKind.u64.wrap ((c : Int) * 2 ^ (8 * j))) = ((m + c * 256 ^ j : Nat) : Int) := by
  have hp : 256 ^ (j + 1) ≤ 256 ^ 8 := Nat.pow_le_pow_right (by omega) (by omega)
  rw [Nat.pow_succ] at hp
  have hb : c * 256 ^ j + 256 ^ j ≤ 256 ^ j * 256 := by
    have := Nat.mul_le_mul_right (256 ^ j) (show c + 1 ≤ 256 by omega)
    rw [Nat.add_mul] at this; rw [Nat.mul_comm (256 ^ j)]; omega
  have h8 : (256 : Nat) ^ 8 = 18446744073709551616 := by rfl
  rw [h8] at hp
  have h1 : ((c : Int) * 2 ^ (8 * j)) = ((c * 256 ^ j : Nat) : Int) := by
    rw [← pow_8]; push_cast; rfl
  have h2 : IntKind.u64.wrap ((c * 256 ^ j : Nat) : Int) = ((c * 256 ^ j : Nat) : Int) := by
    rw [IntKind.wrap_u64]; omega
  have h3 : m + c * 256 ^ j = m ||| c * 256 ^ j := by
    have := Nat.two_pow_add_eq_or_of_lt (i := 8 * j) (b := m) (by rw [pow_8]; exact hm) c
    rw [pow_8, Nat.mul_comm] at this
    rw [Nat.or_comm, ← this, Nat.add_comm]
  rw [h1, h2, h3]
  exact bits_or_u64_nat m _ (by omega) (by omega)

theorem compact_told (c : Nat) (w : World) (hc : c < 256) :
    Calls Try.prog 81 #[.int .u8 c] w fun e w' => e = .returned (.int .i64 ((toldN c : Nat) : Int)) ∧ w = w' := by
  have hb : bits .and .u8 (c : Int) 3 = ((c % 4 : Nat) : Int) := by
    have := u8_and_nat c 3 hc (by omega)
    rw [show c &&& 3 = c % 4 from Nat.and_two_pow_sub_one_eq_mod c 2] at this
    exact this
  have h4 : c % 4 = 0 ∨ c % 4 = 1 ∨ c % 4 = 2 ∨ c % 4 = 3 := by omega
  rcases h4 with h | h | h | h
  all_goals
    rw [h] at hb
    obtain ⟨t, ht⟩ : ∃ t, t = toldN c := ⟨_, rfl⟩
    rw [← ht]
    simp only [toldN, h] at ht
    simp at ht
    have H := Lib.hid h
    clear h
    have HT := Lib.hid ht
    clear ht
    go_enter Try.func81, Try.ntmps81
    go_wp2
    go_ret
    exact ⟨ret_int (by rw [HT.out]; first | rfl | omega), rfl⟩

set_option maxHeartbeats 1000000 in
theorem compact_value (v : Value) (l : List Nat) (w : World) (h : RdB w v l) (hl : l.length ≤ 8) (hb : ∀ b ∈ l, b < 256) :
    Calls Try.prog 82 #[v] w fun e w' => e = .returned (.int .u64 (valL l : Nat)) ∧ w = w' := by
  have HR : Hid (RdB w v l) := Lib.hid h
  obtain ⟨ao, cap, rfl⟩ : ∃ ao cap, v = .slice ao l.length cap := by
    rcases h with ⟨rfl, rfl⟩ | ⟨a, cap, rfl, -⟩
    · exact ⟨_, _, rfl⟩
    · exact ⟨_, _, rfl⟩
  have HBd := Lib.hid hb
  clear h hb
  go_enter Try.func82, Try.ntmps82
  go_wp2
  go_loop [3, 8] (fun u i => ∃ j m : Nat, j ≤ l.length ∧ i = .int .i64 j ∧ u = .int .u64 m ∧ m = valL (l.take j)) (fun _ i => l.length - (intOf i).toNat)
  case atStart => exact ⟨0, 0, Nat.zero_le _, rfl, rfl, by simp [valL]⟩
  case round =>
    obtain ⟨j, m, hj, rfl, rfl, hm⟩ := hrel
    have HM := Lib.hid hm
    clear hm
    by_cases hlt : j < l.length
    · have R := HR.out
      obtain ⟨a, cap', ha, hcap, hcell⟩ : ∃ a cap', (Value.slice ao l.length cap) = .slice (some a) l.length cap' ∧ l.length ≤ cap' ∧ ∀ i, i < l.length → w.cell? (a.add i) = some (.int .u8 ((l.getD i 0 : Nat) : Int)) := by
        rcases R with ⟨h1, h2⟩ | h
        · rw [h2] at hlt; simp at hlt
        · exact h
      have hcj := hcell j hlt
      have hsp := World.cell?_spot (hcell 0 (by omega))
      obtain ⟨c, hc⟩ : ∃ c, c = l.getD j 0 := ⟨_, rfl⟩
      rw [← hc] at hcj
      have hc2 : c < 256 := HBd.out c (by rw [hc]; simp [hlt])
      injection ha with h1 h2 h3
      subst h1 h3
      obtain ⟨blk, off, spot⟩ := a
      have hspot : spot = none := by simpa [Addr.add] using hsp
      subst hspot
      have hadd : (⟨blk, off, none⟩ : Addr).add j = ⟨blk, off + j, none⟩ := by simp [Addr.add]
      rw [hadd] at hcj
      have HC := Lib.hid hc
      clear hcell R hc h2 hsp
      have hm' : m < 256 ^ j := by
        rw [HM.out]
        have := valL_lt (l.take j) (fun b hb => HBd.out b (List.mem_of_mem_take hb))
        rwa [List.length_take, Nat.min_eq_left (by omega)] at this
      have hor := or_byte (show j < 8 by omega) hm' hc2
      obtain ⟨m', hm2⟩ : ∃ m', m' = m + c * 256 ^ j := ⟨_, rfl⟩
      rw [← hm2] at hor
      have HM2 := Lib.hid hm2
      clear hm2 hm'
      go_wp2
      refine ⟨⟨j + 1, m', by omega, by simp, rfl, ?_⟩, by simp [intOf]; omega⟩
      rw [HM2.out, HM.out, HC.out]
      have ht : l.take (j + 1) = l.take j ++ [l.getD j 0] := by
        rw [List.take_add_one, List.getElem?_eq_getElem hlt]; simp [hlt]
      rw [ht, valL_snoc, List.length_take, Nat.min_eq_left (by omega)]
    · go_wp2
      go_ret
      have : j = l.length := by omega
      subst this
      exact ⟨by rw [HM.out, List.take_length]; rfl, rfl⟩

end Go.Proofs.Ytbndegkgpoemnaa
