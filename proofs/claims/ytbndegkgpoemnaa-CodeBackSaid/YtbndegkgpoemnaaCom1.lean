/-
  Contracts of compact: a number's lowest bytes laid behind a row that the call owns.
-/
import Derived.Test.YtbndegkgpoemnaaChecked
import Derived.WalkKit
import Derived.WalkSpells
import Derived.WalkLawsBesides
import Derived.Lib.Hide
import Derived.Below
import Derived.IntWalk
namespace Go.Proofs.Ytbndegkgpoemnaa
open Go.RowKit
set_option linter.unusedVariables false

theorem ret_int {k : IntKind} {a b : Int} (h : a = b) : Ending.returned (.int k a) = .returned (.int k b) := by rw [h]
theorem ret_bool {a b : Bool} (h : a = b) : Ending.returned (.bool a) = .returned (.bool b) := by rw [h]

theorem info5 : (Try.prog.info? 5).map (fun i => (i.zero, i.size, i.bytes)) = some (some (.int .u8 0), 1, 1) := by kernel_rfl

/-- Bytes as the cells of a row. -/
def Bs (l : List Nat) : List Value := l.map fun (b : Nat) => Value.int .u8 (b : Int)
/-- The lowest k bytes of n, the lowest first. -/
def lowL (n : Nat) : Nat → List Nat
  | 0 => []
  | k + 1 => lowL n k ++ [n / 256 ^ k % 256]
theorem lowL_length (n : Nat) : ∀ k, (lowL n k).length = k
  | 0 => rfl
  | k + 1 => by simp [lowL, lowL_length n k]
theorem Bs_append (a b : List Nat) : Bs (a ++ b) = Bs a ++ Bs b := by simp [Bs]
theorem Bs_length (a : List Nat) : (Bs a).length = a.length := by simp [Bs]

/-- A slice value owns these bytes' cells. -/
def OwnB (B : Nat) (v : Value) (l : List Value) (w : World) : Prop := w.ownsRow B 5 1 v l.length l

/-- A slice comes back that owns these cells; below B nothing has turned. -/
def OwnRet (B : Nat) (xs : List Value) (w : World) (e : Ending) (w' : World) : Prop :=
  ∃ v', e = .returned v' ∧ OwnB B v' xs w' ∧ Below B w w' ∧ B ≤ w'.heap.size

theorem own_low {B : Nat} {v' : Value} {xs L : List Value} {n j m : Nat} {w1 : World} (hL : L = xs ++ Bs (lowL n j)) (hq : m = n / 256 ^ j) (h : w1.ownsRow B 5 1 v' (L.length + 1) (L ++ [.int .u8 ((m : Int) % 256)])) :
    OwnB B v' (xs ++ Bs (lowL n (j + 1))) w1 := by
  have e : xs ++ Bs (lowL n (j + 1)) = L ++ [.int .u8 ((m : Int) % 256)] := by
    rw [hL, lowL, Bs_append, List.append_assoc, hq]; rfl
  unfold OwnB; rw [e, List.length_append]; exact h

set_option maxHeartbeats 1000000 in
theorem compact_low (B : Nat) (v : Value) (xs : List Value) (n k : Nat) (w : World) (hn : n < 9223372036854775808) (hk : k ≤ 9) (hown : OwnB B v xs w) (hm : xs.length ≤ 1099511627776) (hB : B ≤ w.heap.size) :
    Calls Try.prog 75 #[v, .int .i64 n, .int .i64 k] w (OwnRet B (xs ++ Bs (lowL n k)) w) := by
  obtain ⟨i0, hi, hz0, hz1, hz2⟩ := info_parts info5
  go_enter Try.func75, Try.ntmps75
  go_wp2
  go_loopw [0, 1, 8] (fun b q i wr => ∃ j m : Nat, j ≤ k ∧ i = .int .i64 j ∧ q = .int .i64 m ∧ m = n / 256 ^ j ∧ OwnB B b (xs ++ Bs (lowL n j)) wr ∧ Below B w wr ∧ B ≤ wr.heap.size) (fun _ _ i _ => k - (intOf i).toNat)
  case atStart => exact ⟨0, n, Nat.zero_le _, rfl, rfl, by simp, by simpa [lowL, Bs] using hown, Below.refl _ _, hB⟩
  case round =>
    obtain ⟨j, m, hj, rfl, rfl, hq, ho, hb, hs⟩ := hrel
    have hm : m ≤ n := by rw [hq]; exact Nat.div_le_self _ _
    have HQ := Lib.hid hq
    clear hq
    by_cases hlt : j < k
    · obtain ⟨L, hL⟩ : ∃ L, L = xs ++ Bs (lowL n j) := ⟨_, rfl⟩
      have hc1 : L.length = xs.length + j := by rw [hL, List.length_append, Bs_length, lowL_length]
      have ho' : wr.ownsRow B 5 1 u0 L.length L := by rw [hL]; exact ho
      have HC := Lib.hid hc1
      have HL := Lib.hid hL
      clear hc1 hL ho
      go_wp2_with (first | (at_builtin; refine wpList_append_own _ rfl _ _ 31 rfl B 5 i0 (.int .u8 0) 1 1 Try.underlying31 hi hz0 hz1 hz2 rfl (by decide) _ _ _ rfl (ho'.alloc _) ⟨wr.heap.size, 0, none⟩ 1 1 [.int .u8 ((m : Int) % 256)] rfl rfl ?c1 ?c2 ?c3 ?c4 ?c5 ?_) | fail)
      case c1 =>
        intro j u hj
        match j, hj with
        | 0, hj => simp at hj; subst hj; simp [Addr.add]
      case c2 => intro u hu; simp at hu; subst hu; rfl
      case c3 => rw [HC.out]; unfold maxLen; omega
      case c4 => rw [HC.out]; omega
      case c5 => simp; omega
      intro v' w1 hown' hgrow _
      have R := own_low HL.out HQ.out hown'
      have hb1 : Below B w w1 := (hb.alloc hs _).grown hgrow (by simp; omega) (fun r hr => (ho'.lt r hr).1)
      have hs1 : B ≤ w1.heap.size := by have := hgrow.size; simp at this; omega
      have hq1 : m / 256 = n / 256 ^ (j + 1) := by rw [HQ.out, Nat.div_div_eq_div_mul, Nat.pow_succ]
      have HQ1 := Lib.hid hq1
      clear hown' hgrow ho' hb hs hq1
      go_wp2
      exact ⟨⟨j + 1, m / 256, by omega, by go_num, by go_num, HQ1.out, R, hb1, hs1⟩, by simp [intOf]; omega⟩
    · go_wp2
      go_ret
      have : j = k := by omega
      subst this
      exact ⟨_, rfl, ho, hb, hs⟩

end Go.Proofs.Ytbndegkgpoemnaa
