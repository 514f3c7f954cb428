/-
  The document's rows, digits, and beginning.
-/
import Derived.Test.YtbndegkgpoemnaaDoorBlkM
namespace Go.Proofs.YtbndegkgpoemnaaDoor
open Go.RowKit
set_option linter.unusedVariables false

def digitN (c : Nat) : Nat := if 97 ≤ c then c - 97 + 10 else c - 48
theorem ref_digit (c : Nat) (w : World) (hc : 48 ≤ c) (hc2 : c < 256) :
    Calls Tryd.prog 73 #[.int .u8 (c : Nat)] w fun e w' => e = .returned (.int .i64 (digitN c : Nat)) ∧ w' = w := by
  by_cases h : 97 ≤ c
  · have e : ((digitN c : Nat) : Int) = (c : Int) - 97 + 10 := by unfold digitN; rw [if_pos h]; omega
    rw [e]; clear e
    go_enter Tryd.func73, Tryd.ntmps73
    go_wp2
    go_ret
    exact ⟨rfl, rfl⟩
  · have e : ((digitN c : Nat) : Int) = (c : Int) - 48 := by unfold digitN; rw [if_neg h]; omega
    rw [e]; clear e
    go_enter Tryd.func73, Tryd.ntmps73
    go_wp2
    go_ret
    exact ⟨rfl, rfl⟩

def orderS : Nat → ByteArray
  | 0 => ⟨#[48, 49, 50, 51, 52, 53, 54, 55, 56, 57, 97, 98, 99, 100, 101, 102]⟩
  | 1 => ⟨#[101, 97, 52, 56, 57, 102, 100, 54, 49, 99, 48, 50, 98, 55, 53, 51]⟩
  | 2 => ⟨#[98, 56, 99, 48, 53, 50, 102, 100, 97, 101, 51, 54, 55, 49, 57, 52]⟩
  | 3 => ⟨#[55, 57, 51, 49, 100, 99, 98, 101, 50, 54, 53, 97, 52, 48, 102, 56]⟩
  | 4 => ⟨#[57, 48, 53, 55, 50, 52, 97, 102, 101, 49, 98, 99, 54, 56, 51, 100]⟩
  | 5 => ⟨#[50, 99, 54, 97, 48, 98, 56, 51, 52, 100, 55, 53, 102, 101, 49, 57]⟩
  | 6 => ⟨#[99, 53, 49, 102, 101, 100, 52, 97, 48, 55, 54, 51, 57, 50, 56, 98]⟩
  | 7 => ⟨#[100, 98, 55, 101, 99, 49, 51, 57, 53, 48, 102, 52, 56, 54, 50, 97]⟩
  | 8 => ⟨#[54, 102, 101, 57, 98, 51, 48, 56, 99, 50, 100, 55, 49, 52, 97, 53]⟩
  | _ => ⟨#[97, 50, 56, 52, 55, 54, 49, 53, 102, 98, 57, 101, 51, 99, 100, 48]⟩

theorem ref_order (i : Nat) (w : World) (hi : i < 12) :
    Calls Tryd.prog 71 #[.int .i64 (i : Nat)] w fun e w' => e = .returned (.string (orderS (i % 10))) ∧ w' = w := by
  have h : i = 0 ∨ i = 1 ∨ i = 2 ∨ i = 3 ∨ i = 4 ∨ i = 5 ∨ i = 6 ∨ i = 7 ∨ i = 8 ∨ i = 9 ∨ i = 10 ∨ i = 11 := by omega
  rcases h with rfl | rfl | rfl | rfl | rfl | rfl | rfl | rfl | rfl | rfl | rfl | rfl
  all_goals
    go_enter Tryd.func71, Tryd.ntmps71
    go_wp2
    go_ret
    exact ⟨rfl, rfl⟩

theorem order_at (i j : Nat) (hi : i < 10) (hj : j < 16) : ∃ c : UInt8, (orderS i)[j]? = some c ∧ 48 ≤ c.toNat ∧ c.toNat < 256 ∧ digitN c.toNat = gt (orderL i) j := by
  have h : ∀ i, i < 10 → ∀ j, j < 16 → ((orderS i)[j]?).any (fun c => decide (48 ≤ c.toNat) && decide (digitN c.toNat = gt (orderL i) j)) = true := by decide +kernel
  have := h i hi j hj
  rw [Option.any_eq_true] at this
  obtain ⟨c, h1, h2⟩ := this
  simp only [Bool.and_eq_true, decide_eq_true_eq] at h2
  exact ⟨c, h1, h2.1, c.toNat_lt, h2.2⟩

theorem order_size (i : Nat) : (orderS i).size = 16 := by unfold orderS; split <;> rfl
theorem order_get (i j : Nat) (hi : i < 10) (hj : j < 16) {os : ByteArray} (hos : os = orderS i) : ∃ (h : j < os.size) (c : Nat), (os[j]'h).toNat = c ∧ 48 ≤ c ∧ c < 256 ∧ digitN c = gt (orderL i) j := by
  subst hos
  have h : j < (orderS i).size := by rw [order_size]; exact hj
  obtain ⟨c, h1, h2, h3, h4⟩ := order_at i j hi hj
  have e : (orderS i)[j]'h = c := by
    have := getElem?_pos (orderS i) j h
    rw [this] at h1
    exact Option.some.inj h1
  exact ⟨h, _, by rw [e], h2, h3, h4⟩

abbrev vec8 (l : List Nat) : Value := .agg (Ws l)
abbrev beginV : Value := .agg #[.int .u64 7640891576956012808, .int .u64 13503953896175478587, .int .u64 4354685564936845355, .int .u64 11912009170470909681, .int .u64 5840696475078001361, .int .u64 11170449401992604703, .int .u64 2270897969802886507, .int .u64 6620516959819538809]
theorem ref_begin (w : World) :
    Calls Tryd.prog 53 #[] w fun e w' => e = .returned beginV ∧ Below w.heap.size w w' := by
  go_enter Tryd.func53, Tryd.ntmps53
  go_wp2
  refine bodyPost_ret (v := beginV) (by simp [results, Tryd.results53, go_sem]) rfl ⟨rfl, ?_⟩
  exact (Below.refl _ _).alloc (Nat.le_refl _) _
end Go.Proofs.YtbndegkgpoemnaaDoor
