/-
  A nil Ledger.
-/
import Derived.Test.YtjmaeiphjjjdoaaLd9
import Derived.Test.YtjmaeiphjjjdoaaCel
namespace Go.Proofs.Ytjmaeiphjjjdoaa
open Go.RowKit Go.Maps Go.Shelf
attribute [local go_sem] Oper.semAt_some
set_option linter.unusedVariables false
set_option linter.unusedSimpArgs false

theorem nil_Lock (a i n : Int) (w : World) : Calls Try.prog 26 #[.pointer none, .int .i64 a, .int .i64 i, .int .i64 n] w fun e w' => e = .returned (.tuple #[]) ∧ w' = w := by
  go_enter Try.func26, Try.ntmps26
  go_wp2_with (first | (go_at_call 46; refine (ledger_account_nil a w).mono ?_; rintro e w' ⟨rfl, hw⟩; rw [hw]; clear hw w') | fail)
  exact bodyPost_end (results_none rfl _ _ _) rfl ⟨rfl, rfl⟩
theorem nil_unhold (a n b : Int) (w : World) : Calls Try.prog 48 #[.pointer none, .int .i64 a, .int .i64 n, .int .i64 b] w fun e w' => e = .returned (.int .i64 0) ∧ w' = w := by
  go_enter Try.func48, Try.ntmps48
  go_wp2_with (first | (go_at_call 46; refine (ledger_account_nil a w).mono ?_; rintro e w' ⟨rfl, hw⟩; rw [hw]; clear hw w') | fail)
  exact bodyPost_ret (v := .int .i64 0) (by simp [results, Try.results48, go_sem]) rfl ⟨rfl, rfl⟩
theorem nil_Release (a n : Int) (w : World) : Calls Try.prog 24 #[.pointer none, .int .i64 a, .int .i64 n] w fun e w' => e = .returned (.int .i64 0) ∧ w' = w := by
  go_enter Try.func24, Try.ntmps24
  go_wp2_with (first | (go_at_call 48; refine (nil_unhold a n a w).mono ?_; rintro e w' ⟨rfl, hw⟩; rw [hw]; clear hw w') | fail)
  exact bodyPost_ret (v := .int .i64 0) (by simp [results, Try.results24, go_sem]) rfl ⟨rfl, rfl⟩
theorem nil_Slash (a n : Int) (w : World) : Calls Try.prog 25 #[.pointer none, .int .i64 a, .int .i64 n] w fun e w' => e = .returned (.int .i64 0) ∧ w' = w := by
  go_enter Try.func25, Try.ntmps25
  go_wp2_with (first | (go_at_call 48; refine (nil_unhold a n 0 w).mono ?_; rintro e w' ⟨rfl, hw⟩; rw [hw]; clear hw w') | fail)
  exact bodyPost_ret (v := .int .i64 0) (by simp [results, Try.results25, go_sem]) rfl ⟨rfl, rfl⟩
theorem nil_Issued (w : World) : Calls Try.prog 21 #[.pointer none] w fun e w' => e = .returned (.int .i64 0) ∧ w' = w := by
  go_enter Try.func21, Try.ntmps21
  go_wp2
  exact bodyPost_ret (v := .int .i64 0) (by simp [results, Try.results21, go_sem]) rfl ⟨rfl, rfl⟩
theorem nil_Transfer (a b n : Int) (w : World) : Calls Try.prog 22 #[.pointer none, .int .i64 a, .int .i64 b, .int .i64 n] w fun e w' => e = .returned (.int .i64 1) ∧ w' = w := by
  go_enter Try.func22, Try.ntmps22
  go_wp2_with (first | (go_at_call 46; refine (ledger_account_nil b w).mono ?_; rintro e w' ⟨rfl, hw⟩; rw [hw]; clear hw w') | fail)
  exact bodyPost_ret (v := .int .i64 1) (by simp [results, Try.results22, go_sem]) rfl ⟨rfl, rfl⟩
theorem nil_Mint (a n : Int) (w : World) : Calls Try.prog 27 #[.pointer none, .int .i64 a, .int .i64 n] w fun e w' => e = .returned (.int .i64 1) ∧ w' = w := by
  go_enter Try.func27, Try.ntmps27
  go_wp2_with (first | (go_at_call 46; refine (ledger_account_nil a w).mono ?_; rintro e w' ⟨rfl, hw⟩; rw [hw]; clear hw w') | fail)
  exact bodyPost_ret (v := .int .i64 1) (by simp [results, Try.results27, go_sem]) rfl ⟨rfl, rfl⟩
theorem nil_Reserve (a n : Int) (w : World) : Calls Try.prog 23 #[.pointer none, .int .i64 a, .int .i64 n] w fun e w' => e = .returned (.int .i64 1) ∧ w' = w := by
  go_enter Try.func23, Try.ntmps23
  go_wp2_with (first | (go_at_call 47; refine (ledger_spend_nil a n false w).mono ?_; rintro e w' ⟨rfl, hw⟩; rw [hw]; clear hw w') | fail)
  exact bodyPost_ret (v := .int .i64 1) (by simp [results, Try.results23, go_sem]) rfl ⟨rfl, rfl⟩
theorem nil_Burn (a n : Int) (w : World) : Calls Try.prog 28 #[.pointer none, .int .i64 a, .int .i64 n] w fun e w' => e = .returned (.int .i64 1) ∧ w' = w := by
  go_enter Try.func28, Try.ntmps28
  go_wp2_with (first | (go_at_call 47; refine (ledger_spend_nil a n false w).mono ?_; rintro e w' ⟨rfl, hw⟩; rw [hw]; clear hw w') | fail)
  exact bodyPost_ret (v := .int .i64 1) (by simp [results, Try.results28, go_sem]) rfl ⟨rfl, rfl⟩
theorem IterF.iter {P : Program} {α : Type} {n gf : Nat} {lb : Array Value} {encs : α → Array Value} {xs : List α} {G : FP} {w : World} (h : IterF P n gf lb encs xs G w) : Iter P n gf lb encs xs G w :=
  fun l B Ψ J Jx Φ0 W hg hG hΨ hΦ hJ hJx hr h0 => h l B Ψ J Jx Φ0 W hg hG (fun k hk => (hΨ k hk).1) hJ hJx hr h0
/-- Locks of any ledger whose row is told. -/
theorem locks_of (l : Value) (a : Int) (xs : List (Int × Int)) (hlen : xs.length ≤ 1000000) (w : World) (hrow : Calls Try.prog 51 #[l, .int .i64 a] w fun e w'' => ∃ f, e = .returned f ∧ Way Try.prog encs_I f xs w'' ∧ Below w.heap.size w w'') :
    Calls Try.prog 45 #[l, .int .i64 a] w fun e w' => ∃ bx v, e = .returned (.func (.func 64) #[] #[.pointer (some ⟨bx, 0, none⟩)]) ∧ Boxed w' bx 90 v ∧ OwnR pair_I (bx + 1) v xs w' ∧ w.heap.size ≤ bx ∧ Below w.heap.size w w' := by
  have HROW := Lib.hid hrow
  clear hrow
  go_enter Try.func45, Try.ntmps45
  go_wp2_with (first
    | (go_at_call 51; refine HROW.out.mono ?_; rintro e w1 ⟨f, rfl, hway, hb⟩; obtain ⟨gf, lb, rfl, hit⟩ := hway; have H1 := Lib.hid (And.intro hit hb); clear hit hb)
    | (go_at_call 56; refine (still_Now_I gf lb xs w1 H1.out.1.1 (H1.out.1.2 0).iter hlen).mono ?_; rintro e w2 ⟨v, rfl, hbx, ho, hb⟩; have H2 := Lib.hid (And.intro hbx (And.intro ho hb)); clear hbx ho hb)
    | fail)
  go_ret
  exact ⟨_, v, rfl, H2.out.1, H2.out.2.1, H1.out.2.size, H1.out.2.trans (H2.out.2.2.mono H1.out.2.size)⟩
end Go.Proofs.Ytjmaeiphjjjdoaa
