/-
  The reference's num; an extrinsic as its parameter.
-/
import Derived.Test.YtbndegkgpoemnaaRf9
import Derived.Test.YtbndegkgpoemnaaIsy
import Derived.Deep.RegionHeld3
namespace Go.Proofs.Ytbndegkgpoemnaa
open Go.RowKit
set_option linter.unusedVariables false
set_option linter.unusedSimpArgs false

/-- May a number be, as the reference says it? -/
def numB (k f n most : Int) : Bool := if namesB k f = true then decide (0 ≤ n ∧ n ≤ most) else n == 0
set_option maxHeartbeats 4000000 in
set_option maxRecDepth 100000 in
theorem ref_num (k f n most : Int) (hk : 1 ≤ k ∧ k ≤ 11) (w : World) :
    Calls Try.prog 47 #[.int .i64 k, .int .u8 f, .int .i64 n, .int .i64 most] w fun e w' => e = .returned (.bool (numB k f n most)) ∧ Below w.heap.size w w' := by
  obtain ⟨q, hq⟩ : ∃ q, q = namesB k f := ⟨_, rfl⟩
  obtain ⟨r, hr⟩ : ∃ r, r = numB k f n most := ⟨_, rfl⟩
  have HN := Lib.hid (ref_names k f (by omega) w)
  rw [← hq] at HN
  unfold numB at hr
  rw [← hq] at hr
  have HR := Lib.hid hr
  rw [show numB k f n most = r by rw [hr]; unfold numB; rw [← hq]]
  clear hq hr hk
  cases q
  all_goals
    go_enter Try.func47, Try.ntmps47
    go_wp2_with (first
      | (go_at_call 48; refine HN.out.mono ?_; rintro e w1 ⟨rfl, hb⟩; have HB := Lib.hid hb; clear hb)
      | (go_at_call 46; refine (ref_in n 0 most _).mono ?_; rintro e w2 ⟨rfl, hw⟩; rw [hw]; clear hw w2)
      | fail)
    first
      | exact bodyPost_ret (v := .bool r) (by simp [results, Try.results47, go_sem, HR.out]) rfl ⟨rfl, HB.out⟩
      | exact bodyPost_ret (v := .bool (decide (0 ≤ n ∧ n ≤ most))) (by simp [results, Try.results47, go_sem]) rfl ⟨by rw [HR.out]; rfl, HB.out⟩
      | exact bodyPost_ret (v := .bool (n == 0)) (by simp [results, Try.results47, go_sem]) rfl ⟨by rw [HR.out]; rfl, HB.out⟩
end Go.Proofs.Ytbndegkgpoemnaa
