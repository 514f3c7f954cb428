/- For every argument the law ConvMay returns true, and each argument reads behind the call as it read before it. No condition. -/
import Derived.Test.YtgoomkailpnjaaaRows
import Derived.Test.YtgoomkailpnjaaaConv6
import Derived.Test.YtgoomkailpnjaaaFlat
namespace Go.Proofs.Ytgoomkailpnjaaa.convMay
open Go.ChangeShapes Go.WideShapes Go.ChangeAt Go.RowKit
set_option linter.unusedVariables false

theorem own : ownKnob Try.prog.godebug = none := by kernel_rfl
theorem isLaw : IsLaw Rows.convMaySpec Try.f4.params.size := by
  refine ⟨rfl, fun H ds hl => ?_⟩
  have hl' : ds.length = 2 := hl
  match ds, hl' with
  | [_, _], _ => rfl
theorem facts : LawFacts Try.prog Try.f4 := ⟨by kernel_rfl, by kernel_rfl, ⟨4, by kernel_rfl, Try.underlying4⟩⟩

set_option maxRecDepth 100000 in
theorem lifted (os : Os) (started : os.Started) (H : Type) (enc : TypeId × Value → H) :
    ReturnsInHanded {} Try.checked os 4 .any (Rows.convMaySpec.pre6 enc Try.prog Try.f4 Rows.convMayRow.domain false) (Rows.convMaySpec.post enc Try.prog Try.f4 false true false false) := by
  refine returnsInHanded_of_change (C := Try.checked) own started (by kernel_rfl) Try.func4
    (ChangeSpec.witness6 (enc := enc) (C := Try.checked) false ⟨#[], #[.agg #[.int .i64 0, .bool false, .int .i64 0, .int .i64 0, .int .i64 0, .int .i64 0], .agg #[.int .i64 0, .int .i64 0]], []⟩ 8 (by kernel_rfl) (by kernel_rfl) (by kernel_rfl) (by kernel_rfl)) ?_
  intro W base args ds gs before hval0 hW hcnd _
  have hval : ∀ (j : Nat) t v, Try.f4.params[j]? = some t → args[j]? = some v → Value.okWide Try.prog W .any base t v := hval0
  have hW' := hW
  obtain ⟨p, q, hA0, _⟩ := hW
  have hA : DataW.TrodAll enc Try.prog W 0 (fun _ => true) true Try.f4.params.toList args.toList ds p := hA0
  rw [Try.params4] at hA hval
  obtain ⟨v0, vs0, d0, ds0, p0, q0, hargs, rfl, rfl, h0, r0⟩ := trodAll_cons hA
  obtain ⟨v1, vs1, d1, ds1, p1, q1, rfl, rfl, rfl, h1, r1⟩ := trodAll_cons r0
  obtain ⟨rfl, rfl, rfl⟩ := trodAll_nil r1
  obtain rfl : args = #[v0, v1] := by cases args; simp_all
  obtain ⟨c0, rfl, f0⟩ := open_flat (ls := [some .i64, Option.none, some .i64, some .i64, some .i64, some .i64]) 4 Try.underlying27 (by kernel_rfl) (hval 0 27 v0 rfl rfl) h0
  obtain ⟨a0_0, c0_1, rfl, w0_0, f0_1⟩ := fits_int f0
  obtain ⟨a0_1, c0_2, rfl, f0_2⟩ := fits_bool f0_1
  obtain ⟨a0_2, c0_3, rfl, w0_2, f0_3⟩ := fits_int f0_2
  obtain ⟨a0_3, c0_4, rfl, w0_3, f0_4⟩ := fits_int f0_3
  obtain ⟨a0_4, c0_5, rfl, w0_4, f0_5⟩ := fits_int f0_4
  obtain ⟨a0_5, c0_6, rfl, w0_5, f0_6⟩ := fits_int f0_5
  obtain rfl := fits_nil f0_6
  obtain ⟨c1, rfl, f1⟩ := open_flat (ls := [some .i64, some .i64]) 4 Try.underlying29 (by kernel_rfl) (hval 1 29 v1 rfl rfl) h1
  obtain ⟨a1_0, c1_1, rfl, w1_0, f1_1⟩ := fits_int f1
  obtain ⟨a1_1, c1_2, rfl, w1_1, f1_2⟩ := fits_int f1_1
  obtain rfl := fits_nil f1_2
  exact (convMay_walk a0_0 a0_1 a0_2 a0_3 a0_4 a0_5 a1_0 a1_1 w0_0 w0_2 w0_3 w0_4 w0_5 w1_0 w1_1 W).mono fun e W' ⟨he, hb⟩ => ⟨_, he, law_post isLaw facts hW' hb⟩

theorem proved : Rows.ConvMaySaid :=
  OpenClaim.holds_of_wide 4 Try.f4 rfl rfl rfl rfl rfl rfl rfl ⟨rfl, rfl, rfl, rfl, rfl⟩ rfl rfl rfl rfl rfl (by kernel_rfl) Try.func4 (by kernel_rfl)
    (of_decide_eq_true (by kernel_rfl)) (by unfold Func.isWrapper; first | (rw [if_pos (by decide +kernel)]; kernel_rfl) | (rw [if_neg (by decide +kernel)]; exact ⟨rfl, rfl⟩))
    (fun os started H enc _ => lifted os started H enc)
end Go.Proofs.Ytgoomkailpnjaaa.convMay
