/-
  The law ReferOfNothing: the call is lifted.
-/
import Derived.Test.YtpkamfbjgdmmoaaGreatRows
import Derived.Test.YtpkamfbjgdmmoaaGreatLno12
import Derived.Test.YtpkamfbjgdmmoaaGreatMn
namespace Go.Proofs.YtpkamfbjgdmmoaaGreat.referOfNothing
open Go.ChangeShapes Go.WideShapes Go.ChangeAt Go.RowKit
set_option linter.unusedVariables false
set_option linter.unusedSimpArgs false

theorem own : ownKnob Tryz.prog.godebug = none := by kernel_rfl
theorem isLaw : IsLaw Rows.referOfNothingSpec Tryz.f8.params.size := by
  refine ⟨rfl, fun H ds hl => ?_⟩
  have hl' : ds.length = 1 := hl
  match ds, hl' with
  | [_], _ => rfl
theorem facts : LawFacts Tryz.prog Tryz.f8 := ⟨by kernel_rfl, by kernel_rfl, ⟨4, by kernel_rfl, Tryz.underlying4⟩⟩

set_option maxRecDepth 100000 in
theorem lifted (os : Os) (started : os.Started) (H : Type) (enc : TypeId × Value → H) :
    ReturnsInHanded {} Tryz.checked os 8 .any (Rows.referOfNothingSpec.pre6 enc Tryz.prog Tryz.f8 Rows.referOfNothingRow.domain false) (Rows.referOfNothingSpec.post enc Tryz.prog Tryz.f8 false true false false) := by
  refine returnsInHanded_of_change (C := Tryz.checked) own started (by kernel_rfl) Tryz.func8
    (ChangeSpec.witness6 (enc := enc) (C := Tryz.checked) false ⟨#[], #[.agg #[.int .i64 0, .int .i64 0, .int .i64 0, .int .i64 0, .int .i64 0, .int .i64 0, .bool false, .int .i64 0, .int .i64 0, .int .i64 0, .int .i64 0]], []⟩ 8 (by kernel_rfl) (by kernel_rfl) (by kernel_rfl) (by kernel_rfl)) ?_
  intro W base args ds gs before hval0 hW hcnd _
  have hval : ∀ (j : Nat) t v, Tryz.f8.params[j]? = some t → args[j]? = some v → Value.okWide Tryz.prog W .any base t v := hval0
  have hW' := hW
  obtain ⟨p, q, hA0, _⟩ := hW
  have hA : DataW.TrodAll enc Tryz.prog W 0 (fun _ => true) true Tryz.f8.params.toList args.toList ds p := hA0
  rw [Tryz.params8] at hA hval
  obtain ⟨v0, vs0, d0, ds0, p0, q0, hargs, rfl, rfl, h0, r0⟩ := trodAll_cons hA
  obtain ⟨rfl, rfl, rfl⟩ := trodAll_nil r0
  obtain rfl : args = #[v0] := by cases args; simp_all
  obtain ⟨c0, rfl, f0⟩ := open_flat (ls := [some .i64, some .i64, some .i64, some .i64, some .i64, some .i64, Option.none, some .i64, some .i64, some .i64, some .i64]) 4 Tryz.underlying74 (by kernel_rfl) (hval 0 74 v0 rfl rfl) h0
  obtain ⟨a0_0, c0_1, rfl, w0_0, f0_1⟩ := fits_int f0
  obtain ⟨a0_1, c0_2, rfl, w0_1, f0_2⟩ := fits_int f0_1
  obtain ⟨a0_2, c0_3, rfl, w0_2, f0_3⟩ := fits_int f0_2
  obtain ⟨a0_3, c0_4, rfl, w0_3, f0_4⟩ := fits_int f0_3
  obtain ⟨a0_4, c0_5, rfl, w0_4, f0_5⟩ := fits_int f0_4
  obtain ⟨a0_5, c0_6, rfl, w0_5, f0_6⟩ := fits_int f0_5
  obtain ⟨a0_6, c0_7, rfl, f0_7⟩ := fits_bool f0_6
  obtain ⟨a0_7, c0_8, rfl, w0_7, f0_8⟩ := fits_int f0_7
  obtain ⟨a0_8, c0_9, rfl, w0_8, f0_9⟩ := fits_int f0_8
  obtain ⟨a0_9, c0_10, rfl, w0_9, f0_10⟩ := fits_int f0_9
  obtain ⟨a0_10, c0_11, rfl, w0_10, f0_11⟩ := fits_int f0_10
  obtain rfl := fits_nil f0_11
  exact (referOfNothing_walk a0_0 a0_1 a0_2 a0_3 a0_4 a0_5 a0_6 a0_7 a0_8 a0_9 a0_10 W w0_0 w0_1 w0_2 w0_3 w0_4 w0_5 w0_7 w0_8 w0_9 w0_10).mono fun e W' ⟨he, hb⟩ => ⟨_, he, law_post isLaw facts hW' hb⟩

end Go.Proofs.YtpkamfbjgdmmoaaGreat.referOfNothing
