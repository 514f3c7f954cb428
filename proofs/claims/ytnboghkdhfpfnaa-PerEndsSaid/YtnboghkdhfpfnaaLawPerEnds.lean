/- For every argument the law PerEnds returns true, and each argument reads behind the call as it read before it. No condition. -/
import Derived.Test.YtnboghkdhfpfnaaRows
import Derived.Test.YtnboghkdhfpfnaaPer8
import Derived.Test.YtnboghkdhfpfnaaFlat
namespace Go.Proofs.Ytnboghkdhfpfnaa.perEnds
open Go.ChangeShapes Go.WideShapes Go.ChangeAt Go.RowKit
set_option linter.unusedVariables false

theorem own : ownKnob Try.prog.godebug = none := by kernel_rfl
theorem isLaw : IsLaw Rows.perEndsSpec Try.f9.params.size := by
  refine ⟨rfl, fun H ds hl => ?_⟩
  have hl' : ds.length = 1 := hl
  match ds, hl' with
  | [_], _ => rfl
theorem facts : LawFacts Try.prog Try.f9 := ⟨by kernel_rfl, by kernel_rfl, ⟨4, by kernel_rfl, Try.underlying4⟩⟩

set_option maxRecDepth 100000 in
theorem lifted (os : Os) (started : os.Started) (H : Type) (enc : TypeId × Value → H) :
    ReturnsInHanded {} Try.checked os 9 .any (Rows.perEndsSpec.pre6 enc Try.prog Try.f9 Rows.perEndsRow.domain false) (Rows.perEndsSpec.post enc Try.prog Try.f9 false true false false) := by
  refine returnsInHanded_of_change (C := Try.checked) own started (by kernel_rfl) Try.func9
    (ChangeSpec.witness6 (enc := enc) (C := Try.checked) false ⟨#[], #[.agg #[.int .i64 0, .int .i64 0, .int .i64 0, .int .i64 0, .int .i64 0]], []⟩ 8 (by kernel_rfl) (by kernel_rfl) (by kernel_rfl) (by kernel_rfl)) ?_
  intro W base args ds gs before hval0 hW hcnd _
  have hval : ∀ (j : Nat) t v, Try.f9.params[j]? = some t → args[j]? = some v → Value.okWide Try.prog W .any base t v := hval0
  have hW' := hW
  obtain ⟨p, q, hA0, _⟩ := hW
  have hA : DataW.TrodAll enc Try.prog W 0 (fun _ => true) true Try.f9.params.toList args.toList ds p := hA0
  rw [Try.params9] at hA hval
  obtain ⟨v0, vs0, d0, ds0, p0, q0, hargs, rfl, rfl, h0, r0⟩ := trodAll_cons hA
  obtain ⟨rfl, rfl, rfl⟩ := trodAll_nil r0
  obtain rfl : args = #[v0] := by cases args; simp_all
  obtain ⟨c0, rfl, f0⟩ := open_flat (ls := [some .i64, some .i64, some .i64, some .i64, some .i64]) 4 Try.underlying28 (by kernel_rfl) (hval 0 28 v0 rfl rfl) h0
  obtain ⟨a0_0, c0_1, rfl, w0_0, f0_1⟩ := fits_int f0
  obtain ⟨a0_1, c0_2, rfl, w0_1, f0_2⟩ := fits_int f0_1
  obtain ⟨a0_2, c0_3, rfl, w0_2, f0_3⟩ := fits_int f0_2
  obtain ⟨a0_3, c0_4, rfl, w0_3, f0_4⟩ := fits_int f0_3
  obtain ⟨a0_4, c0_5, rfl, w0_4, f0_5⟩ := fits_int f0_4
  obtain rfl := fits_nil f0_5
  exact (perEnds_walk a0_0 a0_1 a0_2 a0_3 a0_4 w0_0 w0_1 w0_2 w0_3 w0_4 W).mono fun e W' ⟨he, hb⟩ => ⟨_, he, law_post isLaw facts hW' hb⟩

theorem proved : Rows.PerEndsSaid :=
  OpenClaim.holds_of_wide 9 Try.f9 rfl rfl rfl rfl rfl rfl rfl ⟨rfl, rfl, rfl, rfl, rfl⟩ rfl rfl rfl rfl rfl (by kernel_rfl) Try.func9 (by kernel_rfl)
    (of_decide_eq_true (by kernel_rfl)) (by unfold Func.isWrapper; first | (rw [if_pos (by decide +kernel)]; kernel_rfl) | (rw [if_neg (by decide +kernel)]; exact ⟨rfl, rfl⟩))
    (fun os started H enc _ => lifted os started H enc)
end Go.Proofs.Ytnboghkdhfpfnaa.perEnds
