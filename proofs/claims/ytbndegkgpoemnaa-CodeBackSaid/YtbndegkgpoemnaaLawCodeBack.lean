/- For every argument the law CodeBack returns true, and each argument reads behind the call as it read before it. No condition. -/
import Derived.Test.YtbndegkgpoemnaaRows
import Derived.Test.YtbndegkgpoemnaaBk2
namespace Go.Proofs.Ytbndegkgpoemnaa.codeBack
open Go.ChangeShapes Go.WideShapes Go.ChangeAt Go.RowKit
set_option linter.unusedVariables false

theorem own : ownKnob Try.prog.godebug = none := by kernel_rfl
theorem isLaw : IsLaw Rows.codeBackSpec Try.f4.params.size := by
  refine ⟨rfl, fun H ds hl => ?_⟩
  have hl' : ds.length = 2 := hl
  match ds, hl' with
  | [_, _], _ => rfl
theorem facts : LawFacts Try.prog Try.f4 := ⟨by kernel_rfl, by kernel_rfl, ⟨4, by kernel_rfl, Try.underlying4⟩⟩

set_option maxRecDepth 100000 in
theorem lifted (os : Os) (started : os.Started) (H : Type) (enc : TypeId × Value → H) :
    ReturnsInHanded {} Try.checked os 4 .any (Rows.codeBackSpec.pre6 enc Try.prog Try.f4 Rows.codeBackRow.domain false) (Rows.codeBackSpec.post enc Try.prog Try.f4 false true false false) := by
  refine returnsInHanded_of_change (C := Try.checked) own started (by kernel_rfl) Try.func4
    (ChangeSpec.witness6 (enc := enc) (C := Try.checked) false ⟨#[], #[.agg #[.int .i64 0, .int .i64 0, .int .i64 0, .slice none 0 0], .agg (ec exZero).toArray], []⟩ 8 (by kernel_rfl) (by kernel_rfl) (by kernel_rfl) (by kernel_rfl)) ?_
  intro W base args ds gs before hval0 hW hcnd _
  have hval : ∀ (j : Nat) t v, Try.f4.params[j]? = some t → args[j]? = some v → Value.okWide Try.prog W .any base t v := hval0
  have hW' := hW
  obtain ⟨p, q, hA0, _⟩ := hW
  have hA : DataW.TrodAll enc Try.prog W 0 (fun _ => true) true Try.f4.params.toList args.toList ds p := hA0
  rw [Try.params4] at hA hval
  obtain ⟨v0, vs0, d0, ds0, p0, q0, hargs, rfl, rfl, h0, r0⟩ := trodAll_cons hA
  obtain ⟨v1, vs1, d1, ds1, p1, q1, rfl, rfl, rfl, h1, r1⟩ := trodAll_cons r0
  obtain ⟨rfl, rfl, rfl⟩ := trodAll_nil r1
  obtain rfl : args = #[v0, v1] := by cases args; simp_all
  obtain ⟨c0, e0, hr0, hl0⟩ := open_call Try.underlying28 (hval 0 28 v0 rfl rfl) h0
  obtain ⟨c1, t1, e1, rfl, hr1, hl1, hb1⟩ := open_ext Try.underlying30 (hval 1 30 v1 rfl rfl) h1
  obtain ⟨dd, ao, cap, -, rfl, -⟩ := hr0.open
  exact (codeBack_walk (c0.k, c0.t, c0.n, ao, c0.kids.length, cap) c0 e0 c1 t1 e1 W hr0 hl0 hr1 hl1 hb1).mono fun e W' ⟨he, hb⟩ => ⟨_, he, law_post isLaw facts hW' hb⟩

theorem proved : Rows.CodeBackSaid :=
  OpenClaim.holds_of_wide 4 Try.f4 rfl rfl rfl rfl rfl rfl rfl ⟨rfl, rfl, rfl, rfl, rfl⟩ rfl rfl rfl rfl rfl (by kernel_rfl) Try.func4 (by kernel_rfl)
    (of_decide_eq_true (by kernel_rfl)) (by unfold Func.isWrapper; first | (rw [if_pos (by decide +kernel)]; kernel_rfl) | (rw [if_neg (by decide +kernel)]; exact ⟨rfl, rfl⟩))
    (fun os started H enc _ => lifted os started H enc)
end Go.Proofs.Ytbndegkgpoemnaa.codeBack
