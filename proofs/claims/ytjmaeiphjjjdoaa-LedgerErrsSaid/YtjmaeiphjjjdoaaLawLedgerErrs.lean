/- For every argument the law LedgerErrs returns true, and each argument reads behind the call as it read before it. No condition. -/
import Derived.Test.YtjmaeiphjjjdoaaRows
import Derived.Test.YtjmaeiphjjjdoaaLdEr
import Derived.Test.YtjmaeiphjjjdoaaFlat
namespace Go.Proofs.Ytjmaeiphjjjdoaa.ledgerErrs
open Go.ChangeShapes Go.WideShapes Go.ChangeAt Go.RowKit
set_option linter.unusedVariables false

theorem own : ownKnob Try.prog.godebug = none := by kernel_rfl
theorem isLaw : IsLaw Rows.ledgerErrsSpec Try.f6.params.size := by
  refine ⟨rfl, fun H ds hl => ?_⟩
  have hl' : ds.length = 3 := hl
  match ds, hl' with
  | [_, _, _], _ => rfl
theorem facts : LawFacts Try.prog Try.f6 := ⟨by kernel_rfl, by kernel_rfl, ⟨4, by kernel_rfl, Try.underlying4⟩⟩

set_option maxRecDepth 100000 in
theorem lifted (os : Os) (started : os.Started) (H : Type) (enc : TypeId × Value → H) :
    ReturnsInHanded {} Try.checked os 6 .any (Rows.ledgerErrsSpec.pre6 enc Try.prog Try.f6 Rows.ledgerErrsRow.domain false) (Rows.ledgerErrsSpec.post enc Try.prog Try.f6 false true false false) := by
  refine returnsInHanded_of_change (C := Try.checked) own started (by kernel_rfl) Try.func6
    (ChangeSpec.witness6 (enc := enc) (C := Try.checked) false ⟨#[], #[.slice none 0 0, .slice none 0 0, .agg #[.int .i64 0, .int .i64 0, .int .i64 0, .int .i64 0]], []⟩ 8 (by kernel_rfl) (by kernel_rfl) (by kernel_rfl) (by kernel_rfl)) ?_
  intro W base args ds gs before hval0 hW hcnd _
  have hval : ∀ (j : Nat) t v, Try.f6.params[j]? = some t → args[j]? = some v → Value.okWide Try.prog W .any base t v := hval0
  have hW' := hW
  obtain ⟨p, q, hA0, _⟩ := hW
  have hA : DataW.TrodAll enc Try.prog W 0 (fun _ => true) true Try.f6.params.toList args.toList ds p := hA0
  rw [Try.params6] at hA hval
  obtain ⟨v0, vs0, d0, ds0, p0, q0, hargs, rfl, rfl, h0, r0⟩ := trodAll_cons hA
  obtain ⟨v1, vs1, d1, ds1, p1, q1, rfl, rfl, rfl, h1, r1⟩ := trodAll_cons r0
  obtain ⟨v2, vs2, d2, ds2, p2, q2, rfl, rfl, rfl, h2, r2⟩ := trodAll_cons r1
  obtain ⟨rfl, rfl, rfl⟩ := trodAll_nil r2
  obtain rfl : args = #[v0, v1, v2] := by cases args; simp_all
  obtain ⟨l0, hr0, hb0, hm0⟩ := open_RdI (e := 3) Try.underlying22 (by kernel_rfl) (by kernel_rfl) (hval 0 22 v0 rfl rfl) h0
  obtain ⟨l1, hr1, hm1⟩ := open_acts 4 Try.underlying23 (by kernel_rfl) (by kernel_rfl) (hval 1 23 v1 rfl rfl) h1
  obtain ⟨c2, rfl, f2⟩ := open_flat (ls := [some .i64, some .i64, some .i64, some .i64]) 4 Try.underlying33 (by kernel_rfl) (hval 2 33 v2 rfl rfl) h2
  obtain ⟨a2_0, c2_1, rfl, w2_0, f2_1⟩ := fits_int f2
  obtain ⟨a2_1, c2_2, rfl, w2_1, f2_2⟩ := fits_int f2_1
  obtain ⟨a2_2, c2_3, rfl, w2_2, f2_3⟩ := fits_int f2_2
  obtain ⟨a2_3, c2_4, rfl, w2_3, f2_4⟩ := fits_int f2_3
  obtain rfl := fits_nil f2_4
  exact (ledgerErrs_walk v0 l0 v1 l1 a2_0 w2_0 a2_1 w2_1 a2_2 w2_2 a2_3 w2_3 W hr0 hb0 hm0 hr1 hm1).mono fun e W' ⟨he, hb⟩ => ⟨_, he, law_post isLaw facts hW' hb⟩

theorem proved : Rows.LedgerErrsSaid :=
  OpenClaim.holds_of_wide 6 Try.f6 rfl rfl rfl rfl rfl rfl rfl ⟨rfl, rfl, rfl, rfl, rfl⟩ rfl rfl rfl rfl rfl (by kernel_rfl) Try.func6 (by kernel_rfl)
    (of_decide_eq_true (by kernel_rfl)) (by unfold Func.isWrapper; first | (rw [if_pos (by decide +kernel)]; kernel_rfl) | (rw [if_neg (by decide +kernel)]; exact ⟨rfl, rfl⟩))
    (fun os started H enc _ => lifted os started H enc)
end Go.Proofs.Ytjmaeiphjjjdoaa.ledgerErrs
