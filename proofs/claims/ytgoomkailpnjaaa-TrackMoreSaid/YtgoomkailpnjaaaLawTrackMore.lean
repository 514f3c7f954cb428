/- For every argument the law TrackMore returns true, and each argument reads behind the call as it read before it. No condition. -/
import Derived.Test.YtgoomkailpnjaaaRows
import Derived.Test.YtgoomkailpnjaaaTrk8
import Derived.Test.YtgoomkailpnjaaaFlat
namespace Go.Proofs.Ytgoomkailpnjaaa.trackMore
open Go.ChangeShapes Go.WideShapes Go.ChangeAt Go.RowKit
set_option linter.unusedVariables false

theorem own : ownKnob Try.prog.godebug = none := by kernel_rfl
theorem isLaw : IsLaw Rows.trackMoreSpec Try.f13.params.size := by
  refine ⟨rfl, fun H ds hl => ?_⟩
  have hl' : ds.length = 8 := hl
  match ds, hl' with
  | [_, _, _, _, _, _, _, _], _ => rfl
theorem facts : LawFacts Try.prog Try.f13 := ⟨by kernel_rfl, by kernel_rfl, ⟨4, by kernel_rfl, Try.underlying4⟩⟩

set_option maxRecDepth 100000 in
theorem lifted (os : Os) (started : os.Started) (H : Type) (enc : TypeId × Value → H) :
    ReturnsInHanded {} Try.checked os 13 .any (Rows.trackMoreSpec.pre6 enc Try.prog Try.f13 Rows.trackMoreRow.domain false) (Rows.trackMoreSpec.post enc Try.prog Try.f13 false true false false) := by
  refine returnsInHanded_of_change (C := Try.checked) own started (by kernel_rfl) Try.func13
    (ChangeSpec.witness6 (enc := enc) (C := Try.checked) false ⟨#[], #[.agg #[.int .i64 0, .int .i64 0, .int .i64 0, .int .i64 0, .int .i64 0, .int .i64 0, .int .i64 0, .int .i64 0, .int .i64 0, .int .i64 0, .int .i64 0, .int .i64 0, .int .i64 0, .int .i64 0, .int .i64 0, .int .i64 0, .int .i64 0, .int .i64 0], .agg #[.int .i64 0, .int .i64 0, .int .i64 0], .int .i64 0, .int .i64 0, .int .i64 0, .int .i64 0, .int .i64 0, .int .i64 0], []⟩ 8 (by kernel_rfl) (by kernel_rfl) (by kernel_rfl) (by kernel_rfl)) ?_
  intro W base args ds gs before hval0 hW hcnd _
  have hval : ∀ (j : Nat) t v, Try.f13.params[j]? = some t → args[j]? = some v → Value.okWide Try.prog W .any base t v := hval0
  have hW' := hW
  obtain ⟨p, q, hA0, _⟩ := hW
  have hA : DataW.TrodAll enc Try.prog W 0 (fun _ => true) true Try.f13.params.toList args.toList ds p := hA0
  rw [Try.params13] at hA hval
  obtain ⟨v0, vs0, d0, ds0, p0, q0, hargs, rfl, rfl, h0, r0⟩ := trodAll_cons hA
  obtain ⟨v1, vs1, d1, ds1, p1, q1, rfl, rfl, rfl, h1, r1⟩ := trodAll_cons r0
  obtain ⟨v2, vs2, d2, ds2, p2, q2, rfl, rfl, rfl, h2, r2⟩ := trodAll_cons r1
  obtain ⟨v3, vs3, d3, ds3, p3, q3, rfl, rfl, rfl, h3, r3⟩ := trodAll_cons r2
  obtain ⟨v4, vs4, d4, ds4, p4, q4, rfl, rfl, rfl, h4, r4⟩ := trodAll_cons r3
  obtain ⟨v5, vs5, d5, ds5, p5, q5, rfl, rfl, rfl, h5, r5⟩ := trodAll_cons r4
  obtain ⟨v6, vs6, d6, ds6, p6, q6, rfl, rfl, rfl, h6, r6⟩ := trodAll_cons r5
  obtain ⟨v7, vs7, d7, ds7, p7, q7, rfl, rfl, rfl, h7, r7⟩ := trodAll_cons r6
  obtain ⟨rfl, rfl, rfl⟩ := trodAll_nil r7
  obtain rfl : args = #[v0, v1, v2, v3, v4, v5, v6, v7] := by cases args; simp_all
  obtain ⟨c0, rfl, f0⟩ := open_flat (ls := [some .i64, some .i64, some .i64, some .i64, some .i64, some .i64, some .i64, some .i64, some .i64, some .i64, some .i64, some .i64, some .i64, some .i64, some .i64, some .i64, some .i64, some .i64]) 4 Try.underlying47 (by kernel_rfl) (hval 0 47 v0 rfl rfl) h0
  obtain ⟨a0_0, c0_1, rfl, w0_0, f0_1⟩ := fits_int f0
  obtain ⟨a0_1, c0_2, rfl, w0_1, f0_2⟩ := fits_int f0_1
  obtain ⟨a0_2, c0_3, rfl, w0_2, f0_3⟩ := fits_int f0_2
  obtain ⟨a0_3, c0_4, rfl, w0_3, f0_4⟩ := fits_int f0_3
  obtain ⟨a0_4, c0_5, rfl, w0_4, f0_5⟩ := fits_int f0_4
  obtain ⟨a0_5, c0_6, rfl, w0_5, f0_6⟩ := fits_int f0_5
  obtain ⟨a0_6, c0_7, rfl, w0_6, f0_7⟩ := fits_int f0_6
  obtain ⟨a0_7, c0_8, rfl, w0_7, f0_8⟩ := fits_int f0_7
  obtain ⟨a0_8, c0_9, rfl, w0_8, f0_9⟩ := fits_int f0_8
  obtain ⟨a0_9, c0_10, rfl, w0_9, f0_10⟩ := fits_int f0_9
  obtain ⟨a0_10, c0_11, rfl, w0_10, f0_11⟩ := fits_int f0_10
  obtain ⟨a0_11, c0_12, rfl, w0_11, f0_12⟩ := fits_int f0_11
  obtain ⟨a0_12, c0_13, rfl, w0_12, f0_13⟩ := fits_int f0_12
  obtain ⟨a0_13, c0_14, rfl, w0_13, f0_14⟩ := fits_int f0_13
  obtain ⟨a0_14, c0_15, rfl, w0_14, f0_15⟩ := fits_int f0_14
  obtain ⟨a0_15, c0_16, rfl, w0_15, f0_16⟩ := fits_int f0_15
  obtain ⟨a0_16, c0_17, rfl, w0_16, f0_17⟩ := fits_int f0_16
  obtain ⟨a0_17, c0_18, rfl, w0_17, f0_18⟩ := fits_int f0_17
  obtain rfl := fits_nil f0_18
  obtain ⟨c1, rfl, f1⟩ := open_flat (ls := [some .i64, some .i64, some .i64]) 4 Try.underlying33 (by kernel_rfl) (hval 1 33 v1 rfl rfl) h1
  obtain ⟨a1_0, c1_1, rfl, w1_0, f1_1⟩ := fits_int f1
  obtain ⟨a1_1, c1_2, rfl, w1_1, f1_2⟩ := fits_int f1_1
  obtain ⟨a1_2, c1_3, rfl, w1_2, f1_3⟩ := fits_int f1_2
  obtain rfl := fits_nil f1_3
  obtain ⟨a2, rfl, rfl, rfl, w2⟩ := open_int Try.underlying3 (hval 2 3 v2 rfl rfl) h2
  obtain ⟨a3, rfl, rfl, rfl, w3⟩ := open_int Try.underlying3 (hval 3 3 v3 rfl rfl) h3
  obtain ⟨a4, rfl, rfl, rfl, w4⟩ := open_int Try.underlying3 (hval 4 3 v4 rfl rfl) h4
  obtain ⟨a5, rfl, rfl, rfl, w5⟩ := open_int Try.underlying3 (hval 5 3 v5 rfl rfl) h5
  obtain ⟨a6, rfl, rfl, rfl, w6⟩ := open_int Try.underlying3 (hval 6 3 v6 rfl rfl) h6
  obtain ⟨a7, rfl, rfl, rfl, w7⟩ := open_int Try.underlying3 (hval 7 3 v7 rfl rfl) h7
  have hy1 : a1_1 ≤ 9223372036854775807 := by
    have := w1_1
    simp [Lit.wf, IntKind.min, IntKind.max, IntKind.signed, IntKind.bits] at this
    omega
  exact (trackMore_one (⟨a0_0, a0_1, a0_2, a0_3, a0_4, a0_5, a0_6, a0_7, a0_8, a0_9, a0_10, a0_11, a0_12, a0_13, a0_14, a0_15, a0_16, a0_17⟩ : Trk) a1_0 a1_1 a1_2 a2 a3 a4 a5 a6 a7 W hy1).mono fun e W' ⟨he, hb⟩ => ⟨_, he, law_post isLaw facts hW' hb⟩

theorem proved : Rows.TrackMoreSaid :=
  OpenClaim.holds_of_wide 13 Try.f13 rfl rfl rfl rfl rfl rfl rfl ⟨rfl, rfl, rfl, rfl, rfl⟩ rfl rfl rfl rfl rfl (by kernel_rfl) Try.func13 (by kernel_rfl)
    (of_decide_eq_true (by kernel_rfl)) (by unfold Func.isWrapper; first | (rw [if_pos (by decide +kernel)]; kernel_rfl) | (rw [if_neg (by decide +kernel)]; exact ⟨rfl, rfl⟩))
    (fun os started H enc _ => lifted os started H enc)
end Go.Proofs.Ytgoomkailpnjaaa.trackMore
