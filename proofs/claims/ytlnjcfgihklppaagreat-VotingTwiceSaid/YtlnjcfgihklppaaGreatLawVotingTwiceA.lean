/-
  The law VotingTwice: the call is lifted.
-/
import Derived.Test.YtlnjcfgihklppaaGreatRows
import Derived.Test.YtlnjcfgihklppaaGreatLtw
import Derived.Test.YtlnjcfgihklppaaGreatMgl
namespace Go.Proofs.YtlnjcfgihklppaaGreat.votingTwice
open Go.ChangeShapes Go.WideShapes Go.ChangeAt Go.RowKit
set_option linter.unusedVariables false
set_option linter.unusedSimpArgs false

theorem own : ownKnob Tryz.prog.godebug = none := by kernel_rfl
theorem isLaw : IsLaw Rows.votingTwiceSpec Tryz.f4.params.size := by
  refine ⟨rfl, fun H ds hl => ?_⟩
  have hl' : ds.length = 3 := hl
  match ds, hl' with
  | [_, _, _], _ => rfl
theorem facts : LawFacts Tryz.prog Tryz.f4 := ⟨by kernel_rfl, by kernel_rfl, ⟨4, by kernel_rfl, Tryz.underlying4⟩⟩

set_option maxRecDepth 100000 in
theorem lifted (os : Os) (started : os.Started) (H : Type) (enc : TypeId × Value → H) :
    ReturnsInHanded {} Tryz.checked os 4 .any (Rows.votingTwiceSpec.pre6 enc Tryz.prog Tryz.f4 Rows.votingTwiceRow.domain false) (Rows.votingTwiceSpec.post enc Tryz.prog Tryz.f4 false true false false) := by
  refine returnsInHanded_of_change (C := Tryz.checked) own started (by kernel_rfl) Tryz.func4
    (ChangeSpec.witness6 (enc := enc) (C := Tryz.checked) false ⟨#[], #[.agg #[.int .i64 0, .bool false, .int .i64 0, .int .i64 0, .int .i64 0, .int .i64 0], .agg #[.int .i64 0, .bool false, .int .i64 0, .int .i64 0, .int .i64 0, .int .i64 0], .int .i64 0], []⟩ 8 (by kernel_rfl) (by kernel_rfl) (by kernel_rfl) (by kernel_rfl)) ?_
  intro W base args ds gs before hval0 hW hcnd _
  have hval : ∀ (j : Nat) t v, Tryz.f4.params[j]? = some t → args[j]? = some v → Value.okWide Tryz.prog W .any base t v := hval0
  have hW' := hW
  obtain ⟨p, q, hA0, _⟩ := hW
  have hA : DataW.TrodAll enc Tryz.prog W 0 (fun _ => true) true Tryz.f4.params.toList args.toList ds p := hA0
  rw [Tryz.params4] at hA hval
  obtain ⟨v0, vs0, d0, ds0, p0, q0, hargs, rfl, rfl, h0, r0⟩ := trodAll_cons hA
  obtain ⟨v1, vs1, d1, ds1, p1, q1, rfl, rfl, rfl, h1, r1⟩ := trodAll_cons r0
  obtain ⟨v2, vs2, d2, ds2, p2, q2, rfl, rfl, rfl, h2, r2⟩ := trodAll_cons r1
  obtain ⟨rfl, rfl, rfl⟩ := trodAll_nil r2
  obtain rfl : args = #[v0, v1, v2] := by cases args; simp_all
  obtain ⟨c0, rfl, f0⟩ := open_flat (ls := [some .i64, Option.none, some .i64, some .i64, some .i64, some .i64]) 4 Tryz.underlying23 (by kernel_rfl) (hval 0 23 v0 rfl rfl) h0
  obtain ⟨a0_0, c0_1, rfl, w0_0, f0_1⟩ := fits_int f0
  obtain ⟨a0_1, c0_2, rfl, f0_2⟩ := fits_bool f0_1
  obtain ⟨a0_2, c0_3, rfl, w0_2, f0_3⟩ := fits_int f0_2
  obtain ⟨a0_3, c0_4, rfl, w0_3, f0_4⟩ := fits_int f0_3
  obtain ⟨a0_4, c0_5, rfl, w0_4, f0_5⟩ := fits_int f0_4
  obtain ⟨a0_5, c0_6, rfl, w0_5, f0_6⟩ := fits_int f0_5
  obtain rfl := fits_nil f0_6
  obtain ⟨c1, rfl, f1⟩ := open_flat (ls := [some .i64, Option.none, some .i64, some .i64, some .i64, some .i64]) 4 Tryz.underlying23 (by kernel_rfl) (hval 1 23 v1 rfl rfl) h1
  obtain ⟨a1_0, c1_1, rfl, w1_0, f1_1⟩ := fits_int f1
  obtain ⟨a1_1, c1_2, rfl, f1_2⟩ := fits_bool f1_1
  obtain ⟨a1_2, c1_3, rfl, w1_2, f1_3⟩ := fits_int f1_2
  obtain ⟨a1_3, c1_4, rfl, w1_3, f1_4⟩ := fits_int f1_3
  obtain ⟨a1_4, c1_5, rfl, w1_4, f1_5⟩ := fits_int f1_4
  obtain ⟨a1_5, c1_6, rfl, w1_5, f1_6⟩ := fits_int f1_5
  obtain rfl := fits_nil f1_6
  obtain ⟨a2, rfl, rfl, rfl, w2⟩ := open_int Tryz.underlying3 (hval 2 3 v2 rfl rfl) h2
  exact (votingTwice_walk (⟨a0_0, a0_1, a0_2, a0_3, a0_4, a0_5⟩ : Bal) (⟨a1_0, a1_1, a1_2, a1_3, a1_4, a1_5⟩ : Bal) a2 W w2).mono fun e W' ⟨he, hb⟩ => ⟨_, he, law_post isLaw facts hW' hb⟩

end Go.Proofs.YtlnjcfgihklppaaGreat.votingTwice
