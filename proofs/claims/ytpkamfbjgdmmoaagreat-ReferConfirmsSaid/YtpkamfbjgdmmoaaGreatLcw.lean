/-
  The law ReferConfirms: the call. Printed by mk12.py.
-/
import Derived.Test.YtpkamfbjgdmmoaaGreatLcq
import Derived.Test.YtpkamfbjgdmmoaaGreatLco0
import Derived.Test.YtpkamfbjgdmmoaaGreatLco1
import Derived.Test.YtpkamfbjgdmmoaaGreatLco2
import Derived.Test.YtpkamfbjgdmmoaaGreatLco3
import Derived.BigRegion
import Derived.RegionTactic
import Derived.Deep.RegionHeld3
namespace Go.Proofs.YtpkamfbjgdmmoaaGreat
open Go.RowKit Go.Maps Go.Shelf
set_option linter.unusedVariables false
set_option linter.unusedSimpArgs false

theorem referConfirms_walk (a b c d e : Int) (w : World) (wa : (Lit.int .i64 a).wf = true) (wb : (Lit.int .i64 b).wf = true) (wc : (Lit.int .i64 c).wf = true) (wd : (Lit.int .i64 d).wf = true) (we : (Lit.int .i64 e).wf = true) : Calls Tryz.prog 4 #[.int .i64 a, .int .i64 b, .int .i64 c, .int .i64 d, .int .i64 e] w fun e w' => e = .returned (.bool true) ∧ Below w.heap.size w w' := by
  by_cases hin : (0 ≤ a ∧ a ≤ 10) ∧ (1 ≤ b ∧ b ≤ 20) ∧ (0 ≤ c ∧ c ≤ 20) ∧ (0 ≤ d ∧ d ≤ 1000) ∧ 0 ≤ e ∧ e ≤ 1000
  · exact conf_walk a b c d e w hin.1.1 hin.1.2 hin.2.1.1 hin.2.1.2 hin.2.2.1.1 hin.2.2.1.2 hin.2.2.2.1.1 hin.2.2.2.1.2 hin.2.2.2.2.1 hin.2.2.2.2.2
  · by_cases q0 : a < 0
    · exact conf_out0 a b c d e w (.inl q0)
    by_cases q1 : a > 10
    · exact conf_out0 a b c d e w (.inr (.inl ⟨q0, q1⟩))
    by_cases q2 : b < 1
    · exact conf_out0 a b c d e w (.inr (.inr (.inl ⟨q0, q1, q2⟩)))
    by_cases q3 : b > 20
    · exact conf_out0 a b c d e w (.inr (.inr (.inr (⟨q0, q1, q2, q3⟩))))
    by_cases q4 : c < 0
    · exact conf_out1 a b c d e w (.inl ⟨q0, q1, q2, q3, q4⟩)
    by_cases q5 : c > 20
    · exact conf_out1 a b c d e w (.inr (.inl ⟨q0, q1, q2, q3, q4, q5⟩))
    by_cases q6 : d < 0
    · exact conf_out1 a b c d e w (.inr (.inr (⟨q0, q1, q2, q3, q4, q5, q6⟩)))
    by_cases q7 : d > 1000
    · exact conf_out2 a b c d e w (.inl ⟨q0, q1, q2, q3, q4, q5, q6, q7⟩)
    by_cases q8 : e < 0
    · exact conf_out2 a b c d e w (.inr (⟨q0, q1, q2, q3, q4, q5, q6, q7, q8⟩))
    by_cases q9 : e > 1000
    · exact conf_out3 a b c d e w (⟨q0, q1, q2, q3, q4, q5, q6, q7, q8, q9⟩)
    exact (hin ⟨⟨by omega, by omega⟩, ⟨by omega, by omega⟩, ⟨by omega, by omega⟩, ⟨by omega, by omega⟩, by omega, by omega⟩).elim
end Go.Proofs.YtpkamfbjgdmmoaaGreat
