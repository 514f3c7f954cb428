/-
  The law's known; the law CodeBounds, walked.
-/
import Derived.Test.YtbndegkgpoemnaaEnc
import Derived.Test.YtbndegkgpoemnaaCod9
namespace Go.Proofs.Ytbndegkgpoemnaa
open Go.RowKit
set_option linter.unusedVariables false
set_option linter.unusedSimpArgs false

def exHd (l : List Int) (h : l.length = 7) : Ex := exWith exZero l h
theorem run_buildE2 (a b : Int) (w : World) : (buildE #[(0, .int .i64 a), (1, .int .i64 b)]).run Try.prog w = .ok (.agg (ec (exHd [a, b, 0, 0, 0, 0, 0] rfl)).toArray) w := by kernel_rfl
theorem run_buildE4 (a b c d : Int) (w : World) : (buildE #[(0, .int .i64 a), (1, .int .i64 b), (2, .int .i64 c), (3, .int .i64 d)]).run Try.prog w = .ok (.agg (ec (exHd [a, b, c, d, 0, 0, 0] rfl)).toArray) w := by kernel_rfl
theorem run_buildE5 (a b c : Int) (w : World) : (buildE #[(0, .int .i64 a), (1, .int .i64 b), (4, .int .i64 c)]).run Try.prog w = .ok (.agg (ec (exHd [a, b, 0, 0, c, 0, 0] rfl)).toArray) w := by kernel_rfl
theorem run_buildE6 (a b c : Int) (w : World) : (buildE #[(0, .int .i64 a), (1, .int .i64 b), (5, .int .i64 c)]).run Try.prog w = .ok (.agg (ec (exHd [a, b, 0, 0, 0, c, 0] rfl)).toArray) w := by kernel_rfl
theorem extEq_zero (a b c d e f g : Int) (l : List Int) (h : l.length = 7) (h0 : l = [0, 0, 0, 0, 0, 0, 0]) : extEq (exWith (exHd [a, b, c, d, e, f, g] rfl) l h) exZero = true := by subst h0; rfl
attribute [local go_sem ↓] build_e
theorem rdC0 {k t n : Int} {w : World} : RdC w 1 (.agg #[.int .i64 k, .int .i64 t, .int .i64 n, .slice none 0 0]) (.mk k t n []) :=
  ⟨none, 0, rfl, fun i hi => absurd hi (Nat.not_lt_zero i)⟩
theorem known_ok : okC 3 (.mk 1 0 3 []) = true := by decide +kernel
theorem known_lay : layT (.mk 1 0 3 []) = [4, 0, 12, 0] := by decide +kernel
theorem known_enc (w : World) : Calls Try.prog 21 #[.agg #[.int .i64 1, .int .i64 0, .int .i64 3, .slice none 0 0]] w fun e w' => ∃ u, e = .returned (.tuple #[u, .int .i64 0]) ∧ OwnB w.heap.size u (Bs [4, 0, 12, 0]) w' ∧ Below w.heap.size w w' := by
  have h := code_EncodeCall 1 (.mk 1 0 3 []) _ w rdC0
  have e1 : (if okC 3 (.mk 1 0 3 []) then (0 : Int) else 1) = 0 := by rw [known_ok]; rfl
  have e2 : (if okC 3 (.mk 1 0 3 []) then layT (.mk 1 0 3 []) else []) = [4, 0, 12, 0] := by rw [known_ok, known_lay]; rfl
  rw [e1, e2] at h
  exact h
set_option maxHeartbeats 1000000 in
set_option maxRecDepth 100000 in
theorem law_known (w : World) : Calls Try.prog 19 #[] w fun e w' => e = .returned (.bool true) ∧ Below w.heap.size w w' := by
  have hE := run_buildE2 11 2
  have hb256 : ∀ b ∈ ([4, 0, 12, 0] : List Nat), b < 256 := by decide
  have HE := Lib.hid (code_IsExt11 (exHd [11, 2, 0, 0, 0, 0, 0] rfl) 0 2 0 0 0 0 rfl)
  have HC := Lib.hid (known_enc w)
  go_enter Try.func19, Try.ntmps19
  have hst : ((strN [4, 0, 12, 0]).toList == [4, 0, 12, 0]) = true := by rw [strN_toList]; rfl
  go_wp2_with (first
    | (go_at_call 21; refine HC.out.mono ?_; rintro e w1 ⟨u, rfl, ho, hb⟩; have hstr := run_str ho.reads hb256; have H1 := Lib.hid hb; clear ho hb)
    | (go_at_call 16; refine (HE.out _).mono ?_; rintro e w2 ⟨rfl, hb⟩; have H2 := Lib.hid (H1.out.trans (hb.mono H1.out.size)); clear hb)
    | fail)
  go_ret
  exact ⟨by rfl, H2.out⟩
end Go.Proofs.Ytbndegkgpoemnaa
