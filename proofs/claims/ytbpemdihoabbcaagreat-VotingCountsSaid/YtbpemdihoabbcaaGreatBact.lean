/- A part. -/
import Derived.Test.YtbpemdihoabbcaaGreatBac
import Derived.Test.YtbpemdihoabbcaaGreatUC
namespace Go.Proofs.YtbpemdihoabbcaaGreat
set_option linter.unusedVariables false
set_option linter.unusedSimpArgs false
set_option maxRecDepth 100000
set_option maxHeartbeats 8000000
open Go.RowKit Go.Maps Go.Shelf
def VoteAct : Prop := ∀ (d : Bp) (now : Int) (s : Sx) (F : FP) (w : World) (a r t st who lv n : Int) (x : Bal) (wa : (Lit.int .i64 a).wf = true) (wr : (Lit.int .i64 r).wf = true) (wt : (Lit.int .i64 t).wf = true) (h0 : (bwM d now s s).is F w) (hs : s.Ok) (hN : d.N ≤ d.p), Calls Tryz.prog 8 #[.pointer (some ⟨d.p, 0, none⟩), .agg #[.int .i64 3, .int .i64 a, .int .i64 r, .int .i64 t, .int .i64 st, .int .i64 who, .int .i64 lv, .int .i64 n, .int .i64 x.k, .bool x.aye, .int .i64 x.l, .int .i64 x.a, .int .i64 x.n, .int .i64 x.s]] w fun e w' => e = .returned (.bool true) ∧ (bwM d now ⟨s.A, voteM s.S s.A s.M a r x, voteS s.S s.A a r x⟩ ⟨s.A, voteM s.S s.A s.M a r x, voteS s.S s.A a r x⟩).to F w w' ∧ (⟨s.A, voteM s.S s.A s.M a r x, voteS s.S s.A a r x⟩ : Sx).Ok
section
variable {d : Bp} {now : Int} {s : Sx} {F : FP} {w w' : World}
theorem bq_accOk (h : (bwM d now s s).is F w) : AccOk s.A := by
 obtain ⟨B, hx⟩ := bq_ld h
 exact hx.srt.2.1
end
end Go.Proofs.YtbpemdihoabbcaaGreat
