/- A part. -/
import Derived.Test.YtbpemdihoabbcaaGreatRyc0
import Derived.Test.YtbpemdihoabbcaaGreatRyc1
namespace Go.Proofs.YtbpemdihoabbcaaGreat
set_option linter.unusedVariables false
set_option linter.unusedSimpArgs false
set_option maxRecDepth 100000
set_option maxHeartbeats 8000000
open Go.RowKit Go.Maps
section
variable {y ab vy pb rb : Nat} {A : Acc} {M : Cls Int} {S S' : Vs} {F : FP} {w w' W W' : World}
theorem rr_Vote (h : (rrM y ab vy pb rb A M S).is F w) (hi : VInv S) (hs : SrtS S) (hM : M.length ≤ 10000) (a r : Int) (x : Bal) : Calls Tryz.prog 33 #[.pointer (some ⟨vy, 0, none⟩), .pointer (some ⟨y, 0, none⟩), .int .i64 a, .int .i64 r, .agg #[.int .i64 x.k, .bool x.aye, .int .i64 x.l, .int .i64 x.a, .int .i64 x.n, .int .i64 x.s]] w fun e w' => e = .returned (.int .i64 (voteE S A a r x)) ∧ (rrM y ab vy pb rb A (voteM S A M a r x) (voteS S A a r x)).to F w w' := by
 by_cases he : voteE S A a r x = 0 ∧ (cget S.V a r).isSome = true
 · exact rr_Vote1 h hi hs hM a r x he.1 he.2
 · refine rr_Vote0 h hi hs hM a r x (fun q => ?_)
   cases hc : (cget S.V a r).isSome with
   | true => exact (he ⟨q, hc⟩).elim
   | false => rfl
end
end Go.Proofs.YtbpemdihoabbcaaGreat
