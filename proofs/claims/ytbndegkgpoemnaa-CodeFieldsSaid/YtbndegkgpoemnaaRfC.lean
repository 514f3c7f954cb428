/-
  The reference's IsExt (its contract, drawn from the walk).
-/
import Derived.Test.YtbndegkgpoemnaaRfB
namespace Go.Proofs.Ytbndegkgpoemnaa
open Go.RowKit
set_option linter.unusedVariables false
theorem ref_IsExt (k who to' n r tr lv : Int) (e : Ex) (he : e.hd = [k, who, to', n, r, tr, lv]) (c : Cl) (d : Nat) (w : World) (hrd : RdC w d (.agg #[.int .i64 e.ck, .int .i64 e.ct, .int .i64 e.cn, .slice e.ca e.m e.cc]) c) :
    Calls Try.prog 17 #[.agg (ec e).toArray] w fun x w' => x = .returned (.bool (isX k who to' n r tr lv e (okC 3 c) (voteB e.vote.kind e.vote.aye e.vote.level e.vote.a e.vote.n e.vote.s))) ∧ Below w.heap.size w w' := by
  rw [← refX_eq k who to' n r tr lv e _ _ (fun h => voteB_kind h)]
  exact ref_IsExtX k who to' n r tr lv e he _ _ w (fun W hb => ref_IsCall d c _ W (hrd.below hb)) (fun W => ref_Is5 e.vote.kind e.vote.aye e.vote.level e.vote.a e.vote.n e.vote.s W)
end Go.Proofs.Ytbndegkgpoemnaa
