/-
  No cell of these rows narrows 'for every input' (looked for: loops, veiled, ifaces, maps, wideKeys, modest, calm, conditions, laid).
  DERIVED. THE GIVEN ROWS OF THIS SEAT. 4 by the template 'for every input the law returns true; each argument reads behind the call as it read before'; 0 by the template 'total and deterministic' (their statements: YtbpemdihoabbcaaGreatTotals.lean).
  GIVEN WITH THE SEED: the statements are not yours to turn. If you find one false, say at which input.
  Laid BY PROGRAM, IN A SANDBOX (cutbox-rows.mjs): the forced cells as the released guide's own fill.sh prints them over the translation 7f7daa6af1440db5… (all of the seat's roots in one cut). By AI agents, Wed Nov 11 2026. No macro, syntax, notation, axiom, sorry.
-/
import Derived.Test.YtbpemdihoabbcaaGreatChecked
import GoSem.Claim
import GoSem.ClaimJoined
import GoSem.ClaimMapViews
import Derived.JoinedTies
import Derived.KernelRfl
namespace Go.Proofs.YtbpemdihoabbcaaGreat
/- THE CELL 'sum', in the pinned program and in every row, IS THE sha256 OF THE DUMP (.gsa) THAT YtbpemdihoabbcaaGreatProg.lean LOADS. Nothing in Lean hashes anything: it is a label: what it is worth is what the hold of that sum in a sandbox is worth. -/
noncomputable def Tryz.pinned : Pinned := { name := "ytbpemdihoabbcaagreat", sum := "7f7daa6af1440db5a4746577b95bb95ed3c754c3f8fc2caa1e6d910819869e1a", checked := Tryz.checked }
namespace Rows
def none {H : Type} : Left H := { results := [], args := [] }

/-- 'althinglaw11.VotingPlays': WHATEVER THE INPUT: true; the input reads as it did. -/
def votingPlaysSpec : ChangeSpec := { name := "votingPlays", fn := fun _ => fun
  | [d1, d2] => { results := [.lit (.bool true)], args := [d1, d2] }
  | _ => none }
def votingPlaysRow : OpenClaim := { program := "ytbpemdihoabbcaagreat", sum := "7f7daa6af1440db5a4746577b95bb95ed3c754c3f8fc2caa1e6d910819869e1a", func := "althing/althinglaw11.VotingPlays", spec := "votingPlays", unfollowed := true, recurses := true, apart := false }
def VotingPlaysSaid : Prop := votingPlaysRow.holds Tryz.pinned (OpenSpec.ofChange votingPlaysSpec)

/-- ITS FALSE NEIGHBOUR: 'it returns false'. Refute it at one input. -/
def votingPlaysWrong : ChangeSpec := { name := "votingPlays", fn := fun _ => fun
  | [d1, d2] => { results := [.lit (.bool false)], args := [d1, d2] }
  | _ => none }
def VotingPlaysWrongFalsely : Prop := votingPlaysRow.holds Tryz.pinned (OpenSpec.ofChange votingPlaysWrong)

/-- 'althinglaw11.VotingCounts': WHATEVER THE INPUT: true; the input reads as it did. -/
def votingCountsSpec : ChangeSpec := { name := "votingCounts", fn := fun _ => fun
  | [d1, d2] => { results := [.lit (.bool true)], args := [d1, d2] }
  | _ => none }
def votingCountsRow : OpenClaim := { program := "ytbpemdihoabbcaagreat", sum := "7f7daa6af1440db5a4746577b95bb95ed3c754c3f8fc2caa1e6d910819869e1a", func := "althing/althinglaw11.VotingCounts", spec := "votingCounts", unfollowed := true, recurses := true, apart := false }
def VotingCountsSaid : Prop := votingCountsRow.holds Tryz.pinned (OpenSpec.ofChange votingCountsSpec)

/-- ITS FALSE NEIGHBOUR: 'it returns false'. Refute it at one input. -/
def votingCountsWrong : ChangeSpec := { name := "votingCounts", fn := fun _ => fun
  | [d1, d2] => { results := [.lit (.bool false)], args := [d1, d2] }
  | _ => none }
def VotingCountsWrongFalsely : Prop := votingCountsRow.holds Tryz.pinned (OpenSpec.ofChange votingCountsWrong)

/-- 'althinglaw11.VotingHolds': WHATEVER THE INPUT: true; the input reads as it did. -/
def votingHoldsSpec : ChangeSpec := { name := "votingHolds", fn := fun _ => fun
  | [d1, d2] => { results := [.lit (.bool true)], args := [d1, d2] }
  | _ => none }
def votingHoldsRow : OpenClaim := { program := "ytbpemdihoabbcaagreat", sum := "7f7daa6af1440db5a4746577b95bb95ed3c754c3f8fc2caa1e6d910819869e1a", func := "althing/althinglaw11.VotingHolds", spec := "votingHolds", unfollowed := true, recurses := true, apart := false }
def VotingHoldsSaid : Prop := votingHoldsRow.holds Tryz.pinned (OpenSpec.ofChange votingHoldsSpec)

/-- ITS FALSE NEIGHBOUR: 'it returns false'. Refute it at one input. -/
def votingHoldsWrong : ChangeSpec := { name := "votingHolds", fn := fun _ => fun
  | [d1, d2] => { results := [.lit (.bool false)], args := [d1, d2] }
  | _ => none }
def VotingHoldsWrongFalsely : Prop := votingHoldsRow.holds Tryz.pinned (OpenSpec.ofChange votingHoldsWrong)

/-- 'althinglaw11.VotingErrs': WHATEVER THE INPUT: true; the input reads as it did. -/
def votingErrsSpec : ChangeSpec := { name := "votingErrs", fn := fun _ => fun
  | [d1, d2, d3] => { results := [.lit (.bool true)], args := [d1, d2, d3] }
  | _ => none }
def votingErrsRow : OpenClaim := { program := "ytbpemdihoabbcaagreat", sum := "7f7daa6af1440db5a4746577b95bb95ed3c754c3f8fc2caa1e6d910819869e1a", func := "althing/althinglaw11.VotingErrs", spec := "votingErrs", unfollowed := true, recurses := true, apart := false }
def VotingErrsSaid : Prop := votingErrsRow.holds Tryz.pinned (OpenSpec.ofChange votingErrsSpec)

/-- ITS FALSE NEIGHBOUR: 'it returns false'. Refute it at one input. -/
def votingErrsWrong : ChangeSpec := { name := "votingErrs", fn := fun _ => fun
  | [d1, d2, d3] => { results := [.lit (.bool false)], args := [d1, d2, d3] }
  | _ => none }
def VotingErrsWrongFalsely : Prop := votingErrsRow.holds Tryz.pinned (OpenSpec.ofChange votingErrsWrong)

/- THE SECOND FORM. 'bulk': how many values and letters a reading holds, each counted each time it is reached (what is shared counts as often as it is met; a slice's spare places count too). A statement '..UptoSaid' is the law's where the arguments, and the package variables that the reading takes, are together of bulk at most 1048576: NARROWER than '..Said'. Prove '..Said' where nothing that the law and all that it calls make is longer than what came in: it says more and counts as full. Else prove '..UptoSaid'. A law counts once. -/
mutual
def uptoBulk {H : Type} : DataW H → Nat
  | .lit (.string bytes) => bytes.length + 1
  | .lit _ => 1
  | .nil => 1
  | .ptr d => uptoBulk d + 1
  | .slice elems spare => uptoBulkAll elems + uptoBulkAll spare + 1
  | .agg parts => uptoBulkAll parts + 1
  | .iface _ d => uptoBulk d + 1
  | .map entries => uptoBulkEntries entries + 1
  | .held _ => 1
def uptoBulkAll {H : Type} : List (DataW H) → Nat
  | [] => 0
  | d :: r => uptoBulk d + uptoBulkAll r
def uptoBulkEntries {H : Type} : List (Lit × DataW H) → Nat
  | [] => 0
  | x :: r => uptoBulkEntry x + uptoBulkEntries r
def uptoBulkEntry {H : Type} : Lit × DataW H → Nat
  | (.string bytes, d) => bytes.length + uptoBulk d + 1
  | (_, d) => uptoBulk d + 1
 end
def uptoSmall : (H : Type) → List (DataW H) → Bool := fun _ ds => decide (uptoBulkAll ds ≤ 1048576)
def OpenSpec.upto (s : _root_.Go.ChangeSpec) : _root_.Go.OpenSpec := { _root_.Go.OpenSpec.ofChange s with cond := some uptoSmall }

/-- 'althinglaw11.VotingPlays', WHERE WHAT IT READS IS OF BULK AT MOST 1048576: true; the input reads as it did. -/
def votingPlaysUptoRow : OpenClaim := { program := "ytbpemdihoabbcaagreat", sum := "7f7daa6af1440db5a4746577b95bb95ed3c754c3f8fc2caa1e6d910819869e1a", func := "althing/althinglaw11.VotingPlays", spec := "votingPlays", unfollowed := true, recurses := true, apart := false, narrowed := true }
def VotingPlaysUptoSaid : Prop := votingPlaysUptoRow.holds Tryz.pinned (OpenSpec.upto votingPlaysSpec)

/-- 'althinglaw11.VotingCounts', WHERE WHAT IT READS IS OF BULK AT MOST 1048576: true; the input reads as it did. -/
def votingCountsUptoRow : OpenClaim := { program := "ytbpemdihoabbcaagreat", sum := "7f7daa6af1440db5a4746577b95bb95ed3c754c3f8fc2caa1e6d910819869e1a", func := "althing/althinglaw11.VotingCounts", spec := "votingCounts", unfollowed := true, recurses := true, apart := false, narrowed := true }
def VotingCountsUptoSaid : Prop := votingCountsUptoRow.holds Tryz.pinned (OpenSpec.upto votingCountsSpec)

/-- 'althinglaw11.VotingHolds', WHERE WHAT IT READS IS OF BULK AT MOST 1048576: true; the input reads as it did. -/
def votingHoldsUptoRow : OpenClaim := { program := "ytbpemdihoabbcaagreat", sum := "7f7daa6af1440db5a4746577b95bb95ed3c754c3f8fc2caa1e6d910819869e1a", func := "althing/althinglaw11.VotingHolds", spec := "votingHolds", unfollowed := true, recurses := true, apart := false, narrowed := true }
def VotingHoldsUptoSaid : Prop := votingHoldsUptoRow.holds Tryz.pinned (OpenSpec.upto votingHoldsSpec)

/-- 'althinglaw11.VotingErrs', WHERE WHAT IT READS IS OF BULK AT MOST 1048576: true; the input reads as it did. -/
def votingErrsUptoRow : OpenClaim := { program := "ytbpemdihoabbcaagreat", sum := "7f7daa6af1440db5a4746577b95bb95ed3c754c3f8fc2caa1e6d910819869e1a", func := "althing/althinglaw11.VotingErrs", spec := "votingErrs", unfollowed := true, recurses := true, apart := false, narrowed := true }
def VotingErrsUptoSaid : Prop := votingErrsUptoRow.holds Tryz.pinned (OpenSpec.upto votingErrsSpec)

end Rows
end Go.Proofs.YtbpemdihoabbcaaGreat
