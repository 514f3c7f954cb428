/-
  No cell of these rows narrows 'for every input' (looked for: loops, veiled, ifaces, maps, wideKeys, modest, calm, conditions, laid).
  DERIVED. THE GIVEN ROWS OF THIS SEAT. 10 by the template 'for every input the law returns true; each argument reads behind the call as it read before'; 0 by the template 'total and deterministic' (their statements: YtlnjcfgihklppaaGreatTotals.lean).
  GIVEN WITH THE SEED: the statements are not yours to turn. If you find one false, say at which input.
  Laid BY PROGRAM, IN A SANDBOX (cutbox-rows.mjs): the forced cells as the released guide's own fill.sh prints them over the translation 55141a049c887cac… (all of the seat's roots in one cut). By AI agents, Wed Nov 11 2026. No macro, syntax, notation, axiom, sorry.
-/
import Derived.Test.YtlnjcfgihklppaaGreatChecked
import GoSem.Claim
import GoSem.ClaimJoined
import GoSem.ClaimMapViews
import Derived.JoinedTies
import Derived.KernelRfl
namespace Go.Proofs.YtlnjcfgihklppaaGreat
/- THE CELL 'sum', in the pinned program and in every row, IS THE sha256 OF THE DUMP (.gsa) THAT YtlnjcfgihklppaaGreatProg.lean LOADS. Nothing in Lean hashes anything: it is a label: what it is worth is what the hold of that sum in a sandbox is worth. -/
noncomputable def Tryz.pinned : Pinned := { name := "ytlnjcfgihklppaagreat", sum := "55141a049c887cacf162961c704a33aa4e016009121c7d808d4b9918d734de95", checked := Tryz.checked }
namespace Rows
def none {H : Type} : Left H := { results := [], args := [] }

/-- 'althinglaw11.VotingOfNothing': WHATEVER THE INPUT: true; the input reads as it did. -/
def votingOfNothingSpec : ChangeSpec := { name := "votingOfNothing", fn := fun _ => fun
  | [d] => { results := [.lit (.bool true)], args := [d] }
  | _ => none }
def votingOfNothingRow : OpenClaim := { program := "ytlnjcfgihklppaagreat", sum := "55141a049c887cacf162961c704a33aa4e016009121c7d808d4b9918d734de95", func := "althing/althinglaw11.VotingOfNothing", spec := "votingOfNothing", unfollowed := true, recurses := true, apart := false }
def VotingOfNothingSaid : Prop := votingOfNothingRow.holds Tryz.pinned (OpenSpec.ofChange votingOfNothingSpec)

/-- ITS FALSE NEIGHBOUR: 'it returns false'. Refute it at one input. -/
def votingOfNothingWrong : ChangeSpec := { name := "votingOfNothing", fn := fun _ => fun
  | [d] => { results := [.lit (.bool false)], args := [d] }
  | _ => none }
def VotingOfNothingWrongFalsely : Prop := votingOfNothingRow.holds Tryz.pinned (OpenSpec.ofChange votingOfNothingWrong)

/-- 'althinglaw11.VotingTwice': WHATEVER THE INPUT: true; the input reads as it did. -/
def votingTwiceSpec : ChangeSpec := { name := "votingTwice", fn := fun _ => fun
  | [d1, d2, d3] => { results := [.lit (.bool true)], args := [d1, d2, d3] }
  | _ => none }
def votingTwiceRow : OpenClaim := { program := "ytlnjcfgihklppaagreat", sum := "55141a049c887cacf162961c704a33aa4e016009121c7d808d4b9918d734de95", func := "althing/althinglaw11.VotingTwice", spec := "votingTwice", unfollowed := true, recurses := true, apart := false }
def VotingTwiceSaid : Prop := votingTwiceRow.holds Tryz.pinned (OpenSpec.ofChange votingTwiceSpec)

/-- ITS FALSE NEIGHBOUR: 'it returns false'. Refute it at one input. -/
def votingTwiceWrong : ChangeSpec := { name := "votingTwice", fn := fun _ => fun
  | [d1, d2, d3] => { results := [.lit (.bool false)], args := [d1, d2, d3] }
  | _ => none }
def VotingTwiceWrongFalsely : Prop := votingTwiceRow.holds Tryz.pinned (OpenSpec.ofChange votingTwiceWrong)

/-- 'althinglaw11.VotingBack': WHATEVER THE INPUT: true; the input reads as it did. -/
def votingBackSpec : ChangeSpec := { name := "votingBack", fn := fun _ => fun
  | [d1, d2, d3, d4] => { results := [.lit (.bool true)], args := [d1, d2, d3, d4] }
  | _ => none }
def votingBackRow : OpenClaim := { program := "ytlnjcfgihklppaagreat", sum := "55141a049c887cacf162961c704a33aa4e016009121c7d808d4b9918d734de95", func := "althing/althinglaw11.VotingBack", spec := "votingBack", unfollowed := true, recurses := true, apart := false }
def VotingBackSaid : Prop := votingBackRow.holds Tryz.pinned (OpenSpec.ofChange votingBackSpec)

/-- ITS FALSE NEIGHBOUR: 'it returns false'. Refute it at one input. -/
def votingBackWrong : ChangeSpec := { name := "votingBack", fn := fun _ => fun
  | [d1, d2, d3, d4] => { results := [.lit (.bool false)], args := [d1, d2, d3, d4] }
  | _ => none }
def VotingBackWrongFalsely : Prop := votingBackRow.holds Tryz.pinned (OpenSpec.ofChange votingBackWrong)

/-- 'althinglaw11.VotingPriors': WHATEVER THE INPUT: true; the input reads as it did. -/
def votingPriorsSpec : ChangeSpec := { name := "votingPriors", fn := fun _ => fun
  | [d1, d2, d3, d4, d5] => { results := [.lit (.bool true)], args := [d1, d2, d3, d4, d5] }
  | _ => none }
def votingPriorsRow : OpenClaim := { program := "ytlnjcfgihklppaagreat", sum := "55141a049c887cacf162961c704a33aa4e016009121c7d808d4b9918d734de95", func := "althing/althinglaw11.VotingPriors", spec := "votingPriors", unfollowed := true, recurses := true, apart := false }
def VotingPriorsSaid : Prop := votingPriorsRow.holds Tryz.pinned (OpenSpec.ofChange votingPriorsSpec)

/-- ITS FALSE NEIGHBOUR: 'it returns false'. Refute it at one input. -/
def votingPriorsWrong : ChangeSpec := { name := "votingPriors", fn := fun _ => fun
  | [d1, d2, d3, d4, d5] => { results := [.lit (.bool false)], args := [d1, d2, d3, d4, d5] }
  | _ => none }
def VotingPriorsWrongFalsely : Prop := votingPriorsRow.holds Tryz.pinned (OpenSpec.ofChange votingPriorsWrong)

/-- 'althinglaw11.VotingLends': WHATEVER THE INPUT: true; the input reads as it did. -/
def votingLendsSpec : ChangeSpec := { name := "votingLends", fn := fun _ => fun
  | [d1, d2, d3, d4] => { results := [.lit (.bool true)], args := [d1, d2, d3, d4] }
  | _ => none }
def votingLendsRow : OpenClaim := { program := "ytlnjcfgihklppaagreat", sum := "55141a049c887cacf162961c704a33aa4e016009121c7d808d4b9918d734de95", func := "althing/althinglaw11.VotingLends", spec := "votingLends", unfollowed := true, recurses := true, apart := false }
def VotingLendsSaid : Prop := votingLendsRow.holds Tryz.pinned (OpenSpec.ofChange votingLendsSpec)

/-- ITS FALSE NEIGHBOUR: 'it returns false'. Refute it at one input. -/
def votingLendsWrong : ChangeSpec := { name := "votingLends", fn := fun _ => fun
  | [d1, d2, d3, d4] => { results := [.lit (.bool false)], args := [d1, d2, d3, d4] }
  | _ => none }
def VotingLendsWrongFalsely : Prop := votingLendsRow.holds Tryz.pinned (OpenSpec.ofChange votingLendsWrong)

/-- 'althinglaw11.VotingFull': WHATEVER THE INPUT: true; the input reads as it did. -/
def votingFullSpec : ChangeSpec := { name := "votingFull", fn := fun _ => fun
  | [d1, d2] => { results := [.lit (.bool true)], args := [d1, d2] }
  | _ => none }
def votingFullRow : OpenClaim := { program := "ytlnjcfgihklppaagreat", sum := "55141a049c887cacf162961c704a33aa4e016009121c7d808d4b9918d734de95", func := "althing/althinglaw11.VotingFull", spec := "votingFull", unfollowed := true, recurses := true, apart := false }
def VotingFullSaid : Prop := votingFullRow.holds Tryz.pinned (OpenSpec.ofChange votingFullSpec)

/-- ITS FALSE NEIGHBOUR: 'it returns false'. Refute it at one input. -/
def votingFullWrong : ChangeSpec := { name := "votingFull", fn := fun _ => fun
  | [d1, d2] => { results := [.lit (.bool false)], args := [d1, d2] }
  | _ => none }
def VotingFullWrongFalsely : Prop := votingFullRow.holds Tryz.pinned (OpenSpec.ofChange votingFullWrong)

/-- 'althinglaw11.VotingSplits': WHATEVER THE INPUT: true; the input reads as it did. -/
def votingSplitsSpec : ChangeSpec := { name := "votingSplits", fn := fun _ => fun
  | [d1, d2, d3, d4, d5] => { results := [.lit (.bool true)], args := [d1, d2, d3, d4, d5] }
  | _ => none }
def votingSplitsRow : OpenClaim := { program := "ytlnjcfgihklppaagreat", sum := "55141a049c887cacf162961c704a33aa4e016009121c7d808d4b9918d734de95", func := "althing/althinglaw11.VotingSplits", spec := "votingSplits", unfollowed := true, recurses := true, apart := false }
def VotingSplitsSaid : Prop := votingSplitsRow.holds Tryz.pinned (OpenSpec.ofChange votingSplitsSpec)

/-- ITS FALSE NEIGHBOUR: 'it returns false'. Refute it at one input. -/
def votingSplitsWrong : ChangeSpec := { name := "votingSplits", fn := fun _ => fun
  | [d1, d2, d3, d4, d5] => { results := [.lit (.bool false)], args := [d1, d2, d3, d4, d5] }
  | _ => none }
def VotingSplitsWrongFalsely : Prop := votingSplitsRow.holds Tryz.pinned (OpenSpec.ofChange votingSplitsWrong)

/-- 'althinglaw11.VotingChain': WHATEVER THE INPUT: true; the input reads as it did. -/
def votingChainSpec : ChangeSpec := { name := "votingChain", fn := fun _ => fun
  | [d1, d2, d3] => { results := [.lit (.bool true)], args := [d1, d2, d3] }
  | _ => none }
def votingChainRow : OpenClaim := { program := "ytlnjcfgihklppaagreat", sum := "55141a049c887cacf162961c704a33aa4e016009121c7d808d4b9918d734de95", func := "althing/althinglaw11.VotingChain", spec := "votingChain", unfollowed := true, recurses := true, apart := false }
def VotingChainSaid : Prop := votingChainRow.holds Tryz.pinned (OpenSpec.ofChange votingChainSpec)

/-- ITS FALSE NEIGHBOUR: 'it returns false'. Refute it at one input. -/
def votingChainWrong : ChangeSpec := { name := "votingChain", fn := fun _ => fun
  | [d1, d2, d3] => { results := [.lit (.bool false)], args := [d1, d2, d3] }
  | _ => none }
def VotingChainWrongFalsely : Prop := votingChainRow.holds Tryz.pinned (OpenSpec.ofChange votingChainWrong)

/-- 'althinglaw11.VotingTracks': WHATEVER THE INPUT: true; the input reads as it did. -/
def votingTracksSpec : ChangeSpec := { name := "votingTracks", fn := fun _ => fun
  | [d1, d2, d3] => { results := [.lit (.bool true)], args := [d1, d2, d3] }
  | _ => none }
def votingTracksRow : OpenClaim := { program := "ytlnjcfgihklppaagreat", sum := "55141a049c887cacf162961c704a33aa4e016009121c7d808d4b9918d734de95", func := "althing/althinglaw11.VotingTracks", spec := "votingTracks", unfollowed := true, recurses := true, apart := false }
def VotingTracksSaid : Prop := votingTracksRow.holds Tryz.pinned (OpenSpec.ofChange votingTracksSpec)

/-- ITS FALSE NEIGHBOUR: 'it returns false'. Refute it at one input. -/
def votingTracksWrong : ChangeSpec := { name := "votingTracks", fn := fun _ => fun
  | [d1, d2, d3] => { results := [.lit (.bool false)], args := [d1, d2, d3] }
  | _ => none }
def VotingTracksWrongFalsely : Prop := votingTracksRow.holds Tryz.pinned (OpenSpec.ofChange votingTracksWrong)

/-- 'althinglaw11.VotingFunds': WHATEVER THE INPUT: true; the input reads as it did. -/
def votingFundsSpec : ChangeSpec := { name := "votingFunds", fn := fun _ => fun
  | [d1, d2] => { results := [.lit (.bool true)], args := [d1, d2] }
  | _ => none }
def votingFundsRow : OpenClaim := { program := "ytlnjcfgihklppaagreat", sum := "55141a049c887cacf162961c704a33aa4e016009121c7d808d4b9918d734de95", func := "althing/althinglaw11.VotingFunds", spec := "votingFunds", unfollowed := true, recurses := true, apart := false }
def VotingFundsSaid : Prop := votingFundsRow.holds Tryz.pinned (OpenSpec.ofChange votingFundsSpec)

/-- ITS FALSE NEIGHBOUR: 'it returns false'. Refute it at one input. -/
def votingFundsWrong : ChangeSpec := { name := "votingFunds", fn := fun _ => fun
  | [d1, d2] => { results := [.lit (.bool false)], args := [d1, d2] }
  | _ => none }
def VotingFundsWrongFalsely : Prop := votingFundsRow.holds Tryz.pinned (OpenSpec.ofChange votingFundsWrong)

/- THE SECOND FORM. 'bulk': how many values and letters a reading holds, each counted each time it is reached (what is shared counts as often as it is met; a slice's spare places count too). A statement '..UptoSaid' is the law's where the arguments, and the package variables that the reading takes, are together of bulk at most 1048576: NARROWER than '..Said'. Prove '..Said' where nothing that the law and all that it calls make is longer than what came in: it says more and counts as full. Else prove '..UptoSaid'. A law counts once. -/
mutual
def uptoBulk {H : Type} : DataW H → Nat
  | .lit (.string bytes) => bytes.length + 1
  | .lit _ => 1
  | .nil => 1
  | .ptr d => uptoBulk d + 1
  | .slice elems spare => uptoBulkAll elems + uptoBulkAll spare + 1
  | .agg parts => uptoBulkAll parts + 1
  | .iface _ d => uptoBulk d + 1
  | .map entries => uptoBulkEntries entries + 1
  | .held _ => 1
def uptoBulkAll {H : Type} : List (DataW H) → Nat
  | [] => 0
  | d :: r => uptoBulk d + uptoBulkAll r
def uptoBulkEntries {H : Type} : List (Lit × DataW H) → Nat
  | [] => 0
  | x :: r => uptoBulkEntry x + uptoBulkEntries r
def uptoBulkEntry {H : Type} : Lit × DataW H → Nat
  | (.string bytes, d) => bytes.length + uptoBulk d + 1
  | (_, d) => uptoBulk d + 1
 end
def uptoSmall : (H : Type) → List (DataW H) → Bool := fun _ ds => decide (uptoBulkAll ds ≤ 1048576)
def OpenSpec.upto (s : _root_.Go.ChangeSpec) : _root_.Go.OpenSpec := { _root_.Go.OpenSpec.ofChange s with cond := some uptoSmall }

/-- 'althinglaw11.VotingOfNothing', WHERE WHAT IT READS IS OF BULK AT MOST 1048576: true; the input reads as it did. -/
def votingOfNothingUptoRow : OpenClaim := { program := "ytlnjcfgihklppaagreat", sum := "55141a049c887cacf162961c704a33aa4e016009121c7d808d4b9918d734de95", func := "althing/althinglaw11.VotingOfNothing", spec := "votingOfNothing", unfollowed := true, recurses := true, apart := false, narrowed := true }
def VotingOfNothingUptoSaid : Prop := votingOfNothingUptoRow.holds Tryz.pinned (OpenSpec.upto votingOfNothingSpec)

/-- 'althinglaw11.VotingTwice', WHERE WHAT IT READS IS OF BULK AT MOST 1048576: true; the input reads as it did. -/
def votingTwiceUptoRow : OpenClaim := { program := "ytlnjcfgihklppaagreat", sum := "55141a049c887cacf162961c704a33aa4e016009121c7d808d4b9918d734de95", func := "althing/althinglaw11.VotingTwice", spec := "votingTwice", unfollowed := true, recurses := true, apart := false, narrowed := true }
def VotingTwiceUptoSaid : Prop := votingTwiceUptoRow.holds Tryz.pinned (OpenSpec.upto votingTwiceSpec)

/-- 'althinglaw11.VotingBack', WHERE WHAT IT READS IS OF BULK AT MOST 1048576: true; the input reads as it did. -/
def votingBackUptoRow : OpenClaim := { program := "ytlnjcfgihklppaagreat", sum := "55141a049c887cacf162961c704a33aa4e016009121c7d808d4b9918d734de95", func := "althing/althinglaw11.VotingBack", spec := "votingBack", unfollowed := true, recurses := true, apart := false, narrowed := true }
def VotingBackUptoSaid : Prop := votingBackUptoRow.holds Tryz.pinned (OpenSpec.upto votingBackSpec)

/-- 'althinglaw11.VotingPriors', WHERE WHAT IT READS IS OF BULK AT MOST 1048576: true; the input reads as it did. -/
def votingPriorsUptoRow : OpenClaim := { program := "ytlnjcfgihklppaagreat", sum := "55141a049c887cacf162961c704a33aa4e016009121c7d808d4b9918d734de95", func := "althing/althinglaw11.VotingPriors", spec := "votingPriors", unfollowed := true, recurses := true, apart := false, narrowed := true }
def VotingPriorsUptoSaid : Prop := votingPriorsUptoRow.holds Tryz.pinned (OpenSpec.upto votingPriorsSpec)

/-- 'althinglaw11.VotingLends', WHERE WHAT IT READS IS OF BULK AT MOST 1048576: true; the input reads as it did. -/
def votingLendsUptoRow : OpenClaim := { program := "ytlnjcfgihklppaagreat", sum := "55141a049c887cacf162961c704a33aa4e016009121c7d808d4b9918d734de95", func := "althing/althinglaw11.VotingLends", spec := "votingLends", unfollowed := true, recurses := true, apart := false, narrowed := true }
def VotingLendsUptoSaid : Prop := votingLendsUptoRow.holds Tryz.pinned (OpenSpec.upto votingLendsSpec)

/-- 'althinglaw11.VotingFull', WHERE WHAT IT READS IS OF BULK AT MOST 1048576: true; the input reads as it did. -/
def votingFullUptoRow : OpenClaim := { program := "ytlnjcfgihklppaagreat", sum := "55141a049c887cacf162961c704a33aa4e016009121c7d808d4b9918d734de95", func := "althing/althinglaw11.VotingFull", spec := "votingFull", unfollowed := true, recurses := true, apart := false, narrowed := true }
def VotingFullUptoSaid : Prop := votingFullUptoRow.holds Tryz.pinned (OpenSpec.upto votingFullSpec)

/-- 'althinglaw11.VotingSplits', WHERE WHAT IT READS IS OF BULK AT MOST 1048576: true; the input reads as it did. -/
def votingSplitsUptoRow : OpenClaim := { program := "ytlnjcfgihklppaagreat", sum := "55141a049c887cacf162961c704a33aa4e016009121c7d808d4b9918d734de95", func := "althing/althinglaw11.VotingSplits", spec := "votingSplits", unfollowed := true, recurses := true, apart := false, narrowed := true }
def VotingSplitsUptoSaid : Prop := votingSplitsUptoRow.holds Tryz.pinned (OpenSpec.upto votingSplitsSpec)

/-- 'althinglaw11.VotingChain', WHERE WHAT IT READS IS OF BULK AT MOST 1048576: true; the input reads as it did. -/
def votingChainUptoRow : OpenClaim := { program := "ytlnjcfgihklppaagreat", sum := "55141a049c887cacf162961c704a33aa4e016009121c7d808d4b9918d734de95", func := "althing/althinglaw11.VotingChain", spec := "votingChain", unfollowed := true, recurses := true, apart := false, narrowed := true }
def VotingChainUptoSaid : Prop := votingChainUptoRow.holds Tryz.pinned (OpenSpec.upto votingChainSpec)

/-- 'althinglaw11.VotingTracks', WHERE WHAT IT READS IS OF BULK AT MOST 1048576: true; the input reads as it did. -/
def votingTracksUptoRow : OpenClaim := { program := "ytlnjcfgihklppaagreat", sum := "55141a049c887cacf162961c704a33aa4e016009121c7d808d4b9918d734de95", func := "althing/althinglaw11.VotingTracks", spec := "votingTracks", unfollowed := true, recurses := true, apart := false, narrowed := true }
def VotingTracksUptoSaid : Prop := votingTracksUptoRow.holds Tryz.pinned (OpenSpec.upto votingTracksSpec)

/-- 'althinglaw11.VotingFunds', WHERE WHAT IT READS IS OF BULK AT MOST 1048576: true; the input reads as it did. -/
def votingFundsUptoRow : OpenClaim := { program := "ytlnjcfgihklppaagreat", sum := "55141a049c887cacf162961c704a33aa4e016009121c7d808d4b9918d734de95", func := "althing/althinglaw11.VotingFunds", spec := "votingFunds", unfollowed := true, recurses := true, apart := false, narrowed := true }
def VotingFundsUptoSaid : Prop := votingFundsUptoRow.holds Tryz.pinned (OpenSpec.upto votingFundsSpec)

end Rows
end Go.Proofs.YtlnjcfgihklppaaGreat
