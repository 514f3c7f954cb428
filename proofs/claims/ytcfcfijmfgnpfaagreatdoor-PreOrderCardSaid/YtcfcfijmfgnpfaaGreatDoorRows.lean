/-
  NARROWER THAN 'FOR EVERY INPUT', by the rows' own cells (each row's printed sentence says how): PrePlays: loops, laid · PreDeposits: loops, laid · PreWants: loops, laid · PreFull: laid · PreStops: laid · PreOfNothing: loops, laid · PreOrder: loops, laid.
  DERIVED. THE GIVEN ROWS OF THIS SEAT. 7 by the template 'for every input the law returns true; each argument reads behind the call as it read before'; 0 by the template 'total and deterministic' (their statements: YtcfcfijmfgnpfaaGreatDoorTotals.lean).
  GIVEN WITH THE SEED: the statements are not yours to turn. If you find one false, say at which input.
  Laid BY PROGRAM, IN A SANDBOX (cutbox-rows.mjs): the forced cells as the released guide's own fill.sh prints them over the translation 18d8ba758fd139ac… (all of the seat's roots in one cut). By AI agents, Wed Nov 11 2026. No macro, syntax, notation, axiom, sorry.
-/
import Derived.Test.YtcfcfijmfgnpfaaGreatDoorChecked
import GoSem.Claim
import GoSem.ClaimJoined
import GoSem.ClaimMapViews
import Derived.JoinedTies
import Derived.KernelRfl
namespace Go.Proofs.YtcfcfijmfgnpfaaGreatDoor
/- THE CELL 'sum', in the pinned program and in every row, IS THE sha256 OF THE DUMP (.gsa) THAT YtcfcfijmfgnpfaaGreatDoorProg.lean LOADS. Nothing in Lean hashes anything: it is a label: what it is worth is what the hold of that sum in a sandbox is worth. -/
noncomputable def Tryz.pinned : Pinned := { name := "ytcfcfijmfgnpfaagreatdoor", sum := "18d8ba758fd139acea12d8e6140de42e3f737604ceab020418f09ba4b52d9762", checked := Tryz.checked }
namespace Rows
def none {H : Type} : Left H := { results := [], args := [] }

/- WHAT THE LISTED PACKAGE-LEVEL VARIABLES READ AS WHEN THE CALL BEGINS. Each datum BY PROGRAM (the guide's laid-datum.mjs) off the statement by which the dump's own 'gosem.cut.vars' lays the variable. In a bare row this is a premise. The card (YtcfcfijmfgnpfaaGreatDoorCards.lean) ties it to the program's text. -/
def laid_althing_blake_beginning {H : Type} : DataW H := .agg [.lit (.int .u64 7640891576956012808), .lit (.int .u64 13503953896175478587), .lit (.int .u64 4354685564936845355), .lit (.int .u64 11912009170470909681), .lit (.int .u64 5840696475078001361), .lit (.int .u64 11170449401992604703), .lit (.int .u64 2270897969802886507), .lit (.int .u64 6620516959819538809)]
def laid_althing_blake_orders {H : Type} : DataW H := .agg [.agg [.lit (.int .u8 0), .lit (.int .u8 1), .lit (.int .u8 2), .lit (.int .u8 3), .lit (.int .u8 4), .lit (.int .u8 5), .lit (.int .u8 6), .lit (.int .u8 7), .lit (.int .u8 8), .lit (.int .u8 9), .lit (.int .u8 10), .lit (.int .u8 11), .lit (.int .u8 12), .lit (.int .u8 13), .lit (.int .u8 14), .lit (.int .u8 15)], .agg [.lit (.int .u8 14), .lit (.int .u8 10), .lit (.int .u8 4), .lit (.int .u8 8), .lit (.int .u8 9), .lit (.int .u8 15), .lit (.int .u8 13), .lit (.int .u8 6), .lit (.int .u8 1), .lit (.int .u8 12), .lit (.int .u8 0), .lit (.int .u8 2), .lit (.int .u8 11), .lit (.int .u8 7), .lit (.int .u8 5), .lit (.int .u8 3)], .agg [.lit (.int .u8 11), .lit (.int .u8 8), .lit (.int .u8 12), .lit (.int .u8 0), .lit (.int .u8 5), .lit (.int .u8 2), .lit (.int .u8 15), .lit (.int .u8 13), .lit (.int .u8 10), .lit (.int .u8 14), .lit (.int .u8 3), .lit (.int .u8 6), .lit (.int .u8 7), .lit (.int .u8 1), .lit (.int .u8 9), .lit (.int .u8 4)], .agg [.lit (.int .u8 7), .lit (.int .u8 9), .lit (.int .u8 3), .lit (.int .u8 1), .lit (.int .u8 13), .lit (.int .u8 12), .lit (.int .u8 11), .lit (.int .u8 14), .lit (.int .u8 2), .lit (.int .u8 6), .lit (.int .u8 5), .lit (.int .u8 10), .lit (.int .u8 4), .lit (.int .u8 0), .lit (.int .u8 15), .lit (.int .u8 8)], .agg [.lit (.int .u8 9), .lit (.int .u8 0), .lit (.int .u8 5), .lit (.int .u8 7), .lit (.int .u8 2), .lit (.int .u8 4), .lit (.int .u8 10), .lit (.int .u8 15), .lit (.int .u8 14), .lit (.int .u8 1), .lit (.int .u8 11), .lit (.int .u8 12), .lit (.int .u8 6), .lit (.int .u8 8), .lit (.int .u8 3), .lit (.int .u8 13)], .agg [.lit (.int .u8 2), .lit (.int .u8 12), .lit (.int .u8 6), .lit (.int .u8 10), .lit (.int .u8 0), .lit (.int .u8 11), .lit (.int .u8 8), .lit (.int .u8 3), .lit (.int .u8 4), .lit (.int .u8 13), .lit (.int .u8 7), .lit (.int .u8 5), .lit (.int .u8 15), .lit (.int .u8 14), .lit (.int .u8 1), .lit (.int .u8 9)], .agg [.lit (.int .u8 12), .lit (.int .u8 5), .lit (.int .u8 1), .lit (.int .u8 15), .lit (.int .u8 14), .lit (.int .u8 13), .lit (.int .u8 4), .lit (.int .u8 10), .lit (.int .u8 0), .lit (.int .u8 7), .lit (.int .u8 6), .lit (.int .u8 3), .lit (.int .u8 9), .lit (.int .u8 2), .lit (.int .u8 8), .lit (.int .u8 11)], .agg [.lit (.int .u8 13), .lit (.int .u8 11), .lit (.int .u8 7), .lit (.int .u8 14), .lit (.int .u8 12), .lit (.int .u8 1), .lit (.int .u8 3), .lit (.int .u8 9), .lit (.int .u8 5), .lit (.int .u8 0), .lit (.int .u8 15), .lit (.int .u8 4), .lit (.int .u8 8), .lit (.int .u8 6), .lit (.int .u8 2), .lit (.int .u8 10)], .agg [.lit (.int .u8 6), .lit (.int .u8 15), .lit (.int .u8 14), .lit (.int .u8 9), .lit (.int .u8 11), .lit (.int .u8 3), .lit (.int .u8 0), .lit (.int .u8 8), .lit (.int .u8 12), .lit (.int .u8 2), .lit (.int .u8 13), .lit (.int .u8 7), .lit (.int .u8 1), .lit (.int .u8 4), .lit (.int .u8 10), .lit (.int .u8 5)], .agg [.lit (.int .u8 10), .lit (.int .u8 2), .lit (.int .u8 8), .lit (.int .u8 4), .lit (.int .u8 7), .lit (.int .u8 6), .lit (.int .u8 1), .lit (.int .u8 5), .lit (.int .u8 15), .lit (.int .u8 11), .lit (.int .u8 9), .lit (.int .u8 14), .lit (.int .u8 3), .lit (.int .u8 12), .lit (.int .u8 13), .lit (.int .u8 0)]]

/-- 'althinglaw8.PrePlays': WHATEVER THE INPUT: true; the input reads as it did. -/
def prePlaysSpec : ChangeSpec := { name := "prePlays", fn := fun _ => fun
  | [d1, d2] => { results := [.lit (.bool true)], args := [d1, d2] }
  | _ => none }
def prePlaysRow : OpenClaim := { program := "ytcfcfijmfgnpfaagreatdoor", sum := "18d8ba758fd139acea12d8e6140de42e3f737604ceab020418f09ba4b52d9762", func := "althing/althinglaw8.PrePlays", spec := "prePlays", inPlace := ["internal/bytealg.Compare"], unfollowed := true, recurses := true, named := ["althing/blake.beginning", "althing/blake.orders"], loops := true, plainKeys := false, apart := false, laid := [("althing/blake.beginning", laid_althing_blake_beginning), ("althing/blake.orders", laid_althing_blake_orders)] }
def PrePlaysSaid : Prop := prePlaysRow.holds Tryz.pinned (OpenSpec.ofChange prePlaysSpec)

/-- ITS FALSE NEIGHBOUR: 'it returns false'. Refute it at one input. -/
def prePlaysWrong : ChangeSpec := { name := "prePlays", fn := fun _ => fun
  | [d1, d2] => { results := [.lit (.bool false)], args := [d1, d2] }
  | _ => none }
def PrePlaysWrongFalsely : Prop := prePlaysRow.holds Tryz.pinned (OpenSpec.ofChange prePlaysWrong)

/-- 'althinglaw8.PreDeposits': WHATEVER THE INPUT: true; the input reads as it did. -/
def preDepositsSpec : ChangeSpec := { name := "preDeposits", fn := fun _ => fun
  | [d] => { results := [.lit (.bool true)], args := [d] }
  | _ => none }
def preDepositsRow : OpenClaim := { program := "ytcfcfijmfgnpfaagreatdoor", sum := "18d8ba758fd139acea12d8e6140de42e3f737604ceab020418f09ba4b52d9762", func := "althing/althinglaw8.PreDeposits", spec := "preDeposits", inPlace := ["internal/bytealg.Compare"], unfollowed := true, recurses := true, named := ["althing/blake.beginning", "althing/blake.orders"], loops := true, plainKeys := false, apart := false, laid := [("althing/blake.beginning", laid_althing_blake_beginning), ("althing/blake.orders", laid_althing_blake_orders)] }
def PreDepositsSaid : Prop := preDepositsRow.holds Tryz.pinned (OpenSpec.ofChange preDepositsSpec)

/-- ITS FALSE NEIGHBOUR: 'it returns false'. Refute it at one input. -/
def preDepositsWrong : ChangeSpec := { name := "preDeposits", fn := fun _ => fun
  | [d] => { results := [.lit (.bool false)], args := [d] }
  | _ => none }
def PreDepositsWrongFalsely : Prop := preDepositsRow.holds Tryz.pinned (OpenSpec.ofChange preDepositsWrong)

/-- 'althinglaw8.PreWants': WHATEVER THE INPUT: true; the input reads as it did. -/
def preWantsSpec : ChangeSpec := { name := "preWants", fn := fun _ => fun
  | [d1, d2, d3] => { results := [.lit (.bool true)], args := [d1, d2, d3] }
  | _ => none }
def preWantsRow : OpenClaim := { program := "ytcfcfijmfgnpfaagreatdoor", sum := "18d8ba758fd139acea12d8e6140de42e3f737604ceab020418f09ba4b52d9762", func := "althing/althinglaw8.PreWants", spec := "preWants", unfollowed := true, recurses := true, named := ["althing/blake.beginning", "althing/blake.orders"], loops := true, plainKeys := false, apart := false, laid := [("althing/blake.beginning", laid_althing_blake_beginning), ("althing/blake.orders", laid_althing_blake_orders)] }
def PreWantsSaid : Prop := preWantsRow.holds Tryz.pinned (OpenSpec.ofChange preWantsSpec)

/-- ITS FALSE NEIGHBOUR: 'it returns false'. Refute it at one input. -/
def preWantsWrong : ChangeSpec := { name := "preWants", fn := fun _ => fun
  | [d1, d2, d3] => { results := [.lit (.bool false)], args := [d1, d2, d3] }
  | _ => none }
def PreWantsWrongFalsely : Prop := preWantsRow.holds Tryz.pinned (OpenSpec.ofChange preWantsWrong)

/-- 'althinglaw8.PreFull': WHATEVER THE INPUT: true; the input reads as it did. -/
def preFullSpec : ChangeSpec := { name := "preFull", fn := fun _ => fun
  | [d1, d2] => { results := [.lit (.bool true)], args := [d1, d2] }
  | _ => none }
def preFullRow : OpenClaim := { program := "ytcfcfijmfgnpfaagreatdoor", sum := "18d8ba758fd139acea12d8e6140de42e3f737604ceab020418f09ba4b52d9762", func := "althing/althinglaw8.PreFull", spec := "preFull", unfollowed := true, recurses := true, named := ["althing/blake.beginning", "althing/blake.orders"], plainKeys := false, apart := false, laid := [("althing/blake.beginning", laid_althing_blake_beginning), ("althing/blake.orders", laid_althing_blake_orders)] }
def PreFullSaid : Prop := preFullRow.holds Tryz.pinned (OpenSpec.ofChange preFullSpec)

/-- ITS FALSE NEIGHBOUR: 'it returns false'. Refute it at one input. -/
def preFullWrong : ChangeSpec := { name := "preFull", fn := fun _ => fun
  | [d1, d2] => { results := [.lit (.bool false)], args := [d1, d2] }
  | _ => none }
def PreFullWrongFalsely : Prop := preFullRow.holds Tryz.pinned (OpenSpec.ofChange preFullWrong)

/-- 'althinglaw8.PreStops': WHATEVER THE INPUT: true; the input reads as it did. -/
def preStopsSpec : ChangeSpec := { name := "preStops", fn := fun _ => fun
  | [d1, d2] => { results := [.lit (.bool true)], args := [d1, d2] }
  | _ => none }
def preStopsRow : OpenClaim := { program := "ytcfcfijmfgnpfaagreatdoor", sum := "18d8ba758fd139acea12d8e6140de42e3f737604ceab020418f09ba4b52d9762", func := "althing/althinglaw8.PreStops", spec := "preStops", inPlace := ["internal/bytealg.Compare"], unfollowed := true, recurses := true, named := ["althing/blake.beginning", "althing/blake.orders"], plainKeys := false, apart := false, laid := [("althing/blake.beginning", laid_althing_blake_beginning), ("althing/blake.orders", laid_althing_blake_orders)] }
def PreStopsSaid : Prop := preStopsRow.holds Tryz.pinned (OpenSpec.ofChange preStopsSpec)

/-- ITS FALSE NEIGHBOUR: 'it returns false'. Refute it at one input. -/
def preStopsWrong : ChangeSpec := { name := "preStops", fn := fun _ => fun
  | [d1, d2] => { results := [.lit (.bool false)], args := [d1, d2] }
  | _ => none }
def PreStopsWrongFalsely : Prop := preStopsRow.holds Tryz.pinned (OpenSpec.ofChange preStopsWrong)

/-- 'althinglaw8.PreOfNothing': WHATEVER THE INPUT: true; the input reads as it did. -/
def preOfNothingSpec : ChangeSpec := { name := "preOfNothing", fn := fun _ => fun
  | [d1, d2] => { results := [.lit (.bool true)], args := [d1, d2] }
  | _ => none }
def preOfNothingRow : OpenClaim := { program := "ytcfcfijmfgnpfaagreatdoor", sum := "18d8ba758fd139acea12d8e6140de42e3f737604ceab020418f09ba4b52d9762", func := "althing/althinglaw8.PreOfNothing", spec := "preOfNothing", inPlace := ["internal/bytealg.Compare"], unfollowed := true, recurses := true, named := ["althing/blake.beginning", "althing/blake.orders"], loops := true, plainKeys := false, apart := false, laid := [("althing/blake.beginning", laid_althing_blake_beginning), ("althing/blake.orders", laid_althing_blake_orders)] }
def PreOfNothingSaid : Prop := preOfNothingRow.holds Tryz.pinned (OpenSpec.ofChange preOfNothingSpec)

/-- ITS FALSE NEIGHBOUR: 'it returns false'. Refute it at one input. -/
def preOfNothingWrong : ChangeSpec := { name := "preOfNothing", fn := fun _ => fun
  | [d1, d2] => { results := [.lit (.bool false)], args := [d1, d2] }
  | _ => none }
def PreOfNothingWrongFalsely : Prop := preOfNothingRow.holds Tryz.pinned (OpenSpec.ofChange preOfNothingWrong)

/-- 'althinglaw8.PreOrder': WHATEVER THE INPUT: true; the input reads as it did. -/
def preOrderSpec : ChangeSpec := { name := "preOrder", fn := fun _ => fun
  | [d] => { results := [.lit (.bool true)], args := [d] }
  | _ => none }
def preOrderRow : OpenClaim := { program := "ytcfcfijmfgnpfaagreatdoor", sum := "18d8ba758fd139acea12d8e6140de42e3f737604ceab020418f09ba4b52d9762", func := "althing/althinglaw8.PreOrder", spec := "preOrder", inPlace := ["internal/bytealg.Compare"], unfollowed := true, recurses := true, named := ["althing/blake.beginning", "althing/blake.orders"], loops := true, plainKeys := false, apart := false, laid := [("althing/blake.beginning", laid_althing_blake_beginning), ("althing/blake.orders", laid_althing_blake_orders)] }
def PreOrderSaid : Prop := preOrderRow.holds Tryz.pinned (OpenSpec.ofChange preOrderSpec)

/-- ITS FALSE NEIGHBOUR: 'it returns false'. Refute it at one input. -/
def preOrderWrong : ChangeSpec := { name := "preOrder", fn := fun _ => fun
  | [d] => { results := [.lit (.bool false)], args := [d] }
  | _ => none }
def PreOrderWrongFalsely : Prop := preOrderRow.holds Tryz.pinned (OpenSpec.ofChange preOrderWrong)

/- THE SECOND FORM. 'bulk': how many values and letters a reading holds, each counted each time it is reached (what is shared counts as often as it is met; a slice's spare places count too). A statement '..UptoSaid' is the law's where the arguments, and the package variables that the reading takes, are together of bulk at most 1048576: NARROWER than '..Said'. Prove '..Said' where nothing that the law and all that it calls make is longer than what came in: it says more and counts as full. Else prove '..UptoSaid'. A law counts once. -/
mutual
def uptoBulk {H : Type} : DataW H → Nat
  | .lit (.string bytes) => bytes.length + 1
  | .lit _ => 1
  | .nil => 1
  | .ptr d => uptoBulk d + 1
  | .slice elems spare => uptoBulkAll elems + uptoBulkAll spare + 1
  | .agg parts => uptoBulkAll parts + 1
  | .iface _ d => uptoBulk d + 1
  | .map entries => uptoBulkEntries entries + 1
  | .held _ => 1
def uptoBulkAll {H : Type} : List (DataW H) → Nat
  | [] => 0
  | d :: r => uptoBulk d + uptoBulkAll r
def uptoBulkEntries {H : Type} : List (Lit × DataW H) → Nat
  | [] => 0
  | x :: r => uptoBulkEntry x + uptoBulkEntries r
def uptoBulkEntry {H : Type} : Lit × DataW H → Nat
  | (.string bytes, d) => bytes.length + uptoBulk d + 1
  | (_, d) => uptoBulk d + 1
 end
def uptoSmall : (H : Type) → List (DataW H) → Bool := fun _ ds => decide (uptoBulkAll ds ≤ 1048576)
def OpenSpec.upto (s : _root_.Go.ChangeSpec) : _root_.Go.OpenSpec := { _root_.Go.OpenSpec.ofChange s with cond := some uptoSmall }

/-- 'althinglaw8.PrePlays', WHERE WHAT IT READS IS OF BULK AT MOST 1048576: true; the input reads as it did. -/
def prePlaysUptoRow : OpenClaim := { program := "ytcfcfijmfgnpfaagreatdoor", sum := "18d8ba758fd139acea12d8e6140de42e3f737604ceab020418f09ba4b52d9762", func := "althing/althinglaw8.PrePlays", spec := "prePlays", inPlace := ["internal/bytealg.Compare"], unfollowed := true, recurses := true, named := ["althing/blake.beginning", "althing/blake.orders"], loops := true, plainKeys := false, apart := false, laid := [("althing/blake.beginning", laid_althing_blake_beginning), ("althing/blake.orders", laid_althing_blake_orders)], narrowed := true }
def PrePlaysUptoSaid : Prop := prePlaysUptoRow.holds Tryz.pinned (OpenSpec.upto prePlaysSpec)

/-- 'althinglaw8.PreDeposits', WHERE WHAT IT READS IS OF BULK AT MOST 1048576: true; the input reads as it did. -/
def preDepositsUptoRow : OpenClaim := { program := "ytcfcfijmfgnpfaagreatdoor", sum := "18d8ba758fd139acea12d8e6140de42e3f737604ceab020418f09ba4b52d9762", func := "althing/althinglaw8.PreDeposits", spec := "preDeposits", inPlace := ["internal/bytealg.Compare"], unfollowed := true, recurses := true, named := ["althing/blake.beginning", "althing/blake.orders"], loops := true, plainKeys := false, apart := false, laid := [("althing/blake.beginning", laid_althing_blake_beginning), ("althing/blake.orders", laid_althing_blake_orders)], narrowed := true }
def PreDepositsUptoSaid : Prop := preDepositsUptoRow.holds Tryz.pinned (OpenSpec.upto preDepositsSpec)

/-- 'althinglaw8.PreWants', WHERE WHAT IT READS IS OF BULK AT MOST 1048576: true; the input reads as it did. -/
def preWantsUptoRow : OpenClaim := { program := "ytcfcfijmfgnpfaagreatdoor", sum := "18d8ba758fd139acea12d8e6140de42e3f737604ceab020418f09ba4b52d9762", func := "althing/althinglaw8.PreWants", spec := "preWants", unfollowed := true, recurses := true, named := ["althing/blake.beginning", "althing/blake.orders"], loops := true, plainKeys := false, apart := false, laid := [("althing/blake.beginning", laid_althing_blake_beginning), ("althing/blake.orders", laid_althing_blake_orders)], narrowed := true }
def PreWantsUptoSaid : Prop := preWantsUptoRow.holds Tryz.pinned (OpenSpec.upto preWantsSpec)

/-- 'althinglaw8.PreFull', WHERE WHAT IT READS IS OF BULK AT MOST 1048576: true; the input reads as it did. -/
def preFullUptoRow : OpenClaim := { program := "ytcfcfijmfgnpfaagreatdoor", sum := "18d8ba758fd139acea12d8e6140de42e3f737604ceab020418f09ba4b52d9762", func := "althing/althinglaw8.PreFull", spec := "preFull", unfollowed := true, recurses := true, named := ["althing/blake.beginning", "althing/blake.orders"], plainKeys := false, apart := false, laid := [("althing/blake.beginning", laid_althing_blake_beginning), ("althing/blake.orders", laid_althing_blake_orders)], narrowed := true }
def PreFullUptoSaid : Prop := preFullUptoRow.holds Tryz.pinned (OpenSpec.upto preFullSpec)

/-- 'althinglaw8.PreStops', WHERE WHAT IT READS IS OF BULK AT MOST 1048576: true; the input reads as it did. -/
def preStopsUptoRow : OpenClaim := { program := "ytcfcfijmfgnpfaagreatdoor", sum := "18d8ba758fd139acea12d8e6140de42e3f737604ceab020418f09ba4b52d9762", func := "althing/althinglaw8.PreStops", spec := "preStops", inPlace := ["internal/bytealg.Compare"], unfollowed := true, recurses := true, named := ["althing/blake.beginning", "althing/blake.orders"], plainKeys := false, apart := false, laid := [("althing/blake.beginning", laid_althing_blake_beginning), ("althing/blake.orders", laid_althing_blake_orders)], narrowed := true }
def PreStopsUptoSaid : Prop := preStopsUptoRow.holds Tryz.pinned (OpenSpec.upto preStopsSpec)

/-- 'althinglaw8.PreOfNothing', WHERE WHAT IT READS IS OF BULK AT MOST 1048576: true; the input reads as it did. -/
def preOfNothingUptoRow : OpenClaim := { program := "ytcfcfijmfgnpfaagreatdoor", sum := "18d8ba758fd139acea12d8e6140de42e3f737604ceab020418f09ba4b52d9762", func := "althing/althinglaw8.PreOfNothing", spec := "preOfNothing", inPlace := ["internal/bytealg.Compare"], unfollowed := true, recurses := true, named := ["althing/blake.beginning", "althing/blake.orders"], loops := true, plainKeys := false, apart := false, laid := [("althing/blake.beginning", laid_althing_blake_beginning), ("althing/blake.orders", laid_althing_blake_orders)], narrowed := true }
def PreOfNothingUptoSaid : Prop := preOfNothingUptoRow.holds Tryz.pinned (OpenSpec.upto preOfNothingSpec)

/-- 'althinglaw8.PreOrder', WHERE WHAT IT READS IS OF BULK AT MOST 1048576: true; the input reads as it did. -/
def preOrderUptoRow : OpenClaim := { program := "ytcfcfijmfgnpfaagreatdoor", sum := "18d8ba758fd139acea12d8e6140de42e3f737604ceab020418f09ba4b52d9762", func := "althing/althinglaw8.PreOrder", spec := "preOrder", inPlace := ["internal/bytealg.Compare"], unfollowed := true, recurses := true, named := ["althing/blake.beginning", "althing/blake.orders"], loops := true, plainKeys := false, apart := false, laid := [("althing/blake.beginning", laid_althing_blake_beginning), ("althing/blake.orders", laid_althing_blake_orders)], narrowed := true }
def PreOrderUptoSaid : Prop := preOrderUptoRow.holds Tryz.pinned (OpenSpec.upto preOrderSpec)

end Rows
end Go.Proofs.YtcfcfijmfgnpfaaGreatDoor
