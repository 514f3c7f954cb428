/-
  NARROWER THAN 'FOR EVERY INPUT', by the rows' own cells (each row's printed sentence says how): BlakeTells: laid · BlakeRows: laid · BlakeBlocks: laid · BlakeKeys: laid · BlakeHex: laid · BlakeOwn: laid.
  DERIVED. THE GIVEN ROWS OF THIS SEAT. 6 by the template 'for every input the law returns true; each argument reads behind the call as it read before'; 0 by the template 'total and deterministic' (their statements: YtjpmldjafkbncaaDoorTotals.lean).
  GIVEN WITH THE SEED: the statements are not yours to turn. If you find one false, say at which input.
  Laid BY PROGRAM, IN A SANDBOX (cutbox-rows.mjs): the forced cells as the released guide's own fill.sh prints them over the translation 218765b75d696759… (all of the seat's roots in one cut). By AI agents, Wed Nov 11 2026. No macro, syntax, notation, axiom, sorry.
-/
import Derived.Test.YtjpmldjafkbncaaDoorChecked
import GoSem.Claim
import GoSem.ClaimJoined
import GoSem.ClaimMapViews
import Derived.JoinedTies
import Derived.KernelRfl
namespace Go.Proofs.YtjpmldjafkbncaaDoor
/- THE CELL 'sum', in the pinned program and in every row, IS THE sha256 OF THE DUMP (.gsa) THAT YtjpmldjafkbncaaDoorProg.lean LOADS. Nothing in Lean hashes anything: it is a label: what it is worth is what the hold of that sum in a sandbox is worth. -/
noncomputable def Tryd.pinned : Pinned := { name := "ytjpmldjafkbncaadoor", sum := "218765b75d696759f53d789c275f2b3e96681af1d78fd4136a38e512d9cd04cc", checked := Tryd.checked }
namespace Rows
def none {H : Type} : Left H := { results := [], args := [] }

/- WHAT THE LISTED PACKAGE-LEVEL VARIABLES READ AS WHEN THE CALL BEGINS. Each datum BY PROGRAM (the guide's laid-datum.mjs) off the statement by which the dump's own 'gosem.cut.vars' lays the variable. In a bare row this is a premise. The card (YtjpmldjafkbncaaDoorCards.lean) ties it to the program's text. -/
def laid_althing_blake_beginning {H : Type} : DataW H := .agg [.lit (.int .u64 7640891576956012808), .lit (.int .u64 13503953896175478587), .lit (.int .u64 4354685564936845355), .lit (.int .u64 11912009170470909681), .lit (.int .u64 5840696475078001361), .lit (.int .u64 11170449401992604703), .lit (.int .u64 2270897969802886507), .lit (.int .u64 6620516959819538809)]
def laid_althing_blake_orders {H : Type} : DataW H := .agg [.agg [.lit (.int .u8 0), .lit (.int .u8 1), .lit (.int .u8 2), .lit (.int .u8 3), .lit (.int .u8 4), .lit (.int .u8 5), .lit (.int .u8 6), .lit (.int .u8 7), .lit (.int .u8 8), .lit (.int .u8 9), .lit (.int .u8 10), .lit (.int .u8 11), .lit (.int .u8 12), .lit (.int .u8 13), .lit (.int .u8 14), .lit (.int .u8 15)], .agg [.lit (.int .u8 14), .lit (.int .u8 10), .lit (.int .u8 4), .lit (.int .u8 8), .lit (.int .u8 9), .lit (.int .u8 15), .lit (.int .u8 13), .lit (.int .u8 6), .lit (.int .u8 1), .lit (.int .u8 12), .lit (.int .u8 0), .lit (.int .u8 2), .lit (.int .u8 11), .lit (.int .u8 7), .lit (.int .u8 5), .lit (.int .u8 3)], .agg [.lit (.int .u8 11), .lit (.int .u8 8), .lit (.int .u8 12), .lit (.int .u8 0), .lit (.int .u8 5), .lit (.int .u8 2), .lit (.int .u8 15), .lit (.int .u8 13), .lit (.int .u8 10), .lit (.int .u8 14), .lit (.int .u8 3), .lit (.int .u8 6), .lit (.int .u8 7), .lit (.int .u8 1), .lit (.int .u8 9), .lit (.int .u8 4)], .agg [.lit (.int .u8 7), .lit (.int .u8 9), .lit (.int .u8 3), .lit (.int .u8 1), .lit (.int .u8 13), .lit (.int .u8 12), .lit (.int .u8 11), .lit (.int .u8 14), .lit (.int .u8 2), .lit (.int .u8 6), .lit (.int .u8 5), .lit (.int .u8 10), .lit (.int .u8 4), .lit (.int .u8 0), .lit (.int .u8 15), .lit (.int .u8 8)], .agg [.lit (.int .u8 9), .lit (.int .u8 0), .lit (.int .u8 5), .lit (.int .u8 7), .lit (.int .u8 2), .lit (.int .u8 4), .lit (.int .u8 10), .lit (.int .u8 15), .lit (.int .u8 14), .lit (.int .u8 1), .lit (.int .u8 11), .lit (.int .u8 12), .lit (.int .u8 6), .lit (.int .u8 8), .lit (.int .u8 3), .lit (.int .u8 13)], .agg [.lit (.int .u8 2), .lit (.int .u8 12), .lit (.int .u8 6), .lit (.int .u8 10), .lit (.int .u8 0), .lit (.int .u8 11), .lit (.int .u8 8), .lit (.int .u8 3), .lit (.int .u8 4), .lit (.int .u8 13), .lit (.int .u8 7), .lit (.int .u8 5), .lit (.int .u8 15), .lit (.int .u8 14), .lit (.int .u8 1), .lit (.int .u8 9)], .agg [.lit (.int .u8 12), .lit (.int .u8 5), .lit (.int .u8 1), .lit (.int .u8 15), .lit (.int .u8 14), .lit (.int .u8 13), .lit (.int .u8 4), .lit (.int .u8 10), .lit (.int .u8 0), .lit (.int .u8 7), .lit (.int .u8 6), .lit (.int .u8 3), .lit (.int .u8 9), .lit (.int .u8 2), .lit (.int .u8 8), .lit (.int .u8 11)], .agg [.lit (.int .u8 13), .lit (.int .u8 11), .lit (.int .u8 7), .lit (.int .u8 14), .lit (.int .u8 12), .lit (.int .u8 1), .lit (.int .u8 3), .lit (.int .u8 9), .lit (.int .u8 5), .lit (.int .u8 0), .lit (.int .u8 15), .lit (.int .u8 4), .lit (.int .u8 8), .lit (.int .u8 6), .lit (.int .u8 2), .lit (.int .u8 10)], .agg [.lit (.int .u8 6), .lit (.int .u8 15), .lit (.int .u8 14), .lit (.int .u8 9), .lit (.int .u8 11), .lit (.int .u8 3), .lit (.int .u8 0), .lit (.int .u8 8), .lit (.int .u8 12), .lit (.int .u8 2), .lit (.int .u8 13), .lit (.int .u8 7), .lit (.int .u8 1), .lit (.int .u8 4), .lit (.int .u8 10), .lit (.int .u8 5)], .agg [.lit (.int .u8 10), .lit (.int .u8 2), .lit (.int .u8 8), .lit (.int .u8 4), .lit (.int .u8 7), .lit (.int .u8 6), .lit (.int .u8 1), .lit (.int .u8 5), .lit (.int .u8 15), .lit (.int .u8 11), .lit (.int .u8 9), .lit (.int .u8 14), .lit (.int .u8 3), .lit (.int .u8 12), .lit (.int .u8 13), .lit (.int .u8 0)]]

/-- 'althinglaw2.BlakeTells': WHATEVER THE INPUT: true; the input reads as it did. -/
def blakeTellsSpec : ChangeSpec := { name := "blakeTells", fn := fun _ => fun
  | [d1, d2] => { results := [.lit (.bool true)], args := [d1, d2] }
  | _ => none }
def blakeTellsRow : OpenClaim := { program := "ytjpmldjafkbncaadoor", sum := "218765b75d696759f53d789c275f2b3e96681af1d78fd4136a38e512d9cd04cc", func := "althing/althinglaw2.BlakeTells", spec := "blakeTells", named := ["althing/blake.beginning", "althing/blake.orders"], apart := false, laid := [("althing/blake.beginning", laid_althing_blake_beginning), ("althing/blake.orders", laid_althing_blake_orders)] }
def BlakeTellsSaid : Prop := blakeTellsRow.holds Tryd.pinned (OpenSpec.ofChange blakeTellsSpec)

/-- ITS FALSE NEIGHBOUR: 'it returns false'. Refute it at one input. -/
def blakeTellsWrong : ChangeSpec := { name := "blakeTells", fn := fun _ => fun
  | [d1, d2] => { results := [.lit (.bool false)], args := [d1, d2] }
  | _ => none }
def BlakeTellsWrongFalsely : Prop := blakeTellsRow.holds Tryd.pinned (OpenSpec.ofChange blakeTellsWrong)

/-- 'althinglaw2.BlakeRows': WHATEVER THE INPUT: true; the input reads as it did. -/
def blakeRowsSpec : ChangeSpec := { name := "blakeRows", fn := fun _ => fun
  | [d1, d2] => { results := [.lit (.bool true)], args := [d1, d2] }
  | _ => none }
def blakeRowsRow : OpenClaim := { program := "ytjpmldjafkbncaadoor", sum := "218765b75d696759f53d789c275f2b3e96681af1d78fd4136a38e512d9cd04cc", func := "althing/althinglaw2.BlakeRows", spec := "blakeRows", named := ["althing/blake.beginning", "althing/blake.orders"], apart := false, laid := [("althing/blake.beginning", laid_althing_blake_beginning), ("althing/blake.orders", laid_althing_blake_orders)] }
def BlakeRowsSaid : Prop := blakeRowsRow.holds Tryd.pinned (OpenSpec.ofChange blakeRowsSpec)

/-- ITS FALSE NEIGHBOUR: 'it returns false'. Refute it at one input. -/
def blakeRowsWrong : ChangeSpec := { name := "blakeRows", fn := fun _ => fun
  | [d1, d2] => { results := [.lit (.bool false)], args := [d1, d2] }
  | _ => none }
def BlakeRowsWrongFalsely : Prop := blakeRowsRow.holds Tryd.pinned (OpenSpec.ofChange blakeRowsWrong)

/-- 'althinglaw2.BlakeBlocks': WHATEVER THE INPUT: true; the input reads as it did. -/
def blakeBlocksSpec : ChangeSpec := { name := "blakeBlocks", fn := fun _ => fun
  | [d1, d2, d3] => { results := [.lit (.bool true)], args := [d1, d2, d3] }
  | _ => none }
def blakeBlocksRow : OpenClaim := { program := "ytjpmldjafkbncaadoor", sum := "218765b75d696759f53d789c275f2b3e96681af1d78fd4136a38e512d9cd04cc", func := "althing/althinglaw2.BlakeBlocks", spec := "blakeBlocks", named := ["althing/blake.beginning", "althing/blake.orders"], apart := false, laid := [("althing/blake.beginning", laid_althing_blake_beginning), ("althing/blake.orders", laid_althing_blake_orders)] }
def BlakeBlocksSaid : Prop := blakeBlocksRow.holds Tryd.pinned (OpenSpec.ofChange blakeBlocksSpec)

/-- ITS FALSE NEIGHBOUR: 'it returns false'. Refute it at one input. -/
def blakeBlocksWrong : ChangeSpec := { name := "blakeBlocks", fn := fun _ => fun
  | [d1, d2, d3] => { results := [.lit (.bool false)], args := [d1, d2, d3] }
  | _ => none }
def BlakeBlocksWrongFalsely : Prop := blakeBlocksRow.holds Tryd.pinned (OpenSpec.ofChange blakeBlocksWrong)

/-- 'althinglaw2.BlakeKeys': WHATEVER THE INPUT: true; the input reads as it did. -/
def blakeKeysSpec : ChangeSpec := { name := "blakeKeys", fn := fun _ => fun
  | [d1, d2] => { results := [.lit (.bool true)], args := [d1, d2] }
  | _ => none }
def blakeKeysRow : OpenClaim := { program := "ytjpmldjafkbncaadoor", sum := "218765b75d696759f53d789c275f2b3e96681af1d78fd4136a38e512d9cd04cc", func := "althing/althinglaw2.BlakeKeys", spec := "blakeKeys", named := ["althing/blake.beginning", "althing/blake.orders"], apart := false, laid := [("althing/blake.beginning", laid_althing_blake_beginning), ("althing/blake.orders", laid_althing_blake_orders)] }
def BlakeKeysSaid : Prop := blakeKeysRow.holds Tryd.pinned (OpenSpec.ofChange blakeKeysSpec)

/-- ITS FALSE NEIGHBOUR: 'it returns false'. Refute it at one input. -/
def blakeKeysWrong : ChangeSpec := { name := "blakeKeys", fn := fun _ => fun
  | [d1, d2] => { results := [.lit (.bool false)], args := [d1, d2] }
  | _ => none }
def BlakeKeysWrongFalsely : Prop := blakeKeysRow.holds Tryd.pinned (OpenSpec.ofChange blakeKeysWrong)

/-- 'althinglaw2.BlakeHex': WHATEVER THE INPUT: true; the input reads as it did. -/
def blakeHexSpec : ChangeSpec := { name := "blakeHex", fn := fun _ => fun
  | [d] => { results := [.lit (.bool true)], args := [d] }
  | _ => none }
def blakeHexRow : OpenClaim := { program := "ytjpmldjafkbncaadoor", sum := "218765b75d696759f53d789c275f2b3e96681af1d78fd4136a38e512d9cd04cc", func := "althing/althinglaw2.BlakeHex", spec := "blakeHex", named := ["althing/blake.beginning", "althing/blake.orders"], apart := false, laid := [("althing/blake.beginning", laid_althing_blake_beginning), ("althing/blake.orders", laid_althing_blake_orders)] }
def BlakeHexSaid : Prop := blakeHexRow.holds Tryd.pinned (OpenSpec.ofChange blakeHexSpec)

/-- ITS FALSE NEIGHBOUR: 'it returns false'. Refute it at one input. -/
def blakeHexWrong : ChangeSpec := { name := "blakeHex", fn := fun _ => fun
  | [d] => { results := [.lit (.bool false)], args := [d] }
  | _ => none }
def BlakeHexWrongFalsely : Prop := blakeHexRow.holds Tryd.pinned (OpenSpec.ofChange blakeHexWrong)

/-- 'althinglaw2.BlakeOwn': WHATEVER THE INPUT: true; the input reads as it did. -/
def blakeOwnSpec : ChangeSpec := { name := "blakeOwn", fn := fun _ => fun
  | [d1, d2] => { results := [.lit (.bool true)], args := [d1, d2] }
  | _ => none }
def blakeOwnRow : OpenClaim := { program := "ytjpmldjafkbncaadoor", sum := "218765b75d696759f53d789c275f2b3e96681af1d78fd4136a38e512d9cd04cc", func := "althing/althinglaw2.BlakeOwn", spec := "blakeOwn", named := ["althing/blake.beginning", "althing/blake.orders"], apart := false, laid := [("althing/blake.beginning", laid_althing_blake_beginning), ("althing/blake.orders", laid_althing_blake_orders)] }
def BlakeOwnSaid : Prop := blakeOwnRow.holds Tryd.pinned (OpenSpec.ofChange blakeOwnSpec)

/-- ITS FALSE NEIGHBOUR: 'it returns false'. Refute it at one input. -/
def blakeOwnWrong : ChangeSpec := { name := "blakeOwn", fn := fun _ => fun
  | [d1, d2] => { results := [.lit (.bool false)], args := [d1, d2] }
  | _ => none }
def BlakeOwnWrongFalsely : Prop := blakeOwnRow.holds Tryd.pinned (OpenSpec.ofChange blakeOwnWrong)

/- THE SECOND FORM. 'bulk': how many values and letters a reading holds, each counted each time it is reached (what is shared counts as often as it is met; a slice's spare places count too). A statement '..UptoSaid' is the law's where the arguments, and the package variables that the reading takes, are together of bulk at most 1048576: NARROWER than '..Said'. Prove '..Said' where nothing that the law and all that it calls make is longer than what came in: it says more and counts as full. Else prove '..UptoSaid'. A law counts once. -/
mutual
def uptoBulk {H : Type} : DataW H → Nat
  | .lit (.string bytes) => bytes.length + 1
  | .lit _ => 1
  | .nil => 1
  | .ptr d => uptoBulk d + 1
  | .slice elems spare => uptoBulkAll elems + uptoBulkAll spare + 1
  | .agg parts => uptoBulkAll parts + 1
  | .iface _ d => uptoBulk d + 1
  | .map entries => uptoBulkEntries entries + 1
  | .held _ => 1
def uptoBulkAll {H : Type} : List (DataW H) → Nat
  | [] => 0
  | d :: r => uptoBulk d + uptoBulkAll r
def uptoBulkEntries {H : Type} : List (Lit × DataW H) → Nat
  | [] => 0
  | x :: r => uptoBulkEntry x + uptoBulkEntries r
def uptoBulkEntry {H : Type} : Lit × DataW H → Nat
  | (.string bytes, d) => bytes.length + uptoBulk d + 1
  | (_, d) => uptoBulk d + 1
 end
def uptoSmall : (H : Type) → List (DataW H) → Bool := fun _ ds => decide (uptoBulkAll ds ≤ 1048576)
def OpenSpec.upto (s : _root_.Go.ChangeSpec) : _root_.Go.OpenSpec := { _root_.Go.OpenSpec.ofChange s with cond := some uptoSmall }

/-- 'althinglaw2.BlakeTells', WHERE WHAT IT READS IS OF BULK AT MOST 1048576: true; the input reads as it did. -/
def blakeTellsUptoRow : OpenClaim := { program := "ytjpmldjafkbncaadoor", sum := "218765b75d696759f53d789c275f2b3e96681af1d78fd4136a38e512d9cd04cc", func := "althing/althinglaw2.BlakeTells", spec := "blakeTells", named := ["althing/blake.beginning", "althing/blake.orders"], apart := false, laid := [("althing/blake.beginning", laid_althing_blake_beginning), ("althing/blake.orders", laid_althing_blake_orders)], narrowed := true }
def BlakeTellsUptoSaid : Prop := blakeTellsUptoRow.holds Tryd.pinned (OpenSpec.upto blakeTellsSpec)

/-- 'althinglaw2.BlakeRows', WHERE WHAT IT READS IS OF BULK AT MOST 1048576: true; the input reads as it did. -/
def blakeRowsUptoRow : OpenClaim := { program := "ytjpmldjafkbncaadoor", sum := "218765b75d696759f53d789c275f2b3e96681af1d78fd4136a38e512d9cd04cc", func := "althing/althinglaw2.BlakeRows", spec := "blakeRows", named := ["althing/blake.beginning", "althing/blake.orders"], apart := false, laid := [("althing/blake.beginning", laid_althing_blake_beginning), ("althing/blake.orders", laid_althing_blake_orders)], narrowed := true }
def BlakeRowsUptoSaid : Prop := blakeRowsUptoRow.holds Tryd.pinned (OpenSpec.upto blakeRowsSpec)

/-- 'althinglaw2.BlakeBlocks', WHERE WHAT IT READS IS OF BULK AT MOST 1048576: true; the input reads as it did. -/
def blakeBlocksUptoRow : OpenClaim := { program := "ytjpmldjafkbncaadoor", sum := "218765b75d696759f53d789c275f2b3e96681af1d78fd4136a38e512d9cd04cc", func := "althing/althinglaw2.BlakeBlocks", spec := "blakeBlocks", named := ["althing/blake.beginning", "althing/blake.orders"], apart := false, laid := [("althing/blake.beginning", laid_althing_blake_beginning), ("althing/blake.orders", laid_althing_blake_orders)], narrowed := true }
def BlakeBlocksUptoSaid : Prop := blakeBlocksUptoRow.holds Tryd.pinned (OpenSpec.upto blakeBlocksSpec)

/-- 'althinglaw2.BlakeKeys', WHERE WHAT IT READS IS OF BULK AT MOST 1048576: true; the input reads as it did. -/
def blakeKeysUptoRow : OpenClaim := { program := "ytjpmldjafkbncaadoor", sum := "218765b75d696759f53d789c275f2b3e96681af1d78fd4136a38e512d9cd04cc", func := "althing/althinglaw2.BlakeKeys", spec := "blakeKeys", named := ["althing/blake.beginning", "althing/blake.orders"], apart := false, laid := [("althing/blake.beginning", laid_althing_blake_beginning), ("althing/blake.orders", laid_althing_blake_orders)], narrowed := true }
def BlakeKeysUptoSaid : Prop := blakeKeysUptoRow.holds Tryd.pinned (OpenSpec.upto blakeKeysSpec)

/-- 'althinglaw2.BlakeHex', WHERE WHAT IT READS IS OF BULK AT MOST 1048576: true; the input reads as it did. -/
def blakeHexUptoRow : OpenClaim := { program := "ytjpmldjafkbncaadoor", sum := "218765b75d696759f53d789c275f2b3e96681af1d78fd4136a38e512d9cd04cc", func := "althing/althinglaw2.BlakeHex", spec := "blakeHex", named := ["althing/blake.beginning", "althing/blake.orders"], apart := false, laid := [("althing/blake.beginning", laid_althing_blake_beginning), ("althing/blake.orders", laid_althing_blake_orders)], narrowed := true }
def BlakeHexUptoSaid : Prop := blakeHexUptoRow.holds Tryd.pinned (OpenSpec.upto blakeHexSpec)

/-- 'althinglaw2.BlakeOwn', WHERE WHAT IT READS IS OF BULK AT MOST 1048576: true; the input reads as it did. -/
def blakeOwnUptoRow : OpenClaim := { program := "ytjpmldjafkbncaadoor", sum := "218765b75d696759f53d789c275f2b3e96681af1d78fd4136a38e512d9cd04cc", func := "althing/althinglaw2.BlakeOwn", spec := "blakeOwn", named := ["althing/blake.beginning", "althing/blake.orders"], apart := false, laid := [("althing/blake.beginning", laid_althing_blake_beginning), ("althing/blake.orders", laid_althing_blake_orders)], narrowed := true }
def BlakeOwnUptoSaid : Prop := blakeOwnUptoRow.holds Tryd.pinned (OpenSpec.upto blakeOwnSpec)

end Rows
end Go.Proofs.YtjpmldjafkbncaaDoor
