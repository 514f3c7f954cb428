/-
  DERIVED. GIVEN WITH THE SEED: THE CARDS: each row of YteioacpfphigjaaGreatDoorRows.lean that lists a variable, with what it lists TIED to the program's text (the seventh form; the later family's looks); each row that meets fmt, with fmt's text TOLD by the authors' own Lean function (tested against real Go, not proved from fmt's source: count such statements apart). THE CARD IS WHAT COUNTS. Prove the row's statement (the work); the ties are given (YteioacpfphigjaaGreatDoorTie.lean); close each card by the builder's one call (the guide's Derived/Test/ToyasCard.lean, 'card_holds'). Laid BY PROGRAM, IN A SANDBOX (cutbox-door.mjs). By AI agents, Wed Nov 11 2026. No macro, syntax, notation, axiom, sorry.
-/
import Derived.Test.YteioacpfphigjaaGreatDoorRows
import GoSem.ClaimSeven
namespace Go.Proofs.YteioacpfphigjaaGreatDoor
namespace Rows

/-- THE TIED CARD OF 'althinglaw14.ChainOfNothing'. -/
def chainOfNothingCard : Claim7 := { stood := { row := chainOfNothingRow, standIns := [], harness := (true, "1bce9cafb420c639e34ccf89b18b4261b92f074d49fb89dfb2d6c5177656e54b"), looks := false }, kinds := [], alts := [], laidByText := true, laidKinds := [.data, .data], laidTests := true, laidLooks := .later }
def ChainOfNothingCardSaid : Prop := Claim7.holds Tryz.pinned (.plain (OpenSpec.ofChange chainOfNothingSpec)) chainOfNothingCard

/-- THE TIED CARD OF 'althinglaw15.ScriptRows'. -/
def scriptRowsCard : Claim7 := { stood := { row := scriptRowsRow, standIns := [], harness := (true, "1bce9cafb420c639e34ccf89b18b4261b92f074d49fb89dfb2d6c5177656e54b"), looks := false }, kinds := [], alts := [], laidByText := true, laidKinds := [.data, .data], laidTests := true, laidLooks := .later }
def ScriptRowsCardSaid : Prop := Claim7.holds Tryz.pinned (.plain (OpenSpec.ofChange scriptRowsSpec)) scriptRowsCard

/-- THE TIED CARD OF 'althinglaw15.ScriptMakes'. -/
def scriptMakesCard : Claim7 := { stood := { row := scriptMakesRow, standIns := [], harness := (true, "1bce9cafb420c639e34ccf89b18b4261b92f074d49fb89dfb2d6c5177656e54b"), looks := false }, kinds := [], alts := [], laidByText := true, laidKinds := [.data, .data], laidTests := true, laidLooks := .later }
def ScriptMakesCardSaid : Prop := Claim7.holds Tryz.pinned (.plain (OpenSpec.ofChange scriptMakesSpec)) scriptMakesCard

/-- THE TIED CARD OF 'althinglaw15.ScriptStops'. -/
def scriptStopsCard : Claim7 := { stood := { row := scriptStopsRow, standIns := [], harness := (true, "1bce9cafb420c639e34ccf89b18b4261b92f074d49fb89dfb2d6c5177656e54b"), looks := false }, kinds := [], alts := [], laidByText := true, laidKinds := [.data, .data], laidTests := true, laidLooks := .later }
def ScriptStopsCardSaid : Prop := Claim7.holds Tryz.pinned (.plain (OpenSpec.ofChange scriptStopsSpec)) scriptStopsCard

/-- THE TIED CARD OF 'althinglaw15.ScriptBlocks'. -/
def scriptBlocksCard : Claim7 := { stood := { row := scriptBlocksRow, standIns := [], harness := (true, "1bce9cafb420c639e34ccf89b18b4261b92f074d49fb89dfb2d6c5177656e54b"), looks := false }, kinds := [], alts := [], laidByText := true, laidKinds := [.data, .data], laidTests := true, laidLooks := .later }
def ScriptBlocksCardSaid : Prop := Claim7.holds Tryz.pinned (.plain (OpenSpec.ofChange scriptBlocksSpec)) scriptBlocksCard

/-- THE SECOND FORM's CARD OF 'althinglaw14.ChainOfNothing'. -/
def chainOfNothingUptoCard : Claim7 := { stood := { row := chainOfNothingUptoRow, standIns := [], harness := (true, "1bce9cafb420c639e34ccf89b18b4261b92f074d49fb89dfb2d6c5177656e54b"), looks := false }, kinds := [], alts := [], laidByText := true, laidKinds := [.data, .data], laidTests := true, laidLooks := .later }
def ChainOfNothingUptoCardSaid : Prop := Claim7.holds Tryz.pinned (.plain (OpenSpec.upto chainOfNothingSpec)) chainOfNothingUptoCard

/-- THE SECOND FORM's CARD OF 'althinglaw15.ScriptRows'. -/
def scriptRowsUptoCard : Claim7 := { stood := { row := scriptRowsUptoRow, standIns := [], harness := (true, "1bce9cafb420c639e34ccf89b18b4261b92f074d49fb89dfb2d6c5177656e54b"), looks := false }, kinds := [], alts := [], laidByText := true, laidKinds := [.data, .data], laidTests := true, laidLooks := .later }
def ScriptRowsUptoCardSaid : Prop := Claim7.holds Tryz.pinned (.plain (OpenSpec.upto scriptRowsSpec)) scriptRowsUptoCard

/-- THE SECOND FORM's CARD OF 'althinglaw15.ScriptMakes'. -/
def scriptMakesUptoCard : Claim7 := { stood := { row := scriptMakesUptoRow, standIns := [], harness := (true, "1bce9cafb420c639e34ccf89b18b4261b92f074d49fb89dfb2d6c5177656e54b"), looks := false }, kinds := [], alts := [], laidByText := true, laidKinds := [.data, .data], laidTests := true, laidLooks := .later }
def ScriptMakesUptoCardSaid : Prop := Claim7.holds Tryz.pinned (.plain (OpenSpec.upto scriptMakesSpec)) scriptMakesUptoCard

/-- THE SECOND FORM's CARD OF 'althinglaw15.ScriptStops'. -/
def scriptStopsUptoCard : Claim7 := { stood := { row := scriptStopsUptoRow, standIns := [], harness := (true, "1bce9cafb420c639e34ccf89b18b4261b92f074d49fb89dfb2d6c5177656e54b"), looks := false }, kinds := [], alts := [], laidByText := true, laidKinds := [.data, .data], laidTests := true, laidLooks := .later }
def ScriptStopsUptoCardSaid : Prop := Claim7.holds Tryz.pinned (.plain (OpenSpec.upto scriptStopsSpec)) scriptStopsUptoCard

/-- THE SECOND FORM's CARD OF 'althinglaw15.ScriptBlocks'. -/
def scriptBlocksUptoCard : Claim7 := { stood := { row := scriptBlocksUptoRow, standIns := [], harness := (true, "1bce9cafb420c639e34ccf89b18b4261b92f074d49fb89dfb2d6c5177656e54b"), looks := false }, kinds := [], alts := [], laidByText := true, laidKinds := [.data, .data], laidTests := true, laidLooks := .later }
def ScriptBlocksUptoCardSaid : Prop := Claim7.holds Tryz.pinned (.plain (OpenSpec.upto scriptBlocksSpec)) scriptBlocksUptoCard
end Rows
end Go.Proofs.YteioacpfphigjaaGreatDoor
