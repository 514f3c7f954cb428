/-
  DERIVED. GIVEN WITH THE SEED: THE CARDS: each row of YtcfcfijmfgnpfaaGreatDoorRows.lean that lists a variable, with what it lists TIED to the program's text (the seventh form; the later family's looks); each row that meets fmt, with fmt's text TOLD by the authors' own Lean function (tested against real Go, not proved from fmt's source: count such statements apart). THE CARD IS WHAT COUNTS. Prove the row's statement (the work); the ties are given (YtcfcfijmfgnpfaaGreatDoorTie.lean); close each card by the builder's one call (the guide's Derived/Test/ToyasCard.lean, 'card_holds'). Laid BY PROGRAM, IN A SANDBOX (cutbox-door.mjs). By AI agents, Wed Nov 11 2026. No macro, syntax, notation, axiom, sorry.
-/
import Derived.Test.YtcfcfijmfgnpfaaGreatDoorRows
import GoSem.ClaimSeven
namespace Go.Proofs.YtcfcfijmfgnpfaaGreatDoor
namespace Rows

/-- THE TIED CARD OF 'althinglaw8.PrePlays'. -/
def prePlaysCard : Claim7 := { stood := { row := prePlaysRow, standIns := [], harness := (true, "fb19524d4fa8e46da2350e7bd050e2dd30011d65fe2f0f76c9d93453485d1d83"), looks := false }, kinds := [], alts := [], laidByText := true, laidKinds := [.data, .data], laidTests := true, laidLooks := .later }
def PrePlaysCardSaid : Prop := Claim7.holds Tryz.pinned (.plain (OpenSpec.ofChange prePlaysSpec)) prePlaysCard

/-- THE TIED CARD OF 'althinglaw8.PreDeposits'. -/
def preDepositsCard : Claim7 := { stood := { row := preDepositsRow, standIns := [], harness := (true, "fb19524d4fa8e46da2350e7bd050e2dd30011d65fe2f0f76c9d93453485d1d83"), looks := false }, kinds := [], alts := [], laidByText := true, laidKinds := [.data, .data], laidTests := true, laidLooks := .later }
def PreDepositsCardSaid : Prop := Claim7.holds Tryz.pinned (.plain (OpenSpec.ofChange preDepositsSpec)) preDepositsCard

/-- THE TIED CARD OF 'althinglaw8.PreWants'. -/
def preWantsCard : Claim7 := { stood := { row := preWantsRow, standIns := [], harness := (true, "fb19524d4fa8e46da2350e7bd050e2dd30011d65fe2f0f76c9d93453485d1d83"), looks := false }, kinds := [], alts := [], laidByText := true, laidKinds := [.data, .data], laidTests := true, laidLooks := .later }
def PreWantsCardSaid : Prop := Claim7.holds Tryz.pinned (.plain (OpenSpec.ofChange preWantsSpec)) preWantsCard

/-- THE TIED CARD OF 'althinglaw8.PreFull'. -/
def preFullCard : Claim7 := { stood := { row := preFullRow, standIns := [], harness := (true, "fb19524d4fa8e46da2350e7bd050e2dd30011d65fe2f0f76c9d93453485d1d83"), looks := false }, kinds := [], alts := [], laidByText := true, laidKinds := [.data, .data], laidTests := true, laidLooks := .later }
def PreFullCardSaid : Prop := Claim7.holds Tryz.pinned (.plain (OpenSpec.ofChange preFullSpec)) preFullCard

/-- THE TIED CARD OF 'althinglaw8.PreStops'. -/
def preStopsCard : Claim7 := { stood := { row := preStopsRow, standIns := [], harness := (true, "fb19524d4fa8e46da2350e7bd050e2dd30011d65fe2f0f76c9d93453485d1d83"), looks := false }, kinds := [], alts := [], laidByText := true, laidKinds := [.data, .data], laidTests := true, laidLooks := .later }
def PreStopsCardSaid : Prop := Claim7.holds Tryz.pinned (.plain (OpenSpec.ofChange preStopsSpec)) preStopsCard

/-- THE TIED CARD OF 'althinglaw8.PreOfNothing'. -/
def preOfNothingCard : Claim7 := { stood := { row := preOfNothingRow, standIns := [], harness := (true, "fb19524d4fa8e46da2350e7bd050e2dd30011d65fe2f0f76c9d93453485d1d83"), looks := false }, kinds := [], alts := [], laidByText := true, laidKinds := [.data, .data], laidTests := true, laidLooks := .later }
def PreOfNothingCardSaid : Prop := Claim7.holds Tryz.pinned (.plain (OpenSpec.ofChange preOfNothingSpec)) preOfNothingCard

/-- THE TIED CARD OF 'althinglaw8.PreOrder'. -/
def preOrderCard : Claim7 := { stood := { row := preOrderRow, standIns := [], harness := (true, "fb19524d4fa8e46da2350e7bd050e2dd30011d65fe2f0f76c9d93453485d1d83"), looks := false }, kinds := [], alts := [], laidByText := true, laidKinds := [.data, .data], laidTests := true, laidLooks := .later }
def PreOrderCardSaid : Prop := Claim7.holds Tryz.pinned (.plain (OpenSpec.ofChange preOrderSpec)) preOrderCard

/-- THE SECOND FORM's CARD OF 'althinglaw8.PrePlays'. -/
def prePlaysUptoCard : Claim7 := { stood := { row := prePlaysUptoRow, standIns := [], harness := (true, "fb19524d4fa8e46da2350e7bd050e2dd30011d65fe2f0f76c9d93453485d1d83"), looks := false }, kinds := [], alts := [], laidByText := true, laidKinds := [.data, .data], laidTests := true, laidLooks := .later }
def PrePlaysUptoCardSaid : Prop := Claim7.holds Tryz.pinned (.plain (OpenSpec.upto prePlaysSpec)) prePlaysUptoCard

/-- THE SECOND FORM's CARD OF 'althinglaw8.PreDeposits'. -/
def preDepositsUptoCard : Claim7 := { stood := { row := preDepositsUptoRow, standIns := [], harness := (true, "fb19524d4fa8e46da2350e7bd050e2dd30011d65fe2f0f76c9d93453485d1d83"), looks := false }, kinds := [], alts := [], laidByText := true, laidKinds := [.data, .data], laidTests := true, laidLooks := .later }
def PreDepositsUptoCardSaid : Prop := Claim7.holds Tryz.pinned (.plain (OpenSpec.upto preDepositsSpec)) preDepositsUptoCard

/-- THE SECOND FORM's CARD OF 'althinglaw8.PreWants'. -/
def preWantsUptoCard : Claim7 := { stood := { row := preWantsUptoRow, standIns := [], harness := (true, "fb19524d4fa8e46da2350e7bd050e2dd30011d65fe2f0f76c9d93453485d1d83"), looks := false }, kinds := [], alts := [], laidByText := true, laidKinds := [.data, .data], laidTests := true, laidLooks := .later }
def PreWantsUptoCardSaid : Prop := Claim7.holds Tryz.pinned (.plain (OpenSpec.upto preWantsSpec)) preWantsUptoCard

/-- THE SECOND FORM's CARD OF 'althinglaw8.PreFull'. -/
def preFullUptoCard : Claim7 := { stood := { row := preFullUptoRow, standIns := [], harness := (true, "fb19524d4fa8e46da2350e7bd050e2dd30011d65fe2f0f76c9d93453485d1d83"), looks := false }, kinds := [], alts := [], laidByText := true, laidKinds := [.data, .data], laidTests := true, laidLooks := .later }
def PreFullUptoCardSaid : Prop := Claim7.holds Tryz.pinned (.plain (OpenSpec.upto preFullSpec)) preFullUptoCard

/-- THE SECOND FORM's CARD OF 'althinglaw8.PreStops'. -/
def preStopsUptoCard : Claim7 := { stood := { row := preStopsUptoRow, standIns := [], harness := (true, "fb19524d4fa8e46da2350e7bd050e2dd30011d65fe2f0f76c9d93453485d1d83"), looks := false }, kinds := [], alts := [], laidByText := true, laidKinds := [.data, .data], laidTests := true, laidLooks := .later }
def PreStopsUptoCardSaid : Prop := Claim7.holds Tryz.pinned (.plain (OpenSpec.upto preStopsSpec)) preStopsUptoCard

/-- THE SECOND FORM's CARD OF 'althinglaw8.PreOfNothing'. -/
def preOfNothingUptoCard : Claim7 := { stood := { row := preOfNothingUptoRow, standIns := [], harness := (true, "fb19524d4fa8e46da2350e7bd050e2dd30011d65fe2f0f76c9d93453485d1d83"), looks := false }, kinds := [], alts := [], laidByText := true, laidKinds := [.data, .data], laidTests := true, laidLooks := .later }
def PreOfNothingUptoCardSaid : Prop := Claim7.holds Tryz.pinned (.plain (OpenSpec.upto preOfNothingSpec)) preOfNothingUptoCard

/-- THE SECOND FORM's CARD OF 'althinglaw8.PreOrder'. -/
def preOrderUptoCard : Claim7 := { stood := { row := preOrderUptoRow, standIns := [], harness := (true, "fb19524d4fa8e46da2350e7bd050e2dd30011d65fe2f0f76c9d93453485d1d83"), looks := false }, kinds := [], alts := [], laidByText := true, laidKinds := [.data, .data], laidTests := true, laidLooks := .later }
def PreOrderUptoCardSaid : Prop := Claim7.holds Tryz.pinned (.plain (OpenSpec.upto preOrderSpec)) preOrderUptoCard
end Rows
end Go.Proofs.YtcfcfijmfgnpfaaGreatDoor
