/-
  DERIVED. GIVEN WITH THE SEED: THE CARDS: each row of YtbndegkgpoemnaaDoorRows.lean that lists a variable, with what it lists TIED to the program's text (the seventh form; the later family's looks); each row that meets fmt, with fmt's text TOLD by the authors' own Lean function (tested against real Go, not proved from fmt's source: count such statements apart). THE CARD IS WHAT COUNTS. Prove the row's statement (the work); the ties are given (YtbndegkgpoemnaaDoorTie.lean); close each card by the builder's one call (the guide's Derived/Test/ToyasCard.lean, 'card_holds'). Laid BY PROGRAM, IN A SANDBOX (cutbox-door.mjs). By AI agents, Wed Nov 11 2026. No macro, syntax, notation, axiom, sorry.
-/
import Derived.Test.YtbndegkgpoemnaaDoorRows
import GoSem.ClaimSeven
namespace Go.Proofs.YtbndegkgpoemnaaDoor
namespace Rows

/-- THE TIED CARD OF 'althinglaw7.CodeCalls'. -/
def codeCallsCard : Claim7 := { stood := { row := codeCallsRow, standIns := [], harness := (true, "7f356b7bf4ef5e59ef4336668094b80ed5d4e3fe5d0f6602091db49129d78656"), looks := false }, kinds := [], alts := [], laidByText := true, laidKinds := [.data, .data], laidTests := true, laidLooks := .later }
def CodeCallsCardSaid : Prop := Claim7.holds Tryd.pinned (.plain (OpenSpec.ofChange codeCallsSpec)) codeCallsCard

/-- THE TIED CARD OF 'althinglaw7.CodeSums'. -/
def codeSumsCard : Claim7 := { stood := { row := codeSumsRow, standIns := [], harness := (true, "7f356b7bf4ef5e59ef4336668094b80ed5d4e3fe5d0f6602091db49129d78656"), looks := false }, kinds := [], alts := [], laidByText := true, laidKinds := [.data, .data], laidTests := true, laidLooks := .later }
def CodeSumsCardSaid : Prop := Claim7.holds Tryd.pinned (.plain (OpenSpec.ofChange codeSumsSpec)) codeSumsCard

/-- THE SECOND FORM's CARD OF 'althinglaw7.CodeCalls'. -/
def codeCallsUptoCard : Claim7 := { stood := { row := codeCallsUptoRow, standIns := [], harness := (true, "7f356b7bf4ef5e59ef4336668094b80ed5d4e3fe5d0f6602091db49129d78656"), looks := false }, kinds := [], alts := [], laidByText := true, laidKinds := [.data, .data], laidTests := true, laidLooks := .later }
def CodeCallsUptoCardSaid : Prop := Claim7.holds Tryd.pinned (.plain (OpenSpec.upto codeCallsSpec)) codeCallsUptoCard

/-- THE SECOND FORM's CARD OF 'althinglaw7.CodeSums'. -/
def codeSumsUptoCard : Claim7 := { stood := { row := codeSumsUptoRow, standIns := [], harness := (true, "7f356b7bf4ef5e59ef4336668094b80ed5d4e3fe5d0f6602091db49129d78656"), looks := false }, kinds := [], alts := [], laidByText := true, laidKinds := [.data, .data], laidTests := true, laidLooks := .later }
def CodeSumsUptoCardSaid : Prop := Claim7.holds Tryd.pinned (.plain (OpenSpec.upto codeSumsSpec)) codeSumsUptoCard
end Rows
end Go.Proofs.YtbndegkgpoemnaaDoor
