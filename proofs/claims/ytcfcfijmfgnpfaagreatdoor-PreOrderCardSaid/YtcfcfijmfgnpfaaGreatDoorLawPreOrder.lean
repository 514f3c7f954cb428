/- For every argument the law PreOrder returns true, and each argument reads behind the call as it read before it. The variables that it reads are tied to the program's text. No other condition. -/
import Derived.Test.YtcfcfijmfgnpfaaGreatDoorRows
import Derived.Test.YtcfcfijmfgnpfaaGreatDoorCards
import Derived.Test.YtcfcfijmfgnpfaaGreatDoorTie
import Derived.Test.YtcfcfijmfgnpfaaGreatDoorLawPreOrderB
import Derived.SevenTiedAt
namespace Go.Proofs.YtcfcfijmfgnpfaaGreatDoor.preOrder
open Go.ChangeShapes Go.WideShapes Go.ChangeAt Go.RowKit
set_option linter.unusedVariables false
set_option linter.unusedSimpArgs false

theorem proved : Rows.PreOrderCardSaid :=
  Claim7.holds_tied_plain_at .later [] [.data, .data] true _ false
    row (fun _ h => by cases h) (by kernel_rfl) (fun _ h => by cases h) preOrder_row_tie rfl ⟨rfl, rfl⟩ (by kernel_rfl) rfl
    (fun f fn hf hfn => by
      obtain rfl : f = 9 := Option.some.inj ((show Tryz.prog.funcNamed "althing/althinglaw8.PreOrder" = some 9 by kernel_rfl).symm.trans hf) |>.symm
      obtain rfl : fn = Tryz.f9 := (Option.some.inj (Tryz.func9.symm.trans hfn)).symm
      exact ⟨by kernel_rfl, fun j t ht => by
        rw [Tryz.params9] at ht
        have hm : t ∈ [43] := by simpa using Array.mem_of_getElem? ht
        have hall : ([43].all fun u => !Tryz.prog.wantsStandIn u) = true := by kernel_rfl
        exact (show Tryz.prog.wantsStandIn t = false by simpa using List.all_eq_true.1 hall t hm)⟩)
    (by kernel_rfl)
end Go.Proofs.YtcfcfijmfgnpfaaGreatDoor.preOrder
