/-
  The law ReferFull: what happens.
-/
import Derived.Test.YtpkamfbjgdmmoaaGreatMgn
namespace Go.Proofs.YtpkamfbjgdmmoaaGreat
open Go.RowKit Go.Maps Go.Shelf
set_option linter.unusedVariables false
set_option linter.unusedSimpArgs false

/-- Behind k submissions. -/
def fuS : Nat → St12
  | 0 => St12.zero
  | k + 1 => (fuS k).sub kT 1 0 hsh0 0 (k : Int)
theorem fu_sub : ∀ k : Nat, k < 20 → rinB kT (fuS k).R = true ∧ subE kT (fuS k).R (fuS k).S (fuS k).A (fuS k).M 1 0 0 = (if k < 12 then 0 else 3) ∧ subN kT (fuS k).R (fuS k).S (fuS k).A (fuS k).M 1 0 0 = (if k < 12 then (k : Int) else 0) := by decide +kernel
/-- Behind the transfer. -/
def fuT (k : Nat) : St12 := ⟨(fuS k).R, (fuS k).S, transA (fuS k).A (fuS k).M 2 3 995, (fuS k).M⟩
theorem fu_end : ∀ k : Nat, k < 12 → rinB kT (fuT k).R = true ∧ subE kT (fuT k).R (fuT k).S (fuT k).A (fuT k).M 2 0 0 = 6 ∧ subN kT (fuT k).R (fuT k).S (fuT k).A (fuT k).M 2 0 0 = 0 ∧ ((fuT k).sub kT 2 0 hsh0 0 0).R.length = k := by decide +kernel
end Go.Proofs.YtpkamfbjgdmmoaaGreat
