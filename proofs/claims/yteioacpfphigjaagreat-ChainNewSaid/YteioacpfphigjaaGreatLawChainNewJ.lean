/-
  The law ChainNew: facts of its row.
-/
import Derived.Test.YteioacpfphigjaaGreatRows
import Derived.Test.YteioacpfphigjaaGreatChecked
import Derived.JoinedOf
import Derived.ProofKit
import Derived.Stop.Joined
namespace Go.Proofs.YteioacpfphigjaaGreat.chainNew
open Go.ChangeShapes Go.WideShapes Go.ChangeAt Go.RowKit
set_option linter.unusedVariables false
set_option linter.unusedSimpArgs false

theorem jIn : (Rows.chainNewRow.inPlace == Tryz.prog.inPlace 3) = true := by kernel_rfl
theorem jUn : (Rows.chainNewRow.unfollowed == Tryz.prog.unfollowed 3) = true := by kernel_rfl
theorem jRe : (Rows.chainNewRow.recurses == Tryz.prog.recurses 3) = true := by kernel_rfl
theorem jNa : (Rows.chainNewRow.named == Tryz.prog.varsNamed 3) = true := by kernel_rfl
theorem jLa : laidOutB Tryz.prog = true := by kernel_rfl
theorem jMa : mapsRowed Tryz.prog = true := by kernel_rfl
theorem jFn : Tryz.prog.funcNamed Rows.chainNewRow.func = some 3 := by kernel_rfl
end Go.Proofs.YteioacpfphigjaaGreat.chainNew

