/- A part. -/
import Derived.Test.YtbpemdihoabbcaaGreatUC
import Derived.Test.YtbpemdihoabbcaaGreatMhl
namespace Go.Proofs.YtbpemdihoabbcaaGreat
set_option linter.unusedVariables false
set_option linter.unusedSimpArgs false
set_option maxRecDepth 100000
set_option maxHeartbeats 8000000
open Go.RowKit Go.Maps
structure Sx.Srt (s : Sx) : Prop where
 m : SrtC s.M
 v : SrtC s.S.V
 d : SrtC s.S.D
 g : SrtC s.S.G
 q : SrtC s.S.Q
theorem mem_ballots {S : Vs} {a t : Int} {x : Int × Bal} : x ∈ ballots S a t ↔ x ∈ rowOf S.V a ∧ (S.P x.1.toNat).tr = t := by
 unfold ballots tbal
 rw [List.mem_filter]
 simp
end Go.Proofs.YtbpemdihoabbcaaGreat
