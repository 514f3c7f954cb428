/-
  The law ReferFails: what happens.
-/
import Derived.Test.YtpkamfbjgdmmoaaGreatMp
namespace Go.Proofs.YtpkamfbjgdmmoaaGreat
open Go.RowKit Go.Maps Go.Shelf
set_option linter.unusedVariables false
set_option linter.unusedSimpArgs false

def trkF : Trk := ⟨1, 20, 0, 20, 4, 1, 1, 500000000, 500000000, 1, 0, 1, 100000000, 100000000, 1, 0, 50, 2⟩
def fT : List Trk := [trkF]
def fAye : Bal := ⟨1, true, 2, 900, 0, 0⟩
def fNay : Bal := ⟨1, false, 6, 900, 0, 0⟩
def fq1 : St12 := St12.zero.sub fT 1 0 hsh0 0 0
def fq2 : St12 := fq1.dep fT 2 0
def fq3 : St12 := fq2.vot 5 0 fAye
def fqA : Nat → St12
  | 0 => fq3.vot 6 0 fAye
  | k + 1 => (fqA k).srv fT ((k + 1 : Nat) : Int)
/-- Behind the nay, and j services more. -/
def fqB (st : Nat) : Nat → St12
  | 0 => (fqA st).vot 3 0 fNay
  | k + 1 => (fqB st k).srv fT ((st + k + 1 : Nat) : Int)
def fqC (st ag : Nat) : St12 := (fqB st ag).unv 3 0 ((st + ag : Nat) : Int)
def fqD (st ag : Nat) : Nat → St12
  | 0 => (fqC st ag).srv fT ((st + ag + 1 : Nat) : Int)
  | k + 1 => (fqD st ag k).srv fT ((st + ag + 1 + k + 1 : Nat) : Int)
theorem fq_pre : newB fT = true ∧ rinB fT St12.zero.R = true ∧ rinB fT fq1.R = true ∧ vinvB fq2.S fq2.M = true ∧ voteE fq2.S fq2.A 5 0 fAye = 0 ∧ vinvB fq3.S fq3.M = true ∧ voteE fq3.S fq3.A 6 0 fAye = 0 := by decide +kernel
theorem fq_a : ∀ k : Nat, k < 3 → srvB fT (fqA k) ((k + 1 : Nat) : Int) = true := by decide +kernel
theorem fq_b : ∀ s : Nat, s < 4 → 1 ≤ s → vinvB (fqA s).S (fqA s).M = true ∧ voteE (fqA s).S (fqA s).A 3 0 fNay = 0 ∧ ∀ k : Nat, k < 4 → srvB fT (fqB s k) ((s + k + 1 : Nat) : Int) = true := by decide +kernel
def fqOk (s a : Nat) : Bool :=
  refHas (fqB s a).R 0 && decide ((refAt (fqB s a).R 0).st = 1) && decide ((refAt (fqB s a).R 0).un = -1) && vinvB (fqB s a).S (fqB s a).M && decide (unvoteE (fqB s a).S 3 0 = 0) && srvB fT (fqC s a) ((s + a + 1 : Nat) : Int) && refHas (fqD s a 0).R 0 && decide ((refAt (fqD s a 0).R 0).un = (refAt (fqD s a 0).R 0).si + (s : Int) + (a : Int) + 4 ∧ 0 ≤ (refAt (fqD s a 0).R 0).si ∧ (refAt (fqD s a 0).R 0).si ≤ 100) && ((List.range 3).all fun k => srvB fT (fqD s a k) ((s + a + 1 + k + 1 : Nat) : Int) && decide ((fqD s a k).evs fT ((s + a + 1 + k + 1 : Nat) : Int) = [])) && srvB fT (fqD s a 3) ((s + a + 1 + 3 + 1 : Nat) : Int) && decide ((fqD s a 3).evs fT ((s + a + 1 + 3 + 1 : Nat) : Int) = [(1, 0, 2)]) && refHas (fqD s a 4).R 0 && decide ((refAt (fqD s a 4).R 0).st = 2)
theorem fq_all : ∀ s ∈ [1, 2, 3], ∀ a ∈ [1, 2, 3, 4], fqOk s a = true := by decide +kernel
theorem fq_c {s a : Nat} (s1 : 1 ≤ s) (s3 : s ≤ 3) (a1 : 1 ≤ a) (a4 : a ≤ 4) : (refHas (fqB s a).R 0 = true ∧ (refAt (fqB s a).R 0).st = 1 ∧ (refAt (fqB s a).R 0).un = -1) ∧ vinvB (fqB s a).S (fqB s a).M = true ∧ unvoteE (fqB s a).S 3 0 = 0 ∧ srvB fT (fqC s a) ((s + a + 1 : Nat) : Int) = true ∧ (refHas (fqD s a 0).R 0 = true ∧ (refAt (fqD s a 0).R 0).un = (refAt (fqD s a 0).R 0).si + (s : Int) + (a : Int) + 4 ∧ 0 ≤ (refAt (fqD s a 0).R 0).si ∧ (refAt (fqD s a 0).R 0).si ≤ 100) ∧ (∀ k : Nat, k < 3 → srvB fT (fqD s a k) ((s + a + 1 + k + 1 : Nat) : Int) = true ∧ (fqD s a k).evs fT ((s + a + 1 + k + 1 : Nat) : Int) = []) ∧ srvB fT (fqD s a 3) ((s + a + 1 + 3 + 1 : Nat) : Int) = true ∧ (fqD s a 3).evs fT ((s + a + 1 + 3 + 1 : Nat) : Int) = [(1, 0, 2)] ∧ refHas (fqD s a 4).R 0 = true ∧ (refAt (fqD s a 4).R 0).st = 2 := by
  have h := fq_all s (by simp; omega) a (by simp; omega)
  unfold fqOk at h
  simp only [Bool.and_eq_true] at h
  obtain ⟨⟨⟨⟨⟨⟨⟨⟨⟨⟨⟨⟨h1, h2⟩, h3⟩, h4⟩, h5⟩, h6⟩, h7⟩, h8⟩, h9⟩, h10⟩, h11⟩, h12⟩, h13⟩ := h
  have h8 := of_decide_eq_true h8
  refine ⟨⟨h1, of_decide_eq_true h2, of_decide_eq_true h3⟩, h4, of_decide_eq_true h5, h6, ⟨h7, h8.1, h8.2.1, h8.2.2⟩, fun k hk => ?_, h10, of_decide_eq_true h11, h12, of_decide_eq_true h13⟩
  have := List.all_eq_true.1 h9 k (List.mem_range.2 hk)
  rw [Bool.and_eq_true] at this
  exact ⟨this.1, of_decide_eq_true this.2⟩
end Go.Proofs.YtpkamfbjgdmmoaaGreat
