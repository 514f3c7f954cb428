/-
  The law ReferTracks: what happens.
-/
import Derived.Test.YtpkamfbjgdmmoaaGreatMp
namespace Go.Proofs.YtpkamfbjgdmmoaaGreat
open Go.RowKit Go.Maps Go.Shelf
set_option linter.unusedVariables false
set_option linter.unusedSimpArgs false

def trkM (m : Int) : Trk := ⟨m, 20, 2, 10, 3, 1, 1, 500000000, 500000000, 1, 0, 1, 100000000, 100000000, 1, 0, 50, 2⟩
def kT2 (a b : Nat) : List Trk := [trkM a, trkM b]
/-- Behind k rounds. -/
def kqS (a b : Nat) : Nat → St12
  | 0 => St12.zero
  | k + 1 => ((kqS a b k).sub (kT2 a b) (1 + (k % 5 : Nat)) (k % 2 : Nat) hsh0 0 0).dep (kT2 a b) 5 k
def kqE (a b n : Nat) : St12 := (kqS a b (2 * n)).srv (kT2 a b) 2
def cntK (R : List Rfm) (m : Nat) : Nat := ((List.range R.length).filter fun i => decide (i % 2 = m) && decide (0 ≤ (refAt R i).si)).length
def kqOk (a b : Nat) : Bool := newB (kT2 a b) && (List.range 10).all (fun k => rinB (kT2 a b) (kqS a b k).R && rinB (kT2 a b) ((kqS a b k).sub (kT2 a b) (1 + (k % 5 : Nat)) (k % 2 : Nat) hsh0 0 0).R) && (List.range 6).all (fun n => srvB (kT2 a b) (kqS a b (2 * n)) 2 && decide ((kqE a b n).R.length = 2 * n) && ((List.range (2 * n)).all fun i => decide ((refAt (kqE a b n).R i).tr = (i % 2 : Nat))) && decide (cntK (kqE a b n).R 0 = min a n) && decide (cntK (kqE a b n).R 1 = min b n))
theorem kq_all : ∀ a ∈ [1, 2, 3, 4], ∀ b ∈ [1, 2, 3, 4], kqOk a b = true := by decide +kernel
theorem kq_pre {a b : Nat} (a1 : 1 ≤ a) (a4 : a ≤ 4) (b1 : 1 ≤ b) (b4 : b ≤ 4) : newB (kT2 a b) = true ∧ (∀ k : Nat, k < 10 → rinB (kT2 a b) (kqS a b k).R = true ∧ rinB (kT2 a b) ((kqS a b k).sub (kT2 a b) (1 + (k % 5 : Nat)) (k % 2 : Nat) hsh0 0 0).R = true) ∧ ∀ n : Nat, n < 6 → srvB (kT2 a b) (kqS a b (2 * n)) 2 = true ∧ (kqE a b n).R.length = 2 * n ∧ (∀ i : Nat, i < 2 * n → (refAt (kqE a b n).R i).tr = (i % 2 : Nat)) ∧ cntK (kqE a b n).R 0 = min a n ∧ cntK (kqE a b n).R 1 = min b n := by
  have h := kq_all a (by simp; omega) b (by simp; omega)
  unfold kqOk at h
  simp only [Bool.and_eq_true, List.all_eq_true] at h
  obtain ⟨⟨h1, h2⟩, h3⟩ := h
  refine ⟨h1, fun k hk => h2 k (List.mem_range.2 hk), fun n hn => ?_⟩
  obtain ⟨⟨⟨⟨q1, q2⟩, q3⟩, q4⟩, q5⟩ := h3 n (List.mem_range.2 hn)
  exact ⟨q1, of_decide_eq_true q2, fun i hi => of_decide_eq_true (q3 i (List.mem_range.2 hi)), of_decide_eq_true q4, of_decide_eq_true q5⟩
end Go.Proofs.YtpkamfbjgdmmoaaGreat
