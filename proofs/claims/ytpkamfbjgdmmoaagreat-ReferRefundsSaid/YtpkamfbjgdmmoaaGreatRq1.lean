/-
  The law ReferRefunds: what happens.
-/
import Derived.Test.YtpkamfbjgdmmoaaGreatMgn
namespace Go.Proofs.YtpkamfbjgdmmoaaGreat
open Go.RowKit Go.Maps Go.Shelf
set_option linter.unusedVariables false
set_option linter.unusedSimpArgs false

def rq1 (a : Int) : St12 := St12.zero.sub kT a 0 hsh0 0 0
def rq2 (a b : Int) : St12 := (rq1 a).dep kT b 0
def rq3 (a b : Int) : St12 := (rq2 a b).rfd kT a 0
def rq4 (a b : Int) (k : Bool) : St12 := if k then (rq3 a b).kil kT 0 3 else (rq3 a b).can 0 3
def rq5 (a b c : Int) (k : Bool) : St12 := (rq4 a b k).rfd kT c 0
def rq6 (a b c : Int) (k : Bool) : St12 := (rq5 a b c k).rfd kT c 0
def rqMine (a b c : Int) (k : Bool) : Bool := !k && (decide (c = a) || decide (c = b))
def rqB (a b c : Int) (k : Bool) : Bool :=
  rinB kT (rq1 a).R && rinB kT (rq2 a b).R && rinB kT (rq3 a b).R && rinB kT (rq4 a b k).R && rinB kT (rq5 a b c k).R &&
  decide (rfdE (rq2 a b).R a 0 = 9) && decide (ongE (rq3 a b).R 0 = 0) &&
  decide (killEv kT (rq3 a b).R (rq3 a b).A 0 = [(1, 0, 6), (6, a, 10), (6, b, 20)]) && decide (canEv (rq3 a b).R 0 = [(1, 0, 5)]) &&
  decide (k = true → (accOf (rq4 a b k).A 0).1 = 1030) && decide (rfdE (rq4 a b k).R c 0 = if rqMine a b c k then 0 else 8) && decide (rfdE (rq5 a b c k).R c 0 = 8) &&
  decide (rqMine a b c k = true → (accOf (rq6 a b c k).A c).1 = 1000)
theorem rq_all : ∀ a ∈ [(1 : Int), 2, 3, 4], ∀ b ∈ [(1 : Int), 2, 3, 4], ∀ c ∈ [(1 : Int), 2, 3, 4], ∀ k ∈ [true, false], rqB a b c k = true := by decide +kernel
theorem in4 {a : Int} (h1 : 1 ≤ a) (h2 : a ≤ 4) : a ∈ [(1 : Int), 2, 3, 4] := by simp; omega
theorem rq_ok {a b c : Int} (k : Bool) (a1 : 1 ≤ a) (a2 : a ≤ 4) (b1 : 1 ≤ b) (b2 : b ≤ 4) (c1 : 1 ≤ c) (c2 : c ≤ 4) :
    (rinB kT (rq1 a).R = true ∧ rinB kT (rq2 a b).R = true ∧ rinB kT (rq3 a b).R = true ∧ rinB kT (rq4 a b k).R = true ∧ rinB kT (rq5 a b c k).R = true) ∧ rfdE (rq2 a b).R a 0 = 9 ∧ ongE (rq3 a b).R 0 = 0 ∧ killEv kT (rq3 a b).R (rq3 a b).A 0 = [(1, 0, 6), (6, a, 10), (6, b, 20)] ∧ canEv (rq3 a b).R 0 = [(1, 0, 5)] ∧ (k = true → (accOf (rq4 a b k).A 0).1 = 1030) ∧ (rfdE (rq4 a b k).R c 0 = if rqMine a b c k then 0 else 8) ∧ rfdE (rq5 a b c k).R c 0 = 8 ∧ (rqMine a b c k = true → (accOf (rq6 a b c k).A c).1 = 1000) := by
  have h := rq_all a (in4 a1 a2) b (in4 b1 b2) c (in4 c1 c2) k (by cases k <;> simp)
  unfold rqB at h
  simp only [Bool.and_eq_true] at h
  obtain ⟨⟨⟨⟨⟨⟨⟨⟨⟨⟨⟨⟨h1, h2⟩, h3⟩, h4⟩, h5⟩, h6⟩, h7⟩, h8⟩, h9⟩, h10⟩, h11⟩, h12⟩, h13⟩ := h
  exact ⟨⟨h1, h2, h3, h4, h5⟩, of_decide_eq_true h6, of_decide_eq_true h7, of_decide_eq_true h8, of_decide_eq_true h9, of_decide_eq_true h10, of_decide_eq_true h11, of_decide_eq_true h12, of_decide_eq_true h13⟩
theorem rin0 : rinB kT St12.zero.R = true := by decide +kernel
end Go.Proofs.YtpkamfbjgdmmoaaGreat
