/-
  The law ReferBacks: what happens.
-/
import Derived.Test.YtpkamfbjgdmmoaaGreatMgn
namespace Go.Proofs.YtpkamfbjgdmmoaaGreat
open Go.RowKit Go.Maps Go.Shelf
set_option linter.unusedVariables false
set_option linter.unusedSimpArgs false

theorem trk_set {w : World} {b i : Nat} {v : Value} {t t' : Trk} (h : w.heap[b]? = some (.cells (trkR.f t).toArray 26 (0, 0))) (hi : (trkR.f t).set i v = trkR.f t') : (w.setCell ⟨b, i, none⟩ v).heap[b]? = some (.cells (trkR.f t').toArray 26 (0, 0)) := by
  rw [← hi]
  simp [World.setCell, Array.getElem?_modify, h]
/-- The track with another deposit. -/
def trkD (D : Int) : Trk := { trkP with dep := D }
def bT (D : Int) : List Trk := [trkD D]
theorem bT_new {D : Int} (h0 : 0 ≤ D) (h1 : D ≤ 2000) : newB (bT D) = true := by
  have hw : withinB D 0 1073741824 = true := by unfold withinB; simp; omega
  have e : newB (bT D) = (withinB 1 1 12 && withinB D 0 1073741824 && withinB 50 0 1073741824 && withinB 2 0 1000 && withinB 3 0 1000 && withinB 1 0 1000 && withinB 10 1 1000 && isB 1 500000000 500000000 1 0 && isB 1 100000000 100000000 1 0 && withinB 2 0 2) := by
    unfold newB bT trkD trkP
    simp only [List.length_cons, List.length_nil, List.all_cons, List.all_nil, trackB, Bool.and_true]
    rfl
  rw [e, hw]
  decide +kernel
theorem rin_bT {D : Int} {R : List Rfm} (hD : newB (bT D) = true) (h : rinB kT R = true) : rinB (bT D) R = true := by
  unfold rinB at h ⊢
  rw [hD]
  rw [k12_newB] at h
  exact h
def bq0 (a : Int) : Int := (a + 1).tmod 10
def bq1 (a : Int) : St12 := St12.zero.sub kT (bq0 a) 0 hsh0 0 0
def bqR (a : Int) : List Rfm := (bq1 a).R.set 0 { refAt (bq1 a).R 0 with bk := a }
def bqB (a b : Int) : Bool :=
  rinB kT (bq1 a).R && decide (ongE (bq1 a).R 0 = 0) && decide ((refAt (bq1 a).R 0).bk = -1) && decide ((refAt (bq1 a).R 0).tr = 0) && decide (((bq1 a).A a.toNat).1 = 1000) && decide (((bq1 a).A b.toNat).1 ≤ 1000) &&
  rinB kT ((bq1 a).can 0 1).R && decide (ongE ((bq1 a).can 0 1).R 0 = 9) && decide (ongE ((bq1 a).can 0 1).R 1 = 4) &&
  rinB kT (bqR a) && decide (ongE (bqR a) 0 = 0) && decide ((refAt (bqR a) 0).bk = a) &&
  rinB kT (endR (bqR a) (bq1 a).S 0 5 1) && decide (ongE (endR (bqR a) (bq1 a).S 0 5 1) 0 = 9) && decide (ongE (endR (bqR a) (bq1 a).S 0 5 1) 1 = 4) && decide ((refAt (endR (bqR a) (bq1 a).S 0 5 1) 0).bk = a) && refHas (endR (bqR a) (bq1 a).S 0 5 1) 0 && decide (canEv (bq1 a).R 0 = [(1, 0, 5)]) && decide (canEv (bqR a) 0 = [(1, 0, 5)])
theorem bq_all : ∀ a ∈ [(0 : Int), 1, 2, 3, 4, 5, 6, 7, 8, 9], ∀ b ∈ [(0 : Int), 1, 2, 3, 4, 5, 6, 7, 8, 9], bqB a b = true := by decide +kernel
theorem in10 {a : Int} (h1 : 0 ≤ a) (h2 : a < 10) : a ∈ [(0 : Int), 1, 2, 3, 4, 5, 6, 7, 8, 9] := by simp; omega
/-- The states, in order. -/
def bq2 (D a : Int) : St12 := (bq1 a).dep (bT D) a 0
def bq3 (D a b : Int) : St12 := (bq2 D a).dep (bT D) b 0
def bq4 (D a b : Int) : St12 := (bq3 D a b).can 0 1
def bq5 (D a b : Int) : St12 := (bq4 D a b).dep (bT D) b 0
theorem dep_no {ts : List Trk} {s : St12} {a ref : Int} (h : depE ts s.R s.A s.M a ref ≠ 0) : s.dep ts a ref = s := by
  unfold St12.dep depR depA
  rw [if_neg h, if_neg h]
theorem bq_hi {D a b : Int} (d0 : 1000 < D) (d1 : D ≤ 2000) (a0 : 0 ≤ a) (a1 : a < 10) (b0 : 0 ≤ b) (b1 : b < 10) :
    (rinB (bT D) (bq1 a).R = true ∧ rinB (bT D) (bq2 D a).R = true ∧ rinB (bT D) (bq3 D a b).R = true ∧ rinB (bT D) (bq4 D a b).R = true ∧ rinB (bT D) (bq5 D a b).R = true) ∧
    depE (bT D) (bq1 a).R (bq1 a).A [] a 0 = 6 ∧ depE (bT D) (bq2 D a).R (bq2 D a).A [] b 0 = 6 ∧ (ongE (bq3 D a b).R 0 = 0 ∧ canEv (bq3 D a b).R 0 = [(1, 0, 5)]) ∧ depE (bT D) (bq4 D a b).R (bq4 D a b).A [] b 0 = 9 ∧ depE (bT D) (bq5 D a b).R (bq5 D a b).A [] b 1 = 4 := by
  have h := bq_all a (in10 a0 a1) b (in10 b0 b1)
  unfold bqB at h
  simp only [Bool.and_eq_true, decide_eq_true_eq] at h
  obtain ⟨⟨⟨⟨⟨⟨⟨⟨⟨⟨⟨⟨⟨⟨⟨⟨⟨⟨h1, h2⟩, h3⟩, h4⟩, h5⟩, h6⟩, h7⟩, h8⟩, h9⟩, h10⟩, h11⟩, h12⟩, h13⟩, h14⟩, h15⟩, h16⟩, h17⟩, h18⟩, h19⟩ := h
  have hT := bT_new (D := D) (by omega) d1
  have sp : ∀ x : Int, 0 ≤ x → x < 10 → ((bq1 a).A x.toNat).1 ≤ 1000 → depE (bT D) (bq1 a).R (bq1 a).A [] x 0 = 6 := fun x x0 x1 hx => by
    unfold depE
    rw [if_neg (by rw [h2]; decide), if_neg (by rw [h3]; decide), h4]
    have ht : (trkAt (bT D) 0).dep = D := rfl
    rw [ht]
    unfold spendE
    rw [if_neg (by unfold isAcc isBal; omega), if_pos (by omega)]
  have e1 := sp a a0 a1 (by rw [h5]; omega)
  have s2 : bq2 D a = bq1 a := dep_no (by rw [show (bq1 a).M = [] from rfl, e1]; decide)
  have e2 := sp b b0 b1 h6
  have s3 : bq3 D a b = bq1 a := by
    unfold bq3
    rw [s2]
    exact dep_no (by rw [show (bq1 a).M = [] from rfl, e2]; decide)
  have s4 : bq4 D a b = (bq1 a).can 0 1 := by unfold bq4; rw [s3]
  have e4 : ∀ x ref, ongE ((bq1 a).can 0 1).R ref ≠ 0 → depE (bT D) ((bq1 a).can 0 1).R ((bq1 a).can 0 1).A [] x ref = ongE ((bq1 a).can 0 1).R ref := fun x ref hx => by unfold depE; rw [if_pos hx]
  have e4b := e4 b 0 (by rw [h8]; decide)
  rw [h8] at e4b
  have s5 : bq5 D a b = (bq1 a).can 0 1 := by
    unfold bq5
    rw [s4]
    exact dep_no (by rw [show ((bq1 a).can 0 1).M = [] from rfl, e4b]; decide)
  rw [s2, s3, s4, s5]
  exact ⟨⟨rin_bT hT h1, rin_bT hT h1, rin_bT hT h1, rin_bT hT h7, rin_bT hT h7⟩, e1, e2, ⟨h2, h18⟩, e4b, by rw [e4 b 1 (by rw [h9]; decide), h9]⟩
theorem bq_lo {D a b : Int} (d0 : 0 ≤ D) (d1 : D ≤ 1000) (a0 : 0 ≤ a) (a1 : a < 10) (b0 : 0 ≤ b) (b1 : b < 10) :
    (rinB (bT D) (bq1 a).R = true ∧ rinB (bT D) (bq2 D a).R = true ∧ rinB (bT D) (bq3 D a b).R = true ∧ rinB (bT D) (bq4 D a b).R = true ∧ rinB (bT D) (bq5 D a b).R = true) ∧
    depE (bT D) (bq1 a).R (bq1 a).A [] a 0 = 0 ∧ depE (bT D) (bq2 D a).R (bq2 D a).A [] b 0 = 5 ∧ (ongE (bq3 D a b).R 0 = 0 ∧ canEv (bq3 D a b).R 0 = [(1, 0, 5)]) ∧ depE (bT D) (bq4 D a b).R (bq4 D a b).A [] b 0 = 9 ∧ depE (bT D) (bq5 D a b).R (bq5 D a b).A [] b 1 = 4 ∧ (bq5 D a b).dep (bT D) b 1 = bq5 D a b ∧ refHas (bq5 D a b).R 0 = true ∧ (refAt (bq5 D a b).R 0).bk = a ∧ (accOf (bq5 D a b).A a).1 = 1000 - D := by
  have h := bq_all a (in10 a0 a1) b (in10 b0 b1)
  unfold bqB at h
  simp only [Bool.and_eq_true, decide_eq_true_eq] at h
  obtain ⟨⟨⟨⟨⟨⟨⟨⟨⟨⟨⟨⟨⟨⟨⟨⟨⟨⟨h1, h2⟩, h3⟩, h4⟩, h5⟩, h6⟩, h7⟩, h8⟩, h9⟩, h10⟩, h11⟩, h12⟩, h13⟩, h14⟩, h15⟩, h16⟩, h17⟩, h18⟩, h19⟩ := h
  have hT := bT_new (D := D) (by omega) (by omega)
  have e1 : depE (bT D) (bq1 a).R (bq1 a).A [] a 0 = 0 := by
    unfold depE
    rw [if_neg (by rw [h2]; decide), if_neg (by rw [h3]; decide), h4]
    have ht : (trkAt (bT D) 0).dep = D := rfl
    rw [ht]
    unfold spendE
    rw [if_neg (by unfold isAcc isBal; omega), if_neg (by omega), if_neg (fun e => by have := e.2.2; rw [show lockedOf [] a = 0 from rfl] at this; omega)]
  have r2 : (bq2 D a).R = bqR a := by
    show depR (bT D) (bq1 a).R (bq1 a).A [] a 0 = _
    unfold depR
    rw [if_pos e1]; rfl
  have S2 : (bq2 D a).S = (bq1 a).S := rfl
  have a2 : ((bq2 D a).A a.toNat).1 = 1000 - D := by
    show (depA (bT D) (bq1 a).R (bq1 a).A [] a 0 a.toNat).1 = _
    unfold depA
    rw [if_pos e1, h4]
    have ht : (trkAt (bT D) 0).dep = D := rfl
    rw [ht]
    unfold depE at e1
    rw [if_neg (by rw [h2]; decide), if_neg (by rw [h3]; decide), h4, ht] at e1
    unfold reserveA
    rw [if_pos e1, upd_same]
    unfold spendA
    rw [upd_same, h5]
  have e2 : depE (bT D) (bq2 D a).R (bq2 D a).A [] b 0 = 5 := by
    rw [r2]
    unfold depE
    rw [if_neg (by rw [h11]; decide), if_pos (by rw [h12]; omega)]
  have s3 : bq3 D a b = bq2 D a := dep_no (by rw [show (bq2 D a).M = [] from rfl, e2]; decide)
  have r4 : (bq4 D a b).R = endR (bqR a) (bq1 a).S 0 5 1 := by unfold bq4 St12.can; rw [s3, r2, S2]
  have A4 : (bq4 D a b).A = (bq2 D a).A := by unfold bq4 St12.can; rw [s3]
  have e4 : depE (bT D) (bq4 D a b).R (bq4 D a b).A [] b 0 = 9 := by
    rw [r4]; unfold depE; rw [if_pos (by rw [h14]; decide), h14]
  have s5 : bq5 D a b = bq4 D a b := dep_no (by rw [show (bq4 D a b).M = [] from by unfold bq4 St12.can; rw [s3]; rfl, e4]; decide)
  have e5 : depE (bT D) (bq5 D a b).R (bq5 D a b).A [] b 1 = 4 := by
    rw [s5, r4]; unfold depE; rw [if_pos (by rw [h15]; decide), h15]
  have s6 : (bq5 D a b).dep (bT D) b 1 = bq5 D a b := dep_no (by rw [show (bq5 D a b).M = [] from by rw [s5]; unfold bq4 St12.can; rw [s3]; rfl, e5]; decide)
  refine ⟨⟨rin_bT hT h1, by rw [r2]; exact rin_bT hT h10, by rw [s3, r2]; exact rin_bT hT h10, by rw [r4]; exact rin_bT hT h13, by rw [s5, r4]; exact rin_bT hT h13⟩, e1, e2, by rw [s3, r2]; exact ⟨h11, h19⟩, e4, e5, s6, by rw [s5, r4]; exact h17, by rw [s5, r4]; exact h16, ?_⟩
  rw [s5, A4]
  unfold accOf
  rw [if_pos ⟨a0, a1⟩]
  exact a2
end Go.Proofs.YtpkamfbjgdmmoaaGreat
