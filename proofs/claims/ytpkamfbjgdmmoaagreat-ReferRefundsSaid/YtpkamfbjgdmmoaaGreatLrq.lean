/-
  The law ReferRefunds, walked. Printed by mk12.py.
-/
import Derived.Test.YtpkamfbjgdmmoaaGreatRq1
import Derived.BigRegion
import Derived.RegionTactic
import Derived.Deep.RegionHeld3
namespace Go.Proofs.YtpkamfbjgdmmoaaGreat
open Go.RowKit Go.Maps Go.Shelf
set_option linter.unusedVariables false
set_option linter.unusedSimpArgs false

set_option maxRecDepth 100000 in
set_option maxHeartbeats 8000000 in
theorem rq_kill (a b c : Int) (w : World) (wa : (Lit.int .i64 a).wf = true) (wb : (Lit.int .i64 b).wf = true) (a1 : 1 ≤ a) (a2 : a ≤ 4) (b1 : 1 ≤ b) (b2 : b ≤ 4) (c1 : 1 ≤ c) (c2 : c ≤ 4) : Calls Tryz.prog 6 #[.int .i64 a, .int .i64 b, .bool true, .int .i64 c] w fun e w' => e = .returned (.bool true) ∧ Below w.heap.size w w' := by
  have HE := Lib.hid (rq_ok true a1 a2 b1 b2 c1 c2)
  have g1 : ¬ a < 1 := by omega
  have g2 : ¬ a > 4 := by omega
  have g3 : ¬ b < 1 := by omega
  have g4 : ¬ b > 4 := by omega
  have g5 : ¬ c < 1 := by omega
  have g6 : ¬ c > 4 := by omega
  clear a1 a2 b1 b2 c1 c2
  obtain ⟨E, hE⟩ : ∃ E : Int, E = 8 := ⟨_, rfl⟩
  have hmn : rqMine a b c true = false := rfl
  have HPL := Lib.hid (law12_plain w)
  have HB := Lib.hid (begin12 (t := trkP) k12_newB)
  go_enter Tryz.func6, Tryz.ntmps6
  have mixed : Tryz.prog.follows .mixedOrders = true := by kernel_rfl
  go_upto_region 6 with (first
    | (go_at_call 12; refine HPL.out.mono ?_; rintro e w1 ⟨rfl, hb⟩; have H1 := Lib.hid hb; clear hb)
    | (go_at_call 13; refine (HB.out w1).mono ?_; rintro e w2 ⟨p, g, vb, r, rfl, hp⟩; have Q2 := Lib.hid hp; clear hp)
    | fail)
  go_upto_region 6 with fail
  have D2 := Lib.hid Q2.out.dcells
  go_region_held3 (fun W => W.cell? ⟨p, 0, none⟩ = some (.pointer (some ⟨g, 0, none⟩)) ∧ W.cell? ⟨p, 1, none⟩ = some (.pointer (some ⟨vb, 0, none⟩)) ∧ W.cell? ⟨p, 2, none⟩ = some (.pointer (some ⟨r, 0, none⟩))) (first | exact D2.out | exact C3.out) (first
    | (go_at_call 14; refine (Q2.out.drew.Submit rin0 wa 0 hsh0 0 0).mono ?_; rintro e w3 ⟨rfl, hp⟩; have Q3 := Lib.hid (show Pq p r g vb kT (rq1 a) _ _ from hp); have C3 := Lib.hid hp.cells; clear hp)
    | fail)
  go_upto_region 7 with fail
  have D3 := Lib.hid Q3.out.dcells
  go_region_held3 (fun W => W.cell? ⟨p, 0, none⟩ = some (.pointer (some ⟨g, 0, none⟩)) ∧ W.cell? ⟨p, 1, none⟩ = some (.pointer (some ⟨vb, 0, none⟩)) ∧ W.cell? ⟨p, 2, none⟩ = some (.pointer (some ⟨r, 0, none⟩))) (first | exact D3.out | exact C4.out) (first
    | (go_at_call 15; refine (Q3.out.drew.Deposit HE.out.1.1 wb (by decide)).mono ?_; rintro e w4 ⟨rfl, hp⟩; have Q4 := Lib.hid (show Pq p r g vb kT (rq2 a b) _ _ from hp); have C4 := Lib.hid hp.cells; clear hp)
    | fail)
  go_upto_region 8 with fail
  have D4 := Lib.hid Q4.out.dcells
  go_region_held3 (fun W => W.cell? ⟨p, 0, none⟩ = some (.pointer (some ⟨g, 0, none⟩)) ∧ W.cell? ⟨p, 1, none⟩ = some (.pointer (some ⟨vb, 0, none⟩)) ∧ W.cell? ⟨p, 2, none⟩ = some (.pointer (some ⟨r, 0, none⟩))) (first | exact D4.out | exact C5.out) (first
    | (go_at_call 23; refine (Q4.out.drew.Refund HE.out.1.2.1 (by decide)).mono ?_; rw [HE.out.2.1]; rintro e w5 ⟨rfl, hp⟩; have Q5 := Lib.hid (show Pq p r g vb kT (rq3 a b) _ _ from hp); have C5 := Lib.hid hp.cells; clear hp)
    | fail)
  go_upto_region 10 with fail
  have D5 := Lib.hid Q5.out.dcells
  go_region_held3 (fun W => W.cell? ⟨p, 0, none⟩ = some (.pointer (some ⟨g, 0, none⟩)) ∧ W.cell? ⟨p, 1, none⟩ = some (.pointer (some ⟨vb, 0, none⟩)) ∧ W.cell? ⟨p, 2, none⟩ = some (.pointer (some ⟨r, 0, none⟩))) (first | exact D5.out | exact C6.out) (first
    | (go_at_call 24; refine (Q5.out.drew.Kill HE.out.1.2.2.1 (by decide) 3).mono ?_; rw [HE.out.2.2.1]; rw [HE.out.2.2.2.1]; rintro e w6 ⟨v6, rfl, hp, ho⟩; obtain ⟨b6, cp6, hv6, hr6⟩ := row3 ho; subst hv6; have R6 := Lib.hid hr6; clear hr6; have Q6 := Lib.hid (show Pq p r g vb kT (rq4 a b true) _ _ from hp); have C6 := Lib.hid hp.cells; clear hp ho)
    | fail)
  obtain ⟨⟨k3, k4, k5⟩, k6, k7, k8⟩ := R6.out
  obtain ⟨f0, f1, f2⟩ := Q6.out.cells
  go_upto_region 18 with (first
    | (go_at_call 25; with_reducible refine (Q6.out.Free 0).mono ?_; rw [HE.out.2.2.2.2.2.1 (by first | rfl | trivial)]; rintro e w' ⟨rfl, hw⟩; rw [hw]; clear hw w')
    | fail)
  clear k3 k4 k5 k6 k7 k8 f0 f1 f2
  go_upto_region 18 with fail
  have D6 := Lib.hid Q6.out.dcells
  go_region_held3 (fun W => W.cell? ⟨p, 0, none⟩ = some (.pointer (some ⟨g, 0, none⟩)) ∧ W.cell? ⟨p, 1, none⟩ = some (.pointer (some ⟨vb, 0, none⟩)) ∧ W.cell? ⟨p, 2, none⟩ = some (.pointer (some ⟨r, 0, none⟩))) (first | exact D6.out | exact C7.out) (first
    | (go_at_call 23; refine (Q6.out.drew.Refund HE.out.1.2.2.2.1 (by decide)).mono ?_; rw [HE.out.2.2.2.2.2.2.1]; rw [hmn]; rintro e w7 ⟨rfl, hp⟩; have Q7 := Lib.hid (show Pq p r g vb kT (rq5 a b c true) _ _ from hp); have C7 := Lib.hid hp.cells; clear hp)
    | fail)
  go_upto_region 19 with fail
  have D7 := Lib.hid Q7.out.dcells
  go_region_held3 (fun W => W.cell? ⟨p, 0, none⟩ = some (.pointer (some ⟨g, 0, none⟩)) ∧ W.cell? ⟨p, 1, none⟩ = some (.pointer (some ⟨vb, 0, none⟩)) ∧ W.cell? ⟨p, 2, none⟩ = some (.pointer (some ⟨r, 0, none⟩))) (first | exact D7.out | exact C8.out) (first
    | (go_at_call 23; refine (Q7.out.drew.Refund HE.out.1.2.2.2.2 (by decide)).mono ?_; rw [HE.out.2.2.2.2.2.2.2.1]; rintro e w8 ⟨rfl, hp⟩; have Q8 := Lib.hid (show Pq p r g vb kT (rq6 a b c true) _ _ from hp); have C8 := Lib.hid hp.cells; clear hp)
    | fail)
  go_wp2_with (first
    | (go_at_call 20; refine (law12_known _).mono ?_; rintro e wk ⟨rfl, hp⟩; have QK := Lib.hid (Q8.out.below hp); clear hp)
    | fail)
  have hb1 : Below w.heap.size w (w1.alloc (.cells (trkR.f trkP).toArray 26)) := H1.out.alloc H1.out.size _
  exact bodyPost_ret (v := .bool true) (by simp [results, Tryz.results6, go_sem]) rfl ⟨rfl, hb1.trans (QK.out.old.mono hb1.size)⟩
set_option maxRecDepth 100000 in
set_option maxHeartbeats 8000000 in
theorem rq_can (a b c : Int) (w : World) (wa : (Lit.int .i64 a).wf = true) (wb : (Lit.int .i64 b).wf = true) (a1 : 1 ≤ a) (a2 : a ≤ 4) (b1 : 1 ≤ b) (b2 : b ≤ 4) (c1 : 1 ≤ c) (c2 : c ≤ 4) : Calls Tryz.prog 6 #[.int .i64 a, .int .i64 b, .bool false, .int .i64 c] w fun e w' => e = .returned (.bool true) ∧ Below w.heap.size w w' := by
  have HE := Lib.hid (rq_ok false a1 a2 b1 b2 c1 c2)
  have g1 : ¬ a < 1 := by omega
  have g2 : ¬ a > 4 := by omega
  have g3 : ¬ b < 1 := by omega
  have g4 : ¬ b > 4 := by omega
  have g5 : ¬ c < 1 := by omega
  have g6 : ¬ c > 4 := by omega
  clear a1 a2 b1 b2 c1 c2
  obtain ⟨q1, h1⟩ : ∃ q, (c == a) = q := ⟨_, rfl⟩
  obtain ⟨q2, h2⟩ : ∃ q, (c == b) = q := ⟨_, rfl⟩
  have hmn : rqMine a b c false = (q1 || q2) := by
    rw [← h1, ← h2]
    unfold rqMine
    by_cases x1 : c = a <;> by_cases x2 : c = b <;> simp [x1, x2]
  obtain ⟨E, hE⟩ : ∃ E : Int, E = (if (q1 || q2) then 0 else 8) := ⟨_, rfl⟩
  rw [hmn, ← hE] at HE
  have HQ := Lib.hid (And.intro h1 (And.intro h2 hE))
  clear h1 h2 hE hmn
  have HPL := Lib.hid (law12_plain w)
  have HB := Lib.hid (begin12 (t := trkP) k12_newB)
  go_enter Tryz.func6, Tryz.ntmps6
  have mixed : Tryz.prog.follows .mixedOrders = true := by kernel_rfl
  go_upto_region 6 with (first
    | (go_at_call 12; refine HPL.out.mono ?_; rintro e w1 ⟨rfl, hb⟩; have H1 := Lib.hid hb; clear hb)
    | (go_at_call 13; refine (HB.out w1).mono ?_; rintro e w2 ⟨p, g, vb, r, rfl, hp⟩; have Q2 := Lib.hid hp; clear hp)
    | fail)
  go_upto_region 6 with fail
  have D2 := Lib.hid Q2.out.dcells
  go_region_held3 (fun W => W.cell? ⟨p, 0, none⟩ = some (.pointer (some ⟨g, 0, none⟩)) ∧ W.cell? ⟨p, 1, none⟩ = some (.pointer (some ⟨vb, 0, none⟩)) ∧ W.cell? ⟨p, 2, none⟩ = some (.pointer (some ⟨r, 0, none⟩))) (first | exact D2.out | exact C3.out) (first
    | (go_at_call 14; refine (Q2.out.drew.Submit rin0 wa 0 hsh0 0 0).mono ?_; rintro e w3 ⟨rfl, hp⟩; have Q3 := Lib.hid (show Pq p r g vb kT (rq1 a) _ _ from hp); have C3 := Lib.hid hp.cells; clear hp)
    | fail)
  go_upto_region 7 with fail
  have D3 := Lib.hid Q3.out.dcells
  go_region_held3 (fun W => W.cell? ⟨p, 0, none⟩ = some (.pointer (some ⟨g, 0, none⟩)) ∧ W.cell? ⟨p, 1, none⟩ = some (.pointer (some ⟨vb, 0, none⟩)) ∧ W.cell? ⟨p, 2, none⟩ = some (.pointer (some ⟨r, 0, none⟩))) (first | exact D3.out | exact C4.out) (first
    | (go_at_call 15; refine (Q3.out.drew.Deposit HE.out.1.1 wb (by decide)).mono ?_; rintro e w4 ⟨rfl, hp⟩; have Q4 := Lib.hid (show Pq p r g vb kT (rq2 a b) _ _ from hp); have C4 := Lib.hid hp.cells; clear hp)
    | fail)
  go_upto_region 8 with fail
  have D4 := Lib.hid Q4.out.dcells
  go_region_held3 (fun W => W.cell? ⟨p, 0, none⟩ = some (.pointer (some ⟨g, 0, none⟩)) ∧ W.cell? ⟨p, 1, none⟩ = some (.pointer (some ⟨vb, 0, none⟩)) ∧ W.cell? ⟨p, 2, none⟩ = some (.pointer (some ⟨r, 0, none⟩))) (first | exact D4.out | exact C5.out) (first
    | (go_at_call 23; refine (Q4.out.drew.Refund HE.out.1.2.1 (by decide)).mono ?_; rw [HE.out.2.1]; rintro e w5 ⟨rfl, hp⟩; have Q5 := Lib.hid (show Pq p r g vb kT (rq3 a b) _ _ from hp); have C5 := Lib.hid hp.cells; clear hp)
    | fail)
  go_upto_region 15 with fail
  have D5 := Lib.hid Q5.out.dcells
  go_region_held3 (fun W => W.cell? ⟨p, 0, none⟩ = some (.pointer (some ⟨g, 0, none⟩)) ∧ W.cell? ⟨p, 1, none⟩ = some (.pointer (some ⟨vb, 0, none⟩)) ∧ W.cell? ⟨p, 2, none⟩ = some (.pointer (some ⟨r, 0, none⟩))) (first | exact D5.out | exact C6.out) (first
    | (go_at_call 26; refine (Q5.out.drew.Cancel HE.out.1.2.2.1 (by decide) 3).mono ?_; rw [HE.out.2.2.1]; rw [HE.out.2.2.2.2.1]; rintro e w6 ⟨v6, rfl, hp, ho⟩; obtain ⟨b6, cp6, hv6, hr6⟩ := row1 ho; subst hv6; have R6 := Lib.hid hr6; clear hr6; have Q6 := Lib.hid (show Pq p r g vb kT (rq4 a b false) _ _ from hp); have C6 := Lib.hid hp.cells; clear hp ho)
    | fail)
  obtain ⟨k3, k4, k5⟩ := R6.out
  go_upto_region 18 with fail
  clear k3 k4 k5
  go_upto_region 18 with fail
  have D6 := Lib.hid Q6.out.dcells
  go_region_held3 (fun W => W.cell? ⟨p, 0, none⟩ = some (.pointer (some ⟨g, 0, none⟩)) ∧ W.cell? ⟨p, 1, none⟩ = some (.pointer (some ⟨vb, 0, none⟩)) ∧ W.cell? ⟨p, 2, none⟩ = some (.pointer (some ⟨r, 0, none⟩))) (first | exact D6.out | exact C7.out) (first
    | (go_at_call 23; refine (Q6.out.drew.Refund HE.out.1.2.2.2.1 (by decide)).mono ?_; rw [HE.out.2.2.2.2.2.2.1]; rintro e w7 ⟨rfl, hp⟩; have Q7 := Lib.hid (show Pq p r g vb kT (rq5 a b c false) _ _ from hp); have C7 := Lib.hid hp.cells; clear hp)
    | fail)
  go_upto_region 19 with fail
  have D7 := Lib.hid Q7.out.dcells
  go_region_held3 (fun W => W.cell? ⟨p, 0, none⟩ = some (.pointer (some ⟨g, 0, none⟩)) ∧ W.cell? ⟨p, 1, none⟩ = some (.pointer (some ⟨vb, 0, none⟩)) ∧ W.cell? ⟨p, 2, none⟩ = some (.pointer (some ⟨r, 0, none⟩))) (first | exact D7.out | exact C8.out) (first
    | (go_at_call 23; refine (Q7.out.drew.Refund HE.out.1.2.2.2.2 (by decide)).mono ?_; rw [HE.out.2.2.2.2.2.2.2.1]; rintro e w8 ⟨rfl, hp⟩; have Q8 := Lib.hid (show Pq p r g vb kT (rq6 a b c false) _ _ from hp); have C8 := Lib.hid hp.cells; clear hp)
    | fail)
  go_upto_region 20 with fail
  obtain ⟨f0, f1, f2⟩ := Q8.out.cells
  obtain ⟨h1, h2, hE⟩ := HQ.out
  cases q1 <;> cases q2
  case false.false =>
    obtain rfl : E = 8 := hE
    go_wp2_with (first
      | (go_at_call 20; refine (law12_known _).mono ?_; rintro e wk ⟨rfl, hp⟩; have QK := Lib.hid (Q8.out.below hp); clear hp)
      | fail)
    have hb1 : Below w.heap.size w (w1.alloc (.cells (trkR.f trkP).toArray 26)) := H1.out.alloc H1.out.size _
    exact bodyPost_ret (v := .bool true) (by simp [results, Tryz.results6, go_sem]) rfl ⟨rfl, hb1.trans (QK.out.old.mono hb1.size)⟩
  case false.true =>
    obtain rfl : E = 0 := hE
    have hFr := HE.out.2.2.2.2.2.2.2.2 rfl
    go_wp2_with (first
      | (go_at_call 25; with_reducible refine (Q8.out.Free c).mono ?_; rw [hFr]; rintro e w' ⟨rfl, hw⟩; rw [hw]; clear hw w')
      | (go_at_call 20; refine (law12_known _).mono ?_; rintro e wk ⟨rfl, hp⟩; have QK := Lib.hid (Q8.out.below hp); clear hp)
      | fail)
    have hb1 : Below w.heap.size w (w1.alloc (.cells (trkR.f trkP).toArray 26)) := H1.out.alloc H1.out.size _
    exact bodyPost_ret (v := .bool true) (by simp [results, Tryz.results6, go_sem]) rfl ⟨rfl, hb1.trans (QK.out.old.mono hb1.size)⟩
  case true.false =>
    obtain rfl : E = 0 := hE
    have hFr := HE.out.2.2.2.2.2.2.2.2 rfl
    go_wp2_with (first
      | (go_at_call 25; with_reducible refine (Q8.out.Free c).mono ?_; rw [hFr]; rintro e w' ⟨rfl, hw⟩; rw [hw]; clear hw w')
      | (go_at_call 20; refine (law12_known _).mono ?_; rintro e wk ⟨rfl, hp⟩; have QK := Lib.hid (Q8.out.below hp); clear hp)
      | fail)
    have hb1 : Below w.heap.size w (w1.alloc (.cells (trkR.f trkP).toArray 26)) := H1.out.alloc H1.out.size _
    exact bodyPost_ret (v := .bool true) (by simp [results, Tryz.results6, go_sem]) rfl ⟨rfl, hb1.trans (QK.out.old.mono hb1.size)⟩
  case true.true =>
    obtain rfl : E = 0 := hE
    have hFr := HE.out.2.2.2.2.2.2.2.2 rfl
    go_wp2_with (first
      | (go_at_call 25; with_reducible refine (Q8.out.Free c).mono ?_; rw [hFr]; rintro e w' ⟨rfl, hw⟩; rw [hw]; clear hw w')
      | (go_at_call 20; refine (law12_known _).mono ?_; rintro e wk ⟨rfl, hp⟩; have QK := Lib.hid (Q8.out.below hp); clear hp)
      | fail)
    have hb1 : Below w.heap.size w (w1.alloc (.cells (trkR.f trkP).toArray 26)) := H1.out.alloc H1.out.size _
    exact bodyPost_ret (v := .bool true) (by simp [results, Tryz.results6, go_sem]) rfl ⟨rfl, hb1.trans (QK.out.old.mono hb1.size)⟩
set_option maxRecDepth 100000 in
set_option maxHeartbeats 8000000 in
theorem referRefunds_walk (a b : Int) (k : Bool) (c : Int) (w : World) (wa : (Lit.int .i64 a).wf = true) (wb : (Lit.int .i64 b).wf = true) (wc : (Lit.int .i64 c).wf = true) : Calls Tryz.prog 6 #[.int .i64 a, .int .i64 b, .bool k, .int .i64 c] w fun e w' => e = .returned (.bool true) ∧ Below w.heap.size w w' := by
  by_cases hin : (1 ≤ a ∧ a ≤ 4) ∧ (1 ≤ b ∧ b ≤ 4) ∧ 1 ≤ c ∧ c ≤ 4
  · obtain ⟨⟨a1, a2⟩, ⟨b1, b2⟩, c1, c2⟩ := hin
    cases k
    · exact rq_can a b c w wa wb a1 a2 b1 b2 c1 c2
    · exact rq_kill a b c w wa wb a1 a2 b1 b2 c1 c2
  · have hout : (a < 1) ∨ (¬ a < 1 ∧ a > 4) ∨ (¬ a < 1 ∧ ¬ a > 4 ∧ b < 1) ∨ (¬ a < 1 ∧ ¬ a > 4 ∧ ¬ b < 1 ∧ b > 4) ∨ (¬ a < 1 ∧ ¬ a > 4 ∧ ¬ b < 1 ∧ ¬ b > 4 ∧ c < 1) ∨ (¬ a < 1 ∧ ¬ a > 4 ∧ ¬ b < 1 ∧ ¬ b > 4 ∧ ¬ c < 1 ∧ c > 4) := by omega
    rcases hout with h | ⟨h0, h⟩ | ⟨h0, h1, h⟩ | ⟨h0, h1, h2, h⟩ | ⟨h0, h1, h2, h3, h⟩ | ⟨h0, h1, h2, h3, h4, h⟩
    all_goals
      go_enter Tryz.func6, Tryz.ntmps6
      go_wp2
      exact bodyPost_ret (v := .bool true) (by simp [results, Tryz.results6, go_sem]) rfl ⟨rfl, Below.refl _ w⟩
end Go.Proofs.YtpkamfbjgdmmoaaGreat
