/-
  AgendaNames, walked; what Put and Cancel come to.
-/
import Derived.Test.YtbpgiahbnijidaaAk1
namespace Go.Proofs.Ytbpgiahbnijidaa
open Go.RowKit Go.Shelf
set_option linter.unusedVariables false
set_option linter.unusedSimpArgs false

theorem putE_ok {ts : List Tk} {t : Tk} (h : ¬ BadT t) (hn : ∀ u ∈ ts, u.name ≠ t.name) (hl : ts.length < 12) : putE ts t = 0 := by
  unfold putE
  rw [if_neg h, idxN_none hn, if_neg (by decide), if_neg (by omega)]
theorem putL_ok {ts : List Tk} {t : Tk} (h : putE ts t = 0) : putL ts t = insP ts t := by unfold putL; rw [if_pos h]
theorem insP_nil (t : Tk) : insP [] t = [t] := by simp [insP]
theorem putE_has {ts p : List Tk} {t u : Tk} (h : ¬ BadT t) (hp : (p ++ [u]) <+: ts) (hu : u.name = t.name) (hn : ∀ x ∈ p, x.name ≠ t.name) : putE ts t = 5 := by
  unfold putE
  rw [if_neg h, idxN_at hp hu hn, if_pos (by omega)]
theorem putL_no {ts : List Tk} {t : Tk} (h : putE ts t ≠ 0) : putL ts t = ts := by unfold putL; rw [if_neg h]
theorem bad_mkT {a b : Int} (ha : 0 ≤ a) (hb : 0 ≤ b) : ¬ BadT (mkT a b) := by
  unfold BadT mkT
  simp
  omega
theorem idxN_nil (n : Int) : idxN [] n = -1 := rfl
theorem idxN_head {t : Tk} {ts : List Tk} {n : Int} (h : t.name = n) : idxN (t :: ts) n = 0 := by
  have := idxN_at (ts := t :: ts) (p := []) (t := t) (name := n) (by simp) h (by simp)
  simpa using this
theorem delN_nil (n : Int) : delN [] n = [] := rfl
theorem delN_head {t : Tk} {ts : List Tk} {n : Int} (h : t.name = n) : delN (t :: ts) n = ts := by
  unfold delN
  rw [idxN_head h, if_pos (by decide)]
  simp [delAt]
attribute [local go_sem ↓] build_tk
set_option maxHeartbeats 4000000 in
set_option maxRecDepth 100000 in
theorem agendaNames_one (name att oth : Int) (w : World) :
    Calls Try.prog 6 #[.int .i64 name, .int .i64 att, .int .i64 oth] w fun e w' => e = .returned (.bool true) ∧ Below w.heap.size w w' := by
  go_enter Try.func6, Try.ntmps6
  by_cases c0 : name < 0
  · go_wp2_with fail
    exact bodyPost_ret (v := .bool true) (by simp [results, Try.results6, go_sem]) rfl ⟨rfl, Below.refl _ _⟩
  by_cases c1 : att < 0
  · go_wp2_with fail
    exact bodyPost_ret (v := .bool true) (by simp [results, Try.results6, go_sem]) rfl ⟨rfl, Below.refl _ _⟩
  by_cases c2 : oth < 0
  · go_wp2_with fail
    exact bodyPost_ret (v := .bool true) (by simp [results, Try.results6, go_sem]) rfl ⟨rfl, Below.refl _ _⟩
  have B1 := run_build2 name att
  have B2 := run_build2 name oth
  obtain ⟨T1, hT1⟩ : ∃ T, T = mkT name att := ⟨_, rfl⟩
  obtain ⟨T2, hT2⟩ : ∃ T, T = mkT name oth := ⟨_, rfl⟩
  have n1 : T1.name = name := by rw [hT1]; rfl
  have n2 : T2.name = name := by rw [hT2]; rfl
  have b1 : ¬ BadT T1 := by rw [hT1]; exact bad_mkT (by omega) (by omega)
  have b2 : ¬ BadT T2 := by rw [hT2]; exact bad_mkT (by omega) (by omega)
  have e1 : putE [] T1 = 0 := putE_ok b1 (by simp) (by simp)
  have e2 : putE [T1] T2 = 5 := putE_has (p := []) b2 (by simp) (n1.trans n2.symm) (by simp)
  have e3 : putE [] T2 = 0 := putE_ok b2 (by simp) (by simp)
  have l1 : putL [] T1 = [T1] := (putL_ok e1).trans (insP_nil _)
  have l2 : putL [T1] T2 = [T1] := putL_no (by rw [e2]; decide)
  have l3 : putL [] T2 = [T2] := (putL_ok e3).trans (insP_nil _)
  have i1 : decide (0 ≤ idxN [T1] name) = true := by rw [idxN_head n1]; rfl
  have d1 : delN [T1] name = [] := delN_head n1
  have i0 : decide (0 ≤ idxN [] name) = false := rfl
  rw [← hT1] at B1
  rw [← hT2] at B2
  have E1 := Lib.hid e1
  have E2 := Lib.hid e2
  have E3 := Lib.hid e3
  have L1 := Lib.hid l1
  have L2 := Lib.hid l2
  have L3 := Lib.hid l3
  have I1 := Lib.hid i1
  have D1 := Lib.hid d1
  have I0 := Lib.hid i0
  have G0 : decide (name < 0) = false := by simp only [decide_eq_false_iff_not]; exact c0
  have G1 : decide (att < 0) = false := by simp only [decide_eq_false_iff_not]; exact c1
  have G2 : decide (oth < 0) = false := by simp only [decide_eq_false_iff_not]; exact c2
  clear e1 e2 e3 l1 l2 l3 i1 d1 i0 hT1 hT2 n1 n2 b1 b2
  have HS := Lib.hid (AgSt.new w)
  go_wp2_with (first
    | (go_at_call 11; with_reducible refine (st_new _).mono ?_; rintro e w1 ⟨rfl, hs⟩; clear HS; have HS := Lib.hid hs; clear hs)
    | (go_at_call 14; with_reducible refine (st_cancel (ts := []) name HS.out (by simp)).mono ?_; rw [I0.out, delN_nil]; rintro e w2 ⟨rfl, hs⟩; clear HS; have HS := Lib.hid hs; clear hs)
    | (go_at_call 14; with_reducible refine (st_cancel (ts := [T1]) name HS.out (by simp)).mono ?_; rw [I1.out, D1.out]; rintro e w2 ⟨rfl, hs⟩; clear HS; have HS := Lib.hid hs; clear hs)
    | (go_at_call 12; with_reducible refine (st_put T1 HS.out srt_nil (by simp)).mono ?_; rw [E1.out, L1.out]; rintro e w2 ⟨rfl, hs⟩; clear HS; have HS := Lib.hid hs; clear hs)
    | (go_at_call 12; with_reducible refine (st_put T2 HS.out (srt_one _) (by simp)).mono ?_; rw [E2.out, L2.out]; rintro e w2 ⟨rfl, hs⟩; clear HS; have HS := Lib.hid hs; clear hs)
    | (go_at_call 12; with_reducible refine (st_put T2 HS.out srt_nil (by simp)).mono ?_; rw [E3.out, L3.out]; rintro e w2 ⟨rfl, hs⟩; clear HS; have HS := Lib.hid hs; clear hs)
    | (go_at_call 20; with_reducible refine (st_len HS.out).mono ?_; rintro e w5 ⟨rfl, rfl⟩)
    | (go_at_call 21; with_reducible refine (law_known _).mono ?_; rintro e wk ⟨rfl, hk⟩; have HK := Lib.hid hk; clear hk)
    | fail)
  exact bodyPost_ret (v := .bool true) (by simp [results, Try.results6, go_sem]) rfl ⟨rfl, (by obtain ⟨_, _, hB⟩ := HS.out; exact hB.trans (HK.out.mono hB.size))⟩
end Go.Proofs.Ytbpgiahbnijidaa
