/-
  BlakeTells, walked.
-/
import Derived.Test.YtjpmldjafkbncaaDoorBCalls
namespace Go.Proofs.YtjpmldjafkbncaaDoor
open Go.RowKit
set_option linter.unusedVariables false
set_option linter.unusedSimpArgs false

set_option maxHeartbeats 8000000 in
set_option maxRecDepth 100000 in
theorem blakeTells_walk (v0 : Value) (key : List Nat) (v1 : Value) (p : List Nat) (w : World) (hG : Glob w) (h0 : RdB w v0 key) (b0 : ∀ x ∈ key, x < 256) (m0 : key.length ≤ maxLen) (h1 : RdB w v1 p) (b1 : ∀ x ∈ p, x < 256) (m1 : p.length ≤ maxLen) :
    Calls Tryd.prog 3 #[v0, v1] w fun e w' => e = .returned (.bool true) ∧ Below w.heap.size w w' := by
  obtain ⟨ao, cap, rfl⟩ := h0.lenOf
  obtain ⟨bo, dap, rfl⟩ := h1.lenOf
  have H0 := Lib.hid h0
  have H1 := Lib.hid h1
  have B0 := Lib.hid b0
  have B1 := Lib.hid b1
  have HH := Lib.hid (⟨hG, Below.refl _ _⟩ : Hand w w)
  clear h0 h1 b0 b1 hG m0 m1
  go_enter Tryd.func3, Tryd.ntmps3
  by_cases c0 : (200 : Int) < key.length
  · go_wp2_with fail
    exact bodyPost_ret (v := .bool true) (by simp [results, Tryd.results3, go_sem]) rfl ⟨rfl, Below.refl _ _⟩
  by_cases c1 : (1000 : Int) < p.length
  · go_wp2_with fail
    exact bodyPost_ret (v := .bool true) (by simp [results, Tryd.results3, go_sem]) rfl ⟨rfl, Below.refl _ _⟩
  have L0 := Lib.hid (show key.length ≤ 1000000 by omega)
  have L1 := Lib.hid (show p.length ≤ 1000000 by omega)
  have RE := eqK
  have RG := guardH
  go_wp2_with (first
    | (go_at_call 9; refine (call_Keyed _ HH.out (HH.out.rd H0.out) H1.out B0.out B1.out L0.out L1.out).mono ?_; rintro e wn ⟨rfl, hb⟩; replace HH := Lib.hid hb; clear hb)
    | (go_at_call 10; refine (call_RKeyed HH.out (HH.out.rd H0.out) H1.out B0.out B1.out L0.out L1.out).mono ?_; rintro e wn ⟨rfl, hb⟩; replace HH := Lib.hid hb; clear hb)
    | (go_at_call 11; (first | refine (call_Sum _ HH.out H1.out B1.out L1.out).mono ?_ | refine (call_SumNil HH.out).mono ?_ | fail); rintro e wn ⟨rfl, hb⟩; replace HH := Lib.hid hb; clear hb)
    | (go_at_call 12; (first | refine (call_RSum HH.out H1.out B1.out L1.out).mono ?_ | refine (call_RSumNil HH.out).mono ?_ | fail); rintro e wn ⟨rfl, hb⟩; replace HH := Lib.hid hb; clear hb)
    | (go_at_call 13; refine (call_known HH.out).mono ?_; rintro e wn ⟨rfl, hb⟩; replace HH := Lib.hid hb; clear hb)
    | fail)
  exact bodyPost_ret (v := .bool true) (by simp [results, Tryd.results3, go_sem]) rfl ⟨rfl, HH.out.old⟩
end Go.Proofs.YtjpmldjafkbncaaDoor
