/-
  BlakeRows, walked.
-/
import Derived.Test.YtjpmldjafkbncaaDoorBCalls
import Derived.Test.YtjpmldjafkbncaaDoorSized
namespace Go.Proofs.YtjpmldjafkbncaaDoor
open Go.RowKit
set_option linter.unusedVariables false
set_option linter.unusedSimpArgs false

theorem rows_lt {L : List (List Nat)} (h : ∀ x ∈ L, (∀ b ∈ x, b < 256) ∧ x.length ≤ reachBytes) : ∀ x ∈ L.flatten, x < 256 := by
  intro x hx
  obtain ⟨r, hr, hxr⟩ := List.mem_flatten.1 hx
  exact (h r hr).1 x hxr
set_option maxHeartbeats 8000000 in
set_option maxRecDepth 100000 in
theorem blakeRows_walk (v0 : Value) (L : List (List Nat)) (v1 : Value) (key : List Nat) (w : World) (hG : Glob w) (h0 : RdBB w v0 L) (b0 : ∀ x ∈ L, (∀ b ∈ x, b < 256) ∧ x.length ≤ reachBytes) (m0 : L.length ≤ maxLen) (h1 : RdB w v1 key) (b1 : ∀ x ∈ key, x < 256) (m1 : key.length ≤ maxLen) :
    Calls Tryd.prog 4 #[v0, v1] w fun e w' => e = .returned (.bool true) ∧ Below w.heap.size w w' := by
  obtain ⟨ao, cap, rfl⟩ := h0.lenOf
  obtain ⟨bo, dap, rfl⟩ := h1.lenOf
  have H0 := Lib.hid h0
  have H1 := Lib.hid h1
  have B0 := Lib.hid b0
  have BF := Lib.hid (rows_lt b0)
  have B1 := Lib.hid b1
  have HG := Lib.hid hG
  have M0 := Lib.hid m0
  clear h0 h1 b0 b1 hG m1 m0
  go_enter Tryd.func4, Tryd.ntmps4
  go_upto_region 4 with fail
  go_wp2
  go_loopw [5, 6, 7] (fun n v i wr => ∃ k : Nat, k ≤ L.length ∧ i = .int .i64 k ∧ (∃ m : Nat, n = .int .i64 m ∧ m = k + (L.take k).flatten.length ∧ m ≤ 1500) ∧ OwnB w.heap.size v (Bs (L.take k).flatten) wr ∧ Below w.heap.size w wr ∧ w.heap.size ≤ wr.heap.size) (fun _ _ i _ => L.length - (intOf i).toNat)
  case atStart => exact ⟨0, by omega, rfl, ⟨0, rfl, by simp, by omega⟩, World.ownsRow_nil _ _ _ _, Below.refl _ _, Nat.le_refl _⟩
  case round =>
    obtain ⟨k, hk, rfl, ⟨m, rfl, hm, hm1⟩, hO, hB, hs⟩ := hrel
    by_cases hlt : k < L.length
    · have hlt' : (k : Int) < L.length := by omega
      obtain ⟨rb, off, uu, rfl, hrb, hcell, hrow⟩ := H0.out.row hlt
      have hcell2 : wr.cell? ⟨rb, off + k, none⟩ = some uu := (hB.cell (p := ⟨rb, off + k, none⟩) hrb).trans hcell
      obtain ⟨R, hR⟩ : ∃ R, R = L.getD k [] := ⟨_, rfl⟩
      rw [← hR] at hrow
      have hRm : R ∈ L := by rw [hR, List.getD_eq_getElem?_getD, List.getElem?_eq_getElem hlt]; exact List.getElem_mem hlt
      have hRl := (B0.out R hRm).2
      have hRl2 : R.length ≤ 140737488355327 := by unfold reachBytes at hRl; omega
      obtain ⟨ro, rcap, rfl⟩ := hrow.lenOf
      have hft := flat_take L k hlt
      rw [← hR] at hft
      obtain ⟨m2, hm2⟩ : ∃ m2, m2 = m + 1 + R.length := ⟨_, rfl⟩
      have hk1 : k + 1 ≤ L.length := hlt
      have hk15 : (k : Int) ≤ 1500 := by omega
      have hm3 : m2 = (k + 1) + (L.take (k + 1)).flatten.length := by rw [hft, List.length_append]; omega
      have HWW := Lib.hid (show IntKind.i64.wrap ((m : Int) + 1) = ((m + 1 : Nat) : Int) ∧ IntKind.i64.wrap (((m + 1 : Nat) : Int) + (R.length : Int)) = (m2 : Int) from ⟨by rw [IntWalk.i64_in _ (by omega)]; omega, by rw [IntWalk.i64_in _ (by omega)]; omega⟩)
      obtain ⟨mm, hmm⟩ : ∃ mm, mm = m + 1 := ⟨_, rfl⟩
      rw [← hmm] at HWW
      clear hmm
      by_cases hbig : 1500 < m2
      · have hbig' : (1500 : Int) < m2 := by omega
        have HB := Lib.hid hB
        clear hB hO hm hm3 hm2 hft hRl hRl2 hR hrow hcell
        obtain ⟨W0, W1⟩ := HWW.out
        go_wp2_with fail
        exact bodyPost_ret (v := .bool true) (by simp [results, Tryd.results4, go_sem]) rfl ⟨rfl, HB.out⟩
      · have hbig' : ¬ (1500 : Int) < m2 := by omega
        have hlen : (L.take k).flatten.length + R.length ≤ 1099511627776 := by omega
        have HRR := Lib.hid (hrow.below hB)
        have HO := Lib.hid hO
        have HB := Lib.hid hB
        have HM := Lib.hid hm3
        have HFT := Lib.hid hft
        have HLN := Lib.hid hlen
        have HS := Lib.hid hs
        have HM2 := Lib.hid (show m2 ≤ 1500 by omega)
        clear hB hO hm hm3 hm2 hft hRl hRl2 hR hrow hcell hlen hs
        obtain ⟨W0, W1⟩ := HWW.out
        go_wp2_with (first | (at_builtin; refine wp_app_B (B := w.heap.size) (xs := (L.take k).flatten) (l := R) rfl rfl rfl rfl HO.out HRR.out HLN.out HS.out ?_; intro v1 w1 ho1 hb1 hs1 hgr1; clear hgr1; have HO1 := Lib.hid ho1; have HB1 := Lib.hid hb1; have HS1 := Lib.hid hs1; clear ho1 hb1 hs1) | fail)
        clear W0 W1
        exact ⟨⟨k + 1, hk1, by go_num, ⟨m2, rfl, HM.out, HM2.out⟩, by rw [HFT.out]; exact HO1.out, HB.out.trans HB1.out, HS1.out⟩, by simp [intOf]; omega⟩
    · have hkn : k = L.length := by omega
      subst hkn
      rw [List.take_length] at hm hO
      have hfl : L.flatten.length ≤ 1000000 := by omega
      have hll : (L.length : Int) ≤ 4611686018427387904 := by omega
      have HOLD := Lib.hid hB
      have hrd := hO.reads
      obtain ⟨xo, xc, hv⟩ := hrd.lenOf
      obtain ⟨fl, hfl2⟩ : ∃ fl, fl = L.flatten.length := ⟨_, rfl⟩
      rw [← hfl2] at hv
      subst hv
      have HR := Lib.hid hrd
      clear hrd hfl2
      have H0' := Lib.hid (H0.out.below hB)
      have H1' := Lib.hid (H1.out.below hB)
      have HH := Lib.hid (⟨HG.out.below hB HG.out.lt, Below.refl _ _⟩ : Hand wr wr)
      have HFL := Lib.hid hfl
      have HLL := Lib.hid hll
      have BR := Lib.hid (fun l hl => (B0.out l hl).1 : ∀ l ∈ L, ∀ x ∈ l, x < 256)
      have RE := eqK
      have RG := guardH
      clear hO hB hs hm hfl hll
      by_cases g0 : (200 : Int) < key.length
      · go_wp2_with fail
        exact bodyPost_ret (v := .bool true) (by simp [results, Tryd.results4, go_sem]) rfl ⟨rfl, HOLD.out⟩
      have L1 := Lib.hid (show key.length ≤ 1000000 by omega)
      go_wp2_with (first
        | (go_at_call 11; (first | with_reducible refine (call_Sum _ HH.out HR.out BF.out HFL.out).mono ?_ | with_reducible refine (call_SumRows HH.out H0'.out BR.out HFL.out HLL.out).mono ?_ | fail); rintro e wn ⟨rfl, hb⟩; replace HH := Lib.hid hb; clear hb)
        | (go_at_call 9; (first | with_reducible refine (call_Keyed _ HH.out (HH.out.rd H1'.out) HR.out B1.out BF.out L1.out HFL.out).mono ?_ | with_reducible refine (call_KeyedRows HH.out H1'.out H0'.out B1.out BR.out L1.out HFL.out HLL.out).mono ?_ | fail); rintro e wn ⟨rfl, hb⟩; replace HH := Lib.hid hb; clear hb)
        | (go_at_call 13; refine (call_known HH.out).mono ?_; rintro e wn ⟨rfl, hb⟩; replace HH := Lib.hid hb; clear hb)
        | fail)
      exact bodyPost_ret (v := .bool true) (by simp [results, Tryd.results4, go_sem]) rfl ⟨rfl, HOLD.out.trans (HH.out.old.mono HOLD.out.size)⟩
end Go.Proofs.YtjpmldjafkbncaaDoor
