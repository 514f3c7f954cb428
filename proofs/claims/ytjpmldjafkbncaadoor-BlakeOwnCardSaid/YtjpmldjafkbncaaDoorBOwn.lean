/-
  BlakeOwn, walked.
-/
import Derived.Test.YtjpmldjafkbncaaDoorBCalls
import Derived.Test.YtjpmldjafkbncaaDoorWholeG
namespace Go.Proofs.YtjpmldjafkbncaaDoor
open Go.RowKit
set_option linter.unusedVariables false
set_option linter.unusedSimpArgs false

theorem zeroH : (Tryd.prog.info? 24).bind (·.zero) = some (.agg (Bs (List.replicate 32 0)).toArray) := by kernel_rfl
/-- A digest laid into a new block. -/
theorem laid_hash {w0 w : World} {l : List Nat} (h : Hand w0 w) : Hand w0 ((w.alloc (.cells (Bs (List.replicate 32 0)).toArray 24)).setRow w.heap.size (Bs l).toArray) ∧ ((w.alloc (.cells (Bs (List.replicate 32 0)).toArray 24)).setRow w.heap.size (Bs l).toArray).heap[w.heap.size]? = some (.cells (Bs l).toArray 24 (0, 0)) ∧ w.heap.size < ((w.alloc (.cells (Bs (List.replicate 32 0)).toArray 24)).setRow w.heap.size (Bs l).toArray).heap.size :=
  ⟨h.on (setRow_below (below_new _ _) (Nat.le_refl _)), setRow_heap _ _ _ _ _ _ (heap_alloc_new w _), by simp⟩
set_option maxHeartbeats 8000000 in
set_option maxRecDepth 100000 in
theorem blakeOwn_walk (v0 : Value) (key : List Nat) (v1 : Value) (p : List Nat) (w : World) (hG : Glob w) (h0 : RdB w v0 key) (b0 : ∀ x ∈ key, x < 256) (m0 : key.length ≤ maxLen) (h1 : RdB w v1 p) (b1 : ∀ x ∈ p, x < 256) (m1 : p.length ≤ maxLen) :
    Calls Tryd.prog 8 #[v0, v1] w fun e w' => e = .returned (.bool true) ∧ Below w.heap.size w w' := by
  obtain ⟨ao, cap, rfl⟩ := h0.lenOf
  obtain ⟨bo, dap, rfl⟩ := h1.lenOf
  have H0 := Lib.hid h0
  have H1 := Lib.hid h1
  have B0 := Lib.hid b0
  have B1 := Lib.hid b1
  have HH := Lib.hid (⟨hG, Below.refl _ _⟩ : Hand w w)
  clear h0 h1 b0 b1 hG m0 m1
  go_enter Tryd.func8, Tryd.ntmps8
  by_cases c0 : (200 : Int) < key.length
  · go_wp2_with fail
    exact bodyPost_ret (v := .bool true) (by simp [results, Tryd.results8, go_sem]) rfl ⟨rfl, Below.refl _ _⟩
  by_cases c1 : (500 : Int) < p.length
  · go_wp2_with fail
    exact bodyPost_ret (v := .bool true) (by simp [results, Tryd.results8, go_sem]) rfl ⟨rfl, Below.refl _ _⟩
  have L0 := Lib.hid (show key.length ≤ 1000000 by omega)
  have L1 := Lib.hid (show p.length ≤ 1000000 by omega)
  have RE := eqK
  have RG := guardH
  have RS := run_eql_Str
  have RGS := run_guard_Strs
  have C0 : (convert 22 9 (.slice ao key.length cap)).run Tryd.prog w = .ok (Str key) w := run_string_of w _ _ H0.out B0.out
  have C0' : (convert 22 9 (.slice ao key.length cap)).run Tryd.prog w.drew = .ok (Str key) w.drew := run_string_of w.drew _ _ H0.out B0.out
  have C1 : (convert 22 9 (.slice bo p.length dap)).run Tryd.prog w = .ok (Str p) w := run_string_of w _ _ H1.out B1.out
  have C1' : (convert 22 9 (.slice bo p.length dap)).run Tryd.prog w.drew = .ok (Str p) w.drew := run_string_of w.drew _ _ H1.out B1.out
  go_wp2
  go_region
  obtain ⟨wd, hwd⟩ : ∃ wd, wd = w.drew := ⟨_, rfl⟩
  rw [← hwd]
  replace HH := Lib.hid (show Hand w wd by rw [hwd]; exact ⟨HH.out.glob.of (Nat.le_refl _) (fun _ _ => rfl), (Below.refl _ _).drew⟩)
  clear hwd C0 C0' C1 C1'
  go_upto_region 5 with (first
    | (go_at_call 9; refine (call_Keyed _ HH.out (HH.out.rd H0.out) H1.out B0.out B1.out L0.out L1.out).mono ?_; rintro e wn ⟨rfl, hb⟩; replace HH := Lib.hid hb; clear hb)
    | (refine wpl_alloc 24 _ rfl rfl zeroH ?_)
    | (refine wpl_store wn.heap.size 24 24 _ _ (Bs (List.replicate 32 0)).toArray (Bs (keyedL key p)).toArray rfl rfl rfl rfl (heap_alloc_new wn _) (by rw [infoH, Bs_size, keyedL_len]) (by rw [Bs_size, Bs_size, keyedL_len]; rfl) (Bs_all _) ?_)
    | fail)
  obtain ⟨hh, hc, hs⟩ := laid_hash (l := keyedL key p) HH.out
  obtain ⟨b1, hb1⟩ : ∃ b1, b1 = wn.heap.size := ⟨_, rfl⟩
  obtain ⟨wx, hwx⟩ : ∃ wx, wx = (wn.alloc (.cells (Bs (List.replicate 32 0)).toArray 24)).setRow wn.heap.size (Bs (keyedL key p)).toArray := ⟨_, rfl⟩
  rw [← hwx] at hh hc hs ⊢
  rw [← hb1] at hc hs ⊢
  have HOLD := Lib.hid hh.old
  replace H0 := Lib.hid (hh.rd H0.out)
  replace H1 := Lib.hid (hh.rd H1.out)
  replace HH := Lib.hid (⟨hh.glob, Below.refl _ _⟩ : Hand wx wx)
  have HC1 := Lib.hid hc
  have HS1 := Lib.hid hs
  clear hh hc hs hwx hb1
  go_upto_region 6 with (first
    | (go_at_call 9; refine (call_Keyed _ HH.out (HH.out.rd H0.out) H1.out B0.out B1.out L0.out L1.out).mono ?_; rintro e wn ⟨rfl, hb⟩; replace HH := Lib.hid hb; clear hb)
    | (refine wpl_alloc 24 _ rfl rfl zeroH ?_)
    | (refine wpl_store wn.heap.size 24 24 _ _ (Bs (List.replicate 32 0)).toArray (Bs (keyedL key p)).toArray rfl rfl rfl rfl (heap_alloc_new wn _) (by rw [infoH, Bs_size, keyedL_len]) (by rw [Bs_size, Bs_size, keyedL_len]; rfl) (Bs_all _) ?_)
    | fail)
  obtain ⟨hh, hc, hs⟩ := laid_hash (l := keyedL key p) HH.out
  have hlt := hs
  have hw1 := HH.out.old.size
  obtain ⟨b2, hb2⟩ : ∃ b2, b2 = wn.heap.size := ⟨_, rfl⟩
  obtain ⟨wy, hwy⟩ : ∃ wy, wy = (wn.alloc (.cells (Bs (List.replicate 32 0)).toArray 24)).setRow wn.heap.size (Bs (keyedL key p)).toArray := ⟨_, rfl⟩
  dsimp only [Act.put]
  rw [← hwy] at hh hc hs ⊢
  rw [← hb2] at hc hs ⊢
  have HC2 := Lib.hid hc
  have HC3 := Lib.hid ((hh.old.block b1 HS1.out).trans HC1.out)
  have C0 : (convert 22 9 (.slice ao key.length cap)).run Tryd.prog wy = .ok (Str key) wy := run_string_of wy _ _ (hh.rd H0.out) B0.out
  have C1 : (convert 22 9 (.slice bo p.length dap)).run Tryd.prog wy = .ok (Str p) wy := run_string_of wy _ _ (hh.rd H1.out) B1.out
  have HO2 := Lib.hid (HOLD.out.trans (hh.old.mono HOLD.out.size))
  replace HH := Lib.hid (⟨hh.glob, Below.refl _ _⟩ : Hand wy wy)
  clear hh hc hs hwy hb2 hlt hw1
  go_wp2_with (first
    | (go_at_call 13; refine (call_known HH.out).mono ?_; rintro e wn ⟨rfl, hb⟩; replace HH := Lib.hid hb; clear hb)
    | (refine wpl_load_g b1 24 24 _ (Bs (keyedL key p)).toArray (0, 0) _ (by rfl) rfl rfl HC3.out Tryd.underlying24 rfl (by rw [infoH, Bs_size, keyedL_len]) ?_)
    | (refine wpl_load_g b2 24 24 _ (Bs (keyedL key p)).toArray (0, 0) _ (by rfl) rfl rfl HC2.out Tryd.underlying24 rfl (by rw [infoH, Bs_size, keyedL_len]) ?_)
    | fail)
  exact bodyPost_ret (v := .bool true) (by simp [results, Tryd.results8, go_sem]) rfl ⟨rfl, HO2.out.trans (HH.out.old.mono HO2.out.size)⟩
end Go.Proofs.YtjpmldjafkbncaaDoor
