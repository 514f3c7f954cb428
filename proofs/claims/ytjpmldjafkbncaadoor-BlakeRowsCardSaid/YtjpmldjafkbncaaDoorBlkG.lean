/-
  The document's digest without a key.
-/
import Derived.Test.YtjpmldjafkbncaaDoorBlkF
namespace Go.Proofs.YtjpmldjafkbncaaDoor
open Go.RowKit
set_option linter.unusedVariables false
set_option linter.unusedSimpArgs false

set_option maxHeartbeats 8000000 in
set_option maxRecDepth 100000 in
theorem ref_Sum (u : Value) (p : List Nat) (w : World) (hp : RdB w u p) (bp : ∀ x ∈ p, x < 256) (lp : p.length ≤ 1000000) :
    Calls Tryd.prog 12 #[u] w fun e w' => e = .returned (.agg (Bs (keyedL [] p)).toArray) ∧ Below w.heap.size w w' := by
  have HP := Lib.hid hp
  have HBP := Lib.hid bp
  have hout : (keyedL [] p).length = 32 := outL_len _
  obtain ⟨O, hO⟩ : ∃ O, O = keyedL [] p := ⟨_, rfl⟩
  rw [← hO] at hout ⊢
  have HO := Lib.hid hO
  have HOUT := Lib.hid hout
  clear hp bp hO hout
  go_enter Tryd.func12, Tryd.ntmps12
  go_upto_region 1 with fail
  obtain ⟨wz, hwz⟩ : ∃ wz, wz = w.alloc (.cells #[.int .u8 0, .int .u8 0, .int .u8 0, .int .u8 0, .int .u8 0, .int .u8 0, .int .u8 0, .int .u8 0, .int .u8 0, .int .u8 0, .int .u8 0, .int .u8 0, .int .u8 0, .int .u8 0, .int .u8 0, .int .u8 0, .int .u8 0, .int .u8 0, .int .u8 0, .int .u8 0, .int .u8 0, .int .u8 0, .int .u8 0, .int .u8 0, .int .u8 0, .int .u8 0, .int .u8 0, .int .u8 0, .int .u8 0, .int .u8 0, .int .u8 0, .int .u8 0] 24) := ⟨_, rfl⟩
  rw [← hwz]
  rw [zero32] at hwz
  have hzb : wz.heap[w.heap.size]? = some (.cells (Bs (List.replicate 32 0)).toArray 24 (0, 0)) := by rw [hwz]; exact heap_alloc_new w _
  have hzs : w.heap.size < wz.heap.size := by rw [hwz]; simp
  have hzB : Below w.heap.size w wz := by rw [hwz]; exact (Below.refl _ _).alloc (Nat.le_refl _) _
  have HZB := Lib.hid hzb
  have HZBB := Lib.hid hzB
  clear hwz hzb hzB
  have HC := Lib.hid (ref_Keyed (.slice none 0 0) u [] p wz (.inl ⟨rfl, rfl⟩) (HP.out.below HZBB.out) (fun x hx => by cases hx) HBP.out (by decide) lp)
  rw [← HO.out] at HC
  go_wp2_with (first | (go_at_call 10; refine (HC.out).mono ?_; rintro e wM ⟨rfl, hM⟩; have hz : wM.heap[w.heap.size]? = some (.cells (Bs (List.replicate 32 0)).toArray 24 (0, 0)) := ((hM.block _ (by omega)).trans HZB.out); have HM := Lib.hid hM; have HZ := Lib.hid hz; clear hM hz) | (refine wpl_store w.heap.size 24 24 _ _ (Bs (List.replicate 32 0)).toArray (Bs O).toArray rfl rfl rfl rfl HZ.out (by rw [infoH, Bs_size, HOUT.out]) (by rw [Bs_size, Bs_size, HOUT.out]; rfl) (Bs_all _) ?_) | fail)
  refine bodyPost_ret (results_row (b := w.heap.size) (t := 24) Tryd.results12 rfl (setRow_heap wM w.heap.size _ _ _ _ HZ.out) Tryd.underlying24 rfl (by rw [infoH, Bs_size, HOUT.out])) rfl ⟨rfl, ?_⟩
  exact setRow_below (HZBB.out.trans (HM.out.mono (Nat.le_of_lt hzs))) (Nat.le_refl _)
end Go.Proofs.YtjpmldjafkbncaaDoor
