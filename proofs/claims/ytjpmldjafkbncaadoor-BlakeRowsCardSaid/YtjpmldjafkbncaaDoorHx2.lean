/-
  The code's digits of a digest.
-/
import Derived.Test.YtjpmldjafkbncaaDoorHx1
import Derived.Test.YtjpmldjafkbncaaDoorBlkE
import Derived.BigRegion
namespace Go.Proofs.YtjpmldjafkbncaaDoor
open Go.RowKit
set_option linter.unusedVariables false
set_option linter.unusedSimpArgs false

theorem zeroB64 : (Tryd.prog.info? 46).bind (·.zero) = some (.agg (Bs (List.replicate 64 0)).toArray) := by kernel_rfl
theorem cellB {w : World} {b : Nat} {l : List Nat} {t : TypeId} {fr : Nat × Nat} (h : w.heap[b]? = some (.cells (Bs l).toArray t fr)) {i : Nat} (hi : i < l.length) : w.cell? ⟨b, i, none⟩ = some (.int .u8 (gt l i : Nat)) := by
  simp [World.cell?, h, Bs, gt, hi]
set_option maxHeartbeats 8000000 in
set_option maxRecDepth 100000 in
theorem blake_Hex (h : List Nat) (hl : h.length = 32) (hb : ∀ i, gt h i < 256) (w : World) :
    Calls Tryd.prog 14 #[.agg (Bs h).toArray] w fun e w' => e = .returned (Str (hexL h)) ∧ Below w.heap.size w w' := by
  have HL := Lib.hid hl
  have HB := Lib.hid hb
  clear hl hb
  go_enter Tryd.func14, Tryd.ntmps14
  go_upto_region 1 with fail
  apply wp_region_lit
  refine wpl_alloc 46 _ rfl rfl zeroB64 ?_
  dsimp only [Act.put]
  obtain ⟨wz, hwz⟩ : ∃ wz, wz = (w.alloc (.cells (Bs h).toArray 24)).alloc (.cells (Bs (List.replicate 64 0)).toArray 46) := ⟨_, rfl⟩
  rw [← hwz]
  obtain ⟨bb, hbb⟩ : ∃ bb, bb = (w.alloc (.cells (Bs h).toArray 24)).heap.size := ⟨_, rfl⟩
  rw [← hbb]
  have hzb : wz.heap[bb]? = some (.cells (Bs (hexTo h 0)).toArray 46 (0, 0)) := by rw [hwz, hbb, hexTo_zero]; exact heap_alloc_new _ _
  have hzh : wz.heap[w.heap.size]? = some (.cells (Bs h).toArray 24 (0, 0)) := by rw [hwz]; exact (Below.heap_alloc _ _ _ (by simp)).trans (heap_alloc_new w _)
  have hzB : Below w.heap.size w wz := by rw [hwz]; exact ((Below.refl _ _).alloc (Nat.le_refl _) _).alloc (by simp) _
  have hbs : w.heap.size < bb := by rw [hbb]; simp
  have HZ := Lib.hid hzb
  have HZH := Lib.hid hzh
  have HZB := Lib.hid hzB
  clear hwz hzb hzh hzB hbb
  go_wp2_with (first | (refine wpl_load w.heap.size 24 24 _ (Bs h).toArray (0, 0) _ rfl rfl rfl HZH.out Tryd.underlying24 rfl (by rw [infoH, Bs_size, HL.out]) ?_) | fail)
  go_loopw [7] (fun i wr => ∃ n : Nat, n ≤ 32 ∧ i = .int .i64 n ∧ wr.heap[bb]? = some (.cells (Bs (hexTo h n)).toArray 46 (0, 0)) ∧ Below w.heap.size w wr) (fun i _ => 32 - (intOf i).toNat)
  case atStart => exact ⟨0, by omega, rfl, HZ.out, HZB.out⟩
  case round =>
    obtain ⟨n, hn, rfl, hO, hB⟩ := hrel
    by_cases hlt : n < 32
    · have hlt' : (n : Int) < 32 := by omega
      obtain ⟨c, hc⟩ : ∃ c, c = gt h n := ⟨_, rfl⟩
      have hcb : c < 256 := by rw [hc]; exact HB.out n
      have RI : ∀ w, (Instr.index 24 (.agg (Bs h).toArray) (.int .i64 (n : Int))).run Tryd.prog w = .ok (.int .u8 (c : Int)) w := fun w => by rw [hc]; exact run_index_Bs w h HL.out n hlt
      obtain ⟨a, ha⟩ : ∃ a, a = c / 16 := ⟨_, rfl⟩
      obtain ⟨b, hb⟩ : ∃ b, b = c % 16 := ⟨_, rfl⟩
      have RA : ∀ w k, (Instr.index 9 (.string { data := #[48, 49, 50, 51, 52, 53, 54, 55, 56, 57, 97, 98, 99, 100, 101, 102] }) (.int k (a : Int))).run Tryd.prog w = .ok (.int .u8 (digL a : Nat)) w := fun w k => run_index_hex w k a (by omega)
      have RB : ∀ w k, (Instr.index 9 (.string { data := #[48, 49, 50, 51, 52, 53, 54, 55, 56, 57, 97, 98, 99, 100, 101, 102] }) (.int k (b : Int))).run Tryd.prog w = .ok (.int .u8 (digL b : Nat)) w := fun w k => run_index_hex w k b (by omega)
      have S1 : (c : Int) / 16 = (a : Int) := by omega
      have S2 : (c : Int) % 16 = (b : Int) := by omega
      have hs := hexTo_succ h n hlt
      rw [← hc, ← ha, ← hb] at hs
      obtain ⟨m0, hm0⟩ : ∃ m0, m0 = 2 * n := ⟨_, rfl⟩
      obtain ⟨m1, hm1⟩ : ∃ m1, m1 = 2 * n + 1 := ⟨_, rfl⟩
      rw [← hm1, ← hm0] at hs
      have W0 : IntKind.i64.wrap (2 * (n : Int)) = (m0 : Int) := by rw [IntWalk.i64_in _ (by omega)]; omega
      have W1 : IntKind.i64.wrap ((m0 : Int) + 1) = (m1 : Int) := by rw [IntWalk.i64_in _ (by omega)]; omega
      have l0 : (m0 : Int) < 64 := by omega
      have l1 : (m1 : Int) < 64 := by omega
      have c0 : wr.cell? ⟨bb, m0, none⟩ = some (.int .u8 (gt (hexTo h n) m0 : Nat)) := cellB hO (by rw [hexTo_len]; omega)
      have c1 : wr.cell? ⟨bb, m1, none⟩ = some (.int .u8 (gt (hexTo h n) m1 : Nat)) := cellB hO (by rw [hexTo_len]; omega)
      have f0 : wr.frozen? ⟨bb, m0, none⟩ = false := frozen_of_row wr bb _ _ _ hO
      have f1 : wr.frozen? ⟨bb, m1, none⟩ = false := frozen_of_row wr bb _ _ _ hO
      have hne : (m1 = m0) = False := by simp; omega
      have hne2 : (m0 = m1) = False := by simp; omega
      have hO2 : ((wr.setCell ⟨bb, m0, none⟩ (.int .u8 (digL a : Nat))).setCell ⟨bb, m1, none⟩ (.int .u8 (digL b : Nat))).heap[bb]? = some (.cells (Bs (hexTo h (n + 1))).toArray 46 (0, 0)) := by
        rw [heap_setCell_same _ _ _ _ _ _ (heap_setCell_same _ _ _ _ _ _ hO), Bs_set, Bs_set, hs]
      have hB2 : Below w.heap.size w ((wr.setCell ⟨bb, m0, none⟩ (.int .u8 (digL a : Nat))).setCell ⟨bb, m1, none⟩ (.int .u8 (digL b : Nat))).drew := ((hB.setCell (p := ⟨bb, m0, none⟩) (Nat.le_of_lt hbs) _).setCell (p := ⟨bb, m1, none⟩) (Nat.le_of_lt hbs) _).drew
      have HO := Lib.hid hO2
      have HBW := Lib.hid hB2
      clear hO hB hc ha hb hO2 hB2 hs hm0 hm1
      go_wp2
      go_region
      go_wp2
      exact ⟨⟨n + 1, by omega, by go_num, HO.out, HBW.out⟩, by simp [intOf]; omega⟩
    · have hn32 : n = 32 := by omega
      subst hn32
      rw [show ((32 : Nat) : Int) = 32 from rfl]
      have HO := Lib.hid hO
      have HBW := Lib.hid hB
      clear hO hB
      rw [hexTo_all] at HO
      have RC : (convert 22 9 (.slice (some ⟨bb, 0, none⟩) 64 64)).run Tryd.prog wr = .ok (Str (hexL h)) wr := run_string_of wr _ _ (.inr ⟨⟨bb, 0, none⟩, 64, by rw [hexL_len], by rw [hexL_len]; omega, fun i hi => by
        rw [add_at, Nat.zero_add, cellB HO.out hi]; simp [gt]⟩) (hexL_lt h HB.out)
      go_wp2_with fail
      exact bodyPost_ret (v := Str (hexL h)) (by simp [results, Tryd.results14, go_sem]) rfl ⟨rfl, HBW.out⟩
end Go.Proofs.YtjpmldjafkbncaaDoor
