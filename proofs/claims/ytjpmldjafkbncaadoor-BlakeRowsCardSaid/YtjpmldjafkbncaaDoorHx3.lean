/-
  The document's digits of a digest.
-/
import Derived.Test.YtjpmldjafkbncaaDoorHx2
namespace Go.Proofs.YtjpmldjafkbncaaDoor
open Go.RowKit
set_option linter.unusedVariables false
set_option linter.unusedSimpArgs false

theorem hexL_take (h : List Nat) (n : Nat) (hn : n < 32) : (hexL h).take (2 * (n + 1)) = ((hexL h).take (2 * n) ++ [digL (gt h n / 16)]) ++ [digL (gt h n % 16)] := by
  have e0 : hexAt h (2 * n) = digL (gt h n / 16) := by
    unfold hexAt
    rw [if_pos (by omega), show (2 * n) / 2 = n by omega]
  have e1 : hexAt h (2 * n + 1) = digL (gt h n % 16) := by
    unfold hexAt
    rw [if_neg (by omega), show (2 * n + 1) / 2 = n by omega]
  rw [show 2 * (n + 1) = 2 * n + 1 + 1 by omega, List.take_succ_eq_append_getElem (by rw [hexL_len]; omega), List.take_succ_eq_append_getElem (by rw [hexL_len]; omega), ← e0, ← e1]
  simp [hexL]
set_option maxHeartbeats 8000000 in
set_option maxRecDepth 100000 in
theorem ref_Hex (h : List Nat) (hl : h.length = 32) (hb : ∀ i, gt h i < 256) (w : World) :
    Calls Tryd.prog 15 #[.agg (Bs h).toArray] w fun e w' => e = .returned (Str (hexL h)) ∧ Below w.heap.size w w' := by
  have HL := Lib.hid hl
  have HB := Lib.hid hb
  clear hl hb
  go_enter Tryd.func15, Tryd.ntmps15
  obtain ⟨wz, hwz⟩ : ∃ wz, wz = w.alloc (.cells (Bs h).toArray 24) := ⟨_, rfl⟩
  go_upto_region 2 with fail
  rw [← hwz]
  have hzh : wz.heap[w.heap.size]? = some (.cells (Bs h).toArray 24 (0, 0)) := by rw [hwz]; exact heap_alloc_new w _
  have hzB : Below w.heap.size w wz := by rw [hwz]; exact (Below.refl _ _).alloc (Nat.le_refl _) _
  have HZH := Lib.hid hzh
  have HZB := Lib.hid hzB
  clear hwz hzh hzB
  have E0 : (Value.string { data := #[] }) = Str ((hexL h).take (2 * 0)) := by simp [Str, Us]
  go_wp2
  go_loopw [4, 5] (fun s i wr => ∃ n : Nat, n ≤ 32 ∧ i = .int .i64 n ∧ s = Str ((hexL h).take (2 * n)) ∧ wr.heap[w.heap.size]? = some (.cells (Bs h).toArray 24 (0, 0)) ∧ Below w.heap.size w wr) (fun _ i _ => 32 - (intOf i).toNat)
  case atStart => exact ⟨0, by omega, rfl, E0, HZH.out, HZB.out⟩
  case round =>
    obtain ⟨n, hn, rfl, rfl, hO, hB⟩ := hrel
    by_cases hlt : n < 32
    · have hlt' : (n : Int) < 32 := by omega
      obtain ⟨c, hc⟩ : ∃ c, c = gt h n := ⟨_, rfl⟩
      have hcb : c < 256 := by rw [hc]; exact HB.out n
      have hcell : wr.cell? ⟨w.heap.size, n, none⟩ = some (.int .u8 (c : Int)) := by rw [hc]; exact cellB hO (by rw [HL.out]; exact hlt)
      obtain ⟨a, ha⟩ : ∃ a, a = c / 16 := ⟨_, rfl⟩
      obtain ⟨b, hb⟩ : ∃ b, b = c % 16 := ⟨_, rfl⟩
      obtain ⟨a1, ha1⟩ : ∃ a1, a1 = a + 1 := ⟨_, rfl⟩
      obtain ⟨b1, hb1⟩ : ∃ b1, b1 = b + 1 := ⟨_, rfl⟩
      have S1 : (c : Int) / 16 = (a : Int) := by omega
      have S2 : (c : Int) % 16 = (b : Int) := by omega
      have W1 : IntKind.u8.wrap ((a : Int) + 1) = (a1 : Int) := by rw [IntKind.wrap_u8]; omega
      have W2 : IntKind.u8.wrap ((b : Int) + 1) = (b1 : Int) := by rw [IntKind.wrap_u8]; omega
      have V1 : ((a : Int) + 1) % 256 = (a1 : Int) := by omega
      have V2 : ((b : Int) + 1) % 256 = (b1 : Int) := by omega
      have RA : ∀ w k k', (Instr.slice 9 (.string { data := #[48, 49, 50, 51, 52, 53, 54, 55, 56, 57, 97, 98, 99, 100, 101, 102] }) (some (.int k (a : Int))) (some (.int k' (a1 : Int))) none).run Tryd.prog w = .ok (Str [digL a]) w := fun w k k' => by rw [ha1]; exact run_slice_hex w k k' a (by omega)
      have RB : ∀ w k k', (Instr.slice 9 (.string { data := #[48, 49, 50, 51, 52, 53, 54, 55, 56, 57, 97, 98, 99, 100, 101, 102] }) (some (.int k (b : Int))) (some (.int k' (b1 : Int))) none).run Tryd.prog w = .ok (Str [digL b]) w := fun w k k' => by rw [hb1]; exact run_slice_hex w k k' b (by omega)
      obtain ⟨T, hT⟩ : ∃ T, T = (hexL h).take (2 * n) := ⟨_, rfl⟩
      have hTl : T.length ≤ 64 := by rw [hT]; simp [hexL_len]; omega
      have hs := hexL_take h n hlt
      rw [← hc, ← ha, ← hb, ← hT] at hs
      have RC : ∀ w, (binOp .add 9 (Str T) (Str [digL a])).run Tryd.prog w = .ok (Str (T ++ [digL a])) w := fun w => run_add_Str w _ _ (by omega) (by simp)
      have RD : ∀ w, (binOp .add 9 (Str (T ++ [digL a])) (Str [digL b])).run Tryd.prog w = .ok (Str (T ++ [digL a] ++ [digL b])) w := fun w => run_add_Str w _ _ (by simp; omega) (by simp)
      rw [← hT]
      have HO := Lib.hid hO
      have HBW := Lib.hid hB
      have HS := Lib.hid hs
      clear hO hB hc ha hb ha1 hb1 hs hT
      go_wp2
      go_region
      go_wp2
      exact ⟨⟨n + 1, by omega, by go_num, by rw [HS.out, List.append_assoc]; rfl, HO.out, HBW.out.drew⟩, by simp [intOf]; omega⟩
    · have hn32 : n = 32 := by omega
      subst hn32
      rw [show ((32 : Nat) : Int) = 32 from rfl]
      have HO := Lib.hid hO
      have HBW := Lib.hid hB
      clear hO hB
      rw [List.take_of_length_le (by rw [hexL_len]; omega)]
      go_wp2_with fail
      exact bodyPost_ret (v := Str (hexL h)) (by simp [results, Tryd.results15, go_sem]) rfl ⟨rfl, HBW.out⟩
end Go.Proofs.YtjpmldjafkbncaaDoor
