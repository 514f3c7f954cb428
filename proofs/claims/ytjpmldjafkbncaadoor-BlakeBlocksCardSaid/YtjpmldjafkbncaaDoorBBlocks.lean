/-
  BlakeBlocks, walked.
-/
import Derived.Test.YtjpmldjafkbncaaDoorBCalls
import Derived.Deep.OwnRows
namespace Go.Proofs.YtjpmldjafkbncaaDoor
open Go.RowKit
set_option linter.unusedVariables false
set_option linter.unusedSimpArgs false

theorem infoU8 : (Tryd.prog.info? 5).map (fun i => (i.zero, i.size, i.bytes)) = some (some (.int .u8 0), 1, 1) := by kernel_rfl
theorem made_Bs (n : Nat) : madeCells #[.int .u8 0] n = (Bs (List.replicate n 0)).toArray := by
  apply Array.ext
  · simp [madeCells, Bs]
  · intro i h1 h2
    simp [madeCells, Bs, Nat.mod_one]
theorem run_make_Bs (n : Nat) (hn : n ≤ 1000) (w : World) : (Instr.makeSlice 22 (.int .i64 (n : Int)) (.int .i64 (n : Int))).run Tryd.prog w = .ok (.slice (some ⟨w.heap.size, 0, none⟩) n n) (w.alloc (.cells (Bs (List.replicate n 0)).toArray 5)) := by
  rw [← made_Bs]
  exact run_make_row' 22 5 (.int .u8 0) 1 Tryd.underlying22 infoU8 rfl .i64 .i64 n (by omega) (by omega) w
section
variable {w0 w : World} {u : Value} {p : List Nat}
theorem rd_one (c : Nat) (t : TypeId) : RdB (w.alloc (.cells #[.int .u8 (c : Int)] t)) (.slice (some ⟨w.heap.size, 0, none⟩) 1 1) [c] := .inr ⟨_, 1, rfl, by simp, fun i hi => by
  have : i = 0 := by simpa using hi
  subst this
  rw [add_at, World.cell?, heap_alloc_new w]; rfl⟩
theorem call_Keyed1 (t t' : TypeId) (c : Nat) (hc : c < 256) (h : Hand w0 w) (hp : RdB w0 u p) (bp : ∀ x ∈ p, x < 256) (lp : p.length ≤ 1000000) :
    Calls Tryd.prog 9 #[.slice (some ⟨w.heap.size, 0, none⟩) 1 1, .slice (some ⟨w.heap.size + 1, 0, none⟩) 1 1] ((w.alloc (.cells #[.int .u8 (c : Int)] t)).alloc (.cells #[u] t')) fun e w' => e = .returned (.agg (Bs (keyedL [c] p)).toArray) ∧ Hand w0 w' := by
  have e : (w.alloc (.cells #[.int .u8 (c : Int)] t)).heap.size = w.heap.size + 1 := by simp
  rw [← e]
  exact call_Keyed t' (h.new _) (rd_one c t) hp (by simpa using hc) bp (by simp) lp
theorem call_RKeyed1 (t : TypeId) (c : Nat) (hc : c < 256) (h : Hand w0 w) (hp : RdB w0 u p) (bp : ∀ x ∈ p, x < 256) (lp : p.length ≤ 1000000) :
    Calls Tryd.prog 10 #[.slice (some ⟨w.heap.size, 0, none⟩) 1 1, u] (w.alloc (.cells #[.int .u8 (c : Int)] t)) fun e w' => e = .returned (.agg (Bs (keyedL [c] p)).toArray) ∧ Hand w0 w' :=
  call_RKeyed (h.new _) (rd_one c t) hp (by simpa using hc) bp (by simp) lp
end

set_option maxHeartbeats 8000000 in
set_option maxRecDepth 100000 in
theorem blakeBlocks_walk (a b c0 : Int) (w : World) (hG : Glob w) (wa : (Lit.int .i64 a).wf = true) (wb : (Lit.int .i64 b).wf = true) (wc : (Lit.int .u8 c0).wf = true) :
    Calls Tryd.prog 5 #[.int .i64 a, .int .i64 b, .int .u8 c0] w fun e w' => e = .returned (.bool true) ∧ Below w.heap.size w w' := by
  obtain ⟨c, rfl⟩ : ∃ c : Nat, c0 = (c : Int) := ⟨c0.toNat, by have := wf_u8 wc; omega⟩
  have hc : c < 256 := by have := wf_u8 wc; omega
  have HC := Lib.hid hc
  have HH := Lib.hid (⟨hG, Below.refl _ _⟩ : Hand w w)
  clear hG wa wb wc hc
  go_enter Tryd.func5, Tryd.ntmps5
  by_cases g0 : a < 0
  · go_wp2_with fail
    exact bodyPost_ret (v := .bool true) (by simp [results, Tryd.results5, go_sem]) rfl ⟨rfl, Below.refl _ _⟩
  by_cases g1 : 4 < a
  · go_wp2_with fail
    exact bodyPost_ret (v := .bool true) (by simp [results, Tryd.results5, go_sem]) rfl ⟨rfl, Below.refl _ _⟩
  by_cases g2 : b < -1
  · go_wp2_with fail
    exact bodyPost_ret (v := .bool true) (by simp [results, Tryd.results5, go_sem]) rfl ⟨rfl, Below.refl _ _⟩
  by_cases g3 : 1 < b
  · go_wp2_with fail
    exact bodyPost_ret (v := .bool true) (by simp [results, Tryd.results5, go_sem]) rfl ⟨rfl, Below.refl _ _⟩
  obtain ⟨X, hX⟩ : ∃ X : Int, X = 128 * a := ⟨_, rfl⟩
  obtain ⟨Y, hY⟩ : ∃ Y : Int, Y = X + b := ⟨_, rfl⟩
  have W1 : IntKind.i64.wrap (128 * a) = X := by rw [IntWalk.i64_in _ (by omega)]; omega
  have W2 : IntKind.i64.wrap (X + b) = Y := by rw [IntWalk.i64_in _ (by omega)]; omega
  have hXle : Y ≤ 1000 := by omega
  clear hX hY
  by_cases g4 : Y < 0
  · go_wp2_with fail
    exact bodyPost_ret (v := .bool true) (by simp [results, Tryd.results5, go_sem]) rfl ⟨rfl, Below.refl _ _⟩
  obtain ⟨n, rfl⟩ : ∃ n : Nat, Y = (n : Int) := ⟨Y.toNat, by omega⟩
  have hn : n ≤ 1000 := by omega
  have hmk := run_make_Bs n hn
  go_upto_region 4 with fail
  obtain ⟨bb, hbb⟩ : ∃ bb, bb = w.heap.size := ⟨_, rfl⟩
  obtain ⟨wz, hwz⟩ : ∃ wz, wz = w.alloc (.cells (Bs (List.replicate n 0)).toArray 5) := ⟨_, rfl⟩
  rw [← hwz, ← hbb]
  have hz0 : wz.heap[bb]? = some (.cells (Bs (List.replicate n 0)).toArray 5 (0, 0)) := by rw [hwz, hbb]; exact heap_alloc_new w _
  have HW := Lib.hid (show Hand w wz by rw [hwz]; exact HH.out.new _)
  have HZ := Lib.hid hz0
  have HBB := Lib.hid hbb
  have HB2 := Lib.hid (show 2 ≤ bb by rw [hbb]; exact HH.out.glob.lt)
  clear hwz hz0 hmk HH hbb
  go_wp2
  go_loopw [8] (fun i wr => ∃ (k : Nat) (l : List Nat), k ≤ n ∧ i = .int .i64 k ∧ l.length = n ∧ (∀ x ∈ l, x < 256) ∧ wr.heap[bb]? = some (.cells (Bs l).toArray 5 (0, 0)) ∧ Hand w wr) (fun i _ => n - (intOf i).toNat)
  case atStart => exact ⟨0, List.replicate n 0, by omega, rfl, by simp, by simp, HZ.out, HW.out⟩
  case round =>
    obtain ⟨k, l, hk, rfl, hl, hb, hO, hH⟩ := hrel
    by_cases hlt : k < n
    · have hlt' : (k : Int) < n := by omega
      obtain ⟨y, hy⟩ : ∃ y, y = k % 256 := ⟨_, rfl⟩
      obtain ⟨x, hx⟩ : ∃ x, x = (c + y) % 256 := ⟨_, rfl⟩
      have S1 : (k : Int) % 256 = (y : Int) := by omega
      have S2 : ((c : Int) + (y : Int)) % 256 = (x : Int) := by omega
      have hx2 : x < 256 := by omega
      have c0 : wr.cell? ⟨bb, k, none⟩ = some (.int .u8 (gt l k : Nat)) := cellB hO (by omega)
      have f0 : wr.frozen? ⟨bb, k, none⟩ = false := frozen_of_row wr bb _ _ _ hO
      have hO2 : (wr.setCell ⟨bb, k, none⟩ (.int .u8 (x : Nat))).heap[bb]? = some (.cells (Bs (l.set k x)).toArray 5 (0, 0)) := by
        rw [heap_setCell_same _ _ _ _ _ _ hO, Bs_set]
      have hH2 : Hand w (wr.setCell ⟨bb, k, none⟩ (.int .u8 (x : Nat))) := by
        have ho := hH.old
        have hg := hH.glob
        have hb2 := HBB.out
        refine ⟨hg.of (by simp [World.setCell]) fun j hj => heap_setCell_other _ _ _ _ ?_, ho.setCell (p := ⟨bb, k, none⟩) (by simp only; omega) _⟩
        have := HB2.out
        simp only; omega
      have HO := Lib.hid hO2
      have HH := Lib.hid hH2
      have HL := Lib.hid hl
      have hb3 : ∀ z ∈ l.set k x, z < 256 := fun z hz => by
        rcases List.mem_or_eq_of_mem_set hz with h | h
        · exact hb z h
        · omega
      have HB := Lib.hid hb3
      have hk1 : k + 1 ≤ n := hlt
      clear hO hH hO2 hH2 hb hb3 hl hy hx hx2
      go_wp2
      exact ⟨⟨k + 1, l.set k x, hk1, by go_num, by simpa using HL.out, HB.out, HO.out, HH.out⟩, by simp [intOf]; omega⟩
    · have hkn : k = n := by omega
      subst hkn
      have hr : RdB wr (.slice (some ⟨bb, 0, none⟩) k k) l := .inr ⟨⟨bb, 0, none⟩, k, by rw [hl], by omega, fun i hi => by rw [add_at, Nat.zero_add, cellB hO hi]; simp [gt]⟩
      have H1 := Lib.hid hr
      have B1 := Lib.hid hb
      have L1 := Lib.hid (show l.length ≤ 1000000 by omega)
      have HOLD := Lib.hid hH.old
      have HH := Lib.hid (⟨hH.glob, Below.refl _ _⟩ : Hand wr wr)
      have RE := eqK
      have RG := guardH
      clear hO hH hr hb hl
      go_wp2_with (first
        | (go_at_call 9; refine (call_Keyed1 _ _ c HC.out HH.out H1.out B1.out L1.out).mono ?_; rintro e wn ⟨rfl, hb⟩; replace HH := Lib.hid hb; clear hb)
        | (go_at_call 10; refine (call_RKeyed1 _ c HC.out HH.out H1.out B1.out L1.out).mono ?_; rintro e wn ⟨rfl, hb⟩; replace HH := Lib.hid hb; clear hb)
        | (go_at_call 11; refine (call_Sum _ HH.out H1.out B1.out L1.out).mono ?_; rintro e wn ⟨rfl, hb⟩; replace HH := Lib.hid hb; clear hb)
        | (go_at_call 12; refine (call_RSum HH.out H1.out B1.out L1.out).mono ?_; rintro e wn ⟨rfl, hb⟩; replace HH := Lib.hid hb; clear hb)
        | (go_at_call 13; refine (call_known HH.out).mono ?_; rintro e wn ⟨rfl, hb⟩; replace HH := Lib.hid hb; clear hb)
        | fail)
      exact bodyPost_ret (v := .bool true) (by simp [results, Tryd.results5, go_sem]) rfl ⟨rfl, HOLD.out.trans (HH.out.old.mono HOLD.out.size)⟩
end Go.Proofs.YtjpmldjafkbncaaDoor
