/-
  ScriptStops: a way over rows is left.
-/
import Derived.Test.YteioacpfphigjaaGreatDoorMgj
namespace Go.Proofs.YteioacpfphigjaaGreatDoor
open Go.RowKit Go.Maps Go.Shelf
attribute [local go_sem] Oper.semAt_some run_seq2R_nil
set_option linter.unusedVariables false
set_option linter.unusedSimpArgs false

set_option maxRecDepth 100000 in
set_option maxHeartbeats 4000000 in
theorem scriptStops_main (n s : Nat) (w : World) (hn : n ≤ 50) (hs1 : 1 ≤ s) (hs2 : s ≤ 60) :
    Calls Tryz.prog 6 #[.int .i64 n, .int .i64 s] w fun e w' => e = .returned (.bool true) ∧ Below w.heap.size w w' := by
  refine (callsIn_wide (n := 3)).1 ?_
  have hmk := fun w => run_make_bytes n (by omega) w
  have d1 : decide ((n : Int) < 0) = false := by simp
  have d2 : decide ((50 : Int) < (n : Int)) = false := by simp; omega
  have d3 : decide ((s : Int) < 1) = false := by simp; omega
  have d4 : decide ((60 : Int) < (s : Int)) = false := by simp; omega
  have hnI : (n : Int) ≤ 50 := by omega
  have hsI : (s : Int) ≤ 60 := by omega
  have hby : ∀ b ∈ List.replicate n 0, b < 256 := fun b hb => by rw [List.eq_of_mem_replicate hb]; omega
  have HBY := Lib.hid hby
  have hll : (List.replicate n 0).length < 1000000000 := by rw [List.length_replicate]; omega
  have HLL := Lib.hid hll
  obtain ⟨wA, hwA⟩ : ∃ wA, wA = ((w.alloc (.cells #[.int .i64 (s : Int)] 3)).alloc (.cells #[.bool false] 4)).alloc (.cells (madeCells #[.int .u8 0] n) 5) := ⟨_, rfl⟩
  have hra : RdB wA (.slice (some ⟨w.heap.size + 1 + 1, 0, none⟩) n n) (List.replicate n 0) := by
    have := zeros_read ((w.alloc (.cells #[.int .i64 (s : Int)] 3)).alloc (.cells #[.bool false] 4)) n
    rw [World.size_alloc, World.size_alloc] at this
    rw [hwA]; exact this
  have HRA := Lib.hid hra
  have HWA := Lib.hid hwA
  clear hby hll hra
  obtain ⟨m, hm⟩ : ∃ m, m = min n s := ⟨_, rfl⟩
  refine callsIn_of_wp_marks Tryz.func6 rfl trivial ?_ rfl
  simp only [Tryz.ntmps6, List.size_toArray, List.length_cons, List.length_nil, Nat.reduceAdd, Nat.reduceSub, Array.replicate_succ, Array.replicate_zero, List.push_toArray, List.append_toArray, List.nil_append, List.cons_append]
  clear hwA
  gi_wp2_with (first
    | (refine ⟨trivial, ?_⟩; gi_at_call 22; rw [← HWA.out]; refine (callsIn_wide.2 (script_Rows _ (List.replicate n 0) _ HRA.out HBY.out HLL.out)).mono ?_; rintro e w1 ⟨c1, rfl, hb1, hit1⟩; have HB1 := Lib.hid hb1; have HIT1 := Lib.hid hit1; clear hb1 hit1)
    | (gi_at_call 22; rw [← HWA.out]; refine (callsIn_wide.2 (script_Rows _ (List.replicate n 0) _ HRA.out HBY.out HLL.out)).mono ?_; rintro e w1 ⟨c1, rfl, hb1, hit1⟩; have HB1 := Lib.hid hb1; have HIT1 := Lib.hid hit1; clear hb1 hit1)
    | fail)
  obtain ⟨W2, hW2⟩ : ∃ W2, W2 = w1.alloc (.cells #[.int .i64 0] 3) := ⟨_, rfl⟩
  rw [← hW2]
  have hwA := HWA.out
  have hb1 := HB1.out
  have hit1 := HIT1.out 0
  have hzA : wA.heap.size = w.heap.size + 3 := by rw [hwA]; simp
  rw [rowsOf_zeros] at hit1
  have z1 := hb1.size
  have hz2 : W2.heap.size = w1.heap.size + 1 := by rw [hW2]; simp
  have hBA : Below w.heap.size w wA := by rw [hwA]; exact (((Below.refl _ w).alloc (Nat.le_refl _) _).alloc (by simp) _).alloc (by simp; omega) _
  have hBm : Below w1.heap.size w1 W2 := by rw [hW2]; exact (Below.refl _ w1).alloc (Nat.le_refl _) _
  have hA2 : Below wA.heap.size wA W2 := hb1.trans (hBm.mono z1)
  have hBw : Below w.heap.size w W2 := hBA.trans (hA2.mono (by omega))
  have hx3 : Boxed W2 w.heap.size 3 (.int .i64 (s : Nat)) := (hA2.block _ (by omega)).trans (by rw [hwA]; exact ((Boxed.new w _ _).alloc _).alloc _)
  have hx4 : Boxed W2 (w.heap.size + 1) 4 (.bool false) := (hA2.block _ (by omega)).trans (by
    have := Boxed.new (w.alloc (.cells #[.int .i64 (s : Int)] 3)) 4 (.bool false)
    rw [World.size_alloc] at this
    rw [hwA]; exact this.alloc _)
  have hx6 : Boxed W2 w1.heap.size 3 (.int .i64 0) := by rw [hW2]; exact Boxed.new w1 _ _
  have HW := Lib.hid hBw
  have HX3 := Lib.hid hx3
  have HX4 := Lib.hid hx4
  have HX6 := Lib.hid hx6
  have HBm := Lib.hid hBm
  have HT1 := Lib.hid hit1
  clear hb1 hit1 hBA hA2 hBw hx3 hx4 hx6 hBm hW2 hwA HB1 HIT1 hmk HRA HWA
  refine range_outerR (n := 1) (gf := 187) (lb := #[.pointer (some ⟨c1, 0, none⟩)]) rfl enters_placedR RowsHand.stab HT1.out (Grow.of_below HBm.out) (fun k hk => ⟨hk.2, HBm.out.block k hk.2⟩) (by rintro x vs β W ⟨ao, cap, rfl, -⟩; rfl)
    (fun k => k = w1.heap.size) (by rintro k rfl; exact ⟨by omega, fun h => by omega⟩) (StopI W2.heap.size w1.heap.size w.heap.size s) (StopX W2.heap.size w1.heap.size w.heap.size s 0) (StopI.stab (by omega) (by omega)) (fun c => StopX.stab (by omega) (by omega) c)
    ⟨fun _ h => h, HX6.out, HX3.out, by simp; omega, Nat.le_refl _⟩ (fun vs => { tmps := #[.int .i64 (n : Nat), .int .i64 (s : Nat), undef, .pointer (some ⟨w.heap.size, 0, none⟩), .pointer (some ⟨w.heap.size + 1, 0, none⟩), .func (.func 187) #[] #[.pointer (some ⟨c1, 0, none⟩)], .pointer (some ⟨w1.heap.size, 0, none⟩), vs.getD 0 undef, vs.getD 1 undef, .int .i64 (n : Nat), .bool false, .bool false, .int .i64 (n : Nat), .bool false, .bool false, .bool false, .int .i64 (s : Nat), .bool false, .bool false, .bool false, .int .i64 (s : Nat), .bool false, .bool false, .int .i64 (n : Nat), .slice (some ⟨w.heap.size + 1 + 1, 0, none⟩) n n, .func (.func 187) #[] #[.pointer (some ⟨c1, 0, none⟩)], .func (.func 187) #[] #[.pointer (some ⟨c1, 0, none⟩)], .bool false, .func (.func 187) #[] #[.pointer (some ⟨c1, 0, none⟩)], vs.getD 0 undef, vs.getD 1 undef, undef, undef, undef, undef, undef, undef, undef, undef, undef, undef, undef, undef, undef, undef, undef, undef, undef, undef, undef, undef, undef], defers := [] }) ?assign ?body ?done ?stop
  case assign =>
    rintro l x vs β W0 W K ⟨ao, cap, rfl, -⟩ hK
    gi_wp2
    exact hK
  case body =>
    rintro lp pre ⟨q, i⟩ vs β Φ W hpx ⟨h1, hk6, hk3, hps, hsz⟩ ⟨aor, capr, rfl, -⟩ hβ hl hΦl -
    obtain ⟨rfl, rfl, hpn⟩ := pre_zero hpx
    simp only [List.length_nil, List.getD_eq_getElem?_getD]
    have hc6 := hk6.cell
    have hf6 := hk6.frozen
    have hc3 := hk3.cell
    have hd6 := (hk6.set (.int .i64 ((pre.length : Nat) + 1))).cell
    have hd3 := (hk3.other (show w.heap.size ≠ w1.heap.size by omega) (.int .i64 ((pre.length : Nat) + 1))).cell
    have HL6 := Lib.hid hk6
    have HL3 := Lib.hid hk3
    clear hk6 hk3 h1 hpx hβ
    have fin : ∀ (R : List (List Nat × Nat) → FP → World → Prop), R (pre ++ [([], pre.length)]) (fun _ => False) (W.setCell ⟨w1.heap.size, 0, none⟩ (.int .i64 ((pre.length : Nat) + 1))) → Leaves (fun k => k = w1.heap.size) (fun k => Φ k ∨ β k) W (fun Φ' W' => R (pre ++ [([], pre.length)]) Φ' W') (W.setCell ⟨w1.heap.size, 0, none⟩ (.int .i64 ((pre.length : Nat) + 1))) := fun R hR =>
      ⟨_, fun k h => h.elim, ⟨⟨rfl, rfl, rfl, by simp [World.setCell]⟩, fun k hk h1 h2 => Below.heap_setCell _ _ _ k h1⟩, hR⟩
    have e6 : Boxed (W.setCell ⟨w1.heap.size, 0, none⟩ (.int .i64 ((pre.length : Nat) + 1))) w1.heap.size 3 (.int .i64 ((pre ++ [(([] : List Nat), pre.length)]).length : Nat)) := by
      have e : (((pre ++ [(([] : List Nat), pre.length)]).length : Nat) : Int) = (pre.length : Int) + 1 := by simp
      rw [e]; exact HL6.out.set _
    have FIN := Lib.hid fin
    have E6 := Lib.hid e6
    clear fin e6
    by_cases hge : s ≤ pre.length + 1
    · have d5 : decide ((s : Int) ≤ (pre.length : Int) + 1) = true := by simp; omega
      gi_wp2
      exact FIN.out (StopX W2.heap.size w1.heap.size w.heap.size s 0 (.exit 0)) ⟨rfl, fun _ h => h, E6.out, HL3.out.other (by omega) _, by simp; omega, by simp [World.setCell]; omega⟩
    · have d5 : decide ((s : Int) ≤ (pre.length : Int) + 1) = false := by simp; omega
      gi_wp2
      exact FIN.out (StopI W2.heap.size w1.heap.size w.heap.size s) ⟨fun _ h => h, E6.out, HL3.out.other (by omega) _, by simp; omega, by simp [World.setCell]; omega⟩
  case done =>
      rintro D Φ W4 ⟨h1, hk6, hk3, hps, hsz⟩ hon hD hnD hK
      have hk6' : Boxed W4 w1.heap.size 3 (.int .i64 (m : Nat)) := by
        have e : m = (List.replicate n ([] : List Nat)).zipIdx.length := by simp at hps ⊢; omega
        rw [e]; exact hk6
      clear hps
      have hk4 : Boxed W4 (w.heap.size + 1) 4 (.bool false) := (hon.block _ (by omega) (fun h => by omega) (fun h => h)).trans HX4.out
      have hb4 : Below w.heap.size w W4 := HW.out.trans (hon.below (by omega) (fun k h => by omega) (fun k h => h.elim))
      have hc6 := hk6'.cell
      have hc3 := hk3.cell
      have hDl : D < W4.heap.size := (Array.getElem?_eq_some_iff.1 hK).1
      have HM4 := Lib.hid hk4
      have HD := Lib.hid hK
      have HB4 := Lib.hid hb4
      have hmin : min (n : Int) (s : Int) = (m : Int) := by omega
      clear hk4 hK hb4 hk6 hk6' hon h1
      gi_wp2_with (first
        | (gi_at_call 20; refine (callsIn_wide.2 (law15_known _)).mono ?_; rintro e w9 ⟨rfl, hb9⟩; have hk4 : Boxed w9 (w.heap.size + 1) 4 (.bool false) := (hb9.block _ HM4.out.lt).trans HM4.out; have hc4 := hk4.cell; have hf4 := hk4.frozen; have HN4 := Lib.hid hk4; have HB9 := Lib.hid hb9; clear hk4 hb9)
        | (refine ⟨trivial, ?_⟩; gi_at_call 20; refine (callsIn_wide.2 (law15_known _)).mono ?_; rintro e w9 ⟨rfl, hb9⟩; have hk4 : Boxed w9 (w.heap.size + 1) 4 (.bool false) := (hb9.block _ HM4.out.lt).trans HM4.out; have hc4 := hk4.cell; have hf4 := hk4.frozen; have HN4 := Lib.hid hk4; have HB9 := Lib.hid hb9; clear hk4 hb9)
        | fail)
      obtain ⟨W6, hW6⟩ : ∃ W6, W6 = w9.setCell ⟨w.heap.size + 1, 0, none⟩ (.bool true) := ⟨_, rfl⟩
      rw [← hW6]
      have hsame : ∀ k, k ≠ w.heap.size + 1 → W6.heap[k]? = w9.heap[k]? := fun k h => by rw [hW6]; exact Below.heap_setCell _ _ _ k h
      have h6 : Boxed W6 (w.heap.size + 1) 4 (.bool true) := by rw [hW6]; exact HN4.out.set _
      have k2 : W6.heap[D]? = some (.deferred (some [])) := (hsame D (by omega)).trans ((HB9.out.block D hDl).trans HD.out)
      have h7 : Boxed (W6.putObj D (.deferred none)) (w.heap.size + 1) 4 (.bool true) := (put_other (by omega)).trans h6
      have hcc := h7.cell
      refine ⟨by simp, .inl ⟨_, _, rfl, run_takeDeferred k2, ?_⟩⟩
      refine ⟨.bool true, by simp [results, Tryz.results6, go_sem, hcc], rfl, ?_⟩
      have hb5 : Below w.heap.size w w9 := HB4.out.trans (HB9.out.mono HB4.out.size)
      refine below_put ?_ (by omega)
      rw [hW6]
      exact hb5.setCell (by show w.heap.size ≤ w.heap.size + 1; omega) _
  case stop =>
      rintro D Φ c pre W4 hpre ⟨rfl, h1, hk6, hk3, hps, hsz⟩ hon hD hnD hK
      have hk6' : Boxed W4 w1.heap.size 3 (.int .i64 (m : Nat)) := by
        have e : m = pre.length := by have := hpre.length_le; simp at this; omega
        rw [e]; exact hk6
      clear hps hpre
      have hk4 : Boxed W4 (w.heap.size + 1) 4 (.bool false) := (hon.block _ (by omega) (fun h => by omega) (fun h => h)).trans HX4.out
      have hb4 : Below w.heap.size w W4 := HW.out.trans (hon.below (by omega) (fun k h => by omega) (fun k h => h.elim))
      have hc6 := hk6'.cell
      have hc3 := hk3.cell
      have hDl : D < W4.heap.size := (Array.getElem?_eq_some_iff.1 hK).1
      have HM4 := Lib.hid hk4
      have HD := Lib.hid hK
      have HB4 := Lib.hid hb4
      have hmin : min (n : Int) (s : Int) = (m : Int) := by omega
      clear hk4 hK hb4 hk6 hk6' hon h1
      gi_wp2_with (first
        | (gi_at_call 20; refine (callsIn_wide.2 (law15_known _)).mono ?_; rintro e w9 ⟨rfl, hb9⟩; have hk4 : Boxed w9 (w.heap.size + 1) 4 (.bool false) := (hb9.block _ HM4.out.lt).trans HM4.out; have hc4 := hk4.cell; have hf4 := hk4.frozen; have HN4 := Lib.hid hk4; have HB9 := Lib.hid hb9; clear hk4 hb9)
        | (refine ⟨trivial, ?_⟩; gi_at_call 20; refine (callsIn_wide.2 (law15_known _)).mono ?_; rintro e w9 ⟨rfl, hb9⟩; have hk4 : Boxed w9 (w.heap.size + 1) 4 (.bool false) := (hb9.block _ HM4.out.lt).trans HM4.out; have hc4 := hk4.cell; have hf4 := hk4.frozen; have HN4 := Lib.hid hk4; have HB9 := Lib.hid hb9; clear hk4 hb9)
        | fail)
      obtain ⟨W6, hW6⟩ : ∃ W6, W6 = w9.setCell ⟨w.heap.size + 1, 0, none⟩ (.bool true) := ⟨_, rfl⟩
      rw [← hW6]
      have hsame : ∀ k, k ≠ w.heap.size + 1 → W6.heap[k]? = w9.heap[k]? := fun k h => by rw [hW6]; exact Below.heap_setCell _ _ _ k h
      have h6 : Boxed W6 (w.heap.size + 1) 4 (.bool true) := by rw [hW6]; exact HN4.out.set _
      have k2 : W6.heap[D]? = some (.deferred (some [])) := (hsame D (by omega)).trans ((HB9.out.block D hDl).trans HD.out)
      have h7 : Boxed (W6.putObj D (.deferred none)) (w.heap.size + 1) 4 (.bool true) := (put_other (by omega)).trans h6
      have hcc := h7.cell
      refine ⟨by simp, .inl ⟨_, _, rfl, run_takeDeferred k2, ?_⟩⟩
      refine ⟨.bool true, by simp [results, Tryz.results6, go_sem, hcc], rfl, ?_⟩
      have hb5 : Below w.heap.size w w9 := HB4.out.trans (HB9.out.mono HB4.out.size)
      refine below_put ?_ (by omega)
      rw [hW6]
      exact hb5.setCell (by show w.heap.size ≤ w.heap.size + 1; omega) _

theorem scriptStops_walk (n s : Int) (_w0 : (Lit.int .i64 n).wf = true) (_w1 : (Lit.int .i64 s).wf = true) (w : World) :
    Calls Tryz.prog 6 #[.int .i64 n, .int .i64 s] w fun e w' => e = .returned (.bool true) ∧ Below w.heap.size w w' := by
  have hq : (0 ≤ n ∧ n ≤ 50 ∧ 1 ≤ s ∧ s ≤ 60) ∨ decide (n < 0) = true ∨ (decide (n < 0) = false ∧ decide (50 < n) = true) ∨ (decide (n < 0) = false ∧ decide (50 < n) = false ∧ decide (s < 1) = true) ∨ (decide (n < 0) = false ∧ decide (50 < n) = false ∧ decide (s < 1) = false ∧ decide (60 < s) = true) := by
    simp only [decide_eq_true_eq, decide_eq_false_iff_not]; omega
  rcases hq with ⟨h1, h2, h3, h4⟩ | h1 | ⟨h1, h2⟩ | ⟨h1, h2, h3⟩ | ⟨h1, h2, h3, h4⟩
  · obtain ⟨a, rfl⟩ := Int.eq_ofNat_of_zero_le h1
    obtain ⟨b, rfl⟩ := Int.eq_ofNat_of_zero_le (show 0 ≤ s by omega)
    exact scriptStops_main a b w (by omega) (by omega) (by omega)
  all_goals
    refine (callsIn_wide (n := 3)).1 ?_
    refine callsIn_of_wp_marks Tryz.func6 rfl trivial ?_ rfl
    simp only [Tryz.ntmps6, List.size_toArray, List.length_cons, List.length_nil, Nat.reduceAdd, Nat.reduceSub, Array.replicate_succ, Array.replicate_zero, List.push_toArray, List.append_toArray, List.nil_append, List.cons_append]
    gi_wp2
    have hcc : ((w.alloc (.cells #[.int .i64 s] 3)).alloc (.cells #[.bool true] 4)).cell? ⟨w.heap.size + 1, 0, none⟩ = some (.bool true) := by
      have := (Boxed.new (w.alloc (.cells #[.int .i64 s] 3)) 4 (.bool true)).cell
      rwa [World.size_alloc] at this
    refine ⟨.bool true, by simp [results, Tryz.results6, go_sem, hcc], rfl, ?_⟩
    exact ((Below.refl _ w).alloc (Nat.le_refl _) _).alloc (by simp) _
end Go.Proofs.YteioacpfphigjaaGreatDoor
