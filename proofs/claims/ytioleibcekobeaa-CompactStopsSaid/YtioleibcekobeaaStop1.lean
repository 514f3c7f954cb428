/-
  The walk of compact's law: the ways over numbers and rows end where they are left.
-/
import Derived.Test.YtioleibcekobeaaRow6
import Derived.Test.YtioleibcekobeaaNum6
import Derived.Deep.OwnRows
namespace Go.Proofs.Ytioleibcekobeaa
open Go.RowKit Go.Shelf
attribute [local go_sem] Oper.semAt_some run_seq2_nil run_seq2R_nil
set_option linter.unusedVariables false

theorem numsOf_zeros (n : Nat) : numsOf (List.replicate n 0) = List.replicate n 0 := by
  induction n with
  | zero => rfl
  | succ n ih =>
    have h := numsOf_num (n := 0) (by omega) (List.replicate n 0)
    have e : numL 0 = [0] := by rfl
    rw [e, ih] at h
    exact h
theorem rowsOf_zeros (n : Nat) : rowsOf (List.replicate n 0) = List.replicate n [] := by
  induction n with
  | zero => rfl
  | succ n ih =>
    have h := rowsOf_row (p := []) (by simp) (List.replicate n 0)
    have e : rowL [] = [0] := by rfl
    rw [e, ih] at h
    exact h

theorem info5' : (Try.prog.info? 5).map (fun i => (i.zero, i.size, i.bytes)) = some (some (.int .u8 0), 1, 1) := by kernel_rfl
theorem run_make_bytes (n : Nat) (hn : n ≤ 1000) (w : World) : (Instr.makeSlice 24 (.int .i64 (n : Int)) (.int .i64 (n : Int))).run Try.prog w = .ok (.slice (some ⟨w.heap.size, 0, none⟩) n n) (w.alloc (.cells (madeCells #[.int .u8 0] n) 5)) :=
  run_make_row' 24 5 (.int .u8 0) 1 Try.underlying24 info5' rfl .i64 .i64 n (by omega) (by omega) w

theorem pre_zero {α : Type} {z : α} {n : Nat} {pre : List (α × Nat)} {q : α} {i : Nat} (h : (pre ++ [(q, i)]) <+: (List.replicate n z).zipIdx) : q = z ∧ i = pre.length ∧ pre.length < n := by
  have hm := h.map Prod.fst
  have h2 : q ∈ List.replicate n z := by
    have : (List.replicate n z).zipIdx.map Prod.fst = List.replicate n z := by simp
    rw [this] at hm
    exact hm.subset (by simp)
  obtain ⟨t, ht⟩ := h
  have hl := congrArg List.length ht
  simp at hl
  have hx : (List.replicate n z).zipIdx[pre.length]? = some (q, i) := by rw [← ht]; simp
  have hlt : pre.length < n := by omega
  rw [List.getElem?_zipIdx, List.getElem?_eq_getElem (by simpa using hlt)] at hx
  simp at hx
  exact ⟨List.eq_of_mem_replicate h2, hx.2.symm, hlt⟩

/-- What a loop that counts holds: the count, the bound. -/
def StopI {α : Type} (S b b0 s : Nat) (pre : List α) (Φ : FP) (W : World) : Prop :=
  (∀ k, ¬ Φ k) ∧ Boxed W b 3 (.int .i64 (pre.length : Nat)) ∧ Boxed W b0 3 (.int .i64 (s : Nat)) ∧ pre.length < s ∧ S ≤ W.heap.size
def StopX {α : Type} (S b b0 s id : Nat) (c : Code) (pre : List α) (Φ : FP) (W : World) : Prop :=
  c = .exit id ∧ (∀ k, ¬ Φ k) ∧ Boxed W b 3 (.int .i64 (pre.length : Nat)) ∧ Boxed W b0 3 (.int .i64 (s : Nat)) ∧ pre.length = s ∧ S ≤ W.heap.size
theorem StopI.stab {α : Type} {S b b0 s : Nat} (hb : b < S) (hb0 : b0 < S) : Stab S (StopI (α := α) S b b0 s) := by
  rintro pre Φ W ⟨h1, h2, h3, h4, h5⟩
  exact ⟨fun k hk => (h1 k hk).elim, h5, fun W' hg hk => ⟨h1, (hk b (.inl hb)).trans h2, (hk b0 (.inl hb0)).trans h3, h4, Nat.le_trans h5 hg.size⟩⟩
theorem StopX.stab {α : Type} {S b b0 s id : Nat} (hb : b < S) (hb0 : b0 < S) (c : Code) : Stab S (StopX (α := α) S b b0 s id c) := by
  rintro pre Φ W ⟨h0, h1, h2, h3, h4, h5⟩
  exact ⟨fun k hk => (h1 k hk).elim, h5, fun W' hg hk => ⟨h0, h1, (hk b (.inl hb)).trans h2, (hk b0 (.inl hb0)).trans h3, h4, Nat.le_trans h5 hg.size⟩⟩

theorem below_put {B D : Nat} {w W : World} {o : Obj} (h : Below B w W) (hD : B ≤ D) : Below B w (W.putObj D o) :=
  h.trans ⟨rfl, rfl, rfl, by simp [World.putObj], fun k hk => put_other (by omega)⟩

theorem zeros_read (W : World) (n : Nat) : RdB (W.alloc (.cells (madeCells #[.int .u8 0] n) 5)) (.slice (some ⟨W.heap.size, 0, none⟩) n n) (List.replicate n 0) := by
  refine .inr ⟨⟨W.heap.size, 0, none⟩, n, by simp, by simp, fun i hi => ?_⟩
  rw [List.length_replicate] at hi
  rw [add_at]
  have h := World.alloc_heap_new W (.cells (madeCells #[.int .u8 0] n) 5)
  simp only [World.cell?]
  rw [h]
  simp [madeCells, hi, Nat.mod_one]

set_option maxRecDepth 100000 in
set_option maxHeartbeats 4000000 in
theorem compactStops_main (n s : Nat) (w : World) (hn : n ≤ 100) (hs1 : 1 ≤ s) (hs2 : s ≤ 120) :
    Calls Try.prog 9 #[.int .i64 n, .int .i64 s] w fun e w' => e = .returned (.bool true) ∧ Below w.heap.size w w' := by
  refine (callsIn_wide (n := 3)).1 ?_
  have hmk := fun w => run_make_bytes n (by omega) w
  have d1 : decide ((n : Int) < 0) = false := by simp
  have d2 : decide ((100 : Int) < (n : Int)) = false := by simp; omega
  have d3 : decide ((s : Int) < 1) = false := by simp; omega
  have d4 : decide ((120 : Int) < (s : Int)) = false := by simp; omega
  have hby : ∀ b ∈ List.replicate n 0, b < 256 := fun b hb => by rw [List.eq_of_mem_replicate hb]; omega
  have HBY := Lib.hid hby
  have hll : (List.replicate n 0).length < 1000000000 := by rw [List.length_replicate]; omega
  have HLL := Lib.hid hll
  have hra := zeros_read ((w.alloc (.cells #[.int .i64 (s : Int)] 3)).alloc (.cells #[.bool false] 4)) n
  rw [World.size_alloc, World.size_alloc] at hra
  have HRA := Lib.hid hra
  clear hby hll hra
  obtain ⟨m, hm⟩ : ∃ m, m = min n s := ⟨_, rfl⟩
  refine callsIn_of_wp_marks Try.func9 rfl trivial ?_ rfl
  simp only [Try.ntmps9, List.size_toArray, List.length_cons, List.length_nil, Nat.reduceAdd, Nat.reduceSub, Array.replicate_succ, Array.replicate_zero, List.push_toArray, List.append_toArray, List.nil_append, List.cons_append]
  gi_wp2_with (first | (refine ⟨trivial, ?_⟩; gi_at_call 26; refine (callsIn_wide.2 (compact_Nums _ (List.replicate n 0) _ HRA.out HBY.out HLL.out)).mono ?_; rintro e w1 ⟨c1, rfl, hb1, hit1⟩; have HB1 := Lib.hid hb1; have HIT1 := Lib.hid hit1; clear hb1 hit1) | (refine ⟨trivial, ?_⟩; gi_at_call 27; refine (callsIn_wide.2 (compact_Rows _ (List.replicate n 0) _ (HRA.out.below HB1.out) HBY.out HLL.out)).mono ?_; rintro e w2 ⟨c2, rfl, hb2, hit2⟩; have HB2 := Lib.hid hb2; have HIT2 := Lib.hid hit2; clear hb2 hit2) | fail)
  obtain ⟨W2, hW2⟩ : ∃ W2, W2 = (w2.alloc (.cells #[.int .i64 0] 3)).alloc (.cells #[.int .i64 0] 3) := ⟨_, rfl⟩
  rw [← hW2]
  obtain ⟨wA, hwA⟩ : ∃ wA, wA = ((w.alloc (.cells #[.int .i64 (s : Int)] 3)).alloc (.cells #[.bool false] 4)).alloc (.cells (madeCells #[.int .u8 0] n) 5) := ⟨_, rfl⟩
  have hb1 := HB1.out
  have hit1 := HIT1.out 0
  rw [← hwA] at hb1 hit1
  have hzA : wA.heap.size = w.heap.size + 3 := by rw [hwA]; simp
  have hb2 := HB2.out
  have hit2 := HIT2.out 0
  rw [numsOf_zeros] at hit1
  rw [rowsOf_zeros] at hit2
  have z1 := hb1.size
  have z2 := hb2.size
  have hz2 : W2.heap.size = w2.heap.size + 2 := by rw [hW2]; simp
  have hBA : Below w.heap.size w wA := by rw [hwA]; exact (((Below.refl _ w).alloc (Nat.le_refl _) _).alloc (by simp) _).alloc (by simp; omega) _
  have hBm : Below w2.heap.size w2 W2 := by rw [hW2]; exact ((Below.refl _ w2).alloc (Nat.le_refl _) _).alloc (by simp) _
  have hA2 : Below wA.heap.size wA W2 := hb1.trans ((hb2.mono z1).trans (hBm.mono (by omega)))
  have hBw : Below w.heap.size w W2 := hBA.trans (hA2.mono (by omega))
  have hx3 : Boxed W2 w.heap.size 3 (.int .i64 (s : Nat)) := (hA2.block _ (by omega)).trans (by rw [hwA]; exact ((Boxed.new w _ _).alloc _).alloc _)
  have hx4 : Boxed W2 (w.heap.size + 1) 4 (.bool false) := (hA2.block _ (by omega)).trans (by
    have := Boxed.new (w.alloc (.cells #[.int .i64 (s : Int)] 3)) 4 (.bool false)
    rw [World.size_alloc] at this
    rw [hwA]; exact this.alloc _)
  have hx8 : Boxed W2 w2.heap.size 3 (.int .i64 0) := by rw [hW2]; exact (Boxed.new w2 _ _).alloc _
  have hx9 : Boxed W2 (w2.heap.size + 1) 3 (.int .i64 0) := by
    rw [hW2]
    have := Boxed.new (w2.alloc (.cells #[.int .i64 0] 3)) 3 (.int .i64 0)
    rwa [World.size_alloc] at this
  have HW := Lib.hid hBw
  have HX3 := Lib.hid hx3
  have HX4 := Lib.hid hx4
  have HX8 := Lib.hid hx8
  have HX9 := Lib.hid hx9
  have HBm := Lib.hid hBm
  have HT2 := Lib.hid hit2
  have HT1 := Lib.hid hit1
  have hA12 : Below w1.heap.size w1 W2 := hb2.trans (hBm.mono z2)
  have HA12 := Lib.hid hA12
  clear hb1 hb2 hit1 hit2 hBA hA2 hBw hx3 hx4 hx8 hx9 hBm hW2 hwA HB1 HB2 HIT1 HIT2 hA12 hmk HRA
  refine range_outer (n := 1) (gf := 42) (lb := #[.pointer (some ⟨c1, 0, none⟩)]) rfl enters_placed HT1.out (Grow.of_below HA12.out) (fun k hk => ⟨hk.2, HA12.out.block k hk.2⟩) (fun _ => rfl)
    (fun k => k = w2.heap.size) (by rintro k rfl; exact ⟨by omega, fun h => by omega⟩) (StopI W2.heap.size w2.heap.size w.heap.size s) (StopX W2.heap.size w2.heap.size w.heap.size s 0) (StopI.stab (by omega) (by omega)) (fun c => StopX.stab (by omega) (by omega) c)
    ⟨fun _ h => h, HX8.out, HX3.out, by simp; omega, Nat.le_refl _⟩ (fun x => { tmps := #[.int .i64 (n : Nat), .int .i64 (s : Nat), undef, .pointer (some ⟨w.heap.size, 0, none⟩), .pointer (some ⟨w.heap.size + 1, 0, none⟩), .slice (some ⟨w.heap.size + 1 + 1, 0, none⟩) n n, .func (.func 42) #[] #[.pointer (some ⟨c1, 0, none⟩)], .func (.func 44) #[] #[.pointer (some ⟨c2, 0, none⟩)], .pointer (some ⟨w2.heap.size, 0, none⟩), .pointer (some ⟨w2.heap.size + 1, 0, none⟩), .int .i64 (x.2 : Nat), .int .i64 (x.1 : Nat), undef, undef, .int .i64 (n : Nat), .bool false, .bool false, .int .i64 (n : Nat), .bool false, .bool false, .bool false, .int .i64 (s : Nat), .bool false, .bool false, .bool false, .int .i64 (s : Nat), .bool false, .bool false, .int .i64 (n : Nat), .slice (some ⟨w.heap.size + 1 + 1, 0, none⟩) n n, .slice (some ⟨w.heap.size + 1 + 1, 0, none⟩) n n, .func (.func 42) #[] #[.pointer (some ⟨c1, 0, none⟩)], .slice (some ⟨w.heap.size + 1 + 1, 0, none⟩) n n, .func (.func 44) #[] #[.pointer (some ⟨c2, 0, none⟩)], .func (.func 42) #[] #[.pointer (some ⟨c1, 0, none⟩)], .bool false, .bool false, .func (.func 44) #[] #[.pointer (some ⟨c2, 0, none⟩)], .bool false, .bool false, .func (.func 42) #[] #[.pointer (some ⟨c1, 0, none⟩)], .int .i64 (x.2 : Nat), .int .i64 (x.1 : Nat), undef, undef, undef, undef, undef, undef, undef, undef, undef, undef, undef, undef, undef, undef, undef, undef, undef, undef, undef, undef, undef, undef, undef, undef, undef, undef, undef, undef, undef, undef, undef, undef, undef, undef, undef, undef, undef, undef, undef, undef, undef], defers := [] }) ?assign ?body ?done ?stop
  case assign =>
    intro l x W K hK
    gi_wp2
    exact hK
  case body =>
    rintro lp pre ⟨q, i⟩ Φ W hpx ⟨h1, hk8, hk3, hps, hsz⟩ hl hΦl -
    obtain ⟨rfl, rfl, hpn⟩ := pre_zero hpx
    have hc8 := hk8.cell
    have hf8 := hk8.frozen
    have hc3 := hk3.cell
    have hd8 := (hk8.set (.int .i64 ((pre.length : Nat) + 1))).cell
    have hd3 := (hk3.other (show w.heap.size ≠ w2.heap.size by omega) (.int .i64 ((pre.length : Nat) + 1))).cell
    have HK8 := Lib.hid hk8
    have HK3 := Lib.hid hk3
    have H1 := Lib.hid h1
    clear hk8 hk3 h1 hpx
    have fin : ∀ (R : List (Nat × Nat) → FP → World → Prop), R (pre ++ [(0, pre.length)]) (fun _ => False) (W.setCell ⟨w2.heap.size, 0, none⟩ (.int .i64 ((pre.length : Nat) + 1))) → Leaves (fun k => k = w2.heap.size) Φ W (fun Φ' W' => R (pre ++ [(0, pre.length)]) Φ' W') (W.setCell ⟨w2.heap.size, 0, none⟩ (.int .i64 ((pre.length : Nat) + 1))) := fun R hR =>
      ⟨_, fun k h => h.elim, ⟨⟨rfl, rfl, rfl, by simp [World.setCell]⟩, fun k hk h1 h2 => Below.heap_setCell _ _ _ k h1⟩, hR⟩
    have e8 : Boxed (W.setCell ⟨w2.heap.size, 0, none⟩ (.int .i64 ((pre.length : Nat) + 1))) w2.heap.size 3 (.int .i64 ((pre ++ [(0, pre.length)]).length : Nat)) := by
      have e : (((pre ++ [(0, pre.length)]).length : Nat) : Int) = (pre.length : Int) + 1 := by simp
      rw [e]; exact HK8.out.set _
    have FIN := Lib.hid fin
    have E8 := Lib.hid e8
    clear fin e8
    by_cases hge : s ≤ pre.length + 1
    · have d5 : decide ((s : Int) ≤ (pre.length : Int) + 1) = true := by simp; omega
      gi_wp2
      exact FIN.out (StopX W2.heap.size w2.heap.size w.heap.size s 0 (.exit 0)) ⟨rfl, fun _ h => h, E8.out, HK3.out.other (by omega) _, by simp; omega, by simp [World.setCell]; omega⟩
    · have d5 : decide ((s : Int) ≤ (pre.length : Int) + 1) = false := by simp; omega
      gi_wp2
      exact FIN.out (StopI W2.heap.size w2.heap.size w.heap.size s) ⟨fun _ h => h, E8.out, HK3.out.other (by omega) _, by simp; omega, by simp [World.setCell]; omega⟩
  case done =>
    rintro D Φ W3 ⟨h1, hk8, hk3, hps, hsz⟩ hon hD hnD hK
    have hk8' : Boxed W3 w2.heap.size 3 (.int .i64 (m : Nat)) := by
      have e : m = (List.replicate n 0).zipIdx.length := by simp at hps ⊢; omega
      rw [e]; exact hk8
    have hDl : D < W3.heap.size := (Array.getElem?_eq_some_iff.1 hK).1
    clear hps
    have hk9 : Boxed W3 (w2.heap.size + 1) 3 (.int .i64 0) := (hon.block _ (by omega) (fun h => by omega) (fun h => h)).trans HX9.out
    have hk4 : Boxed W3 (w.heap.size + 1) 4 (.bool false) := (hon.block _ (by omega) (fun h => by omega) (fun h => h)).trans HX4.out
    have hb3 : Below w.heap.size w W3 := HW.out.trans (hon.below (by omega) (fun k h => by omega) (fun k h => h.elim))
    have hG2 : ∀ k, w1.heap.size ≤ k ∧ k < w2.heap.size → k < w2.heap.size ∧ W3.heap[k]? = w2.heap[k]? := fun k hk => ⟨hk.2, (hon.block k (by omega) (fun h => by omega) (fun h => h)).trans (HBm.out.block k hk.2)⟩
    have hg2 : Grow w2 W3 := (Grow.of_below HBm.out).trans hon.grow
    have HK8 := Lib.hid hk8'
    have HK3 := Lib.hid hk3
    have HK9 := Lib.hid hk9
    have HK4 := Lib.hid hk4
    have HB3 := Lib.hid hb3
    have HG2 := Lib.hid hG2
    have HGR := Lib.hid hg2
    have HKD := Lib.hid hK
    clear hk8' hk8 hk3 hk9 hk4 hb3 hG2 hg2 hon hnD h1 hK
    gi_wp2
    refine range_outerR (n := 1) (gf := 44) (lb := #[.pointer (some ⟨c2, 0, none⟩)]) rfl enters_placedR RowsHand.stab HT2.out HGR.out HG2.out (by rintro x vs β W ⟨ao, cap, rfl, -⟩; rfl)
      (fun k => k = w2.heap.size + 1) (by rintro k rfl; exact ⟨by omega, fun h => by omega⟩) (StopI W3.heap.size (w2.heap.size + 1) w.heap.size s) (StopX W3.heap.size (w2.heap.size + 1) w.heap.size s 2) (StopI.stab (by omega) (by omega)) (fun c => StopX.stab (by omega) (by omega) c)
      ⟨fun _ h => h, HK9.out, HK3.out, by simp; omega, Nat.le_refl _⟩ (fun vs => { tmps := #[.int .i64 (n : Nat), .int .i64 (s : Nat), undef, .pointer (some ⟨w.heap.size, 0, none⟩), .pointer (some ⟨w.heap.size + 1, 0, none⟩), .slice (some ⟨w.heap.size + 1 + 1, 0, none⟩) n n, .func (.func 42) #[] #[.pointer (some ⟨c1, 0, none⟩)], .func (.func 44) #[] #[.pointer (some ⟨c2, 0, none⟩)], .pointer (some ⟨w2.heap.size, 0, none⟩), .pointer (some ⟨w2.heap.size + 1, 0, none⟩), undef, undef, vs.getD 0 undef, vs.getD 1 undef, .int .i64 (n : Nat), .bool false, .bool false, .int .i64 (n : Nat), .bool false, .bool false, .bool false, .int .i64 (s : Nat), .bool false, .bool false, .bool false, .int .i64 (s : Nat), .bool false, .bool false, .int .i64 (n : Nat), .slice (some ⟨w.heap.size + 1 + 1, 0, none⟩) n n, .slice (some ⟨w.heap.size + 1 + 1, 0, none⟩) n n, .func (.func 42) #[] #[.pointer (some ⟨c1, 0, none⟩)], .slice (some ⟨w.heap.size + 1 + 1, 0, none⟩) n n, .func (.func 44) #[] #[.pointer (some ⟨c2, 0, none⟩)], .func (.func 42) #[] #[.pointer (some ⟨c1, 0, none⟩)], .bool false, .bool false, .func (.func 44) #[] #[.pointer (some ⟨c2, 0, none⟩)], .bool false, .bool false, .func (.func 42) #[] #[.pointer (some ⟨c1, 0, none⟩)], undef, undef, undef, undef, undef, undef, undef, undef, undef, undef, undef, undef, undef, undef, .func (.func 44) #[] #[.pointer (some ⟨c2, 0, none⟩)], vs.getD 0 undef, vs.getD 1 undef, undef, undef, undef, undef, undef, undef, undef, undef, undef, undef, undef, undef, undef, undef, undef, undef, undef, undef, undef, undef, undef, undef, undef, undef, undef, undef], defers := [] }) ?assign2 ?body2 ?done2 ?stop2
    case assign2 =>
      rintro l x vs β W0 W K ⟨ao, cap, rfl, -⟩ hK
      gi_wp2
      exact hK
    case body2 =>
      rintro lp pre ⟨q, i⟩ vs β Φ W hpx ⟨h1, hk8, hk3, hps, hsz⟩ ⟨aor, capr, rfl, -⟩ hβ hl hΦl -
      obtain ⟨rfl, rfl, hpn⟩ := pre_zero hpx
      simp only [List.length_nil]
      have hc8 := hk8.cell
      have hf8 := hk8.frozen
      have hc3 := hk3.cell
      have hd8 := (hk8.set (.int .i64 ((pre.length : Nat) + 1))).cell
      have hd3 := (hk3.other (show w.heap.size ≠ w2.heap.size + 1 by omega) (.int .i64 ((pre.length : Nat) + 1))).cell
      have HL8 := Lib.hid hk8
      have HL3 := Lib.hid hk3
      clear hk8 hk3 h1 hpx hβ
      have fin : ∀ (R : List (List Nat × Nat) → FP → World → Prop), R (pre ++ [([], pre.length)]) (fun _ => False) (W.setCell ⟨w2.heap.size + 1, 0, none⟩ (.int .i64 ((pre.length : Nat) + 1))) → Leaves (fun k => k = w2.heap.size + 1) (fun k => Φ k ∨ β k) W (fun Φ' W' => R (pre ++ [([], pre.length)]) Φ' W') (W.setCell ⟨w2.heap.size + 1, 0, none⟩ (.int .i64 ((pre.length : Nat) + 1))) := fun R hR =>
        ⟨_, fun k h => h.elim, ⟨⟨rfl, rfl, rfl, by simp [World.setCell]⟩, fun k hk h1 h2 => Below.heap_setCell _ _ _ k h1⟩, hR⟩
      have e8 : Boxed (W.setCell ⟨w2.heap.size + 1, 0, none⟩ (.int .i64 ((pre.length : Nat) + 1))) (w2.heap.size + 1) 3 (.int .i64 ((pre ++ [(([] : List Nat), pre.length)]).length : Nat)) := by
        have e : (((pre ++ [(([] : List Nat), pre.length)]).length : Nat) : Int) = (pre.length : Int) + 1 := by simp
        rw [e]; exact HL8.out.set _
      have FIN := Lib.hid fin
      have E8 := Lib.hid e8
      clear fin e8
      by_cases hge : s ≤ pre.length + 1
      · have d5 : decide ((s : Int) ≤ (pre.length : Int) + 1) = true := by simp; omega
        gi_wp2
        exact FIN.out (StopX W3.heap.size (w2.heap.size + 1) w.heap.size s 2 (.exit 2)) ⟨rfl, fun _ h => h, E8.out, HL3.out.other (by omega) _, by simp; omega, by simp [World.setCell]; omega⟩
      · have d5 : decide ((s : Int) ≤ (pre.length : Int) + 1) = false := by simp; omega
        gi_wp2
        exact FIN.out (StopI W3.heap.size (w2.heap.size + 1) w.heap.size s) ⟨fun _ h => h, E8.out, HL3.out.other (by omega) _, by simp; omega, by simp [World.setCell]; omega⟩
    case done2 =>
      rintro D2 Φ W4 ⟨h1, hk9, hk3, hps, hsz⟩ hon hD2 hnD hK2
      have hk9' : Boxed W4 (w2.heap.size + 1) 3 (.int .i64 (m : Nat)) := by
        have e : m = (List.replicate n ([] : List Nat)).zipIdx.length := by simp at hps ⊢; omega
        rw [e]; exact hk9
      clear hps
      have hk8 : Boxed W4 w2.heap.size 3 (.int .i64 (m : Nat)) := (hon.block _ (by omega) (fun h => by omega) (fun h => h)).trans HK8.out
      have hk4 : Boxed W4 (w.heap.size + 1) 4 (.bool false) := (hon.block _ (by omega) (fun h => by omega) (fun h => h)).trans HK4.out
      have hk1 : W4.heap[D]? = some (.deferred (some [])) := (hon.block D (by omega) (fun h => by omega) (fun h => h)).trans HKD.out
      have hb4 : Below w.heap.size w W4 := HB3.out.trans (hon.below (by omega) (fun k h => by omega) (fun k h => h.elim))
      have hc8 := hk8.cell
      have hc9 := hk9'.cell
      have hc3 := hk3.cell
      have hD2l : D2 < W4.heap.size := (Array.getElem?_eq_some_iff.1 hK2).1
      have HM8 := Lib.hid hk8
      have HM4 := Lib.hid hk4
      have HD1 := Lib.hid hk1
      have HD2 := Lib.hid hK2
      have HB4 := Lib.hid hb4
      have hmin : min (n : Int) (s : Int) = (m : Int) := by omega
      clear hk8 hk4 hk1 hK2 hb4 hk9 hk9' hon h1
      gi_wp2_with (first | (gi_at_call 20; refine (callsIn_wide.2 (known_calls _)).mono ?_; rintro e w9 ⟨rfl, hb9⟩; have hk4 : Boxed w9 (w.heap.size + 1) 4 (.bool false) := (hb9.block _ HM4.out.lt).trans HM4.out; have hc4 := hk4.cell; have hf4 := hk4.frozen; have HN4 := Lib.hid hk4; have HB9 := Lib.hid hb9; clear hk4 hb9) | (refine ⟨trivial, ?_⟩; gi_at_call 20; refine (callsIn_wide.2 (known_calls _)).mono ?_; rintro e w9 ⟨rfl, hb9⟩; have hk4 : Boxed w9 (w.heap.size + 1) 4 (.bool false) := (hb9.block _ HM4.out.lt).trans HM4.out; have hc4 := hk4.cell; have hf4 := hk4.frozen; have HN4 := Lib.hid hk4; have HB9 := Lib.hid hb9; clear hk4 hb9) | fail)
      obtain ⟨W6, hW6⟩ : ∃ W6, W6 = w9.setCell ⟨w.heap.size + 1, 0, none⟩ (.bool true) := ⟨_, rfl⟩
      rw [← hW6]
      have hsame : ∀ k, k ≠ w.heap.size + 1 → W6.heap[k]? = w9.heap[k]? := fun k h => by rw [hW6]; exact Below.heap_setCell _ _ _ k h
      have h6 : Boxed W6 (w.heap.size + 1) 4 (.bool true) := by rw [hW6]; exact HN4.out.set _
      have hDD : D < D2 := by omega
      have k2 : W6.heap[D2]? = some (.deferred (some [])) := (hsame D2 (by omega)).trans ((HB9.out.block D2 hD2l).trans HD2.out)
      have k1 : (W6.putObj D2 (.deferred none)).heap[D]? = some (.deferred (some [])) := (put_other (by omega)).trans ((hsame D (by omega)).trans ((HB9.out.block D (by omega)).trans HD1.out))
      have h7 : Boxed ((W6.putObj D2 (.deferred none)).putObj D (.deferred none)) (w.heap.size + 1) 4 (.bool true) := (put_other (by omega)).trans ((put_other (by omega)).trans h6)
      have hcc := h7.cell
      refine ⟨by simp, .inl ⟨_, _, rfl, run_takeDeferred k2, ?_⟩⟩
      refine ⟨by simp, .inl ⟨_, _, rfl, run_takeDeferred k1, ?_⟩⟩
      refine ⟨.bool true, by simp [results, Try.results9, go_sem, hcc], rfl, ?_⟩
      have hb5 : Below w.heap.size w w9 := HB4.out.trans (HB9.out.mono HB4.out.size)
      refine below_put (below_put ?_ (by omega)) (by omega)
      rw [hW6]
      exact hb5.setCell (by show w.heap.size ≤ w.heap.size + 1; omega) _
    case stop2 =>
      rintro D2 Φ c pre W4 hpre ⟨rfl, h1, hk9, hk3, hps, hsz⟩ hon hD2 hnD hK2
      have hk9' : Boxed W4 (w2.heap.size + 1) 3 (.int .i64 (m : Nat)) := by
        have e : m = pre.length := by have := hpre.length_le; simp at this; omega
        rw [e]; exact hk9
      clear hps hpre
      have hk8 : Boxed W4 w2.heap.size 3 (.int .i64 (m : Nat)) := (hon.block _ (by omega) (fun h => by omega) (fun h => h)).trans HK8.out
      have hk4 : Boxed W4 (w.heap.size + 1) 4 (.bool false) := (hon.block _ (by omega) (fun h => by omega) (fun h => h)).trans HK4.out
      have hk1 : W4.heap[D]? = some (.deferred (some [])) := (hon.block D (by omega) (fun h => by omega) (fun h => h)).trans HKD.out
      have hb4 : Below w.heap.size w W4 := HB3.out.trans (hon.below (by omega) (fun k h => by omega) (fun k h => h.elim))
      have hc8 := hk8.cell
      have hc9 := hk9'.cell
      have hc3 := hk3.cell
      have hD2l : D2 < W4.heap.size := (Array.getElem?_eq_some_iff.1 hK2).1
      have HM8 := Lib.hid hk8
      have HM4 := Lib.hid hk4
      have HD1 := Lib.hid hk1
      have HD2 := Lib.hid hK2
      have HB4 := Lib.hid hb4
      have hmin : min (n : Int) (s : Int) = (m : Int) := by omega
      clear hk8 hk4 hk1 hK2 hb4 hk9 hk9' hon h1
      gi_wp2_with (first | (gi_at_call 20; refine (callsIn_wide.2 (known_calls _)).mono ?_; rintro e w9 ⟨rfl, hb9⟩; have hk4 : Boxed w9 (w.heap.size + 1) 4 (.bool false) := (hb9.block _ HM4.out.lt).trans HM4.out; have hc4 := hk4.cell; have hf4 := hk4.frozen; have HN4 := Lib.hid hk4; have HB9 := Lib.hid hb9; clear hk4 hb9) | (refine ⟨trivial, ?_⟩; gi_at_call 20; refine (callsIn_wide.2 (known_calls _)).mono ?_; rintro e w9 ⟨rfl, hb9⟩; have hk4 : Boxed w9 (w.heap.size + 1) 4 (.bool false) := (hb9.block _ HM4.out.lt).trans HM4.out; have hc4 := hk4.cell; have hf4 := hk4.frozen; have HN4 := Lib.hid hk4; have HB9 := Lib.hid hb9; clear hk4 hb9) | fail)
      obtain ⟨W6, hW6⟩ : ∃ W6, W6 = w9.setCell ⟨w.heap.size + 1, 0, none⟩ (.bool true) := ⟨_, rfl⟩
      rw [← hW6]
      have hsame : ∀ k, k ≠ w.heap.size + 1 → W6.heap[k]? = w9.heap[k]? := fun k h => by rw [hW6]; exact Below.heap_setCell _ _ _ k h
      have h6 : Boxed W6 (w.heap.size + 1) 4 (.bool true) := by rw [hW6]; exact HN4.out.set _
      have hDD : D < D2 := by omega
      have k2 : W6.heap[D2]? = some (.deferred (some [])) := (hsame D2 (by omega)).trans ((HB9.out.block D2 hD2l).trans HD2.out)
      have k1 : (W6.putObj D2 (.deferred none)).heap[D]? = some (.deferred (some [])) := (put_other (by omega)).trans ((hsame D (by omega)).trans ((HB9.out.block D (by omega)).trans HD1.out))
      have h7 : Boxed ((W6.putObj D2 (.deferred none)).putObj D (.deferred none)) (w.heap.size + 1) 4 (.bool true) := (put_other (by omega)).trans ((put_other (by omega)).trans h6)
      have hcc := h7.cell
      refine ⟨by simp, .inl ⟨_, _, rfl, run_takeDeferred k2, ?_⟩⟩
      refine ⟨by simp, .inl ⟨_, _, rfl, run_takeDeferred k1, ?_⟩⟩
      refine ⟨.bool true, by simp [results, Try.results9, go_sem, hcc], rfl, ?_⟩
      have hb5 : Below w.heap.size w w9 := HB4.out.trans (HB9.out.mono HB4.out.size)
      refine below_put (below_put ?_ (by omega)) (by omega)
      rw [hW6]
      exact hb5.setCell (by show w.heap.size ≤ w.heap.size + 1; omega) _
  case stop =>
    rintro D Φ c pre W3 hpre ⟨rfl, h1, hk8, hk3, hps, hsz⟩ hon hD hnD hK
    have hk8' : Boxed W3 w2.heap.size 3 (.int .i64 (m : Nat)) := by
      have e : m = pre.length := by have := hpre.length_le; simp at this; omega
      rw [e]; exact hk8
    have hDl : D < W3.heap.size := (Array.getElem?_eq_some_iff.1 hK).1
    clear hps hpre
    have hk9 : Boxed W3 (w2.heap.size + 1) 3 (.int .i64 0) := (hon.block _ (by omega) (fun h => by omega) (fun h => h)).trans HX9.out
    have hk4 : Boxed W3 (w.heap.size + 1) 4 (.bool false) := (hon.block _ (by omega) (fun h => by omega) (fun h => h)).trans HX4.out
    have hb3 : Below w.heap.size w W3 := HW.out.trans (hon.below (by omega) (fun k h => by omega) (fun k h => h.elim))
    have hG2 : ∀ k, w1.heap.size ≤ k ∧ k < w2.heap.size → k < w2.heap.size ∧ W3.heap[k]? = w2.heap[k]? := fun k hk => ⟨hk.2, (hon.block k (by omega) (fun h => by omega) (fun h => h)).trans (HBm.out.block k hk.2)⟩
    have hg2 : Grow w2 W3 := (Grow.of_below HBm.out).trans hon.grow
    have HK8 := Lib.hid hk8'
    have HK3 := Lib.hid hk3
    have HK9 := Lib.hid hk9
    have HK4 := Lib.hid hk4
    have HB3 := Lib.hid hb3
    have HG2 := Lib.hid hG2
    have HGR := Lib.hid hg2
    have HKD := Lib.hid hK
    clear hk8' hk8 hk3 hk9 hk4 hb3 hG2 hg2 hon hnD h1 hK
    gi_wp2
    refine range_outerR (n := 1) (gf := 44) (lb := #[.pointer (some ⟨c2, 0, none⟩)]) rfl enters_placedR RowsHand.stab HT2.out HGR.out HG2.out (by rintro x vs β W ⟨ao, cap, rfl, -⟩; rfl)
      (fun k => k = w2.heap.size + 1) (by rintro k rfl; exact ⟨by omega, fun h => by omega⟩) (StopI W3.heap.size (w2.heap.size + 1) w.heap.size s) (StopX W3.heap.size (w2.heap.size + 1) w.heap.size s 2) (StopI.stab (by omega) (by omega)) (fun c => StopX.stab (by omega) (by omega) c)
      ⟨fun _ h => h, HK9.out, HK3.out, by simp; omega, Nat.le_refl _⟩ (fun vs => { tmps := #[.int .i64 (n : Nat), .int .i64 (s : Nat), undef, .pointer (some ⟨w.heap.size, 0, none⟩), .pointer (some ⟨w.heap.size + 1, 0, none⟩), .slice (some ⟨w.heap.size + 1 + 1, 0, none⟩) n n, .func (.func 42) #[] #[.pointer (some ⟨c1, 0, none⟩)], .func (.func 44) #[] #[.pointer (some ⟨c2, 0, none⟩)], .pointer (some ⟨w2.heap.size, 0, none⟩), .pointer (some ⟨w2.heap.size + 1, 0, none⟩), undef, undef, vs.getD 0 undef, vs.getD 1 undef, .int .i64 (n : Nat), .bool false, .bool false, .int .i64 (n : Nat), .bool false, .bool false, .bool false, .int .i64 (s : Nat), .bool false, .bool false, .bool false, .int .i64 (s : Nat), .bool false, .bool false, .int .i64 (n : Nat), .slice (some ⟨w.heap.size + 1 + 1, 0, none⟩) n n, .slice (some ⟨w.heap.size + 1 + 1, 0, none⟩) n n, .func (.func 42) #[] #[.pointer (some ⟨c1, 0, none⟩)], .slice (some ⟨w.heap.size + 1 + 1, 0, none⟩) n n, .func (.func 44) #[] #[.pointer (some ⟨c2, 0, none⟩)], .func (.func 42) #[] #[.pointer (some ⟨c1, 0, none⟩)], .bool false, .bool false, .func (.func 44) #[] #[.pointer (some ⟨c2, 0, none⟩)], .bool false, .bool false, .func (.func 42) #[] #[.pointer (some ⟨c1, 0, none⟩)], undef, undef, undef, undef, undef, undef, undef, undef, undef, undef, undef, undef, undef, undef, .func (.func 44) #[] #[.pointer (some ⟨c2, 0, none⟩)], vs.getD 0 undef, vs.getD 1 undef, undef, undef, undef, undef, undef, undef, undef, undef, undef, undef, undef, undef, undef, undef, undef, undef, undef, undef, undef, undef, undef, undef, undef, undef, undef, undef], defers := [] }) ?assign2 ?body2 ?done2 ?stop2
    case assign2 =>
      rintro l x vs β W0 W K ⟨ao, cap, rfl, -⟩ hK
      gi_wp2
      exact hK
    case body2 =>
      rintro lp pre ⟨q, i⟩ vs β Φ W hpx ⟨h1, hk8, hk3, hps, hsz⟩ ⟨aor, capr, rfl, -⟩ hβ hl hΦl -
      obtain ⟨rfl, rfl, hpn⟩ := pre_zero hpx
      simp only [List.length_nil]
      have hc8 := hk8.cell
      have hf8 := hk8.frozen
      have hc3 := hk3.cell
      have hd8 := (hk8.set (.int .i64 ((pre.length : Nat) + 1))).cell
      have hd3 := (hk3.other (show w.heap.size ≠ w2.heap.size + 1 by omega) (.int .i64 ((pre.length : Nat) + 1))).cell
      have HL8 := Lib.hid hk8
      have HL3 := Lib.hid hk3
      clear hk8 hk3 h1 hpx hβ
      have fin : ∀ (R : List (List Nat × Nat) → FP → World → Prop), R (pre ++ [([], pre.length)]) (fun _ => False) (W.setCell ⟨w2.heap.size + 1, 0, none⟩ (.int .i64 ((pre.length : Nat) + 1))) → Leaves (fun k => k = w2.heap.size + 1) (fun k => Φ k ∨ β k) W (fun Φ' W' => R (pre ++ [([], pre.length)]) Φ' W') (W.setCell ⟨w2.heap.size + 1, 0, none⟩ (.int .i64 ((pre.length : Nat) + 1))) := fun R hR =>
        ⟨_, fun k h => h.elim, ⟨⟨rfl, rfl, rfl, by simp [World.setCell]⟩, fun k hk h1 h2 => Below.heap_setCell _ _ _ k h1⟩, hR⟩
      have e8 : Boxed (W.setCell ⟨w2.heap.size + 1, 0, none⟩ (.int .i64 ((pre.length : Nat) + 1))) (w2.heap.size + 1) 3 (.int .i64 ((pre ++ [(([] : List Nat), pre.length)]).length : Nat)) := by
        have e : (((pre ++ [(([] : List Nat), pre.length)]).length : Nat) : Int) = (pre.length : Int) + 1 := by simp
        rw [e]; exact HL8.out.set _
      have FIN := Lib.hid fin
      have E8 := Lib.hid e8
      clear fin e8
      by_cases hge : s ≤ pre.length + 1
      · have d5 : decide ((s : Int) ≤ (pre.length : Int) + 1) = true := by simp; omega
        gi_wp2
        exact FIN.out (StopX W3.heap.size (w2.heap.size + 1) w.heap.size s 2 (.exit 2)) ⟨rfl, fun _ h => h, E8.out, HL3.out.other (by omega) _, by simp; omega, by simp [World.setCell]; omega⟩
      · have d5 : decide ((s : Int) ≤ (pre.length : Int) + 1) = false := by simp; omega
        gi_wp2
        exact FIN.out (StopI W3.heap.size (w2.heap.size + 1) w.heap.size s) ⟨fun _ h => h, E8.out, HL3.out.other (by omega) _, by simp; omega, by simp [World.setCell]; omega⟩
    case done2 =>
      rintro D2 Φ W4 ⟨h1, hk9, hk3, hps, hsz⟩ hon hD2 hnD hK2
      have hk9' : Boxed W4 (w2.heap.size + 1) 3 (.int .i64 (m : Nat)) := by
        have e : m = (List.replicate n ([] : List Nat)).zipIdx.length := by simp at hps ⊢; omega
        rw [e]; exact hk9
      clear hps
      have hk8 : Boxed W4 w2.heap.size 3 (.int .i64 (m : Nat)) := (hon.block _ (by omega) (fun h => by omega) (fun h => h)).trans HK8.out
      have hk4 : Boxed W4 (w.heap.size + 1) 4 (.bool false) := (hon.block _ (by omega) (fun h => by omega) (fun h => h)).trans HK4.out
      have hk1 : W4.heap[D]? = some (.deferred (some [])) := (hon.block D (by omega) (fun h => by omega) (fun h => h)).trans HKD.out
      have hb4 : Below w.heap.size w W4 := HB3.out.trans (hon.below (by omega) (fun k h => by omega) (fun k h => h.elim))
      have hc8 := hk8.cell
      have hc9 := hk9'.cell
      have hc3 := hk3.cell
      have hD2l : D2 < W4.heap.size := (Array.getElem?_eq_some_iff.1 hK2).1
      have HM8 := Lib.hid hk8
      have HM4 := Lib.hid hk4
      have HD1 := Lib.hid hk1
      have HD2 := Lib.hid hK2
      have HB4 := Lib.hid hb4
      have hmin : min (n : Int) (s : Int) = (m : Int) := by omega
      clear hk8 hk4 hk1 hK2 hb4 hk9 hk9' hon h1
      gi_wp2_with (first | (gi_at_call 20; refine (callsIn_wide.2 (known_calls _)).mono ?_; rintro e w9 ⟨rfl, hb9⟩; have hk4 : Boxed w9 (w.heap.size + 1) 4 (.bool false) := (hb9.block _ HM4.out.lt).trans HM4.out; have hc4 := hk4.cell; have hf4 := hk4.frozen; have HN4 := Lib.hid hk4; have HB9 := Lib.hid hb9; clear hk4 hb9) | (refine ⟨trivial, ?_⟩; gi_at_call 20; refine (callsIn_wide.2 (known_calls _)).mono ?_; rintro e w9 ⟨rfl, hb9⟩; have hk4 : Boxed w9 (w.heap.size + 1) 4 (.bool false) := (hb9.block _ HM4.out.lt).trans HM4.out; have hc4 := hk4.cell; have hf4 := hk4.frozen; have HN4 := Lib.hid hk4; have HB9 := Lib.hid hb9; clear hk4 hb9) | fail)
      obtain ⟨W6, hW6⟩ : ∃ W6, W6 = w9.setCell ⟨w.heap.size + 1, 0, none⟩ (.bool true) := ⟨_, rfl⟩
      rw [← hW6]
      have hsame : ∀ k, k ≠ w.heap.size + 1 → W6.heap[k]? = w9.heap[k]? := fun k h => by rw [hW6]; exact Below.heap_setCell _ _ _ k h
      have h6 : Boxed W6 (w.heap.size + 1) 4 (.bool true) := by rw [hW6]; exact HN4.out.set _
      have hDD : D < D2 := by omega
      have k2 : W6.heap[D2]? = some (.deferred (some [])) := (hsame D2 (by omega)).trans ((HB9.out.block D2 hD2l).trans HD2.out)
      have k1 : (W6.putObj D2 (.deferred none)).heap[D]? = some (.deferred (some [])) := (put_other (by omega)).trans ((hsame D (by omega)).trans ((HB9.out.block D (by omega)).trans HD1.out))
      have h7 : Boxed ((W6.putObj D2 (.deferred none)).putObj D (.deferred none)) (w.heap.size + 1) 4 (.bool true) := (put_other (by omega)).trans ((put_other (by omega)).trans h6)
      have hcc := h7.cell
      refine ⟨by simp, .inl ⟨_, _, rfl, run_takeDeferred k2, ?_⟩⟩
      refine ⟨by simp, .inl ⟨_, _, rfl, run_takeDeferred k1, ?_⟩⟩
      refine ⟨.bool true, by simp [results, Try.results9, go_sem, hcc], rfl, ?_⟩
      have hb5 : Below w.heap.size w w9 := HB4.out.trans (HB9.out.mono HB4.out.size)
      refine below_put (below_put ?_ (by omega)) (by omega)
      rw [hW6]
      exact hb5.setCell (by show w.heap.size ≤ w.heap.size + 1; omega) _
    case stop2 =>
      rintro D2 Φ c pre W4 hpre ⟨rfl, h1, hk9, hk3, hps, hsz⟩ hon hD2 hnD hK2
      have hk9' : Boxed W4 (w2.heap.size + 1) 3 (.int .i64 (m : Nat)) := by
        have e : m = pre.length := by have := hpre.length_le; simp at this; omega
        rw [e]; exact hk9
      clear hps hpre
      have hk8 : Boxed W4 w2.heap.size 3 (.int .i64 (m : Nat)) := (hon.block _ (by omega) (fun h => by omega) (fun h => h)).trans HK8.out
      have hk4 : Boxed W4 (w.heap.size + 1) 4 (.bool false) := (hon.block _ (by omega) (fun h => by omega) (fun h => h)).trans HK4.out
      have hk1 : W4.heap[D]? = some (.deferred (some [])) := (hon.block D (by omega) (fun h => by omega) (fun h => h)).trans HKD.out
      have hb4 : Below w.heap.size w W4 := HB3.out.trans (hon.below (by omega) (fun k h => by omega) (fun k h => h.elim))
      have hc8 := hk8.cell
      have hc9 := hk9'.cell
      have hc3 := hk3.cell
      have hD2l : D2 < W4.heap.size := (Array.getElem?_eq_some_iff.1 hK2).1
      have HM8 := Lib.hid hk8
      have HM4 := Lib.hid hk4
      have HD1 := Lib.hid hk1
      have HD2 := Lib.hid hK2
      have HB4 := Lib.hid hb4
      have hmin : min (n : Int) (s : Int) = (m : Int) := by omega
      clear hk8 hk4 hk1 hK2 hb4 hk9 hk9' hon h1
      gi_wp2_with (first | (gi_at_call 20; refine (callsIn_wide.2 (known_calls _)).mono ?_; rintro e w9 ⟨rfl, hb9⟩; have hk4 : Boxed w9 (w.heap.size + 1) 4 (.bool false) := (hb9.block _ HM4.out.lt).trans HM4.out; have hc4 := hk4.cell; have hf4 := hk4.frozen; have HN4 := Lib.hid hk4; have HB9 := Lib.hid hb9; clear hk4 hb9) | (refine ⟨trivial, ?_⟩; gi_at_call 20; refine (callsIn_wide.2 (known_calls _)).mono ?_; rintro e w9 ⟨rfl, hb9⟩; have hk4 : Boxed w9 (w.heap.size + 1) 4 (.bool false) := (hb9.block _ HM4.out.lt).trans HM4.out; have hc4 := hk4.cell; have hf4 := hk4.frozen; have HN4 := Lib.hid hk4; have HB9 := Lib.hid hb9; clear hk4 hb9) | fail)
      obtain ⟨W6, hW6⟩ : ∃ W6, W6 = w9.setCell ⟨w.heap.size + 1, 0, none⟩ (.bool true) := ⟨_, rfl⟩
      rw [← hW6]
      have hsame : ∀ k, k ≠ w.heap.size + 1 → W6.heap[k]? = w9.heap[k]? := fun k h => by rw [hW6]; exact Below.heap_setCell _ _ _ k h
      have h6 : Boxed W6 (w.heap.size + 1) 4 (.bool true) := by rw [hW6]; exact HN4.out.set _
      have hDD : D < D2 := by omega
      have k2 : W6.heap[D2]? = some (.deferred (some [])) := (hsame D2 (by omega)).trans ((HB9.out.block D2 hD2l).trans HD2.out)
      have k1 : (W6.putObj D2 (.deferred none)).heap[D]? = some (.deferred (some [])) := (put_other (by omega)).trans ((hsame D (by omega)).trans ((HB9.out.block D (by omega)).trans HD1.out))
      have h7 : Boxed ((W6.putObj D2 (.deferred none)).putObj D (.deferred none)) (w.heap.size + 1) 4 (.bool true) := (put_other (by omega)).trans ((put_other (by omega)).trans h6)
      have hcc := h7.cell
      refine ⟨by simp, .inl ⟨_, _, rfl, run_takeDeferred k2, ?_⟩⟩
      refine ⟨by simp, .inl ⟨_, _, rfl, run_takeDeferred k1, ?_⟩⟩
      refine ⟨.bool true, by simp [results, Try.results9, go_sem, hcc], rfl, ?_⟩
      have hb5 : Below w.heap.size w w9 := HB4.out.trans (HB9.out.mono HB4.out.size)
      refine below_put (below_put ?_ (by omega)) (by omega)
      rw [hW6]
      exact hb5.setCell (by show w.heap.size ≤ w.heap.size + 1; omega) _

set_option maxRecDepth 100000 in
set_option maxHeartbeats 1000000 in
theorem compactStops_walk (n s : Int) (_w0 : (Lit.int .i64 n).wf = true) (_w1 : (Lit.int .i64 s).wf = true) (w : World) :
    Calls Try.prog 9 #[.int .i64 n, .int .i64 s] w fun e w' => e = .returned (.bool true) ∧ Below w.heap.size w w' := by
  have hq : (0 ≤ n ∧ n ≤ 100 ∧ 1 ≤ s ∧ s ≤ 120) ∨ decide (n < 0) = true ∨ (decide (n < 0) = false ∧ decide (100 < n) = true) ∨ (decide (n < 0) = false ∧ decide (100 < n) = false ∧ decide (s < 1) = true) ∨ (decide (n < 0) = false ∧ decide (100 < n) = false ∧ decide (s < 1) = false ∧ decide (120 < s) = true) := by
    simp only [decide_eq_true_eq, decide_eq_false_iff_not]; omega
  rcases hq with ⟨h1, h2, h3, h4⟩ | h1 | ⟨h1, h2⟩ | ⟨h1, h2, h3⟩ | ⟨h1, h2, h3, h4⟩
  · obtain ⟨a, rfl⟩ := Int.eq_ofNat_of_zero_le h1
    obtain ⟨b, rfl⟩ := Int.eq_ofNat_of_zero_le (show 0 ≤ s by omega)
    exact compactStops_main a b w (by omega) (by omega) (by omega)
  all_goals
    refine (callsIn_wide (n := 3)).1 ?_
    refine callsIn_of_wp_marks Try.func9 rfl trivial ?_ rfl
    simp only [Try.ntmps9, List.size_toArray, List.length_cons, List.length_nil, Nat.reduceAdd, Nat.reduceSub, Array.replicate_succ, Array.replicate_zero, List.push_toArray, List.append_toArray, List.nil_append, List.cons_append]
    gi_wp2
    have hcc : ((w.alloc (.cells #[.int .i64 s] 3)).alloc (.cells #[.bool true] 4)).cell? ⟨w.heap.size + 1, 0, none⟩ = some (.bool true) := by
      have := (Boxed.new (w.alloc (.cells #[.int .i64 s] 3)) 4 (.bool true)).cell
      rwa [World.size_alloc] at this
    refine ⟨.bool true, by simp [results, Try.results9, go_sem, hcc], rfl, ?_⟩
    exact ((Below.refl _ w).alloc (Nat.le_refl _) _).alloc (by simp) _
end Go.Proofs.Ytioleibcekobeaa
