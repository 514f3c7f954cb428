/-
  The code's digest, with a key.
-/
import Derived.Test.YtjpmldjafkbncaaDoorBlkD
namespace Go.Proofs.YtjpmldjafkbncaaDoor
open Go.RowKit
set_option linter.unusedVariables false
set_option linter.unusedSimpArgs false

section
variable {P : Program} {ops : Array Oper} {rest : List Oper} {o : Oper} {a : Act} {Q : Exit → Act → World → Prop} {w : World}
theorem wpl_build (t : TypeId) (x : Operand) (v : Value) (cells : Array Value) (hg : o.guard = none) (ho : o.op = .build t #[(0, x)]) (hx : a.eval x = v) (hf : P.built t [(0, v)] = some cells)
    (h : wpList P ops Q rest (a.put o.dst (.agg cells)) w) : wpList P ops Q (o :: rest) a w := by
  have hf' : P.built t ((#[(0, x)] : Array (Nat × Operand)).map fun (i, x) => (i, a.eval x)).toList = some cells := by
    simpa [hx] using hf
  refine wpList_build hg t #[(0, x)] ho (by rw [hf']; rfl) ?_
  rw [hf']
  exact h
theorem wpl_alloc (t : TypeId) (cs : Array Value) (hg : o.guard = none) (ho : o.op = .alloc t) (hz : (P.info? t).bind (·.zero) = some (.agg cs))
    (h : wpList P ops Q rest (a.put o.dst (.pointer (some ⟨w.heap.size, 0, none⟩))) (w.alloc (.cells cs t))) : wpList P ops Q (o :: rest) a w := by
  refine wpList_plain hg fun K hK => ?_
  unfold Oper.wp execOp
  obtain ⟨it, hi, hz'⟩ := Option.bind_eq_some_iff.1 hz
  simp [ho, Instr.alloc, zeroValue, typeInfo, hi, hz', newVar, newRow, Value.cells, go_sem]
  exact hK _ _ h
end
theorem blake_write_nil (b : Nat) (h0 A h blk : List Nat) (held count : Nat) (v : Value) (w : World) (hG : Glob w) (hx : HX b h blk held count w) (hi : Inv h0 A h blk held count) (hr : RdB w v []) :
    Calls Tryd.prog 16 #[.pointer (some ⟨b, 0, none⟩), v] w fun e w' => e = .returned (.tuple #[]) ∧ Wrote b h0 A w w' := by
  have HW := Lib.hid (show Wrote b h0 A w w from ⟨⟨h, blk, held, count, hx, hi⟩, ⟨rfl, rfl, rfl, Nat.le_refl _, fun _ _ _ => rfl⟩, hG⟩)
  obtain ⟨ao, cap, rfl⟩ := hr.lenOf
  clear hG hx hi hr
  go_enter Tryd.func16, Tryd.ntmps16
  go_wp2
  go_loopw [1] (fun v' wr => v' = .slice ao 0 cap ∧ wr = w) (fun _ _ => 0)
  case atStart => exact ⟨rfl, rfl⟩
  case round =>
    obtain ⟨rfl, rfl⟩ := hrel
    go_wp2
    exact bodyPost_end (v := .tuple #[]) (by simp [results, Tryd.results16, go_sem]) rfl ⟨rfl, HW.out⟩
theorem blake_write' (b : Nat) (h0 A h blk : List Nat) (held count : Nat) (v : Value) (p : List Nat) (w : World) (hG : Glob w) (hx : HX b h blk held count w) (hb2 : 2 ≤ b) (hi : Inv h0 A h blk held count) (hr : RdB w v p) (ha : p ≠ [] → Apart v b) (bp : ∀ x ∈ p, x < 256) (hl : A.length + p.length ≤ 1000000000) :
    Calls Tryd.prog 16 #[.pointer (some ⟨b, 0, none⟩), v] w fun e w' => e = .returned (.tuple #[]) ∧ Wrote b h0 (A ++ p) w w' := by
  by_cases hp : p = []
  · subst hp
    rw [List.append_nil]
    exact blake_write_nil b h0 A h blk held count v w hG hx hi hr
  · exact blake_write b h0 A h blk held count v p w hG hx hb2 hi hr (ha hp) bp hl
theorem RdB.blockLt {w : World} {v : Value} {l : List Nat} (h : RdB w v l) (hl : l ≠ []) {N : Nat} (hN : w.heap.size ≤ N) : Apart v N := by
  intro a n c e
  rcases h with ⟨-, h2⟩ | ⟨a', cap, h1, h2, h3⟩
  · exact absurd h2 hl
  · rw [e] at h1
    injection h1 with e1
    injection e1 with e1
    subst e1
    have := cell_block (h3 0 (List.length_pos_iff.2 hl))
    have hb : (a.add 0).block = a.block := by unfold Addr.add; split <;> rfl
    have := hb ▸ this
    omega
theorem RdBB.lenOf {w : World} {v : Value} {l : List (List Nat)} (h : RdBB w v l) : ∃ ao cap, v = .slice ao l.length cap := by
  rcases h with ⟨rfl, rfl⟩ | ⟨a, cap, rfl, -⟩
  · exact ⟨none, 0, rfl⟩
  · exact ⟨some a, cap, rfl⟩
theorem RdBB.row {w : World} {ao : Option Addr} {cap n : Nat} {l : List (List Nat)} (h : RdBB w (.slice ao n cap) l) {j : Nat} (hj : j < l.length) :
    ∃ b off uu, ao = some ⟨b, off, none⟩ ∧ b < w.heap.size ∧ w.cell? ⟨b, off + j, none⟩ = some uu ∧ RdB w uu (l.getD j []) := by
  rcases h with ⟨-, h2⟩ | ⟨a, c, h1, -, h3⟩
  · rw [h2] at hj; simp at hj
  · injection h1 with e1
    obtain ⟨uu, h4, h5⟩ := h3 j hj
    obtain ⟨u0, hu0, -⟩ := h3 0 (by omega)
    have hsp := World.cell?_spot hu0
    have hl := cell_block h4
    obtain ⟨b, off, spot⟩ := a
    have hspot : spot = none := by simpa [Addr.add] using hsp
    subst hspot
    have ea : ∀ k, (⟨b, off, none⟩ : Addr).add k = ⟨b, off + k, none⟩ := fun k => by unfold Addr.add; split <;> simp_all
    rw [ea] at h4
    exact ⟨b, off, uu, e1, hl, h4, h5⟩
theorem flat_take (l : List (List Nat)) (k : Nat) (hk : k < l.length) : (l.take (k + 1)).flatten = (l.take k).flatten ++ l.getD k [] := by
  rw [List.take_add_one, List.flatten_append, List.getElem?_eq_getElem hk]
  simp [List.getD_eq_getElem?_getD, hk]
theorem flat_take_le (l : List (List Nat)) (k : Nat) : (l.take k).flatten.length ≤ l.flatten.length := by
  have e : (l.take k).flatten ++ (l.drop k).flatten = l.flatten := by rw [← List.flatten_append, List.take_append_drop]
  rw [← e, List.length_append]; omega
theorem builtX : Tryd.prog.built 41 [(0, .agg (Ws beginL))] = some (hcells beginL (List.replicate 128 0) 0 0).toArray := by kernel_rfl
theorem zeroX : (Tryd.prog.info? 41).bind (·.zero) = some (.agg (hcells (List.replicate 8 0) (List.replicate 128 0) 0 0).toArray) := by kernel_rfl
theorem infoX : (Tryd.prog.info? 41).map (·.size) = some 138 := by kernel_rfl

set_option maxHeartbeats 8000000 in
set_option maxRecDepth 100000 in
theorem blake_Keyed (v u : Value) (key : List Nat) (L : List (List Nat)) (w : World) (hG : Glob w) (hk : RdB w v key) (hp : RdBB w u L) (bk : ∀ x ∈ key, x < 256) (bp : ∀ l ∈ L, ∀ x ∈ l, x < 256) (lk : key.length ≤ 1000000) (lp : L.flatten.length ≤ 1000000) (ll : (L.length : Int) ≤ 4611686018427387904) :
    Calls Tryd.prog 9 #[v, u] w fun e w' => e = .returned (.agg (Bs (keyedL key L.flatten)).toArray) ∧ Below w.heap.size w w' := by
  obtain ⟨ao, cap, rfl⟩ := hk.lenOf
  obtain ⟨K, hK⟩ : ∃ K, K = key.take 64 := ⟨_, rfl⟩
  have hKl : K.length = min key.length 64 := by rw [hK]; simp [Nat.min_comm]
  have E : (if (64 : Int) < (key.length : Int) then 64 else (key.length : Int)) = (K.length : Int) := by split <;> omega
  have hrK : RdB w (.slice ao K.length cap) K := by
    cases ao with
    | none => 
      rcases hk with ⟨h1, h2⟩ | ⟨a, c, h1, -⟩
      · injection h1 with h3 h4 h5
        subst h5
        have : K = [] := by rw [hK, h2]; rfl
        subst this
        exact .inl ⟨rfl, rfl⟩
      · cases h1
    | some a =>
      have := rd_take hk (k := K.length) (by omega)
      have e : key.take K.length = K := by
        rw [hKl]
        by_cases h : key.length ≤ 64
        · rw [Nat.min_eq_left h, List.take_length, hK, List.take_of_length_le h]
        · rw [Nat.min_eq_right (by omega), hK]
      rwa [e] at this
  have HK := Lib.hid hrK
  have HP := Lib.hid hp
  have HKe := Lib.hid hK
  have hK64 : (K.length : Int) ≤ 64 := by omega
  have hKcap : K.length ≤ cap := by
    rcases hrK with ⟨h1, h2⟩ | ⟨a, c, h1, h2, -⟩
    · rw [h2]; simp
    · injection h1 with h3 h4 h5; omega
  have hKn : (K.length : Int) ≤ (key.length : Int) := by omega
  have HBK := Lib.hid bk
  have HBP := Lib.hid bp
  have hmin : min key.length 64 = K.length := hKl.symm
  have HGG := Lib.hid hG
  clear hk hp hK hrK bk bp hKl hG
  go_enter Tryd.func9, Tryd.ntmps9
  go_upto_region 2 with fail
  obtain ⟨wz, hwz⟩ : ∃ wz, wz = w.alloc (.cells #[.int .u8 0, .int .u8 0, .int .u8 0, .int .u8 0, .int .u8 0, .int .u8 0, .int .u8 0, .int .u8 0, .int .u8 0, .int .u8 0, .int .u8 0, .int .u8 0, .int .u8 0, .int .u8 0, .int .u8 0, .int .u8 0, .int .u8 0, .int .u8 0, .int .u8 0, .int .u8 0, .int .u8 0, .int .u8 0, .int .u8 0, .int .u8 0, .int .u8 0, .int .u8 0, .int .u8 0, .int .u8 0, .int .u8 0, .int .u8 0, .int .u8 0, .int .u8 0] 24) := ⟨_, rfl⟩
  rw [← hwz]
  rw [zero32] at hwz
  have hzb : wz.heap[w.heap.size]? = some (.cells (Bs (List.replicate 32 0)).toArray 24 (0, 0)) := by rw [hwz]; exact heap_alloc_new w _
  have hzs : wz.heap.size = w.heap.size + 1 := by rw [hwz]; simp
  have hzB : Below w.heap.size w wz := by rw [hwz]; exact (Below.refl _ _).alloc (Nat.le_refl _) _
  have hgz : Glob wz := HGG.out.below hzB HGG.out.lt
  have HZB := Lib.hid hzb
  have HZBB := Lib.hid hzB
  have HGZ := Lib.hid hgz
  clear hwz hzb hzB hgz
  apply wp_region_lit
  obtain ⟨tb, hbeg⟩ := HGZ.out.beg
  refine wpl_load 0 38 tb _ (Ws beginL) (0, 0) _ rfl rfl rfl hbeg Tryd.underlying38 rfl (by rw [info8, Ws_size]; rfl) ?_
  clear hbeg
  refine wpl_build 41 (.tmp 13) _ _ rfl rfl rfl builtX ?_
  refine wpl_alloc 41 _ rfl rfl zeroX ?_
  refine wpl_store wz.heap.size 41 41 (.tmp 5) (.tmp 14) _ _ rfl rfl rfl rfl (heap_alloc_last _ _) infoX rfl (by kernel_rfl) ?_
  rw [World.setRow_alloc_new]
  dsimp only [Act.put]
  obtain ⟨wy, hwy⟩ : ∃ wy, wy = wz.alloc (.cells (hcells beginL (List.replicate 128 0) 0 0).toArray 41) := ⟨_, rfl⟩
  rw [← hwy]
  have hyb : HX wz.heap.size beginL (List.replicate 128 0) 0 0 wy := by rw [hwy]; exact ⟨heap_alloc_new wz _, rfl, rfl, beginL_small, fun i => by unfold gt; rw [List.getD_eq_getElem?_getD, List.getElem?_replicate]; split <;> decide⟩
  have hyz : wy.heap[w.heap.size]? = some (.cells (Bs (List.replicate 32 0)).toArray 24 (0, 0)) := by rw [hwy]; exact (Below.heap_alloc _ _ _ (by omega)).trans HZB.out
  have hyB : Below w.heap.size w wy := by rw [hwy]; exact HZBB.out.alloc (by omega) _
  have hyG : Glob wy := by rw [hwy]; exact HGZ.out.of (by simp) (fun k hk => Below.heap_alloc _ _ _ (Nat.lt_of_lt_of_le hk HGZ.out.lt))
  have hys : wy.heap.size = w.heap.size + 2 := by rw [hwy]; simp; omega
  obtain ⟨xb, hxb⟩ : ∃ xb, xb = wz.heap.size := ⟨_, rfl⟩
  rw [← hxb] at hyb ⊢
  have c0 := hyb.h (i := 0) (by decide)
  have f0 := hyb.frozen 0
  have HYB := Lib.hid hyb
  have HYZ := Lib.hid hyz
  have HYBB := Lib.hid hyB
  have HYG := Lib.hid hyG
  have hxs : xb = w.heap.size + 1 := by omega
  have HXS := Lib.hid hxs
  have hW1 : IntKind.u64.wrap (K.length : Int) = (K.length : Int) := by rw [IntKind.wrap_u64]; omega
  clear hwy hyb hyz hyB hyG hzs hxb hxs HZB HZBB HGZ
  clear wz
  have hxor : bits .xor .u64 ((gt beginL 0 : Nat) : Int) (bits .xor .u64 16842784 ((K.length : Int) * 256)) = ((gt (initL K.length) 0 : Nat) : Int) := by
    have e1 : gt (initL K.length) 0 = gt beginL 0 ^^^ (16842784 ^^^ K.length * 256) := by
      rw [← Nat.xor_assoc]; rfl
    have l1 : (16842784 ^^^ K.length * 256 : Nat) < 18446744073709551616 := Nat.xor_lt_two_pow (n := 64) (by decide) (by omega)
    rw [e1, show (K.length : Int) * 256 = ((K.length * 256 : Nat) : Int) by omega, show (16842784 : Int) = ((16842784 : Nat) : Int) from rfl, bits_xor_u64_nat 16842784 _ (by decide) (by omega), bits_xor_u64_nat _ _ (by decide) l1]
  have hl0 : gt (initL K.length) 0 < 18446744073709551616 := by
    have e1 : gt (initL K.length) 0 = gt beginL 0 ^^^ 16842784 ^^^ K.length * 256 := rfl
    rw [e1]
    exact Nat.xor_lt_two_pow (n := 64) (Nat.xor_lt_two_pow (n := 64) (by decide) (by decide)) (by omega)
  have hset : beginL.set 0 (gt (initL K.length) 0) = initL K.length := rfl
  have HXOR := Lib.hid hxor
  have HL0 := Lib.hid hl0
  have HSET := Lib.hid hset
  clear hxor hl0 hset
  go_upto_if 28 with fail
  rw [HXOR.out]
  obtain ⟨wx, hwx⟩ : ∃ wx, wx = wy.setCell ⟨xb, 0, none⟩ (.int .u64 ((gt (initL K.length) 0 : Nat) : Int)) := ⟨_, rfl⟩
  rw [← hwx]
  have hx0 : HX xb (initL K.length) (List.replicate 128 0) 0 0 wx := by
    have := HYB.out.setH 0 (by decide) HL0.out
    rw [HSET.out] at this
    rw [hwx]; exact this
  have hg0 : wy.grownBy wx (some xb) := by
    rw [hwx]; exact grown_set ⟨rfl, rfl, rfl, Nat.le_refl _, fun _ _ _ => rfl⟩ (.inl rfl)
  have hb2 : 2 ≤ xb := by have := HXS.out; have := HGG.out.lt; omega
  have hG0 : Glob wx := by rw [hwx]; exact HYG.out.setc hb2
  have HX0 := Lib.hid hx0
  have HG0 := Lib.hid hg0
  have HGG0 := Lib.hid hG0
  clear hwx hx0 hg0 hG0 c0 f0
  obtain ⟨A0, hA0⟩ : ∃ A0, A0 = (if K = [] then [] else K ++ List.replicate (128 - K.length) 0) := ⟨_, rfl⟩
  have HA0 := Lib.hid hA0
  clear hA0
  go_cut [1, 4, 5] (fun x1 x4 x5 wc => x1 = u ∧ x4 = .pointer (some ⟨w.heap.size, 0, none⟩) ∧ x5 = .pointer (some ⟨xb, 0, none⟩) ∧ (∃ h blk held count, HX xb h blk held count wc ∧ Inv (initL K.length) A0 h blk held count) ∧ wy.grownBy wc (some xb) ∧ Glob wc)
  case first =>
    by_cases hKz : K.length = 0
    · have hgd : decide (0 < K.length) = false := by rw [hKz]; rfl
      have hKn' : K = [] := List.length_eq_zero_iff.1 hKz
      have hA : A0 = [] := by rw [HA0.out, if_pos hKn']
      have hInv : Inv (initL K.length) A0 (initL K.length) (List.replicate 128 0) 0 0 := by rw [hA]; exact ⟨by decide, rfl, fun rest => rfl⟩
      have HI := Lib.hid hInv
      clear hKn' hA hInv hKz
      rw [hgd]
      clear hgd
      go_wp2_with fail
      go_meet
      exact ⟨rfl, rfl, rfl, ⟨_, _, _, _, HX0.out, HI.out⟩, HG0.out, HGG0.out⟩
    · have hgd : decide (0 < K.length) = true := decide_eq_true (by omega)
      have hKn' : K ≠ [] := fun e => hKz (by rw [e]; rfl)
      have hA : A0 = K ++ List.replicate (128 - K.length) 0 := by rw [HA0.out, if_neg hKn']
      have hKpos : 0 < K.length := by omega
      rw [hgd]
      clear hgd hKz
      have hrK := HK.out
      obtain ⟨a, hao⟩ : ∃ a, ao = some a := by
        rcases hrK with ⟨-, h2⟩ | ⟨a, c, h1, -⟩
        · exact absurd h2 hKn'
        · injection h1 with h3 h4 h5; exact ⟨a, h3⟩
      subst hao
      have hcs := (RdB.cells hrK).2
      have hc0 := hcs 0 (.int .u8 (gt K 0 : Nat)) (by simp [Bs, gt, hKpos])
      have hspot : a.spot = none := by
        have := World.cell?_spot hc0
        simpa [Addr.add] using this
      have hab : a.block < w.heap.size := by
        have hl := cell_block hc0
        have hb : (a.add 0).block = a.block := by unfold Addr.add; split <;> rfl
        exact hb ▸ hl
      obtain ⟨ab, aoff, sp⟩ := a
      simp only at hspot hab
      subst hspot
      have hxs := HXS.out
      have hrx : RdB wx (.slice (some ⟨ab, aoff, none⟩) K.length cap) K := (hrK.below HYBB.out).grown HG0.out (fun a n c e => by injection e with e1; injection e1 with e1; rw [← e1]; simp only; omega)
      have hsrc : ∀ i v, (Bs K)[i]? = some v → wx.cell? ((⟨ab, aoff, none⟩ : Addr).add i) = some v := (RdB.cells hrx).2
      have HSRC := Lib.hid hsrc
      have hKs : ∀ i, gt K i < 256 := fun i => by
        by_cases hi : i < K.length
        · have e : gt K i = K[i] := by simp only [gt, List.getD_eq_getElem?_getD, List.getElem?_eq_getElem hi, Option.getD_some]
          rw [e]
          have hm : K[i] ∈ key.take 64 := by rw [← HKe.out]; exact List.getElem_mem hi
          exact HBK.out _ (List.mem_of_mem_take hm)
        · rw [gt_ge (by omega)]; decide
      have HKS := Lib.hid hKs
      have hKl : K.length ≤ 64 := by omega
      have hlaid : laidAt (List.replicate 128 0) K 0 = A0 := by
        rw [hA]; unfold laidAt
        simp only [List.take_zero, List.nil_append, Nat.zero_add, List.drop_replicate]
      have hA0l : A0.length = 128 := by rw [← hlaid]; exact laidAt_len rfl (by omega)
      have HLA := Lib.hid hlaid
      have HAL := Lib.hid hA0l
      clear hrK hcs hc0 hab hxs hrx hsrc hKs hA hlaid hA0l hKn'
      go_wp2_with (first | (refine wpList_copy_own rfl _ _ 22 22 rfl 5 Tryd.underlying22 info5s xb 8 128 128 ⟨ab, aoff, none⟩ K.length cap rfl rfl (hcells (initL K.length) (List.replicate 128 0) 0 0).toArray 41 HX0.out.at_ (Bs K) (by rw [Bs_length]; exact (Nat.min_eq_left (by omega)).symm) HSRC.out (by rw [Bs_length]; simp only [List.size_toArray, hcells, List.length_append, List.length_map, HX0.out.hl, Bs_length, HX0.out.bl, List.length_cons, List.length_nil]; omega) (Bs_one K) ?_; obtain ⟨w5, hw5⟩ : ∃ w5, w5 = wx.setRow xb (((hcells (initL K.length) (List.replicate 128 0) 0 0).toArray.toList.take 8) ++ (Bs K ++ (hcells (initL K.length) (List.replicate 128 0) 0 0).toArray.toList.drop (8 + (Bs K).length))).toArray := ⟨_, rfl⟩; have hx5 : HX xb (initL K.length) A0 0 0 w5 := (by
        have := HX0.out.splice (q := K) (by omega) HKS.out
        rw [List.append_assoc, HLA.out] at this
        rw [hw5]; exact this); have hg5 : wy.grownBy w5 (some xb) := (by
        have g := HG0.out
        rw [hw5]
        exact ⟨g.os, g.tape, g.output, by simp; exact g.size, fun k hk hr => (setRow_other _ xb k _ (fun e => hr (by rw [e]))).trans (g.block k hk hr)⟩); have hG5 : Glob w5 := (by
        rw [hw5]
        exact HGG0.out.of (by simp) (fun k hk => setRow_other _ xb k _ (by omega))); rw [← hw5]; have k5 := hx5.held; have f5 := hx5.frozen 136; have HX5 := Lib.hid (hx5.setHeld 128); have HG5 := Lib.hid (grown_set (i := 136) (v := .int .i64 (128 : Int)) hg5 (.inl rfl)); have HGG5 := Lib.hid (hG5.setc (c := xb) (i := 136) (v := .int .i64 (128 : Int)) hb2); clear hx5 hg5 hG5 hw5) | fail)
      go_meet
      exact ⟨rfl, rfl, rfl, ⟨_, _, _, _, HX5.out, ⟨by decide, by rw [HAL.out], fun rest => by rw [List.take_of_length_le (by rw [HAL.out]; decide)]⟩⟩, HG5.out, HGG5.out⟩
  case rest =>
    obtain ⟨rfl, rfl, rfl, ⟨h, blk, held, count, hx, hi⟩, hg, hG⟩ := hcut
    obtain ⟨uo, ucap, rfl⟩ := HP.out.lenOf
    have HXC := Lib.hid hx
    have HIC := Lib.hid hi
    have HGC := Lib.hid hg
    have HGGC := Lib.hid hG
    have hA0l : A0.length ≤ 128 := by rw [HA0.out]; split <;> simp <;> omega
    clear hx hi hg hG
    go_wp2
    go_loopw [36] (fun i wr => ∃ n : Nat, n ≤ L.length ∧ i = .int .i64 n ∧ (∃ h blk held count, HX xb h blk held count wr ∧ Inv (initL K.length) (A0 ++ (L.take n).flatten) h blk held count) ∧ wy.grownBy wr (some xb) ∧ Glob wr) (fun i _ => L.length - (intOf i).toNat)
    case atStart => exact ⟨0, by omega, rfl, ⟨_, _, _, _, HXC.out, by simpa using HIC.out⟩, HGC.out, HGGC.out⟩
    case round =>
      obtain ⟨n, hn, rfl, ⟨h', blk', held', count', hx, hi⟩, hg, hG⟩ := hrel
      have hys' := HYBB.out.size
      have hxs' := HXS.out
      by_cases hlt : n < L.length
      · obtain ⟨rb, ro, uu, rfl, hrb, hcell, hru⟩ := HP.out.row hlt
        obtain ⟨p, hp⟩ : ∃ p, p = L.getD n [] := ⟨_, rfl⟩
        rw [← hp] at hru
        have hrbx : rb ≠ xb := by omega
        have hcw : wr.cell? ⟨rb, ro + n, none⟩ = some uu := by
          rw [← hcell, ← HYBB.out.cell (p := ⟨rb, ro + n, none⟩) hrb]
          exact World.cell?_of_block (hg.block _ (by simp only; omega) (by simp only; intro e; injection e with e; exact hrbx e))
        have hap : p ≠ [] → Apart uu xb := fun h0 => hru.blockLt h0 (by omega)
        have hrw : p ≠ [] → RdB wr uu p := fun h0 => (hru.below HYBB.out).grown hg (hap h0)
        have hrw' : RdB wr uu p := by
          by_cases h0 : p = []
          · rcases hru with h1 | ⟨a, c, h1, h2, -⟩
            · exact .inl h1
            · exact .inr ⟨a, c, h1, h2, fun i hi => by rw [h0] at hi; simp at hi⟩
          · exact hrw h0
        have hpm : p ∈ L := by
          rw [hp, List.getD_eq_getElem?_getD, List.getElem?_eq_getElem hlt]; exact List.getElem_mem hlt
        have hfl := flat_take L n hlt
        have hle := flat_take_le L (n + 1)
        rw [hfl, ← hp, List.length_append] at hle
        have hbp : ∀ x ∈ p, x < 256 := HBP.out p hpm
        have hlen : (A0 ++ (L.take n).flatten).length + p.length ≤ 1000000000 := by rw [List.length_append]; omega
        have HXR := Lib.hid hx
        have HIR := Lib.hid hi
        have HGR := Lib.hid hg
        have HGGR := Lib.hid hG
        have HAP := Lib.hid hap
        have HRW := Lib.hid hrw'
        have HFL := Lib.hid hfl
        have HBPP := Lib.hid hbp
        have HLEN := Lib.hid hlen
        have HPD := Lib.hid hp
        clear hx hi hg hG hap hrw hrw' hfl hbp hlen hp hru hcell hpm hle hrbx
        obtain ⟨h00, hh00⟩ : ∃ h00, h00 = initL K.length := ⟨_, rfl⟩
        obtain ⟨A1, hA1⟩ : ∃ A1, A1 = A0 ++ (L.take n).flatten := ⟨_, rfl⟩
        clear hys' hxs'
        rw [← hh00, ← hA1] at HIR
        rw [← hA1] at HLEN
        have HH00 := Lib.hid hh00
        have HA1 := Lib.hid hA1
        clear hh00 hA1
        go_wp2_with (first | (go_at_call 16; refine (blake_write' xb h00 A1 h' blk' held' count' uu p wr HGGR.out HXR.out hb2 HIR.out HRW.out HAP.out HBPP.out HLEN.out).mono ?_; rintro e wM ⟨rfl, hM⟩; have HM := Lib.hid hM; clear hM) | fail)
        obtain ⟨⟨h2, b2, he2, co2, hx2, hi2⟩, hg2, hG2⟩ := HM.out
        refine ⟨⟨n + 1, by omega, by go_num, ⟨h2, b2, he2, co2, hx2, ?_⟩, grown_trans HGR.out hg2, hG2⟩, by simp only [intOf]; omega⟩
        rw [HFL.out, ← HPD.out, ← List.append_assoc, ← HA1.out, ← HH00.out]
        exact hi2
      · have hnL : n = L.length := by omega
        subst hnL
        rw [List.take_length] at hi
        have HXR := Lib.hid hx
        have HIR := Lib.hid hi
        have HGR := Lib.hid hg
        have HGGR := Lib.hid hG
        have hlen : (A0 ++ L.flatten).length ≤ 1000000000 := by rw [List.length_append]; omega
        have hout := outL_len (chainL (initL K.length) (A0 ++ L.flatten) 0)
        have HOUT := Lib.hid hout
        have HLEN := Lib.hid hlen
        obtain ⟨O, hO⟩ : ∃ O, O = outL (chainL (initL K.length) (A0 ++ L.flatten) 0) := ⟨_, rfl⟩
        have HO := Lib.hid hO
        clear hx hi hg hG hlen hout hO
        obtain ⟨h00, hh00⟩ : ∃ h00, h00 = initL K.length := ⟨_, rfl⟩
        obtain ⟨A1, hA1⟩ : ∃ A1, A1 = A0 ++ L.flatten := ⟨_, rfl⟩
        clear hys' hxs'
        rw [← hA1] at HIR HLEN HOUT HO
        rw [← hh00] at HIR HOUT HO
        have HH00 := Lib.hid hh00
        have HA1 := Lib.hid hA1
        clear hh00 hA1
        go_wp2_with (first | (go_at_call 17; refine (blake_end xb h00 A1 h' blk' held' count' wr HGGR.out HXR.out hb2 HIR.out HLEN.out).mono ?_; rintro e wM ⟨rfl, hM⟩; have HM := Lib.hid hM; clear hM; have hz : wM.heap[w.heap.size]? = some (.cells (Bs (List.replicate 32 0)).toArray 24 (0, 0)) := (by
          have h1 := HGR.out.size
          have h2 := HXS.out
          exact (HM.out.block _ (by omega) (by simp; omega)).trans ((HGR.out.block _ (by omega) (by simp; omega)).trans HYZ.out)); have HZ := Lib.hid hz; clear hz; rw [← HO.out]) | (refine wpl_store w.heap.size 24 24 _ _ (Bs (List.replicate 32 0)).toArray (Bs O).toArray rfl rfl rfl rfl HZ.out (by rw [infoH, Bs_size, HO.out, HOUT.out]) (by rw [Bs_size, Bs_size, HO.out, HOUT.out]; rfl) (Bs_all _) ?_) | fail)
        refine bodyPost_ret (results_row (b := w.heap.size) (t := 24) Tryd.results9 rfl (setRow_heap wM w.heap.size _ _ _ _ HZ.out) Tryd.underlying24 rfl (by rw [infoH, Bs_size, HO.out, HOUT.out])) rfl ⟨?_, ?_⟩
        · have e : O = keyedL key L.flatten := by
            rw [HO.out, HA1.out, HH00.out]
            unfold keyedL allL
            rw [← HKe.out, ← HA0.out]
          rw [e]
        · have g := grown_trans HGR.out HM.out
          refine setRow_below (HYBB.out.trans ⟨g.os, g.tape, g.output, g.size, fun k hk => g.block k (Nat.lt_of_lt_of_le hk HYBB.out.size) (fun e => ?_)⟩) (Nat.le_refl _)
          have h2 := HXS.out
          injection e with e
          omega
end Go.Proofs.YtjpmldjafkbncaaDoor
