/-
  A call's digest; the law CodeSums, walked.
-/
import Derived.Test.YtbndegkgpoemnaaDoorBlk8
import Derived.Test.YtbndegkgpoemnaaDoorBlk6
import Derived.Deep.MidRow
import Derived.BigRegion
import Derived.RegionTactic
import Derived.Deep.DeepCutAuto
import Derived.StillTailTactics
import Derived.Laws.CopyOwn
import Derived.Test.YtbndegkgpoemnaaDoorBlk7
import Derived.Test.YtbndegkgpoemnaaDoorChecked
import Derived.Test.YtbndegkgpoemnaaDoorBlkM
import Derived.Test.YtbndegkgpoemnaaDoorBytes
import Derived.ChangeKeysEq
import Derived.Test.YtbndegkgpoemnaaDoorOpC
import Derived.Test.YtbndegkgpoemnaaDoorEnc
import Derived.Test.YtbndegkgpoemnaaDoorCod9
import Derived.Test.YtbndegkgpoemnaaDoorRows
import Derived.Lib.LaidTab
import Derived.LaidMore
import Derived.MakeChecks
import Derived.OpenShut
import Derived.FnData
import Derived.Deep.CutBlock

section
namespace Go.Proofs.YtbndegkgpoemnaaDoor
open Go.RowKit
set_option linter.unusedVariables false
set_option linter.unusedSimpArgs false

/-- A hasher's cells. -/
def hcells (h blk : List Nat) (held count : Nat) : List Value := (h.map fun (n : Nat) => Value.int .u64 (n : Int)) ++ (Bs blk ++ [.int .i64 (held : Nat), .int .u64 (count : Nat)])
/-- A hasher lies in block b. -/
structure HX (b : Nat) (h blk : List Nat) (held count : Nat) (w : World) : Prop where
  at_ : w.heap[b]? = some (.cells (hcells h blk held count).toArray 103 (0, 0))
  hl : h.length = 8
  bl : blk.length = 128
  hs : Small h
  bs : ∀ i, gt blk i < 256
theorem HX.lt {b : Nat} {h blk : List Nat} {held count : Nat} {w : World} (x : HX b h blk held count w) : b < w.heap.size := (Array.getElem?_eq_some_iff.1 x.at_).1
theorem HX.cellAt {b : Nat} {h blk : List Nat} {held count : Nat} {w : World} (x : HX b h blk held count w) (i : Nat) : w.cell? ⟨b, i, none⟩ = (hcells h blk held count)[i]? := by
  simp [World.cell?, x.at_]
theorem HX.frozen {b : Nat} {h blk : List Nat} {held count : Nat} {w : World} (x : HX b h blk held count w) (i : Nat) : w.frozen? ⟨b, i, none⟩ = false := by simp [World.frozen?, x.at_]
theorem HX.h {b : Nat} {h blk : List Nat} {held count : Nat} {w : World} (x : HX b h blk held count w) {i : Nat} (hi : i < 8) : w.cell? ⟨b, i, none⟩ = some (.int .u64 (gt h i : Nat)) := by
  rw [x.cellAt, hcells, List.getElem?_append_left (by simp [x.hl]; exact hi)]
  have := x.hl
  simp [gt, this, hi]
theorem HX.b {b : Nat} {h blk : List Nat} {held count : Nat} {w : World} (x : HX b h blk held count w) {i : Nat} (hi : i < 128) : w.cell? ⟨b, 8 + i, none⟩ = some (.int .u8 (gt blk i : Nat)) := by
  have h1 := x.hl
  have h2 := x.bl
  rw [x.cellAt, hcells, List.getElem?_append_right (by simp [h1])]
  simp only [List.length_map, h1, Nat.add_sub_cancel_left]
  rw [List.getElem?_append_left (by rw [Bs_length, h2]; exact hi)]
  simp [Bs, gt, h2, hi]
theorem HX.held {b : Nat} {h blk : List Nat} {held count : Nat} {w : World} (x : HX b h blk held count w) : w.cell? ⟨b, 136, none⟩ = some (.int .i64 (held : Nat)) := by
  have h1 := x.hl
  have h2 := x.bl
  rw [x.cellAt, hcells, List.getElem?_append_right (by simp [h1])]
  simp only [List.length_map, h1]
  rw [List.getElem?_append_right (by rw [Bs_length, h2]; decide), Bs_length, h2]
  rfl
theorem HX.count {b : Nat} {h blk : List Nat} {held count : Nat} {w : World} (x : HX b h blk held count w) : w.cell? ⟨b, 137, none⟩ = some (.int .u64 (count : Nat)) := by
  have h1 := x.hl
  have h2 := x.bl
  rw [x.cellAt, hcells, List.getElem?_append_right (by simp [h1])]
  simp only [List.length_map, h1]
  rw [List.getElem?_append_right (by rw [Bs_length, h2]; decide), Bs_length, h2]
  rfl
theorem HX.setH {b : Nat} {h blk : List Nat} {held count : Nat} {w : World} (x : HX b h blk held count w) (i : Nat) (hi : i < 8) {v : Nat} (hv : v < 18446744073709551616) : HX b (h.set i v) blk held count (w.setCell ⟨b, i, none⟩ (.int .u64 (v : Nat))) := by
  refine ⟨(set_block _ x.at_).trans ?_, by simp [x.hl], x.bl, x.hs.set i hv, x.bs⟩
  have h1 := x.hl
  congr 2
  apply Array.ext'
  simp only [Array.toList_setIfInBounds, hcells, List.map_set]
  rw [List.set_append_left _ _ (by simp [h1]; exact hi)]
theorem HX.setHeld {b : Nat} {h blk : List Nat} {held count : Nat} {w : World} (x : HX b h blk held count w) (n : Nat) : HX b h blk n count (w.setCell ⟨b, 136, none⟩ (.int .i64 (n : Nat))) := by
  refine ⟨(set_block _ x.at_).trans ?_, x.hl, x.bl, x.hs, x.bs⟩
  have h1 := x.hl
  have h2 := x.bl
  congr 2
  apply Array.ext'
  simp only [Array.toList_setIfInBounds, hcells]
  rw [List.set_append_right _ _ (by simp [h1])]
  simp only [List.length_map, h1]
  rw [List.set_append_right _ _ (by rw [Bs_length, h2]; decide), Bs_length, h2]
  rfl
theorem HX.setCount {b : Nat} {h blk : List Nat} {held count : Nat} {w : World} (x : HX b h blk held count w) (n : Nat) : HX b h blk held n (w.setCell ⟨b, 137, none⟩ (.int .u64 (n : Nat))) := by
  refine ⟨(set_block _ x.at_).trans ?_, x.hl, x.bl, x.hs, x.bs⟩
  have h1 := x.hl
  have h2 := x.bl
  congr 2
  apply Array.ext'
  simp only [Array.toList_setIfInBounds, hcells]
  rw [List.set_append_right _ _ (by simp [h1])]
  simp only [List.length_map, h1]
  rw [List.set_append_right _ _ (by rw [Bs_length, h2]; decide), Bs_length, h2]
  rfl
theorem HX.keep {b : Nat} {h blk : List Nat} {held count : Nat} {w w' : World} (x : HX b h blk held count w) (hk : w'.heap[b]? = w.heap[b]?) : HX b h blk held count w' := ⟨hk.trans x.at_, x.hl, x.bl, x.hs, x.bs⟩
/-- The block's bytes as a range of cells. -/
theorem HX.range {b : Nat} {h blk : List Nat} {held count : Nat} {w : World} (x : HX b h blk held count w) : w.rangeAt b 8 (Bs blk) := by
  intro j v hv
  have hj : j < 128 := by
    have := (List.getElem?_eq_some_iff.1 hv).1
    rw [Bs_length, x.bl] at this; exact this
  rw [x.b hj]
  have h2 := x.bl
  simp [Bs, h2, hj] at hv
  rw [← hv]
  simp [gt, h2, hj]

/-- A word of a block is made from its lowest byte on: n bytes of the block are laid into m. -/
def mTo (p : List Nat) (n : Nat) : List Nat := (List.range 16).map fun j => wordTo p (8 * j) (min 8 (n - 8 * j))
theorem mTo_len (p : List Nat) (n : Nat) : (mTo p n).length = 16 := by simp [mTo]
theorem mTo_zero (p : List Nat) : mTo p 0 = List.replicate 16 0 := by
  refine ext_gt (by simp [mTo]) fun i hi => ?_
  rw [gt_zeros, mTo, gt_map_range (by simpa [mTo] using hi)]
  simp [wordTo]
theorem mTo_all (p : List Nat) : mTo p 128 = wordsL p := by
  unfold mTo wordsL
  refine List.map_congr_left fun j hj => ?_
  have := List.mem_range.1 hj
  rw [show min 8 (128 - 8 * j) = 8 by omega]
theorem mTo_succ (p : List Nat) (n : Nat) (hn : n < 128) : mTo p (n + 1) = (mTo p n).set (n / 8) (gt (mTo p n) (n / 8) + 256 ^ (n % 8) * gt p n) := by
  have hq : n / 8 < 16 := by omega
  refine ext_gt (by simp [mTo]) fun i hi => ?_
  rw [mTo_len] at hi
  by_cases e : i = n / 8
  · subst e
    rw [gt_set_same (by rw [mTo_len]; exact hq), mTo, mTo, gt_map_range hq, gt_map_range hq]
    rw [show min 8 (n + 1 - 8 * (n / 8)) = n % 8 + 1 by omega, show min 8 (n - 8 * (n / 8)) = n % 8 by omega, wordTo, show 8 * (n / 8) + n % 8 = n by omega]
  · rw [gt_set_ne (fun h => e h.symm), mTo, mTo, gt_map_range hi, gt_map_range hi]
    congr 1; omega
theorem mTo_small {p : List Nat} (hp : ∀ i, gt p i < 256) (n : Nat) (hn : n < 128) : gt (mTo p n) (n / 8) < 256 ^ (n % 8) := by
  rw [mTo, gt_map_range (by omega), show min 8 (n - 8 * (n / 8)) = n % 8 by omega]
  exact wordTo_lt hp _ _
end Go.Proofs.YtbndegkgpoemnaaDoor
end

section
namespace Go.Proofs.YtbndegkgpoemnaaDoor
open Go.RowKit
set_option linter.unusedVariables false
set_option linter.unusedSimpArgs false

theorem info128 : (Tryd.prog.info? 101).map (·.size) = some 128 := by kernel_rfl

theorem or_word (x c k : Nat) (hx : x < 256 ^ k) (hc : c < 256) (hk : k < 8) : bits .or .u64 (x : Int) (IntKind.u64.wrap ((c : Int) * 2 ^ (8 * k))) = ((x + 256 ^ k * c : Nat) : Int) := by
  have e : (256 : Nat) ^ k = 2 ^ (8 * k) := by rw [Nat.pow_mul]
  have h64 : (2 : Nat) ^ (8 * k) ≤ 2 ^ 56 := Nat.pow_le_pow_right (by decide) (by omega)
  have hm : c * 2 ^ (8 * k) ≤ 255 * 2 ^ 56 := Nat.mul_le_mul (by omega) h64
  have h2 : IntKind.u64.wrap ((c : Int) * 2 ^ (8 * k)) = ((c * 2 ^ (8 * k) : Nat) : Int) := by
    rw [IntKind.wrap_u64, show (c : Int) * 2 ^ (8 * k) = ((c * 2 ^ (8 * k) : Nat) : Int) by norm_cast]
    generalize c * 2 ^ (8 * k) = y at hm ⊢
    omega
  rw [e] at hx
  rw [h2, bits_or_u64_nat _ _ (by omega) (by omega), e]
  have := Nat.two_pow_add_eq_or_of_lt (i := 8 * k) (b := x) hx c
  congr 1
  rw [Nat.or_comm, Nat.mul_comm c, ← this, Nat.add_comm]

theorem wpl_loadm {ops : Array Oper} {rest : List Oper} {o : Oper} {a : Act} {Q : Exit → Act → World → Prop} {w : World} (b k : Nat) (ty : TypeId) (x : Operand) (cs : List Value) (d : TypeDesc) (hgd : o.guard = none) (ho : o.op = .load ty x) (hx : a.eval x = .pointer (some ⟨b, k, none⟩)) (hc : w.rangeAt b k cs)
    (hu : Tryd.prog.underlying ty = some d) (hd : d.isRow = true) (hi : (Tryd.prog.info? ty).map (·.size) = some cs.length) (h : wpList Tryd.prog ops Q rest (a.put o.dst (.agg cs.toArray)) w) : wpList Tryd.prog ops Q (o :: rest) a w := by
  refine wpList_plain hgd fun K hK => ?_
  unfold Oper.wp execOp
  simp only [ho, hx, Sem.run_bind, Sem.run_pure, run_loadAt_mid w b k ty cs d hc hu hd hi, Result.andThen_ok]
  exact hK _ _ h

theorem idx_bytes (T : TypeId) (N : Nat) (hT : Tryd.prog.underlying T = some (.array N 5)) (l : List Nat) (n : Nat) (hn : n < N) (hl : n < l.length) (w : World) : (Instr.index T (.agg (Bs l).toArray) (.int .i64 (n : Nat))).run Tryd.prog w = .ok (.int .u8 (gt l n : Nat)) w := by
  obtain ⟨i0, hi, hz0, hz1, hz2⟩ := info_parts info5
  have hn' : (n : Int) < (N : Int) := by omega
  have hc : (Bs l)[n]? = some (.int .u8 (gt l n : Nat)) := by simp [Bs, gt, hl]
  have hu := Tryd.underlying5
  simp [Instr.index, asIntOf, run_underlying hT, part, isAgg, run_underlying hu, sizeOf, typeInfo, hi, hz1, hn, hc]

/-- The frame while m is made. -/
structure FA (w : World) (b mb vb : Nat) (h blk : List Nat) (held count : Nat) (m v : List Nat) (wr : World) : Prop where
  hx : HX b h blk held count wr
  mx : WBox 121 mb m wr
  vx : WBox 121 vb v wr
  ml : m.length = 16
  vl : v.length = 16
  n1 : b < mb
  n2 : mb < vb
  n3 : 2 ≤ b
  gl : Glob wr
  old : w.grownBy wr (some b)
  nw : w.heap.size ≤ mb

theorem Glob.cell {w : World} (h : Glob w) {i : Nat} (hi : i < 8) : w.cell? ⟨0, i, none⟩ = some (.int .u64 (gt beginL i : Nat)) := by
  have : i < beginL.length := by simp [beginL]; exact hi
  obtain ⟨t, ht⟩ := h.beg
  simp [World.cell?, ht, Ws, this, gt]
theorem FA.round {w wr w' : World} {b mb vb : Nat} {h blk : List Nat} {held count : Nat} {m v v' : List Nat} (f : FA w b mb vb h blk held count m v wr) (hv : WBox 121 vb v' w') (hg : wr.grownBy w' (some vb)) (hl : v'.length = 16) : FA w b mb vb h blk held count m v' w' := by
  have n1 := f.n1
  have n2 := f.n2
  have n3 := f.n3
  have nw := f.nw
  have l1 := f.hx.lt
  have l2 := f.mx.lt
  have ho := f.old
  refine ⟨f.hx.keep (hg.block _ l1 (by simp; omega)), f.mx.keep' (hg.block _ l2 (by simp; omega)), hv, f.ml, hl, n1, n2, n3, f.gl.grown hg (fun k hk => by cases hk; omega), ⟨hg.os.trans ho.os, hg.tape.trans ho.tape, hg.output.trans ho.output, Nat.le_trans ho.size hg.size, fun k hk hr => (hg.block k (Nat.lt_of_lt_of_le hk ho.size) (by simp; omega)).trans (ho.block k hk hr)⟩, nw⟩
theorem grown_set {w wr : World} {b c i : Nat} {v : Value} (h : w.grownBy wr (some b)) (hc : c = b ∨ w.heap.size ≤ c) : w.grownBy (wr.setCell ⟨c, i, none⟩ v) (some b) :=
  ⟨h.os, h.tape, h.output, by have := h.size; simp; omega, fun k hk hr => (set_other (by
    rcases hc with e | e
    · subst e; exact fun e => hr (by rw [e])
    · simp only; omega)).trans (h.block k hk hr)⟩
theorem grown_drew {w wr : World} {r : Option Nat} (h : w.grownBy wr r) : w.grownBy wr.drew r := ⟨h.os, h.tape, h.output, h.size, h.block⟩
theorem Glob.setc {w : World} {c i : Nat} {v : Value} (h : Glob w) (hc : 2 ≤ c) : Glob (w.setCell ⟨c, i, none⟩ v) := h.of (by simp) (fun k hk => set_other (by simp only; omega))
theorem FA.setm {w wr : World} {b mb vb : Nat} {h blk : List Nat} {held count : Nat} {m v : List Nat} (f : FA w b mb vb h blk held count m v wr) (i : Nat) {x : Nat} (hx : x < 18446744073709551616) : FA w b mb vb h blk held count (m.set i x) v (wr.setCell ⟨mb, i, none⟩ (.int .u64 (x : Nat))) := by
  have n1 := f.n1
  have n2 := f.n2
  have n3 := f.n3
  exact ⟨f.hx.keep (set_other (by simp only; omega)), f.mx.set i hx, f.vx.keep' (set_other (by simp only; omega)), by simp [f.ml], f.vl, n1, n2, n3, f.gl.setc (by omega), grown_set f.old (.inr f.nw), f.nw⟩
theorem FA.setv {w wr : World} {b mb vb : Nat} {h blk : List Nat} {held count : Nat} {m v : List Nat} (f : FA w b mb vb h blk held count m v wr) (i : Nat) {x : Nat} (hx : x < 18446744073709551616) : FA w b mb vb h blk held count m (v.set i x) (wr.setCell ⟨vb, i, none⟩ (.int .u64 (x : Nat))) := by
  have n1 := f.n1
  have n2 := f.n2
  have n3 := f.n3
  have nw := f.nw
  exact ⟨f.hx.keep (set_other (by simp only; omega)), f.mx.keep' (set_other (by simp only; omega)), f.vx.set i hx, f.ml, by simp [f.vl], n1, n2, n3, f.gl.setc (by omega), grown_set f.old (.inr (by omega)), nw⟩
theorem FA.seth {w wr : World} {b mb vb : Nat} {h blk : List Nat} {held count : Nat} {m v : List Nat} (f : FA w b mb vb h blk held count m v wr) (i : Nat) (hi : i < 8) {x : Nat} (hx : x < 18446744073709551616) : FA w b mb vb (h.set i x) blk held count m v (wr.setCell ⟨b, i, none⟩ (.int .u64 (x : Nat))) := by
  have n1 := f.n1
  have n2 := f.n2
  exact ⟨f.hx.setH i hi hx, f.mx.keep' (set_other (by simp only; omega)), f.vx.keep' (set_other (by simp only; omega)), f.ml, f.vl, n1, n2, f.n3, f.gl.setc f.n3, grown_set f.old (.inl rfl), f.nw⟩
theorem FA.drew {w wr : World} {b mb vb : Nat} {h blk : List Nat} {held count : Nat} {m v : List Nat} (f : FA w b mb vb h blk held count m v wr) : FA w b mb vb h blk held count m v wr.drew :=
  ⟨f.hx.keep rfl, f.mx.keep' rfl, f.vx.keep' rfl, f.ml, f.vl, f.n1, f.n2, f.n3, f.gl.of (Nat.le_refl _) (fun _ _ => rfl), grown_drew f.old, f.nw⟩

set_option maxHeartbeats 8000000 in
set_option maxRecDepth 100000 in
theorem blake_mixBlock (b : Nat) (h8 blk : List Nat) (held count : Nat) (last : Bool) (w : World) (hG : Glob w) (hx : HX b h8 blk held count w) (hb2 : 2 ≤ b) (hheld : held ≤ 128) (hcount : count ≤ 1099511627776) :
    Calls Tryd.prog 79 #[.pointer (some ⟨b, 0, none⟩), .bool last] w fun e w' => e = .returned (.tuple #[]) ∧ HX b (blockL h8 (wordsL blk) (count + held) last) blk held (count + held) w' ∧ w.grownBy w' (some b) ∧ Glob w' := by
  have k0 := hx.count
  have k1 := hx.held
  have k2 := hx.frozen 137
  have hblt := hx.lt
  have W1 : IntKind.u64.wrap ((held : Nat) : Int) = ((held : Nat) : Int) := by rw [IntKind.wrap_u64]; omega
  have W2 : IntKind.u64.wrap (((count : Nat) : Int) + ((held : Nat) : Int)) = ((count + held : Nat) : Int) := by rw [IntKind.wrap_u64]; omega
  have HXX := Lib.hid hx
  have HGG := Lib.hid hG
  clear hx hG
  go_enter Tryd.func79, Tryd.ntmps79
  go_wp2
  go_still_tail 12, (by kernel_rfl)
  go_upto_region 2 with fail
  obtain ⟨w1, hw1⟩ : ∃ w1, w1 = w.setCell ⟨b, 137, none⟩ (.int .u64 ((count + held : Nat) : Int)) := ⟨_, rfl⟩
  have hct : ((count : Nat) : Int) + ((held : Nat) : Int) = ((count + held : Nat) : Int) := by omega
  have hz16 : (#[.int .u64 0, .int .u64 0, .int .u64 0, .int .u64 0, .int .u64 0, .int .u64 0, .int .u64 0, .int .u64 0, .int .u64 0, .int .u64 0, .int .u64 0, .int .u64 0, .int .u64 0, .int .u64 0, .int .u64 0, .int .u64 0] : Array Value) = Ws (List.replicate 16 0) := rfl
  rw [hct, hz16, ← hw1]
  obtain ⟨w2, hw2⟩ : ∃ w2, w2 = ((w1.alloc (.cells (Ws (List.replicate 16 0)) 121)).alloc (.cells (Ws (List.replicate 16 0)) 121)).drew := ⟨_, rfl⟩
  rw [← hw2]
  have hFA : FA w b w.heap.size (w.heap.size + 1) h8 blk held (count + held) (List.replicate 16 0) (List.replicate 16 0) w2 := by
    have hs1 : w1.heap.size = w.heap.size := by rw [hw1]; simp
    have hx1 : HX b h8 blk held (count + held) w1 := by rw [hw1]; exact HXX.out.setCount _
    have hg1 : Glob w1 := by rw [hw1]; exact HGG.out.setc hb2
    have hgr : w.grownBy w1 (some b) := by rw [hw1]; exact grown_set ⟨rfl, rfl, rfl, Nat.le_refl _, fun _ _ _ => rfl⟩ (.inl rfl)
    have hk : ∀ k, k < w.heap.size → w2.heap[k]? = w1.heap[k]? := fun k hk => by
      rw [hw2]
      exact (Below.heap_alloc _ _ _ (by simp; omega)).trans (Below.heap_alloc _ _ _ (by omega))
    refine ⟨hx1.keep (hk b hblt), ⟨?_, small_zeros 16⟩, ⟨?_, small_zeros 16⟩, rfl, rfl, hblt, by omega, hb2, hg1.of (by rw [hw2]; simp; omega) (fun k hk2 => hk k (by omega)), ⟨?_, ?_, ?_, ?_, fun k hk2 hr => (hk k hk2).trans (hgr.block k hk2 hr)⟩, Nat.le_refl _⟩
    · rw [hw2]
      refine (Below.heap_alloc _ _ _ (by simp; omega)).trans ?_
      have := heap_alloc_new w1 (.cells (Ws (List.replicate 16 0)) 121)
      rwa [hs1] at this
    · rw [hw2]
      have := heap_alloc_new (w1.alloc (.cells (Ws (List.replicate 16 0)) 121)) (.cells (Ws (List.replicate 16 0)) 121)
      rw [World.size_alloc, hs1] at this
      exact this
    · rw [hw2]; exact hgr.os
    · rw [hw2]; exact hgr.tape
    · rw [hw2]; exact hgr.output
    · rw [hw2]; simp; omega
  obtain ⟨mb, hmb⟩ : ∃ mb, mb = w.heap.size := ⟨_, rfl⟩
  obtain ⟨vb, hvb⟩ : ∃ vb, vb = w.heap.size + 1 := ⟨_, rfl⟩
  rw [← hvb, ← hmb] at hFA ⊢
  have HFA := Lib.hid hFA
  have HC := Lib.hid (show count + held ≤ 1099511627904 by omega)
  obtain ⟨ct, hct2⟩ : ∃ ct, ct = count + held := ⟨_, rfl⟩
  rw [← hct2] at HFA HC ⊢
  have HCT := Lib.hid hct2
  clear hFA hw1 hw2 hz16 hct k0 k1 k2 W1 W2 hblt hcount hmb hvb hct2
  go_upto_region 3 with (first | (refine wpl_loadm b 8 101 _ (Bs blk) _ rfl rfl rfl HFA.out.hx.range Tryd.underlying101 rfl (by rw [info128, Bs_length, HFA.out.hx.bl]) ?_) | fail)
  go_wp2
  go_loopw [27] (fun i wr => ∃ n : Nat, n ≤ 128 ∧ i = .int .i64 n ∧ FA w b mb vb h8 blk held ct (mTo blk n) (List.replicate 16 0) wr) (fun i _ => 128 - (intOf i).toNat)
  case atStart => exact ⟨0, by omega, rfl, by rw [mTo_zero]; exact HFA.out⟩
  case round =>
    obtain ⟨n, hn, rfl, hF⟩ := hrel
    by_cases hlt : n < 128
    · have hlt' : (n : Int) < 128 := by omega
      have hby := hF.hx.bs n
      have hsm := mTo_small hF.hx.bs n hlt
      have W3 : IntKind.u64.wrap ((gt blk n : Nat) : Int) = ((gt blk n : Nat) : Int) := by rw [IntKind.wrap_u64]; omega
      have hE := idx_bytes 101 128 Tryd.underlying101 blk n hlt (by rw [hF.hx.bl]; exact hlt)
      have hX : gt (mTo blk n) (n / 8) + 256 ^ (n % 8) * gt blk n < 18446744073709551616 := by
        have h1 : 256 ^ (n % 8) ≤ 256 ^ 7 := Nat.pow_le_pow_right (by decide) (by omega)
        have h2 : 256 ^ (n % 8) * gt blk n ≤ 256 ^ 7 * 255 := Nat.mul_le_mul h1 (by omega)
        have h3 : 256 ^ (n % 8) ≤ 72057594037927936 := h1
        have h4 : 256 ^ (n % 8) * gt blk n ≤ 18374686479671623680 := h2
        omega
      have hn2 := (hF.setm (n / 8) hX).drew
      rw [← mTo_succ blk n hlt] at hn2
      obtain ⟨q, hq⟩ : ∃ q, q = n / 8 := ⟨_, rfl⟩
      obtain ⟨r, hr⟩ : ∃ r, r = n % 8 := ⟨_, rfl⟩
      have W4 : IntKind.i64.wrap ((n : Int) / 8) = (q : Int) := by rw [IntWalk.i64_in _ (by omega)]; omega
      have hq16 : (q : Int) < 16 := by omega
      rw [← hq, ← hr] at hX hn2
      rw [← hq, ← hr] at hsm
      have c1 := hF.mx.cell (i := q) (by rw [mTo_len]; omega)
      have f1 := hF.mx.frozen q
      have O1 := or_word (gt (mTo blk n) q) (gt blk n) r hsm hby (by omega)
      obtain ⟨s8, hs8⟩ : ∃ s8, s8 = 8 * r := ⟨_, rfl⟩
      rw [← hs8] at O1
      have W5 : IntKind.i64.wrap ((n : Int).tmod 8 * 8) = (s8 : Int) := by
        rw [Int.tmod_eq_emod_of_nonneg (by omega), IntWalk.i64_in _ (by omega)]; omega
      have hs64 : (s8 : Int) < 64 := by omega
      obtain ⟨Y, hY⟩ : ∃ Y, Y = gt (mTo blk n) q + 256 ^ r * gt blk n := ⟨_, rfl⟩
      rw [← hY] at O1 hn2
      have HN := Lib.hid hn2
      clear hF hsm hby hX hn2 hq hr hs8 hY
      go_wp2
      go_still_tail 12, (by kernel_rfl)
      go_wp2
      exact ⟨⟨n + 1, by omega, by go_num, HN.out⟩, by simp [intOf]; omega⟩
    · have hn128 : n = 128 := by omega
      subst hn128
      rw [show ((128 : Nat) : Int) = 128 from rfl]
      rw [mTo_all] at hF
      have HF := Lib.hid hF
      clear hF
      go_wp2
      go_loopw [44] (fun i wr => ∃ n : Nat, n ≤ 8 ∧ i = .int .i64 n ∧ ∃ v, FA w b mb vb h8 blk held ct (wordsL blk) v wr ∧ Laid h8 v n) (fun i _ => 8 - (intOf i).toNat)
      case atStart => exact ⟨0, by omega, rfl, _, HF.out, fun t ht => by omega⟩
      case round =>
        obtain ⟨n, hn, rfl, v, hF, hM⟩ := hrel
        by_cases hlt : n < 8
        · have hlt' : (n : Int) < 8 := by omega
          have hlt2 : (n : Int) < 16 := by omega
          obtain ⟨n8, hn8⟩ : ∃ n8, n8 = n + 8 := ⟨_, rfl⟩
          have W1 : IntKind.i64.wrap ((n : Int) + 8) = (n8 : Int) := by rw [IntWalk.i64_in _ (by omega)]; omega
          have hlt3 : (n8 : Int) < 16 := by omega
          have c1 := hF.hx.h hlt
          have c2 := hF.gl.cell hlt
          have c3 := hF.vx.cell (i := n) (by rw [hF.vl]; omega)
          have c4 := hF.vx.cell (i := n8) (by rw [hF.vl]; omega)
          have f1 := hF.vx.frozen n
          have f2 := hF.vx.frozen n8
          have hne : (n8 = n) = False := by simp; omega
          have hne2 : (n = n8) = False := by simp; omega
          have HN := Lib.hid ((hF.setv n (hF.hx.hs n)).setv n8 (beginL_small n)).drew
          have HL8 : Laid h8 ((v.set n (gt h8 n)).set n8 (gt beginL n)) (n + 1) := by
            have hvl := hF.vl
            intro t ht
            by_cases e : t = n
            · subst e
              subst hn8
              exact ⟨by rw [gt_set_ne (by omega), gt_set_same (by omega)], gt_set_same (by simp; omega)⟩
            · have := hM t (by omega)
              rw [gt_set_ne (by omega), gt_set_ne (by omega), gt_set_ne (by omega), gt_set_ne (by omega)]
              exact this
          have HL9 := Lib.hid HL8
          clear hF hM HL8 hn8
          go_wp2
          go_region
          go_wp2
          exact ⟨⟨n + 1, by omega, by go_num, _, HN.out, HL9.out⟩, by simp [intOf]; omega⟩
        · have hn8 : n = 8 := by omega
          subst hn8
          rw [show ((8 : Nat) : Int) = 8 from rfl]
          have hh := hF.hx.hl
          have hv : v = h8 ++ beginL := by
            refine ext_gt (by rw [hF.vl]; simp [hh, beginL]) fun i hi => ?_
            rw [hF.vl] at hi
            by_cases h8' : i < 8
            · rw [gt_append_l (by omega)]; exact (hM i h8').1
            · rw [gt_append_r (by omega), hh]
              have := (hM (i - 8) (by omega)).2
              rwa [show i - 8 + 8 = i by omega] at this
          rw [hv] at hF
          have c12 := hF.vx.cell (i := 12) (by rw [hF.vl]; omega)
          have f12 := hF.vx.frozen 12
          have s12 := hF.vx.small 12
          have cct := hF.hx.count
          obtain ⟨g, hg⟩ : ∃ g, g = gt (h8 ++ beginL) 12 := ⟨_, rfl⟩
          rw [← hg] at c12 s12
          have hctl := HC.out
          have W2 : bits .xor .u64 (g : Int) (ct : Int) = ((g ^^^ ct : Nat) : Int) := bits_xor_u64_nat _ _ s12 (by omega)
          have hF2 := (hF.setv 12 (x := g ^^^ ct) (Nat.xor_lt_two_pow (n := 64) s12 (by omega))).drew
          have HF := Lib.hid hF2
          have HG := Lib.hid hg
          have c14 := hF2.vx.cell (i := 14) (by rw [hF2.vl]; omega)
          have f14 := hF2.vx.frozen 14
          have s14 := hF2.vx.small 14
          clear hF hM hv hg s12
          obtain ⟨v1, hv1⟩ : ∃ v1, v1 = (h8 ++ beginL).set 12 (g ^^^ ct) := ⟨_, rfl⟩
          rw [← hv1] at HF c14 s14
          have N1 := not64 (gt v1 14) s14
          have hV : startL h8 ct last = (if last then v1.set 14 (18446744073709551615 - gt v1 14) else v1) := by rw [hv1, HG.out]; rfl
          have HV := Lib.hid hV
          have s14' : 18446744073709551615 - gt v1 14 < 18446744073709551616 := by omega
          have HS14 := Lib.hid s14'
          obtain ⟨V, hVV⟩ : ∃ V, V = startL h8 ct last := ⟨_, rfl⟩
          have HVV := Lib.hid hVV
          obtain ⟨wS, hwS⟩ : ∃ wS, wS = (wr.setCell ⟨vb, 12, none⟩ (.int .u64 (g ^^^ ct : Nat))).drew := ⟨_, rfl⟩
          rw [← hwS] at HF c14 f14
          have HWS := Lib.hid hwS
          have HH8 := Lib.hid hh
          clear hV hv1 s14 s14' hF2 hh hctl hwS hVV
          go_wp2_with fail
          go_still_tail 8, (by kernel_rfl)
          go_upto_if 70 with fail
          rw [← HWS.out]
          go_cut [5] (fun q wx => q = .pointer (some ⟨vb, 0, none⟩) ∧ FA w b mb vb h8 blk held ct (wordsL blk) V wx)
          case first =>
            clear c12 f12 cct W2
            cases last
            all_goals go_wp2_with fail
            all_goals go_meet
            all_goals first
              | (have HS1 := HF.out
                 rw [show v1 = V by rw [HVV.out]; exact HV.out.symm] at HS1
                 exact ⟨rfl, HS1⟩)
              | (have HS1 := HF.out.setv 14 HS14.out
                 rw [show v1.set 14 (18446744073709551615 - gt v1 14) = V by rw [HVV.out]; exact HV.out.symm] at HS1
                 exact ⟨rfl, HS1⟩)
          case rest =>
          have HS1 := Lib.hid hcut.2
          have hp5 := hcut.1
          subst hp5
          clear hcut c12 f12 cct W2 c14 f14 N1
          go_wp2_with fail
          go_loopw [75] (fun i wr => ∃ n : Nat, n ≤ 12 ∧ i = .int .i64 n ∧ FA w b mb vb h8 blk held ct (wordsL blk) (roundsL (wordsL blk) n V) wr) (fun i _ => 12 - (intOf i).toNat)
          case atStart => exact ⟨0, by omega, rfl, HS1.out⟩
          case round =>
            obtain ⟨n, hn, rfl, hF⟩ := hrel
            by_cases hlt : n < 12
            · have hlt' : (n : Int) < 12 := by omega
              have hmod : ((n : Int)).tmod 10 = ((n % 10 : Nat) : Int) := by rw [Int.tmod_eq_emod_of_nonneg (by omega)]; omega
              obtain ⟨row, hrow⟩ : ∃ row, row = n % 10 := ⟨_, rfl⟩
              rw [← hrow] at hmod
              have hrl : row < 10 := by omega
              have hstep : roundsL (wordsL blk) (n + 1) V = roundL (wordsL blk) (orderL row) (roundsL (wordsL blk) n V) := by rw [hrow]; rfl
              obtain ⟨u, hu⟩ : ∃ u, u = roundsL (wordsL blk) n V := ⟨_, rfl⟩
              rw [← hu] at hF hstep
              have hul := hF.vl
              have HF := Lib.hid hF
              have HST := Lib.hid hstep
              have HRL := Lib.hid hrl
              clear hF hstep hu hrow hrl
              go_wp2_with (first | (go_at_call 82; refine (blake_round vb mb row u (wordsL blk) _ HF.out.gl HF.out.vx HF.out.mx HF.out.vl HF.out.ml HRL.out (by have := HF.out.n2; omega)).mono ?_; rintro e wM ⟨rfl, hM1, hM2⟩) | fail)
              refine ⟨⟨n + 1, by omega, by go_num, ?_⟩, by simp [intOf]; omega⟩
              rw [HST.out]
              exact HF.out.round hM1 hM2 (by rw [roundL, diaL_len, colL_len]; exact hul)
            · have hn12 : n = 12 := by omega
              subst hn12
              rw [show ((12 : Nat) : Int) = 12 from rfl]
              obtain ⟨v, hv⟩ : ∃ v, v = roundsL (wordsL blk) 12 V := ⟨_, rfl⟩
              rw [← hv] at hF
              have hfold : blockL h8 (wordsL blk) ct last = foldL h8 v := by rw [hv, HVV.out]; rfl
              have HFO := Lib.hid hfold
              have HF := Lib.hid hF
              clear hF hv hfold
              go_wp2
              go_loopw [82] (fun i wr => ∃ n : Nat, n ≤ 8 ∧ i = .int .i64 n ∧ ∃ x, FA w b mb vb x blk held ct (wordsL blk) v wr ∧ Folded h8 v x n) (fun i _ => 8 - (intOf i).toNat)
              case atStart => exact ⟨0, by omega, rfl, h8, HF.out, fun t ht => by omega, fun t _ => rfl⟩
              case round =>
                obtain ⟨n, hn, rfl, x, hF, hM⟩ := hrel
                by_cases hlt : n < 8
                · have hlt' : (n : Int) < 8 := by omega
                  have hlt2 : (n : Int) < 16 := by omega
                  obtain ⟨n8, hn8⟩ : ∃ n8, n8 = n + 8 := ⟨_, rfl⟩
                  have W1 : IntKind.i64.wrap ((n : Int) + 8) = (n8 : Int) := by rw [IntWalk.i64_in _ (by omega)]; omega
                  have hlt3 : (n8 : Int) < 16 := by omega
                  have hxl := hF.hx.hl
                  have c1 := hF.hx.h hlt
                  have f1 := hF.hx.frozen n
                  have c3 := hF.vx.cell (i := n) (by rw [hF.vl]; omega)
                  have c4 := hF.vx.cell (i := n8) (by rw [hF.vl]; omega)
                  have s1 := hF.hx.hs n
                  have s2 := hF.vx.small n
                  have s3 := hF.vx.small n8
                  have s23 := Nat.xor_lt_two_pow (n := 64) s2 s3
                  have X1 := bits_xor_u64_nat _ _ s2 s3
                  have X2 := bits_xor_u64_nat _ _ s1 s23
                  have s123 := Nat.xor_lt_two_pow (n := 64) s1 s23
                  have HN := Lib.hid (hF.seth n hlt s123).drew
                  have hM2 : Folded h8 v (x.set n (gt x n ^^^ (gt v n ^^^ gt v n8))) (n + 1) := by
                    refine ⟨fun t ht => ?_, fun t ht => ?_⟩
                    · by_cases e : t = n
                      · subst e; rw [gt_set_same (by omega), hM.2 t (Nat.le_refl _), hn8, Nat.xor_assoc]
                      · rw [gt_set_ne (by omega)]; exact hM.1 t (by omega)
                    · rw [gt_set_ne (by omega)]; exact hM.2 t (by omega)
                  have HM2 := Lib.hid hM2
                  clear hF hM hM2 hxl hn8 s1 s2 s3 s23 s123
                  go_wp2
                  go_still_tail 18, (by kernel_rfl)
                  go_wp2
                  exact ⟨⟨n + 1, by omega, by go_num, _, HN.out, HM2.out⟩, by simp [intOf]; omega⟩
                · have hn8 : n = 8 := by omega
                  subst hn8
                  have hx : x = foldL h8 v := by
                    refine ext_gt (by rw [hF.hx.hl]; simp [foldL]) fun i hi => ?_
                    rw [hF.hx.hl] at hi
                    rw [hM.1 i hi, foldL, gt_map_range hi]
                  rw [← HFO.out] at hx
                  rw [hx] at hF
                  have HF := Lib.hid hF
                  clear hF hx hM
                  go_wp2
                  refine bodyPost_end (v := .tuple #[]) (by simp [results, Tryd.results79, go_sem]) rfl ⟨rfl, ?_, HF.out.old, HF.out.gl⟩
                  have := HF.out.hx
                  rw [HCT.out] at this
                  exact this
end Go.Proofs.YtbndegkgpoemnaaDoor
end

section
namespace Go.Proofs.YtbndegkgpoemnaaDoor
open Go.RowKit
set_option linter.unusedVariables false
set_option linter.unusedSimpArgs false

/-- What was hashed till now: these bytes, behind this beginning. -/
def Inv (h0 A h blk : List Nat) (held count : Nat) : Prop := held ≤ 128 ∧ count + held = A.length ∧ ∀ rest, chainL h0 (A ++ rest) 0 = chainL h (blk.take held ++ rest) count
/-- .. where more comes. -/
def PInv (h0 A h blk : List Nat) (held count : Nat) : Prop := held < 128 ∧ count + held = A.length ∧ ∀ rest, rest ≠ [] → chainL h0 (A ++ rest) 0 = chainL h (blk.take held ++ rest) count
/-- q is laid at a place of the block. -/
def laidAt (blk q : List Nat) (k : Nat) : List Nat := blk.take k ++ q ++ blk.drop (k + q.length)
theorem laidAt_len {blk q : List Nat} {k : Nat} (hb : blk.length = 128) (hk : k + q.length ≤ 128) : (laidAt blk q k).length = 128 := by simp [laidAt, hb]; omega
theorem PInv.put {h0 A h blk q : List Nat} {held count : Nat} (i : PInv h0 A h blk held count) (hb : blk.length = 128) (hq : q ≠ []) (hk : held + q.length ≤ 128) : Inv h0 (A ++ q) h (laidAt blk q held) (held + q.length) count := by
  obtain ⟨h1, h2, h3⟩ := i
  refine ⟨hk, by rw [List.length_append]; omega, fun rest => ?_⟩
  rw [List.append_assoc, h3 _ (by simp [hq])]
  have e : (laidAt blk q held).take (held + q.length) = blk.take held ++ q := by
    unfold laidAt
    rw [List.take_append_of_le_length (by simp; omega), List.take_of_length_le (by simp; omega)]
  rw [e, List.append_assoc]
theorem Inv.less {h0 A h blk : List Nat} {held count : Nat} (i : Inv h0 A h blk held count) (hlt : held < 128) : PInv h0 A h blk held count := ⟨hlt, i.2.1, fun rest _ => i.2.2 rest⟩
theorem Inv.full {h0 A h blk : List Nat} {count : Nat} (i : Inv h0 A h blk 128 count) (hb : blk.length = 128) : PInv h0 A (blockL h (wordsL blk) (count + 128) false) blk 0 (count + 128) := by
  obtain ⟨h1, h2, h3⟩ := i
  refine ⟨by omega, by omega, fun rest hr => ?_⟩
  have hpos : 0 < rest.length := List.length_pos_iff.2 hr
  rw [h3 rest, List.take_of_length_le (by omega), chainL_more (rest := blk ++ rest) (by rw [List.length_append]; omega), List.take_append_of_le_length (by omega), List.take_of_length_le (by omega), List.drop_append_of_le_length (by omega), List.drop_of_length_le (by omega)]
  rfl

/-- A slice that does not lie in block b. -/
def Apart (v : Value) (b : Nat) : Prop := ∀ a n c, v = .slice (some a) n c → a.block ≠ b
theorem RdB.grown {w wr : World} {v : Value} {l : List Nat} {b : Nat} (h : RdB w v l) (hg : w.grownBy wr (some b)) (ha : Apart v b) : RdB wr v l := by
  rcases h with h | ⟨a, cap, hv, hc, hcell⟩
  · exact .inl h
  · refine .inr ⟨a, cap, hv, hc, fun i hi => ?_⟩
    have hl := cell_block (hcell i hi)
    have hb : (a.add i).block = a.block := by unfold Addr.add; split <;> rfl
    rw [← hcell i hi]
    exact World.cell?_of_block (by rw [hb]; exact hg.block _ hl (by simp; exact ha a _ _ hv))

theorem HX.splice {b : Nat} {h blk q : List Nat} {held count : Nat} {w : World} (x : HX b h blk held count w) (hk : held + q.length ≤ 128) (hq : ∀ i, gt q i < 256) :
    HX b h (laidAt blk q held) held count (w.setRow b ((hcells h blk held count).take (8 + held) ++ Bs q ++ (hcells h blk held count).drop (8 + held + (Bs q).length)).toArray) := by
  have h1 := x.hl
  have h2 := x.bl
  refine ⟨(setRow_heap w b _ _ _ _ x.at_).trans ?_, h1, laidAt_len h2 hk, x.hs, fun i => ?_⟩
  · congr 3
    rw [Bs_length]
    unfold hcells laidAt
    rw [Bs_append, Bs_append]
    have hH : (h.map fun (n : Nat) => Value.int .u64 (n : Int)).length = 8 := by simp [h1]
    have hB : (Bs blk).length = 128 := by rw [Bs_length]; exact h2
    generalize (h.map fun (n : Nat) => Value.int .u64 (n : Int)) = H at hH ⊢
    have hBt : Bs (blk.take held) = (Bs blk).take held := by simp [Bs, List.map_take]
    have hBd : Bs (blk.drop (held + q.length)) = (Bs blk).drop (held + q.length) := by simp [Bs, List.map_drop]
    rw [hBt, hBd]
    generalize Bs blk = B at hB ⊢
    rw [show 8 + held = H.length + held by omega, List.take_length_add_append, show H.length + held + q.length = H.length + (held + q.length) by omega, List.drop_length_add_append,
      List.take_append_of_le_length (by omega), List.drop_append_of_le_length (by omega)]
    simp [List.append_assoc]
  · unfold laidAt
    by_cases c1 : i < (blk.take held ++ q).length
    · rw [gt_append_l c1]
      by_cases c2 : i < (blk.take held).length
      · rw [gt_append_l c2, gt_take (by simp at c2; omega)]; exact x.bs i
      · rw [gt_append_r (by omega)]; exact hq _
    · rw [gt_append_r (by omega), gt_drop]; exact x.bs _
end Go.Proofs.YtbndegkgpoemnaaDoor
end

section
namespace Go.Proofs.YtbndegkgpoemnaaDoor
open Go.RowKit
set_option linter.unusedVariables false
set_option linter.unusedSimpArgs false

theorem grown_trans {x y z : World} {b : Nat} (h : x.grownBy y (some b)) (k : y.grownBy z (some b)) : x.grownBy z (some b) :=
  ⟨k.os.trans h.os, k.tape.trans h.tape, k.output.trans h.output, Nat.le_trans h.size k.size, fun i hi hr => (k.block i (Nat.lt_of_lt_of_le hi h.size) hr).trans (h.block i hi hr)⟩
def sLen : Value → Nat
  | .slice _ n _ => n
  | _ => 0

theorem info5s : (Tryd.prog.info? 5).map (·.size) = some 1 := by kernel_rfl
/-- What came of a write. -/
def Wrote (b : Nat) (h0 A : List Nat) (w w' : World) : Prop :=
  (∃ h blk held count, HX b h blk held count w' ∧ Inv h0 A h blk held count) ∧ w.grownBy w' (some b) ∧ Glob w'

set_option maxHeartbeats 8000000 in
set_option maxRecDepth 100000 in
theorem blake_write (b : Nat) (h0 A h blk : List Nat) (held count : Nat) (v : Value) (p : List Nat) (w : World) (hG : Glob w) (hx : HX b h blk held count w) (hb2 : 2 ≤ b) (hi : Inv h0 A h blk held count) (hr : RdB w v p) (ha : Apart v b) (bp : ∀ x ∈ p, x < 256) (hl : A.length + p.length ≤ 1000000000) :
    Calls Tryd.prog 66 #[.pointer (some ⟨b, 0, none⟩), v] w fun e w' => e = .returned (.tuple #[]) ∧ Wrote b h0 (A ++ p) w w' := by
  have HBP := Lib.hid bp
  go_enter Tryd.func66, Tryd.ntmps66
  go_wp2
  go_loopw [1] (fun v' wr => ∃ j : Nat, j ≤ p.length ∧ RdB w v' (p.drop j) ∧ Apart v' b ∧ Wrote b h0 (A ++ p.take j) w wr) (fun v' _ => sLen v')
  case atStart => exact ⟨0, Nat.zero_le _, by simpa using hr, ha, ⟨h, blk, held, count, hx, by simpa using hi⟩, ⟨rfl, rfl, rfl, Nat.le_refl _, fun _ _ _ => rfl⟩, hG⟩
  case round =>
    clear hx hi hr ha hG bp
    obtain ⟨j, hj, hr, ha, ⟨h, blk, held, count, hx, hi⟩, hg, hG⟩ := hrel
    by_cases hlt : j < p.length
    · obtain ⟨pr, hpr⟩ : ∃ pr, pr = p.drop j := ⟨_, rfl⟩
      have hprl : pr.length = p.length - j := by rw [hpr]; simp
      have hprs : ∀ i, gt pr i < 256 := fun i => by
        rw [hpr]
        by_cases hi : i < (p.drop j).length
        · have : gt (p.drop j) i = (p.drop j)[i] := by simp only [gt, List.getD_eq_getElem?_getD, List.getElem?_eq_getElem hi, Option.getD_some]
          rw [this]
          exact HBP.out _ (List.mem_of_mem_drop (List.getElem_mem hi))
        · rw [gt_ge (by omega)]; decide
      rw [← hpr] at hr
      have hrW := hr.grown hg ha
      obtain ⟨a, cap, rfl, hcap⟩ : ∃ a cap, u1 = .slice (some a) pr.length cap ∧ pr.length ≤ cap := by
        rcases hr with ⟨-, h2⟩ | ⟨a, cap, h1, h2, -⟩
        · rw [h2] at hprl; simp at hprl; omega
        · exact ⟨a, cap, h1, h2⟩
      have hspot : a.spot = none := by
        have h0 : 0 < pr.length := by omega
        have hc := (RdB.cells hr).2 0 (.int .u8 (gt pr 0 : Nat)) (by simp [Bs, gt, h0])
        have := World.cell?_spot hc
        simpa [Addr.add] using this
      obtain ⟨ab, ao, sp⟩ := a
      simp only at hspot
      subst hspot
      have hab : ab ≠ b := ha _ _ _ rfl
      have hpos : (0 : Int) < (pr.length : Int) := by omega
      have hcl := hi.2.1
      rw [List.length_append, List.length_take] at hcl
      have HR := Lib.hid hr
      have HRW := Lib.hid hrW
      have HPS := Lib.hid hprs
      have HPR := Lib.hid hpr
      have HPL := Lib.hid hprl
      have HX1 := Lib.hid hx
      have HI := Lib.hid hi
      have HGR := Lib.hid hg
      have HGL := Lib.hid hG
      have k1 := hx.held
      have f1 := hx.frozen 136
      clear hr hrW hprs hpr hprl hx hi hg hG ha
      go_upto_if 12 with fail
      go_cut [0] (fun q wx => q = .pointer (some ⟨b, 0, none⟩) ∧ (∃ h blk held count, HX b h blk held count wx ∧ PInv h0 (A ++ p.take j) h blk held count) ∧ wr.grownBy wx (some b) ∧ Glob wx)
      case first =>
        have hidg : wr.grownBy wr (some b) := ⟨rfl, rfl, rfl, Nat.le_refl _, fun _ _ _ => rfl⟩
        by_cases h128 : held = 128
        · have hgd : ((held : Int) == 128) = true := by simp; omega
          have hp : PInv h0 (A ++ p.take j) (blockL h (wordsL blk) (count + held) false) blk 0 (count + held) := by
            have := HI.out
            subst h128
            exact this.full HX1.out.bl
          have HP := Lib.hid hp
          clear h128 hp
          go_wp2_with (first | (go_at_call 79; refine (blake_mixBlock b h blk held count false wr HGL.out HX1.out hb2 (HI.out.1) (by omega)).mono ?_; rintro e wM ⟨rfl, hM, hMg, hMG⟩; have m1 := hM.held; have m2 := hM.frozen 136; have HMX := Lib.hid hM; have HMG := Lib.hid hMg; have HMGG := Lib.hid hMG; clear hM hMg hMG) | fail)
          go_meet
          exact ⟨rfl, ⟨_, _, _, _, HMX.out.setHeld 0, HP.out⟩, grown_set HMG.out (.inl rfl), HMGG.out.setc hb2⟩
        · have hgd : ((held : Int) == 128) = false := by simp; omega
          have hp := HI.out.less (by have := HI.out.1; omega)
          have HP := Lib.hid hp
          clear h128 hp
          go_wp2_with fail
          go_meet
          exact ⟨rfl, ⟨_, _, _, _, HX1.out, HP.out⟩, hidg, HGL.out⟩
      case rest =>
        obtain ⟨rfl, ⟨h', blk', held', count', hx, hi⟩, hg, hG⟩ := hcut
        obtain ⟨q, hq⟩ : ∃ q, q = pr.take (128 - held') := ⟨_, rfl⟩
        have hh := hi.1
        have hql : q.length = min (128 - held') pr.length := by rw [hq]; simp
        have hrw : RdB wc (.slice (some ⟨ab, ao, none⟩) pr.length cap) pr := HRW.out.grown hg (fun a n c e => by injection e with e1; injection e1 with e1; rw [← e1]; exact hab)
        have HRC := Lib.hid hrw
        have hcells := (RdB.cells hrw).2
        have hsrc : ∀ i v, (Bs q)[i]? = some v → wc.cell? ((⟨ab, ao, none⟩ : Addr).add i) = some v := fun i v hv => by
          refine hcells i v ?_
          have hlt := (List.getElem?_eq_some_iff.1 hv).1
          rw [Bs_length, hql] at hlt
          rw [hq] at hv
          simp only [Bs, List.map_take, List.getElem?_take] at hv
          rw [if_pos (by omega)] at hv
          exact hv
        have hqs : ∀ i, gt q i < 256 := fun i => by
          rw [hq]
          by_cases h1 : i < 128 - held'
          · rw [gt_take h1]; exact HPS.out i
          · rw [gt_ge (by simp; omega)]; decide
        have k1' := hx.held
        have f1' := hx.frozen 136
        have HXC := Lib.hid hx
        have HIC := Lib.hid hi
        have HGC := Lib.hid hg
        have HGGC := Lib.hid hG
        have HQ := Lib.hid hq
        have HQL := Lib.hid hql
        have HSRC := Lib.hid hsrc
        have HQS := Lib.hid hqs
        have hhi : (held' : Int) < 128 := by omega
        have hhi2 : (held' : Int) ≤ 128 := by omega
        have hhi3 : held' ≤ 128 := by omega
        have hne : (128 = held') = False := by simp; omega
        clear hx hi hg hG hq hql hrw hcells hsrc hqs k1 f1
        go_wp2_with fail
        go_still_tail 9, (by kernel_rfl)
        change wpList _ _ _ _ _ wc.drew
        refine wpList_copy_own rfl _ _ 25 25 rfl 5 Tryd.underlying25 info5s b (8 + held') (128 - held') (128 - held') ⟨ab, ao, none⟩ pr.length cap rfl rfl (hcells h' blk' held' count').toArray 103 HXC.out.at_ (Bs q) ?hn HSRC.out ?hfit (Bs_one q) ?_
        case hn => rw [Bs_length, HQL.out, Nat.min_comm]
        case hfit => rw [Bs_length, HQL.out]; simp only [List.size_toArray, hcells, List.length_append, List.length_map, HXC.out.hl, Bs_length, HXC.out.bl, List.length_cons, List.length_nil]; omega
        obtain ⟨w5, hw5⟩ : ∃ w5, w5 = wc.drew.setRow b (((hcells h' blk' held' count').toArray.toList.take (8 + held')) ++ (Bs q ++ (hcells h' blk' held' count').toArray.toList.drop (8 + held' + (Bs q).length))).toArray := ⟨_, rfl⟩
        have hx5 : HX b h' (laidAt blk' q held') held' count' w5 := by
          have hxd : HX b h' blk' held' count' wc.drew := HXC.out.keep rfl
          have := hxd.splice (q := q) (by rw [HQL.out]; omega) HQS.out
          rw [List.append_assoc] at this
          rw [hw5]
          exact this
        have hg5 : wr.grownBy w5 (some b) := by
          have g := HGC.out
          rw [hw5]
          exact ⟨g.os, g.tape, g.output, by simp; exact g.size, fun k hk hr => (setRow_other _ b k _ (fun e => hr (by rw [e]))).trans (g.block k hk hr)⟩
        have hG5 : Glob w5 := by
          rw [hw5]
          exact HGGC.out.of (by simp) (fun k hk => setRow_other _ b k _ (by omega))
        rw [← hw5]
        obtain ⟨n, hn⟩ : ∃ n, n = q.length := ⟨_, rfl⟩
        have hbl : (Bs q).length = n := by rw [Bs_length, hn]
        have hnl : n = min (128 - held') pr.length := by rw [hn]; exact HQL.out
        have hi5 : Inv h0 (A ++ p.take (j + n)) h' (laidAt blk' q held') (held' + n) count' := by
          have hq0 : q ≠ [] := by
            intro e
            have : q.length = 0 := by rw [e]; rfl
            omega
          have := HIC.out.put HXC.out.bl hq0 (by omega)
          rw [← hn] at this
          have e : A ++ p.take j ++ q = A ++ p.take (j + n) := by
            rw [List.append_assoc, HQ.out, HPR.out]
            congr 1
            rw [List.take_add]
            congr 1
            rw [hnl]
            by_cases c : 128 - held' ≤ pr.length
            · rw [Nat.min_eq_left c]
            · rw [Nat.min_eq_right (by omega), HPR.out, List.take_length, List.take_of_length_le (by rw [← HPR.out]; omega)]
          rwa [e] at this
        have k5 := hx5.held
        have f5 := hx5.frozen 136
        obtain ⟨m, hm⟩ : ∃ m, m = held' + n := ⟨_, rfl⟩
        rw [← hm] at hi5
        have W7 : IntKind.i64.wrap ((held' : Int) + (n : Int)) = (m : Int) := by rw [IntWalk.i64_in _ (by omega)]; omega
        have HX5 := Lib.hid (hx5.setHeld m)
        have HG5 := Lib.hid (grown_set (i := 136) (v := .int .i64 (m : Int)) hg5 (.inl rfl))
        have HGG5 := Lib.hid (hG5.setc (c := b) (i := 136) (v := .int .i64 (m : Int)) hb2)
        have HI5 := Lib.hid hi5
        have hnp : n ≤ pr.length := by omega
        have hn0 : 0 < n := by omega
        have hnpI : (n : Int) ≤ (pr.length : Int) := by omega
        have hncI : (n : Int) ≤ (cap : Int) := by omega
        rw [hbl]
        have HNL := Lib.hid hnl
        have hdr : p.drop (j + n) = pr.drop n := by rw [HPR.out, List.drop_drop]
        have HDR := Lib.hid hdr
        have hjn : j + n ≤ p.length := by have := HPL.out; omega
        clear hx5 hg5 hG5 hi5 hw5 hn hbl hnl k1' f1' hm hdr
        by_cases hnc : n = cap
        · have hnc' : (cap = n) = True := by simp; omega
          have HNC := Lib.hid hnc
          clear hnc
          go_wp2
          refine ⟨⟨j + n, hjn, ?_, fun a n' c e => ?_, ⟨⟨_, _, _, _, HX5.out, HI5.out⟩, grown_trans HGR.out HG5.out, HGG5.out⟩⟩, by simp [sLen]; omega⟩
          · rw [HDR.out, List.drop_of_length_le (by have := HNC.out; omega)]
            exact rd_empty (by have := HNC.out; omega)
          · injection e with e1
            injection e1 with e1
            rw [← e1]; exact hab
        · have hnc' : (cap = n) = False := by simp; omega
          clear hnc
          go_wp2
          refine ⟨⟨j + n, hjn, ?_, fun a n' c e => ?_, ⟨⟨_, _, _, _, HX5.out, HI5.out⟩, grown_trans HGR.out HG5.out, HGG5.out⟩⟩, by simp [sLen]; omega⟩
          · have := rd_drop HR.out (s := n) (k := pr.length - n) (by omega) rfl
            rw [List.take_of_length_le (by simp)] at this
            rw [HDR.out]; exact this
          · injection e with e1
            injection e1 with e1
            rw [← e1]; exact hab
    · have hjl : j = p.length := by omega
      subst hjl
      rw [List.take_length] at hi
      have hp0 : p.drop p.length = [] := by simp
      rw [hp0] at hr
      obtain ⟨aoE, capE, rfl⟩ := hr.lenOf
      have HW := Lib.hid (show Wrote b h0 (A ++ p) w wr from ⟨⟨h, blk, held, count, hx, hi⟩, hg, hG⟩)
      clear hr ha hx hi hg hG hp0
      go_wp2
      exact bodyPost_end (v := .tuple #[]) (by simp [results, Tryd.results66, go_sem]) rfl ⟨rfl, HW.out⟩
end Go.Proofs.YtbndegkgpoemnaaDoor
end

section
namespace Go.Proofs.YtbndegkgpoemnaaDoor
open Go.RowKit
set_option linter.unusedVariables false
set_option linter.unusedSimpArgs false

theorem wpl_clear {ops : Array Oper} {rest : List Oper} {o : Oper} {a : Act} {Q : Exit → Act → World → Prop} {w : World} (x : Operand) (b k n c : Nat) (cur : Array Value) (t : TypeId) (hgd : o.guard = none) (ho : o.op = .call { callee := .builtin .clear, args := #[x], argTypes := #[25] })
    (hx : a.eval x = .slice (some ⟨b, k, none⟩) n c) (hh : w.heap[b]? = some (.cells cur t (0, 0))) (hfit : 0 < n → k + n ≤ cur.size)
    (h : ∀ w', (0 < n → w' = w.setRow b (cur.toList.take k ++ Bs (List.replicate n 0) ++ cur.toList.drop (k + n)).toArray) → (n = 0 → w' = w) → wpList Tryd.prog ops Q rest (a.put o.dst (.tuple #[])) w') : wpList Tryd.prog ops Q (o :: rest) a w := by
  obtain ⟨i0, hi, hz0, hz1, hz2⟩ := info_parts info5
  refine wpList_plain hgd fun K hK => ?_
  unfold Oper.wp execOp
  by_cases h0 : n = 0
  · subst h0
    have hr : (Builtin.clear_ #[25] o.type #[.slice (some ⟨b, k, none⟩) 0 c]).run Tryd.prog w = .ok (.tuple #[]) w := by
      simp [Builtin.clear_, run_underlying Tryd.underlying25]
    simp only [ho, resolve, invoke, builtin, Sem.run_bind, Sem.run_pure, Result.andThen_ok, List.map_toArray, List.map_cons, List.map_nil, hx, hr]
    exact hK _ _ (h w (fun h => by omega) (fun _ => rfl))
  · have hst := run_storeCells_at Tryd.prog b k t (Bs (List.replicate n 0)) 0 cur w hh (by rw [Bs_length, List.length_replicate]; have := hfit (by omega); omega) (Bs_one _)
    simp only [Nat.add_zero] at hst
    have hzc : (Builtin.zeroCells #[.int .u8 0] n).toList = Bs (List.replicate n 0) := by
      rw [zeroCells_one]; simp [Bs]
    have hr : (Builtin.clear_ #[25] o.type #[.slice (some ⟨b, k, none⟩) n c]).run Tryd.prog w = .ok (.tuple #[]) (w.setRow b (cur.toList.take k ++ Bs (List.replicate n 0) ++ cur.toList.drop (k + (Bs (List.replicate n 0)).length)).toArray) := by
      match n, h0 with
      | m + 1, _ =>
        simp only [Builtin.clear_]
        simp [run_underlying Tryd.underlying25, zeroValue, typeInfo, hi, hz0]
        have e : (Value.int IntKind.u8 0).cells = #[.int .u8 0] := rfl
        rw [e, hzc, hst]
        simp [Result.andThen, List.append_assoc]
    simp only [ho, resolve, invoke, builtin, Sem.run_bind, Sem.run_pure, Result.andThen_ok, List.map_toArray, List.map_cons, List.map_nil, hx, hr]
    refine hK _ _ (h _ (fun _ => by rw [Bs_length, List.length_replicate]) (fun e => absurd e h0))

/-- The frame of the end. -/
structure FE (w : World) (b : Nat) (h : List Nat) (rb : Nat) (wr : World) : Prop where
  zb : wr.heap[rb]? = some (.cells (Bs (List.replicate 32 0)).toArray 39 (0, 0))
  hx : ∃ blk held count, HX b h blk held count wr
  n1 : b < rb
  n2 : w.heap.size ≤ rb
  old : w.grownBy wr (some b)

theorem FE.set {w wr : World} {b rb ob : Nat} {h : List Nat} (f : FE w b h rb wr) (ho : rb < ob) (i : Nat) (v : Value) : FE w b h rb (wr.setCell ⟨ob, i, none⟩ v) := by
  obtain ⟨blk, held, count, hx⟩ := f.hx
  have h1 := f.n1
  have h2 := f.n2
  exact ⟨(set_other (by simp only; omega)).trans f.zb, ⟨blk, held, count, hx.keep (set_other (by simp only; omega))⟩, f.n1, f.n2, grown_set f.old (.inr (by omega))⟩

set_option maxHeartbeats 8000000 in
set_option maxRecDepth 100000 in
theorem blake_end (b : Nat) (h0 A h blk : List Nat) (held count : Nat) (w : World) (hG : Glob w) (hx : HX b h blk held count w) (hb2 : 2 ≤ b) (hi : Inv h0 A h blk held count) (hl : A.length ≤ 1000000000) :
    Calls Tryd.prog 67 #[.pointer (some ⟨b, 0, none⟩)] w fun e w' => e = .returned (.agg (Bs (outL (chainL h0 A 0))).toArray) ∧ w.grownBy w' (some b) := by
  have hh := hi.1
  have hcnt := hi.2.1
  have hblt := hx.lt
  obtain ⟨Z, hZ⟩ : ∃ Z, Z = List.replicate (128 - held) 0 := ⟨_, rfl⟩
  have hZl : Z.length = 128 - held := by rw [hZ]; simp
  have hpad : laidAt blk Z held = padL (blk.take held) := by
    have := hx.bl
    unfold laidAt padL
    rw [hZl, List.drop_of_length_le (by omega), List.append_nil, hZ, List.length_take, this, Nat.min_eq_left hh]
  have hfin : chainL h0 A 0 = blockL h (wordsL (laidAt blk Z held)) (count + held) true := by
    have := hi.2.2 []
    have hb := hx.bl
    simp only [List.append_nil] at this
    rw [this, chainL_last (rest := blk.take held) (by rw [List.length_take]; omega), hpad, List.length_take, hb, Nat.min_eq_left hh]
  obtain ⟨H9, hH9⟩ : ∃ H9, H9 = chainL h0 A 0 := ⟨_, rfl⟩
  rw [← hH9] at hfin ⊢
  have hZs : ∀ i, gt Z i < 256 := fun i => by rw [hZ, gt_zeros]; decide
  have HX0 := Lib.hid hx
  have HG0 := Lib.hid hG
  have HZL := Lib.hid hZl
  have HZ := Lib.hid hZ
  have HZS := Lib.hid hZs
  have HFIN := Lib.hid hfin
  have h9l : H9.length = 8 := by rw [hfin]; exact blockL_len _ _ _ _
  have H9L := Lib.hid h9l
  clear hx hG hZl hZ hpad hfin hi hZs hH9 h9l
  go_enter Tryd.func67, Tryd.ntmps67
  go_upto_region 1 with fail
  obtain ⟨w1, hw1⟩ : ∃ w1, w1 = w.alloc (.cells #[.int .u8 0, .int .u8 0, .int .u8 0, .int .u8 0, .int .u8 0, .int .u8 0, .int .u8 0, .int .u8 0, .int .u8 0, .int .u8 0, .int .u8 0, .int .u8 0, .int .u8 0, .int .u8 0, .int .u8 0, .int .u8 0, .int .u8 0, .int .u8 0, .int .u8 0, .int .u8 0, .int .u8 0, .int .u8 0, .int .u8 0, .int .u8 0, .int .u8 0, .int .u8 0, .int .u8 0, .int .u8 0, .int .u8 0, .int .u8 0, .int .u8 0, .int .u8 0] 39) := ⟨_, rfl⟩
  rw [← hw1]
  rw [zero32] at hw1
  have hx1 : HX b h blk held count w1 := by rw [hw1]; exact HX0.out.keep (Below.heap_alloc _ _ _ hblt)
  have hG1 : Glob w1 := by rw [hw1]; exact HG0.out.of (by simp) (fun k hk => Below.heap_alloc _ _ _ (Nat.lt_of_lt_of_le hk HG0.out.lt))
  have hz1 : w1.heap[w.heap.size]? = some (.cells (Bs (List.replicate 32 0)).toArray 39 (0, 0)) := by rw [hw1]; exact heap_alloc_new w _
  have hg1 : w.grownBy w1 (some b) := by rw [hw1]; exact World.grownBy_alloc w _ _
  have k1 := hx1.held
  have HX1 := Lib.hid hx1
  have HG1 := Lib.hid hG1
  have HZ1 := Lib.hid hz1
  have HGR1 := Lib.hid hg1
  have hhi : (held : Int) ≤ 128 := by omega
  clear hx1 hG1 hz1 hg1 hw1
  go_still_tail 8, (by kernel_rfl)
  change wpList _ _ _ _ _ w1.drew
  refine wpl_clear _ b (if 128 = held then 8 else 8 + held) (128 - held) (128 - held) (hcells h blk held count).toArray 103 rfl rfl (by
    show Value.slice (some (if 128 = held then (⟨b, 8, none⟩ : Addr) else ⟨b, 8 + held, none⟩)) (128 - held) (128 - held) = _
    split <;> rfl) HX1.out.at_ (fun hp => by
    rw [if_neg (by omega)]
    simp only [List.size_toArray, hcells, List.length_append, List.length_map, HX1.out.hl, Bs_length, HX1.out.bl, List.length_cons, List.length_nil]; omega) ?_
  intro w2 hw2a hw2b
  generalize hsa : (if 128 = held then (⟨b, 8, none⟩ : Addr) else ⟨b, 8 + held, none⟩) = sa
  clear hsa
  have hx2 : HX b h (laidAt blk Z held) held count w2 ∧ w1.grownBy w2 (some b) ∧ w2.heap.size = w1.heap.size := by
    by_cases hp : 0 < 128 - held
    · have e := hw2a hp
      rw [if_neg (by omega)] at e
      have hxd : HX b h blk held count w1.drew := HX1.out.keep rfl
      have hs := hxd.splice (q := Z) (by rw [HZL.out]; omega) HZS.out
      have e2 : Bs (List.replicate (128 - held) 0) = Bs Z := by rw [HZ.out]
      rw [e2] at e
      have e3 : (Bs Z).length = 128 - held := by rw [Bs_length, HZL.out]
      rw [e3] at hs
      rw [e]
      exact ⟨hs, ⟨rfl, rfl, rfl, by simp, fun k hk hr => setRow_other _ b k _ (fun e => hr (by rw [e]))⟩, by simp⟩
    · have e := hw2b (by omega)
      have hz : Z = [] := List.length_eq_zero_iff.1 (by rw [HZL.out]; omega)
      have e2 : laidAt blk Z held = blk := by
        have := HX1.out.bl
        rw [hz]; unfold laidAt
        simp only [List.length_nil, Nat.add_zero, List.append_nil, List.take_append_drop]
      rw [e, e2]
      exact ⟨HX1.out.keep rfl, ⟨rfl, rfl, rfl, Nat.le_refl _, fun _ _ _ => rfl⟩, rfl⟩
  obtain ⟨hx2, hg2, hs2⟩ := hx2
  have HX2 := Lib.hid hx2
  have HG2 := Lib.hid hg2
  have hG2 : Glob w2 := HG1.out.grown hg2 (fun k hk => by cases hk; exact hb2)
  have HGG2 := Lib.hid hG2
  have hct : count ≤ 1099511627776 := by omega
  clear hw2a hw2b hx2 hg2 hG2 k1
  go_upto_region 4 with (first | (go_at_call 79; refine (blake_mixBlock b h (laidAt blk Z held) held count true w2 HGG2.out HX2.out hb2 hh hct).mono ?_; rintro e wM ⟨rfl, hM, hMg, hMG⟩; rw [← HFIN.out] at hM; have HM := Lib.hid hM; have HMG := Lib.hid hMg; clear hM hMg hMG) | fail)
  obtain ⟨w4, hw4⟩ : ∃ w4, w4 = wM.alloc (.cells #[.int .u8 0, .int .u8 0, .int .u8 0, .int .u8 0, .int .u8 0, .int .u8 0, .int .u8 0, .int .u8 0, .int .u8 0, .int .u8 0, .int .u8 0, .int .u8 0, .int .u8 0, .int .u8 0, .int .u8 0, .int .u8 0, .int .u8 0, .int .u8 0, .int .u8 0, .int .u8 0, .int .u8 0, .int .u8 0, .int .u8 0, .int .u8 0, .int .u8 0, .int .u8 0, .int .u8 0, .int .u8 0, .int .u8 0, .int .u8 0, .int .u8 0, .int .u8 0] 39) := ⟨_, rfl⟩
  rw [← hw4]
  rw [zero32] at hw4
  have hsM := HMG.out.size
  have hs1 := HGR1.out.size
  have hr1 := (Array.getElem?_eq_some_iff.1 HZ1.out).1
  have hFE : FE w b H9 w.heap.size w4 := by
    have hm := HMG.out
    have h2 := HG2.out
    have h1 := HGR1.out
    have hg := grown_trans (grown_trans h1 h2) hm
    have hMsz := hm.size
    rw [hw4]
    refine ⟨(Below.heap_alloc _ _ _ (by omega)).trans ((hm.block _ (by omega) (by simp; omega)).trans ((h2.block _ (by omega) (by simp; omega)).trans HZ1.out)), ⟨_, _, _, HM.out.keep (Below.heap_alloc _ _ _ HM.out.lt)⟩, hblt, Nat.le_refl _, ⟨hg.os, hg.tape, hg.output, by simp; have := hg.size; omega, fun k hk hr => (Below.heap_alloc _ _ _ (Nat.lt_of_lt_of_le hk hg.size)).trans (hg.block k hk hr)⟩⟩
  obtain ⟨ob, hob⟩ : ∃ ob, ob = wM.heap.size := ⟨_, rfl⟩
  have hO : w4.heap[ob]? = some (.cells (Bs (outTo H9 0)).toArray 39 (0, 0)) := by rw [outTo_zero, hw4, hob]; exact heap_alloc_new wM _
  rw [← hob]
  have hrob : w.heap.size < ob := by omega
  have HFE := Lib.hid hFE
  have HO := Lib.hid hO
  clear hFE hO hw4 hob
  go_wp2
  go_loopw [15] (fun i wr => ∃ n : Nat, n ≤ 32 ∧ i = .int .i64 n ∧ FE w b H9 w.heap.size wr ∧ wr.heap[ob]? = some (.cells (Bs (outTo H9 n)).toArray 39 (0, 0))) (fun i _ => 32 - (intOf i).toNat)
  case atStart => exact ⟨0, by omega, rfl, HFE.out, HO.out⟩
  case round =>
    obtain ⟨t, ht, rfl, hF, hO⟩ := hrel
    by_cases htl : t < 32
    · obtain ⟨blk', held', count', hx⟩ := hF.hx
      have hc1 := hx.h (i := t / 8) (by omega)
      obtain ⟨s8, hs8⟩ : ∃ s8, s8 = 8 * (t % 8) := ⟨_, rfl⟩
      have W5 : IntKind.i64.wrap ((t : Int).tmod 8 * 8) = (s8 : Int) := by
        rw [Int.tmod_eq_emod_of_nonneg (by omega), IntWalk.i64_in _ (by omega)]; omega
      have hs64 : (s8 : Int) < 64 := by omega
      have htl' : (t : Int) < 32 := by omega
      have hcO : wr.cell? ⟨ob, t, none⟩ = some (.int .u8 (gt (outTo H9 t) t : Nat)) := by simp [World.cell?, hO, Bs, gt, outTo, htl]
      have hfO : wr.frozen? ⟨ob, t, none⟩ = false := by simp [World.frozen?, hO]
      have HO := Lib.hid hO
      have HF := Lib.hid hF
      have HS8 := Lib.hid hs8
      clear hO hF hx hs8
      go_wp2
      have eV : ((gt H9 (t / 8) : Nat) : Int) / 2 ^ (t % 8 * 8) % 256 = ((gt H9 (t / 8) / 2 ^ (8 * (t % 8)) % 256 : Nat) : Int) := by
        rw [Nat.mul_comm 8]; norm_cast
      rw [eV]
      refine ⟨⟨t + 1, by omega, by go_num, HF.out.set hrob _ _, ?_⟩, by simp [intOf]; omega⟩
      rw [outTo_succ _ _ htl]
      exact (set_block _ HO.out).trans (by rw [Bs_set])
    · have ht32 : t = 32 := by omega
      subst ht32
      rw [outTo_all] at hO
      have HF := Lib.hid hF
      have HO := Lib.hid hO
      have hlen := outL_len H9
      have HLEN := Lib.hid hlen
      clear hO hF hlen
      go_wp2_with (first | (refine wpl_load ob 39 39 _ (Bs (outL H9)).toArray (0, 0) _ rfl rfl rfl HO.out Tryd.underlying39 rfl (by rw [infoH, Bs_size, HLEN.out]) ?_) | (refine wpl_store w.heap.size 39 39 _ _ (Bs (List.replicate 32 0)).toArray (Bs (outL H9)).toArray rfl rfl rfl rfl HF.out.zb (by rw [infoH, Bs_size, HLEN.out]) (by rw [Bs_size, Bs_size, HLEN.out]; rfl) (Bs_all _) ?_) | fail)
      refine bodyPost_ret (results_row (b := w.heap.size) (t := 39) Tryd.results67 rfl (setRow_heap wr w.heap.size _ _ _ _ HF.out.zb) Tryd.underlying39 rfl (by rw [infoH, Bs_size, HLEN.out])) rfl ⟨rfl, ?_⟩
      have g := HF.out.old
      exact ⟨g.os, g.tape, g.output, by simp; exact g.size, fun k hk hr => (setRow_other _ _ k _ (by omega)).trans (g.block k hk hr)⟩
end Go.Proofs.YtbndegkgpoemnaaDoor
end

section
namespace Go.Proofs.YtbndegkgpoemnaaDoor
open Go.RowKit
set_option linter.unusedVariables false
set_option linter.unusedSimpArgs false

section
variable {P : Program} {ops : Array Oper} {rest : List Oper} {o : Oper} {a : Act} {Q : Exit → Act → World → Prop} {w : World}
theorem wpl_build (t : TypeId) (x : Operand) (v : Value) (cells : Array Value) (hg : o.guard = none) (ho : o.op = .build t #[(0, x)]) (hx : a.eval x = v) (hf : P.built t [(0, v)] = some cells)
    (h : wpList P ops Q rest (a.put o.dst (.agg cells)) w) : wpList P ops Q (o :: rest) a w := by
  have hf' : P.built t ((#[(0, x)] : Array (Nat × Operand)).map fun (i, x) => (i, a.eval x)).toList = some cells := by
    simpa [hx] using hf
  refine wpList_build hg t #[(0, x)] ho (by rw [hf']; rfl) ?_
  rw [hf']
  exact h
theorem wpl_alloc (t : TypeId) (cs : Array Value) (hg : o.guard = none) (ho : o.op = .alloc t) (hz : (P.info? t).bind (·.zero) = some (.agg cs))
    (h : wpList P ops Q rest (a.put o.dst (.pointer (some ⟨w.heap.size, 0, none⟩))) (w.alloc (.cells cs t))) : wpList P ops Q (o :: rest) a w := by
  refine wpList_plain hg fun K hK => ?_
  unfold Oper.wp execOp
  obtain ⟨it, hi, hz'⟩ := Option.bind_eq_some_iff.1 hz
  simp [ho, Instr.alloc, zeroValue, typeInfo, hi, hz', newVar, newRow, Value.cells, go_sem]
  exact hK _ _ h
end
theorem blake_write_nil (b : Nat) (h0 A h blk : List Nat) (held count : Nat) (v : Value) (w : World) (hG : Glob w) (hx : HX b h blk held count w) (hi : Inv h0 A h blk held count) (hr : RdB w v []) :
    Calls Tryd.prog 66 #[.pointer (some ⟨b, 0, none⟩), v] w fun e w' => e = .returned (.tuple #[]) ∧ Wrote b h0 A w w' := by
  have HW := Lib.hid (show Wrote b h0 A w w from ⟨⟨h, blk, held, count, hx, hi⟩, ⟨rfl, rfl, rfl, Nat.le_refl _, fun _ _ _ => rfl⟩, hG⟩)
  obtain ⟨ao, cap, rfl⟩ := hr.lenOf
  clear hG hx hi hr
  go_enter Tryd.func66, Tryd.ntmps66
  go_wp2
  go_loopw [1] (fun v' wr => v' = .slice ao 0 cap ∧ wr = w) (fun _ _ => 0)
  case atStart => exact ⟨rfl, rfl⟩
  case round =>
    obtain ⟨rfl, rfl⟩ := hrel
    go_wp2
    exact bodyPost_end (v := .tuple #[]) (by simp [results, Tryd.results66, go_sem]) rfl ⟨rfl, HW.out⟩
theorem blake_write' (b : Nat) (h0 A h blk : List Nat) (held count : Nat) (v : Value) (p : List Nat) (w : World) (hG : Glob w) (hx : HX b h blk held count w) (hb2 : 2 ≤ b) (hi : Inv h0 A h blk held count) (hr : RdB w v p) (ha : p ≠ [] → Apart v b) (bp : ∀ x ∈ p, x < 256) (hl : A.length + p.length ≤ 1000000000) :
    Calls Tryd.prog 66 #[.pointer (some ⟨b, 0, none⟩), v] w fun e w' => e = .returned (.tuple #[]) ∧ Wrote b h0 (A ++ p) w w' := by
  by_cases hp : p = []
  · subst hp
    rw [List.append_nil]
    exact blake_write_nil b h0 A h blk held count v w hG hx hi hr
  · exact blake_write b h0 A h blk held count v p w hG hx hb2 hi hr (ha hp) bp hl
theorem RdB.blockLt {w : World} {v : Value} {l : List Nat} (h : RdB w v l) (hl : l ≠ []) {N : Nat} (hN : w.heap.size ≤ N) : Apart v N := by
  intro a n c e
  rcases h with ⟨-, h2⟩ | ⟨a', cap, h1, h2, h3⟩
  · exact absurd h2 hl
  · rw [e] at h1
    injection h1 with e1
    injection e1 with e1
    subst e1
    have := cell_block (h3 0 (List.length_pos_iff.2 hl))
    have hb : (a.add 0).block = a.block := by unfold Addr.add; split <;> rfl
    have := hb ▸ this
    omega
theorem RdBB.lenOf {w : World} {v : Value} {l : List (List Nat)} (h : RdBB w v l) : ∃ ao cap, v = .slice ao l.length cap := by
  rcases h with ⟨rfl, rfl⟩ | ⟨a, cap, rfl, -⟩
  · exact ⟨none, 0, rfl⟩
  · exact ⟨some a, cap, rfl⟩
theorem RdBB.row {w : World} {ao : Option Addr} {cap n : Nat} {l : List (List Nat)} (h : RdBB w (.slice ao n cap) l) {j : Nat} (hj : j < l.length) :
    ∃ b off uu, ao = some ⟨b, off, none⟩ ∧ b < w.heap.size ∧ w.cell? ⟨b, off + j, none⟩ = some uu ∧ RdB w uu (l.getD j []) := by
  rcases h with ⟨-, h2⟩ | ⟨a, c, h1, -, h3⟩
  · rw [h2] at hj; simp at hj
  · injection h1 with e1
    obtain ⟨uu, h4, h5⟩ := h3 j hj
    obtain ⟨u0, hu0, -⟩ := h3 0 (by omega)
    have hsp := World.cell?_spot hu0
    have hl := cell_block h4
    obtain ⟨b, off, spot⟩ := a
    have hspot : spot = none := by simpa [Addr.add] using hsp
    subst hspot
    have ea : ∀ k, (⟨b, off, none⟩ : Addr).add k = ⟨b, off + k, none⟩ := fun k => by unfold Addr.add; split <;> simp_all
    rw [ea] at h4
    exact ⟨b, off, uu, e1, hl, h4, h5⟩
theorem flat_take (l : List (List Nat)) (k : Nat) (hk : k < l.length) : (l.take (k + 1)).flatten = (l.take k).flatten ++ l.getD k [] := by
  rw [List.take_add_one, List.flatten_append, List.getElem?_eq_getElem hk]
  simp [List.getD_eq_getElem?_getD, hk]
theorem flat_take_le (l : List (List Nat)) (k : Nat) : (l.take k).flatten.length ≤ l.flatten.length := by
  have e : (l.take k).flatten ++ (l.drop k).flatten = l.flatten := by rw [← List.flatten_append, List.take_append_drop]
  rw [← e, List.length_append]; omega
theorem builtX : Tryd.prog.built 103 [(0, .agg (Ws beginL))] = some (hcells beginL (List.replicate 128 0) 0 0).toArray := by kernel_rfl
theorem zeroX : (Tryd.prog.info? 103).bind (·.zero) = some (.agg (hcells (List.replicate 8 0) (List.replicate 128 0) 0 0).toArray) := by kernel_rfl
theorem infoX : (Tryd.prog.info? 103).map (·.size) = some 138 := by kernel_rfl

set_option maxHeartbeats 8000000 in
set_option maxRecDepth 100000 in
theorem blake_Keyed (v u : Value) (key : List Nat) (L : List (List Nat)) (w : World) (hG : Glob w) (hk : RdB w v key) (hp : RdBB w u L) (bk : ∀ x ∈ key, x < 256) (bp : ∀ l ∈ L, ∀ x ∈ l, x < 256) (lk : key.length ≤ 1000000) (lp : L.flatten.length ≤ 1000000) (ll : (L.length : Int) ≤ 4611686018427387904) :
    Calls Tryd.prog 49 #[v, u] w fun e w' => e = .returned (.agg (Bs (keyedL key L.flatten)).toArray) ∧ Below w.heap.size w w' := by
  obtain ⟨ao, cap, rfl⟩ := hk.lenOf
  obtain ⟨K, hK⟩ : ∃ K, K = key.take 64 := ⟨_, rfl⟩
  have hKl : K.length = min key.length 64 := by rw [hK]; simp [Nat.min_comm]
  have E : (if (64 : Int) < (key.length : Int) then 64 else (key.length : Int)) = (K.length : Int) := by split <;> omega
  have E2 : min (key.length : Int) (64 : Int) = (K.length : Int) := by omega
  have hrK : RdB w (.slice ao K.length cap) K := by
    cases ao with
    | none => 
      rcases hk with ⟨h1, h2⟩ | ⟨a, c, h1, -⟩
      · injection h1 with h3 h4 h5
        subst h5
        have : K = [] := by rw [hK, h2]; rfl
        subst this
        exact .inl ⟨rfl, rfl⟩
      · cases h1
    | some a =>
      have := rd_take hk (k := K.length) (by omega)
      have e : key.take K.length = K := by
        rw [hKl]
        by_cases h : key.length ≤ 64
        · rw [Nat.min_eq_left h, List.take_length, hK, List.take_of_length_le h]
        · rw [Nat.min_eq_right (by omega), hK]
      rwa [e] at this
  have HK := Lib.hid hrK
  have HP := Lib.hid hp
  have HKe := Lib.hid hK
  have hK64 : (K.length : Int) ≤ 64 := by omega
  have hKcap : K.length ≤ cap := by
    rcases hrK with ⟨h1, h2⟩ | ⟨a, c, h1, h2, -⟩
    · rw [h2]; simp
    · injection h1 with h3 h4 h5; omega
  have hKn : (K.length : Int) ≤ (key.length : Int) := by omega
  have HBK := Lib.hid bk
  have HBP := Lib.hid bp
  have hmin : min key.length 64 = K.length := hKl.symm
  have HGG := Lib.hid hG
  clear hk hp hK hrK bk bp hKl hG
  go_enter Tryd.func49, Tryd.ntmps49
  go_upto_region 2 with fail
  obtain ⟨wz, hwz⟩ : ∃ wz, wz = w.alloc (.cells #[.int .u8 0, .int .u8 0, .int .u8 0, .int .u8 0, .int .u8 0, .int .u8 0, .int .u8 0, .int .u8 0, .int .u8 0, .int .u8 0, .int .u8 0, .int .u8 0, .int .u8 0, .int .u8 0, .int .u8 0, .int .u8 0, .int .u8 0, .int .u8 0, .int .u8 0, .int .u8 0, .int .u8 0, .int .u8 0, .int .u8 0, .int .u8 0, .int .u8 0, .int .u8 0, .int .u8 0, .int .u8 0, .int .u8 0, .int .u8 0, .int .u8 0, .int .u8 0] 39) := ⟨_, rfl⟩
  rw [← hwz]
  rw [zero32] at hwz
  have hzb : wz.heap[w.heap.size]? = some (.cells (Bs (List.replicate 32 0)).toArray 39 (0, 0)) := by rw [hwz]; exact heap_alloc_new w _
  have hzs : wz.heap.size = w.heap.size + 1 := by rw [hwz]; simp
  have hzB : Below w.heap.size w wz := by rw [hwz]; exact (Below.refl _ _).alloc (Nat.le_refl _) _
  have hgz : Glob wz := HGG.out.below hzB HGG.out.lt
  have HZB := Lib.hid hzb
  have HZBB := Lib.hid hzB
  have HGZ := Lib.hid hgz
  clear hwz hzb hzB hgz
  apply wp_region_lit
  obtain ⟨tb, hbeg⟩ := HGZ.out.beg
  refine wpl_load 0 86 tb _ (Ws beginL) (0, 0) _ rfl rfl rfl hbeg Tryd.underlying86 rfl (by rw [info8, Ws_size]; rfl) ?_
  clear hbeg
  refine wpl_build 103 (.tmp 13) _ _ rfl rfl rfl builtX ?_
  refine wpl_alloc 103 _ rfl rfl zeroX ?_
  refine wpl_store wz.heap.size 103 103 (.tmp 5) (.tmp 14) _ _ rfl rfl rfl rfl (heap_alloc_last _ _) infoX rfl (by kernel_rfl) ?_
  rw [World.setRow_alloc_new]
  dsimp only [Act.put]
  obtain ⟨wy, hwy⟩ : ∃ wy, wy = wz.alloc (.cells (hcells beginL (List.replicate 128 0) 0 0).toArray 103) := ⟨_, rfl⟩
  rw [← hwy]
  have hyb : HX wz.heap.size beginL (List.replicate 128 0) 0 0 wy := by rw [hwy]; exact ⟨heap_alloc_new wz _, rfl, rfl, beginL_small, fun i => by unfold gt; rw [List.getD_eq_getElem?_getD, List.getElem?_replicate]; split <;> decide⟩
  have hyz : wy.heap[w.heap.size]? = some (.cells (Bs (List.replicate 32 0)).toArray 39 (0, 0)) := by rw [hwy]; exact (Below.heap_alloc _ _ _ (by omega)).trans HZB.out
  have hyB : Below w.heap.size w wy := by rw [hwy]; exact HZBB.out.alloc (by omega) _
  have hyG : Glob wy := by rw [hwy]; exact HGZ.out.of (by simp) (fun k hk => Below.heap_alloc _ _ _ (Nat.lt_of_lt_of_le hk HGZ.out.lt))
  have hys : wy.heap.size = w.heap.size + 2 := by rw [hwy]; simp; omega
  obtain ⟨xb, hxb⟩ : ∃ xb, xb = wz.heap.size := ⟨_, rfl⟩
  rw [← hxb] at hyb ⊢
  have c0 := hyb.h (i := 0) (by decide)
  have f0 := hyb.frozen 0
  have HYB := Lib.hid hyb
  have HYZ := Lib.hid hyz
  have HYBB := Lib.hid hyB
  have HYG := Lib.hid hyG
  have hxs : xb = w.heap.size + 1 := by omega
  have HXS := Lib.hid hxs
  have hW1 : IntKind.u64.wrap (K.length : Int) = (K.length : Int) := by rw [IntKind.wrap_u64]; omega
  clear hwy hyb hyz hyB hyG hzs hxb hxs HZB HZBB HGZ
  clear wz
  have hxor : bits .xor .u64 ((gt beginL 0 : Nat) : Int) (bits .xor .u64 16842784 ((K.length : Int) * 256)) = ((gt (initL K.length) 0 : Nat) : Int) := by
    have e1 : gt (initL K.length) 0 = gt beginL 0 ^^^ (16842784 ^^^ K.length * 256) := by
      rw [← Nat.xor_assoc]; rfl
    have l1 : (16842784 ^^^ K.length * 256 : Nat) < 18446744073709551616 := Nat.xor_lt_two_pow (n := 64) (by decide) (by omega)
    rw [e1, show (K.length : Int) * 256 = ((K.length * 256 : Nat) : Int) by omega, show (16842784 : Int) = ((16842784 : Nat) : Int) from rfl, bits_xor_u64_nat 16842784 _ (by decide) (by omega), bits_xor_u64_nat _ _ (by decide) l1]
  have hl0 : gt (initL K.length) 0 < 18446744073709551616 := by
    have e1 : gt (initL K.length) 0 = gt beginL 0 ^^^ 16842784 ^^^ K.length * 256 := rfl
    rw [e1]
    exact Nat.xor_lt_two_pow (n := 64) (Nat.xor_lt_two_pow (n := 64) (by decide) (by decide)) (by omega)
  have hset : beginL.set 0 (gt (initL K.length) 0) = initL K.length := rfl
  have HXOR := Lib.hid hxor
  have HL0 := Lib.hid hl0
  have HSET := Lib.hid hset
  clear hxor hl0 hset
  go_upto_if 28 with fail
  rw [HXOR.out]
  obtain ⟨wx, hwx⟩ : ∃ wx, wx = wy.setCell ⟨xb, 0, none⟩ (.int .u64 ((gt (initL K.length) 0 : Nat) : Int)) := ⟨_, rfl⟩
  rw [← hwx]
  have hx0 : HX xb (initL K.length) (List.replicate 128 0) 0 0 wx := by
    have := HYB.out.setH 0 (by decide) HL0.out
    rw [HSET.out] at this
    rw [hwx]; exact this
  have hg0 : wy.grownBy wx (some xb) := by
    rw [hwx]; exact grown_set ⟨rfl, rfl, rfl, Nat.le_refl _, fun _ _ _ => rfl⟩ (.inl rfl)
  have hb2 : 2 ≤ xb := by have := HXS.out; have := HGG.out.lt; omega
  have hG0 : Glob wx := by rw [hwx]; exact HYG.out.setc hb2
  have HX0 := Lib.hid hx0
  have HG0 := Lib.hid hg0
  have HGG0 := Lib.hid hG0
  clear hwx hx0 hg0 hG0 c0 f0
  obtain ⟨A0, hA0⟩ : ∃ A0, A0 = (if K = [] then [] else K ++ List.replicate (128 - K.length) 0) := ⟨_, rfl⟩
  have HA0 := Lib.hid hA0
  clear hA0
  go_cut [1, 4, 5] (fun x1 x4 x5 wc => x1 = u ∧ x4 = .pointer (some ⟨w.heap.size, 0, none⟩) ∧ x5 = .pointer (some ⟨xb, 0, none⟩) ∧ (∃ h blk held count, HX xb h blk held count wc ∧ Inv (initL K.length) A0 h blk held count) ∧ wy.grownBy wc (some xb) ∧ Glob wc)
  case first =>
    by_cases hKz : K.length = 0
    · have hgd : decide (0 < K.length) = false := by rw [hKz]; rfl
      have hKn' : K = [] := List.length_eq_zero_iff.1 hKz
      have hA : A0 = [] := by rw [HA0.out, if_pos hKn']
      have hInv : Inv (initL K.length) A0 (initL K.length) (List.replicate 128 0) 0 0 := by rw [hA]; exact ⟨by decide, rfl, fun rest => rfl⟩
      have HI := Lib.hid hInv
      clear hKn' hA hInv hKz
      rw [hgd]
      clear hgd
      go_wp2_with fail
      go_meet
      exact ⟨rfl, rfl, rfl, ⟨_, _, _, _, HX0.out, HI.out⟩, HG0.out, HGG0.out⟩
    · have hgd : decide (0 < K.length) = true := decide_eq_true (by omega)
      have hKn' : K ≠ [] := fun e => hKz (by rw [e]; rfl)
      have hA : A0 = K ++ List.replicate (128 - K.length) 0 := by rw [HA0.out, if_neg hKn']
      have hKpos : 0 < K.length := by omega
      rw [hgd]
      clear hgd hKz
      have hrK := HK.out
      obtain ⟨a, hao⟩ : ∃ a, ao = some a := by
        rcases hrK with ⟨-, h2⟩ | ⟨a, c, h1, -⟩
        · exact absurd h2 hKn'
        · injection h1 with h3 h4 h5; exact ⟨a, h3⟩
      subst hao
      have hcs := (RdB.cells hrK).2
      have hc0 := hcs 0 (.int .u8 (gt K 0 : Nat)) (by simp [Bs, gt, hKpos])
      have hspot : a.spot = none := by
        have := World.cell?_spot hc0
        simpa [Addr.add] using this
      have hab : a.block < w.heap.size := by
        have hl := cell_block hc0
        have hb : (a.add 0).block = a.block := by unfold Addr.add; split <;> rfl
        exact hb ▸ hl
      obtain ⟨ab, aoff, sp⟩ := a
      simp only at hspot hab
      subst hspot
      have hxs := HXS.out
      have hrx : RdB wx (.slice (some ⟨ab, aoff, none⟩) K.length cap) K := (hrK.below HYBB.out).grown HG0.out (fun a n c e => by injection e with e1; injection e1 with e1; rw [← e1]; simp only; omega)
      have hsrc : ∀ i v, (Bs K)[i]? = some v → wx.cell? ((⟨ab, aoff, none⟩ : Addr).add i) = some v := (RdB.cells hrx).2
      have HSRC := Lib.hid hsrc
      have hKs : ∀ i, gt K i < 256 := fun i => by
        by_cases hi : i < K.length
        · have e : gt K i = K[i] := by simp only [gt, List.getD_eq_getElem?_getD, List.getElem?_eq_getElem hi, Option.getD_some]
          rw [e]
          have hm : K[i] ∈ key.take 64 := by rw [← HKe.out]; exact List.getElem_mem hi
          exact HBK.out _ (List.mem_of_mem_take hm)
        · rw [gt_ge (by omega)]; decide
      have HKS := Lib.hid hKs
      have hKl : K.length ≤ 64 := by omega
      have hlaid : laidAt (List.replicate 128 0) K 0 = A0 := by
        rw [hA]; unfold laidAt
        simp only [List.take_zero, List.nil_append, Nat.zero_add, List.drop_replicate]
      have hA0l : A0.length = 128 := by rw [← hlaid]; exact laidAt_len rfl (by omega)
      have HLA := Lib.hid hlaid
      have HAL := Lib.hid hA0l
      clear hrK hcs hc0 hab hxs hrx hsrc hKs hA hlaid hA0l hKn'
      go_wp2_with (first | (refine wpList_copy_own rfl _ _ 25 25 rfl 5 Tryd.underlying25 info5s xb 8 128 128 ⟨ab, aoff, none⟩ K.length cap rfl rfl (hcells (initL K.length) (List.replicate 128 0) 0 0).toArray 103 HX0.out.at_ (Bs K) (by rw [Bs_length]; exact (Nat.min_eq_left (by omega)).symm) HSRC.out (by rw [Bs_length]; simp only [List.size_toArray, hcells, List.length_append, List.length_map, HX0.out.hl, Bs_length, HX0.out.bl, List.length_cons, List.length_nil]; omega) (Bs_one K) ?_; obtain ⟨w5, hw5⟩ : ∃ w5, w5 = wx.setRow xb (((hcells (initL K.length) (List.replicate 128 0) 0 0).toArray.toList.take 8) ++ (Bs K ++ (hcells (initL K.length) (List.replicate 128 0) 0 0).toArray.toList.drop (8 + (Bs K).length))).toArray := ⟨_, rfl⟩; have hx5 : HX xb (initL K.length) A0 0 0 w5 := (by
        have := HX0.out.splice (q := K) (by omega) HKS.out
        rw [List.append_assoc, HLA.out] at this
        rw [hw5]; exact this); have hg5 : wy.grownBy w5 (some xb) := (by
        have g := HG0.out
        rw [hw5]
        exact ⟨g.os, g.tape, g.output, by simp; exact g.size, fun k hk hr => (setRow_other _ xb k _ (fun e => hr (by rw [e]))).trans (g.block k hk hr)⟩); have hG5 : Glob w5 := (by
        rw [hw5]
        exact HGG0.out.of (by simp) (fun k hk => setRow_other _ xb k _ (by omega))); rw [← hw5]; have k5 := hx5.held; have f5 := hx5.frozen 136; have HX5 := Lib.hid (hx5.setHeld 128); have HG5 := Lib.hid (grown_set (i := 136) (v := .int .i64 (128 : Int)) hg5 (.inl rfl)); have HGG5 := Lib.hid (hG5.setc (c := xb) (i := 136) (v := .int .i64 (128 : Int)) hb2); clear hx5 hg5 hG5 hw5) | fail)
      go_meet
      exact ⟨rfl, rfl, rfl, ⟨_, _, _, _, HX5.out, ⟨by decide, by rw [HAL.out], fun rest => by rw [List.take_of_length_le (by rw [HAL.out]; decide)]⟩⟩, HG5.out, HGG5.out⟩
  case rest =>
    obtain ⟨rfl, rfl, rfl, ⟨h, blk, held, count, hx, hi⟩, hg, hG⟩ := hcut
    obtain ⟨uo, ucap, rfl⟩ := HP.out.lenOf
    have HXC := Lib.hid hx
    have HIC := Lib.hid hi
    have HGC := Lib.hid hg
    have HGGC := Lib.hid hG
    have hA0l : A0.length ≤ 128 := by rw [HA0.out]; split <;> simp <;> omega
    clear hx hi hg hG
    go_wp2
    go_loopw [36] (fun i wr => ∃ n : Nat, n ≤ L.length ∧ i = .int .i64 n ∧ (∃ h blk held count, HX xb h blk held count wr ∧ Inv (initL K.length) (A0 ++ (L.take n).flatten) h blk held count) ∧ wy.grownBy wr (some xb) ∧ Glob wr) (fun i _ => L.length - (intOf i).toNat)
    case atStart => exact ⟨0, by omega, rfl, ⟨_, _, _, _, HXC.out, by simpa using HIC.out⟩, HGC.out, HGGC.out⟩
    case round =>
      obtain ⟨n, hn, rfl, ⟨h', blk', held', count', hx, hi⟩, hg, hG⟩ := hrel
      have hys' := HYBB.out.size
      have hxs' := HXS.out
      by_cases hlt : n < L.length
      · obtain ⟨rb, ro, uu, rfl, hrb, hcell, hru⟩ := HP.out.row hlt
        obtain ⟨p, hp⟩ : ∃ p, p = L.getD n [] := ⟨_, rfl⟩
        rw [← hp] at hru
        have hrbx : rb ≠ xb := by omega
        have hcw : wr.cell? ⟨rb, ro + n, none⟩ = some uu := by
          rw [← hcell, ← HYBB.out.cell (p := ⟨rb, ro + n, none⟩) hrb]
          exact World.cell?_of_block (hg.block _ (by simp only; omega) (by simp only; intro e; injection e with e; exact hrbx e))
        have hap : p ≠ [] → Apart uu xb := fun h0 => hru.blockLt h0 (by omega)
        have hrw : p ≠ [] → RdB wr uu p := fun h0 => (hru.below HYBB.out).grown hg (hap h0)
        have hrw' : RdB wr uu p := by
          by_cases h0 : p = []
          · rcases hru with h1 | ⟨a, c, h1, h2, -⟩
            · exact .inl h1
            · exact .inr ⟨a, c, h1, h2, fun i hi => by rw [h0] at hi; simp at hi⟩
          · exact hrw h0
        have hpm : p ∈ L := by
          rw [hp, List.getD_eq_getElem?_getD, List.getElem?_eq_getElem hlt]; exact List.getElem_mem hlt
        have hfl := flat_take L n hlt
        have hle := flat_take_le L (n + 1)
        rw [hfl, ← hp, List.length_append] at hle
        have hbp : ∀ x ∈ p, x < 256 := HBP.out p hpm
        have hlen : (A0 ++ (L.take n).flatten).length + p.length ≤ 1000000000 := by rw [List.length_append]; omega
        have HXR := Lib.hid hx
        have HIR := Lib.hid hi
        have HGR := Lib.hid hg
        have HGGR := Lib.hid hG
        have HAP := Lib.hid hap
        have HRW := Lib.hid hrw'
        have HFL := Lib.hid hfl
        have HBPP := Lib.hid hbp
        have HLEN := Lib.hid hlen
        have HPD := Lib.hid hp
        clear hx hi hg hG hap hrw hrw' hfl hbp hlen hp hru hcell hpm hle hrbx
        obtain ⟨h00, hh00⟩ : ∃ h00, h00 = initL K.length := ⟨_, rfl⟩
        obtain ⟨A1, hA1⟩ : ∃ A1, A1 = A0 ++ (L.take n).flatten := ⟨_, rfl⟩
        clear hys' hxs'
        rw [← hh00, ← hA1] at HIR
        rw [← hA1] at HLEN
        have HH00 := Lib.hid hh00
        have HA1 := Lib.hid hA1
        clear hh00 hA1
        go_wp2_with (first | (go_at_call 66; refine (blake_write' xb h00 A1 h' blk' held' count' uu p wr HGGR.out HXR.out hb2 HIR.out HRW.out HAP.out HBPP.out HLEN.out).mono ?_; rintro e wM ⟨rfl, hM⟩; have HM := Lib.hid hM; clear hM) | fail)
        obtain ⟨⟨h2, b2, he2, co2, hx2, hi2⟩, hg2, hG2⟩ := HM.out
        refine ⟨⟨n + 1, by omega, by go_num, ⟨h2, b2, he2, co2, hx2, ?_⟩, grown_trans HGR.out hg2, hG2⟩, by simp only [intOf]; omega⟩
        rw [HFL.out, ← HPD.out, ← List.append_assoc, ← HA1.out, ← HH00.out]
        exact hi2
      · have hnL : n = L.length := by omega
        subst hnL
        rw [List.take_length] at hi
        have HXR := Lib.hid hx
        have HIR := Lib.hid hi
        have HGR := Lib.hid hg
        have HGGR := Lib.hid hG
        have hlen : (A0 ++ L.flatten).length ≤ 1000000000 := by rw [List.length_append]; omega
        have hout := outL_len (chainL (initL K.length) (A0 ++ L.flatten) 0)
        have HOUT := Lib.hid hout
        have HLEN := Lib.hid hlen
        obtain ⟨O, hO⟩ : ∃ O, O = outL (chainL (initL K.length) (A0 ++ L.flatten) 0) := ⟨_, rfl⟩
        have HO := Lib.hid hO
        clear hx hi hg hG hlen hout hO
        obtain ⟨h00, hh00⟩ : ∃ h00, h00 = initL K.length := ⟨_, rfl⟩
        obtain ⟨A1, hA1⟩ : ∃ A1, A1 = A0 ++ L.flatten := ⟨_, rfl⟩
        clear hys' hxs'
        rw [← hA1] at HIR HLEN HOUT HO
        rw [← hh00] at HIR HOUT HO
        have HH00 := Lib.hid hh00
        have HA1 := Lib.hid hA1
        clear hh00 hA1
        go_wp2_with (first | (go_at_call 67; refine (blake_end xb h00 A1 h' blk' held' count' wr HGGR.out HXR.out hb2 HIR.out HLEN.out).mono ?_; rintro e wM ⟨rfl, hM⟩; have HM := Lib.hid hM; clear hM; have hz : wM.heap[w.heap.size]? = some (.cells (Bs (List.replicate 32 0)).toArray 39 (0, 0)) := (by
          have h1 := HGR.out.size
          have h2 := HXS.out
          exact (HM.out.block _ (by omega) (by simp; omega)).trans ((HGR.out.block _ (by omega) (by simp; omega)).trans HYZ.out)); have HZ := Lib.hid hz; clear hz; rw [← HO.out]) | (refine wpl_store w.heap.size 39 39 _ _ (Bs (List.replicate 32 0)).toArray (Bs O).toArray rfl rfl rfl rfl HZ.out (by rw [infoH, Bs_size, HO.out, HOUT.out]) (by rw [Bs_size, Bs_size, HO.out, HOUT.out]; rfl) (Bs_all _) ?_) | fail)
        refine bodyPost_ret (results_row (b := w.heap.size) (t := 39) Tryd.results49 rfl (setRow_heap wM w.heap.size _ _ _ _ HZ.out) Tryd.underlying39 rfl (by rw [infoH, Bs_size, HO.out, HOUT.out])) rfl ⟨?_, ?_⟩
        · have e : O = keyedL key L.flatten := by
            rw [HO.out, HA1.out, HH00.out]
            unfold keyedL allL
            rw [← HKe.out, ← HA0.out]
          rw [e]
        · have g := grown_trans HGR.out HM.out
          refine setRow_below (HYBB.out.trans ⟨g.os, g.tape, g.output, g.size, fun k hk => g.block k (Nat.lt_of_lt_of_le hk HYBB.out.size) (fun e => ?_)⟩) (Nat.le_refl _)
          have h2 := HXS.out
          injection e with e
          omega
end Go.Proofs.YtbndegkgpoemnaaDoor
end

section
namespace Go.Proofs.YtbndegkgpoemnaaDoor
open Go.RowKit
set_option linter.unusedVariables false
set_option linter.unusedSimpArgs false

set_option maxHeartbeats 8000000 in
set_option maxRecDepth 100000 in
theorem blake_Sum (u : Value) (L : List (List Nat)) (w : World) (hG : Glob w) (hp : RdBB w u L) (bp : ∀ l ∈ L, ∀ x ∈ l, x < 256) (lp : L.flatten.length ≤ 1000000) (ll : (L.length : Int) ≤ 4611686018427387904) :
    Calls Tryd.prog 29 #[u] w fun e w' => e = .returned (.agg (Bs (keyedL [] L.flatten)).toArray) ∧ Below w.heap.size w w' := by
  have HP := Lib.hid hp
  have HBP := Lib.hid bp
  have HG := Lib.hid hG
  have HLL := Lib.hid ll
  have hout : (keyedL [] L.flatten).length = 32 := outL_len _
  obtain ⟨O, hO⟩ : ∃ O, O = keyedL [] L.flatten := ⟨_, rfl⟩
  rw [← hO] at hout ⊢
  have HO := Lib.hid hO
  have HOUT := Lib.hid hout
  clear hp bp hG ll hO hout
  go_enter Tryd.func29, Tryd.ntmps29
  go_upto_region 1 with fail
  obtain ⟨wz, hwz⟩ : ∃ wz, wz = w.alloc (.cells #[.int .u8 0, .int .u8 0, .int .u8 0, .int .u8 0, .int .u8 0, .int .u8 0, .int .u8 0, .int .u8 0, .int .u8 0, .int .u8 0, .int .u8 0, .int .u8 0, .int .u8 0, .int .u8 0, .int .u8 0, .int .u8 0, .int .u8 0, .int .u8 0, .int .u8 0, .int .u8 0, .int .u8 0, .int .u8 0, .int .u8 0, .int .u8 0, .int .u8 0, .int .u8 0, .int .u8 0, .int .u8 0, .int .u8 0, .int .u8 0, .int .u8 0, .int .u8 0] 39) := ⟨_, rfl⟩
  rw [← hwz]
  rw [zero32] at hwz
  have hzb : wz.heap[w.heap.size]? = some (.cells (Bs (List.replicate 32 0)).toArray 39 (0, 0)) := by rw [hwz]; exact heap_alloc_new w _
  have hzs : w.heap.size < wz.heap.size := by rw [hwz]; simp
  have hzB : Below w.heap.size w wz := by rw [hwz]; exact (Below.refl _ _).alloc (Nat.le_refl _) _
  have hgz : Glob wz := HG.out.below hzB HG.out.lt
  have HZB := Lib.hid hzb
  have HZBB := Lib.hid hzB
  have HGZ := Lib.hid hgz
  clear hwz hzb hzB hgz
  have HC := Lib.hid (blake_Keyed (.slice none 0 0) u [] L wz HGZ.out (.inl ⟨rfl, rfl⟩) (HP.out.below HZBB.out) (fun x hx => by cases hx) HBP.out (by decide) lp HLL.out)
  rw [← HO.out] at HC
  go_wp2_with (first | (go_at_call 49; refine (HC.out).mono ?_; rintro e wM ⟨rfl, hM⟩; have hz : wM.heap[w.heap.size]? = some (.cells (Bs (List.replicate 32 0)).toArray 39 (0, 0)) := ((hM.block _ (by omega)).trans HZB.out); have HM := Lib.hid hM; have HZ := Lib.hid hz; clear hM hz) | (refine wpl_store w.heap.size 39 39 _ _ (Bs (List.replicate 32 0)).toArray (Bs O).toArray rfl rfl rfl rfl HZ.out (by rw [infoH, Bs_size, HOUT.out]) (by rw [Bs_size, Bs_size, HOUT.out]; rfl) (Bs_all _) ?_) | fail)
  refine bodyPost_ret (results_row (b := w.heap.size) (t := 39) Tryd.results29 rfl (setRow_heap wM w.heap.size _ _ _ _ HZ.out) Tryd.underlying39 rfl (by rw [infoH, Bs_size, HOUT.out])) rfl ⟨rfl, ?_⟩
  exact setRow_below (HZBB.out.trans (HM.out.mono (Nat.le_of_lt hzs))) (Nat.le_refl _)
end Go.Proofs.YtbndegkgpoemnaaDoor
end

section
namespace Go.Proofs.YtbndegkgpoemnaaDoor
open Go.RowKit
set_option linter.unusedVariables false
set_option linter.unusedSimpArgs false

set_option maxHeartbeats 8000000 in
set_option maxRecDepth 100000 in
theorem ref_Sum (u : Value) (p : List Nat) (w : World) (hp : RdB w u p) (bp : ∀ x ∈ p, x < 256) (lp : p.length ≤ 1000000) :
    Calls Tryd.prog 17 #[u] w fun e w' => e = .returned (.agg (Bs (keyedL [] p)).toArray) ∧ Below w.heap.size w w' := by
  have HP := Lib.hid hp
  have HBP := Lib.hid bp
  have hout : (keyedL [] p).length = 32 := outL_len _
  obtain ⟨O, hO⟩ : ∃ O, O = keyedL [] p := ⟨_, rfl⟩
  rw [← hO] at hout ⊢
  have HO := Lib.hid hO
  have HOUT := Lib.hid hout
  clear hp bp hO hout
  go_enter Tryd.func17, Tryd.ntmps17
  go_upto_region 1 with fail
  obtain ⟨wz, hwz⟩ : ∃ wz, wz = w.alloc (.cells #[.int .u8 0, .int .u8 0, .int .u8 0, .int .u8 0, .int .u8 0, .int .u8 0, .int .u8 0, .int .u8 0, .int .u8 0, .int .u8 0, .int .u8 0, .int .u8 0, .int .u8 0, .int .u8 0, .int .u8 0, .int .u8 0, .int .u8 0, .int .u8 0, .int .u8 0, .int .u8 0, .int .u8 0, .int .u8 0, .int .u8 0, .int .u8 0, .int .u8 0, .int .u8 0, .int .u8 0, .int .u8 0, .int .u8 0, .int .u8 0, .int .u8 0, .int .u8 0] 39) := ⟨_, rfl⟩
  rw [← hwz]
  rw [zero32] at hwz
  have hzb : wz.heap[w.heap.size]? = some (.cells (Bs (List.replicate 32 0)).toArray 39 (0, 0)) := by rw [hwz]; exact heap_alloc_new w _
  have hzs : w.heap.size < wz.heap.size := by rw [hwz]; simp
  have hzB : Below w.heap.size w wz := by rw [hwz]; exact (Below.refl _ _).alloc (Nat.le_refl _) _
  have HZB := Lib.hid hzb
  have HZBB := Lib.hid hzB
  clear hwz hzb hzB
  have HC := Lib.hid (ref_Keyed (.slice none 0 0) u [] p wz (.inl ⟨rfl, rfl⟩) (HP.out.below HZBB.out) (fun x hx => by cases hx) HBP.out (by decide) lp)
  rw [← HO.out] at HC
  go_wp2_with (first | (go_at_call 31; refine (HC.out).mono ?_; rintro e wM ⟨rfl, hM⟩; have hz : wM.heap[w.heap.size]? = some (.cells (Bs (List.replicate 32 0)).toArray 39 (0, 0)) := ((hM.block _ (by omega)).trans HZB.out); have HM := Lib.hid hM; have HZ := Lib.hid hz; clear hM hz) | (refine wpl_store w.heap.size 39 39 _ _ (Bs (List.replicate 32 0)).toArray (Bs O).toArray rfl rfl rfl rfl HZ.out (by rw [infoH, Bs_size, HOUT.out]) (by rw [Bs_size, Bs_size, HOUT.out]; rfl) (Bs_all _) ?_) | fail)
  refine bodyPost_ret (results_row (b := w.heap.size) (t := 39) Tryd.results17 rfl (setRow_heap wM w.heap.size _ _ _ _ HZ.out) Tryd.underlying39 rfl (by rw [infoH, Bs_size, HOUT.out])) rfl ⟨rfl, ?_⟩
  exact setRow_below (HZBB.out.trans (HM.out.mono (Nat.le_of_lt hzs))) (Nat.le_refl _)
end Go.Proofs.YtbndegkgpoemnaaDoor
end

section
namespace Go.Proofs.YtbndegkgpoemnaaDoor
open Go.RowKit
set_option linter.unusedVariables false
set_option linter.unusedSimpArgs false

theorem Bs_at (l : List Nat) (i : Nat) (h : i < l.length) : (Bs l).toArray[i]? = some (.int .u8 (gt l i : Nat)) := by
  simp [Bs, gt, h]
theorem eqItems_Bs (w : World) (d : Nat) (a b : List Nat) : ∀ is : List Nat, (∀ i ∈ is, i < a.length ∧ i < b.length) →
    (Op.eqItems (d + 1) 5 1 (Bs a).toArray (Bs b).toArray is).run Tryd.prog w = .ok (is.all fun i => gt a i == gt b i) w
  | [], _ => by simp [Op.eqItems]
  | i :: is, h => by
    obtain ⟨ha, hb⟩ := h i (by simp)
    have he : Tryd.prog.plainKey 5 = true := by kernel_rfl
    have p1 := run_part_plain (P := Tryd.prog) w (e := 5) he (xs := (Bs a).toArray) (Bs_at a i ha)
    have p2 := run_part_plain (P := Tryd.prog) w (e := 5) he (xs := (Bs b).toArray) (Bs_at b i hb)
    simp only [Op.eqItems, Nat.mul_one, Sem.run_bind, p1, p2, Result.andThen_ok, run_equalIn_int w d 5 .u8 .u8 _ _ Tryd.underlying5]
    by_cases e : gt a i = gt b i
    · have e1 : ((gt a i : Int) == (gt b i : Int)) = true := by simp [e]
      have e2 : (gt a i == gt b i) = true := by simp [e]
      rw [e1]
      simp only [List.all_cons, e2, Bool.true_and, Bool.not_true, Bool.false_eq_true, if_false]
      exact eqItems_Bs w d a b is fun j hj => h j (by simp [hj])
    · have e1 : ((gt a i : Int) == (gt b i : Int)) = false := by simp; omega
      have e2 : (gt a i == gt b i) = false := by simpa using e
      rw [e1]
      simp [List.all_cons, e2, Sem.run_pure]
theorem all_range_eq (a b : List Nat) (ha : a.length = 32) (hb : b.length = 32) : ((List.range 32).all fun i => gt a i == gt b i) = decide (a = b) := by
  by_cases e : a = b
  · subst e; simp
  · rw [decide_eq_false e]
    cases h : (List.range 32).all fun i => gt a i == gt b i with
    | false => rfl
    | true =>
      refine absurd (ext_gt (by rw [ha, hb]) fun i hi => ?_) e
      rw [List.all_eq_true] at h
      simpa using h i (by simp; omega)
/-- Two digests are one just where their bytes are. -/
theorem run_eql_hash (w : World) (a b : List Nat) (ha : a.length = 32) (hb : b.length = 32) :
    (binOp .eql 39 (.agg (Bs a).toArray) (.agg (Bs b).toArray)).run Tryd.prog w = .ok (.bool (decide (a = b))) w := by
  rw [run_eql_struct, show (10000 : Nat) = 9998 + 1 + 1 from rfl, run_equalIn_array (i := (Tryd.prog.info? 5).getD default) w (9998 + 1) (e := 5) (n := 32) _ _ Tryd.underlying39 (by kernel_rfl)]
  rw [show Tryd.prog.cellsOf 5 = 1 from by kernel_rfl, eqItems_Bs w 9998 a b _ (by simp; omega), all_range_eq a b ha hb]
  rfl
theorem run_neq_hash (w : World) (a b : List Nat) (ha : a.length = 32) (hb : b.length = 32) :
    (binOp .neq 39 (.agg (Bs a).toArray) (.agg (Bs b).toArray)).run Tryd.prog w = .ok (.bool (!decide (a = b))) w := by
  rw [run_neq_struct, show (10000 : Nat) = 9998 + 1 + 1 from rfl, run_equalIn_array (i := (Tryd.prog.info? 5).getD default) w (9998 + 1) (e := 5) (n := 32) _ _ Tryd.underlying39 (by kernel_rfl)]
  rw [show Tryd.prog.cellsOf 5 = 1 from by kernel_rfl, eqItems_Bs w 9998 a b _ (by simp; omega), all_range_eq a b ha hb]
  rfl
end Go.Proofs.YtbndegkgpoemnaaDoor
end

section
namespace Go.Proofs.YtbndegkgpoemnaaDoor
open Go.RowKit
set_option linter.unusedVariables false
set_option linter.unusedSimpArgs false

set_option maxRecDepth 100000 in
set_option maxHeartbeats 4000000 in
theorem law_size (d : Nat) : ∀ (c : Cl) (v : Value) (w : World), RdC w d v c → LenC c → Calls Tryd.prog 5 #[v] w fun e w' => (∃ r : Int, e = .returned (.int .i64 r)) ∧ Below w.heap.size w w' := by
  induction d with
  | zero => intro c v w h; exact h.elim
  | succ d ih =>
  intro c v w hrd hlen
  obtain ⟨d', ao, cap, hd, rfl, hkids⟩ := hrd.open
  obtain rfl : d' = d := by omega
  obtain ⟨hl1, hl2⟩ := (lenC_iff c).1 hlen
  obtain ⟨k, hk⟩ : ∃ k, k = c.k := ⟨_, rfl⟩
  obtain ⟨t, ht⟩ : ∃ t, t = c.t := ⟨_, rfl⟩
  obtain ⟨n, hn⟩ : ∃ n, n = c.n := ⟨_, rfl⟩
  obtain ⟨l, hl⟩ : ∃ l, l = c.kids := ⟨_, rfl⟩
  rw [← hk, ← ht, ← hn, ← hl]
  rw [← hl] at hkids hl1 hl2
  obtain ⟨m, hm⟩ : ∃ m, m = l.length := ⟨_, rfl⟩
  rw [← hm] at hl1 ⊢
  have hmI : (m : Int) ≤ 9223372036854775807 := Int.le_trans (Int.ofNat_le.2 hl1) (by decide +kernel)
  obtain ⟨W, hW⟩ : ∃ W, W = w.alloc (.cells #[.int .i64 k, .int .i64 t, .int .i64 n, .slice ao m cap] 24) := ⟨_, rfl⟩
  have hB : Below w.heap.size w W := by rw [hW]; exact (Below.refl _ w).alloc (Nat.le_refl _) _
  have g1 := World.alloc_heap_new w (.cells #[.int .i64 k, .int .i64 t, .int .i64 n, .slice ao m cap] 24)
  rw [← hW] at g1
  obtain ⟨cb, hcb⟩ : ∃ cb, cb = w.heap.size := ⟨_, rfl⟩
  rw [← hcb] at g1
  have a3 : W.cell? ⟨cb, 3, none⟩ = some (.slice ao m cap) := by rw [World.cell?, g1]; rfl
  have HRD := Lib.hid (RdCs.below hkids hB)
  have HB := Lib.hid hB
  have HM := Lib.hid (And.intro hm hl2)
  have IH := Lib.hid ih
  have HCB := Lib.hid (show cb < W.heap.size by rw [hW, hcb]; simp)
  clear hk ht hn hl hrd hlen hkids hl1 hl2 hm g1 hB ih hd
  go_enter Tryd.func5, Tryd.ntmps5
  go_upto_region 1 with fail
  rw [← hW, ← hcb]
  clear hW hcb
  go_wp2_with fail
  go_loopw [3, 4] (fun r i wr => ∃ (q : Int) (j : Nat), j ≤ m ∧ r = .int .i64 q ∧ i = .int .i64 j ∧ Below W.heap.size W wr) (fun _ i _ => m - (intOf i).toNat)
  case atStart => exact ⟨_, 0, by omega, rfl, rfl, Below.refl _ _⟩
  case round =>
    obtain ⟨q, j, hj, rfl, rfl, hb⟩ := hrel
    have HBW := Lib.hid hb
    have b3 : wr.cell? ⟨cb, 3, none⟩ = some (.slice ao m cap) := (World.cell?_of_block (a := ⟨cb, 3, none⟩) (hb.block cb HCB.out)).trans a3
    clear a3
    by_cases hin : j < m ∧ q < 300
    · obtain ⟨hlt, hq⟩ := hin
      have hlt' : (j : Int) < m := by omega
      have hjl : j < l.length := by rw [← HM.out.1]; exact hlt
      obtain ⟨kb, ko, vs, rfl, hkb, hrg, hrd⟩ := HRD.out j hjl
      have hrg2 : wr.rangeAt kb (ko + j * 4) vs := rangeAt_keep hrg (hb.block kb hkb)
      have hrd2 : RdC wr d' (.agg vs.toArray) l[j] := RdC.below hb hrd
      have hcall := IH.out l[j] _ wr hrd2 (HM.out.2 _ (List.getElem_mem hjl))
      obtain ⟨a4, c4, e4⟩ := hrd2.cells
      obtain ⟨c1, c2, c3, c5, e5⟩ : ∃ c1 c2 c3 c5, vs = [.int .i64 c1, .int .i64 c2, .int .i64 c3, .slice a4 c5 c4] := ⟨_, _, _, _, e4⟩
      clear e4
      subst e5
      have HCA := Lib.hid hcall
      have HRG := Lib.hid hrg2
      clear hkb hrg hrd hrg2 hrd2 hcall hb hjl
      go_wp2_with (first
        | (refine wpl_loadC _ rfl rfl rfl HRG.out rfl ?_)
        | (go_at_call 5; refine HCA.out.mono ?_; rintro e w1 ⟨⟨r, rfl⟩, hb⟩; have H1 := Lib.hid (HBW.out.trans (hb.mono HBW.out.size)); clear hb)
        | fail)
      go_roundw
      case rel => exact ⟨_, j + 1, by omega, rfl, by go_num, H1.out⟩
      case measure => simp [intOf]; omega
    · have hex : (¬ (j : Int) < m) ∨ ((j : Int) < m ∧ ¬ q < 300) := by omega
      clear hin hb hj
      rcases hex with h1 | ⟨h1, h2⟩
      all_goals go_wp2_with fail
      all_goals exact bodyPost_ret (v := .int .i64 q) (by simp [results, Tryd.results5, go_sem]) rfl ⟨⟨_, rfl⟩, HB.out.trans (HBW.out.mono HB.out.size)⟩
end Go.Proofs.YtbndegkgpoemnaaDoor
end

section
namespace Go.Proofs.YtbndegkgpoemnaaDoor
open Go.RowKit
set_option linter.unusedVariables false
set_option linter.unusedSimpArgs false

def exHd (l : List Int) (h : l.length = 7) : Ex := exWith exZero l h
theorem run_buildE2 (a b : Int) (w : World) : (buildE #[(0, .int .i64 a), (1, .int .i64 b)]).run Tryd.prog w = .ok (.agg (ec (exHd [a, b, 0, 0, 0, 0, 0] rfl)).toArray) w := by kernel_rfl
theorem run_buildE4 (a b c d : Int) (w : World) : (buildE #[(0, .int .i64 a), (1, .int .i64 b), (2, .int .i64 c), (3, .int .i64 d)]).run Tryd.prog w = .ok (.agg (ec (exHd [a, b, c, d, 0, 0, 0] rfl)).toArray) w := by kernel_rfl
theorem run_buildE5 (a b c : Int) (w : World) : (buildE #[(0, .int .i64 a), (1, .int .i64 b), (4, .int .i64 c)]).run Tryd.prog w = .ok (.agg (ec (exHd [a, b, 0, 0, c, 0, 0] rfl)).toArray) w := by kernel_rfl
theorem run_buildE6 (a b c : Int) (w : World) : (buildE #[(0, .int .i64 a), (1, .int .i64 b), (5, .int .i64 c)]).run Tryd.prog w = .ok (.agg (ec (exHd [a, b, 0, 0, 0, c, 0] rfl)).toArray) w := by kernel_rfl
theorem extEq_zero (a b c d e f g : Int) (l : List Int) (h : l.length = 7) (h0 : l = [0, 0, 0, 0, 0, 0, 0]) : extEq (exWith (exHd [a, b, c, d, e, f, g] rfl) l h) exZero = true := by subst h0; rfl
attribute [local go_sem ↓] build_e
theorem rdC0 {k t n : Int} {w : World} : RdC w 1 (.agg #[.int .i64 k, .int .i64 t, .int .i64 n, .slice none 0 0]) (.mk k t n []) :=
  ⟨none, 0, rfl, fun i hi => absurd hi (Nat.not_lt_zero i)⟩
theorem known_ok : okC 3 (.mk 1 0 3 []) = true := by decide +kernel
theorem known_lay : layT (.mk 1 0 3 []) = [4, 0, 12, 0] := by decide +kernel
theorem known_enc (w : World) : Calls Tryd.prog 6 #[.agg #[.int .i64 1, .int .i64 0, .int .i64 3, .slice none 0 0]] w fun e w' => ∃ u, e = .returned (.tuple #[u, .int .i64 0]) ∧ OwnB w.heap.size u (Bs [4, 0, 12, 0]) w' ∧ Below w.heap.size w w' := by
  have h := code_EncodeCall 1 (.mk 1 0 3 []) _ w rdC0
  have e1 : (if okC 3 (.mk 1 0 3 []) then (0 : Int) else 1) = 0 := by rw [known_ok]; rfl
  have e2 : (if okC 3 (.mk 1 0 3 []) then layT (.mk 1 0 3 []) else []) = [4, 0, 12, 0] := by rw [known_ok, known_lay]; rfl
  rw [e1, e2] at h
  exact h
set_option maxHeartbeats 1000000 in
set_option maxRecDepth 100000 in
theorem law_known (w : World) : Calls Tryd.prog 16 #[] w fun e w' => e = .returned (.bool true) ∧ Below w.heap.size w w' := by
  have hE := run_buildE2 11 2
  have hb256 : ∀ b ∈ ([4, 0, 12, 0] : List Nat), b < 256 := by decide
  have HE := Lib.hid (code_IsExt11 (exHd [11, 2, 0, 0, 0, 0, 0] rfl) 0 2 0 0 0 0 rfl)
  have HC := Lib.hid (known_enc w)
  go_enter Tryd.func16, Tryd.ntmps16
  have hst : ((strN [4, 0, 12, 0]).toList == [4, 0, 12, 0]) = true := by rw [strN_toList]; rfl
  go_wp2_with (first
    | (go_at_call 6; refine HC.out.mono ?_; rintro e w1 ⟨u, rfl, ho, hb⟩; have hstr := run_str ho.reads hb256; have H1 := Lib.hid hb; clear ho hb)
    | (go_at_call 30; refine (HE.out _).mono ?_; rintro e w2 ⟨rfl, hb⟩; have H2 := Lib.hid (H1.out.trans (hb.mono H1.out.size)); clear hb)
    | fail)
  go_ret
  exact ⟨by rfl, H2.out⟩
end Go.Proofs.YtbndegkgpoemnaaDoor
end

section
namespace Go.Proofs.YtbndegkgpoemnaaDoor
open Go.ChangeShapes Go.WideShapes Go.ChangeAt Go.RowKit
set_option linter.unusedVariables false
set_option linter.unusedSimpArgs false

def laid2 : List (String × DataW Unit) := [("althing/blake.beginning", Rows.laid_althing_blake_beginning), ("althing/blake.orders", Rows.laid_althing_blake_orders)]
theorem gBeg : Tryd.prog.globalNamed "althing/blake.beginning" = some 0 := by kernel_rfl
theorem gOrd : Tryd.prog.globalNamed "althing/blake.orders" = some 1 := by kernel_rfl
theorem tBeg : (Tryd.prog.globals[0]?).map (·.type) = some 86 := by kernel_rfl
theorem tOrd : (Tryd.prog.globals[1]?).map (·.type) = some 128 := by kernel_rfl
theorem begTab : (Rows.laid_althing_blake_beginning : DataW Unit) = Lib.tabData .u64 (beginL.map fun (n : Nat) => (n : Int)) := rfl
theorem ordTab : (Rows.laid_althing_blake_orders : DataW Unit) = .agg ((List.range 10).map fun i => Lib.tabData .u8 ((orderL i).map fun (n : Nat) => (n : Int))) := rfl
theorem order_len (i : Nat) : (orderL i).length = 16 := by
  unfold orderL
  split <;> rfl
theorem glob_of_laid {W : World} (h : laidMetH Tryd.prog laid2 W) : Glob W := by
  rw [MakeChecks.laidMetH_plain _ _ _ (by kernel_rfl)] at h
  obtain ⟨ps, ⟨g0, t0, cs0, f0, p0, q0, hg0, ht0, hv0, hd0, ⟨g1, t1, cs1, f1, p1, q1, hg1, ht1, hv1, hd1, hq1, hps1⟩, hps0⟩, hnd, hfz⟩ := h
  obtain rfl := Option.some.inj (gBeg.symm.trans hg0)
  obtain rfl := Option.some.inj (gOrd.symm.trans hg1)
  obtain rfl := Option.some.inj (tBeg.symm.trans ht0)
  obtain rfl := Option.some.inj (tOrd.symm.trans ht1)
  rw [begTab] at hd0
  have e0 := Lib.cells_of_tab Tryd.underlying86 Tryd.underlying85 (by kernel_rfl) (by kernel_rfl) hd0
  have hcs : cs0 = Ws beginL := by
    obtain ⟨l⟩ := cs0
    simp only at e0
    rw [e0]
    rfl
  subst hcs
  have hsz : (Ws beginL).size = 8 := rfl
  have hm0 : MemPlace.cell 0 0 ∈ ps := by
    rw [hps0, hsz]
    simp [MemPlace.row]
  obtain ⟨⟨c, t, hct⟩, -⟩ := hfz 0 0 hm0
  have hb0 : W.heap[0]? = some (.cells (Ws beginL) t (0, 0)) := by
    have h2 := hv0
    simp only [World.var?, gBeg, Option.bind_some, hct, Option.some.injEq] at h2
    rw [hct, h2]
  obtain ⟨xs, m, rfl, hx, hl, hn, hel⟩ := DataW.trod_array Tryd.underlying128 hd1
  have ce : Tryd.prog.cellsOf 127 = 16 := by kernel_rfl
  rw [ordTab] at hx
  simp only [Prod.mk.injEq, DataW.agg.injEq] at hx
  have hrow : ∀ i, i < 10 → (cs1.toList.drop (i * 16)).take 16 = (orderL i).map fun (n : Nat) => Value.int .u8 (n : Int) := by
    intro i hi
    have h1 := hel i hi
    rw [ce] at h1
    have hxi : xs[i]?.map (·.1) = some (Lib.tabData .u8 ((orderL i).map fun (n : Nat) => (n : Int))) := by
      rw [← List.getElem?_map, ← hx.1]
      simp [hi]
    obtain ⟨x, hx1, hx2⟩ := Option.map_eq_some_iff.1 hxi
    obtain ⟨y, z⟩ := x
    simp only at hx2
    subst hx2
    have := Lib.cells_of_tab Tryd.underlying127 Tryd.underlying5 (by kernel_rfl) (by kernel_rfl) (h1.trans hx1)
    rw [this]
    simp
  have hlt : 1 < W.heap.size := by
    have h2 := hv1
    simp only [World.var?, gOrd, Option.bind_some] at h2
    by_cases hh : 1 < W.heap.size
    · exact hh
    · rw [Array.getElem?_eq_none (by omega)] at h2
      cases h2
  refine ⟨hlt, ⟨t, hb0⟩, fun i hi j hj => ?_⟩
  rw [World.var?_cell gOrd hv1]
  have h3 := congrArg (fun l => l[j]?) (hrow i hi)
  simp only [List.getElem?_take, List.getElem?_drop, if_pos hj] at h3
  rw [← Array.getElem?_toList, h3]
  have := order_len i
  simp [gt, this, hj]
theorem laid_door (os : Os) (args : Array Value) : laidMetH Tryd.prog laid2 ((World.doorLaid Tryd.prog 400 os).forCall (fun _ _ => 0) ⟨#[], args, []⟩).memory :=
  laidMetH_of_parts3 (fuel := 8) (laidMet_of_run' 8 (by kernel_rfl) (by kernel_rfl)) (by kernel_rfl) (by kernel_rfl)
end Go.Proofs.YtbndegkgpoemnaaDoor
end

section
namespace Go.Proofs.YtbndegkgpoemnaaDoor
open Go.RowKit
set_option linter.unusedVariables false
set_option linter.unusedSimpArgs false

theorem keyedL_len8 (k p : List Nat) : (keyedL k p).length = 32 := outL_len _
theorem eqK8 (k q : List Nat) (w : World) : (binOp .eql 39 (.agg (Bs (keyedL k q)).toArray) (.agg (Bs (keyedL k q)).toArray)).run Tryd.prog w = .ok (.bool true) w := by
  rw [run_eql_hash w _ _ (keyedL_len8 _ _) (keyedL_len8 _ _)]
  simp
theorem guardH8 (op : BinOp) (x y : Operand) (xs ys : Array Value) (w : World) : (eqGuard op 39 x y (.agg xs) (.agg ys)).run Tryd.prog w = .ok () w :=
  run_eqGuard_agg w op _ x y xs ys (by kernel_rfl)
/-- What a call's digest is made of. -/
def sumT (c : Cl) : List Nat := if okC 3 c then layT c else []
theorem numsL_lt8 (l : List Int) : ∀ c ∈ numsL l, c < 256 := by
  induction l with
  | nil => simp [numsL]
  | cons n l ih =>
    intro c hc
    rw [numsL, List.mem_append] at hc
    exact hc.elim (numL_lt _ c) (ih c)
mutual
theorem layT_lt8 : ∀ (c : Cl), ∀ b ∈ layT c, b < 256
  | .mk k t n l => by
    intro b hb
    rw [layT, List.mem_append] at hb
    exact hb.elim (numsL_lt8 _ b) (laysT_lt8 l b)
theorem laysT_lt8 : ∀ (l : List Cl), ∀ b ∈ laysT l, b < 256
  | [] => by intro b hb; simp [laysT] at hb
  | c :: l => by
    intro b hb
    rw [laysT, List.mem_append] at hb
    exact hb.elim (rowL_lt _ (layT_lt8 c) b) (laysT_lt8 l b)
end
theorem sumT_lt (c : Cl) : ∀ b ∈ sumT c, b < 256 := by
  unfold sumT
  split
  · exact layT_lt8 c
  · intro b hb; cases hb
theorem sumT_len (c : Cl) : (sumT c).length ≤ 3816 := by
  unfold sumT
  split
  · rename_i h; exact okC3_len h
  · simp
theorem code_EncodeCallT (d : Nat) (c : Cl) (v : Value) (w : World) (hrd : RdC w d v c) : Calls Tryd.prog 6 #[v] w fun e w' => ∃ (u : Value) (q : Int), e = .returned (.tuple #[u, .int .i64 q]) ∧ OwnB w.heap.size u (Bs (sumT c)) w' ∧ Below w.heap.size w w' := (code_EncodeCall d c v w hrd).mono fun e w' ⟨u, h1, h2⟩ => ⟨u, _, h1, h2⟩
set_option maxRecDepth 100000 in
set_option maxHeartbeats 8000000 in
theorem code_Sum (d : Nat) (c : Cl) (v : Value) (w : World) (hG : Glob w) (hrd : RdC w d v c) : Calls Tryd.prog 14 #[v] w fun e w' => e = .returned (.agg (Bs (keyedL [] (sumT c))).toArray) ∧ Below w.heap.size w w' := by
  obtain ⟨d', ao, cap, -, rfl, -⟩ := hrd.open
  obtain ⟨k, hk⟩ : ∃ k, k = c.k := ⟨_, rfl⟩
  obtain ⟨t, ht⟩ : ∃ t, t = c.t := ⟨_, rfl⟩
  obtain ⟨n, hn⟩ : ∃ n, n = c.n := ⟨_, rfl⟩
  obtain ⟨m, hm⟩ : ∃ m, m = c.kids.length := ⟨_, rfl⟩
  rw [← hk, ← ht, ← hn, ← hm] at hrd ⊢
  have hout : (keyedL [] (sumT c)).length = 32 := outL_len _
  have hb256 := sumT_lt c
  have hslen := sumT_len c
  obtain ⟨X, hX⟩ : ∃ X, X = sumT c := ⟨_, rfl⟩
  obtain ⟨O, hO⟩ : ∃ O, O = keyedL [] (sumT c) := ⟨_, rfl⟩
  rw [← hO] at hout ⊢
  obtain ⟨w1, hw1⟩ : ∃ w1, w1 = w.alloc (.cells #[.int .i64 k, .int .i64 t, .int .i64 n, .slice ao m cap] 24) := ⟨_, rfl⟩
  have hB1 : Below w.heap.size w w1 := by rw [hw1]; exact (Below.refl _ w).alloc (Nat.le_refl _) _
  have hrg1 : w1.rangeAt w.heap.size 0 [.int .i64 k, .int .i64 t, .int .i64 n, .slice ao m cap] := by rw [hw1]; exact rangeAt_new _
  obtain ⟨wz, hwz⟩ : ∃ wz, wz = w1.alloc (.cells #[.int .u8 0, .int .u8 0, .int .u8 0, .int .u8 0, .int .u8 0, .int .u8 0, .int .u8 0, .int .u8 0, .int .u8 0, .int .u8 0, .int .u8 0, .int .u8 0, .int .u8 0, .int .u8 0, .int .u8 0, .int .u8 0, .int .u8 0, .int .u8 0, .int .u8 0, .int .u8 0, .int .u8 0, .int .u8 0, .int .u8 0, .int .u8 0, .int .u8 0, .int .u8 0, .int .u8 0, .int .u8 0, .int .u8 0, .int .u8 0, .int .u8 0, .int .u8 0] 39) := ⟨_, rfl⟩
  have HWZ := Lib.hid (And.intro hw1 hwz)
  have hwz2 := hwz
  rw [zero32] at hwz2
  obtain ⟨ob, hob⟩ : ∃ ob, ob = w.heap.size + 1 := ⟨_, rfl⟩
  have hs1 : w1.heap.size = w.heap.size + 1 := by rw [hw1]; simp
  have hzb : wz.heap[ob]? = some (.cells (Bs (List.replicate 32 0)).toArray 39 (0, 0)) := by rw [hwz2, hob, ← hs1]; exact heap_alloc_new w1 _
  have hzB1 : Below w1.heap.size w1 wz := by rw [hwz]; exact (Below.refl _ _).alloc (Nat.le_refl _) _
  have hzB : Below w.heap.size w wz := hB1.trans (hzB1.mono hB1.size)
  have hzs : ob < wz.heap.size := by rw [hob, hwz]; simp [hs1]
  have hrgz := rangeAt_keep hrg1 (hzB1.block w.heap.size (by omega))
  have he := code_EncodeCallT d c _ wz (RdC.below hzB hrd)
  rw [← hX] at he hb256 hslen
  have HE := Lib.hid he
  have HZ0 := Lib.hid (And.intro hzb (And.intro hzB (And.intro hzs hrgz)))
  have HGZ := Lib.hid (hG.below hzB hG.lt)
  have HO := Lib.hid (show O = keyedL [] X by rw [hO, hX])
  have HOUT := Lib.hid (And.intro hout (And.intro hb256 hslen))
  have hob1 : w.heap.size ≤ ob := by omega
  have HOB := Lib.hid (And.intro hob hob1)
  clear hk ht hn hm hrd hG hout hb256 hslen hX hO hB1 hrg1 hwz2 hs1 hzb hzB1 hzB hzs hrgz he hw1 hwz hob1 hob
  go_enter Tryd.func14, Tryd.ntmps14
  go_upto_region 1 with fail
  rw [← HWZ.out.1, ← HWZ.out.2, ← HOB.out.1]
  go_wp2_with (first
    | (refine wpl_loadC _ rfl rfl rfl HZ0.out.2.2.2 rfl ?_)
    | (go_at_call 6; refine HE.out.mono ?_; rintro e w3 ⟨u, er, rfl, ho, hb⟩; obtain ⟨a6, c6, hv6⟩ := ho.reads.lenOf; obtain ⟨z, hz⟩ : ∃ z, z = X.length := ⟨_, rfl⟩; rw [← hz] at hv6; subst hv6; have HU := Lib.hid (rdBB_oneC (T := 25) ho.reads); have hb4 := hb.alloc hb.size (.cells #[.slice a6 z c6] 25); have HG4 := Lib.hid (HGZ.out.below hb4 HGZ.out.lt); have H4 := Lib.hid hb4; clear hz ho hb hb4)
    | (go_at_call 29; refine (blake_Sum _ [X] _ HG4.out HU.out (by intro l hl; rw [List.mem_singleton.1 hl]; exact HOUT.out.2.1) (by simp; have := HOUT.out.2.2; omega) (by simp)).mono ?_; rw [show ([X] : List (List Nat)).flatten = X from List.append_nil X, ← HO.out]; rintro e wM ⟨rfl, hM⟩; have hM2 := H4.out.trans (hM.mono H4.out.size); have hz : wM.heap[ob]? = some (.cells (Bs (List.replicate 32 0)).toArray 39 (0, 0)) := (hM2.block _ HZ0.out.2.2.1).trans HZ0.out.1; have HM := Lib.hid hM2; have HZ := Lib.hid hz; clear hM hM2 hz)
    | (refine wpl_store ob 39 39 _ _ (Bs (List.replicate 32 0)).toArray (Bs O).toArray rfl rfl rfl rfl HZ.out (by rw [infoH, Bs_size, HOUT.out.1]) (by rw [Bs_size, Bs_size, HOUT.out.1]; rfl) (Bs_all _) ?_)
    | fail)
  refine bodyPost_ret (results_row (b := ob) (t := 39) Tryd.results14 rfl (setRow_heap wM ob _ _ _ _ HZ.out) Tryd.underlying39 rfl (by rw [infoH, Bs_size, HOUT.out.1])) rfl ⟨rfl, ?_⟩
  exact setRow_below (HZ0.out.2.1.trans (HM.out.mono HZ0.out.2.1.size)) HOB.out.2
set_option maxRecDepth 100000 in
set_option maxHeartbeats 8000000 in
theorem codeSums_walk (v : Value) (c : Cl) (d : Nat) (w : World) (hG : Glob w) (hrd : RdC w d v c) (hlen : LenC c) : Calls Tryd.prog 4 #[v] w fun e w' => e = .returned (.bool true) ∧ Below w.heap.size w w' := by
  obtain ⟨d', ao, cap, -, rfl, -⟩ := hrd.open
  obtain ⟨k, hk⟩ : ∃ k, k = c.k := ⟨_, rfl⟩
  obtain ⟨t, ht⟩ : ∃ t, t = c.t := ⟨_, rfl⟩
  obtain ⟨n, hn⟩ : ∃ n, n = c.n := ⟨_, rfl⟩
  obtain ⟨m, hm⟩ : ∃ m, m = c.kids.length := ⟨_, rfl⟩
  rw [← hk, ← ht, ← hn, ← hm] at hrd ⊢
  obtain ⟨w1, hw1⟩ : ∃ w1, w1 = w.alloc (.cells #[.int .i64 k, .int .i64 t, .int .i64 n, .slice ao m cap] 24) := ⟨_, rfl⟩
  obtain ⟨cb, hcb⟩ : ∃ cb, cb = w.heap.size := ⟨_, rfl⟩
  have hB1 : Below w.heap.size w w1 := by rw [hw1]; exact (Below.refl _ w).alloc (Nat.le_refl _) _
  have hrg1 : w1.rangeAt cb 0 [.int .i64 k, .int .i64 t, .int .i64 n, .slice ao m cap] := by rw [hw1, hcb]; exact rangeAt_new _
  have hcl : cb < w1.heap.size := by rw [hw1, hcb]; simp
  have hrd1 := RdC.below hB1 hrd
  have hsz := law_size d c _ w1 hrd1 hlen
  have henc := fun W2 (hb : Below w1.heap.size w1 W2) => code_EncodeCallT d c _ W2 (RdC.below hb hrd1)
  have hsum := fun W2 (hb : Below w1.heap.size w1 W2) => code_Sum d c _ W2 (hG.below (hB1.trans (hb.mono hB1.size)) hG.lt) (RdC.below hb hrd1)
  have hrgs := fun W2 (hb : Below w1.heap.size w1 W2) => rangeAt_keep hrg1 (hb.block cb hcl)
  have hb256 := sumT_lt c
  have hslen := sumT_len c
  have RE := eqK8 [] (sumT c)
  obtain ⟨X, hX⟩ : ∃ X, X = sumT c := ⟨_, rfl⟩
  rw [← hX] at henc hsum hb256 hslen RE
  have RG := guardH8
  have HW := Lib.hid (And.intro hw1 hcb)
  have HS := Lib.hid (And.intro hsz (And.intro henc hsum))
  have HRG := Lib.hid hrgs
  have HB1 := Lib.hid hB1
  have HG1 := Lib.hid (hG.below hB1 hG.lt)
  have HXX := Lib.hid (And.intro hb256 hslen)
  have B0 := Lib.hid (Below.refl w1.heap.size w1)
  clear hk ht hn hm hrd hlen hw1 hcb hB1 hrg1 hcl hrd1 hsz henc hsum hrgs hb256 hslen hX hG
  go_enter Tryd.func4, Tryd.ntmps4
  go_upto_region 1 with fail
  rw [← HW.out.1, ← HW.out.2]
  go_upto_if 7 with (first
    | (refine wpl_loadC _ rfl rfl rfl (HRG.out _ B0.out) rfl ?_)
    | (go_at_call 5; refine HS.out.1.mono ?_; rintro e w2 ⟨⟨r, rfl⟩, hb⟩; have H2 := Lib.hid hb; clear hb)
    | fail)
  by_cases hr : 300 ≤ r
  · go_wp2_with fail
    exact bodyPost_ret (v := .bool true) (by simp [results, Tryd.results4, go_sem]) rfl ⟨rfl, HB1.out.trans (H2.out.mono HB1.out.size)⟩
  · clear B0
    go_wp2_with (first
      | (go_at_call 6; refine (HS.out.2.1 _ H2.out).mono ?_; rintro e w3 ⟨u, er, rfl, ho, hb⟩; have H3 := Lib.hid (H2.out.trans (hb.mono H2.out.size)); have HO := Lib.hid ho.reads; clear ho hb H2)
      | (go_at_call 14; refine (HS.out.2.2 _ H3.out).mono ?_; rintro e w4 ⟨rfl, hb⟩; have H4 := Lib.hid (H3.out.trans (hb.mono H3.out.size)); have HO4 := Lib.hid (HO.out.below hb); clear hb H3)
      | (go_at_call 17; refine (ref_Sum _ X _ HO4.out HXX.out.1 (by have := HXX.out.2; omega)).mono ?_; rintro e w5 ⟨rfl, hb⟩; have H5 := Lib.hid (H4.out.trans (hb.mono H4.out.size)); clear hb)
      | (go_at_call 16; refine (law_known _).mono ?_; rintro e w9 ⟨rfl, hb⟩; have H9 := Lib.hid (H5.out.trans (hb.mono H5.out.size)); clear hb)
      | (first | (refine wpl_loadC _ rfl rfl rfl (HRG.out _ H2.out) rfl ?_) | (refine wpl_loadC _ rfl rfl rfl (HRG.out _ H3.out) rfl ?_))
      | fail)
    go_ret
    exact ⟨rfl, HB1.out.trans (H9.out.mono HB1.out.size)⟩
end Go.Proofs.YtbndegkgpoemnaaDoor
end
