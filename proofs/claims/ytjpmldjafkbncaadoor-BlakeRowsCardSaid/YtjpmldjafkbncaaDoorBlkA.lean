/-
  The code's block.
-/
import Derived.Test.YtjpmldjafkbncaaDoorBlk9
import Derived.BigRegion
import Derived.RegionTactic
import Derived.Deep.DeepCutAuto
import Derived.StillTailTactics
namespace Go.Proofs.YtjpmldjafkbncaaDoor
open Go.RowKit
set_option linter.unusedVariables false
set_option linter.unusedSimpArgs false

theorem info128 : (Tryd.prog.info? 39).map (·.size) = some 128 := by kernel_rfl

theorem or_word (x c k : Nat) (hx : x < 256 ^ k) (hc : c < 256) (hk : k < 8) : bits .or .u64 (x : Int) (IntKind.u64.wrap ((c : Int) * 2 ^ (8 * k))) = ((x + 256 ^ k * c : Nat) : Int) := by
  have e : (256 : Nat) ^ k = 2 ^ (8 * k) := by rw [Nat.pow_mul]
  have h64 : (2 : Nat) ^ (8 * k) ≤ 2 ^ 56 := Nat.pow_le_pow_right (by decide) (by omega)
  have hm : c * 2 ^ (8 * k) ≤ 255 * 2 ^ 56 := Nat.mul_le_mul (by omega) h64
  have h2 : IntKind.u64.wrap ((c : Int) * 2 ^ (8 * k)) = ((c * 2 ^ (8 * k) : Nat) : Int) := by
    rw [IntKind.wrap_u64, show (c : Int) * 2 ^ (8 * k) = ((c * 2 ^ (8 * k) : Nat) : Int) by norm_cast]
    generalize c * 2 ^ (8 * k) = y at hm ⊢
    omega
  rw [e] at hx
  rw [h2, bits_or_u64_nat _ _ (by omega) (by omega), e]
  have := Nat.two_pow_add_eq_or_of_lt (i := 8 * k) (b := x) hx c
  congr 1
  rw [Nat.or_comm, Nat.mul_comm c, ← this, Nat.add_comm]

theorem wpl_loadm {ops : Array Oper} {rest : List Oper} {o : Oper} {a : Act} {Q : Exit → Act → World → Prop} {w : World} (b k : Nat) (ty : TypeId) (x : Operand) (cs : List Value) (d : TypeDesc) (hgd : o.guard = none) (ho : o.op = .load ty x) (hx : a.eval x = .pointer (some ⟨b, k, none⟩)) (hc : w.rangeAt b k cs)
    (hu : Tryd.prog.underlying ty = some d) (hd : d.isRow = true) (hi : (Tryd.prog.info? ty).map (·.size) = some cs.length) (h : wpList Tryd.prog ops Q rest (a.put o.dst (.agg cs.toArray)) w) : wpList Tryd.prog ops Q (o :: rest) a w := by
  refine wpList_plain hgd fun K hK => ?_
  unfold Oper.wp execOp
  simp only [ho, hx, Sem.run_bind, Sem.run_pure, run_loadAt_mid w b k ty cs d hc hu hd hi, Result.andThen_ok]
  exact hK _ _ h

theorem idx_bytes (T : TypeId) (N : Nat) (hT : Tryd.prog.underlying T = some (.array N 5)) (l : List Nat) (n : Nat) (hn : n < N) (hl : n < l.length) (w : World) : (Instr.index T (.agg (Bs l).toArray) (.int .i64 (n : Nat))).run Tryd.prog w = .ok (.int .u8 (gt l n : Nat)) w := by
  obtain ⟨i0, hi, hz0, hz1, hz2⟩ := info_parts info5
  have hn' : (n : Int) < (N : Int) := by omega
  have hc : (Bs l)[n]? = some (.int .u8 (gt l n : Nat)) := by simp [Bs, gt, hl]
  have hu := Tryd.underlying5
  simp [Instr.index, asIntOf, run_underlying hT, part, isAgg, run_underlying hu, sizeOf, typeInfo, hi, hz1, hn, hc]

/-- The frame while m is made. -/
structure FA (w : World) (b mb vb : Nat) (h blk : List Nat) (held count : Nat) (m v : List Nat) (wr : World) : Prop where
  hx : HX b h blk held count wr
  mx : WBox 54 mb m wr
  vx : WBox 54 vb v wr
  ml : m.length = 16
  vl : v.length = 16
  n1 : b < mb
  n2 : mb < vb
  n3 : 2 ≤ b
  gl : Glob wr
  old : w.grownBy wr (some b)
  nw : w.heap.size ≤ mb

theorem Glob.cell {w : World} (h : Glob w) {i : Nat} (hi : i < 8) : w.cell? ⟨0, i, none⟩ = some (.int .u64 (gt beginL i : Nat)) := by
  have : i < beginL.length := by simp [beginL]; exact hi
  obtain ⟨t, ht⟩ := h.beg
  simp [World.cell?, ht, Ws, this, gt]
theorem FA.round {w wr w' : World} {b mb vb : Nat} {h blk : List Nat} {held count : Nat} {m v v' : List Nat} (f : FA w b mb vb h blk held count m v wr) (hv : WBox 54 vb v' w') (hg : wr.grownBy w' (some vb)) (hl : v'.length = 16) : FA w b mb vb h blk held count m v' w' := by
  have n1 := f.n1
  have n2 := f.n2
  have n3 := f.n3
  have nw := f.nw
  have l1 := f.hx.lt
  have l2 := f.mx.lt
  have ho := f.old
  refine ⟨f.hx.keep (hg.block _ l1 (by simp; omega)), f.mx.keep' (hg.block _ l2 (by simp; omega)), hv, f.ml, hl, n1, n2, n3, f.gl.grown hg (fun k hk => by cases hk; omega), ⟨hg.os.trans ho.os, hg.tape.trans ho.tape, hg.output.trans ho.output, Nat.le_trans ho.size hg.size, fun k hk hr => (hg.block k (Nat.lt_of_lt_of_le hk ho.size) (by simp; omega)).trans (ho.block k hk hr)⟩, nw⟩
theorem grown_set {w wr : World} {b c i : Nat} {v : Value} (h : w.grownBy wr (some b)) (hc : c = b ∨ w.heap.size ≤ c) : w.grownBy (wr.setCell ⟨c, i, none⟩ v) (some b) :=
  ⟨h.os, h.tape, h.output, by have := h.size; simp; omega, fun k hk hr => (set_other (by
    rcases hc with e | e
    · subst e; exact fun e => hr (by rw [e])
    · simp only; omega)).trans (h.block k hk hr)⟩
theorem grown_drew {w wr : World} {r : Option Nat} (h : w.grownBy wr r) : w.grownBy wr.drew r := ⟨h.os, h.tape, h.output, h.size, h.block⟩
theorem Glob.setc {w : World} {c i : Nat} {v : Value} (h : Glob w) (hc : 2 ≤ c) : Glob (w.setCell ⟨c, i, none⟩ v) := h.of (by simp) (fun k hk => set_other (by simp only; omega))
theorem FA.setm {w wr : World} {b mb vb : Nat} {h blk : List Nat} {held count : Nat} {m v : List Nat} (f : FA w b mb vb h blk held count m v wr) (i : Nat) {x : Nat} (hx : x < 18446744073709551616) : FA w b mb vb h blk held count (m.set i x) v (wr.setCell ⟨mb, i, none⟩ (.int .u64 (x : Nat))) := by
  have n1 := f.n1
  have n2 := f.n2
  have n3 := f.n3
  exact ⟨f.hx.keep (set_other (by simp only; omega)), f.mx.set i hx, f.vx.keep' (set_other (by simp only; omega)), by simp [f.ml], f.vl, n1, n2, n3, f.gl.setc (by omega), grown_set f.old (.inr f.nw), f.nw⟩
theorem FA.setv {w wr : World} {b mb vb : Nat} {h blk : List Nat} {held count : Nat} {m v : List Nat} (f : FA w b mb vb h blk held count m v wr) (i : Nat) {x : Nat} (hx : x < 18446744073709551616) : FA w b mb vb h blk held count m (v.set i x) (wr.setCell ⟨vb, i, none⟩ (.int .u64 (x : Nat))) := by
  have n1 := f.n1
  have n2 := f.n2
  have n3 := f.n3
  have nw := f.nw
  exact ⟨f.hx.keep (set_other (by simp only; omega)), f.mx.keep' (set_other (by simp only; omega)), f.vx.set i hx, f.ml, by simp [f.vl], n1, n2, n3, f.gl.setc (by omega), grown_set f.old (.inr (by omega)), nw⟩
theorem FA.seth {w wr : World} {b mb vb : Nat} {h blk : List Nat} {held count : Nat} {m v : List Nat} (f : FA w b mb vb h blk held count m v wr) (i : Nat) (hi : i < 8) {x : Nat} (hx : x < 18446744073709551616) : FA w b mb vb (h.set i x) blk held count m v (wr.setCell ⟨b, i, none⟩ (.int .u64 (x : Nat))) := by
  have n1 := f.n1
  have n2 := f.n2
  exact ⟨f.hx.setH i hi hx, f.mx.keep' (set_other (by simp only; omega)), f.vx.keep' (set_other (by simp only; omega)), f.ml, f.vl, n1, n2, f.n3, f.gl.setc f.n3, grown_set f.old (.inl rfl), f.nw⟩
theorem FA.drew {w wr : World} {b mb vb : Nat} {h blk : List Nat} {held count : Nat} {m v : List Nat} (f : FA w b mb vb h blk held count m v wr) : FA w b mb vb h blk held count m v wr.drew :=
  ⟨f.hx.keep rfl, f.mx.keep' rfl, f.vx.keep' rfl, f.ml, f.vl, f.n1, f.n2, f.n3, f.gl.of (Nat.le_refl _) (fun _ _ => rfl), grown_drew f.old, f.nw⟩

set_option maxHeartbeats 8000000 in
set_option maxRecDepth 100000 in
theorem blake_mixBlock (b : Nat) (h8 blk : List Nat) (held count : Nat) (last : Bool) (w : World) (hG : Glob w) (hx : HX b h8 blk held count w) (hb2 : 2 ≤ b) (hheld : held ≤ 128) (hcount : count ≤ 1099511627776) :
    Calls Tryd.prog 20 #[.pointer (some ⟨b, 0, none⟩), .bool last] w fun e w' => e = .returned (.tuple #[]) ∧ HX b (blockL h8 (wordsL blk) (count + held) last) blk held (count + held) w' ∧ w.grownBy w' (some b) ∧ Glob w' := by
  have k0 := hx.count
  have k1 := hx.held
  have k2 := hx.frozen 137
  have hblt := hx.lt
  have W1 : IntKind.u64.wrap ((held : Nat) : Int) = ((held : Nat) : Int) := by rw [IntKind.wrap_u64]; omega
  have W2 : IntKind.u64.wrap (((count : Nat) : Int) + ((held : Nat) : Int)) = ((count + held : Nat) : Int) := by rw [IntKind.wrap_u64]; omega
  have HXX := Lib.hid hx
  have HGG := Lib.hid hG
  clear hx hG
  go_enter Tryd.func20, Tryd.ntmps20
  go_wp2
  go_still_tail 12, (by kernel_rfl)
  go_upto_region 2 with fail
  obtain ⟨w1, hw1⟩ : ∃ w1, w1 = w.setCell ⟨b, 137, none⟩ (.int .u64 ((count + held : Nat) : Int)) := ⟨_, rfl⟩
  have hct : ((count : Nat) : Int) + ((held : Nat) : Int) = ((count + held : Nat) : Int) := by omega
  have hz16 : (#[.int .u64 0, .int .u64 0, .int .u64 0, .int .u64 0, .int .u64 0, .int .u64 0, .int .u64 0, .int .u64 0, .int .u64 0, .int .u64 0, .int .u64 0, .int .u64 0, .int .u64 0, .int .u64 0, .int .u64 0, .int .u64 0] : Array Value) = Ws (List.replicate 16 0) := rfl
  rw [hct, hz16, ← hw1]
  obtain ⟨w2, hw2⟩ : ∃ w2, w2 = ((w1.alloc (.cells (Ws (List.replicate 16 0)) 54)).alloc (.cells (Ws (List.replicate 16 0)) 54)).drew := ⟨_, rfl⟩
  rw [← hw2]
  have hFA : FA w b w.heap.size (w.heap.size + 1) h8 blk held (count + held) (List.replicate 16 0) (List.replicate 16 0) w2 := by
    have hs1 : w1.heap.size = w.heap.size := by rw [hw1]; simp
    have hx1 : HX b h8 blk held (count + held) w1 := by rw [hw1]; exact HXX.out.setCount _
    have hg1 : Glob w1 := by rw [hw1]; exact HGG.out.setc hb2
    have hgr : w.grownBy w1 (some b) := by rw [hw1]; exact grown_set ⟨rfl, rfl, rfl, Nat.le_refl _, fun _ _ _ => rfl⟩ (.inl rfl)
    have hk : ∀ k, k < w.heap.size → w2.heap[k]? = w1.heap[k]? := fun k hk => by
      rw [hw2]
      exact (Below.heap_alloc _ _ _ (by simp; omega)).trans (Below.heap_alloc _ _ _ (by omega))
    refine ⟨hx1.keep (hk b hblt), ⟨?_, small_zeros 16⟩, ⟨?_, small_zeros 16⟩, rfl, rfl, hblt, by omega, hb2, hg1.of (by rw [hw2]; simp; omega) (fun k hk2 => hk k (by omega)), ⟨?_, ?_, ?_, ?_, fun k hk2 hr => (hk k hk2).trans (hgr.block k hk2 hr)⟩, Nat.le_refl _⟩
    · rw [hw2]
      refine (Below.heap_alloc _ _ _ (by simp; omega)).trans ?_
      have := heap_alloc_new w1 (.cells (Ws (List.replicate 16 0)) 54)
      rwa [hs1] at this
    · rw [hw2]
      have := heap_alloc_new (w1.alloc (.cells (Ws (List.replicate 16 0)) 54)) (.cells (Ws (List.replicate 16 0)) 54)
      rw [World.size_alloc, hs1] at this
      exact this
    · rw [hw2]; exact hgr.os
    · rw [hw2]; exact hgr.tape
    · rw [hw2]; exact hgr.output
    · rw [hw2]; simp; omega
  obtain ⟨mb, hmb⟩ : ∃ mb, mb = w.heap.size := ⟨_, rfl⟩
  obtain ⟨vb, hvb⟩ : ∃ vb, vb = w.heap.size + 1 := ⟨_, rfl⟩
  rw [← hvb, ← hmb] at hFA ⊢
  have HFA := Lib.hid hFA
  have HC := Lib.hid (show count + held ≤ 1099511627904 by omega)
  obtain ⟨ct, hct2⟩ : ∃ ct, ct = count + held := ⟨_, rfl⟩
  rw [← hct2] at HFA HC ⊢
  have HCT := Lib.hid hct2
  clear hFA hw1 hw2 hz16 hct k0 k1 k2 W1 W2 hblt hcount hmb hvb hct2
  go_upto_region 3 with (first | (refine wpl_loadm b 8 39 _ (Bs blk) _ rfl rfl rfl HFA.out.hx.range Tryd.underlying39 rfl (by rw [info128, Bs_length, HFA.out.hx.bl]) ?_) | fail)
  go_wp2
  go_loopw [27] (fun i wr => ∃ n : Nat, n ≤ 128 ∧ i = .int .i64 n ∧ FA w b mb vb h8 blk held ct (mTo blk n) (List.replicate 16 0) wr) (fun i _ => 128 - (intOf i).toNat)
  case atStart => exact ⟨0, by omega, rfl, by rw [mTo_zero]; exact HFA.out⟩
  case round =>
    obtain ⟨n, hn, rfl, hF⟩ := hrel
    by_cases hlt : n < 128
    · have hlt' : (n : Int) < 128 := by omega
      have hby := hF.hx.bs n
      have hsm := mTo_small hF.hx.bs n hlt
      have W3 : IntKind.u64.wrap ((gt blk n : Nat) : Int) = ((gt blk n : Nat) : Int) := by rw [IntKind.wrap_u64]; omega
      have hE := idx_bytes 39 128 Tryd.underlying39 blk n hlt (by rw [hF.hx.bl]; exact hlt)
      have hX : gt (mTo blk n) (n / 8) + 256 ^ (n % 8) * gt blk n < 18446744073709551616 := by
        have h1 : 256 ^ (n % 8) ≤ 256 ^ 7 := Nat.pow_le_pow_right (by decide) (by omega)
        have h2 : 256 ^ (n % 8) * gt blk n ≤ 256 ^ 7 * 255 := Nat.mul_le_mul h1 (by omega)
        have h3 : 256 ^ (n % 8) ≤ 72057594037927936 := h1
        have h4 : 256 ^ (n % 8) * gt blk n ≤ 18374686479671623680 := h2
        omega
      have hn2 := (hF.setm (n / 8) hX).drew
      rw [← mTo_succ blk n hlt] at hn2
      obtain ⟨q, hq⟩ : ∃ q, q = n / 8 := ⟨_, rfl⟩
      obtain ⟨r, hr⟩ : ∃ r, r = n % 8 := ⟨_, rfl⟩
      have W4 : IntKind.i64.wrap ((n : Int) / 8) = (q : Int) := by rw [IntWalk.i64_in _ (by omega)]; omega
      have hq16 : (q : Int) < 16 := by omega
      rw [← hq, ← hr] at hX hn2
      rw [← hq, ← hr] at hsm
      have c1 := hF.mx.cell (i := q) (by rw [mTo_len]; omega)
      have f1 := hF.mx.frozen q
      have O1 := or_word (gt (mTo blk n) q) (gt blk n) r hsm hby (by omega)
      obtain ⟨s8, hs8⟩ : ∃ s8, s8 = 8 * r := ⟨_, rfl⟩
      rw [← hs8] at O1
      have W5 : IntKind.i64.wrap ((n : Int).tmod 8 * 8) = (s8 : Int) := by
        rw [Int.tmod_eq_emod_of_nonneg (by omega), IntWalk.i64_in _ (by omega)]; omega
      have hs64 : (s8 : Int) < 64 := by omega
      obtain ⟨Y, hY⟩ : ∃ Y, Y = gt (mTo blk n) q + 256 ^ r * gt blk n := ⟨_, rfl⟩
      rw [← hY] at O1 hn2
      have HN := Lib.hid hn2
      clear hF hsm hby hX hn2 hq hr hs8 hY
      go_wp2
      go_still_tail 12, (by kernel_rfl)
      go_wp2
      exact ⟨⟨n + 1, by omega, by go_num, HN.out⟩, by simp [intOf]; omega⟩
    · have hn128 : n = 128 := by omega
      subst hn128
      rw [show ((128 : Nat) : Int) = 128 from rfl]
      rw [mTo_all] at hF
      have HF := Lib.hid hF
      clear hF
      go_wp2
      go_loopw [44] (fun i wr => ∃ n : Nat, n ≤ 8 ∧ i = .int .i64 n ∧ ∃ v, FA w b mb vb h8 blk held ct (wordsL blk) v wr ∧ Laid h8 v n) (fun i _ => 8 - (intOf i).toNat)
      case atStart => exact ⟨0, by omega, rfl, _, HF.out, fun t ht => by omega⟩
      case round =>
        obtain ⟨n, hn, rfl, v, hF, hM⟩ := hrel
        by_cases hlt : n < 8
        · have hlt' : (n : Int) < 8 := by omega
          have hlt2 : (n : Int) < 16 := by omega
          obtain ⟨n8, hn8⟩ : ∃ n8, n8 = n + 8 := ⟨_, rfl⟩
          have W1 : IntKind.i64.wrap ((n : Int) + 8) = (n8 : Int) := by rw [IntWalk.i64_in _ (by omega)]; omega
          have hlt3 : (n8 : Int) < 16 := by omega
          have c1 := hF.hx.h hlt
          have c2 := hF.gl.cell hlt
          have c3 := hF.vx.cell (i := n) (by rw [hF.vl]; omega)
          have c4 := hF.vx.cell (i := n8) (by rw [hF.vl]; omega)
          have f1 := hF.vx.frozen n
          have f2 := hF.vx.frozen n8
          have hne : (n8 = n) = False := by simp; omega
          have hne2 : (n = n8) = False := by simp; omega
          have HN := Lib.hid ((hF.setv n (hF.hx.hs n)).setv n8 (beginL_small n)).drew
          have HL8 : Laid h8 ((v.set n (gt h8 n)).set n8 (gt beginL n)) (n + 1) := by
            have hvl := hF.vl
            intro t ht
            by_cases e : t = n
            · subst e
              subst hn8
              exact ⟨by rw [gt_set_ne (by omega), gt_set_same (by omega)], gt_set_same (by simp; omega)⟩
            · have := hM t (by omega)
              rw [gt_set_ne (by omega), gt_set_ne (by omega), gt_set_ne (by omega), gt_set_ne (by omega)]
              exact this
          have HL9 := Lib.hid HL8
          clear hF hM HL8 hn8
          go_wp2
          go_region
          go_wp2
          exact ⟨⟨n + 1, by omega, by go_num, _, HN.out, HL9.out⟩, by simp [intOf]; omega⟩
        · have hn8 : n = 8 := by omega
          subst hn8
          rw [show ((8 : Nat) : Int) = 8 from rfl]
          have hh := hF.hx.hl
          have hv : v = h8 ++ beginL := by
            refine ext_gt (by rw [hF.vl]; simp [hh, beginL]) fun i hi => ?_
            rw [hF.vl] at hi
            by_cases h8' : i < 8
            · rw [gt_append_l (by omega)]; exact (hM i h8').1
            · rw [gt_append_r (by omega), hh]
              have := (hM (i - 8) (by omega)).2
              rwa [show i - 8 + 8 = i by omega] at this
          rw [hv] at hF
          have c12 := hF.vx.cell (i := 12) (by rw [hF.vl]; omega)
          have f12 := hF.vx.frozen 12
          have s12 := hF.vx.small 12
          have cct := hF.hx.count
          obtain ⟨g, hg⟩ : ∃ g, g = gt (h8 ++ beginL) 12 := ⟨_, rfl⟩
          rw [← hg] at c12 s12
          have hctl := HC.out
          have W2 : bits .xor .u64 (g : Int) (ct : Int) = ((g ^^^ ct : Nat) : Int) := bits_xor_u64_nat _ _ s12 (by omega)
          have hF2 := (hF.setv 12 (x := g ^^^ ct) (Nat.xor_lt_two_pow (n := 64) s12 (by omega))).drew
          have HF := Lib.hid hF2
          have HG := Lib.hid hg
          have c14 := hF2.vx.cell (i := 14) (by rw [hF2.vl]; omega)
          have f14 := hF2.vx.frozen 14
          have s14 := hF2.vx.small 14
          clear hF hM hv hg s12
          obtain ⟨v1, hv1⟩ : ∃ v1, v1 = (h8 ++ beginL).set 12 (g ^^^ ct) := ⟨_, rfl⟩
          rw [← hv1] at HF c14 s14
          have N1 := not64 (gt v1 14) s14
          have hV : startL h8 ct last = (if last then v1.set 14 (18446744073709551615 - gt v1 14) else v1) := by rw [hv1, HG.out]; rfl
          have HV := Lib.hid hV
          have s14' : 18446744073709551615 - gt v1 14 < 18446744073709551616 := by omega
          have HS14 := Lib.hid s14'
          obtain ⟨V, hVV⟩ : ∃ V, V = startL h8 ct last := ⟨_, rfl⟩
          have HVV := Lib.hid hVV
          obtain ⟨wS, hwS⟩ : ∃ wS, wS = (wr.setCell ⟨vb, 12, none⟩ (.int .u64 (g ^^^ ct : Nat))).drew := ⟨_, rfl⟩
          rw [← hwS] at HF c14 f14
          have HWS := Lib.hid hwS
          have HH8 := Lib.hid hh
          clear hV hv1 s14 s14' hF2 hh hctl hwS hVV
          go_wp2_with fail
          go_still_tail 8, (by kernel_rfl)
          go_upto_if 70 with fail
          rw [← HWS.out]
          go_cut [5] (fun q wx => q = .pointer (some ⟨vb, 0, none⟩) ∧ FA w b mb vb h8 blk held ct (wordsL blk) V wx)
          case first =>
            clear c12 f12 cct W2
            cases last
            all_goals go_wp2_with fail
            all_goals go_meet
            all_goals first
              | (have HS1 := HF.out
                 rw [show v1 = V by rw [HVV.out]; exact HV.out.symm] at HS1
                 exact ⟨rfl, HS1⟩)
              | (have HS1 := HF.out.setv 14 HS14.out
                 rw [show v1.set 14 (18446744073709551615 - gt v1 14) = V by rw [HVV.out]; exact HV.out.symm] at HS1
                 exact ⟨rfl, HS1⟩)
          case rest =>
          have HS1 := Lib.hid hcut.2
          have hp5 := hcut.1
          subst hp5
          clear hcut c12 f12 cct W2 c14 f14 N1
          go_wp2_with fail
          go_loopw [75] (fun i wr => ∃ n : Nat, n ≤ 12 ∧ i = .int .i64 n ∧ FA w b mb vb h8 blk held ct (wordsL blk) (roundsL (wordsL blk) n V) wr) (fun i _ => 12 - (intOf i).toNat)
          case atStart => exact ⟨0, by omega, rfl, HS1.out⟩
          case round =>
            obtain ⟨n, hn, rfl, hF⟩ := hrel
            by_cases hlt : n < 12
            · have hlt' : (n : Int) < 12 := by omega
              have hmod : ((n : Int)).tmod 10 = ((n % 10 : Nat) : Int) := by rw [Int.tmod_eq_emod_of_nonneg (by omega)]; omega
              obtain ⟨row, hrow⟩ : ∃ row, row = n % 10 := ⟨_, rfl⟩
              rw [← hrow] at hmod
              have hrl : row < 10 := by omega
              have hstep : roundsL (wordsL blk) (n + 1) V = roundL (wordsL blk) (orderL row) (roundsL (wordsL blk) n V) := by rw [hrow]; rfl
              obtain ⟨u, hu⟩ : ∃ u, u = roundsL (wordsL blk) n V := ⟨_, rfl⟩
              rw [← hu] at hF hstep
              have hul := hF.vl
              have HF := Lib.hid hF
              have HST := Lib.hid hstep
              have HRL := Lib.hid hrl
              clear hF hstep hu hrow hrl
              go_wp2_with (first | (go_at_call 24; refine (blake_round vb mb row u (wordsL blk) _ HF.out.gl HF.out.vx HF.out.mx HF.out.vl HF.out.ml HRL.out (by have := HF.out.n2; omega)).mono ?_; rintro e wM ⟨rfl, hM1, hM2⟩) | fail)
              refine ⟨⟨n + 1, by omega, by go_num, ?_⟩, by simp [intOf]; omega⟩
              rw [HST.out]
              exact HF.out.round hM1 hM2 (by rw [roundL, diaL_len, colL_len]; exact hul)
            · have hn12 : n = 12 := by omega
              subst hn12
              rw [show ((12 : Nat) : Int) = 12 from rfl]
              obtain ⟨v, hv⟩ : ∃ v, v = roundsL (wordsL blk) 12 V := ⟨_, rfl⟩
              rw [← hv] at hF
              have hfold : blockL h8 (wordsL blk) ct last = foldL h8 v := by rw [hv, HVV.out]; rfl
              have HFO := Lib.hid hfold
              have HF := Lib.hid hF
              clear hF hv hfold
              go_wp2
              go_loopw [82] (fun i wr => ∃ n : Nat, n ≤ 8 ∧ i = .int .i64 n ∧ ∃ x, FA w b mb vb x blk held ct (wordsL blk) v wr ∧ Folded h8 v x n) (fun i _ => 8 - (intOf i).toNat)
              case atStart => exact ⟨0, by omega, rfl, h8, HF.out, fun t ht => by omega, fun t _ => rfl⟩
              case round =>
                obtain ⟨n, hn, rfl, x, hF, hM⟩ := hrel
                by_cases hlt : n < 8
                · have hlt' : (n : Int) < 8 := by omega
                  have hlt2 : (n : Int) < 16 := by omega
                  obtain ⟨n8, hn8⟩ : ∃ n8, n8 = n + 8 := ⟨_, rfl⟩
                  have W1 : IntKind.i64.wrap ((n : Int) + 8) = (n8 : Int) := by rw [IntWalk.i64_in _ (by omega)]; omega
                  have hlt3 : (n8 : Int) < 16 := by omega
                  have hxl := hF.hx.hl
                  have c1 := hF.hx.h hlt
                  have f1 := hF.hx.frozen n
                  have c3 := hF.vx.cell (i := n) (by rw [hF.vl]; omega)
                  have c4 := hF.vx.cell (i := n8) (by rw [hF.vl]; omega)
                  have s1 := hF.hx.hs n
                  have s2 := hF.vx.small n
                  have s3 := hF.vx.small n8
                  have s23 := Nat.xor_lt_two_pow (n := 64) s2 s3
                  have X1 := bits_xor_u64_nat _ _ s2 s3
                  have X2 := bits_xor_u64_nat _ _ s1 s23
                  have s123 := Nat.xor_lt_two_pow (n := 64) s1 s23
                  have HN := Lib.hid (hF.seth n hlt s123).drew
                  have hM2 : Folded h8 v (x.set n (gt x n ^^^ (gt v n ^^^ gt v n8))) (n + 1) := by
                    refine ⟨fun t ht => ?_, fun t ht => ?_⟩
                    · by_cases e : t = n
                      · subst e; rw [gt_set_same (by omega), hM.2 t (Nat.le_refl _), hn8, Nat.xor_assoc]
                      · rw [gt_set_ne (by omega)]; exact hM.1 t (by omega)
                    · rw [gt_set_ne (by omega)]; exact hM.2 t (by omega)
                  have HM2 := Lib.hid hM2
                  clear hF hM hM2 hxl hn8 s1 s2 s3 s23 s123
                  go_wp2
                  go_still_tail 18, (by kernel_rfl)
                  go_wp2
                  exact ⟨⟨n + 1, by omega, by go_num, _, HN.out, HM2.out⟩, by simp [intOf]; omega⟩
                · have hn8 : n = 8 := by omega
                  subst hn8
                  have hx : x = foldL h8 v := by
                    refine ext_gt (by rw [hF.hx.hl]; simp [foldL]) fun i hi => ?_
                    rw [hF.hx.hl] at hi
                    rw [hM.1 i hi, foldL, gt_map_range hi]
                  rw [← HFO.out] at hx
                  rw [hx] at hF
                  have HF := Lib.hid hF
                  clear hF hx hM
                  go_wp2
                  refine bodyPost_end (v := .tuple #[]) (by simp [results, Tryd.results20, go_sem]) rfl ⟨rfl, ?_, HF.out.old, HF.out.gl⟩
                  have := HF.out.hx
                  rw [HCT.out] at this
                  exact this
end Go.Proofs.YtjpmldjafkbncaaDoor
