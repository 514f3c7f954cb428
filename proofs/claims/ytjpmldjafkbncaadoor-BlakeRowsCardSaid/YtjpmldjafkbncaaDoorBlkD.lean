/-
  The code's hasher ends.
-/
import Derived.Test.YtjpmldjafkbncaaDoorBlkC
namespace Go.Proofs.YtjpmldjafkbncaaDoor
open Go.RowKit
set_option linter.unusedVariables false
set_option linter.unusedSimpArgs false

theorem wpl_clear {ops : Array Oper} {rest : List Oper} {o : Oper} {a : Act} {Q : Exit → Act → World → Prop} {w : World} (x : Operand) (b k n c : Nat) (cur : Array Value) (t : TypeId) (hgd : o.guard = none) (ho : o.op = .call { callee := .builtin .clear, args := #[x], argTypes := #[22] })
    (hx : a.eval x = .slice (some ⟨b, k, none⟩) n c) (hh : w.heap[b]? = some (.cells cur t (0, 0))) (hfit : 0 < n → k + n ≤ cur.size)
    (h : ∀ w', (0 < n → w' = w.setRow b (cur.toList.take k ++ Bs (List.replicate n 0) ++ cur.toList.drop (k + n)).toArray) → (n = 0 → w' = w) → wpList Tryd.prog ops Q rest (a.put o.dst (.tuple #[])) w') : wpList Tryd.prog ops Q (o :: rest) a w := by
  obtain ⟨i0, hi, hz0, hz1, hz2⟩ := info_parts info5
  refine wpList_plain hgd fun K hK => ?_
  unfold Oper.wp execOp
  by_cases h0 : n = 0
  · subst h0
    have hr : (Builtin.clear_ #[22] o.type #[.slice (some ⟨b, k, none⟩) 0 c]).run Tryd.prog w = .ok (.tuple #[]) w := by
      simp [Builtin.clear_, run_underlying Tryd.underlying22]
    simp only [ho, resolve, invoke, builtin, Sem.run_bind, Sem.run_pure, Result.andThen_ok, List.map_toArray, List.map_cons, List.map_nil, hx, hr]
    exact hK _ _ (h w (fun h => by omega) (fun _ => rfl))
  · have hst := run_storeCells_at Tryd.prog b k t (Bs (List.replicate n 0)) 0 cur w hh (by rw [Bs_length, List.length_replicate]; have := hfit (by omega); omega) (Bs_one _)
    simp only [Nat.add_zero] at hst
    have hzc : (Builtin.zeroCells #[.int .u8 0] n).toList = Bs (List.replicate n 0) := by
      rw [zeroCells_one]; simp [Bs]
    have hr : (Builtin.clear_ #[22] o.type #[.slice (some ⟨b, k, none⟩) n c]).run Tryd.prog w = .ok (.tuple #[]) (w.setRow b (cur.toList.take k ++ Bs (List.replicate n 0) ++ cur.toList.drop (k + (Bs (List.replicate n 0)).length)).toArray) := by
      match n, h0 with
      | m + 1, _ =>
        simp only [Builtin.clear_]
        simp [run_underlying Tryd.underlying22, zeroValue, typeInfo, hi, hz0]
        have e : (Value.int IntKind.u8 0).cells = #[.int .u8 0] := rfl
        rw [e, hzc, hst]
        simp [Result.andThen, List.append_assoc]
    simp only [ho, resolve, invoke, builtin, Sem.run_bind, Sem.run_pure, Result.andThen_ok, List.map_toArray, List.map_cons, List.map_nil, hx, hr]
    refine hK _ _ (h _ (fun _ => by rw [Bs_length, List.length_replicate]) (fun e => absurd e h0))

/-- The frame of the end. -/
structure FE (w : World) (b : Nat) (h : List Nat) (rb : Nat) (wr : World) : Prop where
  zb : wr.heap[rb]? = some (.cells (Bs (List.replicate 32 0)).toArray 24 (0, 0))
  hx : ∃ blk held count, HX b h blk held count wr
  n1 : b < rb
  n2 : w.heap.size ≤ rb
  old : w.grownBy wr (some b)

theorem FE.set {w wr : World} {b rb ob : Nat} {h : List Nat} (f : FE w b h rb wr) (ho : rb < ob) (i : Nat) (v : Value) : FE w b h rb (wr.setCell ⟨ob, i, none⟩ v) := by
  obtain ⟨blk, held, count, hx⟩ := f.hx
  have h1 := f.n1
  have h2 := f.n2
  exact ⟨(set_other (by simp only; omega)).trans f.zb, ⟨blk, held, count, hx.keep (set_other (by simp only; omega))⟩, f.n1, f.n2, grown_set f.old (.inr (by omega))⟩

set_option maxHeartbeats 8000000 in
set_option maxRecDepth 100000 in
theorem blake_end (b : Nat) (h0 A h blk : List Nat) (held count : Nat) (w : World) (hG : Glob w) (hx : HX b h blk held count w) (hb2 : 2 ≤ b) (hi : Inv h0 A h blk held count) (hl : A.length ≤ 1000000000) :
    Calls Tryd.prog 17 #[.pointer (some ⟨b, 0, none⟩)] w fun e w' => e = .returned (.agg (Bs (outL (chainL h0 A 0))).toArray) ∧ w.grownBy w' (some b) := by
  have hh := hi.1
  have hcnt := hi.2.1
  have hblt := hx.lt
  obtain ⟨Z, hZ⟩ : ∃ Z, Z = List.replicate (128 - held) 0 := ⟨_, rfl⟩
  have hZl : Z.length = 128 - held := by rw [hZ]; simp
  have hpad : laidAt blk Z held = padL (blk.take held) := by
    have := hx.bl
    unfold laidAt padL
    rw [hZl, List.drop_of_length_le (by omega), List.append_nil, hZ, List.length_take, this, Nat.min_eq_left hh]
  have hfin : chainL h0 A 0 = blockL h (wordsL (laidAt blk Z held)) (count + held) true := by
    have := hi.2.2 []
    have hb := hx.bl
    simp only [List.append_nil] at this
    rw [this, chainL_last (rest := blk.take held) (by rw [List.length_take]; omega), hpad, List.length_take, hb, Nat.min_eq_left hh]
  obtain ⟨H9, hH9⟩ : ∃ H9, H9 = chainL h0 A 0 := ⟨_, rfl⟩
  rw [← hH9] at hfin ⊢
  have hZs : ∀ i, gt Z i < 256 := fun i => by rw [hZ, gt_zeros]; decide
  have HX0 := Lib.hid hx
  have HG0 := Lib.hid hG
  have HZL := Lib.hid hZl
  have HZ := Lib.hid hZ
  have HZS := Lib.hid hZs
  have HFIN := Lib.hid hfin
  have h9l : H9.length = 8 := by rw [hfin]; exact blockL_len _ _ _ _
  have H9L := Lib.hid h9l
  clear hx hG hZl hZ hpad hfin hi hZs hH9 h9l
  go_enter Tryd.func17, Tryd.ntmps17
  go_upto_region 1 with fail
  obtain ⟨w1, hw1⟩ : ∃ w1, w1 = w.alloc (.cells #[.int .u8 0, .int .u8 0, .int .u8 0, .int .u8 0, .int .u8 0, .int .u8 0, .int .u8 0, .int .u8 0, .int .u8 0, .int .u8 0, .int .u8 0, .int .u8 0, .int .u8 0, .int .u8 0, .int .u8 0, .int .u8 0, .int .u8 0, .int .u8 0, .int .u8 0, .int .u8 0, .int .u8 0, .int .u8 0, .int .u8 0, .int .u8 0, .int .u8 0, .int .u8 0, .int .u8 0, .int .u8 0, .int .u8 0, .int .u8 0, .int .u8 0, .int .u8 0] 24) := ⟨_, rfl⟩
  rw [← hw1]
  rw [zero32] at hw1
  have hx1 : HX b h blk held count w1 := by rw [hw1]; exact HX0.out.keep (Below.heap_alloc _ _ _ hblt)
  have hG1 : Glob w1 := by rw [hw1]; exact HG0.out.of (by simp) (fun k hk => Below.heap_alloc _ _ _ (Nat.lt_of_lt_of_le hk HG0.out.lt))
  have hz1 : w1.heap[w.heap.size]? = some (.cells (Bs (List.replicate 32 0)).toArray 24 (0, 0)) := by rw [hw1]; exact heap_alloc_new w _
  have hg1 : w.grownBy w1 (some b) := by rw [hw1]; exact World.grownBy_alloc w _ _
  have k1 := hx1.held
  have HX1 := Lib.hid hx1
  have HG1 := Lib.hid hG1
  have HZ1 := Lib.hid hz1
  have HGR1 := Lib.hid hg1
  have hhi : (held : Int) ≤ 128 := by omega
  clear hx1 hG1 hz1 hg1 hw1
  go_still_tail 8, (by kernel_rfl)
  change wpList _ _ _ _ _ w1.drew
  refine wpl_clear _ b (if 128 = held then 8 else 8 + held) (128 - held) (128 - held) (hcells h blk held count).toArray 41 rfl rfl (by
    show Value.slice (some (if 128 = held then (⟨b, 8, none⟩ : Addr) else ⟨b, 8 + held, none⟩)) (128 - held) (128 - held) = _
    split <;> rfl) HX1.out.at_ (fun hp => by
    rw [if_neg (by omega)]
    simp only [List.size_toArray, hcells, List.length_append, List.length_map, HX1.out.hl, Bs_length, HX1.out.bl, List.length_cons, List.length_nil]; omega) ?_
  intro w2 hw2a hw2b
  generalize hsa : (if 128 = held then (⟨b, 8, none⟩ : Addr) else ⟨b, 8 + held, none⟩) = sa
  clear hsa
  have hx2 : HX b h (laidAt blk Z held) held count w2 ∧ w1.grownBy w2 (some b) ∧ w2.heap.size = w1.heap.size := by
    by_cases hp : 0 < 128 - held
    · have e := hw2a hp
      rw [if_neg (by omega)] at e
      have hxd : HX b h blk held count w1.drew := HX1.out.keep rfl
      have hs := hxd.splice (q := Z) (by rw [HZL.out]; omega) HZS.out
      have e2 : Bs (List.replicate (128 - held) 0) = Bs Z := by rw [HZ.out]
      rw [e2] at e
      have e3 : (Bs Z).length = 128 - held := by rw [Bs_length, HZL.out]
      rw [e3] at hs
      rw [e]
      exact ⟨hs, ⟨rfl, rfl, rfl, by simp, fun k hk hr => setRow_other _ b k _ (fun e => hr (by rw [e]))⟩, by simp⟩
    · have e := hw2b (by omega)
      have hz : Z = [] := List.length_eq_zero_iff.1 (by rw [HZL.out]; omega)
      have e2 : laidAt blk Z held = blk := by
        have := HX1.out.bl
        rw [hz]; unfold laidAt
        simp only [List.length_nil, Nat.add_zero, List.append_nil, List.take_append_drop]
      rw [e, e2]
      exact ⟨HX1.out.keep rfl, ⟨rfl, rfl, rfl, Nat.le_refl _, fun _ _ _ => rfl⟩, rfl⟩
  obtain ⟨hx2, hg2, hs2⟩ := hx2
  have HX2 := Lib.hid hx2
  have HG2 := Lib.hid hg2
  have hG2 : Glob w2 := HG1.out.grown hg2 (fun k hk => by cases hk; exact hb2)
  have HGG2 := Lib.hid hG2
  have hct : count ≤ 1099511627776 := by omega
  clear hw2a hw2b hx2 hg2 hG2 k1
  go_upto_region 4 with (first | (go_at_call 20; refine (blake_mixBlock b h (laidAt blk Z held) held count true w2 HGG2.out HX2.out hb2 hh hct).mono ?_; rintro e wM ⟨rfl, hM, hMg, hMG⟩; rw [← HFIN.out] at hM; have HM := Lib.hid hM; have HMG := Lib.hid hMg; clear hM hMg hMG) | fail)
  obtain ⟨w4, hw4⟩ : ∃ w4, w4 = wM.alloc (.cells #[.int .u8 0, .int .u8 0, .int .u8 0, .int .u8 0, .int .u8 0, .int .u8 0, .int .u8 0, .int .u8 0, .int .u8 0, .int .u8 0, .int .u8 0, .int .u8 0, .int .u8 0, .int .u8 0, .int .u8 0, .int .u8 0, .int .u8 0, .int .u8 0, .int .u8 0, .int .u8 0, .int .u8 0, .int .u8 0, .int .u8 0, .int .u8 0, .int .u8 0, .int .u8 0, .int .u8 0, .int .u8 0, .int .u8 0, .int .u8 0, .int .u8 0, .int .u8 0] 24) := ⟨_, rfl⟩
  rw [← hw4]
  rw [zero32] at hw4
  have hsM := HMG.out.size
  have hs1 := HGR1.out.size
  have hr1 := (Array.getElem?_eq_some_iff.1 HZ1.out).1
  have hFE : FE w b H9 w.heap.size w4 := by
    have hm := HMG.out
    have h2 := HG2.out
    have h1 := HGR1.out
    have hg := grown_trans (grown_trans h1 h2) hm
    have hMsz := hm.size
    rw [hw4]
    refine ⟨(Below.heap_alloc _ _ _ (by omega)).trans ((hm.block _ (by omega) (by simp; omega)).trans ((h2.block _ (by omega) (by simp; omega)).trans HZ1.out)), ⟨_, _, _, HM.out.keep (Below.heap_alloc _ _ _ HM.out.lt)⟩, hblt, Nat.le_refl _, ⟨hg.os, hg.tape, hg.output, by simp; have := hg.size; omega, fun k hk hr => (Below.heap_alloc _ _ _ (Nat.lt_of_lt_of_le hk hg.size)).trans (hg.block k hk hr)⟩⟩
  obtain ⟨ob, hob⟩ : ∃ ob, ob = wM.heap.size := ⟨_, rfl⟩
  have hO : w4.heap[ob]? = some (.cells (Bs (outTo H9 0)).toArray 24 (0, 0)) := by rw [outTo_zero, hw4, hob]; exact heap_alloc_new wM _
  rw [← hob]
  have hrob : w.heap.size < ob := by omega
  have HFE := Lib.hid hFE
  have HO := Lib.hid hO
  clear hFE hO hw4 hob
  go_wp2
  go_loopw [15] (fun i wr => ∃ n : Nat, n ≤ 32 ∧ i = .int .i64 n ∧ FE w b H9 w.heap.size wr ∧ wr.heap[ob]? = some (.cells (Bs (outTo H9 n)).toArray 24 (0, 0))) (fun i _ => 32 - (intOf i).toNat)
  case atStart => exact ⟨0, by omega, rfl, HFE.out, HO.out⟩
  case round =>
    obtain ⟨t, ht, rfl, hF, hO⟩ := hrel
    by_cases htl : t < 32
    · obtain ⟨blk', held', count', hx⟩ := hF.hx
      have hc1 := hx.h (i := t / 8) (by omega)
      obtain ⟨s8, hs8⟩ : ∃ s8, s8 = 8 * (t % 8) := ⟨_, rfl⟩
      have W5 : IntKind.i64.wrap ((t : Int).tmod 8 * 8) = (s8 : Int) := by
        rw [Int.tmod_eq_emod_of_nonneg (by omega), IntWalk.i64_in _ (by omega)]; omega
      have hs64 : (s8 : Int) < 64 := by omega
      have htl' : (t : Int) < 32 := by omega
      have hcO : wr.cell? ⟨ob, t, none⟩ = some (.int .u8 (gt (outTo H9 t) t : Nat)) := by simp [World.cell?, hO, Bs, gt, outTo, htl]
      have hfO : wr.frozen? ⟨ob, t, none⟩ = false := by simp [World.frozen?, hO]
      have HO := Lib.hid hO
      have HF := Lib.hid hF
      have HS8 := Lib.hid hs8
      clear hO hF hx hs8
      go_wp2
      have eV : ((gt H9 (t / 8) : Nat) : Int) / 2 ^ (t % 8 * 8) % 256 = ((gt H9 (t / 8) / 2 ^ (8 * (t % 8)) % 256 : Nat) : Int) := by
        rw [Nat.mul_comm 8]; norm_cast
      rw [eV]
      refine ⟨⟨t + 1, by omega, by go_num, HF.out.set hrob _ _, ?_⟩, by simp [intOf]; omega⟩
      rw [outTo_succ _ _ htl]
      exact (set_block _ HO.out).trans (by rw [Bs_set])
    · have ht32 : t = 32 := by omega
      subst ht32
      rw [outTo_all] at hO
      have HF := Lib.hid hF
      have HO := Lib.hid hO
      have hlen := outL_len H9
      have HLEN := Lib.hid hlen
      clear hO hF hlen
      go_wp2_with (first | (refine wpl_load ob 24 24 _ (Bs (outL H9)).toArray (0, 0) _ rfl rfl rfl HO.out Tryd.underlying24 rfl (by rw [infoH, Bs_size, HLEN.out]) ?_) | (refine wpl_store w.heap.size 24 24 _ _ (Bs (List.replicate 32 0)).toArray (Bs (outL H9)).toArray rfl rfl rfl rfl HF.out.zb (by rw [infoH, Bs_size, HLEN.out]) (by rw [Bs_size, Bs_size, HLEN.out]; rfl) (Bs_all _) ?_) | fail)
      refine bodyPost_ret (results_row (b := w.heap.size) (t := 24) Tryd.results17 rfl (setRow_heap wr w.heap.size _ _ _ _ HF.out.zb) Tryd.underlying24 rfl (by rw [infoH, Bs_size, HLEN.out])) rfl ⟨rfl, ?_⟩
      have g := HF.out.old
      exact ⟨g.os, g.tape, g.output, by simp; exact g.size, fun k hk hr => (setRow_other _ _ k _ (by omega)).trans (g.block k hk hr)⟩
end Go.Proofs.YtjpmldjafkbncaaDoor
