/-
  Joined texts.
-/
import Derived.Deep.DeepCutAuto
import Derived.Deep.CutBlock
import Derived.Test.YtcfcfijmfgnpfaaGreatDoorMge

section
namespace Go.Proofs.YtcfcfijmfgnpfaaGreatDoor
open Go.RowKit
set_option linter.unusedVariables false
set_option linter.unusedSimpArgs false

theorem infoH : (Tryz.prog.info? 41).map (·.size) = some 32 := by kernel_rfl
theorem info8 : (Tryz.prog.info? 140).map (·.size) = some 8 := by kernel_rfl

theorem asZeros (l : List Nat) (m : Nat) : Bs (l ++ List.replicate m 0) = Bs l ++ List.replicate m (.int .u8 0) := by simp [Bs]
/-- 'append(v, make([]byte, m)...)'. -/
theorem wp_app_Z {w : World} {ops : Array Oper} {rest : List Oper} {o : Oper} {a : Act} {Q : Exit → Act → World → Prop} {s x : Operand} {B : Nat} {v : Value} {xs : List Nat} {m : Nat} (hgd : o.guard = none)
    (ho : o.op = .call { callee := .builtin .append, args := #[s, x], argTypes := #[75, 3] }) (hs : a.eval s = v) (hx : a.eval x = .int .i64 (m : Nat))
    (hown : OwnB B v (Bs xs) w) (hm : m ≤ 1000) (hlen : xs.length + m ≤ 1099511627776) (hB : B ≤ w.heap.size)
    (h : ∀ v' w', OwnB B v' (Bs (xs ++ List.replicate m 0)) w' → Below B w w' → B ≤ w'.heap.size → w.grownBy w' v.ownBlock → wpList Tryz.prog ops Q rest (a.put o.dst v') w') : wpList Tryz.prog ops Q (o :: rest) a w := by
  obtain ⟨i0, hi, hz0, hz1, hz2⟩ := info_parts info5
  obtain ⟨v', w', hr, h1, h2⟩ := run_app_zeros (P := Tryz.prog) w B 75 3 o.type 5 i0 (.int .u8 0) (.int .u8 0) Tryz.underlying75 Tryz.underlying3 hi hz0 hz1 hz2 rfl rfl v _ _ hown m hm (by rw [Bs_length]; exact hlen) hB
  refine wpList_plain hgd fun K hK => ?_
  unfold Oper.wp execOp
  simp only [ho, resolve, invoke, builtin, Sem.run_bind, Sem.run_pure, Result.andThen_ok, List.map_toArray, List.map_cons, List.map_nil, hs, hx, hr]
  refine hK _ _ (h v' w' ?_ ((Below.refl _ _).grown h2 hB (fun k hk => (World.ownsRow.lt hown k hk).1)) (Nat.le_trans hB h2.size) h2)
  unfold OwnB
  rw [asZeros, List.length_append, List.length_replicate]; exact h1

theorem OwnB.of {S S' : Nat} {v : Value} {l : List Value} {w w' : World} (h : OwnB S v l w) (hS : S' ≤ S) (hk : ∀ k, v.ownBlock = some k → w'.heap[k]? = w.heap[k]?) : OwnB S' v l w' := by
  refine ⟨h.1, ?_⟩
  rcases h.2 with h | ⟨g, cap, cur, h1, h2, h3, h4⟩
  · exact .inl h
  · exact .inr ⟨g, cap, cur, h1, Nat.le_trans hS h2, (hk g (by rw [h1]; rfl)).trans h3, h4⟩
theorem rd_empty {w : World} {a : Addr} {n cap : Nat} (h : n = 0) : RdB w (.slice (some a) n cap) [] := by
  subst h; exact .inr ⟨a, cap, rfl, Nat.zero_le _, fun i hi => by simp at hi⟩
theorem Ws_size (l : List Nat) : (Ws l).size = l.length := by simp [Ws]
theorem Ws_one (l : List Nat) : (Ws l).all (·.oneCell') = true := by
  rw [Array.all_eq_true_iff_forall_mem]
  intro v hv
  simp [Ws] at hv
  obtain ⟨n, -, rfl⟩ := hv
  rfl
theorem ref_block8 (h8 l : List Nat) (blk off cap count : Nat) (last : Bool) (w : World) (hh : h8.length = 8) (hs : Small h8) (hl : l.length = 128) (hr : Bytes w blk off l) (hcap : 128 ≤ cap) (hc : count < 9223372036854775808) :
    Calls Tryz.prog 80 #[.agg #[.int .u64 (gt h8 0 : Nat), .int .u64 (gt h8 1 : Nat), .int .u64 (gt h8 2 : Nat), .int .u64 (gt h8 3 : Nat), .int .u64 (gt h8 4 : Nat), .int .u64 (gt h8 5 : Nat), .int .u64 (gt h8 6 : Nat), .int .u64 (gt h8 7 : Nat)], .slice (some ⟨blk, off, none⟩) 128 cap, .int .i64 (count : Nat), .bool last] w fun e w' => e = .returned (.agg (Ws (blockL h8 (wordsL l) count last))) ∧ Below w.heap.size w w' := by
  have := ref_block h8 l blk off cap count last w hh hs hl hr hcap hc
  simp only [vec8, Ws8 h8 hh] at this
  exact this
theorem zero32 : (#[.int .u8 0, .int .u8 0, .int .u8 0, .int .u8 0, .int .u8 0, .int .u8 0, .int .u8 0, .int .u8 0, .int .u8 0, .int .u8 0, .int .u8 0, .int .u8 0, .int .u8 0, .int .u8 0, .int .u8 0, .int .u8 0, .int .u8 0, .int .u8 0, .int .u8 0, .int .u8 0, .int .u8 0, .int .u8 0, .int .u8 0, .int .u8 0, .int .u8 0, .int .u8 0, .int .u8 0, .int .u8 0, .int .u8 0, .int .u8 0, .int .u8 0, .int .u8 0] : Array Value) = (Bs (List.replicate 32 0)).toArray := rfl
/-- The first n bytes of the digest. -/
def outTo (h : List Nat) (n : Nat) : List Nat := (List.range 32).map fun i => if i < n then gt h (i / 8) / 2 ^ (8 * (i % 8)) % 256 else 0
theorem outTo_all (h : List Nat) : outTo h 32 = outL h := by
  unfold outTo outL
  refine List.map_congr_left fun i hi => ?_
  rw [if_pos (List.mem_range.1 hi)]
theorem outTo_zero (h : List Nat) : outTo h 0 = List.replicate 32 0 := by
  refine ext_gt (by simp [outTo]) fun i hi => ?_
  rw [gt_zeros, outTo, gt_map_range (by simpa [outTo] using hi), if_neg (by omega)]
theorem outL_len (h : List Nat) : (outL h).length = 32 := by simp [outL]
theorem Bs_size (l : List Nat) : (Bs l).toArray.size = l.length := by simp [Bs]
theorem Bs_all (l : List Nat) : (Bs l).toArray.all (·.oneCell') = true := by
  rw [Array.all_eq_true_iff_forall_mem]
  intro v hv
  exact Bs_one l v (by simpa using hv)
theorem Bs_set (l : List Nat) (i x : Nat) : (Bs l).toArray.setIfInBounds i (.int .u8 (x : Nat)) = (Bs (l.set i x)).toArray := by simp [Bs, List.map_set]
theorem outTo_len (h : List Nat) (n : Nat) : (outTo h n).length = 32 := by simp [outTo]
theorem outTo_succ (h : List Nat) (n : Nat) (hn : n < 32) : outTo h (n + 1) = (outTo h n).set n (gt h (n / 8) / 2 ^ (8 * (n % 8)) % 256) := by
  refine ext_gt (by simp [outTo]) fun i hi => ?_
  rw [outTo_len] at hi
  by_cases e : i = n
  · subst e
    rw [gt_set_same (by rw [outTo_len]; exact hn), outTo, gt_map_range hi, if_pos (by omega)]
  · rw [gt_set_ne (by omega), outTo, outTo, gt_map_range hi, gt_map_range hi]
    have : (i < n + 1) = (i < n) := by simp; omega
    simp only [this]
/-- The frame while the digest's bytes are made. -/
structure F9 (w : World) (c : Nat) (h : List Nat) (wr : World) : Prop where
  zb : wr.heap[w.heap.size]? = some (.cells (Bs (List.replicate 32 0)).toArray 41 (0, 0))
  hb : WBox 140 c h wr
  n : w.heap.size < c
  old : Below w.heap.size w wr
theorem F9.alloc {w wr : World} {c : Nat} {h : List Nat} (f : F9 w c h wr) (o : Obj) : F9 w c h (wr.alloc o) := by
  have h1 := f.hb.lt
  have h2 := f.n
  exact ⟨(Below.heap_alloc _ _ _ (by omega)).trans f.zb, f.hb.keep (Below.heap_alloc _ _ _ h1), f.n, f.old.alloc f.old.size _⟩
theorem F9.set {w wr : World} {c b : Nat} {h : List Nat} (f : F9 w c h wr) (hb : c < b) (i : Nat) (v : Value) : F9 w c h (wr.setCell ⟨b, i, none⟩ v) := by
  have h2 := f.n
  exact ⟨(set_other (by simp only; omega)).trans f.zb, f.hb.keep (set_other (by simp only; omega)), f.n, f.old.setCell (by simp only; omega) _⟩
/-- The frame of the digest: the result's cells, h, all that is hashed. -/
structure F8 (w : World) (c : Nat) (v : Value) (A h : List Nat) (wr : World) : Prop where
  zb : wr.heap[w.heap.size]? = some (.cells (Bs (List.replicate 32 0)).toArray 41 (0, 0))
  hb : WBox 140 c h wr
  ow : OwnB (w.heap.size + 1) v (Bs A) wr
  vlt : ∀ k, v.ownBlock = some k → k < c
  n : w.heap.size < c
  old : Below w.heap.size w wr
theorem initL_len (k : Nat) : (initL k).length = 8 := by simp [initL, beginL]

set_option maxHeartbeats 4000000 in
set_option maxRecDepth 100000 in
theorem ref_Keyed (v u : Value) (key p : List Nat) (w : World) (hk : RdB w v key) (hp : RdB w u p) (bk : ∀ x ∈ key, x < 256) (bp : ∀ x ∈ p, x < 256) (lk : key.length ≤ 1000000) (lp : p.length ≤ 1000000) :
    Calls Tryz.prog 59 #[v, u] w fun e w' => e = .returned (.agg (Bs (keyedL key p)).toArray) ∧ Below w.heap.size w w' := by
  obtain ⟨ao, cap, rfl⟩ := hk.lenOf
  obtain ⟨K, hK⟩ : ∃ K, K = key.take 64 := ⟨_, rfl⟩
  have hKl : K.length = min 64 key.length := by rw [hK]; simp
  have E : (if (key.length : Int) < 64 then (key.length : Int) else 64) = (K.length : Int) := by split <;> omega
  have E2 : min (64 : Int) (key.length : Int) = (K.length : Int) := by omega
  have hrK : RdB w (.slice ao K.length cap) K := by
    cases ao with
    | none => 
      rcases hk with ⟨h1, h2⟩ | ⟨a, c, h1, -⟩
      · injection h1 with h3 h4 h5
        subst h5
        have : K = [] := by rw [hK, h2]; rfl
        subst this
        exact .inl ⟨rfl, rfl⟩
      · cases h1
    | some a =>
      have := rd_take hk (k := K.length) (by omega)
      have e : key.take K.length = K := by
        rw [hKl]
        by_cases h : key.length ≤ 64
        · rw [Nat.min_eq_right h, List.take_length, hK, List.take_of_length_le h]
        · rw [Nat.min_eq_left (by omega), hK]
      rwa [e] at this
  have HK := Lib.hid hrK
  have HP := Lib.hid hp
  have HKe := Lib.hid hK
  have hK64 : (K.length : Int) ≤ 64 := by omega
  have hKcap : K.length ≤ cap := by
    rcases hrK with ⟨h1, h2⟩ | ⟨a, c, h1, h2, -⟩
    · rw [h2]; simp
    · injection h1 with h3 h4 h5; omega
  have hKn : (K.length : Int) ≤ (key.length : Int) := by omega
  have HBK := Lib.hid bk
  have HBP := Lib.hid bp
  have hmin : min 64 key.length = K.length := hKl.symm
  have HKL := Lib.hid hKl
  clear hk hp hK hrK bk bp hKl
  go_enter Tryz.func59, Tryz.ntmps59
  go_upto_if 19 with fail
  obtain ⟨wz, hwz⟩ : ∃ wz, wz = w.alloc (.cells (Bs (List.replicate 32 0)).toArray 41) := ⟨_, rfl⟩
  have hzl : (Bs (List.replicate 32 0)).toArray = #[.int .u8 0, .int .u8 0, .int .u8 0, .int .u8 0, .int .u8 0, .int .u8 0, .int .u8 0, .int .u8 0, .int .u8 0, .int .u8 0, .int .u8 0, .int .u8 0, .int .u8 0, .int .u8 0, .int .u8 0, .int .u8 0, .int .u8 0, .int .u8 0, .int .u8 0, .int .u8 0, .int .u8 0, .int .u8 0, .int .u8 0, .int .u8 0, .int .u8 0, .int .u8 0, .int .u8 0, .int .u8 0, .int .u8 0, .int .u8 0, .int .u8 0, .int .u8 0] := rfl
  rw [← hzl, ← hwz]
  have hzb : wz.heap[w.heap.size]? = some (.cells (Bs (List.replicate 32 0)).toArray 41 (0, 0)) := by rw [hwz]; exact heap_alloc_new w _
  have hzs : wz.heap.size = w.heap.size + 1 := by rw [hwz]; simp
  have hzB : Below w.heap.size w wz := by rw [hwz]; exact (Below.refl _ _).alloc (Nat.le_refl _) _
  have HZB := Lib.hid hzb
  have HZBB := Lib.hid hzB
  obtain ⟨A0, hA0⟩ : ∃ A0, A0 = (if K = [] then [] else K ++ List.replicate (128 - K.length) 0) := ⟨_, rfl⟩
  have HA0 := Lib.hid hA0
  clear hwz hzl hzb hzB hA0
  go_cut [6] (fun a wx => OwnB (w.heap.size + 1) a (Bs A0) wx ∧ Below wz.heap.size wz wx)
  case first =>
    by_cases h0 : K.length = 0
    · have h0' : (K.length : Int) < 1 := by omega
      have hA : A0 = [] := by rw [HA0.out, List.length_eq_zero_iff.1 h0]; rfl
      clear h0
      go_wp2_with fail
      go_meet
      rw [hA]
      exact ⟨World.ownsRow_nil _ _ _ _, Below.refl _ _⟩
    · have h0' : (1 : Int) ≤ (K.length : Int) := by omega
      have hA : A0 = K ++ List.replicate (128 - K.length) 0 := by rw [HA0.out, if_neg (fun e => h0 (by rw [e]; rfl))]
      have W1 : IntKind.i64.wrap (128 - (K.length : Int)) = ((128 - K.length : Nat) : Int) := by rw [IntWalk.i64_in _ (by omega)]; omega
      have HH0 := Lib.hid h0
      clear h0
      go_wp2_with (first | (at_builtin; refine wp_app_B (B := w.heap.size + 1) (xs := []) (l := K) rfl rfl rfl rfl (World.ownsRow_nil _ _ _ _) (HK.out.below (HZBB.out)) (by simp; omega) (by omega) ?_; intro v1 w1 ho1 hb1 hs1 _) | (at_builtin; refine wp_app_Z (B := w.heap.size + 1) (xs := K) (m := 128 - K.length) rfl rfl rfl rfl ho1 (by omega) (by omega) hs1 ?_; intro v2 w2 ho2 hb2 hs2 _) | fail)
      go_meet
      rw [hA]
      exact ⟨ho2, by rw [hzs]; exact hb1.trans hb2⟩
  case rest =>
    obtain ⟨hoA, hbA⟩ := hcut
    have hszA := hbA.size
    have hA0l : A0.length ≤ 128 := by
      rw [HA0.out]
      split
      · simp
      · simp; omega
    have HOA := Lib.hid hoA
    have HBA := Lib.hid hbA
    have E1 : bits .xor .u64 7640891576956012808 16842784 = 7640891576939301160 := by decide
    have E2 : IntKind.u64.wrap ((K.length : Nat) : Int) = ((K.length : Nat) : Int) := by rw [IntKind.wrap_u64]; omega
    have E3 : IntKind.u64.wrap (((K.length : Nat) : Int) * 256) = ((K.length * 256 : Nat) : Int) := by rw [IntKind.wrap_u64]; omega
    obtain ⟨X, hX⟩ : ∃ X, X = 7640891576939301160 ^^^ K.length * 256 := ⟨_, rfl⟩
    have hXl : X < 18446744073709551616 := by rw [hX]; exact Nat.xor_lt_two_pow (n := 64) (by decide) (by omega)
    have E4 : bits .xor .u64 7640891576939301160 ((K.length : Int) * 256) = (X : Int) := by
      rw [hX, show (K.length : Int) * 256 = ((K.length * 256 : Nat) : Int) by omega]
      exact bits_xor_u64_nat 7640891576939301160 _ (by decide) (by omega)
    have HX := Lib.hid hX
    have HXL := Lib.hid hXl
    clear hoA hbA hX hXl
    go_wp2_with (first | (at_builtin; refine wp_app_B (B := w.heap.size + 1) (xs := A0) (l := p) rfl rfl rfl rfl HOA.out (HP.out.below (HZBB.out.trans (HBA.out.mono (by omega)))) (by omega) (by omega) ?_; intro v1 w1 ho1 hb1 hs1 hgr1; clear hgr1; have HO1 := Lib.hid ho1; have HB1 := Lib.hid hb1; have HS1 := Lib.hid hs1; clear ho1 hb1 hs1) | (go_at_call 79; refine (ref_begin _).mono ?_; rintro e wB ⟨rfl, hbB⟩; have HB := Lib.hid hbB; clear hbB) | fail)
    obtain ⟨wC, hwC⟩ : ∃ wC, wC = wB.alloc (.cells (Ws (initL K.length)) 140) := ⟨_, rfl⟩
    have hini : initL K.length = beginL.set 0 X := by rw [HX.out]; rfl
    have hlit : Ws (initL K.length) = #[.int .u64 (X : Nat), .int .u64 13503953896175478587, .int .u64 4354685564936845355, .int .u64 11912009170470909681, .int .u64 5840696475078001361, .int .u64 11170449401992604703, .int .u64 2270897969802886507, .int .u64 6620516959819538809] := by rw [hini]; rfl
    rw [← hlit, ← hwC]
    obtain ⟨A, hA⟩ : ∃ A, A = A0 ++ p := ⟨_, rfl⟩
    have hAl : A.length ≤ 1000128 := by rw [hA, List.length_append]; omega
    rw [← hA] at HO1
    have hF : F8 w wB.heap.size v1 A (initL K.length) wC := by
      have hb1 := HB1.out
      have hb := HB.out
      have ho := HO1.out
      have hs1 := HS1.out
      have hsz := hb.size
      have hbA := HBA.out
      have hk : ∀ k, k < w1.heap.size → wC.heap[k]? = w1.heap[k]? := fun k hk => by
        rw [hwC]; exact (Below.heap_alloc _ _ _ (by omega)).trans (hb.block k hk)
      have hv : ∀ k, v1.ownBlock = some k → k < w1.heap.size := fun k hk => (World.ownsRow.lt ho k hk).2
      refine ⟨?_, ⟨?_, ?_⟩, ?_, fun k hk => by have := hv k hk; omega, by omega, ?_⟩
      · refine (hk _ (by omega)).trans ((hb1.block _ (by omega)).trans ((hbA.block _ (by omega)).trans HZB.out))
      · rw [hwC]; exact heap_alloc_new wB _
      · rw [hini]
        refine Small.set (fun i => ?_) 0 HXL.out
        by_cases hi : i < 8
        · have : ∀ i, i < 8 → gt beginL i < 18446744073709551616 := by decide
          exact this i hi
        · rw [gt_ge (by simp [beginL]; omega)]; decide
      · exact OwnB.of ho (Nat.le_refl _) (fun k h => hk k (hv k h))
      · rw [hwC]
        exact ((HZBB.out.trans (hbA.mono (by omega))).trans ((hb1.mono (by omega)).trans (hb.mono (by omega)))).alloc (by omega) _
    obtain ⟨c, hc⟩ : ∃ c, c = wB.heap.size := ⟨_, rfl⟩
    rw [← hc] at hF ⊢
    have HF := Lib.hid hF
    have HA := Lib.hid hA
    have hsA : ∀ i, gt A i < 256 := fun i => by
      by_cases hi : i < A.length
      · have hx : gt A i ∈ A := by
          have : gt A i = A[i] := by simp [gt, hi]
          rw [this]; exact List.getElem_mem hi
        obtain ⟨y, hy⟩ : ∃ y, y = gt A i := ⟨_, rfl⟩
        rw [← hy] at hx ⊢
        clear hy
        rw [hA, List.mem_append] at hx
        rcases hx with hx | hx
        · rw [HA0.out] at hx
          split at hx
          · cases hx
          · rw [List.mem_append] at hx
            rcases hx with hx | hx
            · rw [HKe.out] at hx; exact HBK.out _ (List.mem_of_mem_take hx)
            · rw [List.eq_of_mem_replicate hx]; decide
        · exact HBP.out _ hx
      · rw [gt_ge (by omega)]; decide
    have HSA := Lib.hid hsA
    clear hF hsA hlit hini hwC HO1 HB HB1 HS1 E1 E2 E3 E4 hc hA
    go_loopw [8] (fun i wr => ∃ n : Nat, n ≤ A.length ∧ i = .int .i64 n ∧ ∃ h, F8 w c v1 A h wr ∧ h.length = 8 ∧ chainL h (A.drop n) n = chainL (initL K.length) A 0) (fun i _ => A.length - (intOf i).toNat)
    case atStart => exact ⟨0, Nat.zero_le _, rfl, _, HF.out, initL_len _, rfl⟩
    case round =>
      obtain ⟨n, hn, rfl, h8, hF, hl8, hch⟩ := hrel
      obtain ⟨ao1, cap1, hv1⟩ := hF.ow.reads.lenOf
      by_cases hlt : 128 < A.length - n
      · obtain ⟨g, cap2, hv2, hg1, hg2, hcap, hcell, -⟩ := own_open hF.ow (by omega)
        subst hv2
        obtain ⟨d, hd⟩ : ∃ d, d = A.length - n := ⟨_, rfl⟩
        obtain ⟨m, hm⟩ : ∃ m, m = n + 128 := ⟨_, rfl⟩
        have W0 : IntKind.i64.wrap ((A.length : Int) - (n : Int)) = (d : Int) := by rw [IntWalk.i64_in _ (by omega)]; omega
        have W1 : IntKind.i64.wrap ((n : Int) + 128) = (m : Int) := by rw [IntWalk.i64_in _ (by omega)]; omega
        have hd2 : (128 : Int) < (d : Int) := by omega
        have hm1 : (n : Int) ≤ (m : Int) := by omega
        have hm2 : (m : Int) ≤ (cap2 : Int) := by omega
        have hm3 : m - n = 128 := by omega
        have hne : (cap2 = n) = False := by simp; omega
        have hBy : Bytes wr g n ((A.drop n).take 128) := by
          refine ⟨hg2, fun i hi => ?_, fun i => ?_⟩
          · have hi' : i < 128 := by simp at hi; omega
            have := hcell (n + i) (by omega)
            rw [add_at, Nat.zero_add] at this
            rw [this, gt_take hi', gt_drop]
            rfl
          · by_cases hi : i < 128
            · rw [gt_take hi, gt_drop]; exact HSA.out _
            · rw [gt_ge (by simp; omega)]; decide
        have hBd : Bytes wr.drew g n ((A.drop n).take 128) := ⟨hBy.lt, hBy.cell, hBy.small⟩
        have HBY := Lib.hid hBd
        have HF := Lib.hid hF
        have HL8 := Lib.hid hl8
        have HCH := Lib.hid hch
        have hcap3 : 128 ≤ cap2 - n := by omega
        have HD := Lib.hid hd
        have HM := Lib.hid hm
        have c0 := hF.hb.cell (i := 0) (by omega)
        have f0 := hF.hb.frozen 0
        have c1 := hF.hb.cell (i := 1) (by omega)
        have f1 := hF.hb.frozen 1
        have c2 := hF.hb.cell (i := 2) (by omega)
        have f2 := hF.hb.frozen 2
        have c3 := hF.hb.cell (i := 3) (by omega)
        have f3 := hF.hb.frozen 3
        have c4 := hF.hb.cell (i := 4) (by omega)
        have f4 := hF.hb.frozen 4
        have c5 := hF.hb.cell (i := 5) (by omega)
        have f5 := hF.hb.frozen 5
        have c6 := hF.hb.cell (i := 6) (by omega)
        have f6 := hF.hb.frozen 6
        have c7 := hF.hb.cell (i := 7) (by omega)
        have f7 := hF.hb.frozen 7
        clear hBy hBd hF hl8 hch hcell hd hm hv1
        go_wp2
        go_still_tail 8, (by kernel_rfl)
        change wpList _ _ _ _ _ wr.drew
        clear c0 c1 c2 c3 c4 c5 c6 c7 f0 f1 f2 f3 f4 f5 f6 f7
        go_wp2_with (first | (go_at_call 80; refine (ref_block8 h8 ((A.drop n).take 128) g n (cap2 - n) m false wr.drew HL8.out HF.out.hb.small (by simp; omega) HBY.out hcap3 (by omega)).mono ?_; rintro e wE ⟨rfl, hbE⟩; have hhE := (hbE.block c HF.out.hb.lt).trans HF.out.hb.at_; have HE := Lib.hid hbE; clear hbE) | (refine wpl_store c 140 140 _ _ (Ws h8) (Ws (blockL h8 (wordsL ((A.drop n).take 128)) m false)) rfl rfl rfl rfl hhE (by rw [info8, Ws_size, blockL_len]) (by rw [Ws_size, Ws_size, blockL_len]; exact HL8.out) (Ws_one _) ?_) | fail)
        refine ⟨⟨m, by omega, by go_num, blockL h8 (wordsL ((A.drop n).take 128)) m false, ?_, blockL_len _ _ _ _, ?_⟩, by simp [intOf]; omega⟩
        · have f := HF.out
          have hb : Below wr.heap.size wr wE := (⟨rfl, rfl, rfl, Nat.le_refl _, fun _ _ => rfl⟩ : Below wr.heap.size wr wr.drew).trans HE.out
          have hlt := f.hb.lt
          refine ⟨?_, ⟨setRow_heap wE c _ _ _ _ hhE, blockL_small _ _ f.hb.small (by omega) _⟩, OwnB.of f.ow (Nat.le_refl _) (fun k hk => ?_), f.vlt, f.n, setRow_below (f.old.trans (hb.mono f.old.size)) (Nat.le_of_lt f.n)⟩
          · exact (setRow_other wE c _ _ (by have := f.n; omega)).trans ((hb.block _ (by have := f.n; omega)).trans f.zb)
          · have h1 := f.vlt k hk
            exact (setRow_other wE c k _ (by omega)).trans (hb.block k (by omega))
        · rw [← HCH.out, chainL_more (rest := A.drop n) (by rw [List.length_drop]; omega), HM.out, List.drop_drop]
      · obtain ⟨d, hd⟩ : ∃ d, d = A.length - n := ⟨_, rfl⟩
        have W0 : IntKind.i64.wrap ((A.length : Int) - (n : Int)) = (d : Int) := by rw [IntWalk.i64_in _ (by omega)]; omega
        have hd2 : (d : Int) ≤ 128 := by omega
        have hnA : (n : Int) ≤ (A.length : Int) := by omega
        subst hv1
        have HF := Lib.hid hF
        have HL8 := Lib.hid hl8
        have HCH := Lib.hid hch
        have HD := Lib.hid hd
        clear hF hl8 hch hd hlt
        go_upto_region 12 with fail
        go_cut [9] (fun e wx => OwnB (c + 1) e (Bs (A.drop n)) wx ∧ Below wr.heap.size wr wx)
        case first =>
          have hlt := HF.out.hb.lt
          have hmade : OwnB wr.heap.size (.slice (some ⟨wr.heap.size, 0, none⟩) 0 0) (Bs []) (wr.alloc (.cells #[] 5)) := World.ownsRow_made wr #[] 0 (Nat.le_refl _) (by decide) rfl
          have hba : Below wr.heap.size wr (wr.alloc (.cells #[] 5)) := (Below.refl _ _).alloc (Nat.le_refl _) _
          have hrd := HF.out.ow.reads
          have HMD := Lib.hid hmade
          have HBA2 := Lib.hid hba
          have hAn : (A.drop n).length = A.length - n := by simp
          clear hmade hba
          cases ao1 with
          | none =>
            have hA0' : A = [] := by
              rcases hrd with ⟨h1, h2⟩ | ⟨a, c', h1, -⟩
              · exact h2
              · cases h1
            have hn0 : n = 0 := by rw [hA0'] at hnA; simpa using hnA
            have hA0n : A.length = 0 := by rw [hA0']; rfl
            have hc0 : cap1 = 0 := by
              rcases hrd with ⟨h1, h2⟩ | ⟨a, c', h1, -⟩
              · injection h1
              · cases h1
            have hs0 : Value.slice none (A.length - n) (cap1 - n) = .slice none 0 0 := by
              have e1 : A.length - n = 0 := by omega
              have e2 : cap1 - n = 0 := by omega
              rw [e1, e2]
            have hd0 : A.drop n = [] := by rw [hA0']; simp
            have HS0 := Lib.hid hs0
            have HD0 := Lib.hid hd0
            have hncap : (n : Int) ≤ (cap1 : Int) := by omega
            clear hrd hA0' hn0 hA0n hc0 hs0 hd0
            go_wp2_with (first | (at_builtin; refine wp_app_B (B := wr.heap.size) (xs := []) (l := []) rfl rfl rfl rfl HMD.out (.inl ⟨HS0.out, rfl⟩) (by simp) (by simp) ?_; intro v3 w3 ho3 hb3 hs3 hgr3; clear hgr3) | fail)
            go_meet
            rw [HD0.out]
            exact ⟨OwnB.of ho3 (by omega) (fun _ _ => rfl), HBA2.out.trans hb3⟩
          | some a1 =>
            have ha1 : ∃ g, a1 = ⟨g, 0, none⟩ ∧ A.length ≤ cap1 ∧ g < wr.heap.size := by
              have hl := World.ownsRow.lt HF.out.ow
              rcases HF.out.ow.2 with ⟨h1, -⟩ | ⟨g, cp, cur, h1, -, -, h2, -⟩
              · cases h1
              · injection h1 with h3 h4 h5
                injection h3 with h3
                subst h3 h5
                rw [Bs_length] at h2
                exact ⟨g, rfl, h2, (hl g rfl).2⟩
            obtain ⟨g, rfl, hcl, hgw⟩ := ha1
            have hcl' : (A.length : Int) ≤ (cap1 : Int) := by omega
            by_cases hnc : n = cap1
            · have hd0 : A.drop n = [] := List.drop_of_length_le (by omega)
              have hz : A.length - n = 0 := by omega
              have HD0 := Lib.hid hd0
              have HZ := Lib.hid hz
              have hz2 : cap1 - n = 0 := by omega
              have hnc' : (cap1 = n) = True := by simp; omega
              clear hrd hd0 hnc hz hz2
              go_wp2_with (first | (at_builtin; refine wp_app_B (B := wr.heap.size) (xs := []) (l := []) rfl rfl rfl rfl HMD.out (rd_empty HZ.out) (by simp) (by simp) ?_; intro v3 w3 ho3 hb3 hs3 hgr3; clear hgr3) | fail)
              go_meet
              rw [HD0.out]
              exact ⟨OwnB.of ho3 (by omega) (fun _ _ => rfl), HBA2.out.trans hb3⟩
            · have hnc' : (cap1 = n) = False := by simp; omega
              have hrd2 := rd_drop hrd (s := n) (k := A.length - n) (by omega) rfl
              have e : (A.drop n).take (A.length - n) = A.drop n := List.take_of_length_le (by simp)
              rw [e] at hrd2
              simp only [Nat.zero_add] at hrd2
              have HRD := Lib.hid (hrd2.below HBA2.out)
              clear hrd hrd2 hnc
              go_wp2_with (first | (at_builtin; refine wp_app_B (B := wr.heap.size) (xs := []) (l := A.drop n) rfl rfl rfl rfl HMD.out HRD.out (by simp; omega) (by simp) ?_; intro v3 w3 ho3 hb3 hs3 hgr3; clear hgr3) | fail)
              go_meet
              exact ⟨OwnB.of ho3 (by omega) (fun _ _ => rfl), HBA2.out.trans hb3⟩
        case rest =>
          obtain ⟨hoE, hbE⟩ := hcut
          obtain ⟨aoE, capE, hvE⟩ := hoE.reads.lenOf
          have hAn : (A.drop n).length = d := by rw [HD.out]; simp
          rw [hAn] at hvE
          have W2 : IntKind.i64.wrap (128 - (d : Int)) = ((128 - d : Nat) : Int) := by rw [IntWalk.i64_in _ (by omega)]; omega
          have hlt := HF.out.hb.lt
          have hsE := hbE.size
          have HOE := Lib.hid hoE
          have HBE := Lib.hid hbE
          have hhE := (hbE.block c hlt).trans HF.out.hb.at_
          have HAN := Lib.hid hAn
          subst hvE
          clear hoE hbE hAn
          go_wp2_with (first | (at_builtin; refine wp_app_Z (B := c + 1) (xs := A.drop n) (m := 128 - d) rfl rfl rfl rfl HOE.out (by omega) (by rw [HAN.out]; omega) (by omega) ?_; intro v4 w4 ho4 hb4 hs4 hgr4; clear hgr4; have HO4 := Lib.hid ho4; have HB4 := Lib.hid hb4; have hh4 := (hb4.block c (by omega)).trans hhE; clear ho4 hb4) | (refine wpl_load c 140 140 _ (Ws h8) (0, 0) _ rfl rfl rfl hh4 Tryz.underlying140 rfl (by rw [info8, Ws_size]; exact congrArg some HL8.out.symm) ?_) | fail)
          obtain ⟨PD, hPD⟩ : ∃ PD, PD = A.drop n ++ List.replicate (128 - d) 0 := ⟨_, rfl⟩
          have ho4 := HO4.out
          rw [← hPD] at ho4
          have hPDl : PD.length = 128 := by rw [hPD, List.length_append, HAN.out, List.length_replicate]; omega
          have hPDp : PD = padL (A.drop n) := by rw [hPD, padL, HAN.out]
          obtain ⟨g4, cap4, hv4, hg4, hgl4, hcap4, hcell4, -⟩ := own_open ho4 (by omega)
          rw [hPDl] at hv4
          have hB4 : Bytes w4 g4 0 PD := by
            refine ⟨hgl4, fun i hi => ?_, fun i => ?_⟩
            · have := hcell4 i hi
              rw [add_at] at this
              exact this
            · rw [hPD]
              by_cases hi : i < (A.drop n).length
              · rw [gt_append_l hi, gt_drop]; exact HSA.out _
              · rw [gt_append_r (by omega), gt_zeros]; decide
          subst hv4
          obtain ⟨H9, hH9⟩ : ∃ H9, H9 = blockL h8 (wordsL PD) A.length true := ⟨_, rfl⟩
          have hout : keyedL key p = outL H9 := by
            have e1 : chainL (initL K.length) A 0 = H9 := by
              rw [← HCH.out, chainL_last (rest := A.drop n) (by rw [HAN.out]; omega), hH9, hPDp, HAN.out, HD.out]
              congr 1; omega
            unfold keyedL
            rw [← HKe.out]
            have e2 : allL K p = A := by rw [HA.out, HA0.out]; rfl
            rw [e2, e1]
          have h9l : H9.length = 8 := by rw [hH9]; exact blockL_len _ _ _ _
          have h9s : Small H9 := by rw [hH9]; exact blockL_small _ _ HF.out.hb.small (by omega) _
          have H9E := Lib.hid hH9
          have HOUT := Lib.hid hout
          have H9L := Lib.hid h9l
          have H9S := Lib.hid h9s
          have HBB4 := Lib.hid hB4
          have HPL := Lib.hid hPDl
          have hb4c : Below c wr w4 := (HBE.out.mono (by omega)).trans (HB4.out.mono (by omega))
          have HB4C := Lib.hid hb4c
          have hh4c : w4.heap[c]? = some (.cells (Ws h8) 140 (0, 0)) := (HB4.out.block c (by omega)).trans hhE
          have HH4 := Lib.hid hh4c
          have hs4' := HB4.out.size
          clear ho4 hPD hPDl hPDp hcell4 hB4 hH9 hout h9l h9s hhE hb4c hh4c
          refine (ref_block h8 PD g4 0 cap4 A.length true w4 HL8.out HF.out.hb.small HPL.out HBB4.out (by have := HPL.out; omega) (by omega)).mono ?_
          rw [← H9E.out]
          rintro e w5 ⟨rfl, hb5⟩
          have hh5 := (hb5.block c (by omega)).trans HH4.out
          have HB5 := Lib.hid hb5
          clear hb5
          go_upto_region 15 with (first | (refine wpl_store c 140 140 _ _ (Ws h8) (Ws H9) rfl rfl rfl rfl hh5 (by rw [info8, Ws_size]; exact congrArg some H9L.out.symm) (by rw [Ws_size, Ws_size, H9L.out]; exact HL8.out) (Ws_one _) ?_) | fail)
          obtain ⟨w6, hw6⟩ : ∃ w6, w6 = w5.setRow c (Ws H9) := ⟨_, rfl⟩
          rw [← hw6]
          have hF9 : F9 w c H9 w6 := by
            have f := HF.out
            have hb4 := HB4C.out
            have hb5 := HB5.out
            have hn := f.n
            refine ⟨?_, ⟨?_, H9S.out⟩, ?_, ?_⟩
            · rw [hw6]
              exact (setRow_other w5 c _ _ (by omega)).trans ((hb5.block _ (by omega)).trans ((hb4.block _ hn).trans f.zb))
            · rw [hw6]; exact setRow_heap w5 c _ _ _ _ hh5
            · exact hn
            · rw [hw6]
              refine setRow_below ?_ (Nat.le_of_lt hn)
              exact (f.old.trans (hb4.mono (Nat.le_of_lt hn))).trans (hb5.mono (by have := f.old.size; omega))
          have HF9 := Lib.hid hF9
          have hc6 := hF9.hb.lt
          clear hF9 hw6 hh5
          dsimp only [Act.put]
          go_cut [10] (fun q wx => ∃ ob, q = .pointer (some ⟨ob, 0, none⟩) ∧ c < ob ∧ F9 w c H9 wx ∧ wx.heap[ob]? = some (.cells (Bs (outTo H9 0)).toArray 41 (0, 0)))
          case first =>
            clear HH4 HB4C HB5 HPL HBB4 H9S H9E HD HAN HSA HA HOA HBA HZB HZBB HA0 HK HP HBK HBP
            apply wp_region_lit
            go_step
            go_step
            go_step
            go_step
            go_step
            go_step
            refine wpl_store w6.heap.size 41 41 _ _ #[.int .u8 0, .int .u8 0, .int .u8 0, .int .u8 0, .int .u8 0, .int .u8 0, .int .u8 0, .int .u8 0, .int .u8 0, .int .u8 0, .int .u8 0, .int .u8 0, .int .u8 0, .int .u8 0, .int .u8 0, .int .u8 0, .int .u8 0, .int .u8 0, .int .u8 0, .int .u8 0, .int .u8 0, .int .u8 0, .int .u8 0, .int .u8 0, .int .u8 0, .int .u8 0, .int .u8 0, .int .u8 0, .int .u8 0, .int .u8 0, .int .u8 0, .int .u8 0] #[.int .u8 0, .int .u8 0, .int .u8 0, .int .u8 0, .int .u8 0, .int .u8 0, .int .u8 0, .int .u8 0, .int .u8 0, .int .u8 0, .int .u8 0, .int .u8 0, .int .u8 0, .int .u8 0, .int .u8 0, .int .u8 0, .int .u8 0, .int .u8 0, .int .u8 0, .int .u8 0, .int .u8 0, .int .u8 0, .int .u8 0, .int .u8 0, .int .u8 0, .int .u8 0, .int .u8 0, .int .u8 0, .int .u8 0, .int .u8 0, .int .u8 0, .int .u8 0] rfl rfl rfl rfl (heap_alloc_new w6 _) infoH rfl (by kernel_rfl) ?_
            rw [World.setRow_alloc_new, zero32]
            obtain ⟨w7, hw7⟩ : ∃ w7, w7 = w6.alloc (.cells (Bs (List.replicate 32 0)).toArray 41) := ⟨_, rfl⟩
            rw [← hw7]
            have hF9 : F9 w c H9 w7 := by rw [hw7]; exact HF9.out.alloc _
            have hO7 : w7.heap[w6.heap.size]? = some (.cells (Bs (outTo H9 0)).toArray 41 (0, 0)) := by rw [outTo_zero, hw7]; exact heap_alloc_new w6 _
            have HF9' := Lib.hid hF9
            have HO7 := Lib.hid hO7
            clear hw7 hF9 hO7
            go_wp2_with fail
            go_meet
            exact ⟨w6.heap.size, rfl, hc6, HF9'.out, HO7.out⟩
          case rest =>
          obtain ⟨ob, rfl, hcob, hF9, hO7⟩ := hcut
          have HF9' := Lib.hid hF9
          have HO7 := Lib.hid hO7
          clear hF9 hO7 hc6
          go_wp2
          go_loopw [11] (fun i wr => ∃ n : Nat, n ≤ 32 ∧ i = .int .i64 n ∧ F9 w c H9 wr ∧ wr.heap[ob]? = some (.cells (Bs (outTo H9 n)).toArray 41 (0, 0))) (fun i _ => 32 - (intOf i).toNat)
          case atStart => exact ⟨0, by omega, rfl, HF9'.out, HO7.out⟩
          case round =>
            obtain ⟨t, ht, rfl, hF9, hO⟩ := hrel
            by_cases htl : t < 32
            · have hc1 := hF9.hb.cell (i := t / 8) (by rw [H9L.out]; omega)
              obtain ⟨r, hr⟩ : ∃ r, r = 8 * (t % 8) := ⟨_, rfl⟩
              have htl' : (t : Int) < 32 := by omega
              have hcO : wr.cell? ⟨ob, t, none⟩ = some (.int .u8 (gt (outTo H9 t) t : Nat)) := by simp [World.cell?, hO, Bs, gt, outTo, htl]
              have hfO : wr.frozen? ⟨ob, t, none⟩ = false := by simp [World.frozen?, hO]
              have HO := Lib.hid hO
              have HF9 := Lib.hid hF9
              clear hO hF9
              go_wp2
              have eV : ((gt H9 (t / 8) : Nat) : Int) / 2 ^ (8 * (t % 8)) % 256 = ((gt H9 (t / 8) / 2 ^ (8 * (t % 8)) % 256 : Nat) : Int) := by norm_cast
              rw [eV]
              refine ⟨⟨t + 1, by omega, by go_num, HF9.out.set hcob _ _, ?_⟩, by simp [intOf]; omega⟩
              rw [outTo_succ _ _ htl]
              exact (set_blockM _ HO.out).trans (by rw [Bs_set])
            · have ht32 : t = 32 := by omega
              subst ht32
              rw [outTo_all] at hO
              have HF9 := Lib.hid hF9
              have HO := Lib.hid hO
              have hlen := outL_len H9
              have HLEN := Lib.hid hlen
              clear hO hF9 hlen
              go_wp2_with (first | (refine wpl_load ob 41 41 _ (Bs (outL H9)).toArray (0, 0) _ rfl rfl rfl HO.out Tryz.underlying41 rfl (by rw [infoH, Bs_size, HLEN.out]) ?_) | (refine wpl_store w.heap.size 41 41 _ _ (Bs (List.replicate 32 0)).toArray (Bs (outL H9)).toArray rfl rfl rfl rfl HF9.out.zb (by rw [infoH, Bs_size, HLEN.out]) (by rw [Bs_size, Bs_size, HLEN.out]; rfl) (Bs_all _) ?_) | fail)
              refine bodyPost_ret (results_row (b := w.heap.size) (t := 41) Tryz.results59 rfl (setRow_heap wr w.heap.size _ _ _ _ HF9.out.zb) Tryz.underlying41 rfl (by rw [infoH, Bs_size, HLEN.out])) rfl ⟨by rw [HOUT.out], setRow_below HF9.out.old (Nat.le_refl _)⟩
end Go.Proofs.YtcfcfijmfgnpfaaGreatDoor
end

section
namespace Go.Proofs.YtcfcfijmfgnpfaaGreatDoor
open Go.RowKit
set_option linter.unusedVariables false
set_option linter.unusedSimpArgs false

theorem grown_trans {x y z : World} {b : Nat} (h : x.grownBy y (some b)) (k : y.grownBy z (some b)) : x.grownBy z (some b) :=
  ⟨k.os.trans h.os, k.tape.trans h.tape, k.output.trans h.output, Nat.le_trans h.size k.size, fun i hi hr => (k.block i (Nat.lt_of_lt_of_le hi h.size) hr).trans (h.block i hi hr)⟩
def sLen : Value → Nat
  | .slice _ n _ => n
  | _ => 0

theorem info5s : (Tryz.prog.info? 5).map (·.size) = some 1 := by kernel_rfl
/-- What came of a write. -/
def Wrote (b : Nat) (h0 A : List Nat) (w w' : World) : Prop :=
  (∃ h blk held count, HX b h blk held count w' ∧ Inv h0 A h blk held count) ∧ w.grownBy w' (some b) ∧ Glob w'

set_option maxHeartbeats 8000000 in
set_option maxRecDepth 100000 in
theorem blake_write (b : Nat) (h0 A h blk : List Nat) (held count : Nat) (v : Value) (p : List Nat) (w : World) (hG : Glob w) (hx : HX b h blk held count w) (hb2 : 3 ≤ b) (hi : Inv h0 A h blk held count) (hr : RdB w v p) (ha : Apart v b) (bp : ∀ x ∈ p, x < 256) (hl : A.length + p.length ≤ 1000000000) :
    Calls Tryz.prog 107 #[.pointer (some ⟨b, 0, none⟩), v] w fun e w' => e = .returned (.tuple #[]) ∧ Wrote b h0 (A ++ p) w w' := by
  have HBP := Lib.hid bp
  go_enter Tryz.func107, Tryz.ntmps107
  go_wp2
  go_loopw [1] (fun v' wr => ∃ j : Nat, j ≤ p.length ∧ RdB w v' (p.drop j) ∧ Apart v' b ∧ Wrote b h0 (A ++ p.take j) w wr) (fun v' _ => sLen v')
  case atStart => exact ⟨0, Nat.zero_le _, by simpa using hr, ha, ⟨h, blk, held, count, hx, by simpa using hi⟩, ⟨rfl, rfl, rfl, Nat.le_refl _, fun _ _ _ => rfl⟩, hG⟩
  case round =>
    clear hx hi hr ha hG bp
    obtain ⟨j, hj, hr, ha, ⟨h, blk, held, count, hx, hi⟩, hg, hG⟩ := hrel
    by_cases hlt : j < p.length
    · obtain ⟨pr, hpr⟩ : ∃ pr, pr = p.drop j := ⟨_, rfl⟩
      have hprl : pr.length = p.length - j := by rw [hpr]; simp
      have hprs : ∀ i, gt pr i < 256 := fun i => by
        rw [hpr]
        by_cases hi : i < (p.drop j).length
        · have : gt (p.drop j) i = (p.drop j)[i] := by simp only [gt, List.getD_eq_getElem?_getD, List.getElem?_eq_getElem hi, Option.getD_some]
          rw [this]
          exact HBP.out _ (List.mem_of_mem_drop (List.getElem_mem hi))
        · rw [gt_ge (by omega)]; decide
      rw [← hpr] at hr
      have hrW := hr.grown hg ha
      obtain ⟨a, cap, rfl, hcap⟩ : ∃ a cap, u1 = .slice (some a) pr.length cap ∧ pr.length ≤ cap := by
        rcases hr with ⟨-, h2⟩ | ⟨a, cap, h1, h2, -⟩
        · rw [h2] at hprl; simp at hprl; omega
        · exact ⟨a, cap, h1, h2⟩
      have hspot : a.spot = none := by
        have h0 : 0 < pr.length := by omega
        have hc := (RdB.cells hr).2 0 (.int .u8 (gt pr 0 : Nat)) (by simp [Bs, gt, h0])
        have := World.cell?_spot hc
        simpa [Addr.add] using this
      obtain ⟨ab, ao, sp⟩ := a
      simp only at hspot
      subst hspot
      have hab : ab ≠ b := ha _ _ _ rfl
      have hpos : (0 : Int) < (pr.length : Int) := by omega
      have hcl := hi.2.1
      rw [List.length_append, List.length_take] at hcl
      have HR := Lib.hid hr
      have HRW := Lib.hid hrW
      have HPS := Lib.hid hprs
      have HPR := Lib.hid hpr
      have HPL := Lib.hid hprl
      have HX1 := Lib.hid hx
      have HI := Lib.hid hi
      have HGR := Lib.hid hg
      have HGL := Lib.hid hG
      have k1 := hx.held
      have f1 := hx.frozen 136
      clear hr hrW hprs hpr hprl hx hi hg hG ha
      go_upto_if 12 with fail
      go_cut [0] (fun q wx => q = .pointer (some ⟨b, 0, none⟩) ∧ (∃ h blk held count, HX b h blk held count wx ∧ PInv h0 (A ++ p.take j) h blk held count) ∧ wr.grownBy wx (some b) ∧ Glob wx)
      case first =>
        have hidg : wr.grownBy wr (some b) := ⟨rfl, rfl, rfl, Nat.le_refl _, fun _ _ _ => rfl⟩
        by_cases h128 : held = 128
        · have hgd : ((held : Int) == 128) = true := by simp; omega
          have hp : PInv h0 (A ++ p.take j) (blockL h (wordsL blk) (count + held) false) blk 0 (count + held) := by
            have := HI.out
            subst h128
            exact this.full HX1.out.bl
          have HP := Lib.hid hp
          clear h128 hp
          go_wp2_with (first | (go_at_call 122; refine (blake_mixBlock b h blk held count false wr HGL.out HX1.out hb2 (HI.out.1) (by omega)).mono ?_; rintro e wM ⟨rfl, hM, hMg, hMG⟩; have m1 := hM.held; have m2 := hM.frozen 136; have HMX := Lib.hid hM; have HMG := Lib.hid hMg; have HMGG := Lib.hid hMG; clear hM hMg hMG) | fail)
          go_meet
          exact ⟨rfl, ⟨_, _, _, _, HMX.out.setHeld 0, HP.out⟩, grown_set HMG.out (.inl rfl), HMGG.out.setc hb2⟩
        · have hgd : ((held : Int) == 128) = false := by simp; omega
          have hp := HI.out.less (by have := HI.out.1; omega)
          have HP := Lib.hid hp
          clear h128 hp
          go_wp2_with fail
          go_meet
          exact ⟨rfl, ⟨_, _, _, _, HX1.out, HP.out⟩, hidg, HGL.out⟩
      case rest =>
        obtain ⟨rfl, ⟨h', blk', held', count', hx, hi⟩, hg, hG⟩ := hcut
        obtain ⟨q, hq⟩ : ∃ q, q = pr.take (128 - held') := ⟨_, rfl⟩
        have hh := hi.1
        have hql : q.length = min (128 - held') pr.length := by rw [hq]; simp
        have hrw : RdB wc (.slice (some ⟨ab, ao, none⟩) pr.length cap) pr := HRW.out.grown hg (fun a n c e => by injection e with e1; injection e1 with e1; rw [← e1]; exact hab)
        have HRC := Lib.hid hrw
        have hcells := (RdB.cells hrw).2
        have hsrc : ∀ i v, (Bs q)[i]? = some v → wc.cell? ((⟨ab, ao, none⟩ : Addr).add i) = some v := fun i v hv => by
          refine hcells i v ?_
          have hlt := (List.getElem?_eq_some_iff.1 hv).1
          rw [Bs_length, hql] at hlt
          rw [hq] at hv
          simp only [Bs, List.map_take, List.getElem?_take] at hv
          rw [if_pos (by omega)] at hv
          exact hv
        have hqs : ∀ i, gt q i < 256 := fun i => by
          rw [hq]
          by_cases h1 : i < 128 - held'
          · rw [gt_take h1]; exact HPS.out i
          · rw [gt_ge (by simp; omega)]; decide
        have k1' := hx.held
        have f1' := hx.frozen 136
        have HXC := Lib.hid hx
        have HIC := Lib.hid hi
        have HGC := Lib.hid hg
        have HGGC := Lib.hid hG
        have HQ := Lib.hid hq
        have HQL := Lib.hid hql
        have HSRC := Lib.hid hsrc
        have HQS := Lib.hid hqs
        have hhi : (held' : Int) < 128 := by omega
        have hhi2 : (held' : Int) ≤ 128 := by omega
        have hhi3 : held' ≤ 128 := by omega
        have hne : (128 = held') = False := by simp; omega
        clear hx hi hg hG hq hql hrw hcells hsrc hqs k1 f1
        go_wp2_with fail
        go_still_tail 9, (by kernel_rfl)
        change wpList _ _ _ _ _ wc.drew
        refine wpList_copy_own rfl _ _ 75 75 rfl 5 Tryz.underlying75 info5s b (8 + held') (128 - held') (128 - held') ⟨ab, ao, none⟩ pr.length cap rfl rfl (hcells h' blk' held' count').toArray 174 HXC.out.at_ (Bs q) ?hn HSRC.out ?hfit (Bs_one q) ?_
        case hn => rw [Bs_length, HQL.out, Nat.min_comm]
        case hfit => rw [Bs_length, HQL.out]; simp only [List.size_toArray, hcells, List.length_append, List.length_map, HXC.out.hl, Bs_length, HXC.out.bl, List.length_cons, List.length_nil]; omega
        obtain ⟨w5, hw5⟩ : ∃ w5, w5 = wc.drew.setRow b (((hcells h' blk' held' count').toArray.toList.take (8 + held')) ++ (Bs q ++ (hcells h' blk' held' count').toArray.toList.drop (8 + held' + (Bs q).length))).toArray := ⟨_, rfl⟩
        have hx5 : HX b h' (laidAt blk' q held') held' count' w5 := by
          have hxd : HX b h' blk' held' count' wc.drew := HXC.out.keep rfl
          have := hxd.splice (q := q) (by rw [HQL.out]; omega) HQS.out
          rw [List.append_assoc] at this
          rw [hw5]
          exact this
        have hg5 : wr.grownBy w5 (some b) := by
          have g := HGC.out
          rw [hw5]
          exact ⟨g.os, g.tape, g.output, by simp; exact g.size, fun k hk hr => (setRow_other _ b k _ (fun e => hr (by rw [e]))).trans (g.block k hk hr)⟩
        have hG5 : Glob w5 := by
          rw [hw5]
          exact HGGC.out.of (by simp) (fun k hk => setRow_other _ b k _ (by omega))
        rw [← hw5]
        obtain ⟨n, hn⟩ : ∃ n, n = q.length := ⟨_, rfl⟩
        have hbl : (Bs q).length = n := by rw [Bs_length, hn]
        have hnl : n = min (128 - held') pr.length := by rw [hn]; exact HQL.out
        have hi5 : Inv h0 (A ++ p.take (j + n)) h' (laidAt blk' q held') (held' + n) count' := by
          have hq0 : q ≠ [] := by
            intro e
            have : q.length = 0 := by rw [e]; rfl
            omega
          have := HIC.out.put HXC.out.bl hq0 (by omega)
          rw [← hn] at this
          have e : A ++ p.take j ++ q = A ++ p.take (j + n) := by
            rw [List.append_assoc, HQ.out, HPR.out]
            congr 1
            rw [List.take_add]
            congr 1
            rw [hnl]
            by_cases c : 128 - held' ≤ pr.length
            · rw [Nat.min_eq_left c]
            · rw [Nat.min_eq_right (by omega), HPR.out, List.take_length, List.take_of_length_le (by rw [← HPR.out]; omega)]
          rwa [e] at this
        have k5 := hx5.held
        have f5 := hx5.frozen 136
        obtain ⟨m, hm⟩ : ∃ m, m = held' + n := ⟨_, rfl⟩
        rw [← hm] at hi5
        have W7 : IntKind.i64.wrap ((held' : Int) + (n : Int)) = (m : Int) := by rw [IntWalk.i64_in _ (by omega)]; omega
        have HX5 := Lib.hid (hx5.setHeld m)
        have HG5 := Lib.hid (grown_set (i := 136) (v := .int .i64 (m : Int)) hg5 (.inl rfl))
        have HGG5 := Lib.hid (hG5.setc (c := b) (i := 136) (v := .int .i64 (m : Int)) hb2)
        have HI5 := Lib.hid hi5
        have hnp : n ≤ pr.length := by omega
        have hn0 : 0 < n := by omega
        have hnpI : (n : Int) ≤ (pr.length : Int) := by omega
        have hncI : (n : Int) ≤ (cap : Int) := by omega
        rw [hbl]
        have HNL := Lib.hid hnl
        have hdr : p.drop (j + n) = pr.drop n := by rw [HPR.out, List.drop_drop]
        have HDR := Lib.hid hdr
        have hjn : j + n ≤ p.length := by have := HPL.out; omega
        clear hx5 hg5 hG5 hi5 hw5 hn hbl hnl k1' f1' hm hdr
        by_cases hnc : n = cap
        · have hnc' : (cap = n) = True := by simp; omega
          have HNC := Lib.hid hnc
          clear hnc
          go_wp2
          refine ⟨⟨j + n, hjn, ?_, fun a n' c e => ?_, ⟨⟨_, _, _, _, HX5.out, HI5.out⟩, grown_trans HGR.out HG5.out, HGG5.out⟩⟩, by simp [sLen]; omega⟩
          · rw [HDR.out, List.drop_of_length_le (by have := HNC.out; omega)]
            exact rd_empty (by have := HNC.out; omega)
          · injection e with e1
            injection e1 with e1
            rw [← e1]; exact hab
        · have hnc' : (cap = n) = False := by simp; omega
          clear hnc
          go_wp2
          refine ⟨⟨j + n, hjn, ?_, fun a n' c e => ?_, ⟨⟨_, _, _, _, HX5.out, HI5.out⟩, grown_trans HGR.out HG5.out, HGG5.out⟩⟩, by simp [sLen]; omega⟩
          · have := rd_drop HR.out (s := n) (k := pr.length - n) (by omega) rfl
            rw [List.take_of_length_le (by simp)] at this
            rw [HDR.out]; exact this
          · injection e with e1
            injection e1 with e1
            rw [← e1]; exact hab
    · have hjl : j = p.length := by omega
      subst hjl
      rw [List.take_length] at hi
      have hp0 : p.drop p.length = [] := by simp
      rw [hp0] at hr
      obtain ⟨aoE, capE, rfl⟩ := hr.lenOf
      have HW := Lib.hid (show Wrote b h0 (A ++ p) w wr from ⟨⟨h, blk, held, count, hx, hi⟩, hg, hG⟩)
      clear hr ha hx hi hg hG hp0
      go_wp2
      exact bodyPost_end (v := .tuple #[]) (by simp [results, Tryz.results107, go_sem]) rfl ⟨rfl, HW.out⟩
end Go.Proofs.YtcfcfijmfgnpfaaGreatDoor
end

section
namespace Go.Proofs.YtcfcfijmfgnpfaaGreatDoor
open Go.RowKit
set_option linter.unusedVariables false
set_option linter.unusedSimpArgs false

theorem wpl_clear {ops : Array Oper} {rest : List Oper} {o : Oper} {a : Act} {Q : Exit → Act → World → Prop} {w : World} (x : Operand) (b k n c : Nat) (cur : Array Value) (t : TypeId) (hgd : o.guard = none) (ho : o.op = .call { callee := .builtin .clear, args := #[x], argTypes := #[75] })
    (hx : a.eval x = .slice (some ⟨b, k, none⟩) n c) (hh : w.heap[b]? = some (.cells cur t (0, 0))) (hfit : 0 < n → k + n ≤ cur.size)
    (h : ∀ w', (0 < n → w' = w.setRow b (cur.toList.take k ++ Bs (List.replicate n 0) ++ cur.toList.drop (k + n)).toArray) → (n = 0 → w' = w) → wpList Tryz.prog ops Q rest (a.put o.dst (.tuple #[])) w') : wpList Tryz.prog ops Q (o :: rest) a w := by
  obtain ⟨i0, hi, hz0, hz1, hz2⟩ := info_parts info5
  refine wpList_plain hgd fun K hK => ?_
  unfold Oper.wp execOp
  by_cases h0 : n = 0
  · subst h0
    have hr : (Builtin.clear_ #[75] o.type #[.slice (some ⟨b, k, none⟩) 0 c]).run Tryz.prog w = .ok (.tuple #[]) w := by
      simp [Builtin.clear_, run_underlying Tryz.underlying75]
    simp only [ho, resolve, invoke, builtin, Sem.run_bind, Sem.run_pure, Result.andThen_ok, List.map_toArray, List.map_cons, List.map_nil, hx, hr]
    exact hK _ _ (h w (fun h => by omega) (fun _ => rfl))
  · have hst := run_storeCells_at Tryz.prog b k t (Bs (List.replicate n 0)) 0 cur w hh (by rw [Bs_length, List.length_replicate]; have := hfit (by omega); omega) (Bs_one _)
    simp only [Nat.add_zero] at hst
    have hzc : (Builtin.zeroCells #[.int .u8 0] n).toList = Bs (List.replicate n 0) := by
      rw [zeroCells_one]; simp [Bs]
    have hr : (Builtin.clear_ #[75] o.type #[.slice (some ⟨b, k, none⟩) n c]).run Tryz.prog w = .ok (.tuple #[]) (w.setRow b (cur.toList.take k ++ Bs (List.replicate n 0) ++ cur.toList.drop (k + (Bs (List.replicate n 0)).length)).toArray) := by
      match n, h0 with
      | m + 1, _ =>
        simp only [Builtin.clear_]
        simp [run_underlying Tryz.underlying75, zeroValue, typeInfo, hi, hz0]
        have e : (Value.int IntKind.u8 0).cells = #[.int .u8 0] := rfl
        rw [e, hzc, hst]
        simp [Result.andThen, List.append_assoc]
    simp only [ho, resolve, invoke, builtin, Sem.run_bind, Sem.run_pure, Result.andThen_ok, List.map_toArray, List.map_cons, List.map_nil, hx, hr]
    refine hK _ _ (h _ (fun _ => by rw [Bs_length, List.length_replicate]) (fun e => absurd e h0))

/-- The frame of the end. -/
structure FE (w : World) (b : Nat) (h : List Nat) (rb : Nat) (wr : World) : Prop where
  zb : wr.heap[rb]? = some (.cells (Bs (List.replicate 32 0)).toArray 41 (0, 0))
  hx : ∃ blk held count, HX b h blk held count wr
  n1 : b < rb
  n2 : w.heap.size ≤ rb
  old : w.grownBy wr (some b)

theorem FE.set {w wr : World} {b rb ob : Nat} {h : List Nat} (f : FE w b h rb wr) (ho : rb < ob) (i : Nat) (v : Value) : FE w b h rb (wr.setCell ⟨ob, i, none⟩ v) := by
  obtain ⟨blk, held, count, hx⟩ := f.hx
  have h1 := f.n1
  have h2 := f.n2
  exact ⟨(set_other (by simp only; omega)).trans f.zb, ⟨blk, held, count, hx.keep (set_other (by simp only; omega))⟩, f.n1, f.n2, grown_set f.old (.inr (by omega))⟩

set_option maxHeartbeats 8000000 in
set_option maxRecDepth 100000 in
theorem blake_end (b : Nat) (h0 A h blk : List Nat) (held count : Nat) (w : World) (hG : Glob w) (hx : HX b h blk held count w) (hb2 : 3 ≤ b) (hi : Inv h0 A h blk held count) (hl : A.length ≤ 1000000000) :
    Calls Tryz.prog 108 #[.pointer (some ⟨b, 0, none⟩)] w fun e w' => e = .returned (.agg (Bs (outL (chainL h0 A 0))).toArray) ∧ w.grownBy w' (some b) := by
  have hh := hi.1
  have hcnt := hi.2.1
  have hblt := hx.lt
  obtain ⟨Z, hZ⟩ : ∃ Z, Z = List.replicate (128 - held) 0 := ⟨_, rfl⟩
  have hZl : Z.length = 128 - held := by rw [hZ]; simp
  have hpad : laidAt blk Z held = padL (blk.take held) := by
    have := hx.bl
    unfold laidAt padL
    rw [hZl, List.drop_of_length_le (by omega), List.append_nil, hZ, List.length_take, this, Nat.min_eq_left hh]
  have hfin : chainL h0 A 0 = blockL h (wordsL (laidAt blk Z held)) (count + held) true := by
    have := hi.2.2 []
    have hb := hx.bl
    simp only [List.append_nil] at this
    rw [this, chainL_last (rest := blk.take held) (by rw [List.length_take]; omega), hpad, List.length_take, hb, Nat.min_eq_left hh]
  obtain ⟨H9, hH9⟩ : ∃ H9, H9 = chainL h0 A 0 := ⟨_, rfl⟩
  rw [← hH9] at hfin ⊢
  have hZs : ∀ i, gt Z i < 256 := fun i => by rw [hZ, gt_zeros]; decide
  have HX0 := Lib.hid hx
  have HG0 := Lib.hid hG
  have HZL := Lib.hid hZl
  have HZ := Lib.hid hZ
  have HZS := Lib.hid hZs
  have HFIN := Lib.hid hfin
  have h9l : H9.length = 8 := by rw [hfin]; exact blockL_len _ _ _ _
  have H9L := Lib.hid h9l
  clear hx hG hZl hZ hpad hfin hi hZs hH9 h9l
  go_enter Tryz.func108, Tryz.ntmps108
  go_upto_region 1 with fail
  obtain ⟨w1, hw1⟩ : ∃ w1, w1 = w.alloc (.cells #[.int .u8 0, .int .u8 0, .int .u8 0, .int .u8 0, .int .u8 0, .int .u8 0, .int .u8 0, .int .u8 0, .int .u8 0, .int .u8 0, .int .u8 0, .int .u8 0, .int .u8 0, .int .u8 0, .int .u8 0, .int .u8 0, .int .u8 0, .int .u8 0, .int .u8 0, .int .u8 0, .int .u8 0, .int .u8 0, .int .u8 0, .int .u8 0, .int .u8 0, .int .u8 0, .int .u8 0, .int .u8 0, .int .u8 0, .int .u8 0, .int .u8 0, .int .u8 0] 41) := ⟨_, rfl⟩
  rw [← hw1]
  rw [zero32] at hw1
  have hx1 : HX b h blk held count w1 := by rw [hw1]; exact HX0.out.keep (Below.heap_alloc _ _ _ hblt)
  have hG1 : Glob w1 := by rw [hw1]; exact HG0.out.of (by simp) (fun k hk => Below.heap_alloc _ _ _ (Nat.lt_of_lt_of_le hk HG0.out.lt))
  have hz1 : w1.heap[w.heap.size]? = some (.cells (Bs (List.replicate 32 0)).toArray 41 (0, 0)) := by rw [hw1]; exact heap_alloc_new w _
  have hg1 : w.grownBy w1 (some b) := by rw [hw1]; exact World.grownBy_alloc w _ _
  have k1 := hx1.held
  have HX1 := Lib.hid hx1
  have HG1 := Lib.hid hG1
  have HZ1 := Lib.hid hz1
  have HGR1 := Lib.hid hg1
  have hhi : (held : Int) ≤ 128 := by omega
  clear hx1 hG1 hz1 hg1 hw1
  go_still_tail 8, (by kernel_rfl)
  change wpList _ _ _ _ _ w1.drew
  refine wpl_clear _ b (if 128 = held then 8 else 8 + held) (128 - held) (128 - held) (hcells h blk held count).toArray 174 rfl rfl (by
    show Value.slice (some (if 128 = held then (⟨b, 8, none⟩ : Addr) else ⟨b, 8 + held, none⟩)) (128 - held) (128 - held) = _
    split <;> rfl) HX1.out.at_ (fun hp => by
    rw [if_neg (by omega)]
    simp only [List.size_toArray, hcells, List.length_append, List.length_map, HX1.out.hl, Bs_length, HX1.out.bl, List.length_cons, List.length_nil]; omega) ?_
  intro w2 hw2a hw2b
  generalize hsa : (if 128 = held then (⟨b, 8, none⟩ : Addr) else ⟨b, 8 + held, none⟩) = sa
  clear hsa
  have hx2 : HX b h (laidAt blk Z held) held count w2 ∧ w1.grownBy w2 (some b) ∧ w2.heap.size = w1.heap.size := by
    by_cases hp : 0 < 128 - held
    · have e := hw2a hp
      rw [if_neg (by omega)] at e
      have hxd : HX b h blk held count w1.drew := HX1.out.keep rfl
      have hs := hxd.splice (q := Z) (by rw [HZL.out]; omega) HZS.out
      have e2 : Bs (List.replicate (128 - held) 0) = Bs Z := by rw [HZ.out]
      rw [e2] at e
      have e3 : (Bs Z).length = 128 - held := by rw [Bs_length, HZL.out]
      rw [e3] at hs
      rw [e]
      exact ⟨hs, ⟨rfl, rfl, rfl, by simp, fun k hk hr => setRow_other _ b k _ (fun e => hr (by rw [e]))⟩, by simp⟩
    · have e := hw2b (by omega)
      have hz : Z = [] := List.length_eq_zero_iff.1 (by rw [HZL.out]; omega)
      have e2 : laidAt blk Z held = blk := by
        have := HX1.out.bl
        rw [hz]; unfold laidAt
        simp only [List.length_nil, Nat.add_zero, List.append_nil, List.take_append_drop]
      rw [e, e2]
      exact ⟨HX1.out.keep rfl, ⟨rfl, rfl, rfl, Nat.le_refl _, fun _ _ _ => rfl⟩, rfl⟩
  obtain ⟨hx2, hg2, hs2⟩ := hx2
  have HX2 := Lib.hid hx2
  have HG2 := Lib.hid hg2
  have hG2 : Glob w2 := HG1.out.grown hg2 (fun k hk => by cases hk; exact hb2)
  have HGG2 := Lib.hid hG2
  have hct : count ≤ 1099511627776 := by omega
  clear hw2a hw2b hx2 hg2 hG2 k1
  go_upto_region 4 with (first | (go_at_call 122; refine (blake_mixBlock b h (laidAt blk Z held) held count true w2 HGG2.out HX2.out hb2 hh hct).mono ?_; rintro e wM ⟨rfl, hM, hMg, hMG⟩; rw [← HFIN.out] at hM; have HM := Lib.hid hM; have HMG := Lib.hid hMg; clear hM hMg hMG) | fail)
  obtain ⟨w4, hw4⟩ : ∃ w4, w4 = wM.alloc (.cells #[.int .u8 0, .int .u8 0, .int .u8 0, .int .u8 0, .int .u8 0, .int .u8 0, .int .u8 0, .int .u8 0, .int .u8 0, .int .u8 0, .int .u8 0, .int .u8 0, .int .u8 0, .int .u8 0, .int .u8 0, .int .u8 0, .int .u8 0, .int .u8 0, .int .u8 0, .int .u8 0, .int .u8 0, .int .u8 0, .int .u8 0, .int .u8 0, .int .u8 0, .int .u8 0, .int .u8 0, .int .u8 0, .int .u8 0, .int .u8 0, .int .u8 0, .int .u8 0] 41) := ⟨_, rfl⟩
  rw [← hw4]
  rw [zero32] at hw4
  have hsM := HMG.out.size
  have hs1 := HGR1.out.size
  have hr1 := (Array.getElem?_eq_some_iff.1 HZ1.out).1
  have hFE : FE w b H9 w.heap.size w4 := by
    have hm := HMG.out
    have h2 := HG2.out
    have h1 := HGR1.out
    have hg := grown_trans (grown_trans h1 h2) hm
    have hMsz := hm.size
    rw [hw4]
    refine ⟨(Below.heap_alloc _ _ _ (by omega)).trans ((hm.block _ (by omega) (by simp; omega)).trans ((h2.block _ (by omega) (by simp; omega)).trans HZ1.out)), ⟨_, _, _, HM.out.keep (Below.heap_alloc _ _ _ HM.out.lt)⟩, hblt, Nat.le_refl _, ⟨hg.os, hg.tape, hg.output, by simp; have := hg.size; omega, fun k hk hr => (Below.heap_alloc _ _ _ (Nat.lt_of_lt_of_le hk hg.size)).trans (hg.block k hk hr)⟩⟩
  obtain ⟨ob, hob⟩ : ∃ ob, ob = wM.heap.size := ⟨_, rfl⟩
  have hO : w4.heap[ob]? = some (.cells (Bs (outTo H9 0)).toArray 41 (0, 0)) := by rw [outTo_zero, hw4, hob]; exact heap_alloc_new wM _
  rw [← hob]
  have hrob : w.heap.size < ob := by omega
  have HFE := Lib.hid hFE
  have HO := Lib.hid hO
  clear hFE hO hw4 hob
  go_wp2
  go_loopw [15] (fun i wr => ∃ n : Nat, n ≤ 32 ∧ i = .int .i64 n ∧ FE w b H9 w.heap.size wr ∧ wr.heap[ob]? = some (.cells (Bs (outTo H9 n)).toArray 41 (0, 0))) (fun i _ => 32 - (intOf i).toNat)
  case atStart => exact ⟨0, by omega, rfl, HFE.out, HO.out⟩
  case round =>
    obtain ⟨t, ht, rfl, hF, hO⟩ := hrel
    by_cases htl : t < 32
    · obtain ⟨blk', held', count', hx⟩ := hF.hx
      have hc1 := hx.h (i := t / 8) (by omega)
      obtain ⟨s8, hs8⟩ : ∃ s8, s8 = 8 * (t % 8) := ⟨_, rfl⟩
      have W5 : IntKind.i64.wrap ((t : Int).tmod 8 * 8) = (s8 : Int) := by
        rw [Int.tmod_eq_emod_of_nonneg (by omega), IntWalk.i64_in _ (by omega)]; omega
      have hs64 : (s8 : Int) < 64 := by omega
      have htl' : (t : Int) < 32 := by omega
      have hcO : wr.cell? ⟨ob, t, none⟩ = some (.int .u8 (gt (outTo H9 t) t : Nat)) := by simp [World.cell?, hO, Bs, gt, outTo, htl]
      have hfO : wr.frozen? ⟨ob, t, none⟩ = false := by simp [World.frozen?, hO]
      have HO := Lib.hid hO
      have HF := Lib.hid hF
      have HS8 := Lib.hid hs8
      clear hO hF hx hs8
      go_wp2
      have eV : ((gt H9 (t / 8) : Nat) : Int) / 2 ^ (t % 8 * 8) % 256 = ((gt H9 (t / 8) / 2 ^ (8 * (t % 8)) % 256 : Nat) : Int) := by
        rw [Nat.mul_comm 8]; norm_cast
      rw [eV]
      refine ⟨⟨t + 1, by omega, by go_num, HF.out.set hrob _ _, ?_⟩, by simp [intOf]; omega⟩
      rw [outTo_succ _ _ htl]
      exact (set_blockM _ HO.out).trans (by rw [Bs_set])
    · have ht32 : t = 32 := by omega
      subst ht32
      rw [outTo_all] at hO
      have HF := Lib.hid hF
      have HO := Lib.hid hO
      have hlen := outL_len H9
      have HLEN := Lib.hid hlen
      clear hO hF hlen
      go_wp2_with (first | (refine wpl_load ob 41 41 _ (Bs (outL H9)).toArray (0, 0) _ rfl rfl rfl HO.out Tryz.underlying41 rfl (by rw [infoH, Bs_size, HLEN.out]) ?_) | (refine wpl_store w.heap.size 41 41 _ _ (Bs (List.replicate 32 0)).toArray (Bs (outL H9)).toArray rfl rfl rfl rfl HF.out.zb (by rw [infoH, Bs_size, HLEN.out]) (by rw [Bs_size, Bs_size, HLEN.out]; rfl) (Bs_all _) ?_) | fail)
      refine bodyPost_ret (results_row (b := w.heap.size) (t := 41) Tryz.results108 rfl (setRow_heap wr w.heap.size _ _ _ _ HF.out.zb) Tryz.underlying41 rfl (by rw [infoH, Bs_size, HLEN.out])) rfl ⟨rfl, ?_⟩
      have g := HF.out.old
      exact ⟨g.os, g.tape, g.output, by simp; exact g.size, fun k hk hr => (setRow_other _ _ k _ (by omega)).trans (g.block k hk hr)⟩
end Go.Proofs.YtcfcfijmfgnpfaaGreatDoor
end

section
namespace Go.Proofs.YtcfcfijmfgnpfaaGreatDoor
open Go.RowKit
set_option linter.unusedVariables false
set_option linter.unusedSimpArgs false

section
variable {P : Program} {ops : Array Oper} {rest : List Oper} {o : Oper} {a : Act} {Q : Exit → Act → World → Prop} {w : World}
theorem wpl_build (t : TypeId) (x : Operand) (v : Value) (cells : Array Value) (hg : o.guard = none) (ho : o.op = .build t #[(0, x)]) (hx : a.eval x = v) (hf : P.built t [(0, v)] = some cells)
    (h : wpList P ops Q rest (a.put o.dst (.agg cells)) w) : wpList P ops Q (o :: rest) a w := by
  have hf' : P.built t ((#[(0, x)] : Array (Nat × Operand)).map fun (i, x) => (i, a.eval x)).toList = some cells := by
    simpa [hx] using hf
  refine wpList_build hg t #[(0, x)] ho (by rw [hf']; rfl) ?_
  rw [hf']
  exact h
theorem wpl_alloc (t : TypeId) (cs : Array Value) (hg : o.guard = none) (ho : o.op = .alloc t) (hz : (P.info? t).bind (·.zero) = some (.agg cs))
    (h : wpList P ops Q rest (a.put o.dst (.pointer (some ⟨w.heap.size, 0, none⟩))) (w.alloc (.cells cs t))) : wpList P ops Q (o :: rest) a w := by
  refine wpList_plain hg fun K hK => ?_
  unfold Oper.wp execOp
  obtain ⟨it, hi, hz'⟩ := Option.bind_eq_some_iff.1 hz
  simp [ho, Instr.alloc, zeroValue, typeInfo, hi, hz', newVar, newRow, Value.cells, go_sem]
  exact hK _ _ h
end
theorem blake_write_nil (b : Nat) (h0 A h blk : List Nat) (held count : Nat) (v : Value) (w : World) (hG : Glob w) (hx : HX b h blk held count w) (hi : Inv h0 A h blk held count) (hr : RdB w v []) :
    Calls Tryz.prog 107 #[.pointer (some ⟨b, 0, none⟩), v] w fun e w' => e = .returned (.tuple #[]) ∧ Wrote b h0 A w w' := by
  have HW := Lib.hid (show Wrote b h0 A w w from ⟨⟨h, blk, held, count, hx, hi⟩, ⟨rfl, rfl, rfl, Nat.le_refl _, fun _ _ _ => rfl⟩, hG⟩)
  obtain ⟨ao, cap, rfl⟩ := hr.lenOf
  clear hG hx hi hr
  go_enter Tryz.func107, Tryz.ntmps107
  go_wp2
  go_loopw [1] (fun v' wr => v' = .slice ao 0 cap ∧ wr = w) (fun _ _ => 0)
  case atStart => exact ⟨rfl, rfl⟩
  case round =>
    obtain ⟨rfl, rfl⟩ := hrel
    go_wp2
    exact bodyPost_end (v := .tuple #[]) (by simp [results, Tryz.results107, go_sem]) rfl ⟨rfl, HW.out⟩
theorem blake_write' (b : Nat) (h0 A h blk : List Nat) (held count : Nat) (v : Value) (p : List Nat) (w : World) (hG : Glob w) (hx : HX b h blk held count w) (hb2 : 3 ≤ b) (hi : Inv h0 A h blk held count) (hr : RdB w v p) (ha : p ≠ [] → Apart v b) (bp : ∀ x ∈ p, x < 256) (hl : A.length + p.length ≤ 1000000000) :
    Calls Tryz.prog 107 #[.pointer (some ⟨b, 0, none⟩), v] w fun e w' => e = .returned (.tuple #[]) ∧ Wrote b h0 (A ++ p) w w' := by
  by_cases hp : p = []
  · subst hp
    rw [List.append_nil]
    exact blake_write_nil b h0 A h blk held count v w hG hx hi hr
  · exact blake_write b h0 A h blk held count v p w hG hx hb2 hi hr (ha hp) bp hl
theorem RdB.blockLt {w : World} {v : Value} {l : List Nat} (h : RdB w v l) (hl : l ≠ []) {N : Nat} (hN : w.heap.size ≤ N) : Apart v N := by
  intro a n c e
  rcases h with ⟨-, h2⟩ | ⟨a', cap, h1, h2, h3⟩
  · exact absurd h2 hl
  · rw [e] at h1
    injection h1 with e1
    injection e1 with e1
    subst e1
    have := cell_block (h3 0 (List.length_pos_iff.2 hl))
    have hb : (a.add 0).block = a.block := by unfold Addr.add; split <;> rfl
    have := hb ▸ this
    omega
theorem RdBB.lenOf {w : World} {v : Value} {l : List (List Nat)} (h : RdBB w v l) : ∃ ao cap, v = .slice ao l.length cap := by
  rcases h with ⟨rfl, rfl⟩ | ⟨a, cap, rfl, -⟩
  · exact ⟨none, 0, rfl⟩
  · exact ⟨some a, cap, rfl⟩
theorem RdBB.row {w : World} {ao : Option Addr} {cap n : Nat} {l : List (List Nat)} (h : RdBB w (.slice ao n cap) l) {j : Nat} (hj : j < l.length) :
    ∃ b off uu, ao = some ⟨b, off, none⟩ ∧ b < w.heap.size ∧ w.cell? ⟨b, off + j, none⟩ = some uu ∧ RdB w uu (l.getD j []) := by
  rcases h with ⟨-, h2⟩ | ⟨a, c, h1, -, h3⟩
  · rw [h2] at hj; simp at hj
  · injection h1 with e1
    obtain ⟨uu, h4, h5⟩ := h3 j hj
    obtain ⟨u0, hu0, -⟩ := h3 0 (by omega)
    have hsp := World.cell?_spot hu0
    have hl := cell_block h4
    obtain ⟨b, off, spot⟩ := a
    have hspot : spot = none := by simpa [Addr.add] using hsp
    subst hspot
    have ea : ∀ k, (⟨b, off, none⟩ : Addr).add k = ⟨b, off + k, none⟩ := fun k => by unfold Addr.add; split <;> simp_all
    rw [ea] at h4
    exact ⟨b, off, uu, e1, hl, h4, h5⟩
theorem flat_take (l : List (List Nat)) (k : Nat) (hk : k < l.length) : (l.take (k + 1)).flatten = (l.take k).flatten ++ l.getD k [] := by
  rw [List.take_add_one, List.flatten_append, List.getElem?_eq_getElem hk]
  simp [List.getD_eq_getElem?_getD, hk]
theorem flat_take_le (l : List (List Nat)) (k : Nat) : (l.take k).flatten.length ≤ l.flatten.length := by
  have e : (l.take k).flatten ++ (l.drop k).flatten = l.flatten := by rw [← List.flatten_append, List.take_append_drop]
  rw [← e, List.length_append]; omega
theorem builtX : Tryz.prog.built 174 [(0, .agg (Ws beginL))] = some (hcells beginL (List.replicate 128 0) 0 0).toArray := by kernel_rfl
theorem zeroX : (Tryz.prog.info? 174).bind (·.zero) = some (.agg (hcells (List.replicate 8 0) (List.replicate 128 0) 0 0).toArray) := by kernel_rfl
theorem infoX : (Tryz.prog.info? 174).map (·.size) = some 138 := by kernel_rfl

set_option maxHeartbeats 8000000 in
set_option maxRecDepth 100000 in
theorem blake_Keyed (v u : Value) (key : List Nat) (L : List (List Nat)) (w : World) (hG : Glob w) (hk : RdB w v key) (hp : RdBB w u L) (bk : ∀ x ∈ key, x < 256) (bp : ∀ l ∈ L, ∀ x ∈ l, x < 256) (lk : key.length ≤ 1000000) (lp : L.flatten.length ≤ 1000000) (ll : (L.length : Int) ≤ 4611686018427387904) :
    Calls Tryz.prog 86 #[v, u] w fun e w' => e = .returned (.agg (Bs (keyedL key L.flatten)).toArray) ∧ Below w.heap.size w w' := by
  obtain ⟨ao, cap, rfl⟩ := hk.lenOf
  obtain ⟨K, hK⟩ : ∃ K, K = key.take 64 := ⟨_, rfl⟩
  have hKl : K.length = min key.length 64 := by rw [hK]; simp [Nat.min_comm]
  have E : (if (64 : Int) < (key.length : Int) then 64 else (key.length : Int)) = (K.length : Int) := by split <;> omega
  have E2 : min (key.length : Int) (64 : Int) = (K.length : Int) := by omega
  have hrK : RdB w (.slice ao K.length cap) K := by
    cases ao with
    | none => 
      rcases hk with ⟨h1, h2⟩ | ⟨a, c, h1, -⟩
      · injection h1 with h3 h4 h5
        subst h5
        have : K = [] := by rw [hK, h2]; rfl
        subst this
        exact .inl ⟨rfl, rfl⟩
      · cases h1
    | some a =>
      have := rd_take hk (k := K.length) (by omega)
      have e : key.take K.length = K := by
        rw [hKl]
        by_cases h : key.length ≤ 64
        · rw [Nat.min_eq_left h, List.take_length, hK, List.take_of_length_le h]
        · rw [Nat.min_eq_right (by omega), hK]
      rwa [e] at this
  have HK := Lib.hid hrK
  have HP := Lib.hid hp
  have HKe := Lib.hid hK
  have hK64 : (K.length : Int) ≤ 64 := by omega
  have hKcap : K.length ≤ cap := by
    rcases hrK with ⟨h1, h2⟩ | ⟨a, c, h1, h2, -⟩
    · rw [h2]; simp
    · injection h1 with h3 h4 h5; omega
  have hKn : (K.length : Int) ≤ (key.length : Int) := by omega
  have HBK := Lib.hid bk
  have HBP := Lib.hid bp
  have hmin : min key.length 64 = K.length := hKl.symm
  have HGG := Lib.hid hG
  clear hk hp hK hrK bk bp hKl hG
  go_enter Tryz.func86, Tryz.ntmps86
  go_upto_region 2 with fail
  obtain ⟨wz, hwz⟩ : ∃ wz, wz = w.alloc (.cells #[.int .u8 0, .int .u8 0, .int .u8 0, .int .u8 0, .int .u8 0, .int .u8 0, .int .u8 0, .int .u8 0, .int .u8 0, .int .u8 0, .int .u8 0, .int .u8 0, .int .u8 0, .int .u8 0, .int .u8 0, .int .u8 0, .int .u8 0, .int .u8 0, .int .u8 0, .int .u8 0, .int .u8 0, .int .u8 0, .int .u8 0, .int .u8 0, .int .u8 0, .int .u8 0, .int .u8 0, .int .u8 0, .int .u8 0, .int .u8 0, .int .u8 0, .int .u8 0] 41) := ⟨_, rfl⟩
  rw [← hwz]
  rw [zero32] at hwz
  have hzb : wz.heap[w.heap.size]? = some (.cells (Bs (List.replicate 32 0)).toArray 41 (0, 0)) := by rw [hwz]; exact heap_alloc_new w _
  have hzs : wz.heap.size = w.heap.size + 1 := by rw [hwz]; simp
  have hzB : Below w.heap.size w wz := by rw [hwz]; exact (Below.refl _ _).alloc (Nat.le_refl _) _
  have hgz : Glob wz := HGG.out.below hzB HGG.out.lt
  have HZB := Lib.hid hzb
  have HZBB := Lib.hid hzB
  have HGZ := Lib.hid hgz
  clear hwz hzb hzB hgz
  apply wp_region_lit
  obtain ⟨tb, hbeg⟩ := HGZ.out.beg
  refine wpl_load 0 140 tb _ (Ws beginL) (0, 0) _ rfl rfl rfl hbeg Tryz.underlying140 rfl (by rw [info8, Ws_size]; rfl) ?_
  clear hbeg
  refine wpl_build 174 (.tmp 13) _ _ rfl rfl rfl builtX ?_
  refine wpl_alloc 174 _ rfl rfl zeroX ?_
  refine wpl_store wz.heap.size 174 174 (.tmp 5) (.tmp 14) _ _ rfl rfl rfl rfl (heap_alloc_last _ _) infoX rfl (by kernel_rfl) ?_
  rw [World.setRow_alloc_new]
  dsimp only [Act.put]
  obtain ⟨wy, hwy⟩ : ∃ wy, wy = wz.alloc (.cells (hcells beginL (List.replicate 128 0) 0 0).toArray 174) := ⟨_, rfl⟩
  rw [← hwy]
  have hyb : HX wz.heap.size beginL (List.replicate 128 0) 0 0 wy := by rw [hwy]; exact ⟨heap_alloc_new wz _, rfl, rfl, beginL_small, fun i => by unfold gt; rw [List.getD_eq_getElem?_getD, List.getElem?_replicate]; split <;> decide⟩
  have hyz : wy.heap[w.heap.size]? = some (.cells (Bs (List.replicate 32 0)).toArray 41 (0, 0)) := by rw [hwy]; exact (Below.heap_alloc _ _ _ (by omega)).trans HZB.out
  have hyB : Below w.heap.size w wy := by rw [hwy]; exact HZBB.out.alloc (by omega) _
  have hyG : Glob wy := by rw [hwy]; exact HGZ.out.of (by simp) (fun k hk => Below.heap_alloc _ _ _ (Nat.lt_of_lt_of_le hk HGZ.out.lt))
  have hys : wy.heap.size = w.heap.size + 2 := by rw [hwy]; simp; omega
  obtain ⟨xb, hxb⟩ : ∃ xb, xb = wz.heap.size := ⟨_, rfl⟩
  rw [← hxb] at hyb ⊢
  have c0 := hyb.h (i := 0) (by decide)
  have f0 := hyb.frozen 0
  have HYB := Lib.hid hyb
  have HYZ := Lib.hid hyz
  have HYBB := Lib.hid hyB
  have HYG := Lib.hid hyG
  have hxs : xb = w.heap.size + 1 := by omega
  have HXS := Lib.hid hxs
  have hW1 : IntKind.u64.wrap (K.length : Int) = (K.length : Int) := by rw [IntKind.wrap_u64]; omega
  clear hwy hyb hyz hyB hyG hzs hxb hxs HZB HZBB HGZ
  clear wz
  have hxor : bits .xor .u64 ((gt beginL 0 : Nat) : Int) (bits .xor .u64 16842784 ((K.length : Int) * 256)) = ((gt (initL K.length) 0 : Nat) : Int) := by
    have e1 : gt (initL K.length) 0 = gt beginL 0 ^^^ (16842784 ^^^ K.length * 256) := by
      rw [← Nat.xor_assoc]; rfl
    have l1 : (16842784 ^^^ K.length * 256 : Nat) < 18446744073709551616 := Nat.xor_lt_two_pow (n := 64) (by decide) (by omega)
    rw [e1, show (K.length : Int) * 256 = ((K.length * 256 : Nat) : Int) by omega, show (16842784 : Int) = ((16842784 : Nat) : Int) from rfl, bits_xor_u64_nat 16842784 _ (by decide) (by omega), bits_xor_u64_nat _ _ (by decide) l1]
  have hl0 : gt (initL K.length) 0 < 18446744073709551616 := by
    have e1 : gt (initL K.length) 0 = gt beginL 0 ^^^ 16842784 ^^^ K.length * 256 := rfl
    rw [e1]
    exact Nat.xor_lt_two_pow (n := 64) (Nat.xor_lt_two_pow (n := 64) (by decide) (by decide)) (by omega)
  have hset : beginL.set 0 (gt (initL K.length) 0) = initL K.length := rfl
  have HXOR := Lib.hid hxor
  have HL0 := Lib.hid hl0
  have HSET := Lib.hid hset
  clear hxor hl0 hset
  go_upto_if 28 with fail
  rw [HXOR.out]
  obtain ⟨wx, hwx⟩ : ∃ wx, wx = wy.setCell ⟨xb, 0, none⟩ (.int .u64 ((gt (initL K.length) 0 : Nat) : Int)) := ⟨_, rfl⟩
  rw [← hwx]
  have hx0 : HX xb (initL K.length) (List.replicate 128 0) 0 0 wx := by
    have := HYB.out.setH 0 (by decide) HL0.out
    rw [HSET.out] at this
    rw [hwx]; exact this
  have hg0 : wy.grownBy wx (some xb) := by
    rw [hwx]; exact grown_set ⟨rfl, rfl, rfl, Nat.le_refl _, fun _ _ _ => rfl⟩ (.inl rfl)
  have hb2 : 3 ≤ xb := by have := HXS.out; have := HGG.out.lt; omega
  have hG0 : Glob wx := by rw [hwx]; exact HYG.out.setc hb2
  have HX0 := Lib.hid hx0
  have HG0 := Lib.hid hg0
  have HGG0 := Lib.hid hG0
  clear hwx hx0 hg0 hG0 c0 f0
  obtain ⟨A0, hA0⟩ : ∃ A0, A0 = (if K = [] then [] else K ++ List.replicate (128 - K.length) 0) := ⟨_, rfl⟩
  have HA0 := Lib.hid hA0
  clear hA0
  go_cut [1, 4, 5] (fun x1 x4 x5 wc => x1 = u ∧ x4 = .pointer (some ⟨w.heap.size, 0, none⟩) ∧ x5 = .pointer (some ⟨xb, 0, none⟩) ∧ (∃ h blk held count, HX xb h blk held count wc ∧ Inv (initL K.length) A0 h blk held count) ∧ wy.grownBy wc (some xb) ∧ Glob wc)
  case first =>
    by_cases hKz : K.length = 0
    · have hgd : decide (0 < K.length) = false := by rw [hKz]; rfl
      have hKn' : K = [] := List.length_eq_zero_iff.1 hKz
      have hA : A0 = [] := by rw [HA0.out, if_pos hKn']
      have hInv : Inv (initL K.length) A0 (initL K.length) (List.replicate 128 0) 0 0 := by rw [hA]; exact ⟨by decide, rfl, fun rest => rfl⟩
      have HI := Lib.hid hInv
      clear hKn' hA hInv hKz
      rw [hgd]
      clear hgd
      go_wp2_with fail
      go_meet
      exact ⟨rfl, rfl, rfl, ⟨_, _, _, _, HX0.out, HI.out⟩, HG0.out, HGG0.out⟩
    · have hgd : decide (0 < K.length) = true := decide_eq_true (by omega)
      have hKn' : K ≠ [] := fun e => hKz (by rw [e]; rfl)
      have hA : A0 = K ++ List.replicate (128 - K.length) 0 := by rw [HA0.out, if_neg hKn']
      have hKpos : 0 < K.length := by omega
      rw [hgd]
      clear hgd hKz
      have hrK := HK.out
      obtain ⟨a, hao⟩ : ∃ a, ao = some a := by
        rcases hrK with ⟨-, h2⟩ | ⟨a, c, h1, -⟩
        · exact absurd h2 hKn'
        · injection h1 with h3 h4 h5; exact ⟨a, h3⟩
      subst hao
      have hcs := (RdB.cells hrK).2
      have hc0 := hcs 0 (.int .u8 (gt K 0 : Nat)) (by simp [Bs, gt, hKpos])
      have hspot : a.spot = none := by
        have := World.cell?_spot hc0
        simpa [Addr.add] using this
      have hab : a.block < w.heap.size := by
        have hl := cell_block hc0
        have hb : (a.add 0).block = a.block := by unfold Addr.add; split <;> rfl
        exact hb ▸ hl
      obtain ⟨ab, aoff, sp⟩ := a
      simp only at hspot hab
      subst hspot
      have hxs := HXS.out
      have hrx : RdB wx (.slice (some ⟨ab, aoff, none⟩) K.length cap) K := (hrK.below HYBB.out).grown HG0.out (fun a n c e => by injection e with e1; injection e1 with e1; rw [← e1]; simp only; omega)
      have hsrc : ∀ i v, (Bs K)[i]? = some v → wx.cell? ((⟨ab, aoff, none⟩ : Addr).add i) = some v := (RdB.cells hrx).2
      have HSRC := Lib.hid hsrc
      have hKs : ∀ i, gt K i < 256 := fun i => by
        by_cases hi : i < K.length
        · have e : gt K i = K[i] := by simp only [gt, List.getD_eq_getElem?_getD, List.getElem?_eq_getElem hi, Option.getD_some]
          rw [e]
          have hm : K[i] ∈ key.take 64 := by rw [← HKe.out]; exact List.getElem_mem hi
          exact HBK.out _ (List.mem_of_mem_take hm)
        · rw [gt_ge (by omega)]; decide
      have HKS := Lib.hid hKs
      have hKl : K.length ≤ 64 := by omega
      have hlaid : laidAt (List.replicate 128 0) K 0 = A0 := by
        rw [hA]; unfold laidAt
        simp only [List.take_zero, List.nil_append, Nat.zero_add, List.drop_replicate]
      have hA0l : A0.length = 128 := by rw [← hlaid]; exact laidAt_len rfl (by omega)
      have HLA := Lib.hid hlaid
      have HAL := Lib.hid hA0l
      clear hrK hcs hc0 hab hxs hrx hsrc hKs hA hlaid hA0l hKn'
      go_wp2_with (first | (refine wpList_copy_own rfl _ _ 75 75 rfl 5 Tryz.underlying75 info5s xb 8 128 128 ⟨ab, aoff, none⟩ K.length cap rfl rfl (hcells (initL K.length) (List.replicate 128 0) 0 0).toArray 174 HX0.out.at_ (Bs K) (by rw [Bs_length]; exact (Nat.min_eq_left (by omega)).symm) HSRC.out (by rw [Bs_length]; simp only [List.size_toArray, hcells, List.length_append, List.length_map, HX0.out.hl, Bs_length, HX0.out.bl, List.length_cons, List.length_nil]; omega) (Bs_one K) ?_; obtain ⟨w5, hw5⟩ : ∃ w5, w5 = wx.setRow xb (((hcells (initL K.length) (List.replicate 128 0) 0 0).toArray.toList.take 8) ++ (Bs K ++ (hcells (initL K.length) (List.replicate 128 0) 0 0).toArray.toList.drop (8 + (Bs K).length))).toArray := ⟨_, rfl⟩; have hx5 : HX xb (initL K.length) A0 0 0 w5 := (by
        have := HX0.out.splice (q := K) (by omega) HKS.out
        rw [List.append_assoc, HLA.out] at this
        rw [hw5]; exact this); have hg5 : wy.grownBy w5 (some xb) := (by
        have g := HG0.out
        rw [hw5]
        exact ⟨g.os, g.tape, g.output, by simp; exact g.size, fun k hk hr => (setRow_other _ xb k _ (fun e => hr (by rw [e]))).trans (g.block k hk hr)⟩); have hG5 : Glob w5 := (by
        rw [hw5]
        exact HGG0.out.of (by simp) (fun k hk => setRow_other _ xb k _ (by omega))); rw [← hw5]; have k5 := hx5.held; have f5 := hx5.frozen 136; have HX5 := Lib.hid (hx5.setHeld 128); have HG5 := Lib.hid (grown_set (i := 136) (v := .int .i64 (128 : Int)) hg5 (.inl rfl)); have HGG5 := Lib.hid (hG5.setc (c := xb) (i := 136) (v := .int .i64 (128 : Int)) hb2); clear hx5 hg5 hG5 hw5) | fail)
      go_meet
      exact ⟨rfl, rfl, rfl, ⟨_, _, _, _, HX5.out, ⟨by decide, by rw [HAL.out], fun rest => by rw [List.take_of_length_le (by rw [HAL.out]; decide)]⟩⟩, HG5.out, HGG5.out⟩
  case rest =>
    obtain ⟨rfl, rfl, rfl, ⟨h, blk, held, count, hx, hi⟩, hg, hG⟩ := hcut
    obtain ⟨uo, ucap, rfl⟩ := HP.out.lenOf
    have HXC := Lib.hid hx
    have HIC := Lib.hid hi
    have HGC := Lib.hid hg
    have HGGC := Lib.hid hG
    have hA0l : A0.length ≤ 128 := by rw [HA0.out]; split <;> simp <;> omega
    clear hx hi hg hG
    go_wp2
    go_loopw [36] (fun i wr => ∃ n : Nat, n ≤ L.length ∧ i = .int .i64 n ∧ (∃ h blk held count, HX xb h blk held count wr ∧ Inv (initL K.length) (A0 ++ (L.take n).flatten) h blk held count) ∧ wy.grownBy wr (some xb) ∧ Glob wr) (fun i _ => L.length - (intOf i).toNat)
    case atStart => exact ⟨0, by omega, rfl, ⟨_, _, _, _, HXC.out, by simpa using HIC.out⟩, HGC.out, HGGC.out⟩
    case round =>
      obtain ⟨n, hn, rfl, ⟨h', blk', held', count', hx, hi⟩, hg, hG⟩ := hrel
      have hys' := HYBB.out.size
      have hxs' := HXS.out
      by_cases hlt : n < L.length
      · obtain ⟨rb, ro, uu, rfl, hrb, hcell, hru⟩ := HP.out.row hlt
        obtain ⟨p, hp⟩ : ∃ p, p = L.getD n [] := ⟨_, rfl⟩
        rw [← hp] at hru
        have hrbx : rb ≠ xb := by omega
        have hcw : wr.cell? ⟨rb, ro + n, none⟩ = some uu := by
          rw [← hcell, ← HYBB.out.cell (p := ⟨rb, ro + n, none⟩) hrb]
          exact World.cell?_of_block (hg.block _ (by simp only; omega) (by simp only; intro e; injection e with e; exact hrbx e))
        have hap : p ≠ [] → Apart uu xb := fun h0 => hru.blockLt h0 (by omega)
        have hrw : p ≠ [] → RdB wr uu p := fun h0 => (hru.below HYBB.out).grown hg (hap h0)
        have hrw' : RdB wr uu p := by
          by_cases h0 : p = []
          · rcases hru with h1 | ⟨a, c, h1, h2, -⟩
            · exact .inl h1
            · exact .inr ⟨a, c, h1, h2, fun i hi => by rw [h0] at hi; simp at hi⟩
          · exact hrw h0
        have hpm : p ∈ L := by
          rw [hp, List.getD_eq_getElem?_getD, List.getElem?_eq_getElem hlt]; exact List.getElem_mem hlt
        have hfl := flat_take L n hlt
        have hle := flat_take_le L (n + 1)
        rw [hfl, ← hp, List.length_append] at hle
        have hbp : ∀ x ∈ p, x < 256 := HBP.out p hpm
        have hlen : (A0 ++ (L.take n).flatten).length + p.length ≤ 1000000000 := by rw [List.length_append]; omega
        have HXR := Lib.hid hx
        have HIR := Lib.hid hi
        have HGR := Lib.hid hg
        have HGGR := Lib.hid hG
        have HAP := Lib.hid hap
        have HRW := Lib.hid hrw'
        have HFL := Lib.hid hfl
        have HBPP := Lib.hid hbp
        have HLEN := Lib.hid hlen
        have HPD := Lib.hid hp
        clear hx hi hg hG hap hrw hrw' hfl hbp hlen hp hru hcell hpm hle hrbx
        obtain ⟨h00, hh00⟩ : ∃ h00, h00 = initL K.length := ⟨_, rfl⟩
        obtain ⟨A1, hA1⟩ : ∃ A1, A1 = A0 ++ (L.take n).flatten := ⟨_, rfl⟩
        clear hys' hxs'
        rw [← hh00, ← hA1] at HIR
        rw [← hA1] at HLEN
        have HH00 := Lib.hid hh00
        have HA1 := Lib.hid hA1
        clear hh00 hA1
        go_wp2_with (first | (go_at_call 107; refine (blake_write' xb h00 A1 h' blk' held' count' uu p wr HGGR.out HXR.out hb2 HIR.out HRW.out HAP.out HBPP.out HLEN.out).mono ?_; rintro e wM ⟨rfl, hM⟩; have HM := Lib.hid hM; clear hM) | fail)
        obtain ⟨⟨h2, b2, he2, co2, hx2, hi2⟩, hg2, hG2⟩ := HM.out
        refine ⟨⟨n + 1, by omega, by go_num, ⟨h2, b2, he2, co2, hx2, ?_⟩, grown_trans HGR.out hg2, hG2⟩, by simp only [intOf]; omega⟩
        rw [HFL.out, ← HPD.out, ← List.append_assoc, ← HA1.out, ← HH00.out]
        exact hi2
      · have hnL : n = L.length := by omega
        subst hnL
        rw [List.take_length] at hi
        have HXR := Lib.hid hx
        have HIR := Lib.hid hi
        have HGR := Lib.hid hg
        have HGGR := Lib.hid hG
        have hlen : (A0 ++ L.flatten).length ≤ 1000000000 := by rw [List.length_append]; omega
        have hout := outL_len (chainL (initL K.length) (A0 ++ L.flatten) 0)
        have HOUT := Lib.hid hout
        have HLEN := Lib.hid hlen
        obtain ⟨O, hO⟩ : ∃ O, O = outL (chainL (initL K.length) (A0 ++ L.flatten) 0) := ⟨_, rfl⟩
        have HO := Lib.hid hO
        clear hx hi hg hG hlen hout hO
        obtain ⟨h00, hh00⟩ : ∃ h00, h00 = initL K.length := ⟨_, rfl⟩
        obtain ⟨A1, hA1⟩ : ∃ A1, A1 = A0 ++ L.flatten := ⟨_, rfl⟩
        clear hys' hxs'
        rw [← hA1] at HIR HLEN HOUT HO
        rw [← hh00] at HIR HOUT HO
        have HH00 := Lib.hid hh00
        have HA1 := Lib.hid hA1
        clear hh00 hA1
        go_wp2_with (first | (go_at_call 108; refine (blake_end xb h00 A1 h' blk' held' count' wr HGGR.out HXR.out hb2 HIR.out HLEN.out).mono ?_; rintro e wM ⟨rfl, hM⟩; have HM := Lib.hid hM; clear hM; have hz : wM.heap[w.heap.size]? = some (.cells (Bs (List.replicate 32 0)).toArray 41 (0, 0)) := (by
          have h1 := HGR.out.size
          have h2 := HXS.out
          exact (HM.out.block _ (by omega) (by simp; omega)).trans ((HGR.out.block _ (by omega) (by simp; omega)).trans HYZ.out)); have HZ := Lib.hid hz; clear hz; rw [← HO.out]) | (refine wpl_store w.heap.size 41 41 _ _ (Bs (List.replicate 32 0)).toArray (Bs O).toArray rfl rfl rfl rfl HZ.out (by rw [infoH, Bs_size, HO.out, HOUT.out]) (by rw [Bs_size, Bs_size, HO.out, HOUT.out]; rfl) (Bs_all _) ?_) | fail)
        refine bodyPost_ret (results_row (b := w.heap.size) (t := 41) Tryz.results86 rfl (setRow_heap wM w.heap.size _ _ _ _ HZ.out) Tryz.underlying41 rfl (by rw [infoH, Bs_size, HO.out, HOUT.out])) rfl ⟨?_, ?_⟩
        · have e : O = keyedL key L.flatten := by
            rw [HO.out, HA1.out, HH00.out]
            unfold keyedL allL
            rw [← HKe.out, ← HA0.out]
          rw [e]
        · have g := grown_trans HGR.out HM.out
          refine setRow_below (HYBB.out.trans ⟨g.os, g.tape, g.output, g.size, fun k hk => g.block k (Nat.lt_of_lt_of_le hk HYBB.out.size) (fun e => ?_)⟩) (Nat.le_refl _)
          have h2 := HXS.out
          injection e with e
          omega
end Go.Proofs.YtcfcfijmfgnpfaaGreatDoor
end

section
namespace Go.Proofs.YtcfcfijmfgnpfaaGreatDoor
open Go.RowKit
set_option linter.unusedVariables false
set_option linter.unusedSimpArgs false

set_option maxHeartbeats 8000000 in
set_option maxRecDepth 100000 in
theorem blake_Sum (u : Value) (L : List (List Nat)) (w : World) (hG : Glob w) (hp : RdBB w u L) (bp : ∀ l ∈ L, ∀ x ∈ l, x < 256) (lp : L.flatten.length ≤ 1000000) (ll : (L.length : Int) ≤ 4611686018427387904) :
    Calls Tryz.prog 63 #[u] w fun e w' => e = .returned (.agg (Bs (keyedL [] L.flatten)).toArray) ∧ Below w.heap.size w w' := by
  have HP := Lib.hid hp
  have HBP := Lib.hid bp
  have HG := Lib.hid hG
  have HLL := Lib.hid ll
  have hout : (keyedL [] L.flatten).length = 32 := outL_len _
  obtain ⟨O, hO⟩ : ∃ O, O = keyedL [] L.flatten := ⟨_, rfl⟩
  rw [← hO] at hout ⊢
  have HO := Lib.hid hO
  have HOUT := Lib.hid hout
  clear hp bp hG ll hO hout
  go_enter Tryz.func63, Tryz.ntmps63
  go_upto_region 1 with fail
  obtain ⟨wz, hwz⟩ : ∃ wz, wz = w.alloc (.cells #[.int .u8 0, .int .u8 0, .int .u8 0, .int .u8 0, .int .u8 0, .int .u8 0, .int .u8 0, .int .u8 0, .int .u8 0, .int .u8 0, .int .u8 0, .int .u8 0, .int .u8 0, .int .u8 0, .int .u8 0, .int .u8 0, .int .u8 0, .int .u8 0, .int .u8 0, .int .u8 0, .int .u8 0, .int .u8 0, .int .u8 0, .int .u8 0, .int .u8 0, .int .u8 0, .int .u8 0, .int .u8 0, .int .u8 0, .int .u8 0, .int .u8 0, .int .u8 0] 41) := ⟨_, rfl⟩
  rw [← hwz]
  rw [zero32] at hwz
  have hzb : wz.heap[w.heap.size]? = some (.cells (Bs (List.replicate 32 0)).toArray 41 (0, 0)) := by rw [hwz]; exact heap_alloc_new w _
  have hzs : w.heap.size < wz.heap.size := by rw [hwz]; simp
  have hzB : Below w.heap.size w wz := by rw [hwz]; exact (Below.refl _ _).alloc (Nat.le_refl _) _
  have hgz : Glob wz := HG.out.below hzB HG.out.lt
  have HZB := Lib.hid hzb
  have HZBB := Lib.hid hzB
  have HGZ := Lib.hid hgz
  clear hwz hzb hzB hgz
  have HC := Lib.hid (blake_Keyed (.slice none 0 0) u [] L wz HGZ.out (.inl ⟨rfl, rfl⟩) (HP.out.below HZBB.out) (fun x hx => by cases hx) HBP.out (by decide) lp HLL.out)
  rw [← HO.out] at HC
  go_wp2_with (first | (go_at_call 86; refine (HC.out).mono ?_; rintro e wM ⟨rfl, hM⟩; have hz : wM.heap[w.heap.size]? = some (.cells (Bs (List.replicate 32 0)).toArray 41 (0, 0)) := ((hM.block _ (by omega)).trans HZB.out); have HM := Lib.hid hM; have HZ := Lib.hid hz; clear hM hz) | (refine wpl_store w.heap.size 41 41 _ _ (Bs (List.replicate 32 0)).toArray (Bs O).toArray rfl rfl rfl rfl HZ.out (by rw [infoH, Bs_size, HOUT.out]) (by rw [Bs_size, Bs_size, HOUT.out]; rfl) (Bs_all _) ?_) | fail)
  refine bodyPost_ret (results_row (b := w.heap.size) (t := 41) Tryz.results63 rfl (setRow_heap wM w.heap.size _ _ _ _ HZ.out) Tryz.underlying41 rfl (by rw [infoH, Bs_size, HOUT.out])) rfl ⟨rfl, ?_⟩
  exact setRow_below (HZBB.out.trans (HM.out.mono (Nat.le_of_lt hzs))) (Nat.le_refl _)
end Go.Proofs.YtcfcfijmfgnpfaaGreatDoor
end

section
namespace Go.Proofs.YtcfcfijmfgnpfaaGreatDoor
open Go.RowKit
set_option linter.unusedVariables false
set_option linter.unusedSimpArgs false

set_option maxHeartbeats 8000000 in
set_option maxRecDepth 100000 in
theorem ref_Sum (u : Value) (p : List Nat) (w : World) (hp : RdB w u p) (bp : ∀ x ∈ p, x < 256) (lp : p.length ≤ 1000000) :
    Calls Tryz.prog 42 #[u] w fun e w' => e = .returned (.agg (Bs (keyedL [] p)).toArray) ∧ Below w.heap.size w w' := by
  have HP := Lib.hid hp
  have HBP := Lib.hid bp
  have hout : (keyedL [] p).length = 32 := outL_len _
  obtain ⟨O, hO⟩ : ∃ O, O = keyedL [] p := ⟨_, rfl⟩
  rw [← hO] at hout ⊢
  have HO := Lib.hid hO
  have HOUT := Lib.hid hout
  clear hp bp hO hout
  go_enter Tryz.func42, Tryz.ntmps42
  go_upto_region 1 with fail
  obtain ⟨wz, hwz⟩ : ∃ wz, wz = w.alloc (.cells #[.int .u8 0, .int .u8 0, .int .u8 0, .int .u8 0, .int .u8 0, .int .u8 0, .int .u8 0, .int .u8 0, .int .u8 0, .int .u8 0, .int .u8 0, .int .u8 0, .int .u8 0, .int .u8 0, .int .u8 0, .int .u8 0, .int .u8 0, .int .u8 0, .int .u8 0, .int .u8 0, .int .u8 0, .int .u8 0, .int .u8 0, .int .u8 0, .int .u8 0, .int .u8 0, .int .u8 0, .int .u8 0, .int .u8 0, .int .u8 0, .int .u8 0, .int .u8 0] 41) := ⟨_, rfl⟩
  rw [← hwz]
  rw [zero32] at hwz
  have hzb : wz.heap[w.heap.size]? = some (.cells (Bs (List.replicate 32 0)).toArray 41 (0, 0)) := by rw [hwz]; exact heap_alloc_new w _
  have hzs : w.heap.size < wz.heap.size := by rw [hwz]; simp
  have hzB : Below w.heap.size w wz := by rw [hwz]; exact (Below.refl _ _).alloc (Nat.le_refl _) _
  have HZB := Lib.hid hzb
  have HZBB := Lib.hid hzB
  clear hwz hzb hzB
  have HC := Lib.hid (ref_Keyed (.slice none 0 0) u [] p wz (.inl ⟨rfl, rfl⟩) (HP.out.below HZBB.out) (fun x hx => by cases hx) HBP.out (by decide) lp)
  rw [← HO.out] at HC
  go_wp2_with (first | (go_at_call 59; refine (HC.out).mono ?_; rintro e wM ⟨rfl, hM⟩; have hz : wM.heap[w.heap.size]? = some (.cells (Bs (List.replicate 32 0)).toArray 41 (0, 0)) := ((hM.block _ (by omega)).trans HZB.out); have HM := Lib.hid hM; have HZ := Lib.hid hz; clear hM hz) | (refine wpl_store w.heap.size 41 41 _ _ (Bs (List.replicate 32 0)).toArray (Bs O).toArray rfl rfl rfl rfl HZ.out (by rw [infoH, Bs_size, HOUT.out]) (by rw [Bs_size, Bs_size, HOUT.out]; rfl) (Bs_all _) ?_) | fail)
  refine bodyPost_ret (results_row (b := w.heap.size) (t := 41) Tryz.results42 rfl (setRow_heap wM w.heap.size _ _ _ _ HZ.out) Tryz.underlying41 rfl (by rw [infoH, Bs_size, HOUT.out])) rfl ⟨rfl, ?_⟩
  exact setRow_below (HZBB.out.trans (HM.out.mono (Nat.le_of_lt hzs))) (Nat.le_refl _)
end Go.Proofs.YtcfcfijmfgnpfaaGreatDoor
end

section
namespace Go.Proofs.YtcfcfijmfgnpfaaGreatDoor
open Go.RowKit
set_option linter.unusedVariables false
set_option linter.unusedSimpArgs false

theorem keyedL_len8 (k p : List Nat) : (keyedL k p).length = 32 := outL_len _
theorem eqK8 (k q : List Nat) (w : World) : (binOp .eql 41 (.agg (Bs (keyedL k q)).toArray) (.agg (Bs (keyedL k q)).toArray)).run Tryz.prog w = .ok (.bool true) w := by
  rw [run_eql_hash w _ _ (keyedL_len8 _ _) (keyedL_len8 _ _)]
  simp
theorem guardH8 (op : BinOp) (x y : Operand) (xs ys : Array Value) (w : World) : (eqGuard op 41 x y (.agg xs) (.agg ys)).run Tryz.prog w = .ok () w :=
  run_eqGuard_agg w op _ x y xs ys (by kernel_rfl)
/-- What a call's digest is made of. -/
def sumT (c : Cl) : List Nat := if okC 3 c then layT c else []
theorem numsL_lt8 (l : List Int) : ∀ c ∈ numsL l, c < 256 := by
  induction l with
  | nil => simp [numsL]
  | cons n l ih =>
    intro c hc
    rw [numsL, List.mem_append] at hc
    exact hc.elim (numL_lt _ c) (ih c)
mutual
theorem layT_lt8 : ∀ (c : Cl), ∀ b ∈ layT c, b < 256
  | .mk k t n l => by
    intro b hb
    rw [layT, List.mem_append] at hb
    exact hb.elim (numsL_lt8 _ b) (laysT_lt8 l b)
theorem laysT_lt8 : ∀ (l : List Cl), ∀ b ∈ laysT l, b < 256
  | [] => by intro b hb; simp [laysT] at hb
  | c :: l => by
    intro b hb
    rw [laysT, List.mem_append] at hb
    exact hb.elim (rowL_lt _ (layT_lt8 c) b) (laysT_lt8 l b)
end
theorem sumT_lt (c : Cl) : ∀ b ∈ sumT c, b < 256 := by
  unfold sumT
  split
  · exact layT_lt8 c
  · intro b hb; cases hb
theorem sumT_len (c : Cl) : (sumT c).length ≤ 3816 := by
  unfold sumT
  split
  · rename_i h; exact okC3_len h
  · simp
theorem code_EncodeCallT (d : Nat) (c : Cl) (v : Value) (w : World) (hrd : RdC w d v c) : Calls Tryz.prog 43 #[v] w fun e w' => ∃ (u : Value) (q : Int), e = .returned (.tuple #[u, .int .i64 q]) ∧ OwnB w.heap.size u (Bs (sumT c)) w' ∧ Below w.heap.size w w' := (code_EncodeCall d c v w hrd).mono fun e w' ⟨u, h1, h2⟩ => ⟨u, _, h1, h2⟩
set_option maxRecDepth 100000 in
set_option maxHeartbeats 8000000 in
theorem code_Sum (d : Nat) (c : Cl) (v : Value) (w : World) (hG : Glob w) (hrd : RdC w d v c) : Calls Tryz.prog 45 #[v] w fun e w' => e = .returned (.agg (Bs (keyedL [] (sumT c))).toArray) ∧ Below w.heap.size w w' := by
  obtain ⟨d', ao, cap, -, rfl, -⟩ := hrd.open
  obtain ⟨k, hk⟩ : ∃ k, k = c.k := ⟨_, rfl⟩
  obtain ⟨t, ht⟩ : ∃ t, t = c.t := ⟨_, rfl⟩
  obtain ⟨n, hn⟩ : ∃ n, n = c.n := ⟨_, rfl⟩
  obtain ⟨m, hm⟩ : ∃ m, m = c.kids.length := ⟨_, rfl⟩
  rw [← hk, ← ht, ← hn, ← hm] at hrd ⊢
  have hout : (keyedL [] (sumT c)).length = 32 := outL_len _
  have hb256 := sumT_lt c
  have hslen := sumT_len c
  obtain ⟨X, hX⟩ : ∃ X, X = sumT c := ⟨_, rfl⟩
  obtain ⟨O, hO⟩ : ∃ O, O = keyedL [] (sumT c) := ⟨_, rfl⟩
  rw [← hO] at hout ⊢
  obtain ⟨w1, hw1⟩ : ∃ w1, w1 = w.alloc (.cells #[.int .i64 k, .int .i64 t, .int .i64 n, .slice ao m cap] 45) := ⟨_, rfl⟩
  have hB1 : Below w.heap.size w w1 := by rw [hw1]; exact (Below.refl _ w).alloc (Nat.le_refl _) _
  have hrg1 : w1.rangeAt w.heap.size 0 [.int .i64 k, .int .i64 t, .int .i64 n, .slice ao m cap] := by rw [hw1]; exact rangeAt_new _
  obtain ⟨wz, hwz⟩ : ∃ wz, wz = w1.alloc (.cells #[.int .u8 0, .int .u8 0, .int .u8 0, .int .u8 0, .int .u8 0, .int .u8 0, .int .u8 0, .int .u8 0, .int .u8 0, .int .u8 0, .int .u8 0, .int .u8 0, .int .u8 0, .int .u8 0, .int .u8 0, .int .u8 0, .int .u8 0, .int .u8 0, .int .u8 0, .int .u8 0, .int .u8 0, .int .u8 0, .int .u8 0, .int .u8 0, .int .u8 0, .int .u8 0, .int .u8 0, .int .u8 0, .int .u8 0, .int .u8 0, .int .u8 0, .int .u8 0] 41) := ⟨_, rfl⟩
  have HWZ := Lib.hid (And.intro hw1 hwz)
  have hwz2 := hwz
  rw [zero32] at hwz2
  obtain ⟨ob, hob⟩ : ∃ ob, ob = w.heap.size + 1 := ⟨_, rfl⟩
  have hs1 : w1.heap.size = w.heap.size + 1 := by rw [hw1]; simp
  have hzb : wz.heap[ob]? = some (.cells (Bs (List.replicate 32 0)).toArray 41 (0, 0)) := by rw [hwz2, hob, ← hs1]; exact heap_alloc_new w1 _
  have hzB1 : Below w1.heap.size w1 wz := by rw [hwz]; exact (Below.refl _ _).alloc (Nat.le_refl _) _
  have hzB : Below w.heap.size w wz := hB1.trans (hzB1.mono hB1.size)
  have hzs : ob < wz.heap.size := by rw [hob, hwz]; simp [hs1]
  have hrgz := rangeAt_keep hrg1 (hzB1.block w.heap.size (by omega))
  have he := code_EncodeCallT d c _ wz (RdC.below hzB hrd)
  rw [← hX] at he hb256 hslen
  have HE := Lib.hid he
  have HZ0 := Lib.hid (And.intro hzb (And.intro hzB (And.intro hzs hrgz)))
  have HGZ := Lib.hid (hG.below hzB hG.lt)
  have HO := Lib.hid (show O = keyedL [] X by rw [hO, hX])
  have HOUT := Lib.hid (And.intro hout (And.intro hb256 hslen))
  have hob1 : w.heap.size ≤ ob := by omega
  have HOB := Lib.hid (And.intro hob hob1)
  clear hk ht hn hm hrd hG hout hb256 hslen hX hO hB1 hrg1 hwz2 hs1 hzb hzB1 hzB hzs hrgz he hw1 hwz hob1 hob
  go_enter Tryz.func45, Tryz.ntmps45
  go_upto_region 1 with fail
  rw [← HWZ.out.1, ← HWZ.out.2, ← HOB.out.1]
  go_wp2_with (first
    | (refine wpl_loadC _ rfl rfl rfl HZ0.out.2.2.2 rfl ?_)
    | (go_at_call 43; refine HE.out.mono ?_; rintro e w3 ⟨u, er, rfl, ho, hb⟩; obtain ⟨a6, c6, hv6⟩ := ho.reads.lenOf; obtain ⟨z, hz⟩ : ∃ z, z = X.length := ⟨_, rfl⟩; rw [← hz] at hv6; subst hv6; have HU := Lib.hid (rdBB_oneC (T := 75) ho.reads); have hb4 := hb.alloc hb.size (.cells #[.slice a6 z c6] 75); have HG4 := Lib.hid (HGZ.out.below hb4 HGZ.out.lt); have H4 := Lib.hid hb4; clear hz ho hb hb4)
    | (go_at_call 63; refine (blake_Sum _ [X] _ HG4.out HU.out (by intro l hl; rw [List.mem_singleton.1 hl]; exact HOUT.out.2.1) (by simp; have := HOUT.out.2.2; omega) (by simp)).mono ?_; rw [show ([X] : List (List Nat)).flatten = X from List.append_nil X, ← HO.out]; rintro e wM ⟨rfl, hM⟩; have hM2 := H4.out.trans (hM.mono H4.out.size); have hz : wM.heap[ob]? = some (.cells (Bs (List.replicate 32 0)).toArray 41 (0, 0)) := (hM2.block _ HZ0.out.2.2.1).trans HZ0.out.1; have HM := Lib.hid hM2; have HZ := Lib.hid hz; clear hM hM2 hz)
    | (refine wpl_store ob 41 41 _ _ (Bs (List.replicate 32 0)).toArray (Bs O).toArray rfl rfl rfl rfl HZ.out (by rw [infoH, Bs_size, HOUT.out.1]) (by rw [Bs_size, Bs_size, HOUT.out.1]; rfl) (Bs_all _) ?_)
    | fail)
  refine bodyPost_ret (results_row (b := ob) (t := 41) Tryz.results45 rfl (setRow_heap wM ob _ _ _ _ HZ.out) Tryz.underlying41 rfl (by rw [infoH, Bs_size, HOUT.out.1])) rfl ⟨rfl, ?_⟩
  exact setRow_below (HZ0.out.2.1.trans (HM.out.mono HZ0.out.2.1.size)) HOB.out.2
end Go.Proofs.YtcfcfijmfgnpfaaGreatDoor
end
