/-
  The document's digest, with a key.
-/
import Derived.Test.YtbndegkgpoemnaaDoorBlk6
import Derived.Test.YtbndegkgpoemnaaDoorBytes
import Derived.Test.YtbndegkgpoemnaaDoorApz
import Derived.Test.YtbndegkgpoemnaaDoorWhole
import Derived.Deep.DeepCutAuto
namespace Go.Proofs.YtbndegkgpoemnaaDoor
open Go.RowKit
set_option linter.unusedVariables false
set_option linter.unusedSimpArgs false

theorem infoH : (Tryd.prog.info? 39).map (·.size) = some 32 := by kernel_rfl
theorem info8 : (Tryd.prog.info? 86).map (·.size) = some 8 := by kernel_rfl

theorem asZeros (l : List Nat) (m : Nat) : Bs (l ++ List.replicate m 0) = Bs l ++ List.replicate m (.int .u8 0) := by simp [Bs]
/-- 'append(v, make([]byte, m)...)'. -/
theorem wp_app_Z {w : World} {ops : Array Oper} {rest : List Oper} {o : Oper} {a : Act} {Q : Exit → Act → World → Prop} {s x : Operand} {B : Nat} {v : Value} {xs : List Nat} {m : Nat} (hgd : o.guard = none)
    (ho : o.op = .call { callee := .builtin .append, args := #[s, x], argTypes := #[25, 3] }) (hs : a.eval s = v) (hx : a.eval x = .int .i64 (m : Nat))
    (hown : OwnB B v (Bs xs) w) (hm : m ≤ 1000) (hlen : xs.length + m ≤ 1099511627776) (hB : B ≤ w.heap.size)
    (h : ∀ v' w', OwnB B v' (Bs (xs ++ List.replicate m 0)) w' → Below B w w' → B ≤ w'.heap.size → w.grownBy w' v.ownBlock → wpList Tryd.prog ops Q rest (a.put o.dst v') w') : wpList Tryd.prog ops Q (o :: rest) a w := by
  obtain ⟨i0, hi, hz0, hz1, hz2⟩ := info_parts info5
  obtain ⟨v', w', hr, h1, h2⟩ := run_app_zeros (P := Tryd.prog) w B 25 3 o.type 5 i0 (.int .u8 0) (.int .u8 0) Tryd.underlying25 Tryd.underlying3 hi hz0 hz1 hz2 rfl rfl v _ _ hown m hm (by rw [Bs_length]; exact hlen) hB
  refine wpList_plain hgd fun K hK => ?_
  unfold Oper.wp execOp
  simp only [ho, resolve, invoke, builtin, Sem.run_bind, Sem.run_pure, Result.andThen_ok, List.map_toArray, List.map_cons, List.map_nil, hs, hx, hr]
  refine hK _ _ (h v' w' ?_ ((Below.refl _ _).grown h2 hB (fun k hk => (World.ownsRow.lt hown k hk).1)) (Nat.le_trans hB h2.size) h2)
  unfold OwnB
  rw [asZeros, List.length_append, List.length_replicate]; exact h1

theorem OwnB.of {S S' : Nat} {v : Value} {l : List Value} {w w' : World} (h : OwnB S v l w) (hS : S' ≤ S) (hk : ∀ k, v.ownBlock = some k → w'.heap[k]? = w.heap[k]?) : OwnB S' v l w' := by
  refine ⟨h.1, ?_⟩
  rcases h.2 with h | ⟨g, cap, cur, h1, h2, h3, h4⟩
  · exact .inl h
  · exact .inr ⟨g, cap, cur, h1, Nat.le_trans hS h2, (hk g (by rw [h1]; rfl)).trans h3, h4⟩
theorem rd_empty {w : World} {a : Addr} {n cap : Nat} (h : n = 0) : RdB w (.slice (some a) n cap) [] := by
  subst h; exact .inr ⟨a, cap, rfl, Nat.zero_le _, fun i hi => by simp at hi⟩
theorem Ws_size (l : List Nat) : (Ws l).size = l.length := by simp [Ws]
theorem Ws_one (l : List Nat) : (Ws l).all (·.oneCell') = true := by
  rw [Array.all_eq_true_iff_forall_mem]
  intro v hv
  simp [Ws] at hv
  obtain ⟨n, -, rfl⟩ := hv
  rfl
theorem ref_block8 (h8 l : List Nat) (blk off cap count : Nat) (last : Bool) (w : World) (hh : h8.length = 8) (hs : Small h8) (hl : l.length = 128) (hr : Bytes w blk off l) (hcap : 128 ≤ cap) (hc : count < 9223372036854775808) :
    Calls Tryd.prog 54 #[.agg #[.int .u64 (gt h8 0 : Nat), .int .u64 (gt h8 1 : Nat), .int .u64 (gt h8 2 : Nat), .int .u64 (gt h8 3 : Nat), .int .u64 (gt h8 4 : Nat), .int .u64 (gt h8 5 : Nat), .int .u64 (gt h8 6 : Nat), .int .u64 (gt h8 7 : Nat)], .slice (some ⟨blk, off, none⟩) 128 cap, .int .i64 (count : Nat), .bool last] w fun e w' => e = .returned (.agg (Ws (blockL h8 (wordsL l) count last))) ∧ Below w.heap.size w w' := by
  have := ref_block h8 l blk off cap count last w hh hs hl hr hcap hc
  simp only [vec8, Ws8 h8 hh] at this
  exact this
theorem zero32 : (#[.int .u8 0, .int .u8 0, .int .u8 0, .int .u8 0, .int .u8 0, .int .u8 0, .int .u8 0, .int .u8 0, .int .u8 0, .int .u8 0, .int .u8 0, .int .u8 0, .int .u8 0, .int .u8 0, .int .u8 0, .int .u8 0, .int .u8 0, .int .u8 0, .int .u8 0, .int .u8 0, .int .u8 0, .int .u8 0, .int .u8 0, .int .u8 0, .int .u8 0, .int .u8 0, .int .u8 0, .int .u8 0, .int .u8 0, .int .u8 0, .int .u8 0, .int .u8 0] : Array Value) = (Bs (List.replicate 32 0)).toArray := rfl
/-- The first n bytes of the digest. -/
def outTo (h : List Nat) (n : Nat) : List Nat := (List.range 32).map fun i => if i < n then gt h (i / 8) / 2 ^ (8 * (i % 8)) % 256 else 0
theorem outTo_all (h : List Nat) : outTo h 32 = outL h := by
  unfold outTo outL
  refine List.map_congr_left fun i hi => ?_
  rw [if_pos (List.mem_range.1 hi)]
theorem outTo_zero (h : List Nat) : outTo h 0 = List.replicate 32 0 := by
  refine ext_gt (by simp [outTo]) fun i hi => ?_
  rw [gt_zeros, outTo, gt_map_range (by simpa [outTo] using hi), if_neg (by omega)]
theorem outL_len (h : List Nat) : (outL h).length = 32 := by simp [outL]
theorem Bs_size (l : List Nat) : (Bs l).toArray.size = l.length := by simp [Bs]
theorem Bs_all (l : List Nat) : (Bs l).toArray.all (·.oneCell') = true := by
  rw [Array.all_eq_true_iff_forall_mem]
  intro v hv
  exact Bs_one l v (by simpa using hv)
theorem Bs_set (l : List Nat) (i x : Nat) : (Bs l).toArray.setIfInBounds i (.int .u8 (x : Nat)) = (Bs (l.set i x)).toArray := by simp [Bs, List.map_set]
theorem outTo_len (h : List Nat) (n : Nat) : (outTo h n).length = 32 := by simp [outTo]
theorem outTo_succ (h : List Nat) (n : Nat) (hn : n < 32) : outTo h (n + 1) = (outTo h n).set n (gt h (n / 8) / 2 ^ (8 * (n % 8)) % 256) := by
  refine ext_gt (by simp [outTo]) fun i hi => ?_
  rw [outTo_len] at hi
  by_cases e : i = n
  · subst e
    rw [gt_set_same (by rw [outTo_len]; exact hn), outTo, gt_map_range hi, if_pos (by omega)]
  · rw [gt_set_ne (by omega), outTo, outTo, gt_map_range hi, gt_map_range hi]
    have : (i < n + 1) = (i < n) := by simp; omega
    simp only [this]
/-- The frame while the digest's bytes are made. -/
structure F9 (w : World) (c : Nat) (h : List Nat) (wr : World) : Prop where
  zb : wr.heap[w.heap.size]? = some (.cells (Bs (List.replicate 32 0)).toArray 39 (0, 0))
  hb : WBox 86 c h wr
  n : w.heap.size < c
  old : Below w.heap.size w wr
theorem F9.alloc {w wr : World} {c : Nat} {h : List Nat} (f : F9 w c h wr) (o : Obj) : F9 w c h (wr.alloc o) := by
  have h1 := f.hb.lt
  have h2 := f.n
  exact ⟨(Below.heap_alloc _ _ _ (by omega)).trans f.zb, f.hb.keep (Below.heap_alloc _ _ _ h1), f.n, f.old.alloc f.old.size _⟩
theorem F9.set {w wr : World} {c b : Nat} {h : List Nat} (f : F9 w c h wr) (hb : c < b) (i : Nat) (v : Value) : F9 w c h (wr.setCell ⟨b, i, none⟩ v) := by
  have h2 := f.n
  exact ⟨(set_other (by simp only; omega)).trans f.zb, f.hb.keep (set_other (by simp only; omega)), f.n, f.old.setCell (by simp only; omega) _⟩
/-- The frame of the digest: the result's cells, h, all that is hashed. -/
structure F8 (w : World) (c : Nat) (v : Value) (A h : List Nat) (wr : World) : Prop where
  zb : wr.heap[w.heap.size]? = some (.cells (Bs (List.replicate 32 0)).toArray 39 (0, 0))
  hb : WBox 86 c h wr
  ow : OwnB (w.heap.size + 1) v (Bs A) wr
  vlt : ∀ k, v.ownBlock = some k → k < c
  n : w.heap.size < c
  old : Below w.heap.size w wr
theorem initL_len (k : Nat) : (initL k).length = 8 := by simp [initL, beginL]

set_option maxHeartbeats 4000000 in
set_option maxRecDepth 100000 in
theorem ref_Keyed (v u : Value) (key p : List Nat) (w : World) (hk : RdB w v key) (hp : RdB w u p) (bk : ∀ x ∈ key, x < 256) (bp : ∀ x ∈ p, x < 256) (lk : key.length ≤ 1000000) (lp : p.length ≤ 1000000) :
    Calls Tryd.prog 31 #[v, u] w fun e w' => e = .returned (.agg (Bs (keyedL key p)).toArray) ∧ Below w.heap.size w w' := by
  obtain ⟨ao, cap, rfl⟩ := hk.lenOf
  obtain ⟨K, hK⟩ : ∃ K, K = key.take 64 := ⟨_, rfl⟩
  have hKl : K.length = min 64 key.length := by rw [hK]; simp
  have E : (if (key.length : Int) < 64 then (key.length : Int) else 64) = (K.length : Int) := by split <;> omega
  have E2 : min (64 : Int) (key.length : Int) = (K.length : Int) := by omega
  have hrK : RdB w (.slice ao K.length cap) K := by
    cases ao with
    | none => 
      rcases hk with ⟨h1, h2⟩ | ⟨a, c, h1, -⟩
      · injection h1 with h3 h4 h5
        subst h5
        have : K = [] := by rw [hK, h2]; rfl
        subst this
        exact .inl ⟨rfl, rfl⟩
      · cases h1
    | some a =>
      have := rd_take hk (k := K.length) (by omega)
      have e : key.take K.length = K := by
        rw [hKl]
        by_cases h : key.length ≤ 64
        · rw [Nat.min_eq_right h, List.take_length, hK, List.take_of_length_le h]
        · rw [Nat.min_eq_left (by omega), hK]
      rwa [e] at this
  have HK := Lib.hid hrK
  have HP := Lib.hid hp
  have HKe := Lib.hid hK
  have hK64 : (K.length : Int) ≤ 64 := by omega
  have hKcap : K.length ≤ cap := by
    rcases hrK with ⟨h1, h2⟩ | ⟨a, c, h1, h2, -⟩
    · rw [h2]; simp
    · injection h1 with h3 h4 h5; omega
  have hKn : (K.length : Int) ≤ (key.length : Int) := by omega
  have HBK := Lib.hid bk
  have HBP := Lib.hid bp
  have hmin : min 64 key.length = K.length := hKl.symm
  have HKL := Lib.hid hKl
  clear hk hp hK hrK bk bp hKl
  go_enter Tryd.func31, Tryd.ntmps31
  go_upto_if 19 with fail
  obtain ⟨wz, hwz⟩ : ∃ wz, wz = w.alloc (.cells (Bs (List.replicate 32 0)).toArray 39) := ⟨_, rfl⟩
  have hzl : (Bs (List.replicate 32 0)).toArray = #[.int .u8 0, .int .u8 0, .int .u8 0, .int .u8 0, .int .u8 0, .int .u8 0, .int .u8 0, .int .u8 0, .int .u8 0, .int .u8 0, .int .u8 0, .int .u8 0, .int .u8 0, .int .u8 0, .int .u8 0, .int .u8 0, .int .u8 0, .int .u8 0, .int .u8 0, .int .u8 0, .int .u8 0, .int .u8 0, .int .u8 0, .int .u8 0, .int .u8 0, .int .u8 0, .int .u8 0, .int .u8 0, .int .u8 0, .int .u8 0, .int .u8 0, .int .u8 0] := rfl
  rw [← hzl, ← hwz]
  have hzb : wz.heap[w.heap.size]? = some (.cells (Bs (List.replicate 32 0)).toArray 39 (0, 0)) := by rw [hwz]; exact heap_alloc_new w _
  have hzs : wz.heap.size = w.heap.size + 1 := by rw [hwz]; simp
  have hzB : Below w.heap.size w wz := by rw [hwz]; exact (Below.refl _ _).alloc (Nat.le_refl _) _
  have HZB := Lib.hid hzb
  have HZBB := Lib.hid hzB
  obtain ⟨A0, hA0⟩ : ∃ A0, A0 = (if K = [] then [] else K ++ List.replicate (128 - K.length) 0) := ⟨_, rfl⟩
  have HA0 := Lib.hid hA0
  clear hwz hzl hzb hzB hA0
  go_cut [6] (fun a wx => OwnB (w.heap.size + 1) a (Bs A0) wx ∧ Below wz.heap.size wz wx)
  case first =>
    by_cases h0 : K.length = 0
    · have h0' : (K.length : Int) < 1 := by omega
      have hA : A0 = [] := by rw [HA0.out, List.length_eq_zero_iff.1 h0]; rfl
      clear h0
      go_wp2_with fail
      go_meet
      rw [hA]
      exact ⟨World.ownsRow_nil _ _ _ _, Below.refl _ _⟩
    · have h0' : (1 : Int) ≤ (K.length : Int) := by omega
      have hA : A0 = K ++ List.replicate (128 - K.length) 0 := by rw [HA0.out, if_neg (fun e => h0 (by rw [e]; rfl))]
      have W1 : IntKind.i64.wrap (128 - (K.length : Int)) = ((128 - K.length : Nat) : Int) := by rw [IntWalk.i64_in _ (by omega)]; omega
      have HH0 := Lib.hid h0
      clear h0
      go_wp2_with (first | (at_builtin; refine wp_app_B (B := w.heap.size + 1) (xs := []) (l := K) rfl rfl rfl rfl (World.ownsRow_nil _ _ _ _) (HK.out.below (HZBB.out)) (by simp; omega) (by omega) ?_; intro v1 w1 ho1 hb1 hs1 _) | (at_builtin; refine wp_app_Z (B := w.heap.size + 1) (xs := K) (m := 128 - K.length) rfl rfl rfl rfl ho1 (by omega) (by omega) hs1 ?_; intro v2 w2 ho2 hb2 hs2 _) | fail)
      go_meet
      rw [hA]
      exact ⟨ho2, by rw [hzs]; exact hb1.trans hb2⟩
  case rest =>
    obtain ⟨hoA, hbA⟩ := hcut
    have hszA := hbA.size
    have hA0l : A0.length ≤ 128 := by
      rw [HA0.out]
      split
      · simp
      · simp; omega
    have HOA := Lib.hid hoA
    have HBA := Lib.hid hbA
    have E1 : bits .xor .u64 7640891576956012808 16842784 = 7640891576939301160 := by decide
    have E2 : IntKind.u64.wrap ((K.length : Nat) : Int) = ((K.length : Nat) : Int) := by rw [IntKind.wrap_u64]; omega
    have E3 : IntKind.u64.wrap (((K.length : Nat) : Int) * 256) = ((K.length * 256 : Nat) : Int) := by rw [IntKind.wrap_u64]; omega
    obtain ⟨X, hX⟩ : ∃ X, X = 7640891576939301160 ^^^ K.length * 256 := ⟨_, rfl⟩
    have hXl : X < 18446744073709551616 := by rw [hX]; exact Nat.xor_lt_two_pow (n := 64) (by decide) (by omega)
    have E4 : bits .xor .u64 7640891576939301160 ((K.length : Int) * 256) = (X : Int) := by
      rw [hX, show (K.length : Int) * 256 = ((K.length * 256 : Nat) : Int) by omega]
      exact bits_xor_u64_nat 7640891576939301160 _ (by decide) (by omega)
    have HX := Lib.hid hX
    have HXL := Lib.hid hXl
    clear hoA hbA hX hXl
    go_wp2_with (first | (at_builtin; refine wp_app_B (B := w.heap.size + 1) (xs := A0) (l := p) rfl rfl rfl rfl HOA.out (HP.out.below (HZBB.out.trans (HBA.out.mono (by omega)))) (by omega) (by omega) ?_; intro v1 w1 ho1 hb1 hs1 hgr1; clear hgr1; have HO1 := Lib.hid ho1; have HB1 := Lib.hid hb1; have HS1 := Lib.hid hs1; clear ho1 hb1 hs1) | (go_at_call 53; refine (ref_begin _).mono ?_; rintro e wB ⟨rfl, hbB⟩; have HB := Lib.hid hbB; clear hbB) | fail)
    obtain ⟨wC, hwC⟩ : ∃ wC, wC = wB.alloc (.cells (Ws (initL K.length)) 86) := ⟨_, rfl⟩
    have hini : initL K.length = beginL.set 0 X := by rw [HX.out]; rfl
    have hlit : Ws (initL K.length) = #[.int .u64 (X : Nat), .int .u64 13503953896175478587, .int .u64 4354685564936845355, .int .u64 11912009170470909681, .int .u64 5840696475078001361, .int .u64 11170449401992604703, .int .u64 2270897969802886507, .int .u64 6620516959819538809] := by rw [hini]; rfl
    rw [← hlit, ← hwC]
    obtain ⟨A, hA⟩ : ∃ A, A = A0 ++ p := ⟨_, rfl⟩
    have hAl : A.length ≤ 1000128 := by rw [hA, List.length_append]; omega
    rw [← hA] at HO1
    have hF : F8 w wB.heap.size v1 A (initL K.length) wC := by
      have hb1 := HB1.out
      have hb := HB.out
      have ho := HO1.out
      have hs1 := HS1.out
      have hsz := hb.size
      have hbA := HBA.out
      have hk : ∀ k, k < w1.heap.size → wC.heap[k]? = w1.heap[k]? := fun k hk => by
        rw [hwC]; exact (Below.heap_alloc _ _ _ (by omega)).trans (hb.block k hk)
      have hv : ∀ k, v1.ownBlock = some k → k < w1.heap.size := fun k hk => (World.ownsRow.lt ho k hk).2
      refine ⟨?_, ⟨?_, ?_⟩, ?_, fun k hk => by have := hv k hk; omega, by omega, ?_⟩
      · refine (hk _ (by omega)).trans ((hb1.block _ (by omega)).trans ((hbA.block _ (by omega)).trans HZB.out))
      · rw [hwC]; exact heap_alloc_new wB _
      · rw [hini]
        refine Small.set (fun i => ?_) 0 HXL.out
        by_cases hi : i < 8
        · have : ∀ i, i < 8 → gt beginL i < 18446744073709551616 := by decide
          exact this i hi
        · rw [gt_ge (by simp [beginL]; omega)]; decide
      · exact OwnB.of ho (Nat.le_refl _) (fun k h => hk k (hv k h))
      · rw [hwC]
        exact ((HZBB.out.trans (hbA.mono (by omega))).trans ((hb1.mono (by omega)).trans (hb.mono (by omega)))).alloc (by omega) _
    obtain ⟨c, hc⟩ : ∃ c, c = wB.heap.size := ⟨_, rfl⟩
    rw [← hc] at hF ⊢
    have HF := Lib.hid hF
    have HA := Lib.hid hA
    have hsA : ∀ i, gt A i < 256 := fun i => by
      by_cases hi : i < A.length
      · have hx : gt A i ∈ A := by
          have : gt A i = A[i] := by simp [gt, hi]
          rw [this]; exact List.getElem_mem hi
        obtain ⟨y, hy⟩ : ∃ y, y = gt A i := ⟨_, rfl⟩
        rw [← hy] at hx ⊢
        clear hy
        rw [hA, List.mem_append] at hx
        rcases hx with hx | hx
        · rw [HA0.out] at hx
          split at hx
          · cases hx
          · rw [List.mem_append] at hx
            rcases hx with hx | hx
            · rw [HKe.out] at hx; exact HBK.out _ (List.mem_of_mem_take hx)
            · rw [List.eq_of_mem_replicate hx]; decide
        · exact HBP.out _ hx
      · rw [gt_ge (by omega)]; decide
    have HSA := Lib.hid hsA
    clear hF hsA hlit hini hwC HO1 HB HB1 HS1 E1 E2 E3 E4 hc hA
    go_loopw [8] (fun i wr => ∃ n : Nat, n ≤ A.length ∧ i = .int .i64 n ∧ ∃ h, F8 w c v1 A h wr ∧ h.length = 8 ∧ chainL h (A.drop n) n = chainL (initL K.length) A 0) (fun i _ => A.length - (intOf i).toNat)
    case atStart => exact ⟨0, Nat.zero_le _, rfl, _, HF.out, initL_len _, rfl⟩
    case round =>
      obtain ⟨n, hn, rfl, h8, hF, hl8, hch⟩ := hrel
      obtain ⟨ao1, cap1, hv1⟩ := hF.ow.reads.lenOf
      by_cases hlt : 128 < A.length - n
      · obtain ⟨g, cap2, hv2, hg1, hg2, hcap, hcell, -⟩ := own_open hF.ow (by omega)
        subst hv2
        obtain ⟨d, hd⟩ : ∃ d, d = A.length - n := ⟨_, rfl⟩
        obtain ⟨m, hm⟩ : ∃ m, m = n + 128 := ⟨_, rfl⟩
        have W0 : IntKind.i64.wrap ((A.length : Int) - (n : Int)) = (d : Int) := by rw [IntWalk.i64_in _ (by omega)]; omega
        have W1 : IntKind.i64.wrap ((n : Int) + 128) = (m : Int) := by rw [IntWalk.i64_in _ (by omega)]; omega
        have hd2 : (128 : Int) < (d : Int) := by omega
        have hm1 : (n : Int) ≤ (m : Int) := by omega
        have hm2 : (m : Int) ≤ (cap2 : Int) := by omega
        have hm3 : m - n = 128 := by omega
        have hne : (cap2 = n) = False := by simp; omega
        have hBy : Bytes wr g n ((A.drop n).take 128) := by
          refine ⟨hg2, fun i hi => ?_, fun i => ?_⟩
          · have hi' : i < 128 := by simp at hi; omega
            have := hcell (n + i) (by omega)
            rw [add_at, Nat.zero_add] at this
            rw [this, gt_take hi', gt_drop]
            rfl
          · by_cases hi : i < 128
            · rw [gt_take hi, gt_drop]; exact HSA.out _
            · rw [gt_ge (by simp; omega)]; decide
        have hBd : Bytes wr.drew g n ((A.drop n).take 128) := ⟨hBy.lt, hBy.cell, hBy.small⟩
        have HBY := Lib.hid hBd
        have HF := Lib.hid hF
        have HL8 := Lib.hid hl8
        have HCH := Lib.hid hch
        have hcap3 : 128 ≤ cap2 - n := by omega
        have HD := Lib.hid hd
        have HM := Lib.hid hm
        have c0 := hF.hb.cell (i := 0) (by omega)
        have f0 := hF.hb.frozen 0
        have c1 := hF.hb.cell (i := 1) (by omega)
        have f1 := hF.hb.frozen 1
        have c2 := hF.hb.cell (i := 2) (by omega)
        have f2 := hF.hb.frozen 2
        have c3 := hF.hb.cell (i := 3) (by omega)
        have f3 := hF.hb.frozen 3
        have c4 := hF.hb.cell (i := 4) (by omega)
        have f4 := hF.hb.frozen 4
        have c5 := hF.hb.cell (i := 5) (by omega)
        have f5 := hF.hb.frozen 5
        have c6 := hF.hb.cell (i := 6) (by omega)
        have f6 := hF.hb.frozen 6
        have c7 := hF.hb.cell (i := 7) (by omega)
        have f7 := hF.hb.frozen 7
        clear hBy hBd hF hl8 hch hcell hd hm hv1
        go_wp2
        go_still_tail 8, (by kernel_rfl)
        change wpList _ _ _ _ _ wr.drew
        clear c0 c1 c2 c3 c4 c5 c6 c7 f0 f1 f2 f3 f4 f5 f6 f7
        go_wp2_with (first | (go_at_call 54; refine (ref_block8 h8 ((A.drop n).take 128) g n (cap2 - n) m false wr.drew HL8.out HF.out.hb.small (by simp; omega) HBY.out hcap3 (by omega)).mono ?_; rintro e wE ⟨rfl, hbE⟩; have hhE := (hbE.block c HF.out.hb.lt).trans HF.out.hb.at_; have HE := Lib.hid hbE; clear hbE) | (refine wpl_store c 86 86 _ _ (Ws h8) (Ws (blockL h8 (wordsL ((A.drop n).take 128)) m false)) rfl rfl rfl rfl hhE (by rw [info8, Ws_size, blockL_len]) (by rw [Ws_size, Ws_size, blockL_len]; exact HL8.out) (Ws_one _) ?_) | fail)
        refine ⟨⟨m, by omega, by go_num, blockL h8 (wordsL ((A.drop n).take 128)) m false, ?_, blockL_len _ _ _ _, ?_⟩, by simp [intOf]; omega⟩
        · have f := HF.out
          have hb : Below wr.heap.size wr wE := (⟨rfl, rfl, rfl, Nat.le_refl _, fun _ _ => rfl⟩ : Below wr.heap.size wr wr.drew).trans HE.out
          have hlt := f.hb.lt
          refine ⟨?_, ⟨setRow_heap wE c _ _ _ _ hhE, blockL_small _ _ f.hb.small (by omega) _⟩, OwnB.of f.ow (Nat.le_refl _) (fun k hk => ?_), f.vlt, f.n, setRow_below (f.old.trans (hb.mono f.old.size)) (Nat.le_of_lt f.n)⟩
          · exact (setRow_other wE c _ _ (by have := f.n; omega)).trans ((hb.block _ (by have := f.n; omega)).trans f.zb)
          · have h1 := f.vlt k hk
            exact (setRow_other wE c k _ (by omega)).trans (hb.block k (by omega))
        · rw [← HCH.out, chainL_more (rest := A.drop n) (by rw [List.length_drop]; omega), HM.out, List.drop_drop]
      · obtain ⟨d, hd⟩ : ∃ d, d = A.length - n := ⟨_, rfl⟩
        have W0 : IntKind.i64.wrap ((A.length : Int) - (n : Int)) = (d : Int) := by rw [IntWalk.i64_in _ (by omega)]; omega
        have hd2 : (d : Int) ≤ 128 := by omega
        have hnA : (n : Int) ≤ (A.length : Int) := by omega
        subst hv1
        have HF := Lib.hid hF
        have HL8 := Lib.hid hl8
        have HCH := Lib.hid hch
        have HD := Lib.hid hd
        clear hF hl8 hch hd hlt
        go_upto_region 12 with fail
        go_cut [9] (fun e wx => OwnB (c + 1) e (Bs (A.drop n)) wx ∧ Below wr.heap.size wr wx)
        case first =>
          have hlt := HF.out.hb.lt
          have hmade : OwnB wr.heap.size (.slice (some ⟨wr.heap.size, 0, none⟩) 0 0) (Bs []) (wr.alloc (.cells #[] 5)) := World.ownsRow_made wr #[] 0 (Nat.le_refl _) (by decide) rfl
          have hba : Below wr.heap.size wr (wr.alloc (.cells #[] 5)) := (Below.refl _ _).alloc (Nat.le_refl _) _
          have hrd := HF.out.ow.reads
          have HMD := Lib.hid hmade
          have HBA2 := Lib.hid hba
          have hAn : (A.drop n).length = A.length - n := by simp
          clear hmade hba
          cases ao1 with
          | none =>
            have hA0' : A = [] := by
              rcases hrd with ⟨h1, h2⟩ | ⟨a, c', h1, -⟩
              · exact h2
              · cases h1
            have hn0 : n = 0 := by rw [hA0'] at hnA; simpa using hnA
            have hA0n : A.length = 0 := by rw [hA0']; rfl
            have hc0 : cap1 = 0 := by
              rcases hrd with ⟨h1, h2⟩ | ⟨a, c', h1, -⟩
              · injection h1
              · cases h1
            have hs0 : Value.slice none (A.length - n) (cap1 - n) = .slice none 0 0 := by
              have e1 : A.length - n = 0 := by omega
              have e2 : cap1 - n = 0 := by omega
              rw [e1, e2]
            have hd0 : A.drop n = [] := by rw [hA0']; simp
            have HS0 := Lib.hid hs0
            have HD0 := Lib.hid hd0
            have hncap : (n : Int) ≤ (cap1 : Int) := by omega
            clear hrd hA0' hn0 hA0n hc0 hs0 hd0
            go_wp2_with (first | (at_builtin; refine wp_app_B (B := wr.heap.size) (xs := []) (l := []) rfl rfl rfl rfl HMD.out (.inl ⟨HS0.out, rfl⟩) (by simp) (by simp) ?_; intro v3 w3 ho3 hb3 hs3 hgr3; clear hgr3) | fail)
            go_meet
            rw [HD0.out]
            exact ⟨OwnB.of ho3 (by omega) (fun _ _ => rfl), HBA2.out.trans hb3⟩
          | some a1 =>
            have ha1 : ∃ g, a1 = ⟨g, 0, none⟩ ∧ A.length ≤ cap1 ∧ g < wr.heap.size := by
              have hl := World.ownsRow.lt HF.out.ow
              rcases HF.out.ow.2 with ⟨h1, -⟩ | ⟨g, cp, cur, h1, -, -, h2, -⟩
              · cases h1
              · injection h1 with h3 h4 h5
                injection h3 with h3
                subst h3 h5
                rw [Bs_length] at h2
                exact ⟨g, rfl, h2, (hl g rfl).2⟩
            obtain ⟨g, rfl, hcl, hgw⟩ := ha1
            have hcl' : (A.length : Int) ≤ (cap1 : Int) := by omega
            by_cases hnc : n = cap1
            · have hd0 : A.drop n = [] := List.drop_of_length_le (by omega)
              have hz : A.length - n = 0 := by omega
              have HD0 := Lib.hid hd0
              have HZ := Lib.hid hz
              have hz2 : cap1 - n = 0 := by omega
              have hnc' : (cap1 = n) = True := by simp; omega
              clear hrd hd0 hnc hz hz2
              go_wp2_with (first | (at_builtin; refine wp_app_B (B := wr.heap.size) (xs := []) (l := []) rfl rfl rfl rfl HMD.out (rd_empty HZ.out) (by simp) (by simp) ?_; intro v3 w3 ho3 hb3 hs3 hgr3; clear hgr3) | fail)
              go_meet
              rw [HD0.out]
              exact ⟨OwnB.of ho3 (by omega) (fun _ _ => rfl), HBA2.out.trans hb3⟩
            · have hnc' : (cap1 = n) = False := by simp; omega
              have hrd2 := rd_drop hrd (s := n) (k := A.length - n) (by omega) rfl
              have e : (A.drop n).take (A.length - n) = A.drop n := List.take_of_length_le (by simp)
              rw [e] at hrd2
              simp only [Nat.zero_add] at hrd2
              have HRD := Lib.hid (hrd2.below HBA2.out)
              clear hrd hrd2 hnc
              go_wp2_with (first | (at_builtin; refine wp_app_B (B := wr.heap.size) (xs := []) (l := A.drop n) rfl rfl rfl rfl HMD.out HRD.out (by simp; omega) (by simp) ?_; intro v3 w3 ho3 hb3 hs3 hgr3; clear hgr3) | fail)
              go_meet
              exact ⟨OwnB.of ho3 (by omega) (fun _ _ => rfl), HBA2.out.trans hb3⟩
        case rest =>
          obtain ⟨hoE, hbE⟩ := hcut
          obtain ⟨aoE, capE, hvE⟩ := hoE.reads.lenOf
          have hAn : (A.drop n).length = d := by rw [HD.out]; simp
          rw [hAn] at hvE
          have W2 : IntKind.i64.wrap (128 - (d : Int)) = ((128 - d : Nat) : Int) := by rw [IntWalk.i64_in _ (by omega)]; omega
          have hlt := HF.out.hb.lt
          have hsE := hbE.size
          have HOE := Lib.hid hoE
          have HBE := Lib.hid hbE
          have hhE := (hbE.block c hlt).trans HF.out.hb.at_
          have HAN := Lib.hid hAn
          subst hvE
          clear hoE hbE hAn
          go_wp2_with (first | (at_builtin; refine wp_app_Z (B := c + 1) (xs := A.drop n) (m := 128 - d) rfl rfl rfl rfl HOE.out (by omega) (by rw [HAN.out]; omega) (by omega) ?_; intro v4 w4 ho4 hb4 hs4 hgr4; clear hgr4; have HO4 := Lib.hid ho4; have HB4 := Lib.hid hb4; have hh4 := (hb4.block c (by omega)).trans hhE; clear ho4 hb4) | (refine wpl_load c 86 86 _ (Ws h8) (0, 0) _ rfl rfl rfl hh4 Tryd.underlying86 rfl (by rw [info8, Ws_size]; exact congrArg some HL8.out.symm) ?_) | fail)
          obtain ⟨PD, hPD⟩ : ∃ PD, PD = A.drop n ++ List.replicate (128 - d) 0 := ⟨_, rfl⟩
          have ho4 := HO4.out
          rw [← hPD] at ho4
          have hPDl : PD.length = 128 := by rw [hPD, List.length_append, HAN.out, List.length_replicate]; omega
          have hPDp : PD = padL (A.drop n) := by rw [hPD, padL, HAN.out]
          obtain ⟨g4, cap4, hv4, hg4, hgl4, hcap4, hcell4, -⟩ := own_open ho4 (by omega)
          rw [hPDl] at hv4
          have hB4 : Bytes w4 g4 0 PD := by
            refine ⟨hgl4, fun i hi => ?_, fun i => ?_⟩
            · have := hcell4 i hi
              rw [add_at] at this
              exact this
            · rw [hPD]
              by_cases hi : i < (A.drop n).length
              · rw [gt_append_l hi, gt_drop]; exact HSA.out _
              · rw [gt_append_r (by omega), gt_zeros]; decide
          subst hv4
          obtain ⟨H9, hH9⟩ : ∃ H9, H9 = blockL h8 (wordsL PD) A.length true := ⟨_, rfl⟩
          have hout : keyedL key p = outL H9 := by
            have e1 : chainL (initL K.length) A 0 = H9 := by
              rw [← HCH.out, chainL_last (rest := A.drop n) (by rw [HAN.out]; omega), hH9, hPDp, HAN.out, HD.out]
              congr 1; omega
            unfold keyedL
            rw [← HKe.out]
            have e2 : allL K p = A := by rw [HA.out, HA0.out]; rfl
            rw [e2, e1]
          have h9l : H9.length = 8 := by rw [hH9]; exact blockL_len _ _ _ _
          have h9s : Small H9 := by rw [hH9]; exact blockL_small _ _ HF.out.hb.small (by omega) _
          have H9E := Lib.hid hH9
          have HOUT := Lib.hid hout
          have H9L := Lib.hid h9l
          have H9S := Lib.hid h9s
          have HBB4 := Lib.hid hB4
          have HPL := Lib.hid hPDl
          have hb4c : Below c wr w4 := (HBE.out.mono (by omega)).trans (HB4.out.mono (by omega))
          have HB4C := Lib.hid hb4c
          have hh4c : w4.heap[c]? = some (.cells (Ws h8) 86 (0, 0)) := (HB4.out.block c (by omega)).trans hhE
          have HH4 := Lib.hid hh4c
          have hs4' := HB4.out.size
          clear ho4 hPD hPDl hPDp hcell4 hB4 hH9 hout h9l h9s hhE hb4c hh4c
          refine (ref_block h8 PD g4 0 cap4 A.length true w4 HL8.out HF.out.hb.small HPL.out HBB4.out (by have := HPL.out; omega) (by omega)).mono ?_
          rw [← H9E.out]
          rintro e w5 ⟨rfl, hb5⟩
          have hh5 := (hb5.block c (by omega)).trans HH4.out
          have HB5 := Lib.hid hb5
          clear hb5
          go_upto_region 15 with (first | (refine wpl_store c 86 86 _ _ (Ws h8) (Ws H9) rfl rfl rfl rfl hh5 (by rw [info8, Ws_size]; exact congrArg some H9L.out.symm) (by rw [Ws_size, Ws_size, H9L.out]; exact HL8.out) (Ws_one _) ?_) | fail)
          obtain ⟨w6, hw6⟩ : ∃ w6, w6 = w5.setRow c (Ws H9) := ⟨_, rfl⟩
          rw [← hw6]
          have hF9 : F9 w c H9 w6 := by
            have f := HF.out
            have hb4 := HB4C.out
            have hb5 := HB5.out
            have hn := f.n
            refine ⟨?_, ⟨?_, H9S.out⟩, ?_, ?_⟩
            · rw [hw6]
              exact (setRow_other w5 c _ _ (by omega)).trans ((hb5.block _ (by omega)).trans ((hb4.block _ hn).trans f.zb))
            · rw [hw6]; exact setRow_heap w5 c _ _ _ _ hh5
            · exact hn
            · rw [hw6]
              refine setRow_below ?_ (Nat.le_of_lt hn)
              exact (f.old.trans (hb4.mono (Nat.le_of_lt hn))).trans (hb5.mono (by have := f.old.size; omega))
          have HF9 := Lib.hid hF9
          have hc6 := hF9.hb.lt
          clear hF9 hw6 hh5
          dsimp only [Act.put]
          go_cut [10] (fun q wx => ∃ ob, q = .pointer (some ⟨ob, 0, none⟩) ∧ c < ob ∧ F9 w c H9 wx ∧ wx.heap[ob]? = some (.cells (Bs (outTo H9 0)).toArray 39 (0, 0)))
          case first =>
            clear HH4 HB4C HB5 HPL HBB4 H9S H9E HD HAN HSA HA HOA HBA HZB HZBB HA0 HK HP HBK HBP
            apply wp_region_lit
            go_step
            go_step
            go_step
            go_step
            go_step
            go_step
            refine wpl_store w6.heap.size 39 39 _ _ #[.int .u8 0, .int .u8 0, .int .u8 0, .int .u8 0, .int .u8 0, .int .u8 0, .int .u8 0, .int .u8 0, .int .u8 0, .int .u8 0, .int .u8 0, .int .u8 0, .int .u8 0, .int .u8 0, .int .u8 0, .int .u8 0, .int .u8 0, .int .u8 0, .int .u8 0, .int .u8 0, .int .u8 0, .int .u8 0, .int .u8 0, .int .u8 0, .int .u8 0, .int .u8 0, .int .u8 0, .int .u8 0, .int .u8 0, .int .u8 0, .int .u8 0, .int .u8 0] #[.int .u8 0, .int .u8 0, .int .u8 0, .int .u8 0, .int .u8 0, .int .u8 0, .int .u8 0, .int .u8 0, .int .u8 0, .int .u8 0, .int .u8 0, .int .u8 0, .int .u8 0, .int .u8 0, .int .u8 0, .int .u8 0, .int .u8 0, .int .u8 0, .int .u8 0, .int .u8 0, .int .u8 0, .int .u8 0, .int .u8 0, .int .u8 0, .int .u8 0, .int .u8 0, .int .u8 0, .int .u8 0, .int .u8 0, .int .u8 0, .int .u8 0, .int .u8 0] rfl rfl rfl rfl (heap_alloc_new w6 _) infoH rfl (by kernel_rfl) ?_
            rw [World.setRow_alloc_new, zero32]
            obtain ⟨w7, hw7⟩ : ∃ w7, w7 = w6.alloc (.cells (Bs (List.replicate 32 0)).toArray 39) := ⟨_, rfl⟩
            rw [← hw7]
            have hF9 : F9 w c H9 w7 := by rw [hw7]; exact HF9.out.alloc _
            have hO7 : w7.heap[w6.heap.size]? = some (.cells (Bs (outTo H9 0)).toArray 39 (0, 0)) := by rw [outTo_zero, hw7]; exact heap_alloc_new w6 _
            have HF9' := Lib.hid hF9
            have HO7 := Lib.hid hO7
            clear hw7 hF9 hO7
            go_wp2_with fail
            go_meet
            exact ⟨w6.heap.size, rfl, hc6, HF9'.out, HO7.out⟩
          case rest =>
          obtain ⟨ob, rfl, hcob, hF9, hO7⟩ := hcut
          have HF9' := Lib.hid hF9
          have HO7 := Lib.hid hO7
          clear hF9 hO7 hc6
          go_wp2
          go_loopw [11] (fun i wr => ∃ n : Nat, n ≤ 32 ∧ i = .int .i64 n ∧ F9 w c H9 wr ∧ wr.heap[ob]? = some (.cells (Bs (outTo H9 n)).toArray 39 (0, 0))) (fun i _ => 32 - (intOf i).toNat)
          case atStart => exact ⟨0, by omega, rfl, HF9'.out, HO7.out⟩
          case round =>
            obtain ⟨t, ht, rfl, hF9, hO⟩ := hrel
            by_cases htl : t < 32
            · have hc1 := hF9.hb.cell (i := t / 8) (by rw [H9L.out]; omega)
              obtain ⟨r, hr⟩ : ∃ r, r = 8 * (t % 8) := ⟨_, rfl⟩
              have htl' : (t : Int) < 32 := by omega
              have hcO : wr.cell? ⟨ob, t, none⟩ = some (.int .u8 (gt (outTo H9 t) t : Nat)) := by simp [World.cell?, hO, Bs, gt, outTo, htl]
              have hfO : wr.frozen? ⟨ob, t, none⟩ = false := by simp [World.frozen?, hO]
              have HO := Lib.hid hO
              have HF9 := Lib.hid hF9
              clear hO hF9
              go_wp2
              have eV : ((gt H9 (t / 8) : Nat) : Int) / 2 ^ (8 * (t % 8)) % 256 = ((gt H9 (t / 8) / 2 ^ (8 * (t % 8)) % 256 : Nat) : Int) := by norm_cast
              rw [eV]
              refine ⟨⟨t + 1, by omega, by go_num, HF9.out.set hcob _ _, ?_⟩, by simp [intOf]; omega⟩
              rw [outTo_succ _ _ htl]
              exact (set_block _ HO.out).trans (by rw [Bs_set])
            · have ht32 : t = 32 := by omega
              subst ht32
              rw [outTo_all] at hO
              have HF9 := Lib.hid hF9
              have HO := Lib.hid hO
              have hlen := outL_len H9
              have HLEN := Lib.hid hlen
              clear hO hF9 hlen
              go_wp2_with (first | (refine wpl_load ob 39 39 _ (Bs (outL H9)).toArray (0, 0) _ rfl rfl rfl HO.out Tryd.underlying39 rfl (by rw [infoH, Bs_size, HLEN.out]) ?_) | (refine wpl_store w.heap.size 39 39 _ _ (Bs (List.replicate 32 0)).toArray (Bs (outL H9)).toArray rfl rfl rfl rfl HF9.out.zb (by rw [infoH, Bs_size, HLEN.out]) (by rw [Bs_size, Bs_size, HLEN.out]; rfl) (Bs_all _) ?_) | fail)
              refine bodyPost_ret (results_row (b := w.heap.size) (t := 39) Tryd.results31 rfl (setRow_heap wr w.heap.size _ _ _ _ HF9.out.zb) Tryd.underlying39 rfl (by rw [infoH, Bs_size, HLEN.out])) rfl ⟨by rw [HOUT.out], setRow_below HF9.out.old (Nat.le_refl _)⟩
end Go.Proofs.YtbndegkgpoemnaaDoor
