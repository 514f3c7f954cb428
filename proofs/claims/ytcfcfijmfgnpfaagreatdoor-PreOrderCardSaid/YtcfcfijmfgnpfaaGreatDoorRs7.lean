/-
  The reference's Sum of a call; remarks whose digests lie apart. Printed by mkrs7.py.
-/
import Derived.Test.YtcfcfijmfgnpfaaGreatDoorMgn
import Derived.Test.YtcfcfijmfgnpfaaGreatDoorRs3
namespace Go.Proofs.YtcfcfijmfgnpfaaGreatDoor
open Go.RowKit Go.Maps
set_option linter.unusedVariables false
set_option linter.unusedSimpArgs false

theorem ref_EncodeCallT (d : Nat) (c : Cl) (v : Value) (w : World) (hrd : RdC w d v c) : Calls Tryz.prog 41 #[v] w fun e w' => ∃ (u : Value) (q : Int), e = .returned (.tuple #[u, .int .i64 q]) ∧ OwnB w.heap.size u (Bs (sumT c)) w' ∧ Below w.heap.size w w' := (ref_EncodeCall d c v w hrd).mono fun e w' ⟨u, h1, h2⟩ => ⟨u, _, h1, h2⟩
set_option maxRecDepth 100000 in
set_option maxHeartbeats 8000000 in
theorem ref7_Sum (d : Nat) (c : Cl) (v : Value) (w : World) (hrd : RdC w d v c) : Calls Tryz.prog 15 #[v] w fun e w' => e = .returned (.agg (Bs (dgOf c).s).toArray) ∧ Below w.heap.size w w' := by
  rw [show (dgOf c).s = keyedL [] (sumT c) from rfl]
  obtain ⟨d', ao, cap, -, rfl, -⟩ := hrd.open
  obtain ⟨k, hk⟩ : ∃ k, k = c.k := ⟨_, rfl⟩
  obtain ⟨t, ht⟩ : ∃ t, t = c.t := ⟨_, rfl⟩
  obtain ⟨n, hn⟩ : ∃ n, n = c.n := ⟨_, rfl⟩
  obtain ⟨m, hm⟩ : ∃ m, m = c.kids.length := ⟨_, rfl⟩
  rw [← hk, ← ht, ← hn, ← hm] at hrd ⊢
  have hout : (keyedL [] (sumT c)).length = 32 := outL_len _
  have hb256 := sumT_lt c
  have hslen := sumT_len c
  obtain ⟨X, hX⟩ : ∃ X, X = sumT c := ⟨_, rfl⟩
  obtain ⟨O, hO⟩ : ∃ O, O = keyedL [] (sumT c) := ⟨_, rfl⟩
  rw [← hO] at hout ⊢
  obtain ⟨w1, hw1⟩ : ∃ w1, w1 = w.alloc (.cells #[.int .i64 k, .int .i64 t, .int .i64 n, .slice ao m cap] 45) := ⟨_, rfl⟩
  have hB1 : Below w.heap.size w w1 := by rw [hw1]; exact (Below.refl _ w).alloc (Nat.le_refl _) _
  have hrg1 : w1.rangeAt w.heap.size 0 [.int .i64 k, .int .i64 t, .int .i64 n, .slice ao m cap] := by rw [hw1]; exact rangeAt_new _
  obtain ⟨wz, hwz⟩ : ∃ wz, wz = w1.alloc (.cells #[.int .u8 0, .int .u8 0, .int .u8 0, .int .u8 0, .int .u8 0, .int .u8 0, .int .u8 0, .int .u8 0, .int .u8 0, .int .u8 0, .int .u8 0, .int .u8 0, .int .u8 0, .int .u8 0, .int .u8 0, .int .u8 0, .int .u8 0, .int .u8 0, .int .u8 0, .int .u8 0, .int .u8 0, .int .u8 0, .int .u8 0, .int .u8 0, .int .u8 0, .int .u8 0, .int .u8 0, .int .u8 0, .int .u8 0, .int .u8 0, .int .u8 0, .int .u8 0] 41) := ⟨_, rfl⟩
  have HWZ := Lib.hid (And.intro hw1 hwz)
  have hwz2 := hwz
  rw [zero32] at hwz2
  obtain ⟨ob, hob⟩ : ∃ ob, ob = w.heap.size + 1 := ⟨_, rfl⟩
  have hs1 : w1.heap.size = w.heap.size + 1 := by rw [hw1]; simp
  have hzb : wz.heap[ob]? = some (.cells (Bs (List.replicate 32 0)).toArray 41 (0, 0)) := by rw [hwz2, hob, ← hs1]; exact heap_alloc_new w1 _
  have hzB1 : Below w1.heap.size w1 wz := by rw [hwz]; exact (Below.refl _ _).alloc (Nat.le_refl _) _
  have hzB : Below w.heap.size w wz := hB1.trans (hzB1.mono hB1.size)
  have hzs : ob < wz.heap.size := by rw [hob, hwz]; simp [hs1]
  have hrgz := rangeAt_keep hrg1 (hzB1.block w.heap.size (by omega))
  have he := ref_EncodeCallT d c _ wz (RdC.below hzB hrd)
  rw [← hX] at he hb256 hslen
  have HE := Lib.hid he
  have HZ0 := Lib.hid (And.intro hzb (And.intro hzB (And.intro hzs hrgz)))
  have HO := Lib.hid (show O = keyedL [] X by rw [hO, hX])
  have HOUT := Lib.hid (And.intro hout (And.intro hb256 hslen))
  have hob1 : w.heap.size ≤ ob := by omega
  have HOB := Lib.hid (And.intro hob hob1)
  clear hk ht hn hm hrd hout hb256 hslen hX hO hB1 hrg1 hwz2 hs1 hzb hzB1 hzB hzs hrgz he hw1 hwz hob1 hob
  go_enter Tryz.func15, Tryz.ntmps15
  go_upto_region 1 with fail
  rw [← HWZ.out.1, ← HWZ.out.2, ← HOB.out.1]
  go_wp2_with (first
    | (refine wpl_loadC _ rfl rfl rfl HZ0.out.2.2.2 rfl ?_)
    | (go_at_call 41; refine HE.out.mono ?_; rintro e w3 ⟨u, er, rfl, ho, hb⟩; obtain ⟨a6, c6, hv6⟩ := ho.reads.lenOf; obtain ⟨z, hz⟩ : ∃ z, z = X.length := ⟨_, rfl⟩; rw [← hz] at hv6; subst hv6; have HU := Lib.hid ho.reads; have H4 := Lib.hid hb; clear hz ho hb)
    | (go_at_call 42; refine (ref_Sum _ X _ HU.out HOUT.out.2.1 (by have := HOUT.out.2.2; omega)).mono ?_; rw [← HO.out]; rintro e wM ⟨rfl, hM⟩; have hM2 := H4.out.trans (hM.mono H4.out.size); have hz : wM.heap[ob]? = some (.cells (Bs (List.replicate 32 0)).toArray 41 (0, 0)) := (hM2.block _ HZ0.out.2.2.1).trans HZ0.out.1; have HM := Lib.hid hM2; have HZ := Lib.hid hz; clear hM hM2 hz)
    | (refine wpl_store ob 41 41 _ _ (Bs (List.replicate 32 0)).toArray (Bs O).toArray rfl rfl rfl rfl HZ.out (by rw [infoH, Bs_size, HOUT.out.1]) (by rw [Bs_size, Bs_size, HOUT.out.1]; rfl) (Bs_all _) ?_)
    | fail)
  refine bodyPost_ret (results_row (b := ob) (t := 41) Tryz.results15 rfl (setRow_heap wM ob _ _ _ _ HZ.out) Tryz.underlying41 rfl (by rw [infoH, Bs_size, HOUT.out.1])) rfl ⟨rfl, ?_⟩
  exact setRow_below (HZ0.out.2.1.trans (HM.out.mono HZ0.out.2.1.size)) HOB.out.2
/-- Equal digests. -/
theorem eqH_D (a b : Dg) (w : World) : (eqHash (dv a) (dv b)).run Tryz.prog w = .ok (.bool (decide (a.s = b.s))) w := run_eql_hash w a.s b.s a.len b.len
/-- So many remarks have unlike digests. -/
def ApartR (n : Nat) : Prop := ∀ i, i < n → ∀ k, k < i → dgOf (rmk i) ≠ dgOf (rmk k)
set_option maxRecDepth 100000 in
set_option maxHeartbeats 4000000 in
attribute [local go_sem ↓] eq_hash in
theorem law8_apart (n : Nat) (hn : n ≤ 12) (w : World) : Calls Tryz.prog 36 #[.int .i64 n] w fun e w' => (∃ b, e = .returned (.bool b) ∧ (b = true → ApartR n)) ∧ Below w.heap.size w w' := by
  have HN := Lib.hid hn
  clear hn
  go_enter Tryz.func36, Tryz.ntmps36
  go_wp2
  go_loopw [3] (fun i wr => ∃ k : Nat, k ≤ n ∧ i = .int .i64 k ∧ ApartR k ∧ Below w.heap.size w wr) (fun i _ => n - (intOf i).toNat)
  case atStart => exact ⟨0, Nat.zero_le _, rfl, fun i hi => absurd hi (Nat.not_lt_zero i), Below.refl _ _⟩
  case round =>
    obtain ⟨i, hi, rfl, hap, hb⟩ := hrel
    have HH := Lib.hid (And.intro hap (And.intro hb hi))
    clear hap hb
    by_cases hlt : i < n
    · have hlt' : (i : Int) < n := by omega
      have i12 : (i : Int) ≤ 12 := by have := HN.out; omega
      have HLT := Lib.hid hlt
      clear hi hlt
      go_wp2
      go_loopw [4] (fun j wr => ∃ k : Nat, k ≤ i ∧ j = .int .i64 k ∧ (∀ q, q < k → dgOf (rmk i) ≠ dgOf (rmk q)) ∧ Below w.heap.size w wr) (fun j _ => i - (intOf j).toNat)
      case atStart => exact ⟨0, Nat.zero_le _, rfl, fun i hi => absurd hi (Nat.not_lt_zero i), HH.out.2.1⟩
      case round =>
        obtain ⟨k, hk, rfl, hap, hb⟩ := hrel
        have HK := Lib.hid (And.intro hap (And.intro hb hk))
        clear hap hb
        by_cases hlk : k < i
        · have hlk' : (k : Int) < i := by omega
          have k12 : (k : Int) ≤ 12 := by omega
          have HLK := Lib.hid hlk
          clear hk hlk
          obtain ⟨bq, hbq⟩ : ∃ b, b = decide ((dgOf (rmk i)).s = (dgOf (rmk k)).s) := ⟨_, rfl⟩
          have eqh := fun w => eqH_D (dgOf (rmk i)) (dgOf (rmk k)) w
          rw [← hbq] at eqh
          have HBQ := Lib.hid hbq
          have RG : ∀ (op : BinOp) (x y : Operand) (w : World), (eqGuard op 41 x y (dv (dgOf (rmk i))) (dv (dgOf (rmk k)))).run Tryz.prog w = .ok () w := fun op x y w => guardH8 op x y (Bs (dgOf (rmk i)).s).toArray (Bs (dgOf (rmk k)).s).toArray w
          have tok1 : True := trivial
          clear hbq
          have hbc : bq = true ∨ bq = false := by cases bq <;> simp
          rcases hbc with rfl | rfl
          · go_wp2_with (first
              | (go_at_call 15; have _t := tok1; refine (ref7_Sum 1 (rmk i) _ wr (rdC_leaf _ 1 0 i)).mono ?_; rintro e w1 ⟨rfl, hb⟩; have H1 := Lib.hid (HK.out.2.1.trans (hb.mono HK.out.2.1.size)); rw [show (.agg (Bs (dgOf (rmk i)).s).toArray : Value) = dv (dgOf (rmk i)) from rfl]; clear hb tok1)
              | (go_at_call 15; refine (ref7_Sum 1 (rmk k) _ w1 (rdC_leaf _ 1 0 k)).mono ?_; rintro e w2 ⟨rfl, hb⟩; have H2 := Lib.hid (H1.out.trans (hb.mono H1.out.size)); rw [show (.agg (Bs (dgOf (rmk k)).s).toArray : Value) = dv (dgOf (rmk k)) from rfl]; clear hb)
              | fail)
            exact bodyPost_ret (v := .bool false) (by simp [results, Tryz.results36, go_sem]) rfl ⟨⟨false, rfl, fun h => by cases h⟩, H2.out⟩
          · go_wp2_with (first
              | (go_at_call 15; have _t := tok1; refine (ref7_Sum 1 (rmk i) _ wr (rdC_leaf _ 1 0 i)).mono ?_; rintro e w1 ⟨rfl, hb⟩; have H1 := Lib.hid (HK.out.2.1.trans (hb.mono HK.out.2.1.size)); rw [show (.agg (Bs (dgOf (rmk i)).s).toArray : Value) = dv (dgOf (rmk i)) from rfl]; clear hb tok1)
              | (go_at_call 15; refine (ref7_Sum 1 (rmk k) _ w1 (rdC_leaf _ 1 0 k)).mono ?_; rintro e w2 ⟨rfl, hb⟩; have H2 := Lib.hid (H1.out.trans (hb.mono H1.out.size)); rw [show (.agg (Bs (dgOf (rmk k)).s).toArray : Value) = dv (dgOf (rmk k)) from rfl]; clear hb)
              | fail)
            go_roundw
            case rel => exact ⟨k + 1, HLK.out, by go_num, fun q hq => by
              rcases Nat.lt_succ_iff_lt_or_eq.1 hq with h | rfl
              · exact HK.out.1 q h
              · intro e; have := HBQ.out; rw [e] at this; simp at this, H2.out⟩
            case measure => simp [intOf]; have := HLK.out; omega
        · have hnk : ¬ (k : Int) < i := by omega
          obtain rfl : k = i := by omega
          clear hk hlk
          go_wp2
          go_roundw
          case rel => exact ⟨k + 1, HLT.out, by go_num, fun a ha => by
            rcases Nat.lt_succ_iff_lt_or_eq.1 ha with h | rfl
            · exact HH.out.1 a h
            · exact HK.out.1, HK.out.2.1⟩
          case measure => simp [intOf]; have := HLT.out; omega
    · have hnk : ¬ (i : Int) < n := by omega
      obtain rfl : i = n := by omega
      clear hi hlt
      go_wp2
      exact bodyPost_ret (v := .bool true) (by simp [results, Tryz.results36, go_sem]) rfl ⟨by first | exact ⟨true, rfl, fun _ => HH.out.1⟩ | exact .inr ⟨rfl, HH.out.1⟩, HH.out.2.1⟩
end Go.Proofs.YtcfcfijmfgnpfaaGreatDoor
