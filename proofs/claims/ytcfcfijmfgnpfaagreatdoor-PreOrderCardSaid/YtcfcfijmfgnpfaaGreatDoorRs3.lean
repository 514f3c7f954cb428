/-
  The reference's EncodeCall.
-/
import Derived.Test.YtcfcfijmfgnpfaaGreatDoorMgn
namespace Go.Proofs.YtcfcfijmfgnpfaaGreatDoor
open Go.RowKit
set_option linter.unusedVariables false
set_option linter.unusedSimpArgs false

set_option maxRecDepth 100000 in
set_option maxHeartbeats 1000000 in
theorem ref_EncodeCall (d : Nat) (c : Cl) (v : Value) (w : World) (hrd : RdC w d v c) : Calls Tryz.prog 41 #[v] w fun e w' => ∃ u, e = .returned (.tuple #[u, .int .i64 (if okC 3 c then 0 else 1)]) ∧ OwnB w.heap.size u (Bs (if okC 3 c then layT c else [])) w' ∧ Below w.heap.size w w' := by
  obtain ⟨d', ao, cap, -, rfl, -⟩ := hrd.open
  obtain ⟨k, hk⟩ : ∃ k, k = c.k := ⟨_, rfl⟩
  obtain ⟨t, ht⟩ : ∃ t, t = c.t := ⟨_, rfl⟩
  obtain ⟨n, hn⟩ : ∃ n, n = c.n := ⟨_, rfl⟩
  obtain ⟨m, hm⟩ : ∃ m, m = c.kids.length := ⟨_, rfl⟩
  rw [← hk, ← ht, ← hn, ← hm] at hrd ⊢
  obtain ⟨W, hW⟩ : ∃ W, W = w.alloc (.cells #[.int .i64 k, .int .i64 t, .int .i64 n, .slice ao m cap] 45) := ⟨_, rfl⟩
  have hB : Below w.heap.size w W := by rw [hW]; exact (Below.refl _ w).alloc (Nat.le_refl _) _
  have hrg : W.rangeAt w.heap.size 0 [.int .i64 k, .int .i64 t, .int .i64 n, .slice ao m cap] := by rw [hW]; exact rangeAt_new _
  have hrd3 := RdC.below hB hrd
  have hcall := ref_IsCall d c _ W hrd3
  have hlay := fun W2 (hb : Below W.heap.size W W2) (hl : (layT c).length ≤ 100000) => ref_raw d c _ W2 hl (RdC.below hb hrd3)
  have hrg2 := fun W2 (hb : Below W.heap.size W W2) => rangeAt_keep hrg (hb.block w.heap.size (by rw [hW]; simp))
  have hlen := fun h => okC3_len (c := c) h
  obtain ⟨q, hq⟩ : ∃ q, q = okC 3 c := ⟨_, rfl⟩
  rw [← hq] at hcall hlen ⊢
  have HW := Lib.hid hW
  have HC := Lib.hid hcall
  have HL := Lib.hid hlay
  have HLE := Lib.hid hlen
  have HB := Lib.hid hB
  have HRG := Lib.hid hrg
  have HRG2 := Lib.hid hrg2
  clear hk ht hn hm hW hB hrg hcall hrd hrd3 hlay hrg2 hlen hq
  go_enter Tryz.func41, Tryz.ntmps41
  go_upto_region 1 with fail
  rw [← HW.out]
  have tok : True := trivial
  cases q
  · go_wp2_with (first
      | (refine wpl_loadC _ rfl rfl rfl HRG.out rfl ?_)
      | (go_at_call 35; refine HC.out.mono ?_; rintro e w1 ⟨rfl, hb⟩; have H1 := Lib.hid (HB.out.trans (hb.mono HB.out.size)); clear hb)
      | fail)
    exact bodyPost_ret (v := .tuple #[.slice none 0 0, .int .i64 1]) (by simp [results, Tryz.results41, go_sem]) rfl ⟨_, rfl, World.ownsRow_nil _ _ _ _, H1.out⟩
  · go_wp2_with (first
      | (have _t := tok; refine wpl_loadC _ rfl rfl rfl HRG.out rfl ?_; clear tok)
      | (go_at_call 35; refine HC.out.mono ?_; rintro e w1 ⟨rfl, hb⟩; have H1 := Lib.hid hb; clear hb)
      | (refine wpl_loadC _ rfl rfl rfl (HRG2.out _ H1.out) rfl ?_)
      | (go_at_call 58; refine (HL.out _ H1.out (Nat.le_trans (HLE.out (by simp)) (by omega))).mono ?_; rintro e w2 ⟨u, rfl, ho, hb, hs⟩; have H2 := Lib.hid (And.intro (OwnB.ofC ho (Nat.le_trans HB.out.size H1.out.size) (fun _ _ => rfl)) (HB.out.trans ((H1.out.trans (hb.mono H1.out.size)).mono HB.out.size))); clear ho hb hs)
      | fail)
    exact bodyPost_ret (v := .tuple #[u, .int .i64 0]) (by simp [results, Tryz.results41, go_sem]) rfl ⟨u, rfl, H2.out.1, H2.out.2⟩
end Go.Proofs.YtcfcfijmfgnpfaaGreatDoor
