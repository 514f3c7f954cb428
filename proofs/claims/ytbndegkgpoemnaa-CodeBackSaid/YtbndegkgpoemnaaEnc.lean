/-
  IsCall, EncodeCall.
-/
import Derived.Test.YtbndegkgpoemnaaIsc
namespace Go.Proofs.Ytbndegkgpoemnaa
open Go.RowKit
set_option linter.unusedVariables false
set_option linter.unusedSimpArgs false

def bnd : Nat → Nat
  | 0 => 36
  | d + 1 => 72 + 4 * bnd d
theorem leaf_kids {c : Cl} (h : leafOk c.k c.t c.n c.kids.length) : c.kids = [] := by
  unfold leafOk at h
  exact List.eq_nil_of_length_eq_zero (by omega)
theorem bnd_lo : ∀ d, 36 ≤ bnd d
  | 0 => Nat.le_refl _
  | d + 1 => by rw [bnd]; omega
theorem okC_len : ∀ (dp : Nat) (c : Cl), okC dp c = true → (layT c).length ≤ bnd dp := by
  intro dp
  induction dp with
  | zero =>
    intro c h
    have hk := leaf_kids (of_decide_eq_true h)
    rw [layT_eq, hk]
    have := numsL_length [c.k, c.t, c.n, ([] : List Cl).length]
    rw [List.length_append]
    simp only [laysT, List.length_nil, List.length_cons] at this ⊢
    simp only [bnd]
    omega
  | succ dp ih =>
    intro c h
    unfold okC at h
    rw [Bool.or_eq_true] at h
    have hn := numsL_length [c.k, c.t, c.n, c.kids.length]
    simp only [List.length_cons, List.length_nil] at hn
    have hb := bnd_lo dp
    rw [layT_eq, List.length_append, bnd]
    rcases h with h | h
    · have hk := leaf_kids (of_decide_eq_true h)
      have : (laysT c.kids).length = 0 := by rw [hk]; rfl
      omega
    · rw [Bool.and_eq_true] at h
      obtain ⟨h1, h2⟩ := h
      have h4 : c.kids.length ≤ 4 := by unfold headOk at h1; simp at h1; omega
      rw [List.all_eq_true] at h2
      have key : ∀ l : List Cl, (∀ x ∈ l, okC dp x = true) → (laysT l).length ≤ l.length * (9 + bnd dp) := by
        intro l hl
        induction l with
        | nil => simp [laysT]
        | cons x l ihl =>
          rw [laysT, List.length_append, List.length_cons, Nat.add_mul]
          have h3 := rowL_length (layT x)
          have h5 := ih x (hl x List.mem_cons_self)
          have h6 := ihl (fun y hy => hl y (List.mem_cons_of_mem _ hy))
          omega
      have h7 := key c.kids h2
      have h8 : c.kids.length * (9 + bnd dp) ≤ 4 * (9 + bnd dp) := Nat.mul_le_mul_right _ h4
      omega
theorem okC3_len {c : Cl} (h : okC 3 c = true) : (layT c).length ≤ 3816 := okC_len 3 c h
set_option maxRecDepth 100000 in
theorem code_IsCall (d : Nat) (c : Cl) (v : Value) (w : World) (hrd : RdC w d v c) : Calls Try.prog 24 #[v] w fun e w' => e = .returned (.bool (okC 3 c)) ∧ Below w.heap.size w w' := by
  obtain ⟨d', ao, cap, -, rfl, -⟩ := hrd.open
  obtain ⟨k, hk⟩ : ∃ k, k = c.k := ⟨_, rfl⟩
  obtain ⟨t, ht⟩ : ∃ t, t = c.t := ⟨_, rfl⟩
  obtain ⟨n, hn⟩ : ∃ n, n = c.n := ⟨_, rfl⟩
  obtain ⟨m, hm⟩ : ∃ m, m = c.kids.length := ⟨_, rfl⟩
  rw [← hk, ← ht, ← hn, ← hm] at hrd ⊢
  obtain ⟨W, hW⟩ : ∃ W, W = w.alloc (.cells #[.int .i64 k, .int .i64 t, .int .i64 n, .slice ao m cap] 28) := ⟨_, rfl⟩
  have hB : Below w.heap.size w W := by rw [hW]; exact (Below.refl _ w).alloc (Nat.le_refl _) _
  have hrg : W.rangeAt w.heap.size 0 [.int .i64 k, .int .i64 t, .int .i64 n, .slice ao m cap] := by rw [hW]; exact rangeAt_new _
  have hcall := code_isCall 3 (by omega) d c _ W (RdC.below hB hrd)
  have HW := Lib.hid hW
  have HC := Lib.hid hcall
  have HB := Lib.hid hB
  have HRG := Lib.hid hrg
  clear hk ht hn hm hW hB hrg hcall hrd
  go_enter Try.func24, Try.ntmps24
  go_upto_region 1 with fail
  rw [← HW.out]
  go_wp2_with (first
    | (refine wpl_loadC _ rfl rfl rfl HRG.out rfl ?_)
    | (go_at_call 54; refine HC.out.mono ?_; rintro e w1 ⟨rfl, hb⟩; have H1 := Lib.hid (HB.out.trans (hb.mono HB.out.size)); clear hb)
    | fail)
  exact bodyPost_ret (v := .bool (okC 3 c)) (by simp [results, Try.results24, go_sem]) rfl ⟨rfl, H1.out⟩
set_option maxRecDepth 100000 in
set_option maxHeartbeats 1000000 in
theorem code_EncodeCall (d : Nat) (c : Cl) (v : Value) (w : World) (hrd : RdC w d v c) : Calls Try.prog 21 #[v] w fun e w' => ∃ u, e = .returned (.tuple #[u, .int .i64 (if okC 3 c then 0 else 1)]) ∧ OwnB w.heap.size u (Bs (if okC 3 c then layT c else [])) w' ∧ Below w.heap.size w w' := by
  obtain ⟨d', ao, cap, -, rfl, -⟩ := hrd.open
  obtain ⟨k, hk⟩ : ∃ k, k = c.k := ⟨_, rfl⟩
  obtain ⟨t, ht⟩ : ∃ t, t = c.t := ⟨_, rfl⟩
  obtain ⟨n, hn⟩ : ∃ n, n = c.n := ⟨_, rfl⟩
  obtain ⟨m, hm⟩ : ∃ m, m = c.kids.length := ⟨_, rfl⟩
  rw [← hk, ← ht, ← hn, ← hm] at hrd ⊢
  obtain ⟨W, hW⟩ : ∃ W, W = w.alloc (.cells #[.int .i64 k, .int .i64 t, .int .i64 n, .slice ao m cap] 28) := ⟨_, rfl⟩
  have hB : Below w.heap.size w W := by rw [hW]; exact (Below.refl _ w).alloc (Nat.le_refl _) _
  have hrg : W.rangeAt w.heap.size 0 [.int .i64 k, .int .i64 t, .int .i64 n, .slice ao m cap] := by rw [hW]; exact rangeAt_new _
  have hrd3 := RdC.below hB hrd
  have hcall := code_IsCall d c _ W hrd3
  have hlay := fun W2 (hb : Below W.heap.size W W2) (hl : (layT c).length ≤ 100000) => code_lay d c _ W2 hl (RdC.below hb hrd3)
  have hrg2 := fun W2 (hb : Below W.heap.size W W2) => rangeAt_keep hrg (hb.block w.heap.size (by rw [hW]; simp))
  have hlen := fun h => okC3_len (c := c) h
  obtain ⟨q, hq⟩ : ∃ q, q = okC 3 c := ⟨_, rfl⟩
  rw [← hq] at hcall hlen ⊢
  have HW := Lib.hid hW
  have HC := Lib.hid hcall
  have HL := Lib.hid hlay
  have HLE := Lib.hid hlen
  have HB := Lib.hid hB
  have HRG := Lib.hid hrg
  have HRG2 := Lib.hid hrg2
  clear hk ht hn hm hW hB hrg hcall hrd hrd3 hlay hrg2 hlen hq
  go_enter Try.func21, Try.ntmps21
  go_upto_region 1 with fail
  rw [← HW.out]
  have tok : True := trivial
  cases q
  · go_wp2_with (first
      | (refine wpl_loadC _ rfl rfl rfl HRG.out rfl ?_)
      | (go_at_call 24; refine HC.out.mono ?_; rintro e w1 ⟨rfl, hb⟩; have H1 := Lib.hid (HB.out.trans (hb.mono HB.out.size)); clear hb)
      | fail)
    exact bodyPost_ret (v := .tuple #[.slice none 0 0, .int .i64 1]) (by simp [results, Try.results21, go_sem]) rfl ⟨_, rfl, World.ownsRow_nil _ _ _ _, H1.out⟩
  · go_wp2_with (first
      | (have _t := tok; refine wpl_loadC _ rfl rfl rfl HRG.out rfl ?_; clear tok)
      | (go_at_call 24; refine HC.out.mono ?_; rintro e w1 ⟨rfl, hb⟩; have H1 := Lib.hid hb; clear hb)
      | (refine wpl_loadC _ rfl rfl rfl (HRG2.out _ H1.out) rfl ?_)
      | (go_at_call 31; refine (HL.out _ H1.out (Nat.le_trans (HLE.out (by simp)) (by omega))).mono ?_; rintro e w2 ⟨u, rfl, ho, hb, hs⟩; have H2 := Lib.hid (And.intro (OwnB.ofC ho (Nat.le_trans HB.out.size H1.out.size) (fun _ _ => rfl)) (HB.out.trans ((H1.out.trans (hb.mono H1.out.size)).mono HB.out.size))); clear ho hb hs)
      | fail)
    exact bodyPost_ret (v := .tuple #[u, .int .i64 0]) (by simp [results, Try.results21, go_sem]) rfl ⟨u, rfl, H2.out.1, H2.out.2⟩
end Go.Proofs.Ytbndegkgpoemnaa
