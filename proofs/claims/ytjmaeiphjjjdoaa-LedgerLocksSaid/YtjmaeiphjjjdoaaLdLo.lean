/-
  The law LedgerLocks, walked.
-/
import Derived.Test.YtjmaeiphjjjdoaaLdLz
import Derived.Test.YtjmaeiphjjjdoaaLdWa
namespace Go.Proofs.Ytjmaeiphjjjdoaa
open Go.RowKit Go.Maps Go.Shelf
set_option linter.unusedVariables false
set_option linter.unusedSimpArgs false

def m1 (a : Int) : Cls Int := lockM [] 0 (-3) a
def m2 (a b : Int) : Cls Int := lockM (m1 a) 0 4 b
def m3 (a b c : Int) : Cls Int := lockM (m2 a b) 0 11 c
def mK (a b c : Int) (k : Nat) : Cls Int := if k = 0 then [] else if k = 1 then m1 a else if k = 2 then m2 a b else m3 a b c
theorem m3_ok {a b c : Int} (ha : isBal a) (hb : isBal b) (hc : isBal c) : Lk3 (m3 a b c) ∧ (m3 a b c).length ≤ 3 ∧ (val (m3 a b c) (-3) = a ∧ val (m3 a b c) 4 = b ∧ val (m3 a b c) 11 = c) ∧ (m1 a).length ≤ 1 ∧ (m2 a b).length ≤ 2 := by
  have h0 := Lk3.nil
  obtain ⟨h1, v1⟩ := h0.step (i := -3) (.inl rfl) ha (by simp)
  have l1 := lockM_len h0.srt 0 (-3) a
  obtain ⟨h2, v2⟩ := h1.step (i := 4) (.inr (.inl rfl)) hb (by simp at l1; omega)
  have l2 := lockM_len h1.srt 0 4 b
  obtain ⟨h3, v3⟩ := h2.step (i := 11) (.inr (.inr rfl)) hc (by simp at l1; omega)
  have l3 := lockM_len h2.srt 0 11 c
  simp only [List.length_nil] at l1
  refine ⟨h3, ?_, ⟨?_, ?_, ?_⟩, ?_, ?_⟩
  · show (lockM (lockM (lockM [] 0 (-3) a) 0 4 b) 0 11 c).length ≤ 3; omega
  · show val (lockM (lockM (lockM [] 0 (-3) a) 0 4 b) 0 11 c) (-3) = a
    rw [v3, if_neg (by decide), v2, if_neg (by decide), v1, if_pos rfl]
  · show val (lockM (lockM (lockM [] 0 (-3) a) 0 4 b) 0 11 c) 4 = b
    rw [v3, if_neg (by decide), v2, if_pos rfl]
  · show val (lockM (lockM (lockM [] 0 (-3) a) 0 4 b) 0 11 c) 11 = c
    rw [v3, if_pos rfl]
  · show (lockM [] 0 (-3) a).length ≤ 1; omega
  · show (lockM (lockM [] 0 (-3) a) 0 4 b).length ≤ 2; omega
theorem LdZ.setz {z N g gl i : Nat} {A : Acc} {M : Cls Int} {w : World} {v : Value} (h : LdZ z N g gl A M w) : LdZ z N g gl A M (w.setCell ⟨z, i, none⟩ v) := by
  obtain ⟨h0, ⟨F, h1, h2⟩, h3, h4⟩ := h
  have hk : ∀ k, k ≠ z → (w.setCell ⟨z, i, none⟩ v).heap[k]? = w.heap[k]? := fun k hk => Below.heap_setCell _ _ _ k hk
  have hF := h1.keep (w' := w.setCell ⟨z, i, none⟩ v) grow_set (fun k hf => hk k (h2 k hf).2)
  exact ⟨⟨(hk g (fun e => h3 e.symm)).trans h0.blk, ⟨F, hF, fun k hf => (h2 k hf).1⟩, h0.lo, h0.ok, h0.len⟩, ⟨F, hF, h2⟩, h3, by simp [World.setCell]; exact h4⟩
theorem set3c {a b c x : Int} {γ : Nat} (h : γ ≤ 2) : ∃ v0 v1 v2 : Int, ([Value.int .i64 a, .int .i64 b, .int .i64 c].set γ (.int .i64 x)) = [.int .i64 v0, .int .i64 v1, .int .i64 v2] ∧ v0 = (if γ = 0 then x else a) ∧ v1 = (if γ = 1 then x else b) ∧ v2 = (if γ = 2 then x else c) := by
  have e : γ = 0 ∨ γ = 1 ∨ γ = 2 := by omega
  rcases e with rfl | rfl | rfl
  · exact ⟨x, b, c, rfl, rfl, rfl, rfl⟩
  · exact ⟨a, x, c, rfl, rfl, rfl, rfl⟩
  · exact ⟨a, b, x, rfl, rfl, rfl, rfl⟩
theorem max2_is (x y : Int) : (if y > x then y else x) = max x y := by split <;> omega
theorem run_max3 (x y z : Int) (w : World) : (Builtin.max_ #[3, 3, 3] 3 #[.int .i64 x, .int .i64 y, .int .i64 z]).run Try.prog w = .ok (.int .i64 (max (max x y) z)) w := by
  have h : (Builtin.max_ #[3, 3, 3] 3 #[.int .i64 x, .int .i64 y, .int .i64 z]).run Try.prog w = .ok (.int .i64 (if z > (if y > x then y else x) then z else (if y > x then y else x))) w := by
    simp [Builtin.max_, Builtin.max2]
  rw [h, max2_is, max2_is]
theorem m5_ok {a b c : Int} {γ : Nat} (ha : isBal a) (hb : isBal b) (hc : isBal c) (h : γ ≤ 2) : lockedOf (lockM (m3 a b c) 0 (7 * (γ : Int) - 3) 0) 0 = max (max (if γ = 0 then 0 else a) (if γ = 1 then 0 else b)) (if γ = 2 then 0 else c) ∧ (lockM (m3 a b c) 0 (7 * (γ : Int) - 3) 0).length ≤ 4 ∧ lockedOf (m3 a b c) 0 = max (max a b) c := by
  obtain ⟨h3, l3, ⟨v0, v1, v2⟩, -, -⟩ := m3_ok ha hb hc
  have hi : 7 * (γ : Int) - 3 = -3 ∨ 7 * (γ : Int) - 3 = 4 ∨ 7 * (γ : Int) - 3 = 11 := by omega
  obtain ⟨h4, v4⟩ := h3.step hi (n := 0) (by decide) (by omega)
  have l4 := lockM_len h3.srt 0 (7 * (γ : Int) - 3) 0
  refine ⟨?_, by omega, by rw [h3.locked, v0, v1, v2]⟩
  rw [h4.locked, v4, v4, v4, v0, v1, v2]
  have e : γ = 0 ∨ γ = 1 ∨ γ = 2 := by omega
  rcases e with rfl | rfl | rfl <;> simp
theorem LdZ.below {z N g gl : Nat} {A : Acc} {M : Cls Int} {w w' : World} (h : LdZ z N g gl A M w) (hb : Below w.heap.size w w') : LdZ z N g gl A M w' := by
  obtain ⟨h0, ⟨F, h1, h2⟩, h3, h4⟩ := h
  exact ⟨h0.below hb, ⟨F, h1.keep (Grow.of_below hb) (fun k hk => hb.block k (h1.2.2.1 k hk)), h2⟩, h3, Nat.lt_of_lt_of_le h4 hb.size⟩
set_option maxRecDepth 100000 in
set_option maxHeartbeats 8000000 in
theorem ledgerLocks_walk (a b c o : Int) (wa : (Lit.int .i64 a).wf = true) (wb : (Lit.int .i64 b).wf = true) (wc : (Lit.int .i64 c).wf = true) (wo : (Lit.int .i64 o).wf = true) (w : World) : Calls Try.prog 8 #[.int .i64 a, .int .i64 b, .int .i64 c, .int .i64 o] w fun e w' => e = .returned (.bool true) ∧ Below w.heap.size w w' := by
  have hw0 : (Lit.int .i64 0).wf = true := by decide
  have ha0 : isAcc 0 := by decide
  obtain ⟨w0, hw⟩ : ∃ w0, w0 = w.alloc (.cells #[.int .i64 1000] 3) := ⟨_, rfl⟩
  have hrd : RdI w0 (.slice (some ⟨w.heap.size, 0, none⟩) 1 1) [1000] := by rw [hw]; exact RdI.lit w 3 [1000] 1 rfl
  have hb0 : Below w.heap.size w w0 := by rw [hw]; exact (Below.refl _ w).alloc (Nat.le_refl _) _
  have HW := Lib.hid hw
  have H0 := Lib.hid (And.intro hrd hb0)
  clear hw hrd hb0 wa wb wc wo
  go_enter Try.func8, Try.ntmps8
  by_cases hbad : a < 0 ∨ 1000 < a ∨ b < 0 ∨ 1000 < b ∨ c < 0 ∨ 1000 < c ∨ o < 0 ∨ 2 < o
  · have hex : a < 0 ∨ (¬ a < 0 ∧ 1000 < a) ∨ (¬ a < 0 ∧ ¬ 1000 < a ∧ b < 0) ∨ (¬ a < 0 ∧ ¬ 1000 < a ∧ ¬ b < 0 ∧ 1000 < b) ∨ (¬ a < 0 ∧ ¬ 1000 < a ∧ ¬ b < 0 ∧ ¬ 1000 < b ∧ c < 0) ∨ (¬ a < 0 ∧ ¬ 1000 < a ∧ ¬ b < 0 ∧ ¬ 1000 < b ∧ ¬ c < 0 ∧ 1000 < c) ∨ (¬ a < 0 ∧ ¬ 1000 < a ∧ ¬ b < 0 ∧ ¬ 1000 < b ∧ ¬ c < 0 ∧ ¬ 1000 < c ∧ o < 0) ∨ (¬ a < 0 ∧ ¬ 1000 < a ∧ ¬ b < 0 ∧ ¬ 1000 < b ∧ ¬ c < 0 ∧ ¬ 1000 < c ∧ ¬ o < 0 ∧ 2 < o) := by omega
    clear hbad
    rcases hex with h1 | ⟨h1, h2⟩ | ⟨h1, h2, h3⟩ | ⟨h1, h2, h3, h4⟩ | ⟨h1, h2, h3, h4, h5⟩ | ⟨h1, h2, h3, h4, h5, h6⟩ | ⟨h1, h2, h3, h4, h5, h6, h7⟩ | ⟨h1, h2, h3, h4, h5, h6, h7, h8⟩
    all_goals go_wp2_with fail
    all_goals exact bodyPost_ret (v := .bool true) (by simp [results, Try.results8, go_sem]) rfl ⟨rfl, Below.refl _ _⟩
  obtain ⟨γ, rfl⟩ : ∃ γ : Nat, o = γ := ⟨o.toNat, by omega⟩
  have hγ : γ ≤ 2 := by omega
  have h1 : ¬ a < 0 := by omega
  have h2 : ¬ 1000 < a := by omega
  have h3 : ¬ b < 0 := by omega
  have h4 : ¬ 1000 < b := by omega
  have h5 : ¬ c < 0 := by omega
  have h6 : ¬ 1000 < c := by omega
  have h7 : ¬ (γ : Int) < 0 := by omega
  have h8 : ¬ 2 < (γ : Int) := by omega
  have hba : isBal a := by unfold isBal; omega
  have hbb : isBal b := by unfold isBal; omega
  have hbc : isBal c := by unfold isBal; omega
  have HB := Lib.hid (And.intro hba (And.intro hbb (And.intro hbc hγ)))
  have HR := Lib.hid (show (0 ≤ a ∧ a ≤ 1000) ∧ (0 ≤ b ∧ b ≤ 1000) ∧ (0 ≤ c ∧ c ≤ 1000) by omega)
  have HK := Lib.hid (newOk_one (n := 1000) (by decide))
  clear hbad hba hbb hbc
  go_upto_region 6 with (first
    | (go_at_call 14; rw [← HW.out]; refine (ledger_New_ok H0.out.1 (by simp [maxLen]) HK.out).mono ?_; rintro e w1 ⟨g, gl, rfl, hl, hb⟩; have H1 := Lib.hid (And.intro hl hb); clear hl hb)
    | fail)
  clear h1 h2 h3 h4 h5 h6
  go_wp2_with fail
  obtain ⟨w2, hw2⟩ : ∃ w2, w2 = w1.alloc (.cells #[.int .i64 a, .int .i64 b, .int .i64 c] 3) := ⟨_, rfl⟩
  obtain ⟨z, hz⟩ : ∃ z, z = w1.heap.size := ⟨_, rfl⟩
  have hb2 : Below w1.heap.size w1 w2 := by rw [hw2]; exact (Below.refl _ w1).alloc (Nat.le_refl _) _
  have hz2 : w2.heap[z]? = some (.cells [.int .i64 a, .int .i64 b, .int .i64 c].toArray 3 (0, 0)) := by rw [hw2, hz]; exact World.alloc_heap_new _ _
  have hld := LdZ.start H1.out.1 hz hb2 (by rw [hw2, hz]; simp)
  have hNz : w0.heap.size ≤ z := by rw [hz]; exact H1.out.2.size
  rw [← hw2, ← hz]
  have H2 := Lib.hid (And.intro hld (And.intro (H1.out.2.trans (hb2.mono H1.out.2.size)) (And.intro hz2 hNz)))
  clear hw2 hz hb2 hz2 hld hNz
  go_loopw [12] (fun i wr => ∃ k : Nat, k ≤ 3 ∧ i = .int .i64 k ∧ LdZ z w0.heap.size g gl (accL [1000]) (mK a b c k) wr ∧ Below w0.heap.size w0 wr ∧ wr.heap[z]? = w2.heap[z]?) (fun i _ => 3 - (intOf i).toNat)
  case atStart => exact ⟨0, by omega, rfl, H2.out.1, H2.out.2.1, rfl⟩
  case round =>
    obtain ⟨k, hk, rfl, hld, hbl, hzz⟩ := hrel
    have HS := Lib.hid (And.intro hld (And.intro hbl hzz))
    by_cases hlt : k < 3
    · have hblk := hzz.trans H2.out.2.2.1
      have c0 := cell_of (i := 0) hblk rfl
      have c1 := cell_of (i := 1) hblk rfl
      have c2 := cell_of (i := 2) hblk rfl
      clear hld hbl hzz hblk
      obtain ⟨hmo, hml, -, hl1, hl2⟩ := m3_ok HB.out.1 HB.out.2.1 HB.out.2.2.1
      have HL := Lib.hid (And.intro hl1 hl2)
      clear hmo hml hl1 hl2
      have e : k = 0 ∨ k = 1 ∨ k = 2 := by omega
      clear hk hlt
      rcases e with rfl | rfl | rfl
      · go_wp2_with (first
          | (go_at_call 26; refine (ledger_LockZ HS.out.1 HS.out.2.1.size (by simp [mK]) ha0 hw0 (by decide) a).mono ?_; rintro e w3 ⟨rfl, hl, hb, hz⟩; have H3 := Lib.hid (And.intro (show LdZ z w0.heap.size g gl (accL [1000]) (mK a b c 1) w3 from hl) (And.intro (HS.out.2.1.trans hb) (hz.trans HS.out.2.2))); clear hl hb hz)
          | fail)
        go_roundw
        case rel => exact ⟨1, by omega, by go_num, H3.out⟩
        case measure => simp [intOf]
      · go_wp2_with (first
          | (go_at_call 26; refine (ledger_LockZ HS.out.1 HS.out.2.1.size (by have := HL.out.1; show (m1 a).length < 10000; omega) ha0 hw0 (by decide) b).mono ?_; rintro e w3 ⟨rfl, hl, hb, hz⟩; have H3 := Lib.hid (And.intro (show LdZ z w0.heap.size g gl (accL [1000]) (mK a b c 2) w3 from hl) (And.intro (HS.out.2.1.trans hb) (hz.trans HS.out.2.2))); clear hl hb hz)
          | fail)
        go_roundw
        case rel => exact ⟨2, by omega, by go_num, H3.out⟩
        case measure => simp [intOf]
      · go_wp2_with (first
          | (go_at_call 26; refine (ledger_LockZ HS.out.1 HS.out.2.1.size (by have := HL.out.2; show (m2 a b).length < 10000; omega) ha0 hw0 (by decide) c).mono ?_; rintro e w3 ⟨rfl, hl, hb, hz⟩; have H3 := Lib.hid (And.intro (show LdZ z w0.heap.size g gl (accL [1000]) (mK a b c 3) w3 from hl) (And.intro (HS.out.2.1.trans hb) (hz.trans HS.out.2.2))); clear hl hb hz)
          | fail)
        go_roundw
        case rel => exact ⟨3, by omega, by go_num, H3.out⟩
        case measure => simp [intOf]
    · obtain rfl : k = 3 := by omega
      clear hk hlt hld hbl hzz
      obtain ⟨hlk, hml, hmx0⟩ := m5_ok HB.out.1 HB.out.2.1 HB.out.2.2.1 HB.out.2.2.2
      obtain ⟨-, hm3l, -⟩ := m3_ok HB.out.1 HB.out.2.1 HB.out.2.2.1
      obtain ⟨mx, hmx⟩ : ∃ mx, mx = max (max a b) c := ⟨_, rfl⟩
      have hmx1 : max (max a b) c = mx := hmx.symm
      rw [← hmx] at hmx0
      obtain ⟨i, hi⟩ : ∃ i, i = 7 * (γ : Int) - 3 := ⟨_, rfl⟩
      have hn0 : IntKind.i64.wrap (7 * (γ : Int)) = 7 * (γ : Int) := IntWalk.i64_in _ (by omega)
      have hn1 : IntKind.i64.wrap (7 * (γ : Int) - 3) = i := by rw [hi]; exact IntWalk.i64_in _ (by omega)
      have hiw : (Lit.int .i64 i).wf = true := by
        have h1 : (-9223372036854775808 : Int) ≤ i ∧ i ≤ 9223372036854775807 := by omega
        simpa [Lit.wf, IntKind.min, IntKind.max, IntKind.signed, IntKind.bits] using h1
      rw [← hi] at hlk hml
      obtain ⟨M5, hM5⟩ : ∃ M5, M5 = lockM (m3 a b c) 0 i 0 := ⟨_, rfl⟩
      rw [← hM5] at hlk hml
      have HMX := Lib.hid (And.intro hmx0 (And.intro hiw (And.intro hM5 (And.intro hlk (And.intro hml hm3l)))))
      have hγ3 : (γ : Int) < 3 := by omega
      clear hlk hml hmx0 hmx hi hiw hM5 hm3l hγ
      have hfz : ∀ w4 : World, w4.heap[z]? = w2.heap[z]? → w4.cell? ⟨z, γ, none⟩ ≠ none ∧ w4.frozen? ⟨z, γ, none⟩ = false := fun w4 h => by
        have hblk := h.trans H2.out.2.2.1
        refine ⟨?_, by simp [World.frozen?, hblk]⟩
        have e : γ = 0 ∨ γ = 1 ∨ γ = 2 := by have := HB.out.2.2.2; omega
        rcases e with rfl | rfl | rfl
        · rw [cell_of (i := 0) hblk rfl]; simp
        · rw [cell_of (i := 1) hblk rfl]; simp
        · rw [cell_of (i := 2) hblk rfl]; simp
      have HFZ := Lib.hid hfz
      clear hfz
      have hmax3 := run_max3
      have tok : True := trivial
      go_upto_region 15 with (first
        | (go_at_call 31; refine (ledger_Locked HS.out.1.1 hw0).mono ?_; rw [show lockedOf (mK a b c 3) 0 = mx from HMX.out.1]; rintro e w4 ⟨rfl, hb⟩; have H4 := Lib.hid (And.intro (HS.out.1.below hb) (And.intro (HS.out.2.1.trans (hb.mono HS.out.2.1.size)) ((hb.block z HS.out.1.2.2.2).trans HS.out.2.2))); clear hb)
        | (go_at_call 26; refine (ledger_LockZ H4.out.1 H4.out.2.1.size (by have := HMX.out.2.2.2.2.2; show (m3 a b c).length < 10000; omega) ha0 hw0 HMX.out.2.1 0).mono ?_; rw [show lockM (mK a b c 3) 0 i 0 = M5 from HMX.out.2.2.1.symm]; rintro e w5 ⟨rfl, hl, hb, hz⟩; obtain ⟨cz, hcz⟩ := Option.ne_none_iff_exists'.1 (HFZ.out w5 (hz.trans H4.out.2.2)).1; have hfz := (HFZ.out w5 (hz.trans H4.out.2.2)).2; have H5 := Lib.hid (And.intro hl (And.intro (H4.out.2.1.trans hb) (hz.trans H4.out.2.2))); clear hl hb hz)
        | fail)
      obtain ⟨w6, hw6⟩ : ∃ w6, w6 = w5.setCell ⟨z, γ, none⟩ (.int .i64 0) := ⟨_, rfl⟩
      rw [← hw6]
      obtain ⟨v0, v1, v2, hset, e0, e1, e2⟩ := set3c (a := a) (b := b) (c := c) (x := 0) HB.out.2.2.2
      have hblk6 : w6.heap[z]? = some (.cells [.int .i64 v0, .int .i64 v1, .int .i64 v2].toArray 3 (0, 0)) := by
        rw [hw6, setCell_at (H5.out.2.2.trans H2.out.2.2.1), hset]
      have d0 := cell_of (i := 0) hblk6 rfl
      have d1 := cell_of (i := 1) hblk6 rfl
      have d2 := cell_of (i := 2) hblk6 rfl
      have hl6 : LdZ z w0.heap.size g gl (accL [1000]) M5 w6 := by rw [hw6]; exact H5.out.1.setz
      have hb6 : Below w0.heap.size w0 w6 := by rw [hw6]; exact H5.out.2.1.trans (below_set H2.out.2.2.2)
      obtain ⟨lf, hlf⟩ : ∃ lf, lf = max (max v0 v1) v2 := ⟨_, rfl⟩
      have hmx2 : max (max v0 v1) v2 = lf := hlf.symm
      have hlk : lockedOf M5 0 = lf := by rw [HMX.out.2.2.2.1, hlf, e0, e1, e2]
      have hlr : 0 ≤ lf ∧ lf ≤ 1000 := by
        have := HR.out
        rw [hlf, e0, e1, e2]
        split <;> split <;> split <;> omega
      have hn2 : IntKind.i64.wrap (1000 - lf) = 1000 - lf := IntWalk.i64_in _ (by omega)
      have hbal : isBal (1000 - lf) := by unfold isBal; omega
      have f0 : accL [1000] 0 = (1000, 0) := rfl
      have hE : transE (accL [1000]) M5 0 1 (1000 - lf) = 0 := by
        have c1 : ¬ (¬ isAcc (0 : Int) ∨ ¬ isBal (1000 - lf)) := by simp [ha0, hbal]
        unfold transE spendE
        rw [if_pos (by decide), if_neg c1, show (0 : Int).toNat = 0 from rfl, f0, hlk, if_neg (by simp only; omega), if_neg (by simp only; omega)]
      obtain ⟨A7, hA7⟩ : ∃ A7, A7 = transA (accL [1000]) M5 0 1 (1000 - lf) := ⟨_, rfl⟩
      have g0 : A7 0 = (lf, 0) := by
        rw [hA7, transA, hE, if_pos rfl]
        show giveA (spendA (accL [1000]) 0 (1000 - lf)) 1 (1000 - lf) 0 = _
        rw [giveA, upd_other _ _ (by decide), spendA, show (0 : Int).toNat = 0 from rfl, upd_same, f0]
        show ((1000 - (1000 - lf) : Int), (0 : Int)) = (lf, 0)
        rw [show (1000 - (1000 - lf) : Int) = lf by omega]
      have hE2 : lf ≠ 0 → transE A7 M5 0 1 1 = 7 := fun hne => by
        have c1 : ¬ (¬ isAcc (0 : Int) ∨ ¬ isBal 1) := by decide
        unfold transE spendE
        rw [if_pos (by decide), if_neg c1, show (0 : Int).toNat = 0 from rfl, g0, hlk, if_neg (by simp only; omega), if_pos (by refine ⟨by decide, by decide, ?_⟩; simp only; omega)]
      have H6 := Lib.hid (And.intro hl6 hb6)
      have HE := Lib.hid (And.intro hE (And.intro hA7 (And.intro hlk hE2)))
      clear hset e0 e1 e2 hblk6 hl6 hb6 hlf hlk hlr hbal f0 hE hA7 g0 hE2 hw6 hcz hfz hmx1 hn0 hn1
      go_quiet (fail)
      have H7 := Lib.hid (And.intro (H6.out.1.1.below (show Below w6.heap.size w6 (w6.drewN nq) from ⟨rfl, rfl, rfl, Nat.le_refl _, fun _ _ => rfl⟩)) (H6.out.2.trans (show Below w0.heap.size w6 (w6.drewN nq) from ⟨rfl, rfl, rfl, Nat.le_refl _, fun _ _ => rfl⟩)))
      by_cases hz0 : lf = 0
      · subst hz0
        have hE0 : transE (accL [1000]) M5 0 1 1000 = 0 := HE.out.1
        have hA0 : A7 = transA (accL [1000]) M5 0 1 1000 := HE.out.2.1
        have HE0 := Lib.hid (And.intro hE0 hA0)
        clear hE0 hA0
        go_wp2_with (first
          | (go_at_call 22; refine (ledger_Transfer H7.out.1 H7.out.2.size hw0 1 1000).mono ?_; rw [HE0.out.1, ← HE0.out.2]; rintro e w8 ⟨rfl, hl, hb⟩; have H8 := Lib.hid (And.intro hl (H7.out.2.trans hb)); clear hl hb)
          | (go_at_call 31; refine (ledger_Locked H8.out.1 hw0).mono ?_; rw [HE.out.2.2.1]; rintro e w9 ⟨rfl, hb⟩; have H9 := Lib.hid (H8.out.2.trans (hb.mono H8.out.2.size)); clear hb)
          | (go_at_call 19; refine (law_known _).mono ?_; rintro e wb ⟨rfl, hb⟩; have HBB := Lib.hid (H9.out.trans (hb.mono H9.out.size)); clear hb)
          | fail)
        go_ret
        exact ⟨rfl, H0.out.2.trans (HBB.out.mono H0.out.2.size)⟩
      · have hne : (lf == 0) = false := by rw [beq_eq_false_iff_ne]; exact hz0
        have HNE := Lib.hid hz0
        go_wp2_with (first
          | (go_at_call 22; with_reducible refine (ledger_Transfer H7.out.1 H7.out.2.size hw0 1 (1000 - lf)).mono ?_; rw [HE.out.1, ← HE.out.2.1]; rintro e w8 ⟨rfl, hl, hb⟩; have H8 := Lib.hid (And.intro hl (H7.out.2.trans hb)); clear hl hb)
          | (go_at_call 31; refine (ledger_Locked H8.out.1 hw0).mono ?_; rw [HE.out.2.2.1]; rintro e w9 ⟨rfl, hb⟩; have H9 := Lib.hid (And.intro (H8.out.1.below hb) (H8.out.2.trans (hb.mono H8.out.2.size))); clear hb)
          | (go_at_call 22; refine (ledger_Transfer H9.out.1 H9.out.2.size hw0 1 1).mono ?_; rw [HE.out.2.2.2 HNE.out]; rintro e wa ⟨rfl, hl, hb⟩; have HAA := Lib.hid (H9.out.2.trans hb); clear hl hb)
          | (go_at_call 19; refine (law_known _).mono ?_; rintro e wb ⟨rfl, hb⟩; have HBB := Lib.hid (HAA.out.trans (hb.mono HAA.out.size)); clear hb)
          | fail)
        go_ret
        exact ⟨rfl, H0.out.2.trans (HBB.out.mono H0.out.2.size)⟩
end Go.Proofs.Ytjmaeiphjjjdoaa
