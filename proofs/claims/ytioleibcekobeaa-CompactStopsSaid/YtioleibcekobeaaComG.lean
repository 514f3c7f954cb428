/-
  The walk of compact's law: any numbers and rows as bytes, any bytes as a number, as a row.
-/
import Derived.Test.YtioleibcekobeaaComE
import Derived.Test.YtioleibcekobeaaOpenU
namespace Go.Proofs.Ytioleibcekobeaa
open Go.RowKit
set_option linter.unusedVariables false
set_option linter.unusedSimpArgs false

theorem longL_snoc (l : List (List Nat)) (p : List Nat) : longL (l ++ [p]) = longL l + (1 + p.length) := by
  induction l with
  | nil => simp [longL]
  | cons a l ih => simp only [List.cons_append, longL, ih]; omega
theorem longL_take (l : List (List Nat)) (k : Nat) : longL (l.take k) ≤ longL l := by
  induction l generalizing k with
  | nil => simp [longL]
  | cons p l ih =>
    cases k with
    | zero => simp [longL]
    | succ k => have := ih k; simp only [List.take_succ_cons, longL]; omega
theorem longL_length (l : List (List Nat)) : l.length ≤ longL l := by
  induction l with
  | nil => simp
  | cons p l ih => simp only [List.length_cons, longL]; omega
theorem longL_bulk (l : List (List Nat)) : bulkL l ≤ 9 * longL l := by
  induction l with
  | nil => simp [bulkL]
  | cons p l ih => simp only [bulkL, longL]; omega

/-- A row of rows at a place. -/
theorem RdBB.at {w : World} {ao : Option Addr} {cap n : Nat} {l : List (List Nat)} (h : RdBB w (.slice ao n cap) l) {j : Nat} (hj : j < l.length) :
    ∃ blk off ao2 cap2, ao = some ⟨blk, off, none⟩ ∧ n = l.length ∧ l.length ≤ cap ∧ blk < w.heap.size ∧ w.cell? ⟨blk, off + j, none⟩ = some (.slice ao2 (l.getD j []).length cap2) ∧ RdB w (.slice ao2 (l.getD j []).length cap2) (l.getD j []) := by
  rcases h with ⟨-, h2⟩ | ⟨a, cap', h1, hc, hcell⟩
  · subst h2; simp at hj
  · injection h1 with h1 h2 h3
    subst h1 h2 h3
    obtain ⟨u, hu, hr⟩ := hcell j hj
    obtain ⟨u0, hu0, -⟩ := hcell 0 (by omega)
    have hsp := World.cell?_spot hu0
    have hb := cell_block hu
    obtain ⟨blk, off, spot⟩ := a
    have hspot : spot = none := by simpa [Addr.add] using hsp
    subst hspot
    rw [add_at] at hu
    obtain ⟨ao2, cap2, hv⟩ := hr.lenOf
    rw [hv] at hu hr
    exact ⟨blk, off, ao2, cap2, rfl, rfl, hc, hb, hu, hr⟩
theorem RdBB.lenOf {w : World} {v : Value} {l : List (List Nat)} (h : RdBB w v l) : ∃ ao cap, v = .slice ao l.length cap := by
  rcases h with ⟨rfl, rfl⟩ | ⟨a, cap, rfl, -⟩
  · exact ⟨_, _, rfl⟩
  · exact ⟨_, _, rfl⟩
theorem RdI.lenOf {w : World} {v : Value} {l : List Int} (h : RdI w v l) : ∃ ao cap, v = .slice ao l.length cap := by
  rcases h with ⟨rfl, rfl⟩ | ⟨a, cap, rfl, -⟩
  · exact ⟨_, _, rfl⟩
  · exact ⟨_, _, rfl⟩

set_option maxHeartbeats 1000000 in
theorem long_calls (v : Value) (l : List (List Nat)) (w : World) (h : RdBB w v l) (hl : longL l ≤ 1048576) :
    Calls Try.prog 11 #[v] w fun e w' => e = .returned (.bool (decide ((3000 : Int) < (longL l : Int)))) ∧ w = w' := by
  have HR := Lib.hid h
  obtain ⟨ao, cap, rfl⟩ := h.lenOf
  have hll := longL_length l
  obtain ⟨z, hz⟩ : ∃ z, z = longL l := ⟨_, rfl⟩
  have HZ := Lib.hid hz
  rw [← hz]
  clear h hz
  go_enter Try.func11, Try.ntmps11
  go_wp2_with fail
  go_loop [3, 4] (fun n i => ∃ j m : Nat, j ≤ l.length ∧ i = .int .i64 j ∧ n = .int .i64 m ∧ m = longL (l.take j)) (fun _ i => l.length - (intOf i).toNat)
  case atStart => exact ⟨0, 0, Nat.zero_le _, rfl, rfl, by simp [longL]⟩
  case round =>
    obtain ⟨j, m, hj, rfl, rfl, hm⟩ := hrel
    have hmb : m ≤ 1048576 := by rw [hm]; exact Nat.le_trans (longL_take l j) hl
    have HM := Lib.hid hm
    clear hm
    by_cases hlt : j < l.length
    · obtain ⟨blk, off, ao2, cap2, rfl, -, hc, hb, hcell, hr⟩ := HR.out.at hlt
      obtain ⟨q, hq⟩ : ∃ q, q = (l.getD j []).length := ⟨_, rfl⟩
      rw [← hq] at hcell
      have hnext : longL (l.take (j + 1)) = m + (1 + q) := by
        rw [List.take_succ_eq_append_getElem hlt, longL_snoc, HM.out, hq]; simp [hlt]
      have hqb : q ≤ 1048576 := by have := longL_take l (j + 1); omega
      have HN := Lib.hid hnext
      have hone : (Value.slice ao2 q cap2).oneCell' = true := rfl
      clear hr hq hnext
      go_wp2_with fail
      exact ⟨⟨j + 1, m + (1 + q), by omega, by go_num, by go_num, HN.out.symm⟩, by simp [intOf]; omega⟩
    · have : j = l.length := by omega
      subst this
      have hmz : m = z := by rw [HM.out, HZ.out, List.take_length]
      subst hmz
      clear hlt
      go_wp2_with fail
      go_ret
      exact ⟨rfl, rfl⟩

theorem numsL_lt (l : List Int) : ∀ c ∈ numsL l, c < 256 := by
  induction l with
  | nil => simp [numsL]
  | cons a l ih =>
    intro c hc
    rw [numsL, List.mem_append] at hc
    exact hc.elim (numL_lt _ c) (ih c)
theorem rowsL_lt (l : List (List Nat)) (h : ∀ y ∈ l, ∀ c ∈ y, c < 256) : ∀ c ∈ rowsL l, c < 256 := by
  induction l with
  | nil => simp [rowsL]
  | cons a l ih =>
    intro c hc
    rw [rowsL, List.mem_append] at hc
    exact hc.elim (rowL_lt a (h a (by simp)) c) (ih (fun y hy => h y (by simp [hy])) c)
theorem cutL_lt {b q : List Nat} {k : Nat} (hb : ∀ c ∈ b, c < 256) (h : cutL b = some (q, k)) : ∀ c ∈ q, c < 256 := by
  unfold cutL at h
  split at h
  · cases h
  · split at h
    · cases h
    · injection h with h
      injection h with h1 h2
      rw [← h1]
      exact fun c hc => hb c (List.mem_of_mem_drop (List.mem_of_mem_take hc))

set_option maxRecDepth 100000 in
set_option maxHeartbeats 4000000 in
theorem compactTells_nn (v u x : Value) (l : List Int) (p : List (List Nat)) (b : List Nat) (w : World) (hll : l.length ≤ 100) (hpl : longL p ≤ 3000) (hbl : b.length ≤ 1000) (hp : ∀ y ∈ p, ∀ c ∈ y, c < 256) (hb : ∀ c ∈ b, c < 256) (hrl : RdI w v l) (hrp : RdBB w u p) (hrb : RdB w x b)
    (ht : takeL b = none) (hc : cutL b = none) :
    Calls Try.prog 3 #[v, u, x] w fun e w' => e = .returned (.bool true) ∧ Below w.heap.size w w' := by
  have HRL := Lib.hid hrl
  have HRP := Lib.hid hrp
  have HRB := Lib.hid hrb
  obtain ⟨ao0, cap0, rfl⟩ := hrl.lenOf
  obtain ⟨ao1, cap1, rfl⟩ := hrp.lenOf
  obtain ⟨ao2, cap2, rfl⟩ := hrb.lenOf
  have HBB := Lib.hid hb
  have HPB := Lib.hid hp
  have HT := Lib.hid ht
  have HC := Lib.hid hc
  have hlb := longL_bulk p
  have hlp := longL_length p
  have hns := numsL_length l
  have hrs := rowsL_length p
  have d1 : decide ((100 : Int) < (l.length : Int)) = false := by simp; omega
  have d2 : decide ((3000 : Int) < (longL p : Int)) = false := by simp; omega
  have d3 : decide ((1000 : Int) < (b.length : Int)) = false := by simp; omega
  have nb : ∀ c ∈ numsL l, c < 256 := numsL_lt l
  have HNB := Lib.hid nb
  have rb : ∀ c ∈ rowsL p, c < 256 := rowsL_lt p hp
  have HRBb := Lib.hid rb
  have b1 : ∀ c ∈ b ++ numsL l, c < 256 := fun c h => (List.mem_append.1 h).elim (hb c) (nb c)
  have b2 : ∀ c ∈ b ++ rowsL p, c < 256 := fun c h => (List.mem_append.1 h).elim (hb c) (rb c)
  have HB1 := Lib.hid b1
  have HB2 := Lib.hid b2
  have z1 : ¬ 9223372036854775807 < (strN b).size + (strN (numsL l)).size := by rw [strN_size, strN_size]; omega
  have z2 : strN b ++ strN (numsL l) = strN (b ++ numsL l) := strN_append _ _
  have Z1 := Lib.hid z1
  have Z2 := Lib.hid z2
  clear hrl hrp hrb hb hp ht hc nb rb b1 b2 z1 z2
  go_enter Try.func3, Try.ntmps3
  go_wp2_with (first | (go_at_call 11; refine (long_calls _ p _ HRP.out (by omega)).mono ?_; rintro e w' ⟨rfl, rfl⟩) | fail)
  refine wp_region_plan_lit (L := Later) 131 [.pure, .pin (.string (strN b)), .pure, .any (fun w v => RdB w v (numsL l)), .pin (.string (strN (numsL l))), .pure, .pure] (by kernel_rfl) (by kernel_rfl) rfl (fun w => Below.refl _ w) Later.tr ⟨fun w w' v hL hR => RdB.below hR hL, trivial⟩ ?_
  iterate 1
    first
    | (refine wm_skip (by rfl) (fun K hK => ?_))
    | (refine wm_move (by rfl) (.inl rfl) (fun K hK => ?_))
    | (refine wm_move (by rfl) (.inr rfl) (fun K hK => ?_))
    | (refine wm_run (by rfl) (fun K hK => ?_)
       apply Exists.intro
       apply And.intro
       · intro w hL
         simp [go_sem, Z1.out, Z2.out]
         rfl)
    simp only [Act.put, Act.eval, List.setIfInBounds_toArray, List.set_cons_succ, List.set_cons_zero]
    refine hK _ ?_
    clear hK K
  refine wm_pin (fun K hK => ⟨fun w' hL hk => ?_, ?_⟩)
  · have hstr := run_str (HRB.out.below ((Below.refl _ w).drew.trans (hL.mono (Nat.le_refl _)))) HBB.out
    go_wp2_with fail
    exact qr_pin rfl rfl rfl (Below.refl _ _)
  simp only [Act.put, Act.eval, List.setIfInBounds_toArray, List.set_cons_succ, List.set_cons_zero]
  refine hK _ ?_
  clear hK K
  iterate 1
    first
    | (refine wm_skip (by rfl) (fun K hK => ?_))
    | (refine wm_move (by rfl) (.inl rfl) (fun K hK => ?_))
    | (refine wm_move (by rfl) (.inr rfl) (fun K hK => ?_))
    | (refine wm_run (by rfl) (fun K hK => ?_)
       apply Exists.intro
       apply And.intro
       · intro w hL
         simp [go_sem, Z1.out, Z2.out]
         rfl)
    simp only [Act.put, Act.eval, List.setIfInBounds_toArray, List.set_cons_succ, List.set_cons_zero]
    refine hK _ ?_
    clear hK K
  refine wm_any (fun K hK => ⟨fun w' hL hk => ?_, fun v37 => ?_⟩)
  · have hri := Lib.hid (HRL.out.below ((Below.refl _ w).drew.trans (hL.mono (Nat.le_refl _))))
    go_wp2_with (first | (go_at_call 12; refine (ref_Nums _ l _ hri.out (by omega)).mono ?_; rintro e w9 ⟨v9, rfl, ho9, hb9, hs9⟩) | fail)
    exact qr_any rfl rfl rfl hb9 ho9.reads
  simp only [Act.put, Act.eval, List.setIfInBounds_toArray, List.set_cons_succ, List.set_cons_zero]
  refine hK _ ?_
  clear hK K
  refine wm_pin (fun K hK => ⟨fun w' hL hk => ?_, ?_⟩)
  · have h37 : RdB w' v37 (numsL l) := hk.get 37 3 (by kernel_rfl) rfl
    have hstr := run_str h37 HNB.out
    go_wp2_with fail
    exact qr_pin rfl rfl rfl (Below.refl _ _)
  simp only [Act.put, Act.eval, List.setIfInBounds_toArray, List.set_cons_succ, List.set_cons_zero]
  refine hK _ ?_
  clear hK K
  iterate 2
    first
    | (refine wm_skip (by rfl) (fun K hK => ?_))
    | (refine wm_move (by rfl) (.inl rfl) (fun K hK => ?_))
    | (refine wm_move (by rfl) (.inr rfl) (fun K hK => ?_))
    | (refine wm_run (by rfl) (fun K hK => ?_)
       apply Exists.intro
       apply And.intro
       · intro w hL
         simp [go_sem, Z1.out, Z2.out]
         rfl)
    simp only [Act.put, Act.eval, List.setIfInBounds_toArray, List.set_cons_succ, List.set_cons_zero]
    refine hK _ ?_
    clear hK K
  refine wm_end (fun w' hL hk => ?_)
  clear hk
  have B1 : Below w.heap.size w w' := (Below.refl _ w).drew.trans (hL.mono (Nat.le_refl _))
  have hs1 : w.heap.size ≤ w'.heap.size := B1.size
  clear hL
  obtain ⟨w1, hw1⟩ : ∃ w1, w1 = w' := ⟨_, rfl⟩
  rw [← hw1] at B1 hs1 ⊢
  clear hw1
  have hown0 : OwnB w1.heap.size (.slice (some ⟨w1.heap.size, 0, none⟩) 0 0) (Bs []) (w1.alloc (.cells #[] 5)) := World.ownsRow_made w1 #[] 0 (Nat.le_refl _) (Nat.zero_le _) rfl
  have hrb1 := Lib.hid ((HRB.out.below B1).below ((Below.refl _ w1).alloc (Nat.le_refl _) (.cells #[] 5)))
  go_wp2_with (first | (at_builtin; refine wp_app_B rfl rfl rfl rfl hown0 hrb1.out (by simp; omega) (by simp) ?_; rw [List.nil_append]; intro v2 w2 ho2 hb2 hs2 hg2) | fail)
  have B2 : Below w.heap.size w w2 := (B1.alloc hs1 _).trans (hb2.mono hs1)
  have hrl2 := Lib.hid (HRL.out.below B2)
  refine (compact_Put _ _ b l _ ho2.reads hrl2.out (by omega) (by omega)).mono ?_
  rintro e w3 ⟨v3, rfl, ho3, hb3, hs3⟩
  have hstr3 := run_str ho3.reads HB1.out
  have B3 : Below w.heap.size w w3 := B2.trans (hb3.mono B2.size)
  have hstb := run_str (HRB.out.below B3) HBB.out
  clear ho2 hg2 hown0
  go_wp2_with fail
  go_loopw [8, 9] (fun r i wr => ∃ j : Nat, j ≤ p.length ∧ i = .int .i64 j ∧ r = .string (strN (b ++ rowsL (p.take j))) ∧ Below w.heap.size w wr) (fun _ i _ => p.length - (intOf i).toNat)
  case atStart => exact ⟨0, Nat.zero_le _, rfl, by simp [rowsL], B3⟩
  case round =>
    obtain ⟨j, hj, rfl, rfl, hbr⟩ := hrel
    clear hstr3 hstb
    by_cases hlt : j < p.length
    · have hrpr := HRP.out.below hbr
      obtain ⟨blk, off, ao3, cap3, hao, -, hc, hbk, hcell, hr⟩ := hrpr.at hlt
      subst hao
      obtain ⟨q0, hq0⟩ : ∃ q0, q0 = p.getD j [] := ⟨_, rfl⟩
      rw [← hq0] at hcell hr
      have hq0b : ∀ c ∈ q0, c < 256 := by rw [hq0]; intro c hcc; exact HPB.out _ (by rw [List.getD_eq_getElem?_getD, List.getElem?_eq_getElem hlt]; exact List.getElem_mem hlt) c hcc
      have hnext : b ++ rowsL (p.take (j + 1)) = (b ++ rowsL (p.take j)) ++ rowL q0 := by
        rw [List.take_succ_eq_append_getElem hlt, rowsL_snoc, hq0]; simp [hlt]
      have hq0l : q0.length ≤ 3000 := by
        have := bulkL_at p j hlt
        have h2 := longL_take p (j + 1)
        rw [List.take_succ_eq_append_getElem hlt, longL_snoc] at h2
        rw [hq0, List.getD_eq_getElem?_getD, List.getElem?_eq_getElem hlt]
        simp only [Option.getD_some]; omega
      have hrl0 := rowL_length q0
      have hrt := rowsL_length (p.take j)
      have hbt := bulkL_take p j
      have y1 : ¬ 9223372036854775807 < (strN (b ++ rowsL (p.take j))).size + (strN (rowL q0)).size := by rw [strN_size, strN_size, List.length_append]; omega
      have y2 : strN (b ++ rowsL (p.take j)) ++ strN (rowL q0) = strN (b ++ rowsL (p.take (j + 1))) := by rw [strN_append, ← hnext]
      have Y1 := Lib.hid y1
      have Y2 := Lib.hid y2
      have HRQ := Lib.hid hr
      have HQB := Lib.hid (rowL_lt q0 hq0b)
      have hone : (Value.slice ao3 q0.length cap3).oneCell' = true := rfl
      clear hq0 hr hq0b hnext y1 y2 hrl0 hrt hbt hrpr
      go_wp2_with (first | (go_at_call 14; refine (ref_Row _ q0 _ HRQ.out (by omega)).mono ?_; rintro e w4 ⟨v4, rfl, ho4, hb4, hs4⟩; have hstr4 := run_str ho4.reads HQB.out; have y1 := Y1.out; have y2 := Y2.out) | fail)
      exact ⟨⟨j + 1, by omega, by go_num, rfl, hbr.trans (hb4.mono hbr.size)⟩, by simp [intOf]; omega⟩
    · have : j = p.length := by omega
      subst this
      rw [List.take_length]
      have hge : decide ((p.length : Int) < (p.length : Int)) = false := by simp
      clear hlt
      have hrbr := Lib.hid (HRB.out.below hbr)
      go_wp2_with (first | (go_at_call 15; refine (compact_Take _ _ _ hrbr.out HBB.out).mono ?_; rw [HT.out]; rintro e w' ⟨rfl, rfl⟩; simp only [takeV]) | fail)
      refine (ref_Take _ _ _ hrbr.out HBB.out).mono ?_
      rw [HT.out]
      rintro e w5 ⟨rfl, hb5⟩
      simp only [takeV]
      have B5 : Below w.heap.size w w5 := hbr.trans (hb5.mono hbr.size)
      have hrb5 := Lib.hid (HRB.out.below B5)
      go_wp2_with fail
      refine (compact_Cut _ _ _ hrb5.out HBB.out (by omega)).mono ?_
      rw [HC.out]
      rintro e w6 ⟨hb6, hs6, rfl⟩
      have B6 : Below w.heap.size w w6 := B5.trans (hb6.mono B5.size)
      have hrb6 := Lib.hid (HRB.out.below B6)
      go_wp2_with fail
      refine (ref_Cut _ _ _ hrb6.out HBB.out (by omega)).mono ?_
      rw [HC.out]
      rintro e w7 ⟨hb7, rfl⟩
      have B7 : Below w.heap.size w w7 := B6.trans (hb7.mono B6.size)
      have hown1 : OwnB w7.heap.size (.slice (some ⟨w7.heap.size, 0, none⟩) 0 0) (Bs []) (w7.alloc (.cells #[] 5)) := World.ownsRow_made w7 #[] 0 (Nat.le_refl _) (Nat.zero_le _) rfl
      have hrb7 := Lib.hid ((HRB.out.below B7).below ((Below.refl _ w7).alloc (Nat.le_refl _) (.cells #[] 5)))
      go_wp2_with (first | (at_builtin; refine wp_app_B rfl rfl rfl rfl hown1 hrb7.out (by simp; omega) (by simp) ?_; rw [List.nil_append]; intro v8 w8 ho8 hb8 hs8 hg8) | fail)
      have L8 : Later w7 w8 := ((Below.refl _ w7).alloc (Nat.le_refl _) _).trans hb8
      have B8 : Below w.heap.size w w8 := B7.trans (L8.mono B7.size)
      have hrp8 := Lib.hid (HRP.out.below B8)
      refine (compact_Row _ _ b p _ ho8.reads hrp8.out (by omega) (by unfold maxLen; omega)).mono ?_
      rintro e w9 ⟨v9, rfl, ho9, hb9, hs9⟩
      have hstr9 := run_str ho9.reads HB2.out
      have B9 : Below w.heap.size w w9 := B8.trans (hb9.mono B8.size)
      have hx9 := run_str (rdB_nil w9) (by simp)
      clear ho8 hg8 hown1 ho9
      go_wp2_with (first | (go_at_call 20; refine (known_calls _).mono ?_; rintro e w10 ⟨rfl, hb10⟩) | fail)
      go_ret
      exact ⟨rfl, B9.trans (hb10.mono B9.size)⟩

set_option maxRecDepth 100000 in
set_option maxHeartbeats 4000000 in
theorem compactTells_sn (v u x : Value) (l : List Int) (p : List (List Nat)) (b : List Nat) (w : World) (hll : l.length ≤ 100) (hpl : longL p ≤ 3000) (hbl : b.length ≤ 1000) (hp : ∀ y ∈ p, ∀ c ∈ y, c < 256) (hb : ∀ c ∈ b, c < 256) (hrl : RdI w v l) (hrp : RdBB w u p) (hrb : RdB w x b)
    (n s : Nat) (ht : takeL b = some (n, s)) (hc : cutL b = none) :
    Calls Try.prog 3 #[v, u, x] w fun e w' => e = .returned (.bool true) ∧ Below w.heap.size w w' := by
  have HRL := Lib.hid hrl
  have HRP := Lib.hid hrp
  have HRB := Lib.hid hrb
  obtain ⟨ao0, cap0, rfl⟩ := hrl.lenOf
  obtain ⟨ao1, cap1, rfl⟩ := hrp.lenOf
  obtain ⟨ao2, cap2, rfl⟩ := hrb.lenOf
  have HBB := Lib.hid hb
  have HPB := Lib.hid hp
  have HT := Lib.hid ht
  have HC := Lib.hid hc
  have hlb := longL_bulk p
  have hlp := longL_length p
  have hns := numsL_length l
  have hrs := rowsL_length p
  have d1 : decide ((100 : Int) < (l.length : Int)) = false := by simp; omega
  have d2 : decide ((3000 : Int) < (longL p : Int)) = false := by simp; omega
  have d3 : decide ((1000 : Int) < (b.length : Int)) = false := by simp; omega
  have nb : ∀ c ∈ numsL l, c < 256 := numsL_lt l
  have HNB := Lib.hid nb
  have rb : ∀ c ∈ rowsL p, c < 256 := rowsL_lt p hp
  have HRBb := Lib.hid rb
  have b1 : ∀ c ∈ b ++ numsL l, c < 256 := fun c h => (List.mem_append.1 h).elim (hb c) (nb c)
  have b2 : ∀ c ∈ b ++ rowsL p, c < 256 := fun c h => (List.mem_append.1 h).elim (hb c) (rb c)
  have HB1 := Lib.hid b1
  have HB2 := Lib.hid b2
  have z1 : ¬ 9223372036854775807 < (strN b).size + (strN (numsL l)).size := by rw [strN_size, strN_size]; omega
  have z2 : strN b ++ strN (numsL l) = strN (b ++ numsL l) := strN_append _ _
  have Z1 := Lib.hid z1
  have Z2 := Lib.hid z2
  clear hrl hrp hrb hb hp ht hc nb rb b1 b2 z1 z2
  go_enter Try.func3, Try.ntmps3
  go_wp2_with (first | (go_at_call 11; refine (long_calls _ p _ HRP.out (by omega)).mono ?_; rintro e w' ⟨rfl, rfl⟩) | fail)
  refine wp_region_plan_lit (L := Later) 131 [.pure, .pin (.string (strN b)), .pure, .any (fun w v => RdB w v (numsL l)), .pin (.string (strN (numsL l))), .pure, .pure] (by kernel_rfl) (by kernel_rfl) rfl (fun w => Below.refl _ w) Later.tr ⟨fun w w' v hL hR => RdB.below hR hL, trivial⟩ ?_
  iterate 1
    first
    | (refine wm_skip (by rfl) (fun K hK => ?_))
    | (refine wm_move (by rfl) (.inl rfl) (fun K hK => ?_))
    | (refine wm_move (by rfl) (.inr rfl) (fun K hK => ?_))
    | (refine wm_run (by rfl) (fun K hK => ?_)
       apply Exists.intro
       apply And.intro
       · intro w hL
         simp [go_sem, Z1.out, Z2.out]
         rfl)
    simp only [Act.put, Act.eval, List.setIfInBounds_toArray, List.set_cons_succ, List.set_cons_zero]
    refine hK _ ?_
    clear hK K
  refine wm_pin (fun K hK => ⟨fun w' hL hk => ?_, ?_⟩)
  · have hstr := run_str (HRB.out.below ((Below.refl _ w).drew.trans (hL.mono (Nat.le_refl _)))) HBB.out
    go_wp2_with fail
    exact qr_pin rfl rfl rfl (Below.refl _ _)
  simp only [Act.put, Act.eval, List.setIfInBounds_toArray, List.set_cons_succ, List.set_cons_zero]
  refine hK _ ?_
  clear hK K
  iterate 1
    first
    | (refine wm_skip (by rfl) (fun K hK => ?_))
    | (refine wm_move (by rfl) (.inl rfl) (fun K hK => ?_))
    | (refine wm_move (by rfl) (.inr rfl) (fun K hK => ?_))
    | (refine wm_run (by rfl) (fun K hK => ?_)
       apply Exists.intro
       apply And.intro
       · intro w hL
         simp [go_sem, Z1.out, Z2.out]
         rfl)
    simp only [Act.put, Act.eval, List.setIfInBounds_toArray, List.set_cons_succ, List.set_cons_zero]
    refine hK _ ?_
    clear hK K
  refine wm_any (fun K hK => ⟨fun w' hL hk => ?_, fun v37 => ?_⟩)
  · have hri := Lib.hid (HRL.out.below ((Below.refl _ w).drew.trans (hL.mono (Nat.le_refl _))))
    go_wp2_with (first | (go_at_call 12; refine (ref_Nums _ l _ hri.out (by omega)).mono ?_; rintro e w9 ⟨v9, rfl, ho9, hb9, hs9⟩) | fail)
    exact qr_any rfl rfl rfl hb9 ho9.reads
  simp only [Act.put, Act.eval, List.setIfInBounds_toArray, List.set_cons_succ, List.set_cons_zero]
  refine hK _ ?_
  clear hK K
  refine wm_pin (fun K hK => ⟨fun w' hL hk => ?_, ?_⟩)
  · have h37 : RdB w' v37 (numsL l) := hk.get 37 3 (by kernel_rfl) rfl
    have hstr := run_str h37 HNB.out
    go_wp2_with fail
    exact qr_pin rfl rfl rfl (Below.refl _ _)
  simp only [Act.put, Act.eval, List.setIfInBounds_toArray, List.set_cons_succ, List.set_cons_zero]
  refine hK _ ?_
  clear hK K
  iterate 2
    first
    | (refine wm_skip (by rfl) (fun K hK => ?_))
    | (refine wm_move (by rfl) (.inl rfl) (fun K hK => ?_))
    | (refine wm_move (by rfl) (.inr rfl) (fun K hK => ?_))
    | (refine wm_run (by rfl) (fun K hK => ?_)
       apply Exists.intro
       apply And.intro
       · intro w hL
         simp [go_sem, Z1.out, Z2.out]
         rfl)
    simp only [Act.put, Act.eval, List.setIfInBounds_toArray, List.set_cons_succ, List.set_cons_zero]
    refine hK _ ?_
    clear hK K
  refine wm_end (fun w' hL hk => ?_)
  clear hk
  have B1 : Below w.heap.size w w' := (Below.refl _ w).drew.trans (hL.mono (Nat.le_refl _))
  have hs1 : w.heap.size ≤ w'.heap.size := B1.size
  clear hL
  obtain ⟨w1, hw1⟩ : ∃ w1, w1 = w' := ⟨_, rfl⟩
  rw [← hw1] at B1 hs1 ⊢
  clear hw1
  have hown0 : OwnB w1.heap.size (.slice (some ⟨w1.heap.size, 0, none⟩) 0 0) (Bs []) (w1.alloc (.cells #[] 5)) := World.ownsRow_made w1 #[] 0 (Nat.le_refl _) (Nat.zero_le _) rfl
  have hrb1 := Lib.hid ((HRB.out.below B1).below ((Below.refl _ w1).alloc (Nat.le_refl _) (.cells #[] 5)))
  go_wp2_with (first | (at_builtin; refine wp_app_B rfl rfl rfl rfl hown0 hrb1.out (by simp; omega) (by simp) ?_; rw [List.nil_append]; intro v2 w2 ho2 hb2 hs2 hg2) | fail)
  have B2 : Below w.heap.size w w2 := (B1.alloc hs1 _).trans (hb2.mono hs1)
  have hrl2 := Lib.hid (HRL.out.below B2)
  refine (compact_Put _ _ b l _ ho2.reads hrl2.out (by omega) (by omega)).mono ?_
  rintro e w3 ⟨v3, rfl, ho3, hb3, hs3⟩
  have hstr3 := run_str ho3.reads HB1.out
  have B3 : Below w.heap.size w w3 := B2.trans (hb3.mono B2.size)
  have hstb := run_str (HRB.out.below B3) HBB.out
  clear ho2 hg2 hown0
  go_wp2_with fail
  go_loopw [8, 9] (fun r i wr => ∃ j : Nat, j ≤ p.length ∧ i = .int .i64 j ∧ r = .string (strN (b ++ rowsL (p.take j))) ∧ Below w.heap.size w wr) (fun _ i _ => p.length - (intOf i).toNat)
  case atStart => exact ⟨0, Nat.zero_le _, rfl, by simp [rowsL], B3⟩
  case round =>
    obtain ⟨j, hj, rfl, rfl, hbr⟩ := hrel
    clear hstr3 hstb
    by_cases hlt : j < p.length
    · have hrpr := HRP.out.below hbr
      obtain ⟨blk, off, ao3, cap3, hao, -, hc, hbk, hcell, hr⟩ := hrpr.at hlt
      subst hao
      obtain ⟨q0, hq0⟩ : ∃ q0, q0 = p.getD j [] := ⟨_, rfl⟩
      rw [← hq0] at hcell hr
      have hq0b : ∀ c ∈ q0, c < 256 := by rw [hq0]; intro c hcc; exact HPB.out _ (by rw [List.getD_eq_getElem?_getD, List.getElem?_eq_getElem hlt]; exact List.getElem_mem hlt) c hcc
      have hnext : b ++ rowsL (p.take (j + 1)) = (b ++ rowsL (p.take j)) ++ rowL q0 := by
        rw [List.take_succ_eq_append_getElem hlt, rowsL_snoc, hq0]; simp [hlt]
      have hq0l : q0.length ≤ 3000 := by
        have := bulkL_at p j hlt
        have h2 := longL_take p (j + 1)
        rw [List.take_succ_eq_append_getElem hlt, longL_snoc] at h2
        rw [hq0, List.getD_eq_getElem?_getD, List.getElem?_eq_getElem hlt]
        simp only [Option.getD_some]; omega
      have hrl0 := rowL_length q0
      have hrt := rowsL_length (p.take j)
      have hbt := bulkL_take p j
      have y1 : ¬ 9223372036854775807 < (strN (b ++ rowsL (p.take j))).size + (strN (rowL q0)).size := by rw [strN_size, strN_size, List.length_append]; omega
      have y2 : strN (b ++ rowsL (p.take j)) ++ strN (rowL q0) = strN (b ++ rowsL (p.take (j + 1))) := by rw [strN_append, ← hnext]
      have Y1 := Lib.hid y1
      have Y2 := Lib.hid y2
      have HRQ := Lib.hid hr
      have HQB := Lib.hid (rowL_lt q0 hq0b)
      have hone : (Value.slice ao3 q0.length cap3).oneCell' = true := rfl
      clear hq0 hr hq0b hnext y1 y2 hrl0 hrt hbt hrpr
      go_wp2_with (first | (go_at_call 14; refine (ref_Row _ q0 _ HRQ.out (by omega)).mono ?_; rintro e w4 ⟨v4, rfl, ho4, hb4, hs4⟩; have hstr4 := run_str ho4.reads HQB.out; have y1 := Y1.out; have y2 := Y2.out) | fail)
      exact ⟨⟨j + 1, by omega, by go_num, rfl, hbr.trans (hb4.mono hbr.size)⟩, by simp [intOf]; omega⟩
    · have : j = p.length := by omega
      subst this
      rw [List.take_length]
      have hge : decide ((p.length : Int) < (p.length : Int)) = false := by simp
      clear hlt
      have hrbr := Lib.hid (HRB.out.below hbr)
      go_wp2_with (first | (go_at_call 15; refine (compact_Take _ _ _ hrbr.out HBB.out).mono ?_; rw [HT.out]; rintro e w' ⟨rfl, rfl⟩; simp only [takeV]) | fail)
      refine (ref_Take _ _ _ hrbr.out HBB.out).mono ?_
      rw [HT.out]
      rintro e w5 ⟨rfl, hb5⟩
      simp only [takeV]
      have B5 : Below w.heap.size w w5 := hbr.trans (hb5.mono hbr.size)
      have hrb5 := Lib.hid (HRB.out.below B5)
      go_wp2_with fail
      refine (compact_Cut _ _ _ hrb5.out HBB.out (by omega)).mono ?_
      rw [HC.out]
      rintro e w6 ⟨hb6, hs6, rfl⟩
      have B6 : Below w.heap.size w w6 := B5.trans (hb6.mono B5.size)
      have hrb6 := Lib.hid (HRB.out.below B6)
      go_wp2_with fail
      refine (ref_Cut _ _ _ hrb6.out HBB.out (by omega)).mono ?_
      rw [HC.out]
      rintro e w7 ⟨hb7, rfl⟩
      have B7 : Below w.heap.size w w7 := B6.trans (hb7.mono B6.size)
      have hown1 : OwnB w7.heap.size (.slice (some ⟨w7.heap.size, 0, none⟩) 0 0) (Bs []) (w7.alloc (.cells #[] 5)) := World.ownsRow_made w7 #[] 0 (Nat.le_refl _) (Nat.zero_le _) rfl
      have hrb7 := Lib.hid ((HRB.out.below B7).below ((Below.refl _ w7).alloc (Nat.le_refl _) (.cells #[] 5)))
      go_wp2_with (first | (at_builtin; refine wp_app_B rfl rfl rfl rfl hown1 hrb7.out (by simp; omega) (by simp) ?_; rw [List.nil_append]; intro v8 w8 ho8 hb8 hs8 hg8) | fail)
      have L8 : Later w7 w8 := ((Below.refl _ w7).alloc (Nat.le_refl _) _).trans hb8
      have B8 : Below w.heap.size w w8 := B7.trans (L8.mono B7.size)
      have hrp8 := Lib.hid (HRP.out.below B8)
      refine (compact_Row _ _ b p _ ho8.reads hrp8.out (by omega) (by unfold maxLen; omega)).mono ?_
      rintro e w9 ⟨v9, rfl, ho9, hb9, hs9⟩
      have hstr9 := run_str ho9.reads HB2.out
      have B9 : Below w.heap.size w w9 := B8.trans (hb9.mono B8.size)
      have hx9 := run_str (rdB_nil w9) (by simp)
      clear ho8 hg8 hown1 ho9
      go_wp2_with (first | (go_at_call 20; refine (known_calls _).mono ?_; rintro e w10 ⟨rfl, hb10⟩) | fail)
      go_ret
      exact ⟨rfl, B9.trans (hb10.mono B9.size)⟩

set_option maxRecDepth 100000 in
set_option maxHeartbeats 4000000 in
theorem compactTells_ss (v u x : Value) (l : List Int) (p : List (List Nat)) (b : List Nat) (w : World) (hll : l.length ≤ 100) (hpl : longL p ≤ 3000) (hbl : b.length ≤ 1000) (hp : ∀ y ∈ p, ∀ c ∈ y, c < 256) (hb : ∀ c ∈ b, c < 256) (hrl : RdI w v l) (hrp : RdBB w u p) (hrb : RdB w x b)
    (n s k : Nat) (q : List Nat) (ht : takeL b = some (n, s)) (hc : cutL b = some (q, k)) :
    Calls Try.prog 3 #[v, u, x] w fun e w' => e = .returned (.bool true) ∧ Below w.heap.size w w' := by
  have HRL := Lib.hid hrl
  have HRP := Lib.hid hrp
  have HRB := Lib.hid hrb
  obtain ⟨ao0, cap0, rfl⟩ := hrl.lenOf
  obtain ⟨ao1, cap1, rfl⟩ := hrp.lenOf
  obtain ⟨ao2, cap2, rfl⟩ := hrb.lenOf
  have HBB := Lib.hid hb
  have HPB := Lib.hid hp
  have HT := Lib.hid ht
  have HC := Lib.hid hc
  have hlb := longL_bulk p
  have hlp := longL_length p
  have hns := numsL_length l
  have hrs := rowsL_length p
  have d1 : decide ((100 : Int) < (l.length : Int)) = false := by simp; omega
  have d2 : decide ((3000 : Int) < (longL p : Int)) = false := by simp; omega
  have d3 : decide ((1000 : Int) < (b.length : Int)) = false := by simp; omega
  have nb : ∀ c ∈ numsL l, c < 256 := numsL_lt l
  have HNB := Lib.hid nb
  have rb : ∀ c ∈ rowsL p, c < 256 := rowsL_lt p hp
  have HRBb := Lib.hid rb
  have b1 : ∀ c ∈ b ++ numsL l, c < 256 := fun c h => (List.mem_append.1 h).elim (hb c) (nb c)
  have b2 : ∀ c ∈ b ++ rowsL p, c < 256 := fun c h => (List.mem_append.1 h).elim (hb c) (rb c)
  have HB1 := Lib.hid b1
  have HB2 := Lib.hid b2
  have z1 : ¬ 9223372036854775807 < (strN b).size + (strN (numsL l)).size := by rw [strN_size, strN_size]; omega
  have z2 : strN b ++ strN (numsL l) = strN (b ++ numsL l) := strN_append _ _
  have Z1 := Lib.hid z1
  have Z2 := Lib.hid z2
  clear hrl hrp hrb hb hp ht hc nb rb b1 b2 z1 z2
  go_enter Try.func3, Try.ntmps3
  go_wp2_with (first | (go_at_call 11; refine (long_calls _ p _ HRP.out (by omega)).mono ?_; rintro e w' ⟨rfl, rfl⟩) | fail)
  refine wp_region_plan_lit (L := Later) 131 [.pure, .pin (.string (strN b)), .pure, .any (fun w v => RdB w v (numsL l)), .pin (.string (strN (numsL l))), .pure, .pure] (by kernel_rfl) (by kernel_rfl) rfl (fun w => Below.refl _ w) Later.tr ⟨fun w w' v hL hR => RdB.below hR hL, trivial⟩ ?_
  iterate 1
    first
    | (refine wm_skip (by rfl) (fun K hK => ?_))
    | (refine wm_move (by rfl) (.inl rfl) (fun K hK => ?_))
    | (refine wm_move (by rfl) (.inr rfl) (fun K hK => ?_))
    | (refine wm_run (by rfl) (fun K hK => ?_)
       apply Exists.intro
       apply And.intro
       · intro w hL
         simp [go_sem, Z1.out, Z2.out]
         rfl)
    simp only [Act.put, Act.eval, List.setIfInBounds_toArray, List.set_cons_succ, List.set_cons_zero]
    refine hK _ ?_
    clear hK K
  refine wm_pin (fun K hK => ⟨fun w' hL hk => ?_, ?_⟩)
  · have hstr := run_str (HRB.out.below ((Below.refl _ w).drew.trans (hL.mono (Nat.le_refl _)))) HBB.out
    go_wp2_with fail
    exact qr_pin rfl rfl rfl (Below.refl _ _)
  simp only [Act.put, Act.eval, List.setIfInBounds_toArray, List.set_cons_succ, List.set_cons_zero]
  refine hK _ ?_
  clear hK K
  iterate 1
    first
    | (refine wm_skip (by rfl) (fun K hK => ?_))
    | (refine wm_move (by rfl) (.inl rfl) (fun K hK => ?_))
    | (refine wm_move (by rfl) (.inr rfl) (fun K hK => ?_))
    | (refine wm_run (by rfl) (fun K hK => ?_)
       apply Exists.intro
       apply And.intro
       · intro w hL
         simp [go_sem, Z1.out, Z2.out]
         rfl)
    simp only [Act.put, Act.eval, List.setIfInBounds_toArray, List.set_cons_succ, List.set_cons_zero]
    refine hK _ ?_
    clear hK K
  refine wm_any (fun K hK => ⟨fun w' hL hk => ?_, fun v37 => ?_⟩)
  · have hri := Lib.hid (HRL.out.below ((Below.refl _ w).drew.trans (hL.mono (Nat.le_refl _))))
    go_wp2_with (first | (go_at_call 12; refine (ref_Nums _ l _ hri.out (by omega)).mono ?_; rintro e w9 ⟨v9, rfl, ho9, hb9, hs9⟩) | fail)
    exact qr_any rfl rfl rfl hb9 ho9.reads
  simp only [Act.put, Act.eval, List.setIfInBounds_toArray, List.set_cons_succ, List.set_cons_zero]
  refine hK _ ?_
  clear hK K
  refine wm_pin (fun K hK => ⟨fun w' hL hk => ?_, ?_⟩)
  · have h37 : RdB w' v37 (numsL l) := hk.get 37 3 (by kernel_rfl) rfl
    have hstr := run_str h37 HNB.out
    go_wp2_with fail
    exact qr_pin rfl rfl rfl (Below.refl _ _)
  simp only [Act.put, Act.eval, List.setIfInBounds_toArray, List.set_cons_succ, List.set_cons_zero]
  refine hK _ ?_
  clear hK K
  iterate 2
    first
    | (refine wm_skip (by rfl) (fun K hK => ?_))
    | (refine wm_move (by rfl) (.inl rfl) (fun K hK => ?_))
    | (refine wm_move (by rfl) (.inr rfl) (fun K hK => ?_))
    | (refine wm_run (by rfl) (fun K hK => ?_)
       apply Exists.intro
       apply And.intro
       · intro w hL
         simp [go_sem, Z1.out, Z2.out]
         rfl)
    simp only [Act.put, Act.eval, List.setIfInBounds_toArray, List.set_cons_succ, List.set_cons_zero]
    refine hK _ ?_
    clear hK K
  refine wm_end (fun w' hL hk => ?_)
  clear hk
  have B1 : Below w.heap.size w w' := (Below.refl _ w).drew.trans (hL.mono (Nat.le_refl _))
  have hs1 : w.heap.size ≤ w'.heap.size := B1.size
  clear hL
  obtain ⟨w1, hw1⟩ : ∃ w1, w1 = w' := ⟨_, rfl⟩
  rw [← hw1] at B1 hs1 ⊢
  clear hw1
  have hown0 : OwnB w1.heap.size (.slice (some ⟨w1.heap.size, 0, none⟩) 0 0) (Bs []) (w1.alloc (.cells #[] 5)) := World.ownsRow_made w1 #[] 0 (Nat.le_refl _) (Nat.zero_le _) rfl
  have hrb1 := Lib.hid ((HRB.out.below B1).below ((Below.refl _ w1).alloc (Nat.le_refl _) (.cells #[] 5)))
  go_wp2_with (first | (at_builtin; refine wp_app_B rfl rfl rfl rfl hown0 hrb1.out (by simp; omega) (by simp) ?_; rw [List.nil_append]; intro v2 w2 ho2 hb2 hs2 hg2) | fail)
  have B2 : Below w.heap.size w w2 := (B1.alloc hs1 _).trans (hb2.mono hs1)
  have hrl2 := Lib.hid (HRL.out.below B2)
  refine (compact_Put _ _ b l _ ho2.reads hrl2.out (by omega) (by omega)).mono ?_
  rintro e w3 ⟨v3, rfl, ho3, hb3, hs3⟩
  have hstr3 := run_str ho3.reads HB1.out
  have B3 : Below w.heap.size w w3 := B2.trans (hb3.mono B2.size)
  have hstb := run_str (HRB.out.below B3) HBB.out
  clear ho2 hg2 hown0
  go_wp2_with fail
  go_loopw [8, 9] (fun r i wr => ∃ j : Nat, j ≤ p.length ∧ i = .int .i64 j ∧ r = .string (strN (b ++ rowsL (p.take j))) ∧ Below w.heap.size w wr) (fun _ i _ => p.length - (intOf i).toNat)
  case atStart => exact ⟨0, Nat.zero_le _, rfl, by simp [rowsL], B3⟩
  case round =>
    obtain ⟨j, hj, rfl, rfl, hbr⟩ := hrel
    clear hstr3 hstb
    by_cases hlt : j < p.length
    · have hrpr := HRP.out.below hbr
      obtain ⟨blk, off, ao3, cap3, hao, -, hc, hbk, hcell, hr⟩ := hrpr.at hlt
      subst hao
      obtain ⟨q0, hq0⟩ : ∃ q0, q0 = p.getD j [] := ⟨_, rfl⟩
      rw [← hq0] at hcell hr
      have hq0b : ∀ c ∈ q0, c < 256 := by rw [hq0]; intro c hcc; exact HPB.out _ (by rw [List.getD_eq_getElem?_getD, List.getElem?_eq_getElem hlt]; exact List.getElem_mem hlt) c hcc
      have hnext : b ++ rowsL (p.take (j + 1)) = (b ++ rowsL (p.take j)) ++ rowL q0 := by
        rw [List.take_succ_eq_append_getElem hlt, rowsL_snoc, hq0]; simp [hlt]
      have hq0l : q0.length ≤ 3000 := by
        have := bulkL_at p j hlt
        have h2 := longL_take p (j + 1)
        rw [List.take_succ_eq_append_getElem hlt, longL_snoc] at h2
        rw [hq0, List.getD_eq_getElem?_getD, List.getElem?_eq_getElem hlt]
        simp only [Option.getD_some]; omega
      have hrl0 := rowL_length q0
      have hrt := rowsL_length (p.take j)
      have hbt := bulkL_take p j
      have y1 : ¬ 9223372036854775807 < (strN (b ++ rowsL (p.take j))).size + (strN (rowL q0)).size := by rw [strN_size, strN_size, List.length_append]; omega
      have y2 : strN (b ++ rowsL (p.take j)) ++ strN (rowL q0) = strN (b ++ rowsL (p.take (j + 1))) := by rw [strN_append, ← hnext]
      have Y1 := Lib.hid y1
      have Y2 := Lib.hid y2
      have HRQ := Lib.hid hr
      have HQB := Lib.hid (rowL_lt q0 hq0b)
      have hone : (Value.slice ao3 q0.length cap3).oneCell' = true := rfl
      clear hq0 hr hq0b hnext y1 y2 hrl0 hrt hbt hrpr
      go_wp2_with (first | (go_at_call 14; refine (ref_Row _ q0 _ HRQ.out (by omega)).mono ?_; rintro e w4 ⟨v4, rfl, ho4, hb4, hs4⟩; have hstr4 := run_str ho4.reads HQB.out; have y1 := Y1.out; have y2 := Y2.out) | fail)
      exact ⟨⟨j + 1, by omega, by go_num, rfl, hbr.trans (hb4.mono hbr.size)⟩, by simp [intOf]; omega⟩
    · have : j = p.length := by omega
      subst this
      rw [List.take_length]
      have hge : decide ((p.length : Int) < (p.length : Int)) = false := by simp
      clear hlt
      have hrbr := Lib.hid (HRB.out.below hbr)
      go_wp2_with (first | (go_at_call 15; refine (compact_Take _ _ _ hrbr.out HBB.out).mono ?_; rw [HT.out]; rintro e w' ⟨rfl, rfl⟩; simp only [takeV]) | fail)
      refine (ref_Take _ _ _ hrbr.out HBB.out).mono ?_
      rw [HT.out]
      rintro e w5 ⟨rfl, hb5⟩
      simp only [takeV]
      have B5 : Below w.heap.size w w5 := hbr.trans (hb5.mono hbr.size)
      have hrb5 := Lib.hid (HRB.out.below B5)
      go_wp2_with fail
      refine (compact_Cut _ _ _ hrb5.out HBB.out (by omega)).mono ?_
      rw [HC.out]
      rintro e w6 ⟨hb6, hs6, x6, rfl, ho6⟩
      have hrx6 := Lib.hid ho6.reads
      have B6 : Below w.heap.size w w6 := B5.trans (hb6.mono B5.size)
      have hrb6 := Lib.hid (HRB.out.below B6)
      go_wp2_with fail
      refine (ref_Cut _ _ _ hrb6.out HBB.out (by omega)).mono ?_
      rw [HC.out]
      rintro e w7 ⟨hb7, y7, rfl, hry7⟩
      have hrx7 := Lib.hid (hrx6.out.below hb7)
      have HRY7 := Lib.hid hry7
      have B7 : Below w.heap.size w w7 := B6.trans (hb7.mono B6.size)
      have hown1 : OwnB w7.heap.size (.slice (some ⟨w7.heap.size, 0, none⟩) 0 0) (Bs []) (w7.alloc (.cells #[] 5)) := World.ownsRow_made w7 #[] 0 (Nat.le_refl _) (Nat.zero_le _) rfl
      have hrb7 := Lib.hid ((HRB.out.below B7).below ((Below.refl _ w7).alloc (Nat.le_refl _) (.cells #[] 5)))
      go_wp2_with (first | (at_builtin; refine wp_app_B rfl rfl rfl rfl hown1 hrb7.out (by simp; omega) (by simp) ?_; rw [List.nil_append]; intro v8 w8 ho8 hb8 hs8 hg8) | fail)
      have L8 : Later w7 w8 := ((Below.refl _ w7).alloc (Nat.le_refl _) _).trans hb8
      have B8 : Below w.heap.size w w8 := B7.trans (L8.mono B7.size)
      have hrp8 := Lib.hid (HRP.out.below B8)
      refine (compact_Row _ _ b p _ ho8.reads hrp8.out (by omega) (by unfold maxLen; omega)).mono ?_
      rintro e w9 ⟨v9, rfl, ho9, hb9, hs9⟩
      have hstr9 := run_str ho9.reads HB2.out
      have B9 : Below w.heap.size w w9 := B8.trans (hb9.mono B8.size)
      have hqb := cutL_lt HBB.out HC.out
      have hx9 := run_str ((hrx7.out.below L8).below hb9) hqb
      have hy9 := run_str ((HRY7.out.below L8).below hb9) hqb
      clear hqb
      clear ho8 hg8 hown1 ho9
      go_wp2_with (first | (go_at_call 20; refine (known_calls _).mono ?_; rintro e w10 ⟨rfl, hb10⟩) | fail)
      go_ret
      exact ⟨rfl, B9.trans (hb10.mono B9.size)⟩

theorem compactTells_walk (v : Value) (l : List Int) (u : Value) (p : List (List Nat)) (x : Value) (b : List Nat) (w : World) (hrl : RdI w v l) (_hl : ∀ n ∈ l, (Lit.int .i64 n).wf = true) (hlm : l.length ≤ maxLen) (hrp : RdBB w u p) (hp : ∀ y ∈ p, ∀ c ∈ y, c < 256) (hpm : longL p ≤ 1048576) (hrb : RdB w x b) (hb : ∀ c ∈ b, c < 256) (hbm : b.length ≤ maxLen) :
    Calls Try.prog 3 #[v, u, x] w fun e w' => e = .returned (.bool true) ∧ Below w.heap.size w w' := by
  unfold maxLen at hlm hbm
  have hq : (l.length ≤ 100 ∧ longL p ≤ 3000 ∧ b.length ≤ 1000) ∨ decide ((100 : Int) < (l.length : Int)) = true ∨ (decide ((100 : Int) < (l.length : Int)) = false ∧ decide ((3000 : Int) < (longL p : Int)) = true) ∨ (decide ((100 : Int) < (l.length : Int)) = false ∧ decide ((3000 : Int) < (longL p : Int)) = false ∧ decide ((1000 : Int) < (b.length : Int)) = true) := by
    simp only [decide_eq_true_eq, decide_eq_false_iff_not]; omega
  rcases hq with ⟨h1, h2, h3⟩ | h1 | ⟨h1, h2⟩ | ⟨h1, h2, h3⟩
  · cases ht : takeL b with
    | none => exact compactTells_nn v u x l p b w h1 h2 h3 hp hb hrl hrp hrb ht (by unfold cutL; rw [ht])
    | some ns =>
      obtain ⟨n, s⟩ := ns
      cases hc : cutL b with
      | none => exact compactTells_sn v u x l p b w h1 h2 h3 hp hb hrl hrp hrb n s ht hc
      | some qk => exact compactTells_ss v u x l p b w h1 h2 h3 hp hb hrl hrp hrb n s qk.2 qk.1 ht hc
  all_goals
    have HRP := Lib.hid hrp
    obtain ⟨ao0, cap0, rfl⟩ := hrl.lenOf
    obtain ⟨ao1, cap1, rfl⟩ := hrp.lenOf
    obtain ⟨ao2, cap2, rfl⟩ := hrb.lenOf
    clear hrl hrp hrb hb hp _hl
    go_enter Try.func3, Try.ntmps3
    go_wp2_with (first | (go_at_call 11; refine (long_calls _ p _ HRP.out hpm).mono ?_; rintro e w' ⟨rfl, rfl⟩) | fail)
    go_ret
    exact ⟨rfl, Below.refl _ _⟩

end Go.Proofs.Ytioleibcekobeaa
