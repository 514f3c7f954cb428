/-
  The walk of compact's law: what is handed in is neither changed nor kept.
-/
import Derived.Test.YtioleibcekobeaaComD
namespace Go.Proofs.Ytioleibcekobeaa
open Go.RowKit
set_option linter.unusedVariables false
set_option linter.unusedSimpArgs false

theorem rowL_take {p : List Nat} (hp : p.length ≤ 4611686018427387904) (t : List Nat) : takeL (rowL p ++ t) = some (p.length, sizeN p.length) := by
  unfold rowL; rw [List.append_assoc, takeL_num hp]
theorem cutL_row {p : List Nat} (hp : p.length ≤ 4611686018427387904) (t : List Nat) : cutL (rowL p ++ t) = some (p, (rowL p).length) := by
  unfold cutL
  rw [rowL_take hp]
  have hl := numL_size p.length
  have hle : ¬ (p.length > (rowL p ++ t).length - sizeN p.length) := by simp only [rowL, List.length_append]; omega
  simp only [if_neg hle, Option.some.injEq, Prod.mk.injEq]
  refine ⟨?_, by simp only [rowL, List.length_append]; omega⟩
  unfold rowL
  rw [List.append_assoc, ← hl, List.drop_left, List.take_left]

/-- Bytes behind a place of what reads as bytes. -/
theorem rd_behind {w : World} {g cap s : Nat} {a b : List Nat} (h : RdB w (.slice (some ⟨g, 0, none⟩) (a ++ b).length cap) (a ++ b)) (hs : s = a.length) : RdB w (.slice (some ⟨g, s, none⟩) b.length (cap - s)) b := by
  subst hs
  have := rd_drop h (s := a.length) (k := b.length) (by rw [List.length_append]; exact Nat.le_refl _) rfl
  simpa using this

theorem rdBB_one {w : World} {u : Value} {p : List Nat} {t : TypeId} (h : RdB w u p) : RdBB (w.alloc (.cells #[u] t)) (.slice (some ⟨w.heap.size, 0, none⟩) 1 1) [p] :=
  .inr ⟨_, 1, rfl, Nat.le_refl _, fun i hi => by
    have : i = 0 := by simp at hi; omega
    subst this
    exact ⟨u, by rw [add_at, World.cell?_alloc_new]; rfl, h.below ((Below.refl _ _).alloc (Nat.le_refl _) _)⟩⟩

theorem strN_size (l : List Nat) : (strN l).size = l.length := by simp [strN, ByteArray.size]
theorem strN_append (a b : List Nat) : strN a ++ strN b = strN (a ++ b) := by
  apply ByteArray.ext
  simp [strN, ByteArray.data_append]

set_option maxRecDepth 100000 in
set_option maxHeartbeats 4000000 in
theorem compactOwn_main (n : Int) (v u : Value) (b p : List Nat) (w : World) (hbl : b.length ≤ 500) (hpl : p.length ≤ 500) (hp1 : 1 ≤ p.length) (hb : ∀ x ∈ b, x < 256) (hp : ∀ x ∈ p, x < 256) (hrb : RdB w v b) (hrp : RdB w u p) :
    Calls Try.prog 10 #[v, u, .int .i64 n] w fun e w' => e = .returned (.bool true) ∧ Below w.heap.size w w' := by
  obtain ⟨i0, hi, hz0, hz1, hz2⟩ := info_parts info5
  have HRB : Hid (RdB w v b) := Lib.hid hrb
  have HRP : Hid (RdB w u p) := Lib.hid hrp
  obtain ⟨ao1, cap1, rfl⟩ := hrb.lenOf
  obtain ⟨ao2, cap2, rfl⟩ := hrp.lenOf
  obtain ⟨wm, hmk, hom, hgm⟩ := run_make_own (P := Try.prog) w w.heap.size 24 5 i0 (.int .u8 0) 1 Try.underlying24 hi hz0 hz1 .i64 .i64 2000 (by rw [hz2]; omega) (by unfold maxLen; omega) (Nat.le_refl _)
  have hmk' : (Instr.makeSlice 24 (.int .i64 0) (.int .i64 2000)).run Try.prog w = .ok (.slice (some ⟨w.heap.size, 0, none⟩) 0 2000) wm := hmk
  have hbm : Below w.heap.size w wm := (Below.refl _ _).grown hgm (Nat.le_refl _) (fun k hk => by cases hk)
  have hom' : OwnB w.heap.size (.slice (some ⟨w.heap.size, 0, none⟩) 0 2000) (Bs []) wm := hom
  have hsm : w.heap.size ≤ wm.heap.size := hgm.size
  have hrb0 := Lib.hid (HRB.out.below hbm)
  have HBB := Lib.hid hb
  have HPB := Lib.hid hp
  have hst0 := run_str hrb hb
  clear hmk hrb hrp hb hp hom hgm
  have d1 : decide ((500 : Int) < (b.length : Int)) = false := by simp; omega
  have d2 : decide ((p.length : Int) < 1) = false := by simp; omega
  have d3 : decide ((500 : Int) < (p.length : Int)) = false := by simp; omega
  have hnl := rowL_length p
  have hnn := numL_length (heldN n)
  have hrow := cutL_row (p := p) (by omega) []
  rw [List.append_nil] at hrow
  have HROW := Lib.hid hrow
  have hrl : 1 ≤ (rowL p).length := by unfold rowL; rw [List.length_append]; omega
  clear hrow
  have HN1 : Hid (numsL [n] = numL (heldN n)) := Lib.hid (by simp [numsL])
  have HN2 : Hid (rowsL [p] = rowL p) := Lib.hid (by simp [rowsL])
  go_enter Try.func10, Try.ntmps10
  go_wp2_with (first | (at_builtin; refine wp_app_B rfl rfl rfl rfl hom' hrb0.out (by simp; omega) hsm ?_; rw [List.nil_append]; intro v1 w1 ho1 hb1 hs1 hg1) | (at_builtin; refine wp_app_B (l := [1, 2, 3]) rfl rfl rfl rfl (own_kept ho1 ((Below.refl _ w1).alloc (Nat.le_refl _) _) hs1) (rdB_lit w1 [1, 2, 3] _ _ (by intro i hi; match i, hi with | 0, _ => rfl | 1, _ => rfl | 2, _ => rfl)) (by simp; omega) (by simp; omega) ?_; intro v2 w2 ho2 hb2 hs2 hg2; obtain ⟨g, cap, hv2, -, hg, hc2, -, -⟩ := own_open ho2 (by simp); have hl2 : (b ++ [1, 2, 3]).length = b.length + 3 := (by simp); rw [hl2] at hv2 hc2; subst hv2; have hr2 := ho2.reads; have hr2b := rd_take hr2 (k := b.length) (by omega); rw [List.take_left] at hr2b; have HR2 := Lib.hid hr2; have HR2B := Lib.hid hr2b; clear hr2 hr2b) | fail)
  have B2 : Below w.heap.size w w2 := ((hbm.trans hb1).alloc hs1 _).trans hb2
  have hrp2 := Lib.hid (HRP.out.below B2)
  refine (compact_Row _ _ b [p] _ (HR2B.out.below ((Below.refl _ w2).alloc (Nat.le_refl _) _)) (rdBB_one hrp2.out) (by simp [bulkL]; omega) (by unfold maxLen; simp)).mono ?_
  rw [HN2.out]
  rintro e w3 ⟨x, rfl, ho3, hb3, hs3⟩
  have hl3 : (b ++ rowL p).length = b.length + (rowL p).length := List.length_append
  obtain ⟨gx, capx, hvx, hgx0, hgx, hcx, -, -⟩ := own_open ho3 (by omega)
  rw [hl3] at hvx hcx
  subst hvx
  have hrx := Lib.hid ho3.reads
  have L3 : Later w2 w3 := ((Below.refl _ w2).alloc (Nat.le_refl _) _).trans (hb3.mono (by simp))
  have hr3b := Lib.hid (HR2B.out.below L3)
  go_wp2_with fail
  refine (compact_Put _ _ b [n] _ (hr3b.out.below ((Below.refl _ w3).alloc (Nat.le_refl _) _)) (rdI_lit w3 [n] _ _ (by intro i hi; match i, hi with | 0, _ => rfl)) (by omega) (by simp)).mono ?_
  rw [HN1.out]
  rintro e w4 ⟨y, rfl, ho4, hb4, hs4⟩
  have L4 : Later w3 w4 := ((Below.refl _ w3).alloc (Nat.le_refl _) _).trans (hb4.mono (by simp))
  have hry := Lib.hid ho4.reads
  have hrp4 := Lib.hid ((hrp2.out.below L3).below L4)
  clear ho1 ho2 ho3 ho4 hg1 hg2
  go_wp2_with fail
  refine (ref_Row _ p _ hrp4.out (by omega)).mono ?_
  rintro e w5 ⟨z, rfl, ho5, hb5, hs5⟩
  have hst5 := run_str ho5.reads (rowL_lt p HPB.out)
  have hrx5 := Lib.hid ((hrx.out.below L4).below hb5)
  have hrc := rd_behind (by rw [hl3]; exact hrx5.out) (s := b.length) rfl
  have HRC := Lib.hid hrc
  have HRT := Lib.hid (rowL_lt p HPB.out)
  have m1 : min (b.length : Int) ((b.length : Int) + ((rowL p).length : Int)) = (b.length : Int) := by omega
  have m2 : b.length + (rowL p).length - b.length = (rowL p).length := by omega
  have m3 : (capx = b.length) = False := by simp; omega
  clear hrc
  have z1 : ¬ 9223372036854775807 < (strN b).size + (strN (rowL p)).size := by rw [strN_size, strN_size]; omega
  have z2 : strN b ++ strN (rowL p) = strN (b ++ rowL p) := strN_append _ _
  go_wp2_with fail
  refine (compact_Cut _ (rowL p) _ HRC.out HRT.out (by omega)).mono ?_
  rw [HROW.out]
  rintro e w6 ⟨hb6, hs6, q, rfl, ho6⟩
  obtain ⟨gq, capq, rfl, hgq, hgq2, hcq, hcell6, hfr6⟩ := own_open ho6 (by omega)
  have hc60 := hcell6 0 (by omega)
  have hf60 := hfr6 0
  rw [add_at] at hc60
  simp only [Nat.add_zero] at hc60
  have hp0 : ((p.length : Int) == 0) = false := by rw [beq_eq_false_iff_ne]; omega
  have hp2 : (p.length == 0) = false := by rw [beq_eq_false_iff_ne]; omega
  clear z1 z2 m1 m2 m3 hcell6 hfr6 ho6
  go_wp2_with fail
  obtain ⟨w7, hw7⟩ : ∃ w7, w7 = w6.setCell ⟨gq, 0, none⟩ (.int .u8 (bits .xor .u8 ((p[0]?.getD 0 : Nat) : Int) 1)) := ⟨_, rfl⟩
  rw [← hw7]
  have L7 : Below w5.heap.size w5 w7 := by rw [hw7]; exact hb6.setCell (p := ⟨gq, 0, none⟩) hgq _
  have L47 : Later w4 w7 := hb5.trans (L7.mono hb5.size)
  have HROOM := Lib.hid (((HR2.out.below L3).below L4).below L47)
  have HX7 := Lib.hid (hrx5.out.below L7)
  have HY7 := Lib.hid (hry.out.below L47)
  have z1 : ¬ 9223372036854775807 < (strN b).size + 3 := by rw [strN_size]; omega
  have z2 : strN b ++ (⟨#[1, 2, 3]⟩ : ByteArray) = strN (b ++ [1, 2, 3]) := strN_append b [1, 2, 3]
  have z3 : ¬ 9223372036854775807 < (strN b).size + (strN (numL (heldN n))).size := by rw [strN_size, strN_size]; omega
  have z4 : strN b ++ strN (numL (heldN n)) = strN (b ++ numL (heldN n)) := strN_append _ _
  have Z1 := Lib.hid z1
  have Z2 := Lib.hid z2
  have Z3 := Lib.hid z3
  have Z4 := Lib.hid z4
  have b1 : ∀ x ∈ b ++ [1, 2, 3], x < 256 := by
    intro x hx
    rw [List.mem_append] at hx
    rcases hx with hx | hx
    · exact HBB.out x hx
    · simp at hx; omega
  have b2 : ∀ x ∈ b ++ rowL p, x < 256 := by
    intro x hx
    rw [List.mem_append] at hx
    exact hx.elim (HBB.out x) (HRT.out x)
  have b3 : ∀ x ∈ b ++ numL (heldN n), x < 256 := by
    intro x hx
    rw [List.mem_append] at hx
    exact hx.elim (HBB.out x) (numL_lt _ x)
  rw [hl2] at *
  clear hw7 hc60 hf60 z1 z2 z3 z4
  refine wp_region_plan_lit (L := Later) 102 [.pure, .pin (.string (strN (b ++ [1, 2, 3]))), .pure, .pure, .pure, .pure, .pure, .pin (.string (strN (b ++ rowL p))), .pure, .pure, .pure, .pure, .pure, .pin (.string (strN (b ++ numL (heldN n)))), .pure, .pure, .any (fun w v => RdB w v (numL (heldN n))), .pin (.string (strN (numL (heldN n)))), .pure, .pure, .pure, .pure, .pin (.bool true), .pure, .pure] (by kernel_rfl) (by kernel_rfl) rfl (fun w => Below.refl _ w) Later.tr ⟨fun w w' v hL hR => RdB.below hR hL, trivial⟩ ?_
  iterate 1
    first
    | (refine wm_skip (by rfl) (fun K hK => ?_))
    | (refine wm_move (by rfl) (.inl rfl) (fun K hK => ?_))
    | (refine wm_move (by rfl) (.inr rfl) (fun K hK => ?_))
    | (refine wm_run (by rfl) (fun K hK => ?_)
       apply Exists.intro
       apply And.intro
       · intro w hL
         simp [go_sem, Z1.out, Z2.out, Z3.out, Z4.out]
         rfl)
    simp only [Act.put, Act.eval, List.setIfInBounds_toArray, List.set_cons_succ, List.set_cons_zero]
    refine hK _ ?_
    clear hK K
  refine wm_pin (fun K hK => ⟨fun w' hL hk => ?_, ?_⟩)
  · have hstr := run_str (HROOM.out.below (((Below.refl _ w7).drew).trans (hL.mono (Nat.le_refl _)))) b1
    go_wp2_with fail
    exact qr_pin rfl rfl rfl (Below.refl _ _)
  simp only [Act.put, Act.eval, List.setIfInBounds_toArray, List.set_cons_succ, List.set_cons_zero]
  refine hK _ ?_
  clear hK K
  iterate 5
    first
    | (refine wm_skip (by rfl) (fun K hK => ?_))
    | (refine wm_move (by rfl) (.inl rfl) (fun K hK => ?_))
    | (refine wm_move (by rfl) (.inr rfl) (fun K hK => ?_))
    | (refine wm_run (by rfl) (fun K hK => ?_)
       apply Exists.intro
       apply And.intro
       · intro w hL
         simp [go_sem, Z1.out, Z2.out, Z3.out, Z4.out]
         rfl)
    simp only [Act.put, Act.eval, List.setIfInBounds_toArray, List.set_cons_succ, List.set_cons_zero]
    refine hK _ ?_
    clear hK K
  refine wm_pin (fun K hK => ⟨fun w' hL hk => ?_, ?_⟩)
  · have hstr := run_str (HX7.out.below (((Below.refl _ w7).drew).trans (hL.mono (Nat.le_refl _)))) b2
    go_wp2_with fail
    exact qr_pin rfl rfl rfl (Below.refl _ _)
  simp only [Act.put, Act.eval, List.setIfInBounds_toArray, List.set_cons_succ, List.set_cons_zero]
  refine hK _ ?_
  clear hK K
  iterate 5
    first
    | (refine wm_skip (by rfl) (fun K hK => ?_))
    | (refine wm_move (by rfl) (.inl rfl) (fun K hK => ?_))
    | (refine wm_move (by rfl) (.inr rfl) (fun K hK => ?_))
    | (refine wm_run (by rfl) (fun K hK => ?_)
       apply Exists.intro
       apply And.intro
       · intro w hL
         simp [go_sem, Z1.out, Z2.out, Z3.out, Z4.out]
         rfl)
    simp only [Act.put, Act.eval, List.setIfInBounds_toArray, List.set_cons_succ, List.set_cons_zero]
    refine hK _ ?_
    clear hK K
  refine wm_pin (fun K hK => ⟨fun w' hL hk => ?_, ?_⟩)
  · have hstr := run_str (HY7.out.below (((Below.refl _ w7).drew).trans (hL.mono (Nat.le_refl _)))) b3
    go_wp2_with fail
    exact qr_pin rfl rfl rfl (Below.refl _ _)
  simp only [Act.put, Act.eval, List.setIfInBounds_toArray, List.set_cons_succ, List.set_cons_zero]
  refine hK _ ?_
  clear hK K
  iterate 2
    first
    | (refine wm_skip (by rfl) (fun K hK => ?_))
    | (refine wm_move (by rfl) (.inl rfl) (fun K hK => ?_))
    | (refine wm_move (by rfl) (.inr rfl) (fun K hK => ?_))
    | (refine wm_run (by rfl) (fun K hK => ?_)
       apply Exists.intro
       apply And.intro
       · intro w hL
         simp [go_sem, Z1.out, Z2.out, Z3.out, Z4.out]
         rfl)
    simp only [Act.put, Act.eval, List.setIfInBounds_toArray, List.set_cons_succ, List.set_cons_zero]
    refine hK _ ?_
    clear hK K
  refine wm_any (fun K hK => ⟨fun w' hL hk => ?_, fun v94 => ?_⟩)
  · go_wp2_with (first | (go_at_call 22; refine (ref_Num _ _).mono ?_; rintro e w9 ⟨v9, rfl, ho9, hb9, hs9⟩) | fail)
    exact qr_any rfl rfl rfl hb9 ho9.reads
  simp only [Act.put, Act.eval, List.setIfInBounds_toArray, List.set_cons_succ, List.set_cons_zero]
  refine hK _ ?_
  clear hK K
  refine wm_pin (fun K hK => ⟨fun w' hL hk => ?_, ?_⟩)
  · have h94 : RdB w' v94 (numL (heldN n)) := hk.get 94 16 (by kernel_rfl) rfl
    have hstr := run_str h94 (numL_lt _)
    go_wp2_with fail
    exact qr_pin rfl rfl rfl (Below.refl _ _)
  simp only [Act.put, Act.eval, List.setIfInBounds_toArray, List.set_cons_succ, List.set_cons_zero]
  refine hK _ ?_
  clear hK K
  iterate 4
    first
    | (refine wm_skip (by rfl) (fun K hK => ?_))
    | (refine wm_move (by rfl) (.inl rfl) (fun K hK => ?_))
    | (refine wm_move (by rfl) (.inr rfl) (fun K hK => ?_))
    | (refine wm_run (by rfl) (fun K hK => ?_)
       apply Exists.intro
       apply And.intro
       · intro w hL
         simp [go_sem, Z1.out, Z2.out, Z3.out, Z4.out]
         rfl)
    simp only [Act.put, Act.eval, List.setIfInBounds_toArray, List.set_cons_succ, List.set_cons_zero]
    refine hK _ ?_
    clear hK K
  refine wm_pin (fun K hK => ⟨fun w' hL hk => ?_, ?_⟩)
  · go_wp2_with (first | (go_at_call 20; refine (known_calls _).mono ?_; rintro e w9 ⟨rfl, hb9⟩) | fail)
    exact qr_pin rfl rfl rfl hb9
  simp only [Act.put, Act.eval, List.setIfInBounds_toArray, List.set_cons_succ, List.set_cons_zero]
  refine hK _ ?_
  clear hK K
  iterate 2
    first
    | (refine wm_skip (by rfl) (fun K hK => ?_))
    | (refine wm_move (by rfl) (.inl rfl) (fun K hK => ?_))
    | (refine wm_move (by rfl) (.inr rfl) (fun K hK => ?_))
    | (refine wm_run (by rfl) (fun K hK => ?_)
       apply Exists.intro
       apply And.intro
       · intro w hL
         simp [go_sem, Z1.out, Z2.out, Z3.out, Z4.out]
         rfl)
    simp only [Act.put, Act.eval, List.setIfInBounds_toArray, List.set_cons_succ, List.set_cons_zero]
    refine hK _ ?_
    clear hK K
  refine wm_end (fun w' hL hk => ?_)
  clear hk
  go_wp2_with fail
  go_ret
  refine ⟨rfl, ?_⟩
  have e1 : w.heap.size ≤ w2.heap.size := B2.size
  have e2 : w2.heap.size ≤ w3.heap.size := L3.size
  have e3 : w3.heap.size ≤ w4.heap.size := L4.size
  exact (((B2.trans (L3.mono e1)).trans (L4.mono (by omega))).trans (L47.mono (by omega))).drew.trans (hL.mono (by have := L47.size; simp; omega))

theorem compactOwn_walk (v : Value) (b : List Nat) (u : Value) (p : List Nat) (n : Int) (_w0 : (Lit.int .i64 n).wf = true) (w : World) (hrb : RdB w v b) (hb : ∀ x ∈ b, x < 256) (hbm : b.length ≤ maxLen) (hrp : RdB w u p) (hp : ∀ x ∈ p, x < 256) (hpm : p.length ≤ maxLen) :
    Calls Try.prog 10 #[v, u, .int .i64 n] w fun e w' => e = .returned (.bool true) ∧ Below w.heap.size w w' := by
  unfold maxLen at hbm hpm
  have hq : (b.length ≤ 500 ∧ 1 ≤ p.length ∧ p.length ≤ 500) ∨ decide ((500 : Int) < (b.length : Int)) = true ∨ (decide ((500 : Int) < (b.length : Int)) = false ∧ decide ((p.length : Int) < 1) = true) ∨ (decide ((500 : Int) < (b.length : Int)) = false ∧ decide ((p.length : Int) < 1) = false ∧ decide ((500 : Int) < (p.length : Int)) = true) := by
    simp only [decide_eq_true_eq, decide_eq_false_iff_not]; omega
  rcases hq with ⟨h1, h2, h3⟩ | h1 | ⟨h1, h2⟩ | ⟨h1, h2, h3⟩
  · exact compactOwn_main n v u b p w h1 h3 h2 hb hp hrb hrp
  all_goals
    obtain ⟨ao1, cap1, rfl⟩ := hrb.lenOf
    obtain ⟨ao2, cap2, rfl⟩ := hrp.lenOf
    clear hrb hrp hb hp
    go_enter Try.func10, Try.ntmps10
    go_wp2_with fail
    go_ret
    exact ⟨rfl, Below.refl _ _⟩

end Go.Proofs.Ytioleibcekobeaa
