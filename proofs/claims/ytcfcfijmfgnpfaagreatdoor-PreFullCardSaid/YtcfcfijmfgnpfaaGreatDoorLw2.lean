/-
  The law PreFull. Printed by mkl8.py.
-/
import Derived.Test.YtcfcfijmfgnpfaaGreatDoorPn1
namespace Go.Proofs.YtcfcfijmfgnpfaaGreatDoor
open Go.RowKit Go.Maps Go.Shelf
set_option linter.unusedVariables false
set_option linter.unusedSimpArgs false

set_option maxRecDepth 100000 in
set_option maxHeartbeats 8000000 in
theorem preFull_walk (n free : Int) (w : World) (hG : Glob w) (wn : (Lit.int .i64 n).wf = true) (wf : (Lit.int .i64 free).wf = true) :
    Calls Tryz.prog 6 #[.int .i64 n, .int .i64 free] w fun e w' => e = .returned (.bool true) ∧ Below w.heap.size w w' := by
  by_cases hbad : n < 0 ∨ 12 < n ∨ free < 0 ∨ 100 < free
  · have hex : n < 0 ∨ (¬ n < 0 ∧ 12 < n) ∨ (¬ n < 0 ∧ ¬ 12 < n ∧ free < 0) ∨ (¬ n < 0 ∧ ¬ 12 < n ∧ ¬ free < 0 ∧ 100 < free) := by omega
    clear hbad
    go_enter Tryz.func6, Tryz.ntmps6
    rcases hex with h | ⟨h1, h⟩ | ⟨h1, h2, h⟩ | ⟨h1, h2, h3, h⟩
    all_goals
      go_wp2
      exact bodyPost_ret (v := .bool true) (by simp [results, Tryz.results6, go_sem]) rfl ⟨rfl, Below.refl _ _⟩
  obtain ⟨m, rfl⟩ : ∃ m : Nat, n = m := ⟨n.toNat, by omega⟩
  have hn0 : ¬ (m : Int) < 0 := by omega
  have hn12 : ¬ 12 < (m : Int) := by omega
  have hf0 : ¬ free < 0 := by omega
  have hf1 : ¬ 100 < free := by omega
  have hw1 : (Lit.int .i64 1).wf = true := by decide
  have HH := Lib.hid (And.intro hG (And.intro (newOk_f (f := free) (by omega) (by omega)) (show m ≤ 12 by omega)))
  clear hG hbad
  go_enter Tryz.func6, Tryz.ntmps6
  go_wp2_with (first
    | (go_at_call 36; refine (law8_apart m HH.out.2.2 w).mono ?_; rintro e w1 ⟨⟨b, rfl, hap⟩, hb⟩; obtain ⟨wz, hz⟩ : ∃ wz, wz = w1.alloc (.cells #[.int .i64 0, .int .i64 free] 3) := ⟨_, rfl⟩; have hrz : RdI wz (.slice (some ⟨w1.heap.size, 0, none⟩) 2 2) [0, free] := by { rw [hz]; exact RdI.lit w1 3 [0, free] 2 rfl }; have hbz : Below w1.heap.size w1 wz := by { rw [hz]; exact (Below.refl _ w1).alloc (Nat.le_refl _) _ }; have HZ := Lib.hid (And.intro hz (And.intro hrz hbz)); have HB1 := Lib.hid hb; have HAP := Lib.hid hap; clear hz hrz hbz hb hap; cases b)
    | (go_at_call 11; rw [← HZ.out.1]; refine (ledger_New_ok HZ.out.2.1 (by show 2 ≤ maxLen; decide) HH.out.2.1).mono ?_; rintro e w2 ⟨g, gl, rfl, hl, hb⟩; have H2 := Lib.hid (And.intro hl hb); clear hl hb)
    | (go_at_call 13; refine (pre_New w2).mono ?_; rintro e w' ⟨rfl, hw'⟩; have hp := P8.begin (HB1.out.trans (HZ.out.2.2.mono HB1.out.size)) H2.out.1 H2.out.2; rw [← hw'] at hp; obtain ⟨pb, hpb⟩ : ∃ b, b = w2.heap.size := ⟨_, rfl⟩; rw [← hpb] at hp; rw [← hpb]; have H3 := Lib.hid hp; clear hp hw' hpb)
    | fail)
  · exact bodyPost_ret (v := .bool true) (by simp [results, Tryz.results6, go_sem]) rfl ⟨rfl, HB1.out⟩
  have hap : ApartR m := HAP.out (by trivial)
  go_loopw [8, 9] (fun hv i wr => ∃ h k : Nat, k ≤ m ∧ h ≤ k ∧ (h = k ∨ 6 ≤ h ∨ free - 5 * h < 5) ∧ hv = .int .i64 h ∧ i = .int .i64 k ∧ P8 g pb (Af free h) [] (Pf h) [] [] w wr) (fun _ i _ => m - (intOf i).toNat)
  case atStart => exact ⟨0, 0, Nat.zero_le _, Nat.le_refl _, .inl rfl, rfl, rfl, by rw [Af_0]; exact H3.out⟩
  case round =>
    obtain ⟨h, k, hk, hh, hor, rfl, rfl, hp⟩ := hrel
    have HP := Lib.hid (And.intro hp (And.intro hk (And.intro hh (And.intro hap hor))))
    clear hp hap hor
    by_cases hlt : k < m
    · have hlt' : (k : Int) < m := by omega
      have k12 : (k : Int) ≤ 12 := by omega
      have h12 : (h : Int) ≤ 12 := by omega
      have he := noteE_f HH.out.2.2 HP.out.2.2.2.1 free hlt hh
      have HE := Lib.hid (And.intro he hlt)
      have w5 : IntKind.i64.wrap (5 * (h : Int)) = 5 * (h : Int) := IntWalk.i64_in _ (by omega)
      have w6 : IntKind.i64.wrap (free - 5 * (h : Int)) = free - 5 * (h : Int) := IntWalk.i64_in _ (by omega)
      clear he hlt hk hh
      by_cases h6 : 6 ≤ h
      · have g6 : (6 : Int) ≤ (h : Int) := by omega
        have he : noteE (Af free h) [] (Pf h) 1 (rmk k) = 3 := by rw [HE.out.1, if_pos h6]
        have HN := Lib.hid (And.intro he h6)
        clear he h6
        go_wp2_with (first
          | (go_at_call 16; refine (HP.out.1.note HH.out.1 (rdC_leaf _ 1 0 k) hw1).mono ?_; rw [show (⟨1, 0, (k : Int), []⟩ : Cl) = rmk k from rfl]; unfold noteH noteA noteP; rw [HN.out.1, if_neg (by decide), if_neg (by decide), if_neg (by decide)]; rintro e w3 ⟨rfl, hp⟩; have H3 := Lib.hid hp; clear hp)
          | (refine wpl_allocR (r := hshR) rfl rfl rfl ?_; intro C hC)
          | (refine wpl_storeR (r := hshR) (t := dg0) (C := C) (b := w3.heap.size) _ _ rfl rfl rfl rfl rfl (World.alloc_heap_new _ _) hC ?_; rw [World.setRow_alloc_new]; obtain ⟨w4, hw4⟩ : ∃ W, W = w3.alloc (.cells (hshR.f dg0).toArray hshR.T) := ⟨_, rfl⟩; rw [← hw4]; have hb : Below w3.heap.size w3 w4 := by { rw [hw4]; exact (Below.refl _ w3).alloc (Nat.le_refl _) _ }; have H4 := Lib.hid (H3.out.below hb); clear hb hw4)
          | fail)
        go_roundw
        case rel => exact ⟨h, k + 1, HE.out.2, Nat.le_succ_of_le HP.out.2.2.1, .inr (.inl HN.out.2), rfl, by go_num, H4.out⟩
        case measure => simp [intOf]; have := HE.out.2; omega
      · have g6 : ¬ (6 : Int) ≤ (h : Int) := by omega
        by_cases hf : free - 5 * (h : Int) < 5
        · have he : noteE (Af free h) [] (Pf h) 1 (rmk k) = 6 := by rw [HE.out.1, if_neg h6, if_pos hf]
          have HN := Lib.hid (And.intro he hf)
          clear he h6
          go_wp2_with (first
            | (go_at_call 16; refine (HP.out.1.note HH.out.1 (rdC_leaf _ 1 0 k) hw1).mono ?_; rw [show (⟨1, 0, (k : Int), []⟩ : Cl) = rmk k from rfl]; unfold noteH noteA noteP; rw [HN.out.1, if_neg (by decide), if_neg (by decide), if_neg (by decide)]; rintro e w3 ⟨rfl, hp⟩; have H3 := Lib.hid hp; clear hp)
            | (refine wpl_allocR (r := hshR) rfl rfl rfl ?_; intro C hC)
            | (refine wpl_storeR (r := hshR) (t := dg0) (C := C) (b := w3.heap.size) _ _ rfl rfl rfl rfl rfl (World.alloc_heap_new _ _) hC ?_; rw [World.setRow_alloc_new]; obtain ⟨w4, hw4⟩ : ∃ W, W = w3.alloc (.cells (hshR.f dg0).toArray hshR.T) := ⟨_, rfl⟩; rw [← hw4]; have hb : Below w3.heap.size w3 w4 := by { rw [hw4]; exact (Below.refl _ w3).alloc (Nat.le_refl _) _ }; have H4 := Lib.hid (H3.out.below hb); clear hb hw4)
            | fail)
          go_roundw
          case rel => exact ⟨h, k + 1, HE.out.2, Nat.le_succ_of_le HP.out.2.2.1, .inr (.inr HN.out.2), rfl, by go_num, H4.out⟩
          case measure => simp [intOf]; have := HE.out.2; omega
        · obtain rfl : h = k := by rcases HP.out.2.2.2.2 with e | e | e <;> omega
          have he : noteE (Af free h) [] (Pf h) 1 (rmk h) = 0 := by rw [HE.out.1, if_neg h6, if_neg hf]
          have he5 := noteE_f5 HH.out.2.2 HP.out.2.2.2.1 free HE.out.2
          have hsp : spendE (Af free h) [] 1 5 false = 0 := by rw [Af_spend, if_neg hf]
          have hr := Af_step hsp
          obtain ⟨dd, hdd⟩ : ∃ d, d = dgOf (rmk h) := ⟨_, rfl⟩
          have HN := Lib.hid (And.intro he (And.intro he5 (And.intro hr hdd)))
          clear he he5 hsp hr h6 hdd
          have tok1 : True := trivial
          have tok2 : True := trivial
          go_wp2_with (first
            | (go_at_call 16; have _t := tok1; refine (HP.out.1.note HH.out.1 (rdC_leaf _ 1 0 h) hw1).mono ?_; rw [show (⟨1, 0, (h : Int), []⟩ : Cl) = rmk h from rfl]; unfold noteH noteA noteP; rw [HN.out.1, if_pos rfl, if_pos rfl, if_pos rfl, HN.out.2.2.1, ← HN.out.2.2.2]; rintro e w3 ⟨rfl, hp⟩; have H3 := Lib.hid (show P8 g pb (Af free (h + 1)) [] (Pf (h + 1)) [] [] w w3 by { rw [Pf, ← HN.out.2.2.2]; exact hp }); clear hp tok1)
            | (go_at_call 16; refine (H4.out.note HH.out.1 (rdC_leaf _ 1 0 h) hw1).mono ?_; rw [show (⟨1, 0, (h : Int), []⟩ : Cl) = rmk h from rfl]; unfold noteH noteA noteP; rw [HN.out.2.1, if_neg (by decide), if_neg (by decide), if_neg (by decide)]; rintro e w5 ⟨rfl, hp⟩; have H5 := Lib.hid hp; clear hp)
            | (refine wpl_allocR (r := hshR) rfl rfl rfl ?_; intro C hC)
            | (have _t := tok2; refine wpl_storeR (r := hshR) (t := dd) (C := C) (b := w3.heap.size) _ _ rfl rfl rfl rfl rfl (World.alloc_heap_new _ _) hC ?_; rw [World.setRow_alloc_new]; obtain ⟨w4, hw4⟩ : ∃ W, W = w3.alloc (.cells (hshR.f dd).toArray hshR.T) := ⟨_, rfl⟩; rw [← hw4]; have hb : Below w3.heap.size w3 w4 := by { rw [hw4]; exact (Below.refl _ w3).alloc (Nat.le_refl _) _ }; have H4 := Lib.hid (H3.out.below hb); clear hb hw4 tok2 hC)
            | (refine wpl_storeR (r := hshR) (t := dg0) (C := C) (b := w5.heap.size) _ _ rfl rfl rfl rfl rfl (World.alloc_heap_new _ _) hC ?_; rw [World.setRow_alloc_new]; obtain ⟨w6, hw6⟩ : ∃ W, W = w5.alloc (.cells (hshR.f dg0).toArray hshR.T) := ⟨_, rfl⟩; rw [← hw6]; have hb : Below w5.heap.size w5 w6 := by { rw [hw6]; exact (Below.refl _ w5).alloc (Nat.le_refl _) _ }; have H6 := Lib.hid (H5.out.below hb); clear hb hw6)
            | fail)
          go_roundw
          case rel => exact ⟨h + 1, h + 1, HE.out.2, Nat.le_refl _, .inl rfl, by go_num, by go_num, H6.out⟩
          case measure => simp [intOf]; have := HE.out.2; omega
    · have hnk : ¬ (k : Int) < m := by omega
      clear hlt hk hh
      go_wp2_with (first
        | (go_at_call 14; refine (law8_known _ (HH.out.1.below HP.out.1.bl HH.out.1.lt)).mono ?_; rintro e w7 ⟨rfl, hb⟩; have H7 := Lib.hid hb; clear hb)
        | fail)
      exact bodyPost_ret (v := .bool true) (by simp [results, Tryz.results6, go_sem]) rfl ⟨rfl, HP.out.1.bl.trans (H7.out.mono HP.out.1.bl.size)⟩
end Go.Proofs.YtcfcfijmfgnpfaaGreatDoor
