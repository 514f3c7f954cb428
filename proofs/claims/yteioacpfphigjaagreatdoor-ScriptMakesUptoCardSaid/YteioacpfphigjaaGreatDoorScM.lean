/-
  ScriptMakes: rows that are made into bytes are told as they were.
-/
import Derived.Test.YteioacpfphigjaaGreatDoorScT
namespace Go.Proofs.YteioacpfphigjaaGreatDoor
open Go.RowKit Go.Maps Go.Shelf
set_option linter.unusedVariables false
set_option linter.unusedSimpArgs false

set_option maxRecDepth 100000 in
theorem script_Make (u : Value) (l : List (List Nat)) (w : World) (hl : RdBB w u l) (hbl : bulkL l ≤ 1000000000) (hm : l.length ≤ maxLen) :
    Calls Tryz.prog 21 #[u] w (OwnRet w.heap.size (BsM (rowsL l)) w) := by
  have HR := Lib.hid hl
  have HM := Lib.hid (And.intro hbl hm)
  obtain ⟨ao, cap, rfl⟩ := hl.lenOf
  clear hl hbl hm
  go_enter Tryz.func21, Tryz.ntmps21
  go_wp2_with (first
    | (go_at_call 50; refine (compact_Row _ _ [] l _ (rdB_nil _) HR.out (by have := HM.out.1; simp; omega) HM.out.2).mono ?_; rw [List.nil_append]; rintro e w1 ⟨v1, rfl, ho1, hb1, hs1⟩; obtain ⟨ao1, cap1, rfl⟩ := ho1.reads.lenOf; have H1 := Lib.hid (And.intro ho1 (And.intro hb1 hs1)); clear ho1 hb1 hs1)
    | fail)
  exact bodyPost_ret (v := .slice ao1 (rowsL l).length cap1) (by simp [results, Tryz.results21, go_sem]) rfl ⟨_, rfl, H1.out.1, H1.out.2⟩
theorem sizeN_small {n : Nat} (h : n ≤ 3000) : sizeN n ≤ 2 := by
  unfold sizeN; split <;> first | omega | (split <;> first | omega | (split <;> omega))
theorem rowsL_small (l : List (List Nat)) (h : longL l ≤ 3000) : (rowsL l).length ≤ l.length + longL l := by
  induction l with
  | nil => simp [rowsL, longL]
  | cons p l ih =>
    simp only [longL] at h
    have h1 := ih (by omega)
    have h2 := sizeN_small (n := p.length) (by omega)
    simp only [rowsL, longL, List.length_cons, List.length_append, rowL]
    rw [numL_size]; omega
set_option maxHeartbeats 4000000 in
set_option maxRecDepth 100000 in
theorem scriptMakes_walk (u : Value) (l : List (List Nat)) (w : World) (h : RdBB w u l) (hb : ∀ y ∈ l, ∀ c ∈ y, c < 256) (hl : longL l ≤ 1048576) :
    Calls Tryz.prog 5 #[u] w fun e w' => e = .returned (.bool true) ∧ Below w.heap.size w w' := by
  have HR := Lib.hid h
  obtain ⟨ao, cap, rfl⟩ := h.lenOf
  have hll := longL_length l
  obtain ⟨z, hz⟩ : ∃ z, z = longL l := ⟨_, rfl⟩
  have hz2 : z ≤ 1048576 := by rw [hz]; exact hl
  have HZ := Lib.hid hz
  have HB := Lib.hid hb
  clear h hb hz
  go_enter Tryz.func5, Tryz.ntmps5
  go_wp2_with fail
  go_loop [3, 4] (fun n i => ∃ j m : Nat, j ≤ l.length ∧ i = .int .i64 j ∧ n = .int .i64 m ∧ m = longL (l.take j)) (fun _ i => l.length - (intOf i).toNat)
  case atStart => exact ⟨0, 0, Nat.zero_le _, rfl, rfl, by simp [longL]⟩
  case round =>
    obtain ⟨j, m, hj, rfl, rfl, hm⟩ := hrel
    have hmb : m ≤ 1048576 := by rw [hm]; exact Nat.le_trans (longL_take l j) hl
    have HM := Lib.hid hm
    clear hm
    by_cases hlt : j < l.length
    · obtain ⟨blk, off, ao2, cap2, rfl, -, hc, hb, hcell, hr⟩ := HR.out.at hlt
      obtain ⟨q, hq⟩ : ∃ q, q = (l.getD j []).length := ⟨_, rfl⟩
      rw [← hq] at hcell
      have hnext : longL (l.take (j + 1)) = m + (1 + q) := by
        rw [List.take_succ_eq_append_getElem hlt, longL_snoc, HM.out, hq]; simp [hlt]
      have hqb : q ≤ 1048576 := by have := longL_take l (j + 1); omega
      have HN := Lib.hid hnext
      have hone : (Value.slice ao2 q cap2).oneCell' = true := rfl
      clear hr hq hnext
      go_wp2_with fail
      exact ⟨⟨j + 1, m + (1 + q), by omega, by go_num, by go_num, by rw [HN.out]⟩, by simp [intOf]; omega⟩
    · have : j = l.length := by omega
      subst this
      have hmz : m = z := by rw [HM.out, HZ.out, List.take_length]
      subst hmz
      clear hlt
      have hmz2 := HM.out
      rw [List.take_length] at hmz2
      clear HM HZ hj hz2
      by_cases h3 : m ≤ 3000
      · have d1 : decide ((3000 : Int) < (m : Int)) = false := by simp; omega
        have hbk : bulkL l ≤ 27000 := by have := longL_bulk l; omega
        obtain ⟨B, hBe⟩ : ∃ B, B = rowsL l := ⟨_, rfl⟩
        have hro : rowsOf B = l := by rw [hBe]; exact rowsOf_rowsL l (by omega)
        have hby : ∀ b ∈ B, b < 256 := by rw [hBe]; exact rowsL_lt l HB.out
        have hBl : B.length ≤ 10000 := by
          have h1 := rowsOf_rowsL l (by omega)
          rw [hBe]
          have : (rowsL l).length ≤ l.length + longL l := rowsL_small l (by omega)
          omega
        have HK := Lib.hid (And.intro hbk (And.intro hro (And.intro hby hBl)))
        have HBE := Lib.hid hBe
        have hR3 : l.length ≤ 3000 := by omega
        clear hbk hro hby hBl hBe hmb hll hl
        go_wp2_with (first
          | (go_at_call 21; refine (script_Make _ l _ HR.out (by have := HK.out.1; omega) (by unfold maxLen; omega)).mono ?_; rw [← HBE.out]; rintro e w1 ⟨v1, rfl, ho1, hb1, hs1⟩; obtain ⟨ao1, cap1, rfl⟩ := ho1.reads.lenOf; have H1 := Lib.hid (And.intro ho1 (And.intro hb1 hs1)); clear ho1 hb1 hs1)
          | (go_at_call 18; refine (law15_rows _ B _ H1.out.1.reads HK.out.2.2.1 HK.out.2.2.2).mono ?_; rintro e w2 ⟨v2, rfl, hr2, hb2⟩; rw [HK.out.2.1] at hr2; have H2 := Lib.hid (And.intro hr2 hb2); obtain ⟨ao2, cap2, rfl⟩ := hr2.lenOf; clear hr2 hb2)
          | fail)
        have hw2 : Below w.heap.size w w2 := H1.out.2.1.trans (H2.out.2.mono H1.out.2.2)
        have HW2 := Lib.hid hw2
        clear hw2
        go_loopw [7] (fun i wr => ∃ j : Nat, j ≤ l.length ∧ i = .int .i64 j ∧ Below w2.heap.size w2 wr) (fun i _ => l.length - (intOf i).toNat)
        case atStart => exact ⟨0, Nat.zero_le _, rfl, Below.refl _ _⟩
        case round =>
          obtain ⟨j, hj, rfl, hb⟩ := hrel
          by_cases hlt : j < l.length
          · obtain ⟨bm, om, aom, cpm, rfl, -, hcm, hbm, hcM, hrM⟩ := HR.out.at hlt
            obtain ⟨bl, ol, aol, cpl, rfl, -, hcl', hbl, hcL, hrL⟩ := H2.out.1.at hlt
            have hcM' := (hb.cell (p := ⟨bm, om + j, none⟩) (Nat.lt_of_lt_of_le hbm HW2.out.size)).trans ((HW2.out.cell (p := ⟨bm, om + j, none⟩) hbm).trans hcM)
            have hcL' := (hb.cell (p := ⟨bl, ol + j, none⟩) hbl).trans hcL
            obtain ⟨q, hq⟩ : ∃ q, q = l.getD j [] := ⟨_, rfl⟩
            have hqb : ∀ b ∈ q, b < 256 := by
              rw [hq, List.getD_eq_getElem?_getD, List.getElem?_eq_getElem hlt]; exact HB.out _ (List.getElem_mem hlt)
            rw [← hq] at hcM' hcL' hrM hrL
            have hst1 := fun n => run_str (hrM.below (below_drewN (HW2.out.trans (hb.mono HW2.out.size)) n)) hqb
            have hst2 := fun n => run_str (hrL.below (below_drewN hb n)) hqb
            have hone1 : (Value.slice aom q.length cpm).oneCell' = true := rfl
            have hone2 : (Value.slice aol q.length cpl).oneCell' = true := rfl
            have heq : ((strN q).toList == (strN q).toList) = true := by simp
            have HBq := Lib.hid hb
            clear hcM hcL hq hb hrM hrL hqb
            go_wp2_with fail
            go_quiet (fail)
            all_goals (go_wp2_with fail; exact ⟨⟨j + 1, by omega, by go_num, below_drewN HBq.out _⟩, by simp [intOf]; omega⟩)
          · obtain rfl : j = l.length := by omega
            have HBq := Lib.hid hb
            clear hlt hb
            go_wp2_with (first | (go_at_call 20; refine (law15_known _).mono ?_; rintro e w9 ⟨rfl, hb9⟩; have H9 := Lib.hid hb9; clear hb9) | fail)
            have h1 := HW2.out.trans (HBq.out.mono HW2.out.size)
            exact bodyPost_ret (v := .bool true) (by simp [results, Tryz.results5, go_sem]) rfl ⟨rfl, h1.trans (H9.out.mono h1.size)⟩
      · have d1 : decide ((3000 : Int) < (m : Int)) = true := by simp; omega
        go_wp2_with fail
        exact bodyPost_ret (v := .bool true) (by simp [results, Tryz.results5, go_sem]) rfl ⟨rfl, Below.refl _ _⟩
end Go.Proofs.YteioacpfphigjaaGreatDoor
