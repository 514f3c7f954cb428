/-
  The walk of compact's law: rows that were put are told as they were; bytes that are cut tell fewer.
-/
import Derived.Test.YtioleibcekobeaaRow5
namespace Go.Proofs.Ytioleibcekobeaa
open Go.RowKit Go.Shelf
set_option linter.unusedVariables false

set_option maxRecDepth 100000 in
set_option maxHeartbeats 4000000 in
theorem compactRows_main (u : Value) (l : List (List Nat)) (cut : Int) (w : World) (hrl : RdBB w u l) (hb : ∀ y ∈ l, ∀ c ∈ y, c < 256) (h3 : longL l ≤ 3000) (hne : l ≠ []) :
    Calls Try.prog 8 #[u, .int .i64 cut] w fun e w' => e = .returned (.bool true) ∧ Below w.heap.size w w' := by
  have hll := longL_length l
  have hlb := longL_bulk l
  have hrsl := rowsL_length l
  have hpos := List.length_pos_iff.2 hne
  have hrp := rowsL_pos hne
  obtain ⟨B, hBe⟩ : ∃ B, B = rowsL l := ⟨_, rfl⟩
  have hro : rowsOf B = l := by rw [hBe]; exact rowsOf_rowsL l h3
  have hby : ∀ b ∈ B, b < 256 := by rw [hBe]; exact rowsL_lt l hb
  obtain ⟨c, hcd⟩ : ∃ c : Nat, c = (cut % 65536).toNat % B.length := ⟨_, rfl⟩
  rw [← hBe] at hrp hrsl
  have hcl : c < B.length := by rw [hcd]; exact Nat.mod_lt _ hrp
  obtain ⟨ks, hks⟩ : ∃ ks, ks = rowsOf (B.take c) := ⟨_, rfl⟩
  have hkp : ks <+: l ∧ ks.length < l.length := by rw [hks, hBe]; exact rowsOf_cut l h3 c (by rw [← hBe]; exact hcl)
  obtain ⟨hkp, hkl⟩ := hkp
  have hki : ∀ i, i < ks.length → ks.getD i [] = l.getD i [] := fun i hi => by
    obtain ⟨t, rfl⟩ := hkp
    simp [List.getElem?_append, hi]
  have hand : bits .and .i64 cut 65535 = (((cut % 65536).toNat : Nat) : Int) := by rw [i64_and65535]; omega
  have hmod : (((cut % 65536).toNat : Nat) : Int).tmod (B.length : Int) = (c : Int) := by rw [hcd]; rfl
  obtain ⟨y, hy⟩ : ∃ y : Nat, y = (cut % 65536).toNat := ⟨_, rfl⟩
  have hy2 : y < 65536 := by omega
  rw [← hy] at hand hmod
  have HRL := Lib.hid hrl
  have HB := Lib.hid hb
  have HBE := Lib.hid hBe
  have HRO := Lib.hid hro
  have HBY := Lib.hid hby
  have HKS := Lib.hid hks
  have HKI := Lib.hid hki
  obtain ⟨ao0, cap0, rfl⟩ := hrl.lenOf
  have d1 : decide ((3000 : Int) < (longL l : Int)) = false := by simp; omega
  have d2 : ((l.length : Int) == 0) = false := by simp; exact hne
  have d3 : ((B.length : Int) == 0) = false := by simp; intro e; rw [e] at hrp; simp at hrp
  have d4 : decide ((l.length : Int) ≤ (ks.length : Int)) = false := by simp; omega
  have d5 : ¬ (B.length : Int) = 0 := by omega
  have d6 : B.length ≠ 0 := by omega
  have hB9 : B.length < 1000000000 := by omega
  have hkk : ks.length ≤ 10000 := by omega
  clear hrl hb hBe hro hby hcd hks hkp hki hy
  go_enter Try.func8, Try.ntmps8
  go_wp2_with (first | (go_at_call 11; refine (long_calls _ l _ HRL.out (by omega)).mono ?_; rintro e w' ⟨rfl, rfl⟩) | (go_at_call 19; refine (compact_Row _ _ [] l _ (rdB_nil _) HRL.out (by simp; omega) (by unfold maxLen; omega)).mono ?_; rw [List.nil_append, ← HBE.out]; rintro e w1 ⟨v1, rfl, ho1, hb1, hs1⟩; obtain ⟨g, cap1, rfl, hgB, hgl, hcap1, -, -⟩ := own_open ho1 hrp; have HO1 := Lib.hid ho1; have HB1 := Lib.hid hb1; clear ho1 hb1) | (go_at_call 25; refine (law_rows _ B _ HO1.out.reads HBY.out hB9 (by rw [HRO.out]; omega)).mono ?_; rintro e w2 ⟨m, rfl, hm, hb2⟩; rw [HRO.out] at hm; have HM := Lib.hid hm; have HB2 := Lib.hid hb2; obtain ⟨aoM, capM, rfl⟩ := hm.lenOf; clear hm hb2) | fail)
  have hbw := HB1.out.trans (HB2.out.mono hs1)
  have HBW := Lib.hid hbw
  have hs2 : w1.heap.size ≤ w2.heap.size := HB2.out.size
  clear hbw
  go_loopw [8] (fun i wr => ∃ j : Nat, j ≤ l.length ∧ i = .int .i64 j ∧ Below w2.heap.size w2 wr) (fun i _ => l.length - (intOf i).toNat)
  case atStart => exact ⟨0, Nat.zero_le _, rfl, Below.refl _ _⟩
  case round =>
    obtain ⟨j, hj, rfl, hb⟩ := hrel
    by_cases hlt : j < l.length
    · obtain ⟨bm, om, aom, cpm, rfl, -, hcm, hbm, hcM, hrM⟩ := HM.out.at hlt
      obtain ⟨bl, ol, aol, cpl, rfl, -, hcl', hbl, hcL, hrL⟩ := HRL.out.at hlt
      have hcM' := (hb.cell (p := ⟨bm, om + j, none⟩) hbm).trans hcM
      have hcL' := (hb.cell (p := ⟨bl, ol + j, none⟩) (Nat.lt_of_lt_of_le hbl HBW.out.size)).trans ((HBW.out.cell (p := ⟨bl, ol + j, none⟩) hbl).trans hcL)
      obtain ⟨q, hq⟩ : ∃ q, q = l.getD j [] := ⟨_, rfl⟩
      have hqb : ∀ b ∈ q, b < 256 := by
        rw [hq, List.getD_eq_getElem?_getD, List.getElem?_eq_getElem hlt]; exact HB.out _ (List.getElem_mem hlt)
      rw [← hq] at hcM' hcL' hrM hrL
      have hst1 := run_str (hrM.below hb.drew) hqb
      have hst2 := run_str (hrL.below (HBW.out.trans (hb.mono HBW.out.size)).drew) hqb
      have hone1 : (Value.slice aom q.length cpm).oneCell' = true := rfl
      have hone2 : (Value.slice aol q.length cpl).oneCell' = true := rfl
      have heq : ((strN q).toList == (strN q).toList) = true := by simp
      have HBq := Lib.hid hb
      clear hcM hcL hq hb hrM hrL hqb
      go_wp2_with fail
      go_region
      all_goals (go_wp2_with fail; exact ⟨⟨j + 1, by omega, by go_num, HBq.out.drew⟩, by simp [intOf]; omega⟩)
    · have : j = l.length := by omega
      subst this
      obtain ⟨wq, hwq⟩ : ∃ wq, wq = wr := ⟨_, rfl⟩
      subst hwq
      have HBq := Lib.hid hb
      clear hlt hb
      have hx0 : (c : Int) ≤ (cap1 : Int) := by omega
      have hx1 : c ≤ cap1 := by omega
      have hrt := rd_take (k := c) (HO1.out.reads.below (HB2.out.trans (HBq.out.mono hs2))) (by omega)
      have htl : (B.take c).length < 1000000000 := by rw [List.length_take]; omega
      have htb : ∀ b ∈ B.take c, b < 256 := fun b hb => HBY.out b (List.mem_of_mem_take hb)
      have HRT := Lib.hid hrt
      have HTL := Lib.hid htl
      have HTB := Lib.hid htb
      clear hrt htl htb
      go_wp2_with (first | (go_at_call 25; refine (law_rows _ (B.take c) _ HRT.out HTB.out HTL.out (by rw [← HKS.out]; exact hkk)).mono ?_; rintro e w4 ⟨m4, rfl, hm4, hb4⟩; rw [← HKS.out] at hm4; have HM4 := Lib.hid hm4; have HB4 := Lib.hid hb4; obtain ⟨aoK, capK, rfl⟩ := hm4.lenOf; clear hm4 hb4) | fail)
      have hbw4 := HBW.out.trans ((HBq.out.trans (HB4.out.mono HBq.out.size)).mono HBW.out.size)
      have HW4 := Lib.hid hbw4
      clear hbw4
      go_loopw [11] (fun i wr => ∃ j : Nat, j ≤ ks.length ∧ i = .int .i64 j ∧ Below w4.heap.size w4 wr) (fun i _ => ks.length - (intOf i).toNat)
      case atStart => exact ⟨0, Nat.zero_le _, rfl, Below.refl _ _⟩
      case round =>
        obtain ⟨j, hj, rfl, hb⟩ := hrel
        by_cases hlt : j < ks.length
        · have hlt2 : j < l.length := by omega
          obtain ⟨bm, om, aom, cpm, rfl, -, hcm, hbm, hcM, hrM⟩ := HM4.out.at hlt
          obtain ⟨bl, ol, aol, cpl, rfl, -, hcl', hbl, hcL, hrL⟩ := HRL.out.at hlt2
          have hcM' := (hb.cell (p := ⟨bm, om + j, none⟩) hbm).trans hcM
          have hcL' := (hb.cell (p := ⟨bl, ol + j, none⟩) (Nat.lt_of_lt_of_le hbl HW4.out.size)).trans ((HW4.out.cell (p := ⟨bl, ol + j, none⟩) hbl).trans hcL)
          obtain ⟨q, hq⟩ : ∃ q, q = l.getD j [] := ⟨_, rfl⟩
          have hqb : ∀ b ∈ q, b < 256 := by
            rw [hq, List.getD_eq_getElem?_getD, List.getElem?_eq_getElem hlt2]; exact HB.out _ (List.getElem_mem hlt2)
          rw [HKI.out j hlt] at hcM' hrM
          rw [← hq] at hcM' hcL' hrM hrL
          have hst1 := run_str (hrM.below hb.drew) hqb
          have hst2 := run_str (hrL.below (HW4.out.trans (hb.mono HW4.out.size)).drew) hqb
          have hone1 : (Value.slice aom q.length cpm).oneCell' = true := rfl
          have hone2 : (Value.slice aol q.length cpl).oneCell' = true := rfl
          have heq : ((strN q).toList == (strN q).toList) = true := by simp
          have HBs := Lib.hid hb
          clear hcM hcL hq hb hrM hrL hqb
          go_wp2_with fail
          go_region
          all_goals (go_wp2_with fail; exact ⟨⟨j + 1, by omega, by go_num, HBs.out.drew⟩, by simp [intOf]; omega⟩)
        · have : j = ks.length := by omega
          subst this
          have HBs := Lib.hid hb
          clear hlt hb
          go_wp2_with (first | (go_at_call 20; refine (known_calls _).mono ?_; rintro e w9 ⟨rfl, hb9⟩) | fail)
          go_ret
          have h1 := HW4.out.trans (HBs.out.mono HW4.out.size)
          exact ⟨rfl, h1.trans (hb9.mono h1.size)⟩

set_option maxRecDepth 100000 in
set_option maxHeartbeats 1000000 in
theorem compactRows_walk (u : Value) (l : List (List Nat)) (cut : Int) (_wc : (Lit.int .i64 cut).wf = true) (w : World) (hrl : RdBB w u l) (hb : ∀ y ∈ l, ∀ c ∈ y, c < 256) (hlm : longL l ≤ 1048576) :
    Calls Try.prog 8 #[u, .int .i64 cut] w fun e w' => e = .returned (.bool true) ∧ Below w.heap.size w w' := by
  by_cases h3 : longL l ≤ 3000
  · by_cases hne : l = []
    · subst hne
      have HRP := Lib.hid hrl
      obtain ⟨ao1, cap1, rfl⟩ := hrl.lenOf
      clear hrl hb
      go_enter Try.func8, Try.ntmps8
      go_wp2_with (first | (go_at_call 11; refine (long_calls _ [] _ HRP.out hlm).mono ?_; rintro e w' ⟨rfl, rfl⟩) | fail)
      go_ret
      exact ⟨rfl, Below.refl _ _⟩
    · exact compactRows_main u l cut w hrl hb h3 hne
  · have d1 : decide ((3000 : Int) < (longL l : Int)) = true := by simp; omega
    have HRP := Lib.hid hrl
    obtain ⟨ao1, cap1, rfl⟩ := hrl.lenOf
    clear hrl hb
    go_enter Try.func8, Try.ntmps8
    go_wp2_with (first | (go_at_call 11; refine (long_calls _ l _ HRP.out hlm).mono ?_; rintro e w' ⟨rfl, rfl⟩) | fail)
    go_ret
    exact ⟨rfl, Below.refl _ _⟩
end Go.Proofs.Ytioleibcekobeaa
