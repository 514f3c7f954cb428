/-
  The law CodeNests, walked.
-/
import Derived.Test.YtbndegkgpoemnaaSiz
import Derived.Test.YtbndegkgpoemnaaKn7
import Derived.Test.YtbndegkgpoemnaaComD
import Derived.Deep.DeepCutAuto
import Derived.Deep.CutBlock
namespace Go.Proofs.Ytbndegkgpoemnaa
open Go.RowKit
set_option linter.unusedVariables false
set_option linter.unusedSimpArgs false

theorem okC_mono : ∀ (q : Nat) (c : Cl), okC q c = true → okC (q + 1) c = true := by
  intro q
  induction q with
  | zero => intro c h; unfold okC at h ⊢; rw [h]; rfl
  | succ q ih =>
    intro c h
    unfold okC at h ⊢
    rw [Bool.or_eq_true] at h ⊢
    rcases h with h | h
    · exact .inl h
    · rw [Bool.and_eq_true] at h ⊢
      refine .inr ⟨h.1, ?_⟩
      rw [List.all_eq_true] at h ⊢
      exact fun x hx => ih x (h.2 x hx)
theorem okC_batch {l : List Cl} {m : Nat} (hm : m = l.length) (h : 1 ≤ m ∧ m ≤ 4) : okC 3 (.mk 5 0 0 l) = l.all (okC 2) := by
  rw [okC_5k rfl]
  show ((0 : Int) == 0 && (0 : Int) == 0 && decide (1 ≤ l.length ∧ l.length ≤ 4) && l.all (okC 2)) = _
  rw [← hm, decide_eq_true h]; simp
theorem okC_batch_no {l : List Cl} {m j : Nat} (hm : m = l.length) (h : 1 ≤ m ∧ m ≤ 4) (hj : j < l.length) (hk : okC 3 l[j] = false) : okC 3 (.mk 5 0 0 l) = false := by
  rw [okC_batch hm h]
  refine all_of_take hj ?_
  cases e : okC 2 l[j] with
  | false => rfl
  | true => rw [okC_mono 2 _ e] at hk; cases hk
theorem enc_bad {d : Nat} {c : Cl} {v : Value} {w : World} (hrd : RdC w d v c) (h : okC 3 c = false) : Calls Try.prog 21 #[v] w fun e w' => ∃ u, e = .returned (.tuple #[u, .int .i64 1]) ∧ Below w.heap.size w w' := by
  refine (code_EncodeCall d c v w hrd).mono ?_
  rw [h]
  rintro e w' ⟨u, he, -, hb⟩
  exact ⟨u, he, hb⟩
theorem enc_good {d : Nat} {c : Cl} {v : Value} {w : World} (hrd : RdC w d v c) (h : okC 3 c = true) : Calls Try.prog 21 #[v] w fun e w' => ∃ u, e = .returned (.tuple #[u, .int .i64 0]) ∧ OwnB w.heap.size u (Bs (layT c)) w' ∧ Below w.heap.size w w' := by
  refine (code_EncodeCall d c v w hrd).mono ?_
  rw [h]
  exact fun e w' h => h
theorem numsL_lt (l : List Int) : ∀ c ∈ numsL l, c < 256 := by
  induction l with
  | nil => simp [numsL]
  | cons n l ih =>
    intro c hc
    rw [numsL, List.mem_append] at hc
    exact hc.elim (numL_lt _ c) (ih c)
mutual
theorem layT_lt : ∀ (c : Cl), ∀ b ∈ layT c, b < 256
  | .mk k t n l => by
    intro b hb
    rw [layT, List.mem_append] at hb
    exact hb.elim (numsL_lt _ b) (laysT_lt l b)
theorem laysT_lt : ∀ (l : List Cl), ∀ b ∈ laysT l, b < 256
  | [] => by intro b hb; simp [laysT] at hb
  | c :: l => by
    intro b hb
    rw [laysT, List.mem_append] at hb
    exact hb.elim (rowL_lt _ (layT_lt c) b) (laysT_lt l b)
end
theorem laysT_bound : ∀ (l : List Cl), l.all (okC 3) = true → (laysT l).length ≤ l.length * 3825 := by
  intro l hl
  induction l with
  | nil => simp [laysT]
  | cons x l ihl =>
    rw [List.all_cons, Bool.and_eq_true] at hl
    rw [laysT, List.length_append, List.length_cons, Nat.add_mul]
    have h3 := rowL_length (layT x)
    have h5 := okC3_len hl.1
    have h6 := ihl hl.2
    omega
theorem ownB_later {B : Nat} {v : Value} {l : List Value} {w w' : World} (h : OwnB B v l w) (hb : Below w.heap.size w w') : OwnB B v l w' := OwnB.of h (Nat.le_refl _) (fun k hk => hb.block k (World.ownsRow.lt h k hk).2)
set_option maxRecDepth 100000 in
set_option maxHeartbeats 4000000 in
theorem codeNests_walk (l : List Cl) (ao : Option Addr) (cap d m : Nat) (w : World) (hm : m = l.length) (hrd : RdCs w d ao l) (hl : ∀ c ∈ l, LenC c) (hmx : l.length ≤ maxLen) :
    Calls Try.prog 9 #[.slice ao m cap] w fun e w' => e = .returned (.bool true) ∧ Below w.heap.size w w' := by
  go_enter Try.func9, Try.ntmps9
  by_cases hin : 1 ≤ m ∧ m ≤ 4
  · have h1 : ¬ (m : Int) < 1 := by omega
    have h2 : ¬ 4 < (m : Int) := by omega
    have hm4 : m ≤ 4 := hin.2
    have HB0 := Lib.hid (show RdC w (d + 1) (.agg #[.int .i64 5, .int .i64 0, .int .i64 0, .slice ao m cap]) (.mk 5 0 0 l) from ⟨ao, cap, by rw [hm]; rfl, hrd⟩)
    have HM := Lib.hid (And.intro hm (And.intro hin hl))
    have HRD := Lib.hid hrd
    have hri := rdI_lit w [5, 0, 0, (m : Int)] #[.int .i64 5, .int .i64 0, .int .i64 0, .int .i64 m] 3 (by intro i hi; match i, hi with | 0, _ => rfl | 1, _ => rfl | 2, _ => rfl | 3, _ => rfl)
    have hN := ref_Nums _ _ _ hri (by simp)
    have HN := Lib.hid (show Calls Try.prog 25 #[.slice (some ⟨w.heap.size, 0, none⟩) 4 4] (w.alloc (.cells #[.int .i64 5, .int .i64 0, .int .i64 0, .int .i64 m] 3)) _ from hN)
    clear hin hm hrd hl hmx hri hN
    go_wp2_with (first
      | (go_at_call 25; refine HN.out.mono ?_; rintro e w1 ⟨v1, rfl, ho1, hb1, hs1⟩; have H1 := Lib.hid (And.intro (OwnB.of ho1 (S' := w.heap.size) (by simp) (fun _ _ => rfl)) (((Below.refl _ w).alloc (Nat.le_refl _) _).trans (hb1.mono (by simp)))); clear ho1 hb1 hs1)
      | fail)
    go_loopw [3, 4, 5, 6] (fun u i b e wr => ∃ j : Nat, j ≤ m ∧ i = .int .i64 j ∧ OwnB w.heap.size u (Bs (numsL [5, 0, 0, m] ++ laysT (l.take j))) wr ∧ (l.take j).all (okC 3) = true ∧ Below w.heap.size w wr) (fun _ i _ _ _ => m - (intOf i).toNat)
    case atStart => exact ⟨0, by omega, rfl, by rw [List.take_zero]; simpa [laysT] using H1.out.1, rfl, H1.out.2⟩
    case round =>
      obtain ⟨j, hj, rfl, ho, hall, hb⟩ := hrel
      have HR := Lib.hid (And.intro ho (And.intro hall hb))
      have HRB := Lib.hid ho.reads
      clear ho hall H1
      by_cases hlt : j < m
      · have hlt' : (j : Int) < m := by omega
        have hjl : j < l.length := by rw [← HM.out.1]; exact hlt
        obtain ⟨kb, ko, vs, rfl, hkb, hrg, hrd⟩ := HRD.out j hjl
        have hrg2 : wr.rangeAt kb (ko + j * 4) vs := rangeAt_keep hrg (hb.block kb hkb)
        have hrd2 : RdC wr d (.agg vs.toArray) l[j] := RdC.below hb hrd
        have hat := all_take (p := okC 3) hjl
        have hlay := laysT_take l hjl
        have hno := okC_batch_no HM.out.1 HM.out.2.1 hjl
        have hkl := HM.out.2.2 _ (List.getElem_mem hjl)
        obtain ⟨K, hK⟩ : ∃ K, K = l[j] := ⟨_, rfl⟩
        rw [← hK] at hrd2 hat hlay hno hkl
        clear hK hrd
        have hsz := law_size d K _ wr hrd2 hkl
        obtain ⟨a4, c4, e4⟩ := hrd2.cells
        obtain ⟨c1, c2, c3, c5, e5⟩ : ∃ c1 c2 c3 c5, vs = [.int .i64 c1, .int .i64 c2, .int .i64 c3, .slice a4 c5 c4] := ⟨_, _, _, _, e4⟩
        clear e4
        subst e5
        have HK := Lib.hid (And.intro hrg2 (And.intro hrd2 (Nat.lt_of_lt_of_le hkb hb.size)))
        have HSZ := Lib.hid hsz
        have HA := Lib.hid (And.intro hat (And.intro hlay hno))
        clear hkb hrg hrg2 hrd2 hsz hb hjl hat hlay hno hkl
        go_upto_if 34 with (first
          | (refine wpl_loadC _ rfl rfl rfl HK.out.1 rfl ?_)
          | (go_at_call 10; refine HSZ.out.mono ?_; rintro e w2 ⟨⟨r, rfl⟩, hb⟩; have H2 := Lib.hid (And.intro hb (HR.out.2.2.trans (hb.mono HR.out.2.2.size))); clear hb)
          | fail)
        by_cases hr : 100 ≤ r
        · go_wp2_with fail
          exact bodyPost_ret (v := .bool true) (by simp [results, Try.results9, go_sem]) rfl ⟨rfl, H2.out.2⟩
        · have hK2 := RdC.below H2.out.1 HK.out.2.1
          have hrg3 := rangeAt_keep HK.out.1 (H2.out.1.block kb HK.out.2.2)
          have HK2 := Lib.hid (And.intro hK2 hrg3)
          clear hK2 hrg3
          have hcel : ∀ W2, Below w2.heap.size w2 W2 → W2.cell? ⟨kb, ko + j * 4, none⟩ = some (.int .i64 c1) ∧ W2.cell? ⟨kb, ko + j * 4 + 1, none⟩ = some (.int .i64 c2) ∧ W2.cell? ⟨kb, ko + j * 4 + 2, none⟩ = some (.int .i64 c3) ∧ W2.cell? ⟨kb, ko + j * 4 + 3, none⟩ = some (.slice a4 c5 c4) := fun W2 hb => by
            have h := rangeAt_keep HK2.out.2 (hb.block kb (Nat.lt_of_lt_of_le HK.out.2.2 H2.out.1.size))
            exact ⟨h 0 _ rfl, h 1 _ rfl, h 2 _ rfl, h 3 _ rfl⟩
          have HCEL := Lib.hid hcel
          clear hcel
          cases hq : okC 3 K with
          | false =>
            have HQ := Lib.hid hq
            have hbat : ∀ W2, Below w2.heap.size w2 W2 → Calls Try.prog 21 #[.agg #[.int .i64 5, .int .i64 0, .int .i64 0, .slice (some ⟨kb, ko, none⟩) m cap]] W2 fun e w' => ∃ u, e = .returned (.tuple #[u, .int .i64 1]) ∧ Below W2.heap.size W2 w' := fun W2 hb => enc_bad (RdC.below (H2.out.2.trans (hb.mono H2.out.2.size)) HB0.out) (HA.out.2.2 hq)
            have HBAT := Lib.hid hbat
            have href : ∀ W2, Below w2.heap.size w2 W2 → Calls Try.prog 20 #[.agg #[.int .i64 c1, .int .i64 c2, .int .i64 c3, .slice a4 c5 c4]] W2 fun e w' => e = .returned (.bool false) ∧ Below W2.heap.size W2 w' := fun W2 hb => by
              have h := ref_IsCall d K _ W2 (RdC.below hb HK2.out.1)
              rw [hq] at h
              exact h
            have HREF := Lib.hid href
            clear hbat href hq
            have tok : True := trivial
            go_wp2_with (first
              | (refine wpl_loadC _ rfl rfl rfl HK2.out.2 rfl ?_)
              | (go_at_call 21; have _t := tok; refine (enc_bad HK2.out.1 HQ.out).mono ?_; rintro e w3 ⟨u3, rfl, hb⟩; have H3 := Lib.hid hb; clear hb tok)
              | (go_at_call 21; refine (HBAT.out _ H3.out).mono ?_; rintro e w4 ⟨u4, rfl, hb⟩; have hb4 := H3.out.trans (hb.mono H3.out.size); obtain ⟨q0, q1, q2, q3⟩ := HCEL.out w4 hb4; have H4 := Lib.hid hb4; clear hb hb4)
              | (go_at_call 20; refine (HREF.out _ H4.out).mono ?_; rintro e w5 ⟨rfl, hb⟩; have H5 := Lib.hid (H4.out.trans (hb.mono H4.out.size)); clear hb)
              | (go_at_call 19; refine (law_known _).mono ?_; rintro e w9 ⟨rfl, hb⟩; have H9 := Lib.hid (H5.out.trans (hb.mono H5.out.size)); clear hb)
              | fail)
            go_ret
            exact ⟨rfl, H2.out.2.trans (H9.out.mono H2.out.2.size)⟩
          | true =>
            have HQ := Lib.hid hq
            clear hq
            have hlk := okC3_len HQ.out
            have hlb := laysT_bound _ HR.out.2.1
            rw [List.length_take] at hlb
            have hnb := numsL_length [5, 0, 0, (m : Int)]
            simp only [List.length_cons, List.length_nil] at hnb
            have hrw := rowL_length (layT K)
            have hlen : (numsL [5, 0, 0, (m : Int)] ++ laysT (l.take j)).length + (rowL (layT K)).length ≤ 1099511627776 := by rw [List.length_append]; omega
            have hlk2 : (layT K).length ≤ 1000000000 := by omega
            have hasc : numsL [5, 0, 0, (m : Int)] ++ laysT (l.take j) ++ rowL (layT K) = numsL [5, 0, 0, (m : Int)] ++ laysT (l.take (j + 1)) := by rw [HA.out.2.1, List.append_assoc]
            have HL := Lib.hid (And.intro hlen (And.intro hlk2 hasc))
            clear hlk hlb hnb hrw hlen hlk2 hasc
            go_wp2_with (first
              | (refine wpl_loadC _ rfl rfl rfl HK2.out.2 rfl ?_)
              | (go_at_call 21; refine (enc_good HK2.out.1 HQ.out).mono ?_; rintro e w3 ⟨p3, rfl, ho, hb⟩; have HO3 := Lib.hid ho.reads; have H3 := Lib.hid hb; clear ho hb)
              | (go_at_call 26; refine (ref_Row p3 _ w3 HO3.out HL.out.2.1).mono ?_; rintro e w4 ⟨r4, rfl, ho4, hb4, hs4⟩; have HR4 := Lib.hid ho4.reads; have hb42 := H2.out.1.trans ((H3.out.trans (hb4.mono H3.out.size)).mono H2.out.1.size); have H4 := Lib.hid (And.intro (ownB_later HR.out.1 hb42) (HR.out.2.2.trans (hb42.mono HR.out.2.2.size))); clear ho4 hb4 hs4 hb42)
              | (at_builtin; refine wp_app_B (B := w.heap.size) (v := u3) (xs := numsL [5, 0, 0, (m : Int)] ++ laysT (l.take j)) (l := rowL (layT K)) rfl rfl rfl rfl H4.out.1 HR4.out HL.out.1 H4.out.2.size ?_; rw [HL.out.2.2]; intro v5 w5 ho5 hb5 hs5 hg5; have H5 := Lib.hid (And.intro ho5 (H4.out.2.trans hb5)); clear ho5 hb5 hs5 hg5)
              | fail)
            go_roundw
            case rel => exact ⟨j + 1, by omega, by go_num, H5.out.1, by rw [HA.out.1, HR.out.2.1, HQ.out]; rfl, H5.out.2⟩
            case measure => simp [intOf]; omega
      · obtain rfl : j = m := by omega
        have hge : ¬ (j : Int) < j := by omega
        have htk : l.take j = l := List.take_of_length_le (by rw [← HM.out.1]; exact Nat.le_refl _)
        have hall := HR.out.2.1
        have hrb := HRB.out
        rw [htk] at hall hrb
        have hbr := HR.out.2.2
        have hB := RdC.below hbr HB0.out
        have hlt256 : ∀ b ∈ numsL [5, 0, 0, (j : Int)] ++ laysT l, b < 256 := by
          intro b hb
          rw [List.mem_append] at hb
          exact hb.elim (numsL_lt _ b) (laysT_lt l b)
        have hlay : layT (.mk 5 0 0 l) = numsL [5, 0, 0, (j : Int)] ++ laysT l := by rw [layT, HM.out.1]
        have href := fun W2 (hb : Below wr.heap.size wr W2) => ref_IsCall (d + 1) (.mk 5 0 0 l) _ W2 (RdC.below hb hB)
        obtain ⟨X, hX⟩ : ∃ X, X = numsL [5, 0, 0, (j : Int)] ++ laysT l := ⟨_, rfl⟩
        rw [← hX] at hlay hlt256 hrb
        have hst : ((strN X).toList == (strN X).toList) = true := by simp
        have HBB := Lib.hid hbr
        have HLT := Lib.hid hlt256
        have HX := Lib.hid hrb
        clear hlt htk hj hb hall hbr hX HR HRB hrb hlt256
        cases hq : okC 3 (.mk 5 0 0 l) with
        | false =>
          have HE := Lib.hid (enc_bad hB hq)
          simp only [hq] at href
          have HF := Lib.hid href
          clear href hq hB hlay
          go_wp2_with (first
            | (go_at_call 21; refine HE.out.mono ?_; rintro e w3 ⟨p3, rfl, hb⟩; have H3 := Lib.hid hb; clear hb)
            | (go_at_call 20; refine (HF.out _ H3.out).mono ?_; rintro e w4 ⟨rfl, hb⟩; have H4 := Lib.hid (H3.out.trans (hb.mono H3.out.size)); clear hb)
            | (go_at_call 19; refine (law_known _).mono ?_; rintro e w9 ⟨rfl, hb⟩; have H9 := Lib.hid (H4.out.trans (hb.mono H4.out.size)); clear hb)
            | fail)
          go_ret
          exact ⟨rfl, HBB.out.trans (H9.out.mono HBB.out.size)⟩
        | true =>
          have he := enc_good hB hq
          rw [hlay] at he
          have HE := Lib.hid he
          simp only [hq] at href
          have HF := Lib.hid href
          clear href hq hB hlay he
          go_wp2_with (first
            | (go_at_call 21; refine HE.out.mono ?_; rintro e w3 ⟨p3, rfl, ho, hb⟩; have HO3 := Lib.hid ho.reads; have H3 := Lib.hid hb; clear ho hb)
            | (go_at_call 20; refine (HF.out _ H3.out).mono ?_; rintro e w4 ⟨rfl, hb⟩; have hs1 := run_str (HO3.out.below hb) HLT.out; have hs2 := run_str ((HX.out.below H3.out).below hb) HLT.out; have H4 := Lib.hid (H3.out.trans (hb.mono H3.out.size)); clear hb)
            | (go_at_call 19; refine (law_known _).mono ?_; rintro e w9 ⟨rfl, hb⟩; have H9 := Lib.hid (H4.out.trans (hb.mono H4.out.size)); clear hb)
            | fail)
          go_ret
          exact ⟨rfl, HBB.out.trans (H9.out.mono HBB.out.size)⟩
  · have hex : (m : Int) < 1 ∨ (¬ (m : Int) < 1 ∧ 4 < (m : Int)) := by omega
    clear hin hm hrd hl hmx
    rcases hex with h1 | ⟨h1, h2⟩
    all_goals go_wp2_with fail
    all_goals exact bodyPost_ret (v := .bool true) (by simp [results, Try.results9, go_sem]) rfl ⟨rfl, Below.refl _ _⟩
end Go.Proofs.Ytbndegkgpoemnaa
