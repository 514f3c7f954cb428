/-
  AgendaFull, walked; a task as an argument.
-/
import Derived.Test.YtbpgiahbnijidaaAk2
import Derived.Test.YtbpgiahbnijidaaFlat
namespace Go.Proofs.Ytbpgiahbnijidaa
open Go.ChangeShapes Go.WideShapes Go.ChangeAt Go.RowKit Go.Shelf
set_option linter.unusedVariables false
set_option linter.unusedSimpArgs false

theorem wfu8 {n : Int} (h : (Lit.int .u8 n).wf = true) : 0 ≤ n ∧ n < 256 := by
  simp [Lit.wf, IntKind.min, IntKind.max, IntKind.signed, IntKind.bits] at h
  omega
theorem fits_u8a : ∀ (n : Nat) {ls : List Leaf} {cs : List Value}, Fits (List.replicate n (some .u8) ++ ls) cs → ∃ (l : List Nat) (vs : List Value), cs = Bs l ++ vs ∧ l.length = n ∧ Fits ls vs
  | 0, ls, cs, h => ⟨[], cs, rfl, rfl, by simpa using h⟩
  | n + 1, ls, cs, h => by
    rw [List.replicate_succ, List.cons_append] at h
    obtain ⟨x, vs, rfl, hx, h⟩ := fits_int h
    obtain ⟨l, ws, rfl, hl, hf⟩ := fits_u8a n h
    refine ⟨x.toNat :: l, ws, ?_, by simp [hl], hf⟩
    have := wfu8 hx
    have e : ((x.toNat : Nat) : Int) = x := by omega
    simp [Bs, e, this.1]
section
variable {H : Type} {enc : TypeId × Value → H} {w : World} {base : Nat} {spare : Nat → Bool} {held : Bool}
theorem open_task {r : Reach} {b0 : Nat} {v : Value} {d : DataW H} {p : List MemPlace} (hv : Value.okWide Try.prog w r b0 32 v) (h : DataW.Trod enc Try.prog w base spare held 32 v d p) :
    ∃ T : Tk, v = .agg (tc T).toArray := by
  have hl : leaves Try.prog 4 32 = some (some .i64 :: some .i64 :: some .i64 :: (List.replicate 32 (some .u8) ++ [some .i64])) := by kernel_rfl
  obtain ⟨cs, rfl, f⟩ := open_flat 4 Try.underlying32 hl hv h
  obtain ⟨a, c1, rfl, -, f⟩ := fits_int f
  obtain ⟨b, c2, rfl, -, f⟩ := fits_int f
  obtain ⟨c, c3, rfl, -, f⟩ := fits_int f
  obtain ⟨l, c4, rfl, hl, f⟩ := fits_u8a 32 f
  obtain ⟨k, c5, rfl, -, f⟩ := fits_int f
  obtain rfl := fits_nil f
  exact ⟨⟨a, b, c, l, k, hl⟩, rfl⟩
end
/-- So many tasks, by their names. -/
def fullL (m : Nat) : List Tk := (List.range m).map fun i => mkT (i : Nat) 0
theorem fullL_len (m : Nat) : (fullL m).length = m := by simp [fullL]
theorem fullL_put : ∀ m, m < 12 → putE (fullL m) (mkT (m : Nat) 0) = 0 ∧ putL (fullL m) (mkT (m : Nat) 0) = fullL (m + 1) := by decide +kernel
theorem srtD (ts : List Tk) (h : decide (ts.Pairwise fun a b => cmpT a b < 0) = true) : Srt ts := by
  unfold Srt
  exact of_decide_eq_true h
theorem fullL_srt' : ∀ m, m < 13 → decide ((fullL m).Pairwise fun a b => cmpT a b < 0) = true := by decide +kernel
theorem fullL_srt {m : Nat} (h : m < 13) : Srt (fullL m) := srtD _ (fullL_srt' m h)
theorem fullL_over {m : Nat} (h : 12 ≤ m) : putE (fullL 12) (mkT (m : Nat) 0) = 3 ∧ putL (fullL 12) (mkT (m : Nat) 0) = fullL 12 := by
  have e : putE (fullL 12) (mkT (m : Nat) 0) = 3 := by
    unfold putE
    rw [if_neg (bad_mkT (by omega) (by omega)), idxN_none, if_neg (by decide), if_pos (by rw [fullL_len]; omega)]
    intro t ht
    simp only [fullL, List.mem_map, List.mem_range] at ht
    obtain ⟨i, hi, rfl⟩ := ht
    simp only [mkT]; omega
  exact ⟨e, putL_no (by rw [e]; decide)⟩
attribute [local go_sem ↓] build_tk
set_option maxHeartbeats 4000000 in
set_option maxRecDepth 100000 in
theorem agendaFull_one (n0 : Int) (T : Tk) (w : World) :
    Calls Try.prog 7 #[.int .i64 n0, .agg (tc T).toArray] w fun e w' => e = .returned (.bool true) ∧ Below w.heap.size w w' := by
  obtain ⟨bx, hbx⟩ : ∃ bx, bx = w.heap.size := ⟨_, rfl⟩
  obtain ⟨wb, hwb⟩ : ∃ wb, wb = w.alloc (.cells (tc T).toArray 32) := ⟨_, rfl⟩
  have hb1 : Below w.heap.size w wb := by rw [hwb]; exact (Below.refl _ _).alloc (Nat.le_refl _) _
  have ht1 : wb.heap[bx]? = some (.cells (tc T).toArray 32 (0, 0)) := by rw [hwb, hbx]; exact heap_alloc_new w _
  have hlt : bx < wb.heap.size := by rw [hwb, hbx]; simp
  have HB1 := Lib.hid hb1
  have HT1 := Lib.hid ht1
  have HLT := Lib.hid hlt
  clear hb1 ht1 hlt
  go_enter Try.func7, Try.ntmps7
  go_upto_region 1 with fail
  rw [← hwb, ← hbx]
  clear hwb hbx
  by_cases c0 : n0 < 0
  · go_wp2_with fail
    exact bodyPost_ret (v := .bool true) (by simp [results, Try.results7, go_sem]) rfl ⟨rfl, HB1.out⟩
  by_cases c1 : 20 < n0
  · go_wp2_with fail
    exact bodyPost_ret (v := .bool true) (by simp [results, Try.results7, go_sem]) rfl ⟨rfl, HB1.out⟩
  obtain ⟨n, rfl⟩ : ∃ n : Nat, n0 = (n : Int) := ⟨n0.toNat, by omega⟩
  have hn : n ≤ 20 := by omega
  have RB := run_build1
  obtain ⟨g, hg⟩ : ∃ g, g = wb.heap.size := ⟨_, rfl⟩
  go_wp2_with (first
    | (go_at_call 11; with_reducible refine (st_new _).mono ?_; rw [← hg]; rintro e w1 ⟨rfl, hs⟩; have HS := Lib.hid hs; clear hs hg)
    | fail)
  go_loopw [6] (fun i wr => ∃ (k : Nat), k ≤ n ∧ i = .int .i64 k ∧ AgSt wb g (fullL (min k 12)) wr) (fun i _ => n - (intOf i).toNat)
  case atStart => exact ⟨0, by omega, rfl, HS.out⟩
  case round =>
    obtain ⟨k, hk, rfl, hs⟩ := hrel
    clear HS
    have HS := Lib.hid hs
    clear hs
    by_cases hlt : k < n
    · have hlt' : (k : Int) < n := by omega
      obtain ⟨T1, hT1⟩ : ∃ T1, T1 = mkT (k : Nat) 0 := ⟨_, rfl⟩
      have B1 := RB (k : Nat)
      rw [← hT1] at B1
      clear RB
      by_cases h12 : k < 12
      · have h12' : (k : Int) < 12 := by omega
        obtain ⟨e, l⟩ := fullL_put k h12
        have hs := HS.out
        rw [Nat.min_eq_left (by omega)] at hs
        rw [← hT1] at e l
        have HS1 := Lib.hid hs
        have E := Lib.hid e
        have L := Lib.hid l
        have hsr := Lib.hid (fullL_srt (m := k) (by omega))
        clear hs e l HS hT1
        go_wp2_with (first
          | (go_at_call 12; with_reducible refine (st_put T1 HS1.out hsr.out (by rw [fullL_len]; omega)).mono ?_; rw [E.out, L.out]; rintro e w2 ⟨rfl, hs⟩; have HS := Lib.hid hs; clear hs)
          | fail)
        exact ⟨⟨k + 1, by omega, by go_num, by rw [Nat.min_eq_left (by omega)]; exact HS.out⟩, by simp [intOf]; omega⟩
      · have h12' : ¬ (k : Int) < 12 := by omega
        obtain ⟨e, l⟩ := fullL_over (m := k) (by omega)
        have hs := HS.out
        rw [Nat.min_eq_right (by omega)] at hs
        rw [← hT1] at e l
        have HS1 := Lib.hid hs
        have E := Lib.hid e
        have L := Lib.hid l
        have hsr := Lib.hid (fullL_srt (m := 12) (by omega))
        clear hs e l HS hT1
        go_wp2_with (first
          | (go_at_call 12; with_reducible refine (st_put T1 HS1.out hsr.out (by rw [fullL_len]; omega)).mono ?_; rw [E.out, L.out]; rintro e w2 ⟨rfl, hs⟩; have HS := Lib.hid hs; clear hs)
          | fail)
        exact ⟨⟨k + 1, by omega, by go_num, by rw [Nat.min_eq_right (by omega)]; exact HS.out⟩, by simp [intOf]; omega⟩
    · have hkn : k = n := by omega
      subst hkn
      clear RB
      obtain ⟨m, hm⟩ : ∃ m, m = min k 12 := ⟨_, rfl⟩
      rw [← hm] at HS
      have hm12 : m < 13 := by omega
      have hsr := Lib.hid (fullL_srt hm12)
      have hbw := HS.out
      obtain ⟨_, _, hbw⟩ := hbw
      have hbx := (hbw.block bx HLT.out).trans HT1.out
      have cN : wr.cell? ⟨bx, 0, none⟩ = some (.int .i64 T.name) := by rw [World.cell?, hbx]; rfl
      have cD : wr.cell? ⟨bx, 1, none⟩ = some (.int .i64 T.due) := by rw [World.cell?, hbx]; rfl
      have cP : wr.cell? ⟨bx, 2, none⟩ = some (.int .i64 T.prio) := by rw [World.cell?, hbx]; rfl
      have HT2 := Lib.hid (rangeAt_box hbx)
      have hle := fullL_len m
      clear hbx hbw
      have hmi : (m : Int) = min (k : Int) 12 := by omega
      have hc : (k : Int) < 12 ∧ m = k ∨ (k : Int) = 12 ∧ m = 12 ∨ 12 < (k : Int) ∧ m = 12 := by omega
      have hT : T.name < 0 ∨ ¬ T.name < 0 ∧ T.due < 0 ∨ ¬ T.name < 0 ∧ ¬ T.due < 0 ∧ T.prio < 0 ∨ ¬ T.name < 0 ∧ ¬ T.due < 0 ∧ ¬ T.prio < 0 := by omega
      have hbad : (T.name < 0 ∨ T.due < 0 ∨ T.prio < 0) → putE (fullL m) T = 1 := fun h => by unfold putE; rw [if_pos (show BadT T from h)]
      have HBAD := Lib.hid hbad
      clear hbad hm hmi hle hlt hk
      rcases hc with ⟨hc, rfl⟩ | ⟨hc, rfl⟩ | ⟨hc, rfl⟩ <;> rcases hT with hT | ⟨hT0, hT⟩ | ⟨hT0, hT1, hT⟩ | ⟨hT0, hT1, hT⟩
      all_goals (
        go_wp2_with (first
          | (go_at_call 20; with_reducible refine (st_len HS.out).mono ?_; rw [fullL_len]; rintro e w5 ⟨rfl, rfl⟩)
          | (refine wpl_loadT (t := T) _ rfl rfl rfl HT2.out ?_)
          | (go_at_call 12; with_reducible refine (st_put T HS.out hsr.out (by rw [fullL_len]; omega)).mono ?_; rw [HBAD.out (by simp only [hT, true_or, or_true])]; rintro e w2 ⟨rfl, hs⟩; clear HS; have HS := Lib.hid hs; clear hs)
          | (go_at_call 21; refine (law_known _).mono ?_; rintro e wk ⟨rfl, hk⟩; have HK := Lib.hid hk; clear hk)
          | fail)
        exact bodyPost_ret (v := .bool true) (by simp [results, Try.results7, go_sem]) rfl ⟨rfl, (by obtain ⟨_, _, hB⟩ := HS.out; exact HB1.out.trans ((hB.mono HB1.out.size).trans (HK.out.mono (Nat.le_trans HB1.out.size hB.size))))⟩)
end Go.Proofs.Ytbpgiahbnijidaa
