/-
  slices.BinarySearchFunc of tasks by agenda.compare.
-/
import Derived.Test.YtbpgiahbnijidaaTsk5
namespace Go.Proofs.Ytbpgiahbnijidaa
open Go.RowKit
set_option linter.unusedVariables false
set_option linter.unusedSimpArgs false

/-- Where a search ends. -/
def Found (ts : List Tk) (t : Tk) (i : Nat) : Prop := i ≤ ts.length ∧ (∀ h : 0 < i ∧ i ≤ ts.length, cmpT (ts[i - 1]'(by omega)) t < 0) ∧ ∀ h : i < ts.length, 0 ≤ cmpT ts[i] t
/-- While it goes on. -/
structure Mid (ts : List Tk) (t : Tk) (i j : Nat) : Prop where
  le : i ≤ j
  top : j ≤ ts.length
  lo : ∀ h : 0 < i ∧ i ≤ ts.length, cmpT (ts[i - 1]'(by omega)) t < 0
  hi : ∀ h : j < ts.length, 0 ≤ cmpT ts[j] t
/-- What it has at hand. -/
structure SH (v : Value) (ts : List Tk) (t : Tk) (bx : Nat) (w0 w : World) : Prop where
  rd : RdT w v ts
  box : w.heap[bx]? = some (.cells (tc t).toArray 32 (0, 0))
  lt : bx < w.heap.size
  old : Below w0.heap.size w0 w
theorem SH.on {v : Value} {ts : List Tk} {t : Tk} {bx : Nat} {w0 w w' : World} (h : SH v ts t bx w0 w) (hb : Below w.heap.size w w') : SH v ts t bx w0 w' :=
  ⟨h.rd.below hb, (hb.block bx h.lt).trans h.box, Nat.lt_of_lt_of_le h.lt hb.size, h.old.trans (hb.mono h.old.size)⟩
theorem rangeAt_box {w : World} {b : Nat} {t : Tk} (h : w.heap[b]? = some (.cells (tc t).toArray 32 (0, 0))) : w.rangeAt b 0 (tc t) := fun j u hj => by
  rw [Nat.zero_add, World.cell?, h]; simpa using hj

set_option maxHeartbeats 8000000 in
set_option maxRecDepth 100000 in
theorem search_ts (v : Value) (ts : List Tk) (t : Tk) (w : World) (hr : RdT w v ts) (hl : ts.length ≤ 900) :
    Calls Try.prog 24 #[v, .agg (tc t).toArray, .func (.func 25) #[] #[]] w fun e w' => ∃ i b, e = .returned (.tuple #[.int .i64 (i : Nat), .bool b]) ∧ Found ts t i ∧ Below w.heap.size w w' := by
  obtain ⟨ao, cap, rfl⟩ := hr.lenOf
  obtain ⟨n, hn⟩ : ∃ n, n = ts.length := ⟨_, rfl⟩
  obtain ⟨wz, hwz⟩ : ∃ wz, wz = w.alloc (.cells (tc t).toArray 32) := ⟨_, rfl⟩
  have hS : SH (.slice ao n cap) ts t w.heap.size w wz := by
    rw [hn, hwz]
    exact ⟨hr.below ((Below.refl _ _).alloc (Nat.le_refl _) _), heap_alloc_new w _, by simp, (Below.refl _ _).alloc (Nat.le_refl _) _⟩
  rw [← hn]
  obtain ⟨bx, hbx⟩ : ∃ bx, bx = w.heap.size := ⟨_, rfl⟩
  rw [← hbx] at hS
  have HS := Lib.hid hS
  have HN := Lib.hid hn
  have hn9 : (n : Int) ≤ 900 := by omega
  clear hS hr hl hn
  go_enter Try.func24, Try.ntmps24
  go_upto_region 3 with fail
  rw [← hwz, ← hbx]
  clear hwz
  go_loopw [9, 10] (fun a b wr => ∃ i j : Nat, a = .int .i64 i ∧ b = .int .i64 j ∧ Mid ts t i j ∧ SH (.slice ao n cap) ts t bx w wr) (fun a b _ => (intOf b).toNat - (intOf a).toNat)
  case atStart => exact ⟨0, n, rfl, rfl, ⟨by omega, by rw [HN.out]; omega, by omega, fun h => by have := HN.out; omega⟩, HS.out⟩
  case round =>
    obtain ⟨i, j, rfl, rfl, hm, hs⟩ := hrel
    have hji := hm.le
    have hjn := hm.top
    rw [← HN.out] at hjn
    by_cases hlt : i < j
    · have hlt' : (i : Int) < j := by omega
      obtain ⟨h, hh⟩ : ∃ h, h = (i + j) / 2 := ⟨_, rfl⟩
      obtain ⟨s, hs2⟩ : ∃ s, s = i + j := ⟨_, rfl⟩
      have hhn : h < n := by omega
      have hhn' : (h : Int) < n := by omega
      have hhl : h < ts.length := by rw [← HN.out]; exact hhn
      have hih : i ≤ h := by omega
      have hhj : h < j := by omega
      have D1 : (s : Int) / 2 = (h : Int) := by omega
      have D2 : (s : Int) % 18446744073709551616 = (s : Int) := by omega
      obtain ⟨u, hu⟩ : ∃ u, u = ts[h] := ⟨_, rfl⟩
      obtain ⟨rb, off, rfl, hrng, hrb⟩ := hs.rd.at hhl
      rw [← hu] at hrng
      obtain ⟨c, hcc⟩ : ∃ c, c = cmpT u t := ⟨_, rfl⟩
      have hmid1 : c < 0 → Mid ts t (h + 1) j := fun h0 => ⟨by omega, by rw [← HN.out]; omega, fun hx => by simp only [Nat.add_sub_cancel]; rw [← hu, ← hcc]; exact h0, hm.hi⟩
      have hmid2 : ¬ c < 0 → Mid ts t i h := fun h0 => ⟨hih, by omega, hm.lo, fun hx => by rw [← hu, ← hcc]; omega⟩
      have HM1 := Lib.hid hmid1
      have HM2 := Lib.hid hmid2
      have HSR := Lib.hid hs
      have HR := Lib.hid hrng
      have HCC := Lib.hid hcc
      have hW : IntKind.i64.wrap ((i : Int) + (j : Int)) = (s : Int) := by rw [IntWalk.i64_in _ (by omega)]; omega
      clear hm hs hrng hmid1 hmid2 hcc hu hs2 hh hhl
      go_upto_region 5 with fail
      refine wp_region_plan_lit (L := Later) 49 [.pure, .pure, .pure, .pure, .pin (.agg (tc u).toArray), .pin (.agg (tc t).toArray), .pin (.int .i64 c), .pure] (by kernel_rfl) (by kernel_rfl) rfl (fun w => Below.refl _ w) Later.tr trivial ?_
      iterate 4
        first
        | (refine wm_skip (by rfl) (fun K hK => ?_))
        | (refine wm_move (by rfl) (.inl rfl) (fun K hK => ?_))
        | (refine wm_move (by rfl) (.inr rfl) (fun K hK => ?_))
        | (refine wm_run (by rfl) (fun K hK => ?_)
           apply Exists.intro
           apply And.intro
           · intro w hL
             simp [go_sem, hhn]
             rfl)
        simp only [Act.put, Act.eval, List.setIfInBounds_toArray, List.set_cons_succ, List.set_cons_zero]
        refine hK _ ?_
        clear hK K
      refine wm_pin (fun K hK => ⟨fun w' hL hk => ?_, ?_⟩)
      · have hs' := HSR.out.on ((Below.refl _ wr).drew.trans (hL.mono (Nat.le_refl _)))
        have hr' := rangeAt_of_block HR.out (hL.block rb hrb)
        go_wp2_with (first | (refine wpl_loadT _ rfl rfl rfl hr' ?_) | fail)
        exact qr_pin rfl rfl rfl (Below.refl _ _)
      simp only [Act.put, Act.eval, List.setIfInBounds_toArray, List.set_cons_succ, List.set_cons_zero]
      refine hK _ ?_
      clear hK K
      refine wm_pin (fun K hK => ⟨fun w' hL hk => ?_, ?_⟩)
      · have hs' := HSR.out.on ((Below.refl _ wr).drew.trans (hL.mono (Nat.le_refl _)))
        go_wp2_with (first | (refine wpl_loadT _ rfl rfl rfl (rangeAt_box hs'.box) ?_) | fail)
        exact qr_pin rfl rfl rfl (Below.refl _ _)
      simp only [Act.put, Act.eval, List.setIfInBounds_toArray, List.set_cons_succ, List.set_cons_zero]
      refine hK _ ?_
      clear hK K
      refine wm_pin (fun K hK => ⟨fun w' hL hk => ?_, ?_⟩)
      · go_wp2_with (first | (go_at_call 25; refine (agenda_compare u t _).mono ?_; rw [← HCC.out]; rintro e wn ⟨rfl, hbn⟩) | fail)
        exact qr_pin rfl rfl rfl hbn
      simp only [Act.put, Act.eval, List.setIfInBounds_toArray, List.set_cons_succ, List.set_cons_zero]
      refine hK _ ?_
      clear hK K
      iterate 1
        first
        | (refine wm_skip (by rfl) (fun K hK => ?_))
        | (refine wm_move (by rfl) (.inl rfl) (fun K hK => ?_))
        | (refine wm_move (by rfl) (.inr rfl) (fun K hK => ?_))
        | (refine wm_run (by rfl) (fun K hK => ?_)
           apply Exists.intro
           apply And.intro
           · intro w hL
             simp [go_sem]
             rfl)
        simp only [Act.put, Act.eval, List.setIfInBounds_toArray, List.set_cons_succ, List.set_cons_zero]
        refine hK _ ?_
        clear hK K
      refine wm_end (fun w' hL hk => ?_)
      clear hk
      have hs1 := Lib.hid (HSR.out.on ((Below.refl _ wr).drew.trans (hL.mono (Nat.le_refl _))))
      by_cases h0 : c < 0
      · have hm1 := Lib.hid (HM1.out h0)
        go_wp2
        exact ⟨⟨h + 1, j, by go_num, rfl, hm1.out, hs1.out⟩, by simp [intOf]; omega⟩
      · have hm1 := Lib.hid (HM2.out h0)
        go_wp2
        exact ⟨⟨i, h, rfl, rfl, hm1.out, hs1.out⟩, by simp [intOf]; omega⟩
    · have hij : i = j := by omega
      subst hij
      have hF : Found ts t i := ⟨by have := hm.top; omega, hm.lo, hm.hi⟩
      have HF := Lib.hid hF
      have HSR := Lib.hid hs
      clear hF hm hlt
      by_cases hin : i < n
      · have hin' : (i : Int) < n := by omega
        have hhl : i < ts.length := by rw [← HN.out]; exact hin
        obtain ⟨u, hu⟩ : ∃ u, u = ts[i] := ⟨_, rfl⟩
        obtain ⟨rb, off, rfl, hrng, hrb⟩ := hs.rd.at hhl
        rw [← hu] at hrng
        obtain ⟨c, hcc⟩ : ∃ c, c = cmpT u t := ⟨_, rfl⟩
        have HR := Lib.hid hrng
        have HCC := Lib.hid hcc
        clear hs hrng hcc hu hhl hji
        go_upto_region 8 with fail
        refine wp_region_plan_lit (L := Later) 49 [.pure, .pure, .pure, .pure, .pure, .pure, .pure, .pure, .pure, .pin (.agg (tc u).toArray), .pin (.agg (tc t).toArray), .pin (.int .i64 c), .pure, .pure, .pure, .pure] (by kernel_rfl) (by kernel_rfl) rfl (fun w => Below.refl _ w) Later.tr trivial ?_
        iterate 9
          first
          | (refine wm_skip (by rfl) (fun K hK => ?_))
          | (refine wm_move (by rfl) (.inl rfl) (fun K hK => ?_))
          | (refine wm_move (by rfl) (.inr rfl) (fun K hK => ?_))
          | (refine wm_run (by rfl) (fun K hK => ?_)
             apply Exists.intro
             apply And.intro
             · intro w hL
               simp [go_sem, hin]
               rfl)
          simp only [Act.put, Act.eval, List.setIfInBounds_toArray, List.set_cons_succ, List.set_cons_zero]
          refine hK _ ?_
          clear hK K
        refine wm_pin (fun K hK => ⟨fun w' hL hk => ?_, ?_⟩)
        · have hs' := HSR.out.on ((Below.refl _ wr).drew.trans (hL.mono (Nat.le_refl _)))
          have hr' := rangeAt_of_block HR.out (hL.block rb hrb)
          go_wp2_with (first | (refine wpl_loadT_g _ (by rfl) rfl rfl hr' ?_) | fail)
          exact qr_pin rfl rfl rfl (Below.refl _ _)
        simp only [Act.put, Act.eval, List.setIfInBounds_toArray, List.set_cons_succ, List.set_cons_zero]
        refine hK _ ?_
        clear hK K
        refine wm_pin (fun K hK => ⟨fun w' hL hk => ?_, ?_⟩)
        · have hs' := HSR.out.on ((Below.refl _ wr).drew.trans (hL.mono (Nat.le_refl _)))
          go_wp2_with (first | (refine wpl_loadT_g _ (by rfl) rfl rfl (rangeAt_box hs'.box) ?_) | fail)
          exact qr_pin rfl rfl rfl (Below.refl _ _)
        simp only [Act.put, Act.eval, List.setIfInBounds_toArray, List.set_cons_succ, List.set_cons_zero]
        refine hK _ ?_
        clear hK K
        refine wm_pin (fun K hK => ⟨fun w' hL hk => ?_, ?_⟩)
        · go_wp2_with (first | (go_at_call 25; refine (agenda_compare u t _).mono ?_; rw [← HCC.out]; rintro e wn ⟨rfl, hbn⟩) | fail)
          exact qr_pin rfl rfl rfl hbn
        simp only [Act.put, Act.eval, List.setIfInBounds_toArray, List.set_cons_succ, List.set_cons_zero]
        refine hK _ ?_
        clear hK K
        iterate 4
          first
          | (refine wm_skip (by rfl) (fun K hK => ?_))
          | (refine wm_move (by rfl) (.inl rfl) (fun K hK => ?_))
          | (refine wm_move (by rfl) (.inr rfl) (fun K hK => ?_))
          | (refine wm_run (by rfl) (fun K hK => ?_)
             apply Exists.intro
             apply And.intro
             · intro w hL
               simp [go_sem]
               rfl)
          simp only [Act.put, Act.eval, List.setIfInBounds_toArray, List.set_cons_succ, List.set_cons_zero]
          refine hK _ ?_
          clear hK K
        refine wm_end (fun w' hL hk => ?_)
        clear hk
        have hs1 := Lib.hid (HSR.out.on ((Below.refl _ wr).drew.trans (hL.mono (Nat.le_refl _))))
        go_wp2
        refine bodyPost_ret (v := .tuple #[.int .i64 (i : Nat), .bool (c == 0)]) (by simp [results, Try.results24, go_sem]) rfl ⟨i, _, rfl, HF.out, hs1.out.old⟩
      · have hin2 : ((i : Int) < (n : Int)) = False := by simp; omega
        clear hs hji hin
        go_upto_region 8 with fail
        refine wp_region_plan_lit (L := Later) 49 [.pure, .pure, .pure, .pure, .pure, .pure, .pure, .pure, .pure, .pure, .pure, .pure, .pure, .pure, .pure, .pure] (by kernel_rfl) (by kernel_rfl) rfl (fun w => Below.refl _ w) Later.tr trivial ?_
        iterate 16
          first
          | (refine wm_skip (by rfl) (fun K hK => ?_))
          | (refine wm_move (by rfl) (.inl rfl) (fun K hK => ?_))
          | (refine wm_move (by rfl) (.inr rfl) (fun K hK => ?_))
          | (refine wm_run (by rfl) (fun K hK => ?_)
             apply Exists.intro
             apply And.intro
             · intro w hL
               simp [go_sem, hin2]
               rfl)
          simp only [Act.put, Act.eval, List.setIfInBounds_toArray, List.set_cons_succ, List.set_cons_zero]
          refine hK _ ?_
          clear hK K
        refine wm_end (fun w' hL hk => ?_)
        clear hk
        have hs1 := Lib.hid (HSR.out.on ((Below.refl _ wr).drew.trans (hL.mono (Nat.le_refl _))))
        go_wp2
        refine bodyPost_ret (v := .tuple #[.int .i64 (i : Nat), .bool false]) (by simp [results, Try.results24, go_sem]) rfl ⟨i, _, rfl, HF.out, hs1.out.old⟩
end Go.Proofs.Ytbpgiahbnijidaa
