/-
  Which of two tasks comes first.
-/
import Derived.Test.YtbpgiahbnijidaaTsk4
import Derived.Test.YtbpgiahbnijidaaMono
import Derived.Deep.DeepCutAuto
namespace Go.Proofs.Ytbpgiahbnijidaa
open Go.RowKit
set_option linter.unusedVariables false
set_option linter.unusedSimpArgs false

def cmpI (a b : Int) : Int := if a < b then -1 else if b < a then 1 else 0
def cmpT (a b : Tk) : Int := if cmpI a.due b.due ≠ 0 then cmpI a.due b.due else if cmpI a.prio b.prio ≠ 0 then cmpI a.prio b.prio else cmpI a.name b.name
theorem isNaN_int (a : Int) (w : World) : Calls Try.prog 35 #[.int .i64 a] w fun e w' => e = .returned (.bool false) ∧ w' = w := by
  go_enter Try.func35, Try.ntmps35
  go_wp2
  go_ret
  exact ⟨rfl, rfl⟩
theorem cmp_Compare (a b : Int) (w : World) : Calls Try.prog 32 #[.int .i64 a, .int .i64 b] w fun e w' => e = .returned (.int .i64 (cmpI a b)) ∧ w' = w := by
  unfold cmpI
  by_cases h1 : a < b
  · rw [if_pos h1]
    go_enter Try.func32, Try.ntmps32
    go_wp2_with (first | (go_at_call 35; refine (isNaN_int _ _).mono ?_; rintro e w' ⟨rfl, rfl⟩) | fail)
    go_ret
    exact ⟨rfl, rfl⟩
  · rw [if_neg h1]
    by_cases h2 : b < a
    · rw [if_pos h2]
      go_enter Try.func32, Try.ntmps32
      go_wp2_with (first | (go_at_call 35; refine (isNaN_int _ _).mono ?_; rintro e w' ⟨rfl, rfl⟩) | fail)
      go_ret
      exact ⟨rfl, rfl⟩
    · rw [if_neg h2]
      go_enter Try.func32, Try.ntmps32
      go_wp2_with (first | (go_at_call 35; refine (isNaN_int _ _).mono ?_; rintro e w' ⟨rfl, rfl⟩) | fail)
      go_ret
      exact ⟨rfl, rfl⟩
/-- Three numbers in a slice of their own. -/
def Three (w : World) (v : Value) (x y z : Int) : Prop := ∃ b, v = .slice (some ⟨b, 0, none⟩) 3 3 ∧ w.cell? ⟨b, 0, none⟩ = some (.int .i64 x) ∧ w.cell? ⟨b, 1, none⟩ = some (.int .i64 y) ∧ w.cell? ⟨b, 2, none⟩ = some (.int .i64 z)
theorem Three.later {w w' : World} {v : Value} {x y z : Int} (h : Three w v x y z) (hb : Below w.heap.size w w') : Three w' v x y z := by
  obtain ⟨b, h1, h2, h3, h4⟩ := h
  have hl := block_lt_of_cell h2
  exact ⟨b, h1, (hb.cell (p := ⟨b, 0, none⟩) hl).trans h2, (hb.cell (p := ⟨b, 1, none⟩) hl).trans h3, (hb.cell (p := ⟨b, 2, none⟩) hl).trans h4⟩
theorem Three.new (w : World) (t : TypeId) (x y z : Int) : Three (w.alloc (.cells #[.int .i64 x, .int .i64 y, .int .i64 z] t)) (.slice (some ⟨w.heap.size, 0, none⟩) 3 3) x y z :=
  ⟨_, rfl, by rw [World.cell?, heap_alloc_new w]; rfl, by rw [World.cell?, heap_alloc_new w]; rfl, by rw [World.cell?, heap_alloc_new w]; rfl⟩
def orI (x y z : Int) : Int := if x ≠ 0 then x else if y ≠ 0 then y else z
set_option maxHeartbeats 4000000 in
theorem cmp_Or (v : Value) (x y z : Int) (w : World) (h : Three w v x y z) : Calls Try.prog 31 #[v] w fun e w' => e = .returned (.int .i64 (orI x y z)) ∧ w' = w := by
  obtain ⟨b, rfl, h0, h1, h2⟩ := h
  go_enter Try.func31, Try.ntmps31
  go_wp2
  go_loopw [8] (fun i wr => ∃ n : Nat, n ≤ 3 ∧ i = .int .i64 n ∧ wr = w ∧ (1 ≤ n → x = 0) ∧ (2 ≤ n → y = 0) ∧ (3 ≤ n → z = 0)) (fun i _ => 3 - (intOf i).toNat)
  case atStart => exact ⟨0, by omega, rfl, rfl, by omega, by omega, by omega⟩
  case round =>
    obtain ⟨n, hn, rfl, rfl, q1, q2, q3⟩ := hrel
    have hc : n = 0 ∨ n = 1 ∨ n = 2 ∨ n = 3 := by omega
    rcases hc with rfl | rfl | rfl | rfl
    · clear q1 q2 q3
      rw [show ((0 : Nat) : Int) = 0 from rfl]
      by_cases e0 : x = 0
      · subst e0
        go_wp2
        exact ⟨⟨1, by omega, rfl, trivial, fun _ => trivial, by omega, by omega⟩, by simp [intOf]⟩
      · go_wp2
        go_ret
        exact ⟨by simp [orI, e0], rfl⟩
    · have := q1 (by omega)
      subst this
      clear q1 q2 q3
      rw [show ((1 : Nat) : Int) = 1 from rfl]
      by_cases e0 : y = 0
      · subst e0
        go_wp2
        exact ⟨⟨2, by omega, rfl, trivial, fun _ => trivial, fun _ => trivial, by omega⟩, by simp [intOf]⟩
      · go_wp2
        go_ret
        exact ⟨by simp [orI, e0], rfl⟩
    · have := q1 (by omega)
      subst this
      have := q2 (by omega)
      subst this
      clear q1 q2 q3
      rw [show ((2 : Nat) : Int) = 2 from rfl]
      by_cases e0 : z = 0
      · subst e0
        go_wp2
        exact ⟨⟨3, by omega, rfl, trivial, fun _ => trivial, fun _ => trivial, fun _ => trivial⟩, by simp [intOf]⟩
      · go_wp2
        go_ret
        exact ⟨by simp [orI, e0], rfl⟩
    · have := q1 (by omega)
      subst this
      have := q2 (by omega)
      subst this
      have := q3 (by omega)
      subst this
      clear q1 q2 q3
      rw [show ((3 : Nat) : Int) = 3 from rfl]
      go_wp2
      go_ret
      exact ⟨by simp [orI], rfl⟩
theorem cmpT_or (a b : Tk) : cmpT a b = orI (cmpI a.due b.due) (cmpI a.prio b.prio) (cmpI a.name b.name) := rfl
set_option maxHeartbeats 4000000 in
set_option maxRecDepth 100000 in
theorem agenda_compare (a b : Tk) (w : World) : Calls Try.prog 25 #[.agg (tc a).toArray, .agg (tc b).toArray] w fun e w' => e = .returned (.int .i64 (cmpT a b)) ∧ Below w.heap.size w w' := by
  rw [cmpT_or]
  obtain ⟨x, hx⟩ : ∃ x, x = cmpI a.due b.due := ⟨_, rfl⟩
  obtain ⟨y, hy⟩ : ∃ y, y = cmpI a.prio b.prio := ⟨_, rfl⟩
  obtain ⟨z, hz⟩ : ∃ z, z = cmpI a.name b.name := ⟨_, rfl⟩
  rw [← hx, ← hy, ← hz]
  have CX := Lib.hid (cmp_Compare a.due b.due)
  have CY := Lib.hid (cmp_Compare a.prio b.prio)
  have CZ := Lib.hid (cmp_Compare a.name b.name)
  rw [← hx] at CX
  rw [← hy] at CY
  rw [← hz] at CZ
  clear hx hy hz
  go_enter Try.func25, Try.ntmps25
  obtain ⟨wz, hwz⟩ : ∃ wz, wz = (w.alloc (.cells (tc a).toArray 32)).alloc (.cells (tc b).toArray 32) := ⟨_, rfl⟩
  go_upto_region 1 with fail
  rw [← hwz]
  have hz0 : wz.heap[w.heap.size]? = some (.cells (tc a).toArray 32 (0, 0)) := by rw [hwz]; exact (Below.heap_alloc _ _ _ (by simp)).trans (heap_alloc_new w _)
  have hz1 : wz.heap[w.heap.size + 1]? = some (.cells (tc b).toArray 32 (0, 0)) := by
    have := heap_alloc_new (w.alloc (.cells (tc a).toArray 32)) (.cells (tc b).toArray 32)
    rw [hwz]
    simpa using this
  have hzs : wz.heap.size = w.heap.size + 2 := by rw [hwz]; simp
  have hzB : Below w.heap.size w wz := by rw [hwz]; exact ((Below.refl _ _).alloc (Nat.le_refl _) _).alloc (by simp) _
  have A0 : wz.cell? ⟨w.heap.size, 0, none⟩ = some (.int .i64 a.name) := by rw [World.cell?, hz0]; rfl
  have A1 : wz.cell? ⟨w.heap.size, 1, none⟩ = some (.int .i64 a.due) := by rw [World.cell?, hz0]; rfl
  have A2 : wz.cell? ⟨w.heap.size, 2, none⟩ = some (.int .i64 a.prio) := by rw [World.cell?, hz0]; rfl
  have B0 : wz.cell? ⟨w.heap.size + 1, 0, none⟩ = some (.int .i64 b.name) := by rw [World.cell?, hz1]; rfl
  have B1 : wz.cell? ⟨w.heap.size + 1, 1, none⟩ = some (.int .i64 b.due) := by rw [World.cell?, hz1]; rfl
  have B2 : wz.cell? ⟨w.heap.size + 1, 2, none⟩ = some (.int .i64 b.prio) := by rw [World.cell?, hz1]; rfl
  have LA : ∀ k v w', wz.cell? ⟨w.heap.size, k, none⟩ = some v → Later wz.drew w' → w'.cell? ⟨w.heap.size, k, none⟩ = some v := fun k v w' h hL => (hL.cell (p := ⟨w.heap.size, k, none⟩) (by show w.heap.size < wz.heap.size; omega)).trans h
  have LB : ∀ k v w', wz.cell? ⟨w.heap.size + 1, k, none⟩ = some v → Later wz.drew w' → w'.cell? ⟨w.heap.size + 1, k, none⟩ = some v := fun k v w' h hL => (hL.cell (p := ⟨w.heap.size + 1, k, none⟩) (by show w.heap.size + 1 < wz.heap.size; omega)).trans h
  have HZB := Lib.hid hzB
  have LA0 := fun w' hL => LA 0 _ w' A0 hL
  have LA1 := fun w' hL => LA 1 _ w' A1 hL
  have LA2 := fun w' hL => LA 2 _ w' A2 hL
  have LB0 := fun w' hL => LB 0 _ w' B0 hL
  have LB1 := fun w' hL => LB 1 _ w' B1 hL
  have LB2 := fun w' hL => LB 2 _ w' B2 hL
  clear hz0 hz1 hzB hwz A0 A1 A2 B0 B1 B2 LA LB
  refine wp_region_plan_lit (L := Later) 22 [.pure, .pure, .pure, .pure, .pin (.int .i64 x), .pure, .pure, .pure, .pure, .pin (.int .i64 y), .pure, .pure, .pure, .pure, .pin (.int .i64 z), .any (fun w v => Three w v x y z), .pin (.int .i64 (orI x y z)), .pure] (by kernel_rfl) (by kernel_rfl) rfl (fun w => Below.refl _ w) Later.tr ⟨fun w w' v hL hR => Three.later hR hL, trivial⟩ ?_
  iterate 4
    first
    | (refine wm_skip (by rfl) (fun K hK => ?_))
    | (refine wm_move (by rfl) (.inl rfl) (fun K hK => ?_))
    | (refine wm_move (by rfl) (.inr rfl) (fun K hK => ?_))
    | (refine wm_run (by rfl) (fun K hK => ?_)
       apply Exists.intro
       apply And.intro
       · intro w hL
         simp [go_sem, (LA1 w hL), (LB1 w hL)]
         rfl)
    simp only [Act.put, Act.eval, List.setIfInBounds_toArray, List.set_cons_succ, List.set_cons_zero]
    refine hK _ ?_
    clear hK K
  refine wm_pin (fun K hK => ⟨fun w' hL hk => ?_, ?_⟩)
  · go_wp2_with (first | (go_at_call 32; refine (CX.out _).mono ?_; rintro e wn ⟨rfl, rfl⟩) | fail)
    exact qr_pin rfl rfl rfl (Below.refl _ _)
  simp only [Act.put, Act.eval, List.setIfInBounds_toArray, List.set_cons_succ, List.set_cons_zero]
  refine hK _ ?_
  clear hK K
  iterate 4
    first
    | (refine wm_skip (by rfl) (fun K hK => ?_))
    | (refine wm_move (by rfl) (.inl rfl) (fun K hK => ?_))
    | (refine wm_move (by rfl) (.inr rfl) (fun K hK => ?_))
    | (refine wm_run (by rfl) (fun K hK => ?_)
       apply Exists.intro
       apply And.intro
       · intro w hL
         simp [go_sem, (LA2 w hL), (LB2 w hL)]
         rfl)
    simp only [Act.put, Act.eval, List.setIfInBounds_toArray, List.set_cons_succ, List.set_cons_zero]
    refine hK _ ?_
    clear hK K
  refine wm_pin (fun K hK => ⟨fun w' hL hk => ?_, ?_⟩)
  · go_wp2_with (first | (go_at_call 32; refine (CY.out _).mono ?_; rintro e wn ⟨rfl, rfl⟩) | fail)
    exact qr_pin rfl rfl rfl (Below.refl _ _)
  simp only [Act.put, Act.eval, List.setIfInBounds_toArray, List.set_cons_succ, List.set_cons_zero]
  refine hK _ ?_
  clear hK K
  iterate 4
    first
    | (refine wm_skip (by rfl) (fun K hK => ?_))
    | (refine wm_move (by rfl) (.inl rfl) (fun K hK => ?_))
    | (refine wm_move (by rfl) (.inr rfl) (fun K hK => ?_))
    | (refine wm_run (by rfl) (fun K hK => ?_)
       apply Exists.intro
       apply And.intro
       · intro w hL
         simp [go_sem, (LA0 w hL), (LB0 w hL)]
         rfl)
    simp only [Act.put, Act.eval, List.setIfInBounds_toArray, List.set_cons_succ, List.set_cons_zero]
    refine hK _ ?_
    clear hK K
  refine wm_pin (fun K hK => ⟨fun w' hL hk => ?_, ?_⟩)
  · go_wp2_with (first | (go_at_call 32; refine (CZ.out _).mono ?_; rintro e wn ⟨rfl, rfl⟩) | fail)
    exact qr_pin rfl rfl rfl (Below.refl _ _)
  simp only [Act.put, Act.eval, List.setIfInBounds_toArray, List.set_cons_succ, List.set_cons_zero]
  refine hK _ ?_
  clear hK K
  refine wm_any (fun K hK => ⟨fun w' hL hk => ?_, fun v20 => ?_⟩)
  · go_wp2_with (fail)
    exact qr_any rfl rfl rfl (Below.alloc (Below.refl _ _) (Nat.le_refl _) _) (Three.new _ _ _ _ _)
  simp only [Act.put, Act.eval, List.setIfInBounds_toArray, List.set_cons_succ, List.set_cons_zero]
  refine hK _ ?_
  clear hK K
  refine wm_pin (fun K hK => ⟨fun w' hL hk => ?_, ?_⟩)
  · have h20 : Three w' v20 x y z := hk.get 20 15 (by kernel_rfl) rfl
    go_wp2_with (first | (go_at_call 31; refine (cmp_Or _ _ _ _ _ h20).mono ?_; rintro e wn ⟨rfl, rfl⟩) | fail)
    exact qr_pin rfl rfl rfl (Below.refl _ _)
  simp only [Act.put, Act.eval, List.setIfInBounds_toArray, List.set_cons_succ, List.set_cons_zero]
  refine hK _ ?_
  clear hK K
  iterate 1
    first
    | (refine wm_skip (by rfl) (fun K hK => ?_))
    | (refine wm_move (by rfl) (.inl rfl) (fun K hK => ?_))
    | (refine wm_move (by rfl) (.inr rfl) (fun K hK => ?_))
    | (refine wm_run (by rfl) (fun K hK => ?_)
       apply Exists.intro
       apply And.intro
       · intro w hL
         simp [go_sem]
         rfl)
    simp only [Act.put, Act.eval, List.setIfInBounds_toArray, List.set_cons_succ, List.set_cons_zero]
    refine hK _ ?_
    clear hK K
  refine wm_end (fun w' hL hk => ?_)
  clear hk
  go_wp2
  go_ret
  exact ⟨rfl, HZB.out.trans ((Below.refl _ _).drew.trans (hL.mono (by show w.heap.size ≤ wz.heap.size; omega)))⟩
end Go.Proofs.Ytbpgiahbnijidaa
