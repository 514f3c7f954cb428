/-
  'k, v = append(k, x), append(v, y)' in a round of a loop: a region that draws its order.
-/
import Derived.Test.YtlfngdfbimcjhaaMid
import Derived.Test.YtlfngdfbimcjhaaTwo
import Derived.Shelf.Abstract
import Derived.Shelf.RegionOpen
namespace Go.Proofs.Ytlfngdfbimcjhaa
open Go.RowKit Go.Shelf
attribute [local go_sem] Oper.semAt_some
attribute [local go_sem ↓] append_hide
set_option linter.unusedVariables false
set_option linter.unusedSimpArgs false

def top0 (p : String) : Oper := { dst := some 14, op := .load 40 (.tmp 5), type := 40, pos := p, after := #[], guard := none }
def top1 (p : String) : Oper := { dst := some 15, op := .move (.tmp 7), type := 3, pos := p, after := #[], guard := none }
def top2 (p : String) : Oper := { dst := some 16, op := .buildSlice 40 1 #[(0, .tmp 15)], type := 40, pos := p, after := #[{ on := 1, ground := .data }], guard := none }
def top3 (p : String) : Oper := { dst := some 17, op := .call { callee := .builtin .append, args := #[.tmp 14, .tmp 16], argTypes := #[40, 40] }, type := 40, pos := p, after := #[{ on := 0, ground := .data }, { on := 2, ground := .data }], guard := none }
def top4 (p : String) : Oper := { dst := some 18, op := .load 40 (.tmp 6), type := 40, pos := p, after := #[], guard := none }
def top5 (p : String) : Oper := { dst := some 19, op := .move (.tmp 8), type := 3, pos := p, after := #[], guard := none }
def top6 (p : String) : Oper := { dst := some 20, op := .buildSlice 40 1 #[(0, .tmp 19)], type := 40, pos := p, after := #[{ on := 5, ground := .data }], guard := none }
def top7 (p : String) : Oper := { dst := some 21, op := .call { callee := .builtin .append, args := #[.tmp 18, .tmp 20], argTypes := #[40, 40] }, type := 40, pos := p, after := #[{ on := 4, ground := .data }, { on := 6, ground := .data }, { on := 3, ground := .chain }], guard := none }
def top8 (p : String) : Oper := { dst := none, op := .store 40 (.tmp 5) (.tmp 17), type := 0, pos := p, after := #[{ on := 3, ground := .data }, { on := 7, ground := .chain }, { on := 0, ground := .phase }, { on := 1, ground := .phase }, { on := 2, ground := .phase }, { on := 3, ground := .phase }, { on := 4, ground := .textOnly .inlinedCapture }, { on := 5, ground := .textOnly .lateStores }, { on := 6, ground := .textOnly .inlinedCapture }, { on := 7, ground := .textOnly .lateStoresUnsure }], guard := none }
def top9 (p : String) : Oper := { dst := none, op := .store 40 (.tmp 6) (.tmp 21), type := 0, pos := p, after := #[{ on := 7, ground := .data }, { on := 8, ground := .chain }, { on := 0, ground := .phase }, { on := 1, ground := .phase }, { on := 2, ground := .phase }, { on := 3, ground := .phase }, { on := 4, ground := .phase }, { on := 5, ground := .phase }, { on := 6, ground := .phase }, { on := 7, ground := .phase }, { on := 8, ground := .phase }], guard := none }
def toldOps (p : String) : Array Oper := #[top0 p, top1 p, top2 p, top3 p, top4 p, top5 p, top6 p, top7 p, top8 p, top9 p]

theorem cell_kept {w w' : World} {b : Nat} {v : Value} (h : w.cell? ⟨b, 0, none⟩ = some v) (hk : w'.heap[b]? = w.heap[b]?) : w'.cell? ⟨b, 0, none⟩ = some v := (World.cell?_of_block (a := ⟨b, 0, none⟩) hk).trans h

set_option maxHeartbeats 4000000 in
set_option maxRecDepth 100000 in
theorem two_app (p : String) {F : Fence} {n id : Nat} {Q : Exit → Act → World → Prop} {K : Act → World → Prop} (hfn : ∀ f, F.fn f) (t0 t1 t2 t3 t4 t9 t10 t11 t12 t13 : Value) {W : World} {N0 kb vb : Nat} {u v : Value} {xs ys : List Int} {x y : Int}
    (hm0 : Mid W N0 kb vb u v u v xs ys W.drew) (hk : kb < N0) (hv : vb < N0) (hne : kb ≠ vb) (hN : N0 ≤ W.heap.size) (hl1 : xs.length ≤ 100000) (hl2 : ys.length ≤ 100000)
    (hK : ∀ p q u' v' w', Boxed w' kb 40 u' ∧ Boxed w' vb 40 v' ∧ OwnN N0 u' (xs ++ [x]) w' ∧ OwnN N0 v' (ys ++ [y]) w' ∧ (∀ k, u'.ownBlock = some k → v'.ownBlock ≠ some k) ∧ (∀ k, u'.ownBlock = some k → u.ownBlock = some k ∨ W.heap.size ≤ k) ∧ (∀ k, v'.ownBlock = some k → v.ownBlock = some k ∨ W.heap.size ≤ k) ∧ Only (fun k => k = kb ∨ k = vb) (fun k => u.ownBlock = some k ∨ v.ownBlock = some k) W w' → K { tmps := #[t0, t1, t2, t3, t4, .pointer (some ⟨kb, 0, none⟩), .pointer (some ⟨vb, 0, none⟩), .int .i64 x, .int .i64 y, t9, t10, t11, t12, t13, u, .int .i64 x, p, u', v, .int .i64 y, q, v', undef, undef, undef, undef, undef], defers := [] } w') :
    (Code.region id (toldOps p) true).wpIn F n Try.prog (Exit.then K Q) { tmps := #[t0, t1, t2, t3, t4, .pointer (some ⟨kb, 0, none⟩), .pointer (some ⟨vb, 0, none⟩), .int .i64 x, .int .i64 y, t9, t10, t11, t12, t13, undef, undef, undef, undef, undef, undef, undef, undef, undef, undef, undef, undef, undef], defers := [] } W := by
  have mixed : Try.prog.follows .mixedOrders = true := by kernel_rfl
  obtain ⟨R, hR⟩ : ∃ R : Act → World → Prop, R = fun a w' => ∃ p q u' v', a = { tmps := #[t0, t1, t2, t3, t4, .pointer (some ⟨kb, 0, none⟩), .pointer (some ⟨vb, 0, none⟩), .int .i64 x, .int .i64 y, t9, t10, t11, t12, t13, u, .int .i64 x, p, u', v, .int .i64 y, q, v', undef, undef, undef, undef, undef], defers := [] } ∧ (Boxed w' kb 40 u' ∧ Boxed w' vb 40 v' ∧ OwnN N0 u' (xs ++ [x]) w' ∧ OwnN N0 v' (ys ++ [y]) w' ∧ (∀ k, u'.ownBlock = some k → v'.ownBlock ≠ some k) ∧ (∀ k, u'.ownBlock = some k → u.ownBlock = some k ∨ W.heap.size ≤ k) ∧ (∀ k, v'.ownBlock = some k → v.ownBlock = some k ∨ W.heap.size ≤ k) ∧ Only (fun k => k = kb ∨ k = vb) (fun k => u.ownBlock = some k ∨ v.ownBlock = some k) W w') := ⟨_, rfl⟩
  refine wpIn_region_T (S := (fun w => w.cell? ⟨kb, 0, none⟩ = some u ∧ w.cell? ⟨vb, 0, none⟩ = some v)) (t := 7) (R := R) hfn mixed 10 (by rfl) #[false, false, false, false, false, false, false, false, false, false] (by rfl) ?_ (fun a w hr => by
    rw [hR] at hr
    obtain ⟨p, q, u', v', rfl, h⟩ := hr
    exact hK p q u' v' w h)
  have hS0 : W.drew.cell? ⟨kb, 0, none⟩ = some u ∧ W.drew.cell? ⟨vb, 0, none⟩ = some v := ⟨hm0.bu.cell, hm0.bv.cell⟩
  have hWd : W.drew.heap.size = W.heap.size := rfl
  have fin : ∀ r q u' v' w4, Mid W N0 kb vb u v u' v' (xs ++ [x]) (ys ++ [y]) w4 → AnyT Try.prog .any (toldOps p) (fun w => w.cell? ⟨kb, 0, none⟩ = some u ∧ w.cell? ⟨vb, 0, none⟩ = some v) 7 R 2 #[true, true, true, true, true, true, true, true, false, false] { tmps := #[t0, t1, t2, t3, t4, .pointer (some ⟨kb, 0, none⟩), .pointer (some ⟨vb, 0, none⟩), .int .i64 x, .int .i64 y, t9, t10, t11, t12, t13, u, .int .i64 x, r, u', v, .int .i64 y, q, v', undef, undef, undef, undef, undef], defers := [] } w4 := by
    intro r q u' v' w4 hm
    have f1 := hm.bu.frozen
    have c1 := hm.bu.cell
    have hb2 : Boxed (w4.setCell ⟨kb, 0, none⟩ u') vb 40 v := (Below.heap_setCell _ _ _ vb (fun e => hne e.symm)).trans hm.bv
    have f2 := hm.bv.frozen
    have c2 := hm.bv.cell
    obtain ⟨ao1, cp1, e1⟩ := hm.ou.lenOf
    obtain ⟨ao2, cp2, e2⟩ := hm.ov.lenOf
    have hd := hm.done hk hv hne hN rfl
    have HD := Lib.hid hd
    have HR := Lib.hid hR
    clear hd hm hb2 hK hm0 hR
    refine AnyT_all (rs := [8]) (by kernel_rfl) (fun i hi => ?_)
    obtain rfl : i = 8 := by simpa using hi
    refine step_skip (o := top8 p) (w' := w4.setCell ⟨kb, 0, none⟩ u') rfl rfl (by intro c h; cases h) (by unfold top8; subst e1; go_simp) ⟨.inl (by kernel_rfl), ?_⟩
    simp only [top8, Act.put, List.setIfInBounds_toArray, List.set_cons_zero, List.set_cons_succ]
    refine AnyT_all (rs := [9]) (by kernel_rfl) (fun i hi => ?_)
    obtain rfl : i = 9 := by simpa using hi
    refine step_skip (o := top9 p) (w' := (w4.setCell ⟨kb, 0, none⟩ u').setCell ⟨vb, 0, none⟩ v') rfl rfl (by intro c h; cases h) (by unfold top9; subst e2; go_simp) ⟨.inl (by kernel_rfl), ?_⟩
    simp only [top9, Act.put, List.setIfInBounds_toArray, List.set_cons_zero, List.set_cons_succ]
    refine AnyT_done (by kernel_rfl) ?_
    rw [HR.out]
    exact ⟨r, q, u', v', rfl, HD.out⟩
  have HF := Lib.hid fin
  clear hK hR fin
  refine AnyT_take (i := 1) (oi := top1 p) (v := .int .i64 x) [2, 3, 7] rfl rfl (by intro c h; cases h) (by kernel_rfl) hS0 (by rintro w ⟨c0, c1⟩; unfold top1; go_simp) ?_
  simp only [top1, Act.put, List.setIfInBounds_toArray, List.set_cons_zero, List.set_cons_succ]
  refine AnyT_take (i := 5) (oi := top5 p) (v := .int .i64 y) [6, 7] rfl rfl (by intro c h; cases h) (by kernel_rfl) hS0 (by rintro w ⟨c0, c1⟩; unfold top5; go_simp) ?_
  simp only [top5, Act.put, List.setIfInBounds_toArray, List.set_cons_zero, List.set_cons_succ]
  refine AnyT_take (i := 0) (oi := top0 p) (v := u) [3, 7] rfl rfl (by intro c h; cases h) (by kernel_rfl) hS0 (by rintro w ⟨c0, c1⟩; unfold top0; go_simp) ?_
  simp only [top0, Act.put, List.setIfInBounds_toArray, List.set_cons_zero, List.set_cons_succ]
  refine AnyT_take (i := 4) (oi := top4 p) (v := v) [7] rfl rfl (by intro c h; cases h) (by kernel_rfl) hS0 (by rintro w ⟨c0, c1⟩; unfold top4; go_simp) ?_
  simp only [top4, Act.put, List.setIfInBounds_toArray, List.set_cons_zero, List.set_cons_succ]
  refine AnyT_all (rs := [2, 6]) (by kernel_rfl) (fun i hi => ?_)
  rcases List.mem_cons.1 hi with rfl | hi
  · skip
    obtain ⟨wa, hwa⟩ : ∃ wa, wa = (W.drew).alloc (.cells #[.int .i64 x] 3) := ⟨_, rfl⟩
    have hmwa : Mid W N0 kb vb u v u v xs ys wa := by rw [hwa]; exact hm0.keep ((Below.refl _ _).alloc (Nat.le_refl _) _)
    have cwa : wa.cell? ⟨W.heap.size, 0, none⟩ = some (.int .i64 x) := by
      rw [hwa, World.cell?, show ((W.drew).alloc (.cells #[.int .i64 x] 3)).heap[W.heap.size]? = _ from World.alloc_heap_new (W.drew) _]; rfl
    have hswa : wa.heap.size = W.heap.size + 1 := by rw [hwa]; exact World.size_alloc _ _
    refine step_val (o := top2 p) (v := .slice (some ⟨W.heap.size, 0, none⟩) 1 1) (w' := wa) rfl rfl (by intro c h; cases h) (by rw [hwa]; unfold top2; go_simp) ⟨.inr ⟨hmwa.bu.cell, hmwa.bv.cell⟩, ?_⟩
    simp only [top2, Act.put, List.setIfInBounds_toArray, List.set_cons_zero, List.set_cons_succ]
    clear hwa
    refine AnyT_all (rs := [3, 6]) (by kernel_rfl) (fun i hi => ?_)
    rcases List.mem_cons.1 hi with rfl | hi
    · skip
      obtain ⟨u', wb, hrwb, hmwb, hkwb⟩ := hmwa.appU (ub := W.heap.size) (x := x) hk hv hN cwa hl1
      try rw [hswa] at hrwb
      refine step_val (o := top3 p) (v := u') (w' := wb) rfl rfl (by intro c h; cases h) (by unfold top3; go_simp) ⟨.inr ⟨hmwb.bu.cell, hmwb.bv.cell⟩, ?_⟩
      simp only [top3, Act.put, List.setIfInBounds_toArray, List.set_cons_zero, List.set_cons_succ]
      refine AnyT_all (rs := [6]) (by kernel_rfl) (fun i hi => ?_)
      obtain rfl : i = 6 := by simpa using hi
      obtain ⟨wc, hwc⟩ : ∃ wc, wc = (wb).alloc (.cells #[.int .i64 y] 3) := ⟨_, rfl⟩
      have hmwc : Mid W N0 kb vb u v u' v (xs ++ [x]) ys wc := by rw [hwc]; exact hmwb.keep ((Below.refl _ _).alloc (Nat.le_refl _) _)
      have cwc : wc.cell? ⟨wb.heap.size, 0, none⟩ = some (.int .i64 y) := by
        rw [hwc, World.cell?, show ((wb).alloc (.cells #[.int .i64 y] 3)).heap[wb.heap.size]? = _ from World.alloc_heap_new (wb) _]; rfl
      have hswc : wc.heap.size = wb.heap.size + 1 := by rw [hwc]; exact World.size_alloc _ _
      refine step_val (o := top6 p) (v := .slice (some ⟨wb.heap.size, 0, none⟩) 1 1) (w' := wc) rfl rfl (by intro c h; cases h) (by rw [hwc]; unfold top6; go_simp) ⟨.inr ⟨hmwc.bu.cell, hmwc.bv.cell⟩, ?_⟩
      simp only [top6, Act.put, List.setIfInBounds_toArray, List.set_cons_zero, List.set_cons_succ]
      clear hwc
      obtain ⟨v', wd, hrwd, hmwd, hkwd⟩ := hmwc.flip.appU (ub := wb.heap.size) (x := y) hv hk hN cwc hl2
      have hmwd := hmwd.flip
      try rw [hswa] at hrwd
      refine AnyT_all (rs := [7]) (by kernel_rfl) (fun i hi => ?_)
      obtain rfl : i = 7 := by simpa using hi
      refine step_val (o := top7 p) (v := v') (w' := wd) rfl rfl (by intro c h; cases h) (by unfold top7; go_simp) ⟨.inl (by kernel_rfl), ?_⟩
      simp only [top7, Act.put, List.setIfInBounds_toArray, List.set_cons_zero, List.set_cons_succ]
      exact HF.out _ _ _ _ _ hmwd
    · obtain rfl : i = 6 := by simpa using hi
      obtain ⟨wc, hwc⟩ : ∃ wc, wc = (wa).alloc (.cells #[.int .i64 y] 3) := ⟨_, rfl⟩
      have hmwc : Mid W N0 kb vb u v u v xs ys wc := by rw [hwc]; exact hmwa.keep ((Below.refl _ _).alloc (Nat.le_refl _) _)
      have cwc : wc.cell? ⟨wa.heap.size, 0, none⟩ = some (.int .i64 y) := by
        rw [hwc, World.cell?, show ((wa).alloc (.cells #[.int .i64 y] 3)).heap[wa.heap.size]? = _ from World.alloc_heap_new (wa) _]; rfl
      have hswc : wc.heap.size = wa.heap.size + 1 := by rw [hwc]; exact World.size_alloc _ _
      refine step_val (o := top6 p) (v := .slice (some ⟨wa.heap.size, 0, none⟩) 1 1) (w' := wc) rfl rfl (by intro c h; cases h) (by rw [hwc]; unfold top6; go_simp) ⟨.inr ⟨hmwc.bu.cell, hmwc.bv.cell⟩, ?_⟩
      simp only [top6, Act.put, List.setIfInBounds_toArray, List.set_cons_zero, List.set_cons_succ]
      have ca : wc.cell? ⟨W.heap.size, 0, none⟩ = some (.int .i64 x) := cell_kept cwa (by rw [hwc]; exact Below.heap_alloc _ _ _ (by omega))
      clear hwc
      refine AnyT_all (rs := [3]) (by kernel_rfl) (fun i hi => ?_)
      obtain rfl : i = 3 := by simpa using hi
      obtain ⟨u', wb, hrwb, hmwb, hkwb⟩ := hmwc.appU (ub := W.heap.size) (x := x) hk hv hN ca hl1
      try rw [hswa] at hrwb
      refine step_val (o := top3 p) (v := u') (w' := wb) rfl rfl (by intro c h; cases h) (by unfold top3; go_simp) ⟨.inr ⟨hmwb.bu.cell, hmwb.bv.cell⟩, ?_⟩
      simp only [top3, Act.put, List.setIfInBounds_toArray, List.set_cons_zero, List.set_cons_succ]
      have cb : wb.cell? ⟨wa.heap.size, 0, none⟩ = some (.int .i64 y) := cell_kept cwc (hkwb _ (by omega) (fun e => by have := (hmwa.ou.block e).2; omega))
      obtain ⟨v', wd, hrwd, hmwd, hkwd⟩ := hmwb.flip.appU (ub := wa.heap.size) (x := y) hv hk hN cb hl2
      have hmwd := hmwd.flip
      try rw [hswa] at hrwd
      refine AnyT_all (rs := [7]) (by kernel_rfl) (fun i hi => ?_)
      obtain rfl : i = 7 := by simpa using hi
      refine step_val (o := top7 p) (v := v') (w' := wd) rfl rfl (by intro c h; cases h) (by unfold top7; go_simp) ⟨.inl (by kernel_rfl), ?_⟩
      simp only [top7, Act.put, List.setIfInBounds_toArray, List.set_cons_zero, List.set_cons_succ]
      exact HF.out _ _ _ _ _ hmwd
  · obtain rfl : i = 6 := by simpa using hi
    obtain ⟨wa, hwa⟩ : ∃ wa, wa = (W.drew).alloc (.cells #[.int .i64 y] 3) := ⟨_, rfl⟩
    have hmwa : Mid W N0 kb vb u v u v xs ys wa := by rw [hwa]; exact hm0.keep ((Below.refl _ _).alloc (Nat.le_refl _) _)
    have cwa : wa.cell? ⟨W.heap.size, 0, none⟩ = some (.int .i64 y) := by
      rw [hwa, World.cell?, show ((W.drew).alloc (.cells #[.int .i64 y] 3)).heap[W.heap.size]? = _ from World.alloc_heap_new (W.drew) _]; rfl
    have hswa : wa.heap.size = W.heap.size + 1 := by rw [hwa]; exact World.size_alloc _ _
    refine step_val (o := top6 p) (v := .slice (some ⟨W.heap.size, 0, none⟩) 1 1) (w' := wa) rfl rfl (by intro c h; cases h) (by rw [hwa]; unfold top6; go_simp) ⟨.inr ⟨hmwa.bu.cell, hmwa.bv.cell⟩, ?_⟩
    simp only [top6, Act.put, List.setIfInBounds_toArray, List.set_cons_zero, List.set_cons_succ]
    clear hwa
    refine AnyT_all (rs := [2]) (by kernel_rfl) (fun i hi => ?_)
    obtain rfl : i = 2 := by simpa using hi
    obtain ⟨wc, hwc⟩ : ∃ wc, wc = (wa).alloc (.cells #[.int .i64 x] 3) := ⟨_, rfl⟩
    have hmwc : Mid W N0 kb vb u v u v xs ys wc := by rw [hwc]; exact hmwa.keep ((Below.refl _ _).alloc (Nat.le_refl _) _)
    have cwc : wc.cell? ⟨wa.heap.size, 0, none⟩ = some (.int .i64 x) := by
      rw [hwc, World.cell?, show ((wa).alloc (.cells #[.int .i64 x] 3)).heap[wa.heap.size]? = _ from World.alloc_heap_new (wa) _]; rfl
    have hswc : wc.heap.size = wa.heap.size + 1 := by rw [hwc]; exact World.size_alloc _ _
    refine step_val (o := top2 p) (v := .slice (some ⟨wa.heap.size, 0, none⟩) 1 1) (w' := wc) rfl rfl (by intro c h; cases h) (by rw [hwc]; unfold top2; go_simp) ⟨.inr ⟨hmwc.bu.cell, hmwc.bv.cell⟩, ?_⟩
    simp only [top2, Act.put, List.setIfInBounds_toArray, List.set_cons_zero, List.set_cons_succ]
    have ca : wc.cell? ⟨W.heap.size, 0, none⟩ = some (.int .i64 y) := cell_kept cwa (by rw [hwc]; exact Below.heap_alloc _ _ _ (by omega))
    clear hwc
    refine AnyT_all (rs := [3]) (by kernel_rfl) (fun i hi => ?_)
    obtain rfl : i = 3 := by simpa using hi
    obtain ⟨u', wb, hrwb, hmwb, hkwb⟩ := hmwc.appU (ub := wa.heap.size) (x := x) hk hv hN cwc hl1
    try rw [hswa] at hrwb
    refine step_val (o := top3 p) (v := u') (w' := wb) rfl rfl (by intro c h; cases h) (by unfold top3; go_simp) ⟨.inr ⟨hmwb.bu.cell, hmwb.bv.cell⟩, ?_⟩
    simp only [top3, Act.put, List.setIfInBounds_toArray, List.set_cons_zero, List.set_cons_succ]
    have cb : wb.cell? ⟨W.heap.size, 0, none⟩ = some (.int .i64 y) := cell_kept ca (hkwb _ (by omega) (fun e => by have := (hm0.ou.block e).2; omega))
    obtain ⟨v', wd, hrwd, hmwd, hkwd⟩ := hmwb.flip.appU (ub := W.heap.size) (x := y) hv hk hN cb hl2
    have hmwd := hmwd.flip
    try rw [hswa] at hrwd
    refine AnyT_all (rs := [7]) (by kernel_rfl) (fun i hi => ?_)
    obtain rfl : i = 7 := by simpa using hi
    refine step_val (o := top7 p) (v := v') (w' := wd) rfl rfl (by intro c h; cases h) (by unfold top7; go_simp) ⟨.inl (by kernel_rfl), ?_⟩
    simp only [top7, Act.put, List.setIfInBounds_toArray, List.set_cons_zero, List.set_cons_succ]
    exact HF.out _ _ _ _ _ hmwd
end Go.Proofs.Ytlfngdfbimcjhaa
