/-
  Joined texts.
-/
import Derived.Test.YtlnjcfgihklppaaGreatMgb

section
namespace Go.Proofs.YtlnjcfgihklppaaGreat
open Go.RowKit Go.Maps
set_option linter.unusedVariables false
set_option linter.unusedSimpArgs false

theorem StTy.cod_enc {P : Program} {α : Type} (s : StTy P α) (x : α) : s.cod.enc x = s.v x := rfl
/-- What a look at a cell leaves: the result's place, and a place in between. -/
def StTy.getW {P : Program} {α : Type} (s : StTy P α) (w : World) (t : α) : World := ((w.alloc (s.obj s.zero)).alloc (s.obj t)).setRow w.heap.size (s.f t).toArray
theorem StTy.getW_below {P : Program} {α : Type} (s : StTy P α) (w : World) (t : α) : Below w.heap.size w (s.getW w t) := by
  have h1 := ((Below.refl _ w).alloc (Nat.le_refl _) (s.obj s.zero)).alloc (by simp) (s.obj t)
  exact ⟨h1.os, h1.tape, h1.output, by unfold StTy.getW; simpa using h1.size, fun k hk => (setRow_other _ _ _ _ (by omega)).trans (h1.block k hk)⟩

theorem grid_New_V (w : World) : Calls Tryz.prog 92 #[] w fun e w' => e = .returned (.pointer (some ⟨w.heap.size, 0, none⟩)) ∧ w' = w.alloc (.cells #[.map none, .map none, .int .i64 0] 143) := by
  go_enter Tryz.func92, Tryz.ntmps92
  go_wp2
  go_ret
  exact ⟨rfl, rfl⟩
theorem GrAt.new_V (w : World) : GrAt balS.cod 143 w.heap.size [] (fun k => k = w.heap.size) (w.alloc (.cells #[.map none, .map none, .int .i64 0] 143)) :=
  ⟨List.Pairwise.nil, rfl, fun k hk => by subst hk; simp, .inl ⟨rfl, World.alloc_heap_new w _⟩⟩
set_option maxRecDepth 100000 in
set_option maxHeartbeats 2000000 in
theorem grid_GetE_V {g : Nat} {M : Cls Bal} {F : FP} {w : World} (h : GrAt balS.cod 143 g M F w) {a b : Int} (ha : (Lit.int .i64 a).wf = true) (hb : (Lit.int .i64 b).wf = true) :
    Calls Tryz.prog 48 #[.pointer (some ⟨g, 0, none⟩), .int .i64 a, .int .i64 b] w fun e w' => e = .returned (.tuple #[balS.v ((cget M a b).getD balS.zero), .bool (cget M a b).isSome]) ∧ w' = balS.getW w ((cget M a b).getD balS.zero) := by
  have hu1 : Tryz.prog.underlying 141 = some (.map 3 140) := Tryz.underlying141
  have hu2 : Tryz.prog.underlying 140 = some (.map 3 23) := Tryz.underlying140
  have hz1 : ∀ w, (zeroValue 140).run Tryz.prog w = .ok (codM.enc none) w := fun w => Tryz.zeroValue140 w
  have hz2 : ∀ w, (zeroValue 23).run Tryz.prog w = .ok (balS.cod.enc balS.zero) w := fun w => balS.zeroRun w
  obtain ⟨W0, hW0⟩ : ∃ W0, W0 = w.alloc (balS.obj balS.zero) := ⟨_, rfl⟩
  have hB0 : Below w.heap.size w W0 := by rw [hW0]; exact (Below.refl _ w).alloc (Nat.le_refl _) _
  have h0 : GrAt balS.cod 143 g M F W0 := h.keep (Grow.of_below hB0) (fun k hk => hB0.block k (h.2.2.1 k hk))
  have key : ∃ mv mi, W0.cell? ⟨g, 0, none⟩ = some (.map mv) ∧ (Instr.lookup 141 (.map mv) (.int .i64 a) false).run Tryz.prog W0 = .ok (.map mi) W0 ∧
      (Instr.lookup 140 (.map mi) (.int .i64 b) true).run Tryz.prog W0 = .ok (.tuple #[balS.v ((cget M a b).getD balS.zero), .bool (cget M a b).isSome]) W0 := by
    obtain ⟨_, _, _, (⟨rfl, hh⟩ | ⟨B, C, rm, cm, hh, hM, _⟩)⟩ := h0
    · refine ⟨none, none, by rw [World.cell?, hh]; rfl, nil_look hu1 (hz1 W0) ha false, ?_⟩
      exact nil_look hu2 (hz2 W0) hb true
    · have hl := hM.row.map.look (z0 := none) hu1 (hz1 W0) ha
      cases hs : sget rm a with
      | none =>
        rw [hs] at hl
        refine ⟨some B, none, by rw [World.cell?, hh]; rfl, hl, ?_⟩
        have hr := hM.row.isNil hs
        have : cget M a b = none := by rw [cget, hr]; rfl
        rw [this]
        exact nil_look hu2 (hz2 W0) hb true
      | some x =>
        obtain ⟨b', rfl, _, _, h3⟩ := hM.row.at_ a x hs
        rw [hs] at hl
        exact ⟨some B, some b', by rw [World.cell?, hh]; rfl, hl, h3.look_ok hu2 (hz2 W0) hb⟩
  obtain ⟨mv, mi, hc, h1, h2⟩ := key
  obtain ⟨t, ht⟩ : ∃ t, t = (cget M a b).getD balS.zero := ⟨_, rfl⟩
  obtain ⟨q, hq⟩ : ∃ q, q = (cget M a b).isSome := ⟨_, rfl⟩
  rw [← ht, ← hq] at h2
  rw [← ht, ← hq]
  obtain ⟨rb, hrb⟩ : ∃ rb, rb = w.heap.size := ⟨_, rfl⟩
  have hz : W0.heap[rb]? = some (balS.obj balS.zero) := by rw [hW0, hrb]; exact World.alloc_heap_new w _
  have hlt : rb < W0.heap.size := by rw [hW0, hrb]; simp
  have hk0 : (W0.alloc (balS.obj t)).heap[rb]? = some (balS.obj balS.zero) := (Below.heap_alloc _ _ _ hlt).trans hz
  have hr1 : ((W0.alloc (balS.obj t)).setRow rb (balS.f t).toArray).rangeAt rb 0 (balS.f t) := rangeAt_whole (T := balS.T) (setRow_heap _ _ _ _ _ _ hk0)
  have H1 := Lib.hid h1
  have H2 := Lib.hid h2
  have HK := Lib.hid (And.intro hk0 hr1)
  have HW0 := Lib.hid (And.intro hW0 hrb)
  clear h h0 h1 h2 hu1 hu2 hz1 hz2 ha hb ht hq hB0 hW0 hrb hz hk0 hr1 hlt
  go_enter Tryz.func48, Tryz.ntmps48
  have tok1 : True := trivial
  go_upto_region 1 with (first
    | (refine wpl_allocS (s := balS) rfl rfl rfl ?_)
    | fail)
  rw [← HW0.out.1, ← HW0.out.2]
  go_wp2_with (first
    | (at_lookup; have _t := tok1; refine wpl_look rfl _ _ _ _ rfl rfl rfl H1.out ?_; clear tok1)
    | (at_lookup; refine wpl_look rfl _ _ _ _ rfl rfl rfl H2.out ?_)
    | (refine wpl_allocS (s := balS) rfl rfl rfl ?_)
    | (refine wpl_storeS (s := balS) (t := t) (b := W0.heap.size) _ _ rfl rfl rfl rfl rfl (World.alloc_heap_new W0 _) (zeroS balS) ?_; rw [newS])
    | (refine wpl_loadS (s := balS) (t := t) (b := W0.heap.size) (k := 0) _ rfl rfl rfl rfl (atS balS W0 t) ?_)
    | (refine wpl_storeS (s := balS) (t := t) (b := rb) _ _ rfl rfl rfl rfl rfl HK.out.1 (zeroS balS) ?_)
    | fail)
  exact bodyPost_ret (v := .tuple #[balS.v t, .bool q]) (results_S2 (s := balS) Tryz.results48 rfl rfl HK.out.2) rfl ⟨rfl, by rw [HW0.out.1, HW0.out.2]; rfl⟩
theorem grid_Get_V {g : Nat} {M : Cls Bal} {F : FP} {w : World} (h : GrAt balS.cod 143 g M F w) {a b : Int} (ha : (Lit.int .i64 a).wf = true) (hb : (Lit.int .i64 b).wf = true) :
    Calls Tryz.prog 48 #[.pointer (some ⟨g, 0, none⟩), .int .i64 a, .int .i64 b] w fun e w' => e = .returned (.tuple #[balS.v ((cget M a b).getD balS.zero), .bool (cget M a b).isSome]) ∧ Below w.heap.size w w' :=
  (grid_GetE_V h ha hb).mono fun e w' ⟨he, hw⟩ => ⟨he, by rw [hw]; exact balS.getW_below w _⟩

theorem grid_New_D (w : World) : Calls Tryz.prog 93 #[] w fun e w' => e = .returned (.pointer (some ⟨w.heap.size, 0, none⟩)) ∧ w' = w.alloc (.cells #[.map none, .map none, .int .i64 0] 134) := by
  go_enter Tryz.func93, Tryz.ntmps93
  go_wp2
  go_ret
  exact ⟨rfl, rfl⟩
theorem GrAt.new_D (w : World) : GrAt dlgS.cod 134 w.heap.size [] (fun k => k = w.heap.size) (w.alloc (.cells #[.map none, .map none, .int .i64 0] 134)) :=
  ⟨List.Pairwise.nil, rfl, fun k hk => by subst hk; simp, .inl ⟨rfl, World.alloc_heap_new w _⟩⟩
set_option maxRecDepth 100000 in
set_option maxHeartbeats 2000000 in
theorem grid_GetE_D {g : Nat} {M : Cls Dlg} {F : FP} {w : World} (h : GrAt dlgS.cod 134 g M F w) {a b : Int} (ha : (Lit.int .i64 a).wf = true) (hb : (Lit.int .i64 b).wf = true) :
    Calls Tryz.prog 38 #[.pointer (some ⟨g, 0, none⟩), .int .i64 a, .int .i64 b] w fun e w' => e = .returned (.tuple #[dlgS.v ((cget M a b).getD dlgS.zero), .bool (cget M a b).isSome]) ∧ w' = dlgS.getW w ((cget M a b).getD dlgS.zero) := by
  have hu1 : Tryz.prog.underlying 132 = some (.map 3 131) := Tryz.underlying132
  have hu2 : Tryz.prog.underlying 131 = some (.map 3 83) := Tryz.underlying131
  have hz1 : ∀ w, (zeroValue 131).run Tryz.prog w = .ok (codM.enc none) w := fun w => Tryz.zeroValue131 w
  have hz2 : ∀ w, (zeroValue 83).run Tryz.prog w = .ok (dlgS.cod.enc dlgS.zero) w := fun w => dlgS.zeroRun w
  obtain ⟨W0, hW0⟩ : ∃ W0, W0 = w.alloc (dlgS.obj dlgS.zero) := ⟨_, rfl⟩
  have hB0 : Below w.heap.size w W0 := by rw [hW0]; exact (Below.refl _ w).alloc (Nat.le_refl _) _
  have h0 : GrAt dlgS.cod 134 g M F W0 := h.keep (Grow.of_below hB0) (fun k hk => hB0.block k (h.2.2.1 k hk))
  have key : ∃ mv mi, W0.cell? ⟨g, 0, none⟩ = some (.map mv) ∧ (Instr.lookup 132 (.map mv) (.int .i64 a) false).run Tryz.prog W0 = .ok (.map mi) W0 ∧
      (Instr.lookup 131 (.map mi) (.int .i64 b) true).run Tryz.prog W0 = .ok (.tuple #[dlgS.v ((cget M a b).getD dlgS.zero), .bool (cget M a b).isSome]) W0 := by
    obtain ⟨_, _, _, (⟨rfl, hh⟩ | ⟨B, C, rm, cm, hh, hM, _⟩)⟩ := h0
    · refine ⟨none, none, by rw [World.cell?, hh]; rfl, nil_look hu1 (hz1 W0) ha false, ?_⟩
      exact nil_look hu2 (hz2 W0) hb true
    · have hl := hM.row.map.look (z0 := none) hu1 (hz1 W0) ha
      cases hs : sget rm a with
      | none =>
        rw [hs] at hl
        refine ⟨some B, none, by rw [World.cell?, hh]; rfl, hl, ?_⟩
        have hr := hM.row.isNil hs
        have : cget M a b = none := by rw [cget, hr]; rfl
        rw [this]
        exact nil_look hu2 (hz2 W0) hb true
      | some x =>
        obtain ⟨b', rfl, _, _, h3⟩ := hM.row.at_ a x hs
        rw [hs] at hl
        exact ⟨some B, some b', by rw [World.cell?, hh]; rfl, hl, h3.look_ok hu2 (hz2 W0) hb⟩
  obtain ⟨mv, mi, hc, h1, h2⟩ := key
  obtain ⟨t, ht⟩ : ∃ t, t = (cget M a b).getD dlgS.zero := ⟨_, rfl⟩
  obtain ⟨q, hq⟩ : ∃ q, q = (cget M a b).isSome := ⟨_, rfl⟩
  rw [← ht, ← hq] at h2
  rw [← ht, ← hq]
  obtain ⟨rb, hrb⟩ : ∃ rb, rb = w.heap.size := ⟨_, rfl⟩
  have hz : W0.heap[rb]? = some (dlgS.obj dlgS.zero) := by rw [hW0, hrb]; exact World.alloc_heap_new w _
  have hlt : rb < W0.heap.size := by rw [hW0, hrb]; simp
  have hk0 : (W0.alloc (dlgS.obj t)).heap[rb]? = some (dlgS.obj dlgS.zero) := (Below.heap_alloc _ _ _ hlt).trans hz
  have hr1 : ((W0.alloc (dlgS.obj t)).setRow rb (dlgS.f t).toArray).rangeAt rb 0 (dlgS.f t) := rangeAt_whole (T := dlgS.T) (setRow_heap _ _ _ _ _ _ hk0)
  have H1 := Lib.hid h1
  have H2 := Lib.hid h2
  have HK := Lib.hid (And.intro hk0 hr1)
  have HW0 := Lib.hid (And.intro hW0 hrb)
  clear h h0 h1 h2 hu1 hu2 hz1 hz2 ha hb ht hq hB0 hW0 hrb hz hk0 hr1 hlt
  go_enter Tryz.func38, Tryz.ntmps38
  have tok1 : True := trivial
  go_upto_region 1 with (first
    | (refine wpl_allocS (s := dlgS) rfl rfl rfl ?_)
    | fail)
  rw [← HW0.out.1, ← HW0.out.2]
  go_wp2_with (first
    | (at_lookup; have _t := tok1; refine wpl_look rfl _ _ _ _ rfl rfl rfl H1.out ?_; clear tok1)
    | (at_lookup; refine wpl_look rfl _ _ _ _ rfl rfl rfl H2.out ?_)
    | (refine wpl_allocS (s := dlgS) rfl rfl rfl ?_)
    | (refine wpl_storeS (s := dlgS) (t := t) (b := W0.heap.size) _ _ rfl rfl rfl rfl rfl (World.alloc_heap_new W0 _) (zeroS dlgS) ?_; rw [newS])
    | (refine wpl_loadS (s := dlgS) (t := t) (b := W0.heap.size) (k := 0) _ rfl rfl rfl rfl (atS dlgS W0 t) ?_)
    | (refine wpl_storeS (s := dlgS) (t := t) (b := rb) _ _ rfl rfl rfl rfl rfl HK.out.1 (zeroS dlgS) ?_)
    | fail)
  exact bodyPost_ret (v := .tuple #[dlgS.v t, .bool q]) (results_S2 (s := dlgS) Tryz.results38 rfl rfl HK.out.2) rfl ⟨rfl, by rw [HW0.out.1, HW0.out.2]; rfl⟩
theorem grid_Get_D {g : Nat} {M : Cls Dlg} {F : FP} {w : World} (h : GrAt dlgS.cod 134 g M F w) {a b : Int} (ha : (Lit.int .i64 a).wf = true) (hb : (Lit.int .i64 b).wf = true) :
    Calls Tryz.prog 38 #[.pointer (some ⟨g, 0, none⟩), .int .i64 a, .int .i64 b] w fun e w' => e = .returned (.tuple #[dlgS.v ((cget M a b).getD dlgS.zero), .bool (cget M a b).isSome]) ∧ Below w.heap.size w w' :=
  (grid_GetE_D h ha hb).mono fun e w' ⟨he, hw⟩ => ⟨he, by rw [hw]; exact dlgS.getW_below w _⟩

theorem grid_New_W (w : World) : Calls Tryz.prog 94 #[] w fun e w' => e = .returned (.pointer (some ⟨w.heap.size, 0, none⟩)) ∧ w' = w.alloc (.cells #[.map none, .map none, .int .i64 0] 160) := by
  go_enter Tryz.func94, Tryz.ntmps94
  go_wp2
  go_ret
  exact ⟨rfl, rfl⟩
theorem GrAt.new_W (w : World) : GrAt wgtS.cod 160 w.heap.size [] (fun k => k = w.heap.size) (w.alloc (.cells #[.map none, .map none, .int .i64 0] 160)) :=
  ⟨List.Pairwise.nil, rfl, fun k hk => by subst hk; simp, .inl ⟨rfl, World.alloc_heap_new w _⟩⟩
set_option maxRecDepth 100000 in
set_option maxHeartbeats 2000000 in
theorem grid_GetE_W {g : Nat} {M : Cls Wgt} {F : FP} {w : World} (h : GrAt wgtS.cod 160 g M F w) {a b : Int} (ha : (Lit.int .i64 a).wf = true) (hb : (Lit.int .i64 b).wf = true) :
    Calls Tryz.prog 68 #[.pointer (some ⟨g, 0, none⟩), .int .i64 a, .int .i64 b] w fun e w' => e = .returned (.tuple #[wgtS.v ((cget M a b).getD wgtS.zero), .bool (cget M a b).isSome]) ∧ w' = wgtS.getW w ((cget M a b).getD wgtS.zero) := by
  have hu1 : Tryz.prog.underlying 158 = some (.map 3 157) := Tryz.underlying158
  have hu2 : Tryz.prog.underlying 157 = some (.map 3 49) := Tryz.underlying157
  have hz1 : ∀ w, (zeroValue 157).run Tryz.prog w = .ok (codM.enc none) w := fun w => Tryz.zeroValue157 w
  have hz2 : ∀ w, (zeroValue 49).run Tryz.prog w = .ok (wgtS.cod.enc wgtS.zero) w := fun w => wgtS.zeroRun w
  obtain ⟨W0, hW0⟩ : ∃ W0, W0 = w.alloc (wgtS.obj wgtS.zero) := ⟨_, rfl⟩
  have hB0 : Below w.heap.size w W0 := by rw [hW0]; exact (Below.refl _ w).alloc (Nat.le_refl _) _
  have h0 : GrAt wgtS.cod 160 g M F W0 := h.keep (Grow.of_below hB0) (fun k hk => hB0.block k (h.2.2.1 k hk))
  have key : ∃ mv mi, W0.cell? ⟨g, 0, none⟩ = some (.map mv) ∧ (Instr.lookup 158 (.map mv) (.int .i64 a) false).run Tryz.prog W0 = .ok (.map mi) W0 ∧
      (Instr.lookup 157 (.map mi) (.int .i64 b) true).run Tryz.prog W0 = .ok (.tuple #[wgtS.v ((cget M a b).getD wgtS.zero), .bool (cget M a b).isSome]) W0 := by
    obtain ⟨_, _, _, (⟨rfl, hh⟩ | ⟨B, C, rm, cm, hh, hM, _⟩)⟩ := h0
    · refine ⟨none, none, by rw [World.cell?, hh]; rfl, nil_look hu1 (hz1 W0) ha false, ?_⟩
      exact nil_look hu2 (hz2 W0) hb true
    · have hl := hM.row.map.look (z0 := none) hu1 (hz1 W0) ha
      cases hs : sget rm a with
      | none =>
        rw [hs] at hl
        refine ⟨some B, none, by rw [World.cell?, hh]; rfl, hl, ?_⟩
        have hr := hM.row.isNil hs
        have : cget M a b = none := by rw [cget, hr]; rfl
        rw [this]
        exact nil_look hu2 (hz2 W0) hb true
      | some x =>
        obtain ⟨b', rfl, _, _, h3⟩ := hM.row.at_ a x hs
        rw [hs] at hl
        exact ⟨some B, some b', by rw [World.cell?, hh]; rfl, hl, h3.look_ok hu2 (hz2 W0) hb⟩
  obtain ⟨mv, mi, hc, h1, h2⟩ := key
  obtain ⟨t, ht⟩ : ∃ t, t = (cget M a b).getD wgtS.zero := ⟨_, rfl⟩
  obtain ⟨q, hq⟩ : ∃ q, q = (cget M a b).isSome := ⟨_, rfl⟩
  rw [← ht, ← hq] at h2
  rw [← ht, ← hq]
  obtain ⟨rb, hrb⟩ : ∃ rb, rb = w.heap.size := ⟨_, rfl⟩
  have hz : W0.heap[rb]? = some (wgtS.obj wgtS.zero) := by rw [hW0, hrb]; exact World.alloc_heap_new w _
  have hlt : rb < W0.heap.size := by rw [hW0, hrb]; simp
  have hk0 : (W0.alloc (wgtS.obj t)).heap[rb]? = some (wgtS.obj wgtS.zero) := (Below.heap_alloc _ _ _ hlt).trans hz
  have hr1 : ((W0.alloc (wgtS.obj t)).setRow rb (wgtS.f t).toArray).rangeAt rb 0 (wgtS.f t) := rangeAt_whole (T := wgtS.T) (setRow_heap _ _ _ _ _ _ hk0)
  have H1 := Lib.hid h1
  have H2 := Lib.hid h2
  have HK := Lib.hid (And.intro hk0 hr1)
  have HW0 := Lib.hid (And.intro hW0 hrb)
  clear h h0 h1 h2 hu1 hu2 hz1 hz2 ha hb ht hq hB0 hW0 hrb hz hk0 hr1 hlt
  go_enter Tryz.func68, Tryz.ntmps68
  have tok1 : True := trivial
  go_upto_region 1 with (first
    | (refine wpl_allocS (s := wgtS) rfl rfl rfl ?_)
    | fail)
  rw [← HW0.out.1, ← HW0.out.2]
  go_wp2_with (first
    | (at_lookup; have _t := tok1; refine wpl_look rfl _ _ _ _ rfl rfl rfl H1.out ?_; clear tok1)
    | (at_lookup; refine wpl_look rfl _ _ _ _ rfl rfl rfl H2.out ?_)
    | (refine wpl_allocS (s := wgtS) rfl rfl rfl ?_)
    | (refine wpl_storeS (s := wgtS) (t := t) (b := W0.heap.size) _ _ rfl rfl rfl rfl rfl (World.alloc_heap_new W0 _) (zeroS wgtS) ?_; rw [newS])
    | (refine wpl_loadS (s := wgtS) (t := t) (b := W0.heap.size) (k := 0) _ rfl rfl rfl rfl (atS wgtS W0 t) ?_)
    | (refine wpl_storeS (s := wgtS) (t := t) (b := rb) _ _ rfl rfl rfl rfl rfl HK.out.1 (zeroS wgtS) ?_)
    | fail)
  exact bodyPost_ret (v := .tuple #[wgtS.v t, .bool q]) (results_S2 (s := wgtS) Tryz.results68 rfl rfl HK.out.2) rfl ⟨rfl, by rw [HW0.out.1, HW0.out.2]; rfl⟩
theorem grid_Get_W {g : Nat} {M : Cls Wgt} {F : FP} {w : World} (h : GrAt wgtS.cod 160 g M F w) {a b : Int} (ha : (Lit.int .i64 a).wf = true) (hb : (Lit.int .i64 b).wf = true) :
    Calls Tryz.prog 68 #[.pointer (some ⟨g, 0, none⟩), .int .i64 a, .int .i64 b] w fun e w' => e = .returned (.tuple #[wgtS.v ((cget M a b).getD wgtS.zero), .bool (cget M a b).isSome]) ∧ Below w.heap.size w w' :=
  (grid_GetE_W h ha hb).mono fun e w' ⟨he, hw⟩ => ⟨he, by rw [hw]; exact wgtS.getW_below w _⟩

theorem grid_New_Q (w : World) : Calls Tryz.prog 95 #[] w fun e w' => e = .returned (.pointer (some ⟨w.heap.size, 0, none⟩)) ∧ w' = w.alloc (.cells #[.map none, .map none, .int .i64 0] 138) := by
  go_enter Tryz.func95, Tryz.ntmps95
  go_wp2
  go_ret
  exact ⟨rfl, rfl⟩
theorem GrAt.new_Q (w : World) : GrAt priS.cod 138 w.heap.size [] (fun k => k = w.heap.size) (w.alloc (.cells #[.map none, .map none, .int .i64 0] 138)) :=
  ⟨List.Pairwise.nil, rfl, fun k hk => by subst hk; simp, .inl ⟨rfl, World.alloc_heap_new w _⟩⟩
set_option maxRecDepth 100000 in
set_option maxHeartbeats 2000000 in
theorem grid_GetE_Q {g : Nat} {M : Cls Wgt} {F : FP} {w : World} (h : GrAt priS.cod 138 g M F w) {a b : Int} (ha : (Lit.int .i64 a).wf = true) (hb : (Lit.int .i64 b).wf = true) :
    Calls Tryz.prog 39 #[.pointer (some ⟨g, 0, none⟩), .int .i64 a, .int .i64 b] w fun e w' => e = .returned (.tuple #[priS.v ((cget M a b).getD priS.zero), .bool (cget M a b).isSome]) ∧ w' = priS.getW w ((cget M a b).getD priS.zero) := by
  have hu1 : Tryz.prog.underlying 136 = some (.map 3 135) := Tryz.underlying136
  have hu2 : Tryz.prog.underlying 135 = some (.map 3 96) := Tryz.underlying135
  have hz1 : ∀ w, (zeroValue 135).run Tryz.prog w = .ok (codM.enc none) w := fun w => Tryz.zeroValue135 w
  have hz2 : ∀ w, (zeroValue 96).run Tryz.prog w = .ok (priS.cod.enc priS.zero) w := fun w => priS.zeroRun w
  obtain ⟨W0, hW0⟩ : ∃ W0, W0 = w.alloc (priS.obj priS.zero) := ⟨_, rfl⟩
  have hB0 : Below w.heap.size w W0 := by rw [hW0]; exact (Below.refl _ w).alloc (Nat.le_refl _) _
  have h0 : GrAt priS.cod 138 g M F W0 := h.keep (Grow.of_below hB0) (fun k hk => hB0.block k (h.2.2.1 k hk))
  have key : ∃ mv mi, W0.cell? ⟨g, 0, none⟩ = some (.map mv) ∧ (Instr.lookup 136 (.map mv) (.int .i64 a) false).run Tryz.prog W0 = .ok (.map mi) W0 ∧
      (Instr.lookup 135 (.map mi) (.int .i64 b) true).run Tryz.prog W0 = .ok (.tuple #[priS.v ((cget M a b).getD priS.zero), .bool (cget M a b).isSome]) W0 := by
    obtain ⟨_, _, _, (⟨rfl, hh⟩ | ⟨B, C, rm, cm, hh, hM, _⟩)⟩ := h0
    · refine ⟨none, none, by rw [World.cell?, hh]; rfl, nil_look hu1 (hz1 W0) ha false, ?_⟩
      exact nil_look hu2 (hz2 W0) hb true
    · have hl := hM.row.map.look (z0 := none) hu1 (hz1 W0) ha
      cases hs : sget rm a with
      | none =>
        rw [hs] at hl
        refine ⟨some B, none, by rw [World.cell?, hh]; rfl, hl, ?_⟩
        have hr := hM.row.isNil hs
        have : cget M a b = none := by rw [cget, hr]; rfl
        rw [this]
        exact nil_look hu2 (hz2 W0) hb true
      | some x =>
        obtain ⟨b', rfl, _, _, h3⟩ := hM.row.at_ a x hs
        rw [hs] at hl
        exact ⟨some B, some b', by rw [World.cell?, hh]; rfl, hl, h3.look_ok hu2 (hz2 W0) hb⟩
  obtain ⟨mv, mi, hc, h1, h2⟩ := key
  obtain ⟨t, ht⟩ : ∃ t, t = (cget M a b).getD priS.zero := ⟨_, rfl⟩
  obtain ⟨q, hq⟩ : ∃ q, q = (cget M a b).isSome := ⟨_, rfl⟩
  rw [← ht, ← hq] at h2
  rw [← ht, ← hq]
  obtain ⟨rb, hrb⟩ : ∃ rb, rb = w.heap.size := ⟨_, rfl⟩
  have hz : W0.heap[rb]? = some (priS.obj priS.zero) := by rw [hW0, hrb]; exact World.alloc_heap_new w _
  have hlt : rb < W0.heap.size := by rw [hW0, hrb]; simp
  have hk0 : (W0.alloc (priS.obj t)).heap[rb]? = some (priS.obj priS.zero) := (Below.heap_alloc _ _ _ hlt).trans hz
  have hr1 : ((W0.alloc (priS.obj t)).setRow rb (priS.f t).toArray).rangeAt rb 0 (priS.f t) := rangeAt_whole (T := priS.T) (setRow_heap _ _ _ _ _ _ hk0)
  have H1 := Lib.hid h1
  have H2 := Lib.hid h2
  have HK := Lib.hid (And.intro hk0 hr1)
  have HW0 := Lib.hid (And.intro hW0 hrb)
  clear h h0 h1 h2 hu1 hu2 hz1 hz2 ha hb ht hq hB0 hW0 hrb hz hk0 hr1 hlt
  go_enter Tryz.func39, Tryz.ntmps39
  have tok1 : True := trivial
  go_upto_region 1 with (first
    | (refine wpl_allocS (s := priS) rfl rfl rfl ?_)
    | fail)
  rw [← HW0.out.1, ← HW0.out.2]
  go_wp2_with (first
    | (at_lookup; have _t := tok1; refine wpl_look rfl _ _ _ _ rfl rfl rfl H1.out ?_; clear tok1)
    | (at_lookup; refine wpl_look rfl _ _ _ _ rfl rfl rfl H2.out ?_)
    | (refine wpl_allocS (s := priS) rfl rfl rfl ?_)
    | (refine wpl_storeS (s := priS) (t := t) (b := W0.heap.size) _ _ rfl rfl rfl rfl rfl (World.alloc_heap_new W0 _) (zeroS priS) ?_; rw [newS])
    | (refine wpl_loadS (s := priS) (t := t) (b := W0.heap.size) (k := 0) _ rfl rfl rfl rfl (atS priS W0 t) ?_)
    | (refine wpl_storeS (s := priS) (t := t) (b := rb) _ _ rfl rfl rfl rfl rfl HK.out.1 (zeroS priS) ?_)
    | fail)
  exact bodyPost_ret (v := .tuple #[priS.v t, .bool q]) (results_S2 (s := priS) Tryz.results39 rfl rfl HK.out.2) rfl ⟨rfl, by rw [HW0.out.1, HW0.out.2]; rfl⟩
theorem grid_Get_Q {g : Nat} {M : Cls Wgt} {F : FP} {w : World} (h : GrAt priS.cod 138 g M F w) {a b : Int} (ha : (Lit.int .i64 a).wf = true) (hb : (Lit.int .i64 b).wf = true) :
    Calls Tryz.prog 39 #[.pointer (some ⟨g, 0, none⟩), .int .i64 a, .int .i64 b] w fun e w' => e = .returned (.tuple #[priS.v ((cget M a b).getD priS.zero), .bool (cget M a b).isSome]) ∧ Below w.heap.size w w' :=
  (grid_GetE_Q h ha hb).mono fun e w' ⟨he, hw⟩ => ⟨he, by rw [hw]; exact priS.getW_below w _⟩
end Go.Proofs.YtlnjcfgihklppaaGreat
end

section
namespace Go.Proofs.YtlnjcfgihklppaaGreat
open Go.RowKit Go.Maps
set_option linter.unusedVariables false
set_option linter.unusedSimpArgs false

set_option maxRecDepth 100000 in
set_option maxHeartbeats 2000000 in
theorem lay_V {B : Nat} {rm : List (Int × Option Nat)} {rows : Int → List (Int × Bal)} {w : World} (h : OutAt balS.cod B rm rows w) (hn : rm.length < maxLen) {a b : Int} (hra : (rows a).length < maxLen) (ha : (Lit.int .i64 a).wf = true) (hb : (Lit.int .i64 b).wf = true) (v : Bal) :
    Calls Tryz.prog 79 #[.map (some B), .int .i64 a, .int .i64 b, .agg (balS.f v).toArray] w fun e w' => e = .returned (.tuple #[]) ∧ OutTo balS.cod B rm (fun i => if i = a then sput (rows a) b v else rows i) w w' := by
  have hmm := @run_makeMap Tryz.prog
  have hBw := h.map.lt
  have hu1 : Tryz.prog.underlying 141 = some (.map 3 140) := Tryz.underlying141
  have hu2 : Tryz.prog.underlying 140 = some (.map 3 23) := Tryz.underlying140
  have hz1 : ∀ w, (zeroValue 140).run Tryz.prog w = .ok (codM.enc none) w := fun w => Tryz.zeroValue140 w
  obtain ⟨u, hu⟩ : ∃ u, u = w.alloc (.cells (balS.f v).toArray 23) := ⟨_, rfl⟩
  have h : OutAt balS.cod B rm rows u := by rw [hu]; exact h.block (fun k hk => Below.heap_alloc _ _ k (h.lt hk))
  have hout : ∀ rows' w', OutTo balS.cod B rm rows' u w' → OutTo balS.cod B rm rows' w w' := fun rows' w' ho => by rw [hu] at ho; exact ho.alloc
  cases hs : sget rm a with
  | some x =>
    obtain ⟨b', rfl, h1, h2, h3⟩ := h.at_ a x hs
    obtain ⟨w', hr, hm', hg, hsz⟩ := h3.store hu2 hra hb v
    have hl := h.map.look (z0 := none) hu1 (hz1 u) ha
    rw [hs] at hl
    have Hfin : OutTo balS.cod B rm (fun i => if i = a then sput (rows a) b v else rows i) u w' :=
      ⟨rm, h.upd hs (sput_ne _ _ _) hm' hg, only_grown hg (.inr ⟨a, hs⟩), fun k hk => .inl hk⟩
    have Hfin := hout _ _ Hfin
    rw [hu] at hl hr
    have HF := Lib.hid Hfin
    have HL := Lib.hid hl
    have HR := Lib.hid hr
    have hrg : (w.alloc (.cells (balS.f v).toArray 23)).rangeAt w.heap.size 0 (balS.f v) := atS balS w v
    have HRG := Lib.hid hrg
    clear hout Hfin h h1 h2 h3 hs hm' hg hsz hn hra hl hr hmm hu hrg hBw
    have q1 : ∀ bm w, (binOp .eql 140 (.map (some bm)) (.map Option.none)).run Tryz.prog w = .ok (.bool false) w := fun bm w => by kernel_rfl
    have q2 : ∀ w, (binOp .eql 140 (.map Option.none) (.map Option.none)).run Tryz.prog w = .ok (.bool true) w := fun w => by kernel_rfl
    go_enter Tryz.func79, Tryz.ntmps79
    go_wp2_with (first
      | (at_lookup; refine wpl_look rfl _ _ _ _ rfl rfl rfl HL.out ?_; dsimp only [codM, Option.getD])
      | (at_mapUpdate; refine wpl_upd rfl _ _ _ _ rfl rfl rfl rfl HR.out ?_)
      | (refine wpl_loadS (s := balS) (t := v) (b := w.heap.size) (k := 0) _ rfl rfl rfl rfl HRG.out ?_)
      | fail)
    exact bodyPost_end (results_none rfl _ _ _) rfl ⟨rfl, HF.out⟩
  | none =>
    have hnil := h.isNil hs
    have hl := h.map.look (z0 := none) hu1 (hz1 u) ha
    rw [hs] at hl
    -- a new map, laid in, then written
    obtain ⟨w1, hw1⟩ : ∃ w1, w1 = u.alloc (.map #[] 0) := ⟨_, rfl⟩
    obtain ⟨N, hN⟩ : ∃ N, N = u.heap.size := ⟨_, rfl⟩
    have hmade : MapAt balS.cod N [] w1 := by rw [hw1, hN]; exact MapAt.made _ _
    have hM1 : MapAt codM B rm w1 := by rw [hw1]; exact h.map.kept (World.grownBy_alloc u _ none) (by simp)
    have hBlt := h.map.lt
    obtain ⟨w2, hr2, hm2, hg2, hs2⟩ := hM1.store hu1 hn ha (some N)
    have hl2 := hm2.look (z0 := none) hu1 (hz1 w2) ha
    rw [hM1.srt.get_put] at hl2
    simp only [if_true, Option.getD_some] at hl2
    have hmade2 := hmade.kept hg2 (by simp; omega)
    obtain ⟨w3, hr3, hm3, hg3, hs3⟩ := hmade2.store hu2 (by simp; unfold maxLen; omega) hb v
    have hm2' := hm2.kept hg3 (by simp; omega)
    have hB : Only (oblk B rm) (fun _ => False) u w2 := only_trans (by rw [hw1]; exact only_alloc _) (only_grown hg2 (.inl rfl))
    have hsz1 : w1.heap.size = u.heap.size + 1 := by rw [hw1]; simp
    have Hfin : OutTo balS.cod B rm (fun i => if i = a then sput (rows a) b v else rows i) u w3 := by
      rw [hnil]
      refine ⟨_, h.lay hs hm2' (by omega) (by omega) (sput_ne _ _ _) hm3 (fun k hk hkB => ?_), ⟨hB.grow.trans ⟨hg3.os, hg3.tape, hg3.output, hg3.size⟩, fun k hk hk1 hk2 => ?_⟩, fun k hk => ?_⟩
      · rw [hg3.block k (by omega) (by simp; omega), hg2.block k (by omega) (by simp; omega), hw1]
        exact Below.heap_alloc _ _ k hk
      · rw [hg3.block k (by omega) (by simp; omega)]
        exact hB.block k hk hk1 hk2
      · rcases oblk_put h.map.srt hk with h' | h'
        · exact .inl h'
        · exact .inr (by omega)
    have hrg : w2.rangeAt w.heap.size 0 (balS.f v) := by
      have hus : w.heap.size < u.heap.size := by rw [hu]; simp
      refine rangeAt_block (w := u) (by rw [hu]; exact atS balS w v) ((hg2.block _ (by omega) (by simp; omega)).trans ?_)
      rw [hw1]; exact Below.heap_alloc _ _ _ hus
    have HRG := Lib.hid hrg
    have Hfin := hout _ _ Hfin
    rw [hu] at hl
    have HF := Lib.hid Hfin
    have HL := Lib.hid hl
    have HL2 := Lib.hid hl2
    rw [hw1, hu] at hr2
    rw [hu, World.size_alloc] at hN
    subst hN
    have HR2 := Lib.hid hr2
    have HR3 := Lib.hid hr3
    have hmk : ∀ w, (Instr.makeMap 140 Option.none).run Tryz.prog w = .ok (.map (some w.heap.size)) (w.alloc (.map #[] 0)) := fun w => run_makeMap _ w
    clear hout Hfin h hs hn hra hl hl2 hr2 hr3 hnil hmade hM1 hm2 hg2 hs2 hmade2 hm3 hg3 hs3 hm2' hB hsz1 hBlt hw1 hmm hu hrg hBw
    have q1 : ∀ bm w, (binOp .eql 140 (.map (some bm)) (.map Option.none)).run Tryz.prog w = .ok (.bool false) w := fun bm w => by kernel_rfl
    have q2 : ∀ w, (binOp .eql 140 (.map Option.none) (.map Option.none)).run Tryz.prog w = .ok (.bool true) w := fun w => by kernel_rfl
    go_enter Tryz.func79, Tryz.ntmps79
    have tok1 : True := trivial
    have tok2 : True := trivial
    go_wp2_with (first
      | (at_lookup; have _t := tok1; refine wpl_look rfl _ _ _ _ rfl rfl rfl HL.out ?_; dsimp only [codM, Option.getD]; clear tok1)
      | (at_lookup; refine wpl_look rfl _ _ _ _ rfl rfl rfl HL2.out ?_; dsimp only [codM])
      | (at_mapUpdate; have _t := tok2; refine wpl_upd rfl _ _ _ _ rfl rfl rfl rfl HR2.out ?_; clear tok2)
      | (at_mapUpdate; refine wpl_upd rfl _ _ _ _ rfl rfl rfl rfl HR3.out ?_)
      | (refine wpl_loadS (s := balS) (t := v) (b := w.heap.size) (k := 0) _ rfl rfl rfl rfl HRG.out ?_)
      | fail)
    exact bodyPost_end (results_none rfl _ _ _) rfl ⟨rfl, HF.out⟩

set_option maxRecDepth 100000 in
set_option maxHeartbeats 2000000 in
theorem take_V {B : Nat} {rm : List (Int × Option Nat)} {rows : Int → List (Int × Bal)} {w : World} (h : OutAt balS.cod B rm rows w) {a b : Int} (hr0 : rows a ≠ []) (hlen : (rows a).length ≤ 1000000) (ha : (Lit.int .i64 a).wf = true) (hb : (Lit.int .i64 b).wf = true) :
    Calls Tryz.prog 82 #[.map (some B), .int .i64 a, .int .i64 b] w fun e w' => e = .returned (.tuple #[]) ∧ OutTo balS.cod B rm (fun i => if i = a then sdel (rows a) b else rows i) w w' := by
  have hu1 : Tryz.prog.underlying 141 = some (.map 3 140) := Tryz.underlying141
  have hu2 : Tryz.prog.underlying 140 = some (.map 3 23) := Tryz.underlying140
  have hz1 : ∀ w, (zeroValue 140).run Tryz.prog w = .ok (codM.enc none) w := fun w => Tryz.zeroValue140 w
  obtain ⟨b', hs⟩ := h.has a hr0
  obtain ⟨b1, e, h1, h2, h3⟩ := h.at_ a _ hs
  obtain rfl : b' = b1 := by simpa using e
  have hl := h.map.look (z0 := none) hu1 (hz1 w) ha
  rw [hs] at hl
  obtain ⟨w1, hr1, hm1, hg1, hs1⟩ := h3.drop hu2 hb 0
  have hr1' : ∀ ty, (Builtin.delete_ #[140, 3] ty #[.map (some b'), .int .i64 b]).run Tryz.prog w = .ok (.tuple #[]) w1 := fun ty => hr1
  have hM1 : MapAt codM B rm w1 := h.map.kept hg1 (by simp; exact fun e => h2 e.symm)
  have hl2 := hM1.look (z0 := none) hu1 (hz1 w1) ha
  rw [hs] at hl2
  have hln := hm1.len hu2 0
  have hln' : ∀ ty, (Builtin.len_ #[140] ty #[.map (some b')]).run Tryz.prog w1 = .ok (.int .i64 (sdel (rows a) b).length) w1 := fun ty => hln
  have hO1 : Only (oblk B rm) (fun _ => False) w w1 := only_grown hg1 (.inr ⟨a, hs⟩)
  have hdl : (sdel (rows a) b).length ≤ 1000000 := Nat.le_trans (List.length_filter_le _ _) hlen
  by_cases hz : sdel (rows a) b = []
  · obtain ⟨w2, hr2, hm2, hg2, hs2⟩ := hM1.drop hu1 ha 0
    have hr2' : ∀ ty, (Builtin.delete_ #[141, 3] ty #[.map (some B), .int .i64 a]).run Tryz.prog w1 = .ok (.tuple #[]) w2 := fun ty => hr2
    rw [hz] at hln'
    have Hfin : OutTo balS.cod B rm (fun i => if i = a then sdel (rows a) b else rows i) w w2 := by
      rw [hz]
      refine ⟨_, h.gone hs hm2 (fun k hk hk1 hk2 => ?_), only_trans hO1 (only_grown hg2 (.inl rfl)), fun k hk => .inl (oblk_del h.map.srt hk)⟩
      rw [hg2.block k (by omega) (by simpa using hk1), hg1.block k hk (by simpa using hk2)]
    have HF := Lib.hid Hfin
    have HL := Lib.hid hl
    have HL2 := Lib.hid hl2
    have HR1 := Lib.hid hr1'
    have HR2 := Lib.hid hr2'
    have HN := Lib.hid hln'
    clear Hfin h hs hl hl2 hr1 hr1' hr2 hr2' hln hln' hM1 hm1 hm2 hg1 hg2 hs1 hs2 hO1 hdl hz h1 h2 h3 e hr0 hlen
    go_enter Tryz.func82, Tryz.ntmps82
    have tok1 : True := trivial
    have tok2 : True := trivial
    go_wp2_with (first
      | (at_lookup; have _t := tok1; refine wpl_look rfl _ _ _ _ rfl rfl rfl HL.out ?_; dsimp only [codM, Option.getD]; clear tok1)
      | (at_lookup; refine wpl_look rfl _ _ _ _ rfl rfl rfl HL2.out ?_; dsimp only [codM, Option.getD])
      | (at_delete; have _t := tok2; refine wpl_drop rfl _ _ _ _ rfl rfl rfl (HR1.out _) ?_; clear tok2)
      | (at_delete; refine wpl_drop rfl _ _ _ _ rfl rfl rfl (HR2.out _) ?_)
      | (at_len; refine wpl_len rfl _ _ rfl rfl (HN.out _) ?_; dsimp only [List.length_nil])
      | fail)
    exact bodyPost_end (results_none rfl _ _ _) rfl ⟨rfl, HF.out⟩
  · have Hfin : OutTo balS.cod B rm (fun i => if i = a then sdel (rows a) b else rows i) w w1 :=
      ⟨rm, h.upd hs hz hm1 hg1, hO1, fun k hk => .inl hk⟩
    obtain ⟨n, hn⟩ : ∃ n, n = (sdel (rows a) b).length := ⟨_, rfl⟩
    have hpos : 0 < n := by rw [hn]; exact List.length_pos_iff.2 hz
    have hne : (decide ((n : Int) = 0)) = false := by simp; omega
    have hne' : ((n : Int) == 0) = false := by simp; omega
    rw [← hn] at hln' hdl
    have HF := Lib.hid Hfin
    have HL := Lib.hid hl
    have HL2 := Lib.hid hl2
    have HR1 := Lib.hid hr1'
    have HN := Lib.hid hln'
    clear Hfin h hs hl hl2 hr1 hr1' hln hln' hM1 hm1 hg1 hs1 hO1 hz h1 h2 h3 e hr0 hlen hn
    go_enter Tryz.func82, Tryz.ntmps82
    have tok1 : True := trivial
    go_wp2_with (first
      | (at_lookup; have _t := tok1; refine wpl_look rfl _ _ _ _ rfl rfl rfl HL.out ?_; dsimp only [codM, Option.getD]; clear tok1)
      | (at_lookup; refine wpl_look rfl _ _ _ _ rfl rfl rfl HL2.out ?_; dsimp only [codM, Option.getD])
      | (at_delete; refine wpl_drop rfl _ _ _ _ rfl rfl rfl (HR1.out _) ?_)
      | (at_len; refine wpl_len rfl _ _ rfl rfl (HN.out _) ?_)
      | fail)
    exact bodyPost_end (results_none rfl _ _ _) rfl ⟨rfl, HF.out⟩

set_option maxRecDepth 100000 in
set_option maxHeartbeats 2000000 in
theorem lay_D {B : Nat} {rm : List (Int × Option Nat)} {rows : Int → List (Int × Dlg)} {w : World} (h : OutAt dlgS.cod B rm rows w) (hn : rm.length < maxLen) {a b : Int} (hra : (rows a).length < maxLen) (ha : (Lit.int .i64 a).wf = true) (hb : (Lit.int .i64 b).wf = true) (v : Dlg) :
    Calls Tryz.prog 84 #[.map (some B), .int .i64 a, .int .i64 b, .agg (dlgS.f v).toArray] w fun e w' => e = .returned (.tuple #[]) ∧ OutTo dlgS.cod B rm (fun i => if i = a then sput (rows a) b v else rows i) w w' := by
  have hmm := @run_makeMap Tryz.prog
  have hBw := h.map.lt
  have hu1 : Tryz.prog.underlying 132 = some (.map 3 131) := Tryz.underlying132
  have hu2 : Tryz.prog.underlying 131 = some (.map 3 83) := Tryz.underlying131
  have hz1 : ∀ w, (zeroValue 131).run Tryz.prog w = .ok (codM.enc none) w := fun w => Tryz.zeroValue131 w
  obtain ⟨u, hu⟩ : ∃ u, u = w.alloc (.cells (dlgS.f v).toArray 83) := ⟨_, rfl⟩
  have h : OutAt dlgS.cod B rm rows u := by rw [hu]; exact h.block (fun k hk => Below.heap_alloc _ _ k (h.lt hk))
  have hout : ∀ rows' w', OutTo dlgS.cod B rm rows' u w' → OutTo dlgS.cod B rm rows' w w' := fun rows' w' ho => by rw [hu] at ho; exact ho.alloc
  cases hs : sget rm a with
  | some x =>
    obtain ⟨b', rfl, h1, h2, h3⟩ := h.at_ a x hs
    obtain ⟨w', hr, hm', hg, hsz⟩ := h3.store hu2 hra hb v
    have hl := h.map.look (z0 := none) hu1 (hz1 u) ha
    rw [hs] at hl
    have Hfin : OutTo dlgS.cod B rm (fun i => if i = a then sput (rows a) b v else rows i) u w' :=
      ⟨rm, h.upd hs (sput_ne _ _ _) hm' hg, only_grown hg (.inr ⟨a, hs⟩), fun k hk => .inl hk⟩
    have Hfin := hout _ _ Hfin
    rw [hu] at hl hr
    have HF := Lib.hid Hfin
    have HL := Lib.hid hl
    have HR := Lib.hid hr
    have hrg : (w.alloc (.cells (dlgS.f v).toArray 83)).rangeAt w.heap.size 0 (dlgS.f v) := atS dlgS w v
    have HRG := Lib.hid hrg
    clear hout Hfin h h1 h2 h3 hs hm' hg hsz hn hra hl hr hmm hu hrg hBw
    have q1 : ∀ bm w, (binOp .eql 131 (.map (some bm)) (.map Option.none)).run Tryz.prog w = .ok (.bool false) w := fun bm w => by kernel_rfl
    have q2 : ∀ w, (binOp .eql 131 (.map Option.none) (.map Option.none)).run Tryz.prog w = .ok (.bool true) w := fun w => by kernel_rfl
    go_enter Tryz.func84, Tryz.ntmps84
    go_wp2_with (first
      | (at_lookup; refine wpl_look rfl _ _ _ _ rfl rfl rfl HL.out ?_; dsimp only [codM, Option.getD])
      | (at_mapUpdate; refine wpl_upd rfl _ _ _ _ rfl rfl rfl rfl HR.out ?_)
      | (refine wpl_loadS (s := dlgS) (t := v) (b := w.heap.size) (k := 0) _ rfl rfl rfl rfl HRG.out ?_)
      | fail)
    exact bodyPost_end (results_none rfl _ _ _) rfl ⟨rfl, HF.out⟩
  | none =>
    have hnil := h.isNil hs
    have hl := h.map.look (z0 := none) hu1 (hz1 u) ha
    rw [hs] at hl
    -- a new map, laid in, then written
    obtain ⟨w1, hw1⟩ : ∃ w1, w1 = u.alloc (.map #[] 0) := ⟨_, rfl⟩
    obtain ⟨N, hN⟩ : ∃ N, N = u.heap.size := ⟨_, rfl⟩
    have hmade : MapAt dlgS.cod N [] w1 := by rw [hw1, hN]; exact MapAt.made _ _
    have hM1 : MapAt codM B rm w1 := by rw [hw1]; exact h.map.kept (World.grownBy_alloc u _ none) (by simp)
    have hBlt := h.map.lt
    obtain ⟨w2, hr2, hm2, hg2, hs2⟩ := hM1.store hu1 hn ha (some N)
    have hl2 := hm2.look (z0 := none) hu1 (hz1 w2) ha
    rw [hM1.srt.get_put] at hl2
    simp only [if_true, Option.getD_some] at hl2
    have hmade2 := hmade.kept hg2 (by simp; omega)
    obtain ⟨w3, hr3, hm3, hg3, hs3⟩ := hmade2.store hu2 (by simp; unfold maxLen; omega) hb v
    have hm2' := hm2.kept hg3 (by simp; omega)
    have hB : Only (oblk B rm) (fun _ => False) u w2 := only_trans (by rw [hw1]; exact only_alloc _) (only_grown hg2 (.inl rfl))
    have hsz1 : w1.heap.size = u.heap.size + 1 := by rw [hw1]; simp
    have Hfin : OutTo dlgS.cod B rm (fun i => if i = a then sput (rows a) b v else rows i) u w3 := by
      rw [hnil]
      refine ⟨_, h.lay hs hm2' (by omega) (by omega) (sput_ne _ _ _) hm3 (fun k hk hkB => ?_), ⟨hB.grow.trans ⟨hg3.os, hg3.tape, hg3.output, hg3.size⟩, fun k hk hk1 hk2 => ?_⟩, fun k hk => ?_⟩
      · rw [hg3.block k (by omega) (by simp; omega), hg2.block k (by omega) (by simp; omega), hw1]
        exact Below.heap_alloc _ _ k hk
      · rw [hg3.block k (by omega) (by simp; omega)]
        exact hB.block k hk hk1 hk2
      · rcases oblk_put h.map.srt hk with h' | h'
        · exact .inl h'
        · exact .inr (by omega)
    have hrg : w2.rangeAt w.heap.size 0 (dlgS.f v) := by
      have hus : w.heap.size < u.heap.size := by rw [hu]; simp
      refine rangeAt_block (w := u) (by rw [hu]; exact atS dlgS w v) ((hg2.block _ (by omega) (by simp; omega)).trans ?_)
      rw [hw1]; exact Below.heap_alloc _ _ _ hus
    have HRG := Lib.hid hrg
    have Hfin := hout _ _ Hfin
    rw [hu] at hl
    have HF := Lib.hid Hfin
    have HL := Lib.hid hl
    have HL2 := Lib.hid hl2
    rw [hw1, hu] at hr2
    rw [hu, World.size_alloc] at hN
    subst hN
    have HR2 := Lib.hid hr2
    have HR3 := Lib.hid hr3
    have hmk : ∀ w, (Instr.makeMap 131 Option.none).run Tryz.prog w = .ok (.map (some w.heap.size)) (w.alloc (.map #[] 0)) := fun w => run_makeMap _ w
    clear hout Hfin h hs hn hra hl hl2 hr2 hr3 hnil hmade hM1 hm2 hg2 hs2 hmade2 hm3 hg3 hs3 hm2' hB hsz1 hBlt hw1 hmm hu hrg hBw
    have q1 : ∀ bm w, (binOp .eql 131 (.map (some bm)) (.map Option.none)).run Tryz.prog w = .ok (.bool false) w := fun bm w => by kernel_rfl
    have q2 : ∀ w, (binOp .eql 131 (.map Option.none) (.map Option.none)).run Tryz.prog w = .ok (.bool true) w := fun w => by kernel_rfl
    go_enter Tryz.func84, Tryz.ntmps84
    have tok1 : True := trivial
    have tok2 : True := trivial
    go_wp2_with (first
      | (at_lookup; have _t := tok1; refine wpl_look rfl _ _ _ _ rfl rfl rfl HL.out ?_; dsimp only [codM, Option.getD]; clear tok1)
      | (at_lookup; refine wpl_look rfl _ _ _ _ rfl rfl rfl HL2.out ?_; dsimp only [codM])
      | (at_mapUpdate; have _t := tok2; refine wpl_upd rfl _ _ _ _ rfl rfl rfl rfl HR2.out ?_; clear tok2)
      | (at_mapUpdate; refine wpl_upd rfl _ _ _ _ rfl rfl rfl rfl HR3.out ?_)
      | (refine wpl_loadS (s := dlgS) (t := v) (b := w.heap.size) (k := 0) _ rfl rfl rfl rfl HRG.out ?_)
      | fail)
    exact bodyPost_end (results_none rfl _ _ _) rfl ⟨rfl, HF.out⟩

set_option maxRecDepth 100000 in
set_option maxHeartbeats 2000000 in
theorem take_D {B : Nat} {rm : List (Int × Option Nat)} {rows : Int → List (Int × Dlg)} {w : World} (h : OutAt dlgS.cod B rm rows w) {a b : Int} (hr0 : rows a ≠ []) (hlen : (rows a).length ≤ 1000000) (ha : (Lit.int .i64 a).wf = true) (hb : (Lit.int .i64 b).wf = true) :
    Calls Tryz.prog 86 #[.map (some B), .int .i64 a, .int .i64 b] w fun e w' => e = .returned (.tuple #[]) ∧ OutTo dlgS.cod B rm (fun i => if i = a then sdel (rows a) b else rows i) w w' := by
  have hu1 : Tryz.prog.underlying 132 = some (.map 3 131) := Tryz.underlying132
  have hu2 : Tryz.prog.underlying 131 = some (.map 3 83) := Tryz.underlying131
  have hz1 : ∀ w, (zeroValue 131).run Tryz.prog w = .ok (codM.enc none) w := fun w => Tryz.zeroValue131 w
  obtain ⟨b', hs⟩ := h.has a hr0
  obtain ⟨b1, e, h1, h2, h3⟩ := h.at_ a _ hs
  obtain rfl : b' = b1 := by simpa using e
  have hl := h.map.look (z0 := none) hu1 (hz1 w) ha
  rw [hs] at hl
  obtain ⟨w1, hr1, hm1, hg1, hs1⟩ := h3.drop hu2 hb 0
  have hr1' : ∀ ty, (Builtin.delete_ #[131, 3] ty #[.map (some b'), .int .i64 b]).run Tryz.prog w = .ok (.tuple #[]) w1 := fun ty => hr1
  have hM1 : MapAt codM B rm w1 := h.map.kept hg1 (by simp; exact fun e => h2 e.symm)
  have hl2 := hM1.look (z0 := none) hu1 (hz1 w1) ha
  rw [hs] at hl2
  have hln := hm1.len hu2 0
  have hln' : ∀ ty, (Builtin.len_ #[131] ty #[.map (some b')]).run Tryz.prog w1 = .ok (.int .i64 (sdel (rows a) b).length) w1 := fun ty => hln
  have hO1 : Only (oblk B rm) (fun _ => False) w w1 := only_grown hg1 (.inr ⟨a, hs⟩)
  have hdl : (sdel (rows a) b).length ≤ 1000000 := Nat.le_trans (List.length_filter_le _ _) hlen
  by_cases hz : sdel (rows a) b = []
  · obtain ⟨w2, hr2, hm2, hg2, hs2⟩ := hM1.drop hu1 ha 0
    have hr2' : ∀ ty, (Builtin.delete_ #[132, 3] ty #[.map (some B), .int .i64 a]).run Tryz.prog w1 = .ok (.tuple #[]) w2 := fun ty => hr2
    rw [hz] at hln'
    have Hfin : OutTo dlgS.cod B rm (fun i => if i = a then sdel (rows a) b else rows i) w w2 := by
      rw [hz]
      refine ⟨_, h.gone hs hm2 (fun k hk hk1 hk2 => ?_), only_trans hO1 (only_grown hg2 (.inl rfl)), fun k hk => .inl (oblk_del h.map.srt hk)⟩
      rw [hg2.block k (by omega) (by simpa using hk1), hg1.block k hk (by simpa using hk2)]
    have HF := Lib.hid Hfin
    have HL := Lib.hid hl
    have HL2 := Lib.hid hl2
    have HR1 := Lib.hid hr1'
    have HR2 := Lib.hid hr2'
    have HN := Lib.hid hln'
    clear Hfin h hs hl hl2 hr1 hr1' hr2 hr2' hln hln' hM1 hm1 hm2 hg1 hg2 hs1 hs2 hO1 hdl hz h1 h2 h3 e hr0 hlen
    go_enter Tryz.func86, Tryz.ntmps86
    have tok1 : True := trivial
    have tok2 : True := trivial
    go_wp2_with (first
      | (at_lookup; have _t := tok1; refine wpl_look rfl _ _ _ _ rfl rfl rfl HL.out ?_; dsimp only [codM, Option.getD]; clear tok1)
      | (at_lookup; refine wpl_look rfl _ _ _ _ rfl rfl rfl HL2.out ?_; dsimp only [codM, Option.getD])
      | (at_delete; have _t := tok2; refine wpl_drop rfl _ _ _ _ rfl rfl rfl (HR1.out _) ?_; clear tok2)
      | (at_delete; refine wpl_drop rfl _ _ _ _ rfl rfl rfl (HR2.out _) ?_)
      | (at_len; refine wpl_len rfl _ _ rfl rfl (HN.out _) ?_; dsimp only [List.length_nil])
      | fail)
    exact bodyPost_end (results_none rfl _ _ _) rfl ⟨rfl, HF.out⟩
  · have Hfin : OutTo dlgS.cod B rm (fun i => if i = a then sdel (rows a) b else rows i) w w1 :=
      ⟨rm, h.upd hs hz hm1 hg1, hO1, fun k hk => .inl hk⟩
    obtain ⟨n, hn⟩ : ∃ n, n = (sdel (rows a) b).length := ⟨_, rfl⟩
    have hpos : 0 < n := by rw [hn]; exact List.length_pos_iff.2 hz
    have hne : (decide ((n : Int) = 0)) = false := by simp; omega
    have hne' : ((n : Int) == 0) = false := by simp; omega
    rw [← hn] at hln' hdl
    have HF := Lib.hid Hfin
    have HL := Lib.hid hl
    have HL2 := Lib.hid hl2
    have HR1 := Lib.hid hr1'
    have HN := Lib.hid hln'
    clear Hfin h hs hl hl2 hr1 hr1' hln hln' hM1 hm1 hg1 hs1 hO1 hz h1 h2 h3 e hr0 hlen hn
    go_enter Tryz.func86, Tryz.ntmps86
    have tok1 : True := trivial
    go_wp2_with (first
      | (at_lookup; have _t := tok1; refine wpl_look rfl _ _ _ _ rfl rfl rfl HL.out ?_; dsimp only [codM, Option.getD]; clear tok1)
      | (at_lookup; refine wpl_look rfl _ _ _ _ rfl rfl rfl HL2.out ?_; dsimp only [codM, Option.getD])
      | (at_delete; refine wpl_drop rfl _ _ _ _ rfl rfl rfl (HR1.out _) ?_)
      | (at_len; refine wpl_len rfl _ _ rfl rfl (HN.out _) ?_)
      | fail)
    exact bodyPost_end (results_none rfl _ _ _) rfl ⟨rfl, HF.out⟩

set_option maxRecDepth 100000 in
set_option maxHeartbeats 2000000 in
theorem lay_W {B : Nat} {rm : List (Int × Option Nat)} {rows : Int → List (Int × Wgt)} {w : World} (h : OutAt wgtS.cod B rm rows w) (hn : rm.length < maxLen) {a b : Int} (hra : (rows a).length < maxLen) (ha : (Lit.int .i64 a).wf = true) (hb : (Lit.int .i64 b).wf = true) (v : Wgt) :
    Calls Tryz.prog 100 #[.map (some B), .int .i64 a, .int .i64 b, .agg (wgtS.f v).toArray] w fun e w' => e = .returned (.tuple #[]) ∧ OutTo wgtS.cod B rm (fun i => if i = a then sput (rows a) b v else rows i) w w' := by
  have hmm := @run_makeMap Tryz.prog
  have hBw := h.map.lt
  have hu1 : Tryz.prog.underlying 158 = some (.map 3 157) := Tryz.underlying158
  have hu2 : Tryz.prog.underlying 157 = some (.map 3 49) := Tryz.underlying157
  have hz1 : ∀ w, (zeroValue 157).run Tryz.prog w = .ok (codM.enc none) w := fun w => Tryz.zeroValue157 w
  obtain ⟨u, hu⟩ : ∃ u, u = w.alloc (.cells (wgtS.f v).toArray 49) := ⟨_, rfl⟩
  have h : OutAt wgtS.cod B rm rows u := by rw [hu]; exact h.block (fun k hk => Below.heap_alloc _ _ k (h.lt hk))
  have hout : ∀ rows' w', OutTo wgtS.cod B rm rows' u w' → OutTo wgtS.cod B rm rows' w w' := fun rows' w' ho => by rw [hu] at ho; exact ho.alloc
  cases hs : sget rm a with
  | some x =>
    obtain ⟨b', rfl, h1, h2, h3⟩ := h.at_ a x hs
    obtain ⟨w', hr, hm', hg, hsz⟩ := h3.store hu2 hra hb v
    have hl := h.map.look (z0 := none) hu1 (hz1 u) ha
    rw [hs] at hl
    have Hfin : OutTo wgtS.cod B rm (fun i => if i = a then sput (rows a) b v else rows i) u w' :=
      ⟨rm, h.upd hs (sput_ne _ _ _) hm' hg, only_grown hg (.inr ⟨a, hs⟩), fun k hk => .inl hk⟩
    have Hfin := hout _ _ Hfin
    rw [hu] at hl hr
    have HF := Lib.hid Hfin
    have HL := Lib.hid hl
    have HR := Lib.hid hr
    have hrg : (w.alloc (.cells (wgtS.f v).toArray 49)).rangeAt w.heap.size 0 (wgtS.f v) := atS wgtS w v
    have HRG := Lib.hid hrg
    clear hout Hfin h h1 h2 h3 hs hm' hg hsz hn hra hl hr hmm hu hrg hBw
    have q1 : ∀ bm w, (binOp .eql 157 (.map (some bm)) (.map Option.none)).run Tryz.prog w = .ok (.bool false) w := fun bm w => by kernel_rfl
    have q2 : ∀ w, (binOp .eql 157 (.map Option.none) (.map Option.none)).run Tryz.prog w = .ok (.bool true) w := fun w => by kernel_rfl
    go_enter Tryz.func100, Tryz.ntmps100
    go_wp2_with (first
      | (at_lookup; refine wpl_look rfl _ _ _ _ rfl rfl rfl HL.out ?_; dsimp only [codM, Option.getD])
      | (at_mapUpdate; refine wpl_upd rfl _ _ _ _ rfl rfl rfl rfl HR.out ?_)
      | (refine wpl_loadS (s := wgtS) (t := v) (b := w.heap.size) (k := 0) _ rfl rfl rfl rfl HRG.out ?_)
      | fail)
    exact bodyPost_end (results_none rfl _ _ _) rfl ⟨rfl, HF.out⟩
  | none =>
    have hnil := h.isNil hs
    have hl := h.map.look (z0 := none) hu1 (hz1 u) ha
    rw [hs] at hl
    -- a new map, laid in, then written
    obtain ⟨w1, hw1⟩ : ∃ w1, w1 = u.alloc (.map #[] 0) := ⟨_, rfl⟩
    obtain ⟨N, hN⟩ : ∃ N, N = u.heap.size := ⟨_, rfl⟩
    have hmade : MapAt wgtS.cod N [] w1 := by rw [hw1, hN]; exact MapAt.made _ _
    have hM1 : MapAt codM B rm w1 := by rw [hw1]; exact h.map.kept (World.grownBy_alloc u _ none) (by simp)
    have hBlt := h.map.lt
    obtain ⟨w2, hr2, hm2, hg2, hs2⟩ := hM1.store hu1 hn ha (some N)
    have hl2 := hm2.look (z0 := none) hu1 (hz1 w2) ha
    rw [hM1.srt.get_put] at hl2
    simp only [if_true, Option.getD_some] at hl2
    have hmade2 := hmade.kept hg2 (by simp; omega)
    obtain ⟨w3, hr3, hm3, hg3, hs3⟩ := hmade2.store hu2 (by simp; unfold maxLen; omega) hb v
    have hm2' := hm2.kept hg3 (by simp; omega)
    have hB : Only (oblk B rm) (fun _ => False) u w2 := only_trans (by rw [hw1]; exact only_alloc _) (only_grown hg2 (.inl rfl))
    have hsz1 : w1.heap.size = u.heap.size + 1 := by rw [hw1]; simp
    have Hfin : OutTo wgtS.cod B rm (fun i => if i = a then sput (rows a) b v else rows i) u w3 := by
      rw [hnil]
      refine ⟨_, h.lay hs hm2' (by omega) (by omega) (sput_ne _ _ _) hm3 (fun k hk hkB => ?_), ⟨hB.grow.trans ⟨hg3.os, hg3.tape, hg3.output, hg3.size⟩, fun k hk hk1 hk2 => ?_⟩, fun k hk => ?_⟩
      · rw [hg3.block k (by omega) (by simp; omega), hg2.block k (by omega) (by simp; omega), hw1]
        exact Below.heap_alloc _ _ k hk
      · rw [hg3.block k (by omega) (by simp; omega)]
        exact hB.block k hk hk1 hk2
      · rcases oblk_put h.map.srt hk with h' | h'
        · exact .inl h'
        · exact .inr (by omega)
    have hrg : w2.rangeAt w.heap.size 0 (wgtS.f v) := by
      have hus : w.heap.size < u.heap.size := by rw [hu]; simp
      refine rangeAt_block (w := u) (by rw [hu]; exact atS wgtS w v) ((hg2.block _ (by omega) (by simp; omega)).trans ?_)
      rw [hw1]; exact Below.heap_alloc _ _ _ hus
    have HRG := Lib.hid hrg
    have Hfin := hout _ _ Hfin
    rw [hu] at hl
    have HF := Lib.hid Hfin
    have HL := Lib.hid hl
    have HL2 := Lib.hid hl2
    rw [hw1, hu] at hr2
    rw [hu, World.size_alloc] at hN
    subst hN
    have HR2 := Lib.hid hr2
    have HR3 := Lib.hid hr3
    have hmk : ∀ w, (Instr.makeMap 157 Option.none).run Tryz.prog w = .ok (.map (some w.heap.size)) (w.alloc (.map #[] 0)) := fun w => run_makeMap _ w
    clear hout Hfin h hs hn hra hl hl2 hr2 hr3 hnil hmade hM1 hm2 hg2 hs2 hmade2 hm3 hg3 hs3 hm2' hB hsz1 hBlt hw1 hmm hu hrg hBw
    have q1 : ∀ bm w, (binOp .eql 157 (.map (some bm)) (.map Option.none)).run Tryz.prog w = .ok (.bool false) w := fun bm w => by kernel_rfl
    have q2 : ∀ w, (binOp .eql 157 (.map Option.none) (.map Option.none)).run Tryz.prog w = .ok (.bool true) w := fun w => by kernel_rfl
    go_enter Tryz.func100, Tryz.ntmps100
    have tok1 : True := trivial
    have tok2 : True := trivial
    go_wp2_with (first
      | (at_lookup; have _t := tok1; refine wpl_look rfl _ _ _ _ rfl rfl rfl HL.out ?_; dsimp only [codM, Option.getD]; clear tok1)
      | (at_lookup; refine wpl_look rfl _ _ _ _ rfl rfl rfl HL2.out ?_; dsimp only [codM])
      | (at_mapUpdate; have _t := tok2; refine wpl_upd rfl _ _ _ _ rfl rfl rfl rfl HR2.out ?_; clear tok2)
      | (at_mapUpdate; refine wpl_upd rfl _ _ _ _ rfl rfl rfl rfl HR3.out ?_)
      | (refine wpl_loadS (s := wgtS) (t := v) (b := w.heap.size) (k := 0) _ rfl rfl rfl rfl HRG.out ?_)
      | fail)
    exact bodyPost_end (results_none rfl _ _ _) rfl ⟨rfl, HF.out⟩

set_option maxRecDepth 100000 in
set_option maxHeartbeats 2000000 in
theorem lay_Q {B : Nat} {rm : List (Int × Option Nat)} {rows : Int → List (Int × Wgt)} {w : World} (h : OutAt priS.cod B rm rows w) (hn : rm.length < maxLen) {a b : Int} (hra : (rows a).length < maxLen) (ha : (Lit.int .i64 a).wf = true) (hb : (Lit.int .i64 b).wf = true) (v : Wgt) :
    Calls Tryz.prog 99 #[.map (some B), .int .i64 a, .int .i64 b, .agg (priS.f v).toArray] w fun e w' => e = .returned (.tuple #[]) ∧ OutTo priS.cod B rm (fun i => if i = a then sput (rows a) b v else rows i) w w' := by
  have hmm := @run_makeMap Tryz.prog
  have hBw := h.map.lt
  have hu1 : Tryz.prog.underlying 136 = some (.map 3 135) := Tryz.underlying136
  have hu2 : Tryz.prog.underlying 135 = some (.map 3 96) := Tryz.underlying135
  have hz1 : ∀ w, (zeroValue 135).run Tryz.prog w = .ok (codM.enc none) w := fun w => Tryz.zeroValue135 w
  obtain ⟨u, hu⟩ : ∃ u, u = w.alloc (.cells (priS.f v).toArray 96) := ⟨_, rfl⟩
  have h : OutAt priS.cod B rm rows u := by rw [hu]; exact h.block (fun k hk => Below.heap_alloc _ _ k (h.lt hk))
  have hout : ∀ rows' w', OutTo priS.cod B rm rows' u w' → OutTo priS.cod B rm rows' w w' := fun rows' w' ho => by rw [hu] at ho; exact ho.alloc
  cases hs : sget rm a with
  | some x =>
    obtain ⟨b', rfl, h1, h2, h3⟩ := h.at_ a x hs
    obtain ⟨w', hr, hm', hg, hsz⟩ := h3.store hu2 hra hb v
    have hl := h.map.look (z0 := none) hu1 (hz1 u) ha
    rw [hs] at hl
    have Hfin : OutTo priS.cod B rm (fun i => if i = a then sput (rows a) b v else rows i) u w' :=
      ⟨rm, h.upd hs (sput_ne _ _ _) hm' hg, only_grown hg (.inr ⟨a, hs⟩), fun k hk => .inl hk⟩
    have Hfin := hout _ _ Hfin
    rw [hu] at hl hr
    have HF := Lib.hid Hfin
    have HL := Lib.hid hl
    have HR := Lib.hid hr
    have hrg : (w.alloc (.cells (priS.f v).toArray 96)).rangeAt w.heap.size 0 (priS.f v) := atS priS w v
    have HRG := Lib.hid hrg
    clear hout Hfin h h1 h2 h3 hs hm' hg hsz hn hra hl hr hmm hu hrg hBw
    have q1 : ∀ bm w, (binOp .eql 135 (.map (some bm)) (.map Option.none)).run Tryz.prog w = .ok (.bool false) w := fun bm w => by kernel_rfl
    have q2 : ∀ w, (binOp .eql 135 (.map Option.none) (.map Option.none)).run Tryz.prog w = .ok (.bool true) w := fun w => by kernel_rfl
    go_enter Tryz.func99, Tryz.ntmps99
    go_wp2_with (first
      | (at_lookup; refine wpl_look rfl _ _ _ _ rfl rfl rfl HL.out ?_; dsimp only [codM, Option.getD])
      | (at_mapUpdate; refine wpl_upd rfl _ _ _ _ rfl rfl rfl rfl HR.out ?_)
      | (refine wpl_loadS (s := priS) (t := v) (b := w.heap.size) (k := 0) _ rfl rfl rfl rfl HRG.out ?_)
      | fail)
    exact bodyPost_end (results_none rfl _ _ _) rfl ⟨rfl, HF.out⟩
  | none =>
    have hnil := h.isNil hs
    have hl := h.map.look (z0 := none) hu1 (hz1 u) ha
    rw [hs] at hl
    -- a new map, laid in, then written
    obtain ⟨w1, hw1⟩ : ∃ w1, w1 = u.alloc (.map #[] 0) := ⟨_, rfl⟩
    obtain ⟨N, hN⟩ : ∃ N, N = u.heap.size := ⟨_, rfl⟩
    have hmade : MapAt priS.cod N [] w1 := by rw [hw1, hN]; exact MapAt.made _ _
    have hM1 : MapAt codM B rm w1 := by rw [hw1]; exact h.map.kept (World.grownBy_alloc u _ none) (by simp)
    have hBlt := h.map.lt
    obtain ⟨w2, hr2, hm2, hg2, hs2⟩ := hM1.store hu1 hn ha (some N)
    have hl2 := hm2.look (z0 := none) hu1 (hz1 w2) ha
    rw [hM1.srt.get_put] at hl2
    simp only [if_true, Option.getD_some] at hl2
    have hmade2 := hmade.kept hg2 (by simp; omega)
    obtain ⟨w3, hr3, hm3, hg3, hs3⟩ := hmade2.store hu2 (by simp; unfold maxLen; omega) hb v
    have hm2' := hm2.kept hg3 (by simp; omega)
    have hB : Only (oblk B rm) (fun _ => False) u w2 := only_trans (by rw [hw1]; exact only_alloc _) (only_grown hg2 (.inl rfl))
    have hsz1 : w1.heap.size = u.heap.size + 1 := by rw [hw1]; simp
    have Hfin : OutTo priS.cod B rm (fun i => if i = a then sput (rows a) b v else rows i) u w3 := by
      rw [hnil]
      refine ⟨_, h.lay hs hm2' (by omega) (by omega) (sput_ne _ _ _) hm3 (fun k hk hkB => ?_), ⟨hB.grow.trans ⟨hg3.os, hg3.tape, hg3.output, hg3.size⟩, fun k hk hk1 hk2 => ?_⟩, fun k hk => ?_⟩
      · rw [hg3.block k (by omega) (by simp; omega), hg2.block k (by omega) (by simp; omega), hw1]
        exact Below.heap_alloc _ _ k hk
      · rw [hg3.block k (by omega) (by simp; omega)]
        exact hB.block k hk hk1 hk2
      · rcases oblk_put h.map.srt hk with h' | h'
        · exact .inl h'
        · exact .inr (by omega)
    have hrg : w2.rangeAt w.heap.size 0 (priS.f v) := by
      have hus : w.heap.size < u.heap.size := by rw [hu]; simp
      refine rangeAt_block (w := u) (by rw [hu]; exact atS priS w v) ((hg2.block _ (by omega) (by simp; omega)).trans ?_)
      rw [hw1]; exact Below.heap_alloc _ _ _ hus
    have HRG := Lib.hid hrg
    have Hfin := hout _ _ Hfin
    rw [hu] at hl
    have HF := Lib.hid Hfin
    have HL := Lib.hid hl
    have HL2 := Lib.hid hl2
    rw [hw1, hu] at hr2
    rw [hu, World.size_alloc] at hN
    subst hN
    have HR2 := Lib.hid hr2
    have HR3 := Lib.hid hr3
    have hmk : ∀ w, (Instr.makeMap 135 Option.none).run Tryz.prog w = .ok (.map (some w.heap.size)) (w.alloc (.map #[] 0)) := fun w => run_makeMap _ w
    clear hout Hfin h hs hn hra hl hl2 hr2 hr3 hnil hmade hM1 hm2 hg2 hs2 hmade2 hm3 hg3 hs3 hm2' hB hsz1 hBlt hw1 hmm hu hrg hBw
    have q1 : ∀ bm w, (binOp .eql 135 (.map (some bm)) (.map Option.none)).run Tryz.prog w = .ok (.bool false) w := fun bm w => by kernel_rfl
    have q2 : ∀ w, (binOp .eql 135 (.map Option.none) (.map Option.none)).run Tryz.prog w = .ok (.bool true) w := fun w => by kernel_rfl
    go_enter Tryz.func99, Tryz.ntmps99
    have tok1 : True := trivial
    have tok2 : True := trivial
    go_wp2_with (first
      | (at_lookup; have _t := tok1; refine wpl_look rfl _ _ _ _ rfl rfl rfl HL.out ?_; dsimp only [codM, Option.getD]; clear tok1)
      | (at_lookup; refine wpl_look rfl _ _ _ _ rfl rfl rfl HL2.out ?_; dsimp only [codM])
      | (at_mapUpdate; have _t := tok2; refine wpl_upd rfl _ _ _ _ rfl rfl rfl rfl HR2.out ?_; clear tok2)
      | (at_mapUpdate; refine wpl_upd rfl _ _ _ _ rfl rfl rfl rfl HR3.out ?_)
      | (refine wpl_loadS (s := priS) (t := v) (b := w.heap.size) (k := 0) _ rfl rfl rfl rfl HRG.out ?_)
      | fail)
    exact bodyPost_end (results_none rfl _ _ _) rfl ⟨rfl, HF.out⟩

set_option maxRecDepth 100000 in
set_option maxHeartbeats 2000000 in
theorem take_Q {B : Nat} {rm : List (Int × Option Nat)} {rows : Int → List (Int × Wgt)} {w : World} (h : OutAt priS.cod B rm rows w) {a b : Int} (hr0 : rows a ≠ []) (hlen : (rows a).length ≤ 1000000) (ha : (Lit.int .i64 a).wf = true) (hb : (Lit.int .i64 b).wf = true) :
    Calls Tryz.prog 87 #[.map (some B), .int .i64 a, .int .i64 b] w fun e w' => e = .returned (.tuple #[]) ∧ OutTo priS.cod B rm (fun i => if i = a then sdel (rows a) b else rows i) w w' := by
  have hu1 : Tryz.prog.underlying 136 = some (.map 3 135) := Tryz.underlying136
  have hu2 : Tryz.prog.underlying 135 = some (.map 3 96) := Tryz.underlying135
  have hz1 : ∀ w, (zeroValue 135).run Tryz.prog w = .ok (codM.enc none) w := fun w => Tryz.zeroValue135 w
  obtain ⟨b', hs⟩ := h.has a hr0
  obtain ⟨b1, e, h1, h2, h3⟩ := h.at_ a _ hs
  obtain rfl : b' = b1 := by simpa using e
  have hl := h.map.look (z0 := none) hu1 (hz1 w) ha
  rw [hs] at hl
  obtain ⟨w1, hr1, hm1, hg1, hs1⟩ := h3.drop hu2 hb 0
  have hr1' : ∀ ty, (Builtin.delete_ #[135, 3] ty #[.map (some b'), .int .i64 b]).run Tryz.prog w = .ok (.tuple #[]) w1 := fun ty => hr1
  have hM1 : MapAt codM B rm w1 := h.map.kept hg1 (by simp; exact fun e => h2 e.symm)
  have hl2 := hM1.look (z0 := none) hu1 (hz1 w1) ha
  rw [hs] at hl2
  have hln := hm1.len hu2 0
  have hln' : ∀ ty, (Builtin.len_ #[135] ty #[.map (some b')]).run Tryz.prog w1 = .ok (.int .i64 (sdel (rows a) b).length) w1 := fun ty => hln
  have hO1 : Only (oblk B rm) (fun _ => False) w w1 := only_grown hg1 (.inr ⟨a, hs⟩)
  have hdl : (sdel (rows a) b).length ≤ 1000000 := Nat.le_trans (List.length_filter_le _ _) hlen
  by_cases hz : sdel (rows a) b = []
  · obtain ⟨w2, hr2, hm2, hg2, hs2⟩ := hM1.drop hu1 ha 0
    have hr2' : ∀ ty, (Builtin.delete_ #[136, 3] ty #[.map (some B), .int .i64 a]).run Tryz.prog w1 = .ok (.tuple #[]) w2 := fun ty => hr2
    rw [hz] at hln'
    have Hfin : OutTo priS.cod B rm (fun i => if i = a then sdel (rows a) b else rows i) w w2 := by
      rw [hz]
      refine ⟨_, h.gone hs hm2 (fun k hk hk1 hk2 => ?_), only_trans hO1 (only_grown hg2 (.inl rfl)), fun k hk => .inl (oblk_del h.map.srt hk)⟩
      rw [hg2.block k (by omega) (by simpa using hk1), hg1.block k hk (by simpa using hk2)]
    have HF := Lib.hid Hfin
    have HL := Lib.hid hl
    have HL2 := Lib.hid hl2
    have HR1 := Lib.hid hr1'
    have HR2 := Lib.hid hr2'
    have HN := Lib.hid hln'
    clear Hfin h hs hl hl2 hr1 hr1' hr2 hr2' hln hln' hM1 hm1 hm2 hg1 hg2 hs1 hs2 hO1 hdl hz h1 h2 h3 e hr0 hlen
    go_enter Tryz.func87, Tryz.ntmps87
    have tok1 : True := trivial
    have tok2 : True := trivial
    go_wp2_with (first
      | (at_lookup; have _t := tok1; refine wpl_look rfl _ _ _ _ rfl rfl rfl HL.out ?_; dsimp only [codM, Option.getD]; clear tok1)
      | (at_lookup; refine wpl_look rfl _ _ _ _ rfl rfl rfl HL2.out ?_; dsimp only [codM, Option.getD])
      | (at_delete; have _t := tok2; refine wpl_drop rfl _ _ _ _ rfl rfl rfl (HR1.out _) ?_; clear tok2)
      | (at_delete; refine wpl_drop rfl _ _ _ _ rfl rfl rfl (HR2.out _) ?_)
      | (at_len; refine wpl_len rfl _ _ rfl rfl (HN.out _) ?_; dsimp only [List.length_nil])
      | fail)
    exact bodyPost_end (results_none rfl _ _ _) rfl ⟨rfl, HF.out⟩
  · have Hfin : OutTo priS.cod B rm (fun i => if i = a then sdel (rows a) b else rows i) w w1 :=
      ⟨rm, h.upd hs hz hm1 hg1, hO1, fun k hk => .inl hk⟩
    obtain ⟨n, hn⟩ : ∃ n, n = (sdel (rows a) b).length := ⟨_, rfl⟩
    have hpos : 0 < n := by rw [hn]; exact List.length_pos_iff.2 hz
    have hne : (decide ((n : Int) = 0)) = false := by simp; omega
    have hne' : ((n : Int) == 0) = false := by simp; omega
    rw [← hn] at hln' hdl
    have HF := Lib.hid Hfin
    have HL := Lib.hid hl
    have HL2 := Lib.hid hl2
    have HR1 := Lib.hid hr1'
    have HN := Lib.hid hln'
    clear Hfin h hs hl hl2 hr1 hr1' hln hln' hM1 hm1 hg1 hs1 hO1 hz h1 h2 h3 e hr0 hlen hn
    go_enter Tryz.func87, Tryz.ntmps87
    have tok1 : True := trivial
    go_wp2_with (first
      | (at_lookup; have _t := tok1; refine wpl_look rfl _ _ _ _ rfl rfl rfl HL.out ?_; dsimp only [codM, Option.getD]; clear tok1)
      | (at_lookup; refine wpl_look rfl _ _ _ _ rfl rfl rfl HL2.out ?_; dsimp only [codM, Option.getD])
      | (at_delete; refine wpl_drop rfl _ _ _ _ rfl rfl rfl (HR1.out _) ?_)
      | (at_len; refine wpl_len rfl _ _ rfl rfl (HN.out _) ?_)
      | fail)
    exact bodyPost_end (results_none rfl _ _ _) rfl ⟨rfl, HF.out⟩
end Go.Proofs.YtlnjcfgihklppaaGreat
end
