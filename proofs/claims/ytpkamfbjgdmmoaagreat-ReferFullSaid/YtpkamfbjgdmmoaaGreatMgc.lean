/-
  Joined texts.
-/
import Derived.Deep.RegionHeld3
import Derived.Test.YtpkamfbjgdmmoaaGreatMgb

section
namespace Go.Proofs.YtpkamfbjgdmmoaaGreat
open Go.RowKit Go.Maps
set_option linter.unusedVariables false
set_option linter.unusedSimpArgs false


theorem grid_New_R (w : World) : Calls Tryz.prog 80 #[] w fun e w' => e = .returned (.pointer (some ⟨w.heap.size, 0, none⟩)) ∧ w' = w.alloc (.cells #[.map none, .map none, .int .i64 0] 173) := by
  go_enter Tryz.func80, Tryz.ntmps80
  go_wp2
  go_ret
  exact ⟨rfl, rfl⟩
theorem GrAt.new_R (w : World) : GrAt rfS.cod 173 w.heap.size [] (fun k => k = w.heap.size) (w.alloc (.cells #[.map none, .map none, .int .i64 0] 173)) :=
  ⟨List.Pairwise.nil, rfl, fun k hk => by subst hk; simp, .inl ⟨rfl, World.alloc_heap_new w _⟩⟩
set_option maxRecDepth 100000 in
set_option maxHeartbeats 2000000 in
theorem grid_GetE_R {g : Nat} {M : Cls Rfm} {F : FP} {w : World} (h : GrAt rfS.cod 173 g M F w) {a b : Int} (ha : (Lit.int .i64 a).wf = true) (hb : (Lit.int .i64 b).wf = true) :
    Calls Tryz.prog 61 #[.pointer (some ⟨g, 0, none⟩), .int .i64 a, .int .i64 b] w fun e w' => e = .returned (.tuple #[rfS.v ((cget M a b).getD rfS.zero), .bool (cget M a b).isSome]) ∧ w' = rfS.getW w ((cget M a b).getD rfS.zero) := by
  have hu1 : Tryz.prog.underlying 170 = some (.map 3 200) := Tryz.underlying170
  have hu2 : Tryz.prog.underlying 200 = some (.map 3 56) := Tryz.underlying200
  have hz1 : ∀ w, (zeroValue 200).run Tryz.prog w = .ok (codM.enc none) w := fun w => Tryz.zeroValue200 w
  have hz2 : ∀ w, (zeroValue 56).run Tryz.prog w = .ok (rfS.cod.enc rfS.zero) w := fun w => rfS.zeroRun w
  obtain ⟨W0, hW0⟩ : ∃ W0, W0 = w.alloc (rfS.obj rfS.zero) := ⟨_, rfl⟩
  have hB0 : Below w.heap.size w W0 := by rw [hW0]; exact (Below.refl _ w).alloc (Nat.le_refl _) _
  have h0 : GrAt rfS.cod 173 g M F W0 := h.keep (Grow.of_below hB0) (fun k hk => hB0.block k (h.2.2.1 k hk))
  have key : ∃ mv mi, W0.cell? ⟨g, 0, none⟩ = some (.map mv) ∧ (Instr.lookup 170 (.map mv) (.int .i64 a) false).run Tryz.prog W0 = .ok (.map mi) W0 ∧
      (Instr.lookup 200 (.map mi) (.int .i64 b) true).run Tryz.prog W0 = .ok (.tuple #[rfS.v ((cget M a b).getD rfS.zero), .bool (cget M a b).isSome]) W0 := by
    obtain ⟨_, _, _, (⟨rfl, hh⟩ | ⟨B, C, rm, cm, hh, hM, _⟩)⟩ := h0
    · refine ⟨none, none, by rw [World.cell?, hh]; rfl, nil_look hu1 (hz1 W0) ha false, ?_⟩
      exact nil_look hu2 (hz2 W0) hb true
    · have hl := hM.row.map.look (z0 := none) hu1 (hz1 W0) ha
      cases hs : sget rm a with
      | none =>
        rw [hs] at hl
        refine ⟨some B, none, by rw [World.cell?, hh]; rfl, hl, ?_⟩
        have hr := hM.row.isNil hs
        have : cget M a b = none := by rw [cget, hr]; rfl
        rw [this]
        exact nil_look hu2 (hz2 W0) hb true
      | some x =>
        obtain ⟨b', rfl, _, _, h3⟩ := hM.row.at_ a x hs
        rw [hs] at hl
        exact ⟨some B, some b', by rw [World.cell?, hh]; rfl, hl, h3.look_ok hu2 (hz2 W0) hb⟩
  obtain ⟨mv, mi, hc, h1, h2⟩ := key
  obtain ⟨t, ht⟩ : ∃ t, t = (cget M a b).getD rfS.zero := ⟨_, rfl⟩
  obtain ⟨q, hq⟩ : ∃ q, q = (cget M a b).isSome := ⟨_, rfl⟩
  rw [← ht, ← hq] at h2
  rw [← ht, ← hq]
  obtain ⟨rb, hrb⟩ : ∃ rb, rb = w.heap.size := ⟨_, rfl⟩
  have hz : W0.heap[rb]? = some (rfS.obj rfS.zero) := by rw [hW0, hrb]; exact World.alloc_heap_new w _
  have hlt : rb < W0.heap.size := by rw [hW0, hrb]; simp
  have hk0 : (W0.alloc (rfS.obj t)).heap[rb]? = some (rfS.obj rfS.zero) := (Below.heap_alloc _ _ _ hlt).trans hz
  have hr1 : ((W0.alloc (rfS.obj t)).setRow rb (rfS.f t).toArray).rangeAt rb 0 (rfS.f t) := rangeAt_whole (T := rfS.T) (setRow_heap _ _ _ _ _ _ hk0)
  have H1 := Lib.hid h1
  have H2 := Lib.hid h2
  have HK := Lib.hid (And.intro hk0 hr1)
  have HW0 := Lib.hid (And.intro hW0 hrb)
  clear h h0 h1 h2 hu1 hu2 hz1 hz2 ha hb ht hq hB0 hW0 hrb hz hk0 hr1 hlt
  go_enter Tryz.func61, Tryz.ntmps61
  have tok1 : True := trivial
  go_upto_region 1 with (first
    | (refine wpl_allocS (s := rfS) rfl rfl rfl ?_)
    | fail)
  rw [← HW0.out.1, ← HW0.out.2]
  go_wp2_with (first
    | (at_lookup; have _t := tok1; refine wpl_look rfl _ _ _ _ rfl rfl rfl H1.out ?_; clear tok1)
    | (at_lookup; refine wpl_look rfl _ _ _ _ rfl rfl rfl H2.out ?_)
    | (refine wpl_allocS (s := rfS) rfl rfl rfl ?_)
    | (refine wpl_storeS (s := rfS) (t := t) (b := W0.heap.size) _ _ rfl rfl rfl rfl rfl (World.alloc_heap_new W0 _) (zeroS rfS) ?_; rw [newS])
    | (refine wpl_loadS (s := rfS) (t := t) (b := W0.heap.size) (k := 0) _ rfl rfl rfl rfl (atS rfS W0 t) ?_)
    | (refine wpl_storeS (s := rfS) (t := t) (b := rb) _ _ rfl rfl rfl rfl rfl HK.out.1 (zeroS rfS) ?_)
    | fail)
  exact bodyPost_ret (v := .tuple #[rfS.v t, .bool q]) (results_S2 (s := rfS) Tryz.results61 rfl rfl HK.out.2) rfl ⟨rfl, by rw [HW0.out.1, HW0.out.2]; rfl⟩
theorem grid_Get_R {g : Nat} {M : Cls Rfm} {F : FP} {w : World} (h : GrAt rfS.cod 173 g M F w) {a b : Int} (ha : (Lit.int .i64 a).wf = true) (hb : (Lit.int .i64 b).wf = true) :
    Calls Tryz.prog 61 #[.pointer (some ⟨g, 0, none⟩), .int .i64 a, .int .i64 b] w fun e w' => e = .returned (.tuple #[rfS.v ((cget M a b).getD rfS.zero), .bool (cget M a b).isSome]) ∧ Below w.heap.size w w' :=
  (grid_GetE_R h ha hb).mono fun e w' ⟨he, hw⟩ => ⟨he, by rw [hw]; exact rfS.getW_below w _⟩
theorem GrAt.size_R {g : Nat} {M : Cls Rfm} {F : FP} {w : World} (h : GrAt rfS.cod 173 g M F w) : w.cell? ⟨g, 2, none⟩ = some (.int .i64 M.length) := by
  obtain ⟨_, _, _, (⟨rfl, hh⟩ | ⟨B, C, rm, cm, hh, _⟩)⟩ := h <;> rw [World.cell?, hh] <;> rfl
theorem grid_Len_R {g : Nat} {M : Cls Rfm} {F : FP} {w : World} (h : GrAt rfS.cod 173 g M F w) : Calls Tryz.prog 37 #[.pointer (some ⟨g, 0, none⟩)] w fun e w' => e = .returned (.int .i64 M.length) ∧ w' = w := by
  have hc := h.size_R
  clear h
  go_enter Tryz.func37, Tryz.ntmps37
  go_wp2
  go_ret
  exact ⟨rfl, rfl⟩

end Go.Proofs.YtpkamfbjgdmmoaaGreat
end

section
namespace Go.Proofs.YtpkamfbjgdmmoaaGreat
open Go.RowKit Go.Maps
set_option linter.unusedVariables false
set_option linter.unusedSimpArgs false

set_option maxRecDepth 100000 in
set_option maxHeartbeats 2000000 in
theorem lay_V {B : Nat} {rm : List (Int × Option Nat)} {rows : Int → List (Int × Bal)} {w : World} (h : OutAt balS.cod B rm rows w) (hn : rm.length < maxLen) {a b : Int} (hra : (rows a).length < maxLen) (ha : (Lit.int .i64 a).wf = true) (hb : (Lit.int .i64 b).wf = true) (v : Bal) :
    Calls Tryz.prog 90 #[.map (some B), .int .i64 a, .int .i64 b, .agg (balS.f v).toArray] w fun e w' => e = .returned (.tuple #[]) ∧ OutTo balS.cod B rm (fun i => if i = a then sput (rows a) b v else rows i) w w' := by
  have hmm := @run_makeMap Tryz.prog
  have hBw := h.map.lt
  have hu1 : Tryz.prog.underlying 176 = some (.map 3 175) := Tryz.underlying176
  have hu2 : Tryz.prog.underlying 175 = some (.map 3 47) := Tryz.underlying175
  have hz1 : ∀ w, (zeroValue 175).run Tryz.prog w = .ok (codM.enc none) w := fun w => Tryz.zeroValue175 w
  obtain ⟨u, hu⟩ : ∃ u, u = w.alloc (.cells (balS.f v).toArray 47) := ⟨_, rfl⟩
  have h : OutAt balS.cod B rm rows u := by rw [hu]; exact h.block (fun k hk => Below.heap_alloc _ _ k (h.lt hk))
  have hout : ∀ rows' w', OutTo balS.cod B rm rows' u w' → OutTo balS.cod B rm rows' w w' := fun rows' w' ho => by rw [hu] at ho; exact ho.alloc
  cases hs : sget rm a with
  | some x =>
    obtain ⟨b', rfl, h1, h2, h3⟩ := h.at_ a x hs
    obtain ⟨w', hr, hm', hg, hsz⟩ := h3.store hu2 hra hb v
    have hl := h.map.look (z0 := none) hu1 (hz1 u) ha
    rw [hs] at hl
    have Hfin : OutTo balS.cod B rm (fun i => if i = a then sput (rows a) b v else rows i) u w' :=
      ⟨rm, h.upd hs (sput_ne _ _ _) hm' hg, only_grown hg (.inr ⟨a, hs⟩), fun k hk => .inl hk⟩
    have Hfin := hout _ _ Hfin
    rw [hu] at hl hr
    have HF := Lib.hid Hfin
    have HL := Lib.hid hl
    have HR := Lib.hid hr
    have hrg : (w.alloc (.cells (balS.f v).toArray 47)).rangeAt w.heap.size 0 (balS.f v) := atS balS w v
    have HRG := Lib.hid hrg
    clear hout Hfin h h1 h2 h3 hs hm' hg hsz hn hra hl hr hmm hu hrg hBw
    have q1 : ∀ bm w, (binOp .eql 175 (.map (some bm)) (.map Option.none)).run Tryz.prog w = .ok (.bool false) w := fun bm w => by kernel_rfl
    have q2 : ∀ w, (binOp .eql 175 (.map Option.none) (.map Option.none)).run Tryz.prog w = .ok (.bool true) w := fun w => by kernel_rfl
    go_enter Tryz.func90, Tryz.ntmps90
    go_wp2_with (first
      | (at_lookup; refine wpl_look rfl _ _ _ _ rfl rfl rfl HL.out ?_; dsimp only [codM, Option.getD])
      | (at_mapUpdate; refine wpl_upd rfl _ _ _ _ rfl rfl rfl rfl HR.out ?_)
      | (refine wpl_loadS (s := balS) (t := v) (b := w.heap.size) (k := 0) _ rfl rfl rfl rfl HRG.out ?_)
      | fail)
    exact bodyPost_end (results_none rfl _ _ _) rfl ⟨rfl, HF.out⟩
  | none =>
    have hnil := h.isNil hs
    have hl := h.map.look (z0 := none) hu1 (hz1 u) ha
    rw [hs] at hl
    -- a new map, laid in, then written
    obtain ⟨w1, hw1⟩ : ∃ w1, w1 = u.alloc (.map #[] 0) := ⟨_, rfl⟩
    obtain ⟨N, hN⟩ : ∃ N, N = u.heap.size := ⟨_, rfl⟩
    have hmade : MapAt balS.cod N [] w1 := by rw [hw1, hN]; exact MapAt.made _ _
    have hM1 : MapAt codM B rm w1 := by rw [hw1]; exact h.map.kept (World.grownBy_alloc u _ none) (by simp)
    have hBlt := h.map.lt
    obtain ⟨w2, hr2, hm2, hg2, hs2⟩ := hM1.store hu1 hn ha (some N)
    have hl2 := hm2.look (z0 := none) hu1 (hz1 w2) ha
    rw [hM1.srt.get_put] at hl2
    simp only [if_true, Option.getD_some] at hl2
    have hmade2 := hmade.kept hg2 (by simp; omega)
    obtain ⟨w3, hr3, hm3, hg3, hs3⟩ := hmade2.store hu2 (by simp; unfold maxLen; omega) hb v
    have hm2' := hm2.kept hg3 (by simp; omega)
    have hB : Only (oblk B rm) (fun _ => False) u w2 := only_trans (by rw [hw1]; exact only_alloc _) (only_grown hg2 (.inl rfl))
    have hsz1 : w1.heap.size = u.heap.size + 1 := by rw [hw1]; simp
    have Hfin : OutTo balS.cod B rm (fun i => if i = a then sput (rows a) b v else rows i) u w3 := by
      rw [hnil]
      refine ⟨_, h.lay hs hm2' (by omega) (by omega) (sput_ne _ _ _) hm3 (fun k hk hkB => ?_), ⟨hB.grow.trans ⟨hg3.os, hg3.tape, hg3.output, hg3.size⟩, fun k hk hk1 hk2 => ?_⟩, fun k hk => ?_⟩
      · rw [hg3.block k (by omega) (by simp; omega), hg2.block k (by omega) (by simp; omega), hw1]
        exact Below.heap_alloc _ _ k hk
      · rw [hg3.block k (by omega) (by simp; omega)]
        exact hB.block k hk hk1 hk2
      · rcases oblk_put h.map.srt hk with h' | h'
        · exact .inl h'
        · exact .inr (by omega)
    have hrg : w2.rangeAt w.heap.size 0 (balS.f v) := by
      have hus : w.heap.size < u.heap.size := by rw [hu]; simp
      refine rangeAt_block (w := u) (by rw [hu]; exact atS balS w v) ((hg2.block _ (by omega) (by simp; omega)).trans ?_)
      rw [hw1]; exact Below.heap_alloc _ _ _ hus
    have HRG := Lib.hid hrg
    have Hfin := hout _ _ Hfin
    rw [hu] at hl
    have HF := Lib.hid Hfin
    have HL := Lib.hid hl
    have HL2 := Lib.hid hl2
    rw [hw1, hu] at hr2
    rw [hu, World.size_alloc] at hN
    subst hN
    have HR2 := Lib.hid hr2
    have HR3 := Lib.hid hr3
    have hmk : ∀ w, (Instr.makeMap 175 Option.none).run Tryz.prog w = .ok (.map (some w.heap.size)) (w.alloc (.map #[] 0)) := fun w => run_makeMap _ w
    clear hout Hfin h hs hn hra hl hl2 hr2 hr3 hnil hmade hM1 hm2 hg2 hs2 hmade2 hm3 hg3 hs3 hm2' hB hsz1 hBlt hw1 hmm hu hrg hBw
    have q1 : ∀ bm w, (binOp .eql 175 (.map (some bm)) (.map Option.none)).run Tryz.prog w = .ok (.bool false) w := fun bm w => by kernel_rfl
    have q2 : ∀ w, (binOp .eql 175 (.map Option.none) (.map Option.none)).run Tryz.prog w = .ok (.bool true) w := fun w => by kernel_rfl
    go_enter Tryz.func90, Tryz.ntmps90
    have tok1 : True := trivial
    have tok2 : True := trivial
    go_wp2_with (first
      | (at_lookup; have _t := tok1; refine wpl_look rfl _ _ _ _ rfl rfl rfl HL.out ?_; dsimp only [codM, Option.getD]; clear tok1)
      | (at_lookup; refine wpl_look rfl _ _ _ _ rfl rfl rfl HL2.out ?_; dsimp only [codM])
      | (at_mapUpdate; have _t := tok2; refine wpl_upd rfl _ _ _ _ rfl rfl rfl rfl HR2.out ?_; clear tok2)
      | (at_mapUpdate; refine wpl_upd rfl _ _ _ _ rfl rfl rfl rfl HR3.out ?_)
      | (refine wpl_loadS (s := balS) (t := v) (b := w.heap.size) (k := 0) _ rfl rfl rfl rfl HRG.out ?_)
      | fail)
    exact bodyPost_end (results_none rfl _ _ _) rfl ⟨rfl, HF.out⟩

set_option maxRecDepth 100000 in
set_option maxHeartbeats 2000000 in
theorem take_V {B : Nat} {rm : List (Int × Option Nat)} {rows : Int → List (Int × Bal)} {w : World} (h : OutAt balS.cod B rm rows w) {a b : Int} (hr0 : rows a ≠ []) (hlen : (rows a).length ≤ 1000000) (ha : (Lit.int .i64 a).wf = true) (hb : (Lit.int .i64 b).wf = true) :
    Calls Tryz.prog 100 #[.map (some B), .int .i64 a, .int .i64 b] w fun e w' => e = .returned (.tuple #[]) ∧ OutTo balS.cod B rm (fun i => if i = a then sdel (rows a) b else rows i) w w' := by
  have hu1 : Tryz.prog.underlying 176 = some (.map 3 175) := Tryz.underlying176
  have hu2 : Tryz.prog.underlying 175 = some (.map 3 47) := Tryz.underlying175
  have hz1 : ∀ w, (zeroValue 175).run Tryz.prog w = .ok (codM.enc none) w := fun w => Tryz.zeroValue175 w
  obtain ⟨b', hs⟩ := h.has a hr0
  obtain ⟨b1, e, h1, h2, h3⟩ := h.at_ a _ hs
  obtain rfl : b' = b1 := by simpa using e
  have hl := h.map.look (z0 := none) hu1 (hz1 w) ha
  rw [hs] at hl
  obtain ⟨w1, hr1, hm1, hg1, hs1⟩ := h3.drop hu2 hb 0
  have hr1' : ∀ ty, (Builtin.delete_ #[175, 3] ty #[.map (some b'), .int .i64 b]).run Tryz.prog w = .ok (.tuple #[]) w1 := fun ty => hr1
  have hM1 : MapAt codM B rm w1 := h.map.kept hg1 (by simp; exact fun e => h2 e.symm)
  have hl2 := hM1.look (z0 := none) hu1 (hz1 w1) ha
  rw [hs] at hl2
  have hln := hm1.len hu2 0
  have hln' : ∀ ty, (Builtin.len_ #[175] ty #[.map (some b')]).run Tryz.prog w1 = .ok (.int .i64 (sdel (rows a) b).length) w1 := fun ty => hln
  have hO1 : Only (oblk B rm) (fun _ => False) w w1 := only_grown hg1 (.inr ⟨a, hs⟩)
  have hdl : (sdel (rows a) b).length ≤ 1000000 := Nat.le_trans (List.length_filter_le _ _) hlen
  by_cases hz : sdel (rows a) b = []
  · obtain ⟨w2, hr2, hm2, hg2, hs2⟩ := hM1.drop hu1 ha 0
    have hr2' : ∀ ty, (Builtin.delete_ #[176, 3] ty #[.map (some B), .int .i64 a]).run Tryz.prog w1 = .ok (.tuple #[]) w2 := fun ty => hr2
    rw [hz] at hln'
    have Hfin : OutTo balS.cod B rm (fun i => if i = a then sdel (rows a) b else rows i) w w2 := by
      rw [hz]
      refine ⟨_, h.gone hs hm2 (fun k hk hk1 hk2 => ?_), only_trans hO1 (only_grown hg2 (.inl rfl)), fun k hk => .inl (oblk_del h.map.srt hk)⟩
      rw [hg2.block k (by omega) (by simpa using hk1), hg1.block k hk (by simpa using hk2)]
    have HF := Lib.hid Hfin
    have HL := Lib.hid hl
    have HL2 := Lib.hid hl2
    have HR1 := Lib.hid hr1'
    have HR2 := Lib.hid hr2'
    have HN := Lib.hid hln'
    clear Hfin h hs hl hl2 hr1 hr1' hr2 hr2' hln hln' hM1 hm1 hm2 hg1 hg2 hs1 hs2 hO1 hdl hz h1 h2 h3 e hr0 hlen
    go_enter Tryz.func100, Tryz.ntmps100
    have tok1 : True := trivial
    have tok2 : True := trivial
    go_wp2_with (first
      | (at_lookup; have _t := tok1; refine wpl_look rfl _ _ _ _ rfl rfl rfl HL.out ?_; dsimp only [codM, Option.getD]; clear tok1)
      | (at_lookup; refine wpl_look rfl _ _ _ _ rfl rfl rfl HL2.out ?_; dsimp only [codM, Option.getD])
      | (at_delete; have _t := tok2; refine wpl_drop rfl _ _ _ _ rfl rfl rfl (HR1.out _) ?_; clear tok2)
      | (at_delete; refine wpl_drop rfl _ _ _ _ rfl rfl rfl (HR2.out _) ?_)
      | (at_len; refine wpl_len rfl _ _ rfl rfl (HN.out _) ?_; dsimp only [List.length_nil])
      | fail)
    exact bodyPost_end (results_none rfl _ _ _) rfl ⟨rfl, HF.out⟩
  · have Hfin : OutTo balS.cod B rm (fun i => if i = a then sdel (rows a) b else rows i) w w1 :=
      ⟨rm, h.upd hs hz hm1 hg1, hO1, fun k hk => .inl hk⟩
    obtain ⟨n, hn⟩ : ∃ n, n = (sdel (rows a) b).length := ⟨_, rfl⟩
    have hpos : 0 < n := by rw [hn]; exact List.length_pos_iff.2 hz
    have hne : (decide ((n : Int) = 0)) = false := by simp; omega
    have hne' : ((n : Int) == 0) = false := by simp; omega
    rw [← hn] at hln' hdl
    have HF := Lib.hid Hfin
    have HL := Lib.hid hl
    have HL2 := Lib.hid hl2
    have HR1 := Lib.hid hr1'
    have HN := Lib.hid hln'
    clear Hfin h hs hl hl2 hr1 hr1' hln hln' hM1 hm1 hg1 hs1 hO1 hz h1 h2 h3 e hr0 hlen hn
    go_enter Tryz.func100, Tryz.ntmps100
    have tok1 : True := trivial
    go_wp2_with (first
      | (at_lookup; have _t := tok1; refine wpl_look rfl _ _ _ _ rfl rfl rfl HL.out ?_; dsimp only [codM, Option.getD]; clear tok1)
      | (at_lookup; refine wpl_look rfl _ _ _ _ rfl rfl rfl HL2.out ?_; dsimp only [codM, Option.getD])
      | (at_delete; refine wpl_drop rfl _ _ _ _ rfl rfl rfl (HR1.out _) ?_)
      | (at_len; refine wpl_len rfl _ _ rfl rfl (HN.out _) ?_)
      | fail)
    exact bodyPost_end (results_none rfl _ _ _) rfl ⟨rfl, HF.out⟩

set_option maxRecDepth 100000 in
set_option maxHeartbeats 2000000 in
theorem lay_Q {B : Nat} {rm : List (Int × Option Nat)} {rows : Int → List (Int × Wgt)} {w : World} (h : OutAt priS.cod B rm rows w) (hn : rm.length < maxLen) {a b : Int} (hra : (rows a).length < maxLen) (ha : (Lit.int .i64 a).wf = true) (hb : (Lit.int .i64 b).wf = true) (v : Wgt) :
    Calls Tryz.prog 126 #[.map (some B), .int .i64 a, .int .i64 b, .agg (priS.f v).toArray] w fun e w' => e = .returned (.tuple #[]) ∧ OutTo priS.cod B rm (fun i => if i = a then sput (rows a) b v else rows i) w w' := by
  have hmm := @run_makeMap Tryz.prog
  have hBw := h.map.lt
  have hu1 : Tryz.prog.underlying 213 = some (.map 3 232) := Tryz.underlying213
  have hu2 : Tryz.prog.underlying 232 = some (.map 3 154) := Tryz.underlying232
  have hz1 : ∀ w, (zeroValue 232).run Tryz.prog w = .ok (codM.enc none) w := fun w => Tryz.zeroValue232 w
  obtain ⟨u, hu⟩ : ∃ u, u = w.alloc (.cells (priS.f v).toArray 154) := ⟨_, rfl⟩
  have h : OutAt priS.cod B rm rows u := by rw [hu]; exact h.block (fun k hk => Below.heap_alloc _ _ k (h.lt hk))
  have hout : ∀ rows' w', OutTo priS.cod B rm rows' u w' → OutTo priS.cod B rm rows' w w' := fun rows' w' ho => by rw [hu] at ho; exact ho.alloc
  cases hs : sget rm a with
  | some x =>
    obtain ⟨b', rfl, h1, h2, h3⟩ := h.at_ a x hs
    obtain ⟨w', hr, hm', hg, hsz⟩ := h3.store hu2 hra hb v
    have hl := h.map.look (z0 := none) hu1 (hz1 u) ha
    rw [hs] at hl
    have Hfin : OutTo priS.cod B rm (fun i => if i = a then sput (rows a) b v else rows i) u w' :=
      ⟨rm, h.upd hs (sput_ne _ _ _) hm' hg, only_grown hg (.inr ⟨a, hs⟩), fun k hk => .inl hk⟩
    have Hfin := hout _ _ Hfin
    rw [hu] at hl hr
    have HF := Lib.hid Hfin
    have HL := Lib.hid hl
    have HR := Lib.hid hr
    have hrg : (w.alloc (.cells (priS.f v).toArray 154)).rangeAt w.heap.size 0 (priS.f v) := atS priS w v
    have HRG := Lib.hid hrg
    clear hout Hfin h h1 h2 h3 hs hm' hg hsz hn hra hl hr hmm hu hrg hBw
    have q1 : ∀ bm w, (binOp .eql 232 (.map (some bm)) (.map Option.none)).run Tryz.prog w = .ok (.bool false) w := fun bm w => by kernel_rfl
    have q2 : ∀ w, (binOp .eql 232 (.map Option.none) (.map Option.none)).run Tryz.prog w = .ok (.bool true) w := fun w => by kernel_rfl
    go_enter Tryz.func126, Tryz.ntmps126
    go_wp2_with (first
      | (at_lookup; refine wpl_look rfl _ _ _ _ rfl rfl rfl HL.out ?_; dsimp only [codM, Option.getD])
      | (at_mapUpdate; refine wpl_upd rfl _ _ _ _ rfl rfl rfl rfl HR.out ?_)
      | (refine wpl_loadS (s := priS) (t := v) (b := w.heap.size) (k := 0) _ rfl rfl rfl rfl HRG.out ?_)
      | fail)
    exact bodyPost_end (results_none rfl _ _ _) rfl ⟨rfl, HF.out⟩
  | none =>
    have hnil := h.isNil hs
    have hl := h.map.look (z0 := none) hu1 (hz1 u) ha
    rw [hs] at hl
    -- a new map, laid in, then written
    obtain ⟨w1, hw1⟩ : ∃ w1, w1 = u.alloc (.map #[] 0) := ⟨_, rfl⟩
    obtain ⟨N, hN⟩ : ∃ N, N = u.heap.size := ⟨_, rfl⟩
    have hmade : MapAt priS.cod N [] w1 := by rw [hw1, hN]; exact MapAt.made _ _
    have hM1 : MapAt codM B rm w1 := by rw [hw1]; exact h.map.kept (World.grownBy_alloc u _ none) (by simp)
    have hBlt := h.map.lt
    obtain ⟨w2, hr2, hm2, hg2, hs2⟩ := hM1.store hu1 hn ha (some N)
    have hl2 := hm2.look (z0 := none) hu1 (hz1 w2) ha
    rw [hM1.srt.get_put] at hl2
    simp only [if_true, Option.getD_some] at hl2
    have hmade2 := hmade.kept hg2 (by simp; omega)
    obtain ⟨w3, hr3, hm3, hg3, hs3⟩ := hmade2.store hu2 (by simp; unfold maxLen; omega) hb v
    have hm2' := hm2.kept hg3 (by simp; omega)
    have hB : Only (oblk B rm) (fun _ => False) u w2 := only_trans (by rw [hw1]; exact only_alloc _) (only_grown hg2 (.inl rfl))
    have hsz1 : w1.heap.size = u.heap.size + 1 := by rw [hw1]; simp
    have Hfin : OutTo priS.cod B rm (fun i => if i = a then sput (rows a) b v else rows i) u w3 := by
      rw [hnil]
      refine ⟨_, h.lay hs hm2' (by omega) (by omega) (sput_ne _ _ _) hm3 (fun k hk hkB => ?_), ⟨hB.grow.trans ⟨hg3.os, hg3.tape, hg3.output, hg3.size⟩, fun k hk hk1 hk2 => ?_⟩, fun k hk => ?_⟩
      · rw [hg3.block k (by omega) (by simp; omega), hg2.block k (by omega) (by simp; omega), hw1]
        exact Below.heap_alloc _ _ k hk
      · rw [hg3.block k (by omega) (by simp; omega)]
        exact hB.block k hk hk1 hk2
      · rcases oblk_put h.map.srt hk with h' | h'
        · exact .inl h'
        · exact .inr (by omega)
    have hrg : w2.rangeAt w.heap.size 0 (priS.f v) := by
      have hus : w.heap.size < u.heap.size := by rw [hu]; simp
      refine rangeAt_block (w := u) (by rw [hu]; exact atS priS w v) ((hg2.block _ (by omega) (by simp; omega)).trans ?_)
      rw [hw1]; exact Below.heap_alloc _ _ _ hus
    have HRG := Lib.hid hrg
    have Hfin := hout _ _ Hfin
    rw [hu] at hl
    have HF := Lib.hid Hfin
    have HL := Lib.hid hl
    have HL2 := Lib.hid hl2
    rw [hw1, hu] at hr2
    rw [hu, World.size_alloc] at hN
    subst hN
    have HR2 := Lib.hid hr2
    have HR3 := Lib.hid hr3
    have hmk : ∀ w, (Instr.makeMap 232 Option.none).run Tryz.prog w = .ok (.map (some w.heap.size)) (w.alloc (.map #[] 0)) := fun w => run_makeMap _ w
    clear hout Hfin h hs hn hra hl hl2 hr2 hr3 hnil hmade hM1 hm2 hg2 hs2 hmade2 hm3 hg3 hs3 hm2' hB hsz1 hBlt hw1 hmm hu hrg hBw
    have q1 : ∀ bm w, (binOp .eql 232 (.map (some bm)) (.map Option.none)).run Tryz.prog w = .ok (.bool false) w := fun bm w => by kernel_rfl
    have q2 : ∀ w, (binOp .eql 232 (.map Option.none) (.map Option.none)).run Tryz.prog w = .ok (.bool true) w := fun w => by kernel_rfl
    go_enter Tryz.func126, Tryz.ntmps126
    have tok1 : True := trivial
    have tok2 : True := trivial
    go_wp2_with (first
      | (at_lookup; have _t := tok1; refine wpl_look rfl _ _ _ _ rfl rfl rfl HL.out ?_; dsimp only [codM, Option.getD]; clear tok1)
      | (at_lookup; refine wpl_look rfl _ _ _ _ rfl rfl rfl HL2.out ?_; dsimp only [codM])
      | (at_mapUpdate; have _t := tok2; refine wpl_upd rfl _ _ _ _ rfl rfl rfl rfl HR2.out ?_; clear tok2)
      | (at_mapUpdate; refine wpl_upd rfl _ _ _ _ rfl rfl rfl rfl HR3.out ?_)
      | (refine wpl_loadS (s := priS) (t := v) (b := w.heap.size) (k := 0) _ rfl rfl rfl rfl HRG.out ?_)
      | fail)
    exact bodyPost_end (results_none rfl _ _ _) rfl ⟨rfl, HF.out⟩

end Go.Proofs.YtpkamfbjgdmmoaaGreat
end

section
namespace Go.Proofs.YtpkamfbjgdmmoaaGreat
open Go.RowKit Go.Maps
set_option linter.unusedVariables false
set_option linter.unusedSimpArgs false


set_option maxRecDepth 100000 in
set_option maxHeartbeats 2000000 in
theorem lay_R {B : Nat} {rm : List (Int × Option Nat)} {rows : Int → List (Int × Rfm)} {w : World} (h : OutAt rfS.cod B rm rows w) (hn : rm.length < maxLen) {a b : Int} (hra : (rows a).length < maxLen) (ha : (Lit.int .i64 a).wf = true) (hb : (Lit.int .i64 b).wf = true) (v : Rfm) :
    Calls Tryz.prog 110 #[.map (some B), .int .i64 a, .int .i64 b, .agg (rfS.f v).toArray] w fun e w' => e = .returned (.tuple #[]) ∧ OutTo rfS.cod B rm (fun i => if i = a then sput (rows a) b v else rows i) w w' := by
  have hmm := @run_makeMap Tryz.prog
  have hBw := h.map.lt
  have hu1 : Tryz.prog.underlying 170 = some (.map 3 200) := Tryz.underlying170
  have hu2 : Tryz.prog.underlying 200 = some (.map 3 56) := Tryz.underlying200
  have hz1 : ∀ w, (zeroValue 200).run Tryz.prog w = .ok (codM.enc none) w := fun w => Tryz.zeroValue200 w
  obtain ⟨u, hu⟩ : ∃ u, u = w.alloc (.cells (rfS.f v).toArray 56) := ⟨_, rfl⟩
  have h : OutAt rfS.cod B rm rows u := by rw [hu]; exact h.block (fun k hk => Below.heap_alloc _ _ k (h.lt hk))
  have hout : ∀ rows' w', OutTo rfS.cod B rm rows' u w' → OutTo rfS.cod B rm rows' w w' := fun rows' w' ho => by rw [hu] at ho; exact ho.alloc
  cases hs : sget rm a with
  | some x =>
    obtain ⟨b', rfl, h1, h2, h3⟩ := h.at_ a x hs
    obtain ⟨w', hr, hm', hg, hsz⟩ := h3.store hu2 hra hb v
    have hl := h.map.look (z0 := none) hu1 (hz1 u) ha
    rw [hs] at hl
    have Hfin : OutTo rfS.cod B rm (fun i => if i = a then sput (rows a) b v else rows i) u w' :=
      ⟨rm, h.upd hs (sput_ne _ _ _) hm' hg, only_grown hg (.inr ⟨a, hs⟩), fun k hk => .inl hk⟩
    have Hfin := hout _ _ Hfin
    rw [hu] at hl hr
    have HF := Lib.hid Hfin
    have HL := Lib.hid hl
    have HR := Lib.hid hr
    have hrg : (w.alloc (.cells (rfS.f v).toArray 56)).rangeAt w.heap.size 0 (rfS.f v) := atS rfS w v
    have HRG := Lib.hid hrg
    clear hout Hfin h h1 h2 h3 hs hm' hg hsz hn hra hl hr hmm hu hrg hBw
    have q1 : ∀ bm w, (binOp .eql 200 (.map (some bm)) (.map Option.none)).run Tryz.prog w = .ok (.bool false) w := fun bm w => by kernel_rfl
    have q2 : ∀ w, (binOp .eql 200 (.map Option.none) (.map Option.none)).run Tryz.prog w = .ok (.bool true) w := fun w => by kernel_rfl
    go_enter Tryz.func110, Tryz.ntmps110
    go_wp2_with (first
      | (at_lookup; refine wpl_look rfl _ _ _ _ rfl rfl rfl HL.out ?_; dsimp only [codM, Option.getD])
      | (at_mapUpdate; refine wpl_upd rfl _ _ _ _ rfl rfl rfl rfl HR.out ?_)
      | (refine wpl_loadS (s := rfS) (t := v) (b := w.heap.size) (k := 0) _ rfl rfl rfl rfl HRG.out ?_)
      | fail)
    exact bodyPost_end (results_none rfl _ _ _) rfl ⟨rfl, HF.out⟩
  | none =>
    have hnil := h.isNil hs
    have hl := h.map.look (z0 := none) hu1 (hz1 u) ha
    rw [hs] at hl
    -- a new map, laid in, then written
    obtain ⟨w1, hw1⟩ : ∃ w1, w1 = u.alloc (.map #[] 0) := ⟨_, rfl⟩
    obtain ⟨N, hN⟩ : ∃ N, N = u.heap.size := ⟨_, rfl⟩
    have hmade : MapAt rfS.cod N [] w1 := by rw [hw1, hN]; exact MapAt.made _ _
    have hM1 : MapAt codM B rm w1 := by rw [hw1]; exact h.map.kept (World.grownBy_alloc u _ none) (by simp)
    have hBlt := h.map.lt
    obtain ⟨w2, hr2, hm2, hg2, hs2⟩ := hM1.store hu1 hn ha (some N)
    have hl2 := hm2.look (z0 := none) hu1 (hz1 w2) ha
    rw [hM1.srt.get_put] at hl2
    simp only [if_true, Option.getD_some] at hl2
    have hmade2 := hmade.kept hg2 (by simp; omega)
    obtain ⟨w3, hr3, hm3, hg3, hs3⟩ := hmade2.store hu2 (by simp; unfold maxLen; omega) hb v
    have hm2' := hm2.kept hg3 (by simp; omega)
    have hB : Only (oblk B rm) (fun _ => False) u w2 := only_trans (by rw [hw1]; exact only_alloc _) (only_grown hg2 (.inl rfl))
    have hsz1 : w1.heap.size = u.heap.size + 1 := by rw [hw1]; simp
    have Hfin : OutTo rfS.cod B rm (fun i => if i = a then sput (rows a) b v else rows i) u w3 := by
      rw [hnil]
      refine ⟨_, h.lay hs hm2' (by omega) (by omega) (sput_ne _ _ _) hm3 (fun k hk hkB => ?_), ⟨hB.grow.trans ⟨hg3.os, hg3.tape, hg3.output, hg3.size⟩, fun k hk hk1 hk2 => ?_⟩, fun k hk => ?_⟩
      · rw [hg3.block k (by omega) (by simp; omega), hg2.block k (by omega) (by simp; omega), hw1]
        exact Below.heap_alloc _ _ k hk
      · rw [hg3.block k (by omega) (by simp; omega)]
        exact hB.block k hk hk1 hk2
      · rcases oblk_put h.map.srt hk with h' | h'
        · exact .inl h'
        · exact .inr (by omega)
    have hrg : w2.rangeAt w.heap.size 0 (rfS.f v) := by
      have hus : w.heap.size < u.heap.size := by rw [hu]; simp
      refine rangeAt_block (w := u) (by rw [hu]; exact atS rfS w v) ((hg2.block _ (by omega) (by simp; omega)).trans ?_)
      rw [hw1]; exact Below.heap_alloc _ _ _ hus
    have HRG := Lib.hid hrg
    have Hfin := hout _ _ Hfin
    rw [hu] at hl
    have HF := Lib.hid Hfin
    have HL := Lib.hid hl
    have HL2 := Lib.hid hl2
    rw [hw1, hu] at hr2
    rw [hu, World.size_alloc] at hN
    subst hN
    have HR2 := Lib.hid hr2
    have HR3 := Lib.hid hr3
    have hmk : ∀ w, (Instr.makeMap 200 Option.none).run Tryz.prog w = .ok (.map (some w.heap.size)) (w.alloc (.map #[] 0)) := fun w => run_makeMap _ w
    clear hout Hfin h hs hn hra hl hl2 hr2 hr3 hnil hmade hM1 hm2 hg2 hs2 hmade2 hm3 hg3 hs3 hm2' hB hsz1 hBlt hw1 hmm hu hrg hBw
    have q1 : ∀ bm w, (binOp .eql 200 (.map (some bm)) (.map Option.none)).run Tryz.prog w = .ok (.bool false) w := fun bm w => by kernel_rfl
    have q2 : ∀ w, (binOp .eql 200 (.map Option.none) (.map Option.none)).run Tryz.prog w = .ok (.bool true) w := fun w => by kernel_rfl
    go_enter Tryz.func110, Tryz.ntmps110
    have tok1 : True := trivial
    have tok2 : True := trivial
    go_wp2_with (first
      | (at_lookup; have _t := tok1; refine wpl_look rfl _ _ _ _ rfl rfl rfl HL.out ?_; dsimp only [codM, Option.getD]; clear tok1)
      | (at_lookup; refine wpl_look rfl _ _ _ _ rfl rfl rfl HL2.out ?_; dsimp only [codM])
      | (at_mapUpdate; have _t := tok2; refine wpl_upd rfl _ _ _ _ rfl rfl rfl rfl HR2.out ?_; clear tok2)
      | (at_mapUpdate; refine wpl_upd rfl _ _ _ _ rfl rfl rfl rfl HR3.out ?_)
      | (refine wpl_loadS (s := rfS) (t := v) (b := w.heap.size) (k := 0) _ rfl rfl rfl rfl HRG.out ?_)
      | fail)
    exact bodyPost_end (results_none rfl _ _ _) rfl ⟨rfl, HF.out⟩
end Go.Proofs.YtpkamfbjgdmmoaaGreat
end

section
namespace Go.Proofs.YtpkamfbjgdmmoaaGreat
open Go.RowKit Go.Maps
set_option linter.unusedVariables false
set_option linter.unusedSimpArgs false

/-- What a change of a table leaves. -/
def GrTo {β : Type} (c : Cod β) (T : TypeId) (g : Nat) (M : Cls β) (F : FP) (w w' : World) : Prop :=
  ∃ F', GrAt c T g M F' w' ∧ (∀ k, F' k → F k ∨ w.heap.size ≤ k) ∧ Only F (fun _ => False) w w'
theorem cells3 {w : World} {g : Nat} {T : TypeId} {u0 u1 u2 : Value} (h : w.heap[g]? = some (.cells #[u0, u1, u2] T (0, 0))) :
    w.cell? ⟨g, 0, none⟩ = some u0 ∧ w.cell? ⟨g, 1, none⟩ = some u1 ∧ w.cell? ⟨g, 2, none⟩ = some u2 ∧ w.frozen? ⟨g, 0, none⟩ = false ∧ w.frozen? ⟨g, 1, none⟩ = false ∧ w.frozen? ⟨g, 2, none⟩ = false := by
  refine ⟨by rw [World.cell?, h]; rfl, by rw [World.cell?, h]; rfl, by rw [World.cell?, h]; rfl, ?_, ?_, ?_⟩ <;> simp [World.frozen?, h]
theorem set3 {w : World} {g : Nat} {T : TypeId} {u0 u1 u2 u : Value} (h : w.heap[g]? = some (.cells #[u0, u1, u2] T (0, 0))) :
    (w.setCell ⟨g, 0, none⟩ u).heap[g]? = some (.cells #[u, u1, u2] T (0, 0)) ∧ (w.setCell ⟨g, 1, none⟩ u).heap[g]? = some (.cells #[u0, u, u2] T (0, 0)) ∧ (w.setCell ⟨g, 2, none⟩ u).heap[g]? = some (.cells #[u0, u1, u] T (0, 0)) := by
  have hlt : g < w.heap.size := (Array.getElem?_eq_some_iff.1 h).1
  have hg := (Array.getElem?_eq_some_iff.1 h).2
  refine ⟨?_, ?_, ?_⟩ <;> simp [World.setCell, Array.getElem?_modify, h]
theorem only_set {w : World} {g o : Nat} {u : Value} {Ψ : FP} (h : Ψ g) : Only Ψ (fun _ => False) w (w.setCell ⟨g, o, none⟩ u) :=
  ⟨⟨rfl, rfl, rfl, by simp [World.setCell]⟩, fun k hk h1 _ => Below.heap_setCell _ _ _ k (fun e => h1 (by subst e; exact h))⟩
theorem map_ne {w : World} {g k : Nat} {T : TypeId} {cs : Array Value} {es : Array MapEntry} {cl : Nat} (h : w.heap[g]? = some (.cells cs T (0, 0))) (hk : w.heap[k]? = some (.map es cl)) : k ≠ g := by
  rintro rfl
  rw [h] at hk; cases hk
theorem set_block {w : World} {g o k : Nat} {u : Value} (h : k ≠ g) : (w.setCell ⟨g, o, none⟩ u).heap[k]? = w.heap[k]? := Below.heap_setCell _ _ _ k h
section
variable {β : Type} {c : Cod β} {B C : Nat} {rm cm : List (Int × Option Nat)} {M : Cls β} {w w' : World}
theorem MapsAt.block (h : MapsAt c B C rm cm M w) (hb : ∀ k, oblk B rm k ∨ oblk C cm k → w'.heap[k]? = w.heap[k]?) : MapsAt c B C rm cm M w' :=
  ⟨h.row.block (fun k hk => hb k (.inl hk)), h.col.block (fun k hk => hb k (.inr hk)), h.off⟩
theorem MapsAt.notg {g : Nat} {T : TypeId} {cs : Array Value} (h : MapsAt c B C rm cm M w) (hg : w.heap[g]? = some (.cells cs T (0, 0))) {k : Nat} (hk : oblk B rm k ∨ oblk C cm k) : k ≠ g := by
  rcases hk with hk | hk
  · obtain ⟨es, cl, he⟩ := h.row.isMap hk
    exact map_ne hg he
  · obtain ⟨es, cl, he⟩ := h.col.isMap hk
    exact map_ne hg he
theorem MapsAt.set {g o : Nat} {T : TypeId} {cs : Array Value} {u : Value} (h : MapsAt c B C rm cm M w) (hg : w.heap[g]? = some (.cells cs T (0, 0))) : MapsAt c B C rm cm M (w.setCell ⟨g, o, none⟩ u) :=
  h.block (fun k hk => set_block (h.notg hg hk))
/-- Both sides are changed, the columns first. -/
theorem maps_to {g : Nat} {T : TypeId} {F : FP} {M' : Cls β} {w0 w1 w2 w3 : World} {n : Int} (h0 : Only F (fun _ => False) w0 w1)
    (hg : w1.heap[g]? = some (.cells #[.map (some B), .map (some C), .int .i64 n] T (0, 0))) (hM : MapsAt c B C rm cm M w1) (hs : SrtC M') (hn : n = M'.length) (hF : F g) (hFl : ∀ k, F k → k < w0.heap.size) (hF1 : ∀ k, oblk B rm k → F k ∨ w0.heap.size ≤ k) (hF2 : ∀ k, oblk C cm k → F k ∨ w0.heap.size ≤ k)
    (hc : OutTo codU C cm (colU M') w1 w2) (hr : ∀ h2 : OutAt c B rm (rowOf M) w2, OutTo c B rm (rowOf M') w2 w3) : GrTo c T g M' F w0 w3 := by
  obtain ⟨cm', c1, c2, c3⟩ := hc
  have hrow2 : OutAt c B rm (rowOf M) w2 := hM.row.block (fun k hk => c2.block k (hM.row.lt hk) (hM.off k hk) (fun h => h))
  obtain ⟨rm', r1, r2, r3⟩ := hr hrow2
  have hglt : g < w1.heap.size := (Array.getElem?_eq_some_iff.1 hg).1
  have hcol3 : OutAt codU C cm' (colU M') w3 := c1.block (fun k hk => r2.block k (c1.lt hk) (fun hk' => by
    rcases c3 k hk with h | h
    · exact hM.off k hk' h
    · have := hM.row.lt hk'; omega) (fun h => h))
  have hg3 : w3.heap[g]? = some (.cells #[.map (some B), .map (some C), .int .i64 n] T (0, 0)) := by
    rw [r2.block g (Nat.lt_of_lt_of_le hglt c2.grow.size) (fun hk => hM.notg hg (.inl hk) rfl) (fun h => h), c2.block g hglt (fun hk => hM.notg hg (.inr hk) rfl) (fun h => h)]
    exact hg
  have hsz1 := h0.grow.size
  have hsz2 := c2.grow.size
  have hsz3 := r2.grow.size
  have hlt : ∀ k, k < w0.heap.size → ¬ F k → ¬ oblk B rm k ∧ ¬ oblk C cm k := fun k hk hnF =>
    ⟨fun h => (hF1 k h).elim hnF (fun h => by omega), fun h => (hF2 k h).elim hnF (fun h => by omega)⟩
  refine ⟨fun k => F k ∨ (w0.heap.size ≤ k ∧ k < w3.heap.size), ⟨hs, .inl hF, fun k hk => ?_, .inr ⟨B, C, rm', cm', by rw [hg3, hn], ⟨r1, hcol3, fun k hk hk' => ?_⟩, fun k hk => ?_, fun k hk => ?_⟩⟩, fun k hk => hk.imp id (fun h => h.1), ?_⟩
  · rcases hk with h | h
    · have := hFl k h; omega
    · exact h.2
  · have e1 := r3 k hk
    have e2 := c3 k hk'
    have l2 := c1.lt hk'
    rcases e1 with e1 | e1
    · have := hM.row.lt e1
      rcases e2 with e2 | e2
      · exact hM.off k e1 e2
      · omega
    · omega
  · have hl := r1.lt hk
    rcases r3 k hk with h | h
    · exact (hF1 k h).imp id (fun h => ⟨h, hl⟩)
    · exact .inr ⟨by omega, hl⟩
  · have hl := hcol3.lt hk
    rcases c3 k hk with h | h
    · exact (hF2 k h).imp id (fun h => ⟨h, hl⟩)
    · exact .inr ⟨by omega, hl⟩
  · refine ⟨(h0.grow.trans c2.grow).trans r2.grow, fun k hk h1 _ => ?_⟩
    obtain ⟨n1, n2⟩ := hlt k hk h1
    rw [r2.block k (by omega) n1 (fun h => h), c2.block k (by omega) n2 (fun h => h)]
    exact h0.block k hk h1 (fun h => h)
/-- One side is changed, the rows. -/
theorem row_to {g : Nat} {T : TypeId} {F : FP} {M' : Cls β} {w0 w1 w3 : World} {n : Int} (h0 : Only F (fun _ => False) w0 w1)
    (hg : w1.heap[g]? = some (.cells #[.map (some B), .map (some C), .int .i64 n] T (0, 0))) (hM : MapsAt c B C rm cm M w1) (hs : SrtC M') (hn : n = M'.length) (hF : F g) (hFl : ∀ k, F k → k < w0.heap.size) (hF1 : ∀ k, oblk B rm k → F k ∨ w0.heap.size ≤ k) (hF2 : ∀ k, oblk C cm k → F k ∨ w0.heap.size ≤ k)
    (hc : colU M' = colU M) (hr : OutTo c B rm (rowOf M') w1 w3) : GrTo c T g M' F w0 w3 :=
  maps_to h0 hg hM hs hn hF hFl hF1 hF2 ⟨cm, by rw [hc]; exact hM.col, Only.refl _ _ _, fun k hk => .inl hk⟩ (fun _ => hr)
end

set_option maxRecDepth 100000 in
set_option maxHeartbeats 4000000 in
theorem grid_Set_I {g : Nat} {M : Cls Int} {F : FP} {w : World} (h : GrAt codI 209 g M F w) (hlen : M.length ≤ 1000000) {a b : Int} (ha : (Lit.int .i64 a).wf = true) (hb : (Lit.int .i64 b).wf = true) (v : Int) :
    Calls Tryz.prog 116 #[.pointer (some ⟨g, 0, none⟩), .int .i64 a, .int .i64 b, .int .i64 v] w fun e w' => e = .returned (.tuple #[]) ∧ GrTo codI 209 g (cput M a b v) F w w' := by
  have hu1 : Tryz.prog.underlying 207 = some (.map 3 241) := Tryz.underlying207
  have hu2 : Tryz.prog.underlying 241 = some (.map 3 3) := Tryz.underlying241
  have hz1 : ∀ w, (zeroValue 241).run Tryz.prog w = .ok (codM.enc none) w := fun w => Tryz.zeroValue241 w
  have hz2 : ∀ w, (zeroValue 3).run Tryz.prog w = .ok (codI.enc (0 : Int)) w := fun w => Tryz.zeroValue3 w
  have hmm := @run_makeMap Tryz.prog
  obtain ⟨hs, hFg, hFl, hmem⟩ := h
  have hkey : ∃ (mv : Option Nat) (q : Bool), w.cell? ⟨g, 0, none⟩ = some (.map mv) ∧ (∀ w, (binOp .eql 207 (.map mv) (.map Option.none)).run Tryz.prog w = .ok (.bool q) w) ∧
      ((q = true ∧ M = [] ∧ w.heap[g]? = some (.cells #[.map none, .map none, .int .i64 0] 209 (0, 0))) ∨
       (q = false ∧ ∃ B C rm cm, w.heap[g]? = some (.cells #[.map (some B), .map (some C), .int .i64 M.length] 209 (0, 0)) ∧ MapsAt codI B C rm cm M w ∧ (∀ k, oblk B rm k → F k) ∧ (∀ k, oblk C cm k → F k))) := by
    rcases hmem with ⟨e, hh⟩ | ⟨B, C, rm, cm, hh, h⟩
    · exact ⟨none, true, (cells3 hh).1, fun w => by kernel_rfl, .inl ⟨rfl, e, hh⟩⟩
    · exact ⟨some B, false, (cells3 hh).1, fun w => by kernel_rfl, .inr ⟨rfl, B, C, rm, cm, hh, h⟩⟩
  obtain ⟨mv, q, kq, hq, hmem⟩ := hkey
  have HM := Lib.hid hmem
  have HFl := Lib.hid hFl
  have HFg := Lib.hid hFg
  clear hmem hFl hFg
  go_enter Tryz.func116, Tryz.ntmps116
  go_upto_if 16 with fail
  clear hq kq
  go_cut [] (fun wx => ∃ B C rm cm, wx.heap[g]? = some (.cells #[.map (some B), .map (some C), .int .i64 M.length] 209 (0, 0)) ∧ MapsAt codI B C rm cm M wx ∧ Only F (fun _ => False) w wx ∧ (∀ k, oblk B rm k → F k ∨ w.heap.size ≤ k) ∧ (∀ k, oblk C cm k → F k ∨ w.heap.size ≤ k))
  case first =>
    rcases HM.out with ⟨rfl, e, hh⟩ | ⟨rfl, B, C, rm, cm, hh, hM, h1, h2⟩
    · obtain ⟨k0, k1, k2, f0, f1, f2⟩ := cells3 hh
      have hglt : g < w.heap.size := (Array.getElem?_eq_some_iff.1 hh).1
      have HH := Lib.hid hh
      have HGL := Lib.hid hglt
      have HE := Lib.hid e
      clear hh e
      go_wp2_with fail
      go_meet
      obtain rfl := HE.out
      obtain ⟨v0, hv0⟩ : ∃ v0, v0 = (w.setCell ⟨g, 0, none⟩ (.map (some w.heap.size))).setCell ⟨g, 1, none⟩ (.map (some (w.heap.size + 1))) := ⟨_, rfl⟩
      have hvs : v0.heap.size = w.heap.size := by rw [hv0]; simp [World.setCell]
      have hg3 : v0.heap[g]? = some (.cells #[.map (some w.heap.size), .map (some (w.heap.size + 1)), .int .i64 0] 209 (0, 0)) := by rw [hv0]; exact (set3 (set3 HH.out).1).2.1
      have hov : Only F (fun _ => False) w v0 := by rw [hv0]; exact only_trans (only_set HFg.out) (only_set HFg.out)
      rw [← hv0]
      clear hv0
      have hr : OutAt codI w.heap.size [] (rowOf []) ((v0.alloc (.map #[] 0)).alloc (.map #[] 0)) := by
        have := OutAt.made codI v0
        rw [hvs] at this
        exact (this.block (fun k hk => Below.heap_alloc _ _ k (this.lt hk))).congr (fun _ => rfl)
      have hc : OutAt codU (w.heap.size + 1) [] (colU ([] : Cls Int)) ((v0.alloc (.map #[] 0)).alloc (.map #[] 0)) := by
        have := OutAt.made codU (v0.alloc (.map #[] 0))
        rw [World.size_alloc, hvs] at this
        exact this.congr (fun _ => rfl)
      have hob : ∀ B k, oblk B [] k → k = B := fun B k hk => hk.elim id (fun ⟨a, ha⟩ => by simp [sget] at ha)
      have hM1 : MapsAt codI w.heap.size (w.heap.size + 1) [] [] ([] : Cls Int) ((v0.alloc (.map #[] 0)).alloc (.map #[] 0)) := ⟨hr, hc, fun k hk hk' => by have := hob _ _ hk; have := hob _ _ hk'; omega⟩
      have hg1 : ((v0.alloc (.map #[] 0)).alloc (.map #[] 0)).heap[g]? = some (.cells #[.map (some w.heap.size), .map (some (w.heap.size + 1)), .int .i64 0] 209 (0, 0)) := by
        rw [Below.heap_alloc _ _ g (by simp; omega), Below.heap_alloc _ _ g (by omega)]; exact hg3
      refine ⟨_, _, _, _, hg1, hM1, ?_, fun k hk => .inr ?_, fun k hk => .inr ?_⟩
      · exact only_trans hov (only_trans (only_alloc _) (only_alloc _))
      · have := hob _ _ hk; omega
      · have := hob _ _ hk; omega
    · obtain ⟨k0, k1, k2, f0, f1, f2⟩ := cells3 hh
      have HH := Lib.hid hh
      have HMM := Lib.hid hM
      have H1 := Lib.hid h1
      have H2 := Lib.hid h2
      clear hh hM h1 h2
      go_wp2_with fail
      go_meet
      exact ⟨B, C, rm, cm, HH.out, HMM.out, Only.refl _ _ _, fun k hk => .inl (H1.out k hk), fun k hk => .inl (H2.out k hk)⟩
  case rest =>
    obtain ⟨B, C, rm, cm, hh, hM, ho, h1, h2⟩ := hcut
    obtain ⟨k0, k1, k2, f0, f1, f2⟩ := cells3 hh
    have hrl := outer_length hM.row hs
    have hcl := cols_length hM.col
    have hra := row_length M a
    have hcb := colU_length M b
    have hFl := HFl.out
    have hFg := HFg.out
    obtain ⟨mi, hl1, hl2⟩ : ∃ mi, (Instr.lookup 207 (.map (some B)) (.int .i64 a) false).run Tryz.prog wc = .ok (.map mi) wc ∧
        (Instr.lookup 241 (.map mi) (.int .i64 b) true).run Tryz.prog wc = .ok (.tuple #[codI.enc ((cget M a b).getD (0 : Int)), .bool (cget M a b).isSome]) wc := by
      have hl := hM.row.map.look (z0 := none) hu1 (hz1 wc) ha
      cases hsg : sget rm a with
      | none =>
        rw [hsg] at hl
        refine ⟨none, hl, ?_⟩
        have hr := hM.row.isNil hsg
        have : cget M a b = none := by rw [cget, hr]; rfl
        rw [this]
        exact nil_look hu2 (hz2 wc) hb true
      | some x =>
        obtain ⟨b', rfl, _, _, h3⟩ := hM.row.at_ a x hsg
        rw [hsg] at hl
        exact ⟨some b', hl, h3.look_ok hu2 (hz2 wc) hb⟩
    obtain ⟨r, hr⟩ : ∃ r, r = codI.enc ((cget M a b).getD (0 : Int)) := ⟨_, rfl⟩
    rw [← hr] at hl2
    clear hr
    by_cases hsome : (cget M a b).isSome = true
    · -- the cell was there
      rw [hsome] at hl2
      have hcol : colU (cput M a b v) = colU M := by
        rw [← colU_put hs]
        funext j
        split
        · rename_i e; subst e
          obtain ⟨u, hu⟩ := Option.isSome_iff_exists.1 hsome
          refine ((srt_colU hs j).put _ _).ext (srt_colU hs j) (fun x => ?_)
          rw [mem_sput]
          constructor
          · rintro (e | e)
            · subst e; exact mem_colU.2 ⟨u, mem_colOf.2 (hs.get.1 hu)⟩
            · exact e.1
          · intro hx
            by_cases e : x.1 = a
            · exact .inl (by rw [← e])
            · exact .inr ⟨hx, e⟩
        · rfl
      have hn : (M.length : Int) = (cput M a b v).length := by rw [hs.length_put, if_pos hsome]
      have hlay := lay_I hM.row (by unfold maxLen; omega) (a := a) (b := b) (by unfold maxLen; omega) ha hb v
      rw [rowOf_put hs] at hlay
      have HLAY := Lib.hid hlay
      have HL1 := Lib.hid hl1
      have HL2 := Lib.hid hl2
      have HFIN := Lib.hid (And.intro ho (And.intro hh (And.intro hM (And.intro (hs.put a b v) (And.intro hn (And.intro hFg (And.intro hFl (And.intro h1 (And.intro h2 hcol)))))))))
      clear hlay hl1 hl2 ho hh hM hs hn hFg hFl h1 h2 hcol hsome hrl hcl hra hcb hlen ha hb hu1 hu2 hz1 hz2 hmm
      have tok1 : True := trivial
      go_wp2_with (first
        | (at_lookup; have _t := tok1; refine wpl_look rfl _ _ _ _ rfl rfl rfl HL1.out ?_; clear tok1)
        | (at_lookup; refine wpl_look rfl _ _ _ _ rfl rfl rfl HL2.out ?_)
        | (go_at_call 136; refine HLAY.out.mono ?_; rintro e w2 ⟨rfl, hout⟩; have HOUT := Lib.hid hout; clear hout)
        | fail)
      refine bodyPost_end (results_none rfl _ _ _) rfl ⟨rfl, ?_⟩
      obtain ⟨ho, hh, hM, hs', hn, hFg, hFl, h1, h2, hcol⟩ := HFIN.out
      exact row_to ho hh hM hs' hn hFg hFl h1 h2 hcol HOUT.out
    · -- it was not
      have hnone : (cget M a b).isSome = false := by simpa using hsome
      rw [hnone] at hl2
      have W1 : IntKind.i64.wrap ((M.length : Int) + 1) = (M.length : Int) + 1 := IntWalk.i64_in _ (by omega)
      obtain ⟨wy, hwy⟩ : ∃ wy, wy = wc.setCell ⟨g, 2, none⟩ (.int .i64 ((M.length : Int) + 1)) := ⟨_, rfl⟩
      have hgy : wy.heap[g]? = some (.cells #[.map (some B), .map (some C), .int .i64 ((M.length : Int) + 1)] 209 (0, 0)) := by rw [hwy]; exact (set3 hh).2.2
      have hMy : MapsAt codI B C rm cm M wy := by rw [hwy]; exact hM.set hh
      have hoy : Only F (fun _ => False) w wy := only_trans ho (by rw [hwy]; exact only_set hFg)
      have hn : (M.length : Int) + 1 = (cput M a b v).length := by rw [hs.length_put, if_neg hsome]; simp
      have hlayC := lay_U hMy.col (by unfold maxLen; omega) (a := b) (b := a) (by unfold maxLen; omega) hb ha ()
      rw [colU_put hs a b v] at hlayC
      have hlayR : ∀ w2, OutAt codI B rm (rowOf M) w2 → Calls Tryz.prog 136 #[.map (some B), .int .i64 a, .int .i64 b, .int .i64 v] w2 fun e w' => e = .returned (.tuple #[]) ∧ OutTo codI B rm (rowOf (cput M a b v)) w2 w' := fun w2 h2 => by
        have := lay_I h2 (by unfold maxLen; omega) (a := a) (b := b) (by unfold maxLen; omega) ha hb v
        rw [rowOf_put hs] at this
        exact this
      have hkeep : ∀ w2, OutTo codU C cm (colU (cput M a b v)) wy w2 → w2.cell? ⟨g, 0, none⟩ = some (.map (some B)) ∧ OutAt codI B rm (rowOf M) w2 := fun w2 ⟨cm', c1, c2, c3⟩ => by
        have hglt : g < wy.heap.size := (Array.getElem?_eq_some_iff.1 hgy).1
        refine ⟨?_, hMy.row.block (fun k hk => c2.block k (hMy.row.lt hk) (hMy.off k hk) (fun h => h))⟩
        rw [World.cell?_of_block (c2.block g hglt (fun hk => hMy.notg hgy (.inr hk) rfl) (fun h => h))]
        exact (cells3 hgy).1
      rw [hwy] at hlayC hkeep
      have HLC := Lib.hid hlayC
      have HLR := Lib.hid hlayR
      have HKP := Lib.hid hkeep
      have HL1 := Lib.hid hl1
      have HL2 := Lib.hid hl2
      have HW := Lib.hid hwy
      have HFIN := Lib.hid (And.intro hoy (And.intro hgy (And.intro hMy (And.intro (hs.put a b v) (And.intro hn (And.intro hFg (And.intro hFl (And.intro h1 h2))))))))
      clear hlayC hlayR hkeep hl1 hl2 hwy hoy hgy hMy ho hh hM hs hn hFg hFl h1 h2 hsome hnone hrl hcl hra hcb ha hb hu1 hu2 hz1 hz2 hmm
      have tok1 : True := trivial
      go_wp2_with (first
        | (at_lookup; have _t := tok1; refine wpl_look rfl _ _ _ _ rfl rfl rfl HL1.out ?_; clear tok1)
        | (at_lookup; refine wpl_look rfl _ _ _ _ rfl rfl rfl HL2.out ?_)
        | (go_at_call 89; refine HLC.out.mono ?_; rintro e w2 ⟨rfl, hout⟩; obtain ⟨k9, hrow⟩ := HKP.out w2 hout; have HOUT := Lib.hid hout; have HROW := Lib.hid hrow; clear hout hrow)
        | (go_at_call 136; refine (HLR.out _ HROW.out).mono ?_; rintro e w3 ⟨rfl, hout3⟩; have HOUT3 := Lib.hid hout3; clear hout3)
        | fail)
      refine bodyPost_end (results_none rfl _ _ _) rfl ⟨rfl, ?_⟩
      obtain ⟨hoy, hgy, hMy, hs', hn, hFg, hFl, h1, h2⟩ := HFIN.out
      have hc := HOUT.out
      rw [← HW.out] at hc
      exact maps_to hoy hgy hMy hs' hn hFg hFl h1 h2 hc (fun _ => HOUT3.out)

set_option maxRecDepth 100000 in
set_option maxHeartbeats 4000000 in
theorem grid_Del_I {g : Nat} {M : Cls Int} {F : FP} {w : World} (h : GrAt codI 209 g M F w) (hlen : M.length ≤ 1000000) {a b : Int} (ha : (Lit.int .i64 a).wf = true) (hb : (Lit.int .i64 b).wf = true) :
    Calls Tryz.prog 115 #[.pointer (some ⟨g, 0, none⟩), .int .i64 a, .int .i64 b] w fun e w' => e = .returned (.bool (cget M a b).isSome) ∧ GrTo codI 209 g (cdel M a b) F w w' := by
  have hget := grid_Get_I h ha hb
  obtain ⟨r, hr⟩ : ∃ r, r = codI.enc ((cget M a b).getD (0 : Int)) := ⟨_, rfl⟩
  rw [← hr] at hget
  clear hr
  by_cases hsome : (cget M a b).isSome = true
  · rw [hsome] at hget
    obtain ⟨hs, hFg, hFl, hmem⟩ := h
    obtain ⟨u, hu⟩ := Option.isSome_iff_exists.1 hsome
    have hM0 : M ≠ [] := List.ne_nil_of_mem (hs.get.1 hu)
    obtain ⟨B, C, rm, cm, hh, hM, h1, h2⟩ := hmem.resolve_left (fun h => hM0 h.1)
    obtain ⟨k0, k1, k2, f0, f1, f2⟩ := cells3 hh
    have hpos := List.length_pos_iff.2 hM0
    have hra := row_length M a
    have hcb := colU_length M b
    have hr0 : rowOf M a ≠ [] := List.ne_nil_of_mem ((mem_rowOf (x := (b, u))).2 (hs.get.1 hu))
    have hc0 : colU M b ≠ [] := List.ne_nil_of_mem ((mem_colU (x := (a, ()))).2 ⟨u, (mem_colOf (x := (a, u))).2 (hs.get.1 hu)⟩)
    have W1 : IntKind.i64.wrap ((M.length : Int) - 1) = (M.length : Int) - 1 := IntWalk.i64_in _ (by omega)
    obtain ⟨wy, hwy⟩ : ∃ wy, wy = w.setCell ⟨g, 2, none⟩ (.int .i64 ((M.length : Int) - 1)) := ⟨_, rfl⟩
    have hgy : wy.heap[g]? = some (.cells #[.map (some B), .map (some C), .int .i64 ((M.length : Int) - 1)] 209 (0, 0)) := by rw [hwy]; exact (set3 hh).2.2
    have hMy : MapsAt codI B C rm cm M wy := by rw [hwy]; exact hM.set hh
    have hoy : Only F (fun _ => False) w wy := by rw [hwy]; exact only_set hFg
    have hn : (M.length : Int) - 1 = (cdel M a b).length := by have := hs.length_del a b; rw [if_pos hsome] at this; omega
    have htC := take_U hMy.col (a := b) (b := a) hc0 (by omega) hb ha
    rw [colU_del hs a b] at htC
    have htR : ∀ w2, OutAt codI B rm (rowOf M) w2 → Calls Tryz.prog 135 #[.map (some B), .int .i64 a, .int .i64 b] w2 fun e w' => e = .returned (.tuple #[]) ∧ OutTo codI B rm (rowOf (cdel M a b)) w2 w' := fun w2 h2 => by
      have := take_I h2 (a := a) (b := b) hr0 (by omega) ha hb
      rw [rowOf_del hs] at this
      exact this
    have hkeep : ∀ w2, OutTo codU C cm (colU (cdel M a b)) wy w2 → w2.cell? ⟨g, 0, none⟩ = some (.map (some B)) ∧ OutAt codI B rm (rowOf M) w2 := fun w2 ⟨cm', c1, c2, c3⟩ => by
      have hglt : g < wy.heap.size := (Array.getElem?_eq_some_iff.1 hgy).1
      refine ⟨?_, hMy.row.block (fun k hk => c2.block k (hMy.row.lt hk) (hMy.off k hk) (fun h => h))⟩
      rw [World.cell?_of_block (c2.block g hglt (fun hk => hMy.notg hgy (.inr hk) rfl) (fun h => h))]
      exact (cells3 hgy).1
    rw [hwy] at htC hkeep
    have HG := Lib.hid hget
    have HLC := Lib.hid htC
    have HLR := Lib.hid htR
    have HKP := Lib.hid hkeep
    have HW := Lib.hid hwy
    have HFIN := Lib.hid (And.intro hoy (And.intro hgy (And.intro hMy (And.intro (hs.del a b) (And.intro hn (And.intro hFg (And.intro hFl (And.intro (fun k hk => Or.inl (b := w.heap.size ≤ k) (h1 k hk)) (fun k hk => Or.inl (b := w.heap.size ≤ k) (h2 k hk))))))))))
    clear htC htR hkeep hwy hoy hgy hMy hh hM hs hn hFg hFl h1 h2 hra hcb ha hb hget hu hM0 hmem hr0 hc0
    rw [hsome]
    clear hsome
    go_enter Tryz.func115, Tryz.ntmps115
    go_wp2_with (first
      | (go_at_call 134; refine HG.out.mono ?_; rintro e w2 ⟨rfl, rfl⟩)
      | (go_at_call 99; refine HLC.out.mono ?_; rintro e w2 ⟨rfl, hout⟩; obtain ⟨k9, hrow⟩ := HKP.out w2 hout; have HOUT := Lib.hid hout; have HROW := Lib.hid hrow; clear hout hrow)
      | (go_at_call 135; refine (HLR.out _ HROW.out).mono ?_; rintro e w3 ⟨rfl, hout3⟩; have HOUT3 := Lib.hid hout3; clear hout3)
      | fail)
    go_ret
    refine ⟨rfl, ?_⟩
    obtain ⟨hoy, hgy, hMy, hs', hn, hFg, hFl, h1, h2⟩ := HFIN.out
    have hc := HOUT.out
    rw [← HW.out] at hc
    exact maps_to hoy hgy hMy hs' hn hFg hFl h1 h2 hc (fun _ => HOUT3.out)
  · have hnone : (cget M a b).isSome = false := by simpa using hsome
    have hdel : cdel M a b = M := cdel_none (by simpa using hsome)
    rw [hnone] at hget
    rw [hnone, hdel]
    have HG := Lib.hid hget
    have HH := Lib.hid h
    clear hget h hsome hnone hdel ha hb
    go_enter Tryz.func115, Tryz.ntmps115
    go_wp2_with (first
      | (go_at_call 134; refine HG.out.mono ?_; rintro e w2 ⟨rfl, rfl⟩)
      | fail)
    go_ret
    exact ⟨rfl, F, HH.out, fun k hk => .inl hk, Only.refl _ _ _⟩
theorem grid_Del_nil_I (w : World) (a b : Int) : Calls Tryz.prog 115 #[.pointer none, .int .i64 a, .int .i64 b] w fun e w' => e = .returned (.bool false) ∧ w' = w := by
  have hget := grid_Get_nil_I w a b
  obtain ⟨r, hr⟩ : ∃ r, r = codI.enc (0 : Int) := ⟨_, rfl⟩
  rw [← hr] at hget
  clear hr
  have HG := Lib.hid hget
  clear hget
  go_enter Tryz.func115, Tryz.ntmps115
  go_wp2_with (first
    | (go_at_call 134; refine HG.out.mono ?_; rintro e w2 ⟨rfl, rfl⟩)
    | fail)
  go_ret
  exact ⟨rfl, rfl⟩
end Go.Proofs.YtpkamfbjgdmmoaaGreat
end

section
namespace Go.Proofs.YtpkamfbjgdmmoaaGreat
open Go.RowKit Go.Maps
set_option linter.unusedVariables false
set_option linter.unusedSimpArgs false

theorem GrTo.later {β : Type} {c : Cod β} {T : TypeId} {g : Nat} {M : Cls β} {F : FP} {w u w' : World} (hb : Below w.heap.size w u) (h : GrTo c T g M F u w') : GrTo c T g M F w w' := by
  obtain ⟨F', h1, h2, h3⟩ := h
  exact ⟨F', h1, fun k hk => (h2 k hk).imp id (fun h => Nat.le_trans hb.size h), only_trans (Only.of_later hb) h3⟩
theorem OutTo.drew {β : Type} {c : Cod β} {B : Nat} {rm : List (Int × Option Nat)} {rows : Int → List (Int × β)} {w w' : World} (h : OutTo c B rm rows w w') : OutTo c B rm rows w w'.drew := by
  obtain ⟨rm', h1, h2, h3⟩ := h
  exact ⟨rm', h1.block (fun k _ => rfl), only_trans h2 (Only.of_later (Below.refl _ w').drew), h3⟩
def loadSt_V (v : Value) : Sem Value := Instr.loadAt 47 v
theorem loadSt_V_hide (v : Value) : Instr.loadAt 47 v = loadSt_V v := rfl
theorem run_loadSt_V {w : World} {b : Nat} {t : _} (h : w.rangeAt b 0 (balS.f t)) : (loadSt_V (.pointer (some ⟨b, 0, none⟩))).run Tryz.prog w = .ok (.agg (balS.f t).toArray) w := run_loadS (s := balS) h
def loadSt_D (v : Value) : Sem Value := Instr.loadAt 115 v
theorem loadSt_D_hide (v : Value) : Instr.loadAt 115 v = loadSt_D v := rfl
theorem run_loadSt_D {w : World} {b : Nat} {t : _} (h : w.rangeAt b 0 (dlgS.f t)) : (loadSt_D (.pointer (some ⟨b, 0, none⟩))).run Tryz.prog w = .ok (.agg (dlgS.f t).toArray) w := run_loadS (s := dlgS) h
def loadSt_W (v : Value) : Sem Value := Instr.loadAt 121 v
theorem loadSt_W_hide (v : Value) : Instr.loadAt 121 v = loadSt_W v := rfl
theorem run_loadSt_W {w : World} {b : Nat} {t : _} (h : w.rangeAt b 0 (wgtS.f t)) : (loadSt_W (.pointer (some ⟨b, 0, none⟩))).run Tryz.prog w = .ok (.agg (wgtS.f t).toArray) w := run_loadS (s := wgtS) h
def loadSt_Q (v : Value) : Sem Value := Instr.loadAt 154 v
theorem loadSt_Q_hide (v : Value) : Instr.loadAt 154 v = loadSt_Q v := rfl
theorem run_loadSt_Q {w : World} {b : Nat} {t : _} (h : w.rangeAt b 0 (priS.f t)) : (loadSt_Q (.pointer (some ⟨b, 0, none⟩))).run Tryz.prog w = .ok (.agg (priS.f t).toArray) w := run_loadS (s := priS) h

set_option maxRecDepth 100000 in
set_option maxHeartbeats 4000000 in
attribute [local go_sem ↓] loadSt_V_hide in
theorem grid_Set_V {g : Nat} {M : Cls Bal} {F : FP} {w : World} (h : GrAt balS.cod 178 g M F w) (hlen : M.length ≤ 1000000) {a b : Int} (ha : (Lit.int .i64 a).wf = true) (hb : (Lit.int .i64 b).wf = true) (v : Bal) :
    Calls Tryz.prog 54 #[.pointer (some ⟨g, 0, none⟩), .int .i64 a, .int .i64 b, .agg (balS.f v).toArray] w fun e w' => e = .returned (.tuple #[]) ∧ GrTo balS.cod 178 g (cput M a b v) F w w' := by
  have hu1 : Tryz.prog.underlying 176 = some (.map 3 175) := Tryz.underlying176
  have hu2 : Tryz.prog.underlying 175 = some (.map 3 47) := Tryz.underlying175
  have hz1 : ∀ w, (zeroValue 175).run Tryz.prog w = .ok (codM.enc none) w := fun w => Tryz.zeroValue175 w
  have hz2 : ∀ w, (zeroValue 47).run Tryz.prog w = .ok (balS.cod.enc balS.zero) w := fun w => balS.zeroRun w
  have hmm := @run_makeMap Tryz.prog
  obtain ⟨uw, hu⟩ : ∃ u, u = w.alloc (.cells (balS.f v).toArray 47) := ⟨_, rfl⟩
  have hbu : Below w.heap.size w uw := by rw [hu]; exact (Below.refl _ w).alloc (Nat.le_refl _) _
  obtain ⟨vb, hvb⟩ : ∃ vb, vb = w.heap.size := ⟨_, rfl⟩
  have hvF : ¬ F vb := fun hk => by have := h.2.2.1 vb hk; omega
  have hvl : vb < uw.heap.size := by rw [hu, hvb]; simp
  have hrg : uw.rangeAt vb 0 (balS.f v) := by rw [hu, hvb]; exact atS balS w v
  have h : GrAt balS.cod 178 g M F uw := h.keep (Grow.of_below hbu) (fun k hk => hbu.block k (h.2.2.1 k hk))
  have HBU := Lib.hid hbu
  have HU := Lib.hid (And.intro hu hvb)
  have HV := Lib.hid (And.intro hvF (And.intro hvl hrg))
  clear hu hbu hvb hvF hvl hrg
  obtain ⟨hs, hFg, hFl, hmem⟩ := h
  have hkey : ∃ (mv : Option Nat) (q : Bool), uw.cell? ⟨g, 0, none⟩ = some (.map mv) ∧ (∀ uw, (binOp .eql 176 (.map mv) (.map Option.none)).run Tryz.prog uw = .ok (.bool q) uw) ∧
      ((q = true ∧ M = [] ∧ uw.heap[g]? = some (.cells #[.map none, .map none, .int .i64 0] 178 (0, 0))) ∨
       (q = false ∧ ∃ B C rm cm, uw.heap[g]? = some (.cells #[.map (some B), .map (some C), .int .i64 M.length] 178 (0, 0)) ∧ MapsAt balS.cod B C rm cm M uw ∧ (∀ k, oblk B rm k → F k) ∧ (∀ k, oblk C cm k → F k))) := by
    rcases hmem with ⟨e, hh⟩ | ⟨B, C, rm, cm, hh, h⟩
    · exact ⟨none, true, (cells3 hh).1, fun uw => by kernel_rfl, .inl ⟨rfl, e, hh⟩⟩
    · exact ⟨some B, false, (cells3 hh).1, fun uw => by kernel_rfl, .inr ⟨rfl, B, C, rm, cm, hh, h⟩⟩
  obtain ⟨mv, q, kq, hq, hmem⟩ := hkey
  have HM := Lib.hid hmem
  have HFl := Lib.hid hFl
  have HFg := Lib.hid hFg
  clear hmem hFl hFg
  go_enter Tryz.func54, Tryz.ntmps54
  go_upto_region 1 with fail
  rw [← HU.out.1, ← HU.out.2]
  go_upto_if 16 with fail
  clear hq kq
  go_cut [] (fun wx => ∃ B C rm cm, wx.heap[g]? = some (.cells #[.map (some B), .map (some C), .int .i64 M.length] 178 (0, 0)) ∧ MapsAt balS.cod B C rm cm M wx ∧ Only F (fun _ => False) uw wx ∧ (∀ k, oblk B rm k → F k ∨ uw.heap.size ≤ k) ∧ (∀ k, oblk C cm k → F k ∨ uw.heap.size ≤ k))
  case first =>
    rcases HM.out with ⟨rfl, e, hh⟩ | ⟨rfl, B, C, rm, cm, hh, hM, h1, h2⟩
    · obtain ⟨k0, k1, k2, f0, f1, f2⟩ := cells3 hh
      have hglt : g < uw.heap.size := (Array.getElem?_eq_some_iff.1 hh).1
      have HH := Lib.hid hh
      have HGL := Lib.hid hglt
      have HE := Lib.hid e
      clear hh e
      go_wp2_with fail
      go_meet
      obtain rfl := HE.out
      obtain ⟨v0, hv0⟩ : ∃ v0, v0 = (uw.setCell ⟨g, 0, none⟩ (.map (some uw.heap.size))).setCell ⟨g, 1, none⟩ (.map (some (uw.heap.size + 1))) := ⟨_, rfl⟩
      have hvs : v0.heap.size = uw.heap.size := by rw [hv0]; simp [World.setCell]
      have hg3 : v0.heap[g]? = some (.cells #[.map (some uw.heap.size), .map (some (uw.heap.size + 1)), .int .i64 0] 178 (0, 0)) := by rw [hv0]; exact (set3 (set3 HH.out).1).2.1
      have hov : Only F (fun _ => False) uw v0 := by rw [hv0]; exact only_trans (only_set HFg.out) (only_set HFg.out)
      rw [← hv0]
      clear hv0
      have hr : OutAt balS.cod uw.heap.size [] (rowOf []) ((v0.alloc (.map #[] 0)).alloc (.map #[] 0)) := by
        have := OutAt.made balS.cod v0
        rw [hvs] at this
        exact (this.block (fun k hk => Below.heap_alloc _ _ k (this.lt hk))).congr (fun _ => rfl)
      have hc : OutAt codU (uw.heap.size + 1) [] (colU ([] : Cls Bal)) ((v0.alloc (.map #[] 0)).alloc (.map #[] 0)) := by
        have := OutAt.made codU (v0.alloc (.map #[] 0))
        rw [World.size_alloc, hvs] at this
        exact this.congr (fun _ => rfl)
      have hob : ∀ B k, oblk B [] k → k = B := fun B k hk => hk.elim id (fun ⟨a, ha⟩ => by simp [sget] at ha)
      have hM1 : MapsAt balS.cod uw.heap.size (uw.heap.size + 1) [] [] ([] : Cls Bal) ((v0.alloc (.map #[] 0)).alloc (.map #[] 0)) := ⟨hr, hc, fun k hk hk' => by have := hob _ _ hk; have := hob _ _ hk'; omega⟩
      have hg1 : ((v0.alloc (.map #[] 0)).alloc (.map #[] 0)).heap[g]? = some (.cells #[.map (some uw.heap.size), .map (some (uw.heap.size + 1)), .int .i64 0] 178 (0, 0)) := by
        rw [Below.heap_alloc _ _ g (by simp; omega), Below.heap_alloc _ _ g (by omega)]; exact hg3
      refine ⟨_, _, _, _, hg1, hM1, ?_, fun k hk => .inr ?_, fun k hk => .inr ?_⟩
      · exact only_trans hov (only_trans (only_alloc _) (only_alloc _))
      · have := hob _ _ hk; omega
      · have := hob _ _ hk; omega
    · obtain ⟨k0, k1, k2, f0, f1, f2⟩ := cells3 hh
      have HH := Lib.hid hh
      have HMM := Lib.hid hM
      have H1 := Lib.hid h1
      have H2 := Lib.hid h2
      clear hh hM h1 h2
      go_wp2_with fail
      go_meet
      exact ⟨B, C, rm, cm, HH.out, HMM.out, Only.refl _ _ _, fun k hk => .inl (H1.out k hk), fun k hk => .inl (H2.out k hk)⟩
  case rest =>
    obtain ⟨B, C, rm, cm, hh, hM, ho, h1, h2⟩ := hcut
    have hrg : wc.rangeAt vb 0 (balS.f v) := rangeAt_block HV.out.2.2 (ho.block vb HV.out.2.1 HV.out.1 (fun h => h))
    have HRG := Lib.hid hrg
    obtain ⟨k0, k1, k2, f0, f1, f2⟩ := cells3 hh
    have hrl := outer_length hM.row hs
    have hcl := cols_length hM.col
    have hra := row_length M a
    have hcb := colU_length M b
    have hFl := HFl.out
    have hFg := HFg.out
    obtain ⟨mi, hl1, hl2⟩ : ∃ mi, (Instr.lookup 176 (.map (some B)) (.int .i64 a) false).run Tryz.prog wc = .ok (.map mi) wc ∧
        (Instr.lookup 175 (.map mi) (.int .i64 b) true).run Tryz.prog wc = .ok (.tuple #[balS.cod.enc ((cget M a b).getD balS.zero), .bool (cget M a b).isSome]) wc := by
      have hl := hM.row.map.look (z0 := none) hu1 (hz1 wc) ha
      cases hsg : sget rm a with
      | none =>
        rw [hsg] at hl
        refine ⟨none, hl, ?_⟩
        have hr := hM.row.isNil hsg
        have : cget M a b = none := by rw [cget, hr]; rfl
        rw [this]
        exact nil_look hu2 (hz2 wc) hb true
      | some x =>
        obtain ⟨b', rfl, _, _, h3⟩ := hM.row.at_ a x hsg
        rw [hsg] at hl
        exact ⟨some b', hl, h3.look_ok hu2 (hz2 wc) hb⟩
    obtain ⟨t, ht⟩ : ∃ t, t = (cget M a b).getD balS.zero := ⟨_, rfl⟩
    rw [← ht] at hl2
    obtain ⟨wd, hwd⟩ : ∃ wd, wd = wc.alloc (balS.obj t) := ⟨_, rfl⟩
    have hbd : Below wc.heap.size wc wd := by rw [hwd]; exact (Below.refl _ wc).alloc (Nat.le_refl _) _
    have hh := (hbd.block g (Array.getElem?_eq_some_iff.1 hh).1).trans hh
    have hM : MapsAt balS.cod B C rm cm M wd := hM.block (fun k hk => hbd.block k (hk.elim hM.row.lt hM.col.lt))
    have ho : Only F (fun _ => False) uw wd := only_trans ho (by rw [hwd]; exact only_alloc _)
    obtain ⟨m0, m1, m2, n0, n1, n2⟩ := cells3 hh
    have hrg : wd.rangeAt vb 0 (balS.f v) := rangeAt_block HV.out.2.2 (ho.block vb HV.out.2.1 HV.out.1 (fun h => h))
    have HRG := Lib.hid hrg
    have HWD := Lib.hid hwd
    clear ht hwd hbd
    by_cases hsome : (cget M a b).isSome = true
    · -- the cell was there
      rw [hsome] at hl2
      have hcol : colU (cput M a b v) = colU M := by
        rw [← colU_put hs]
        funext j
        split
        · rename_i e; subst e
          obtain ⟨u, hu⟩ := Option.isSome_iff_exists.1 hsome
          refine ((srt_colU hs j).put _ _).ext (srt_colU hs j) (fun x => ?_)
          rw [mem_sput]
          constructor
          · rintro (e | e)
            · subst e; exact mem_colU.2 ⟨u, mem_colOf.2 (hs.get.1 hu)⟩
            · exact e.1
          · intro hx
            by_cases e : x.1 = a
            · exact .inl (by rw [← e])
            · exact .inr ⟨hx, e⟩
        · rfl
      have hn : (M.length : Int) = (cput M a b v).length := by rw [hs.length_put, if_pos hsome]
      have hlay := lay_V (w := wd.drew) (hM.row.block (fun k _ => rfl)) (by unfold maxLen; omega) (a := a) (b := b) (by unfold maxLen; omega) ha hb v
      rw [rowOf_put hs] at hlay
      have hks : ∀ w2, OutTo balS.cod B rm (rowOf (cput M a b v)) wd.drew w2 → w2.cell? ⟨g, 0, none⟩ = some (.map (some B)) ∧ (loadSt_V (.pointer (some ⟨vb, 0, none⟩))).run Tryz.prog w2 = .ok (.agg (balS.f v).toArray) w2 := fun w2 ⟨rm', r1, r2, r3⟩ => by
        have hgl : g < wd.heap.size := (Array.getElem?_eq_some_iff.1 hh).1
        refine ⟨?_, run_loadSt_V (rangeAt_block (w := wd) hrg (r2.block vb (Nat.lt_of_lt_of_le HV.out.2.1 ho.grow.size) (fun hk => (h1 vb hk).elim HV.out.1 (fun h => by have := HV.out.2.1; omega)) (fun h => h)))⟩
        rw [World.cell?_of_block (r2.block g hgl (fun hk => hM.notg hh (.inl hk) rfl) (fun h => h))]
        exact (cells3 hh).1
      have HKS := Lib.hid hks
      have KD := Lib.hid (show wd.drew.cell? ⟨g, 0, none⟩ = some (.map (some B)) ∧ (loadSt_V (.pointer (some ⟨vb, 0, none⟩))).run Tryz.prog wd.drew = .ok (.agg (balS.f v).toArray) wd.drew from ⟨(cells3 hh).1, run_loadSt_V hrg⟩)
      clear hks
      have HLAY := Lib.hid hlay
      have HL1 := Lib.hid hl1
      have HL2 := Lib.hid hl2
      have HFIN := Lib.hid (And.intro (show Only F (fun _ => False) uw wd.drew from only_trans ho (Only.of_later (Below.refl _ wd).drew)) (And.intro (show wd.drew.heap[g]? = _ from hh) (And.intro (show MapsAt balS.cod B C rm cm M wd.drew from hM.block (fun k _ => rfl)) (And.intro (hs.put a b v) (And.intro hn (And.intro hFg (And.intro hFl (And.intro h1 (And.intro h2 hcol)))))))))
      clear hrg hlay hl1 hl2 ho hh hM hs hn hFg hFl h1 h2 hcol hsome hrl hcl hra hcb hlen ha hb hu1 hu2 hz1 hz2 hmm
      have tok1 : True := trivial
      go_wp2_with (first
        | (at_lookup; have _t := tok1; refine wpl_look rfl _ _ _ _ rfl rfl rfl HL1.out ?_; clear tok1)
        | (at_lookup; refine wpl_look rfl _ _ _ _ rfl rfl rfl HL2.out ?_)
        | (refine wpl_allocS (s := balS) rfl rfl rfl ?_)
        | (refine wpl_storeS (s := balS) (t := t) (b := wc.heap.size) _ _ rfl rfl rfl rfl rfl (World.alloc_heap_new wc _) (zeroS balS) ?_; rw [newS, ← HWD.out])
        | fail)
      go_region_held3 (fun w' => w'.cell? ⟨g, 0, none⟩ = some (.map (some B)) ∧ (loadSt_V (.pointer (some ⟨vb, 0, none⟩))).run Tryz.prog w' = .ok (.agg (balS.f v).toArray) w') (first | exact KD.out | exact K2.out) (first
        | (go_at_call 90; refine HLAY.out.mono ?_; rintro e w2 ⟨rfl, hout⟩; have K2 := Lib.hid (HKS.out w2 hout); have HOUT := Lib.hid hout; clear hout)
        | fail)
      all_goals go_wp2_with fail
      refine bodyPost_end (results_none rfl _ _ _) rfl ⟨rfl, GrTo.later HBU.out ?_⟩
      obtain ⟨ho, hh, hM, hs', hn, hFg, hFl, h1, h2, hcol⟩ := HFIN.out
      exact row_to ho hh hM hs' hn hFg hFl h1 h2 hcol HOUT.out
    · -- it was not
      have hnone : (cget M a b).isSome = false := by simpa using hsome
      rw [hnone] at hl2
      have W1 : IntKind.i64.wrap ((M.length : Int) + 1) = (M.length : Int) + 1 := IntWalk.i64_in _ (by omega)
      obtain ⟨wy, hwy⟩ : ∃ wy, wy = wd.setCell ⟨g, 2, none⟩ (.int .i64 ((M.length : Int) + 1)) := ⟨_, rfl⟩
      have hgy : wy.heap[g]? = some (.cells #[.map (some B), .map (some C), .int .i64 ((M.length : Int) + 1)] 178 (0, 0)) := by rw [hwy]; exact (set3 hh).2.2
      have hMy : MapsAt balS.cod B C rm cm M wy := by rw [hwy]; exact hM.set hh
      have hoy : Only F (fun _ => False) uw wy := only_trans ho (by rw [hwy]; exact only_set hFg)
      have hn : (M.length : Int) + 1 = (cput M a b v).length := by rw [hs.length_put, if_neg hsome]; simp
      have hlayC := lay_U hMy.col (by unfold maxLen; omega) (a := b) (b := a) (by unfold maxLen; omega) hb ha ()
      rw [colU_put hs a b v] at hlayC
      have hlayR : ∀ w2, OutAt balS.cod B rm (rowOf M) w2 → Calls Tryz.prog 90 #[.map (some B), .int .i64 a, .int .i64 b, .agg (balS.f v).toArray] w2 fun e w' => e = .returned (.tuple #[]) ∧ OutTo balS.cod B rm (rowOf (cput M a b v)) w2 w' := fun w2 h2 => by
        have := lay_V h2 (by unfold maxLen; omega) (a := a) (b := b) (by unfold maxLen; omega) ha hb v
        rw [rowOf_put hs] at this
        exact this
      have hkeep : ∀ w2, OutTo codU C cm (colU (cput M a b v)) wy w2 → w2.cell? ⟨g, 0, none⟩ = some (.map (some B)) ∧ OutAt balS.cod B rm (rowOf M) w2 ∧ w2.rangeAt vb 0 (balS.f v) := fun w2 ⟨cm', c1, c2, c3⟩ => by
        have hglt : g < wy.heap.size := (Array.getElem?_eq_some_iff.1 hgy).1
        refine ⟨?_, hMy.row.block (fun k hk => c2.block k (hMy.row.lt hk) (hMy.off k hk) (fun h => h)), rangeAt_block (w := wy) (rangeAt_block HV.out.2.2 (hoy.block vb HV.out.2.1 HV.out.1 (fun h => h))) (c2.block vb (Nat.lt_of_lt_of_le HV.out.2.1 hoy.grow.size) (fun hk => (h2 vb hk).elim HV.out.1 (fun h => by have := HV.out.2.1; omega)) (fun h => h))⟩
        rw [World.cell?_of_block (c2.block g hglt (fun hk => hMy.notg hgy (.inr hk) rfl) (fun h => h))]
        exact (cells3 hgy).1
      rw [hwy] at hlayC hkeep
      have hke : ∀ w2, OutTo codU C cm (colU (cput M a b v)) (wd.setCell ⟨g, 2, none⟩ (.int .i64 ((M.length : Int) + 1))) w2 → (w2.cell? ⟨g, 0, none⟩ = some (.map (some B)) ∧ (loadSt_V (.pointer (some ⟨vb, 0, none⟩))).run Tryz.prog w2 = .ok (.agg (balS.f v).toArray) w2) ∧ ∀ w3, OutTo balS.cod B rm (rowOf (cput M a b v)) w2 w3 → w3.cell? ⟨g, 0, none⟩ = some (.map (some B)) ∧ (loadSt_V (.pointer (some ⟨vb, 0, none⟩))).run Tryz.prog w3 = .ok (.agg (balS.f v).toArray) w3 := fun w2 ho2 => by
        obtain ⟨e1, e2, e3⟩ := hkeep w2 ho2
        refine ⟨⟨e1, run_loadSt_V e3⟩, fun w3 ⟨rm', r1, r2, r3⟩ => ?_⟩
        have hsz : wd.heap.size ≤ w2.heap.size := by obtain ⟨_, _, q, _⟩ := ho2; have := q.grow.size; simpa [World.setCell] using this
        have hgl : g < wd.heap.size := (Array.getElem?_eq_some_iff.1 hh).1
        refine ⟨?_, run_loadSt_V (rangeAt_block e3 (r2.block vb (by have := ho.grow.size; have := HV.out.2.1; omega) (fun hk => (h1 vb hk).elim HV.out.1 (fun h => by have := HV.out.2.1; omega)) (fun h => h)))⟩
        rw [World.cell?_of_block (r2.block g (by omega) (fun hk => hM.notg hh (.inl hk) rfl) (fun h => h))]
        exact e1
      have HKE := Lib.hid hke
      clear hke
      have HLC := Lib.hid hlayC
      have HLR := Lib.hid hlayR
      have HKP := Lib.hid hkeep
      have HL1 := Lib.hid hl1
      have HL2 := Lib.hid hl2
      have HW := Lib.hid hwy
      have HFIN := Lib.hid (And.intro hoy (And.intro hgy (And.intro hMy (And.intro (hs.put a b v) (And.intro hn (And.intro hFg (And.intro hFl (And.intro h1 h2))))))))
      clear hrg hlayC hlayR hkeep hl1 hl2 hwy hoy hgy hMy ho hh hM hs hn hFg hFl h1 h2 hsome hnone hrl hcl hra hcb ha hb hu1 hu2 hz1 hz2 hmm
      have tok1 : True := trivial
      go_wp2_with (first
        | (at_lookup; have _t := tok1; refine wpl_look rfl _ _ _ _ rfl rfl rfl HL1.out ?_; clear tok1)
        | (at_lookup; refine wpl_look rfl _ _ _ _ rfl rfl rfl HL2.out ?_)
        | (refine wpl_allocS (s := balS) rfl rfl rfl ?_)
        | (refine wpl_storeS (s := balS) (t := t) (b := wc.heap.size) _ _ rfl rfl rfl rfl rfl (World.alloc_heap_new wc _) (zeroS balS) ?_; rw [newS, ← HWD.out])
        | (go_at_call 89; refine HLC.out.mono ?_; rintro e w2 ⟨rfl, hout⟩; obtain ⟨k9, hrow, hrg2⟩ := HKP.out w2 hout; have HRG2 := Lib.hid hrg2; clear hrg2; have HOUT := Lib.hid hout; have HROW := Lib.hid hrow; clear hout hrow)
        | fail)
      go_region_held3 (fun w' => w'.cell? ⟨g, 0, none⟩ = some (.map (some B)) ∧ (loadSt_V (.pointer (some ⟨vb, 0, none⟩))).run Tryz.prog w' = .ok (.agg (balS.f v).toArray) w') (first | exact HKE.out w2.drew HOUT.out.drew |>.1 | exact K3.out) (first
        | (go_at_call 90; refine (HLR.out _ (HKP.out _ HOUT.out.drew).2.1).mono ?_; rintro e w3 ⟨rfl, hout3⟩; have K3 := Lib.hid ((HKE.out w2.drew HOUT.out.drew).2 w3 hout3); have HOUT3 := Lib.hid hout3; clear hout3)
        | fail)
      all_goals go_wp2_with fail
      refine bodyPost_end (results_none rfl _ _ _) rfl ⟨rfl, GrTo.later HBU.out ?_⟩
      obtain ⟨hoy, hgy, hMy, hs', hn, hFg, hFl, h1, h2⟩ := HFIN.out
      have hc := HOUT.out
      rw [← HW.out] at hc
      have hc := hc.drew
      exact maps_to hoy hgy hMy hs' hn hFg hFl h1 h2 hc (fun _ => HOUT3.out)

set_option maxRecDepth 100000 in
set_option maxHeartbeats 4000000 in
theorem grid_Del_V {g : Nat} {M : Cls Bal} {F : FP} {w : World} (h : GrAt balS.cod 178 g M F w) (hlen : M.length ≤ 1000000) {a b : Int} (ha : (Lit.int .i64 a).wf = true) (hb : (Lit.int .i64 b).wf = true) :
    Calls Tryz.prog 62 #[.pointer (some ⟨g, 0, none⟩), .int .i64 a, .int .i64 b] w fun e w' => e = .returned (.bool (cget M a b).isSome) ∧ GrTo balS.cod 178 g (cdel M a b) F w w' := by
  have hget := grid_GetE_V h ha hb
  obtain ⟨t, ht⟩ : ∃ t, t = (cget M a b).getD balS.zero := ⟨_, rfl⟩
  rw [← ht] at hget
  obtain ⟨ug, hug⟩ : ∃ u, u = balS.getW w t := ⟨_, rfl⟩
  rw [← hug] at hget
  obtain ⟨uw, hu⟩ : ∃ u, u = ug.alloc (balS.obj t) := ⟨_, rfl⟩
  have hbg : Below w.heap.size w ug := by rw [hug]; exact balS.getW_below w t
  have hbu : Below w.heap.size w uw := by rw [hu]; exact hbg.alloc hbg.size _
  have h : GrAt balS.cod 178 g M F uw := h.keep (Grow.of_below hbu) (fun k hk => hbu.block k (h.2.2.1 k hk))
  have HBU := Lib.hid hbu
  have HUW := Lib.hid hu
  clear ht hug hu hbu hbg
  by_cases hsome : (cget M a b).isSome = true
  · rw [hsome] at hget
    obtain ⟨hs, hFg, hFl, hmem⟩ := h
    obtain ⟨u, hu⟩ := Option.isSome_iff_exists.1 hsome
    have hM0 : M ≠ [] := List.ne_nil_of_mem (hs.get.1 hu)
    obtain ⟨B, C, rm, cm, hh, hM, h1, h2⟩ := hmem.resolve_left (fun h => hM0 h.1)
    obtain ⟨k0, k1, k2, f0, f1, f2⟩ := cells3 hh
    have hpos := List.length_pos_iff.2 hM0
    have hra := row_length M a
    have hcb := colU_length M b
    have hr0 : rowOf M a ≠ [] := List.ne_nil_of_mem ((mem_rowOf (x := (b, u))).2 (hs.get.1 hu))
    have hc0 : colU M b ≠ [] := List.ne_nil_of_mem ((mem_colU (x := (a, ()))).2 ⟨u, (mem_colOf (x := (a, u))).2 (hs.get.1 hu)⟩)
    have W1 : IntKind.i64.wrap ((M.length : Int) - 1) = (M.length : Int) - 1 := IntWalk.i64_in _ (by omega)
    obtain ⟨wy, hwy⟩ : ∃ wy, wy = uw.setCell ⟨g, 2, none⟩ (.int .i64 ((M.length : Int) - 1)) := ⟨_, rfl⟩
    have hgy : wy.heap[g]? = some (.cells #[.map (some B), .map (some C), .int .i64 ((M.length : Int) - 1)] 178 (0, 0)) := by rw [hwy]; exact (set3 hh).2.2
    have hMy : MapsAt balS.cod B C rm cm M wy := by rw [hwy]; exact hM.set hh
    have hoy : Only F (fun _ => False) uw wy := by rw [hwy]; exact only_set hFg
    have hn : (M.length : Int) - 1 = (cdel M a b).length := by have := hs.length_del a b; rw [if_pos hsome] at this; omega
    have htC := take_U hMy.col (a := b) (b := a) hc0 (by omega) hb ha
    rw [colU_del hs a b] at htC
    have htR : ∀ w2, OutAt balS.cod B rm (rowOf M) w2 → Calls Tryz.prog 100 #[.map (some B), .int .i64 a, .int .i64 b] w2 fun e w' => e = .returned (.tuple #[]) ∧ OutTo balS.cod B rm (rowOf (cdel M a b)) w2 w' := fun w2 h2 => by
      have := take_V h2 (a := a) (b := b) hr0 (by omega) ha hb
      rw [rowOf_del hs] at this
      exact this
    have hkeep : ∀ w2, OutTo codU C cm (colU (cdel M a b)) wy w2 → w2.cell? ⟨g, 0, none⟩ = some (.map (some B)) ∧ OutAt balS.cod B rm (rowOf M) w2 := fun w2 ⟨cm', c1, c2, c3⟩ => by
      have hglt : g < wy.heap.size := (Array.getElem?_eq_some_iff.1 hgy).1
      refine ⟨?_, hMy.row.block (fun k hk => c2.block k (hMy.row.lt hk) (hMy.off k hk) (fun h => h))⟩
      rw [World.cell?_of_block (c2.block g hglt (fun hk => hMy.notg hgy (.inr hk) rfl) (fun h => h))]
      exact (cells3 hgy).1
    rw [hwy] at htC hkeep
    have HG := Lib.hid hget
    have HLC := Lib.hid htC
    have HLR := Lib.hid htR
    have HKP := Lib.hid hkeep
    have HW := Lib.hid hwy
    have HFIN := Lib.hid (And.intro hoy (And.intro hgy (And.intro hMy (And.intro (hs.del a b) (And.intro hn (And.intro hFg (And.intro hFl (And.intro (fun k hk => Or.inl (b := uw.heap.size ≤ k) (h1 k hk)) (fun k hk => Or.inl (b := uw.heap.size ≤ k) (h2 k hk))))))))))
    clear htC htR hkeep hwy hoy hgy hMy hh hM hs hn hFg hFl h1 h2 hra hcb ha hb hget hu hM0 hmem hr0 hc0
    rw [hsome]
    clear hsome
    go_enter Tryz.func62, Tryz.ntmps62
    go_wp2_with (first
      | (go_at_call 45; refine HG.out.mono ?_; rintro e w2 ⟨rfl, hw2⟩; rw [hw2]; clear hw2 w2)
      | (refine wpl_allocS (s := balS) rfl rfl rfl ?_)
      | (refine wpl_storeS (s := balS) (t := t) (b := ug.heap.size) _ _ rfl rfl rfl rfl rfl (World.alloc_heap_new ug _) (zeroS balS) ?_; rw [newS, ← HUW.out])
      | (go_at_call 99; refine HLC.out.mono ?_; rintro e w2 ⟨rfl, hout⟩; obtain ⟨k9, hrow⟩ := HKP.out w2 hout; have HOUT := Lib.hid hout; have HROW := Lib.hid hrow; clear hout hrow)
      | (go_at_call 100; refine (HLR.out _ HROW.out).mono ?_; rintro e w3 ⟨rfl, hout3⟩; have HOUT3 := Lib.hid hout3; clear hout3)
      | fail)
    go_ret
    refine ⟨rfl, ?_⟩
    obtain ⟨hoy, hgy, hMy, hs', hn, hFg, hFl, h1, h2⟩ := HFIN.out
    have hc := HOUT.out
    rw [← HW.out] at hc
    exact GrTo.later HBU.out (maps_to hoy hgy hMy hs' hn hFg hFl h1 h2 hc (fun _ => HOUT3.out))
  · have hnone : (cget M a b).isSome = false := by simpa using hsome
    have hdel : cdel M a b = M := cdel_none (by simpa using hsome)
    rw [hnone] at hget
    rw [hnone, hdel]
    have HG := Lib.hid hget
    have HH := Lib.hid h
    clear hget h hsome hnone hdel ha hb
    go_enter Tryz.func62, Tryz.ntmps62
    go_wp2_with (first
      | (go_at_call 45; refine HG.out.mono ?_; rintro e w2 ⟨rfl, hw2⟩; rw [hw2]; clear hw2 w2)
      | (refine wpl_allocS (s := balS) rfl rfl rfl ?_)
      | (refine wpl_storeS (s := balS) (t := t) (b := ug.heap.size) _ _ rfl rfl rfl rfl rfl (World.alloc_heap_new ug _) (zeroS balS) ?_; rw [newS, ← HUW.out])
      | fail)
    go_ret
    exact ⟨rfl, GrTo.later HBU.out ⟨F, HH.out, fun k hk => .inl hk, Only.refl _ _ _⟩⟩

set_option maxRecDepth 100000 in
set_option maxHeartbeats 4000000 in
attribute [local go_sem ↓] loadSt_Q_hide in
theorem grid_Set_Q {g : Nat} {M : Cls Wgt} {F : FP} {w : World} (h : GrAt priS.cod 215 g M F w) (hlen : M.length ≤ 1000000) {a b : Int} (ha : (Lit.int .i64 a).wf = true) (hb : (Lit.int .i64 b).wf = true) (v : Wgt) :
    Calls Tryz.prog 102 #[.pointer (some ⟨g, 0, none⟩), .int .i64 a, .int .i64 b, .agg (priS.f v).toArray] w fun e w' => e = .returned (.tuple #[]) ∧ GrTo priS.cod 215 g (cput M a b v) F w w' := by
  have hu1 : Tryz.prog.underlying 213 = some (.map 3 232) := Tryz.underlying213
  have hu2 : Tryz.prog.underlying 232 = some (.map 3 154) := Tryz.underlying232
  have hz1 : ∀ w, (zeroValue 232).run Tryz.prog w = .ok (codM.enc none) w := fun w => Tryz.zeroValue232 w
  have hz2 : ∀ w, (zeroValue 154).run Tryz.prog w = .ok (priS.cod.enc priS.zero) w := fun w => priS.zeroRun w
  have hmm := @run_makeMap Tryz.prog
  obtain ⟨uw, hu⟩ : ∃ u, u = w.alloc (.cells (priS.f v).toArray 154) := ⟨_, rfl⟩
  have hbu : Below w.heap.size w uw := by rw [hu]; exact (Below.refl _ w).alloc (Nat.le_refl _) _
  obtain ⟨vb, hvb⟩ : ∃ vb, vb = w.heap.size := ⟨_, rfl⟩
  have hvF : ¬ F vb := fun hk => by have := h.2.2.1 vb hk; omega
  have hvl : vb < uw.heap.size := by rw [hu, hvb]; simp
  have hrg : uw.rangeAt vb 0 (priS.f v) := by rw [hu, hvb]; exact atS priS w v
  have h : GrAt priS.cod 215 g M F uw := h.keep (Grow.of_below hbu) (fun k hk => hbu.block k (h.2.2.1 k hk))
  have HBU := Lib.hid hbu
  have HU := Lib.hid (And.intro hu hvb)
  have HV := Lib.hid (And.intro hvF (And.intro hvl hrg))
  clear hu hbu hvb hvF hvl hrg
  obtain ⟨hs, hFg, hFl, hmem⟩ := h
  have hkey : ∃ (mv : Option Nat) (q : Bool), uw.cell? ⟨g, 0, none⟩ = some (.map mv) ∧ (∀ uw, (binOp .eql 213 (.map mv) (.map Option.none)).run Tryz.prog uw = .ok (.bool q) uw) ∧
      ((q = true ∧ M = [] ∧ uw.heap[g]? = some (.cells #[.map none, .map none, .int .i64 0] 215 (0, 0))) ∨
       (q = false ∧ ∃ B C rm cm, uw.heap[g]? = some (.cells #[.map (some B), .map (some C), .int .i64 M.length] 215 (0, 0)) ∧ MapsAt priS.cod B C rm cm M uw ∧ (∀ k, oblk B rm k → F k) ∧ (∀ k, oblk C cm k → F k))) := by
    rcases hmem with ⟨e, hh⟩ | ⟨B, C, rm, cm, hh, h⟩
    · exact ⟨none, true, (cells3 hh).1, fun uw => by kernel_rfl, .inl ⟨rfl, e, hh⟩⟩
    · exact ⟨some B, false, (cells3 hh).1, fun uw => by kernel_rfl, .inr ⟨rfl, B, C, rm, cm, hh, h⟩⟩
  obtain ⟨mv, q, kq, hq, hmem⟩ := hkey
  have HM := Lib.hid hmem
  have HFl := Lib.hid hFl
  have HFg := Lib.hid hFg
  clear hmem hFl hFg
  go_enter Tryz.func102, Tryz.ntmps102
  go_upto_region 1 with fail
  rw [← HU.out.1, ← HU.out.2]
  go_upto_if 16 with fail
  clear hq kq
  go_cut [] (fun wx => ∃ B C rm cm, wx.heap[g]? = some (.cells #[.map (some B), .map (some C), .int .i64 M.length] 215 (0, 0)) ∧ MapsAt priS.cod B C rm cm M wx ∧ Only F (fun _ => False) uw wx ∧ (∀ k, oblk B rm k → F k ∨ uw.heap.size ≤ k) ∧ (∀ k, oblk C cm k → F k ∨ uw.heap.size ≤ k))
  case first =>
    rcases HM.out with ⟨rfl, e, hh⟩ | ⟨rfl, B, C, rm, cm, hh, hM, h1, h2⟩
    · obtain ⟨k0, k1, k2, f0, f1, f2⟩ := cells3 hh
      have hglt : g < uw.heap.size := (Array.getElem?_eq_some_iff.1 hh).1
      have HH := Lib.hid hh
      have HGL := Lib.hid hglt
      have HE := Lib.hid e
      clear hh e
      go_wp2_with fail
      go_meet
      obtain rfl := HE.out
      obtain ⟨v0, hv0⟩ : ∃ v0, v0 = (uw.setCell ⟨g, 0, none⟩ (.map (some uw.heap.size))).setCell ⟨g, 1, none⟩ (.map (some (uw.heap.size + 1))) := ⟨_, rfl⟩
      have hvs : v0.heap.size = uw.heap.size := by rw [hv0]; simp [World.setCell]
      have hg3 : v0.heap[g]? = some (.cells #[.map (some uw.heap.size), .map (some (uw.heap.size + 1)), .int .i64 0] 215 (0, 0)) := by rw [hv0]; exact (set3 (set3 HH.out).1).2.1
      have hov : Only F (fun _ => False) uw v0 := by rw [hv0]; exact only_trans (only_set HFg.out) (only_set HFg.out)
      rw [← hv0]
      clear hv0
      have hr : OutAt priS.cod uw.heap.size [] (rowOf []) ((v0.alloc (.map #[] 0)).alloc (.map #[] 0)) := by
        have := OutAt.made priS.cod v0
        rw [hvs] at this
        exact (this.block (fun k hk => Below.heap_alloc _ _ k (this.lt hk))).congr (fun _ => rfl)
      have hc : OutAt codU (uw.heap.size + 1) [] (colU ([] : Cls Wgt)) ((v0.alloc (.map #[] 0)).alloc (.map #[] 0)) := by
        have := OutAt.made codU (v0.alloc (.map #[] 0))
        rw [World.size_alloc, hvs] at this
        exact this.congr (fun _ => rfl)
      have hob : ∀ B k, oblk B [] k → k = B := fun B k hk => hk.elim id (fun ⟨a, ha⟩ => by simp [sget] at ha)
      have hM1 : MapsAt priS.cod uw.heap.size (uw.heap.size + 1) [] [] ([] : Cls Wgt) ((v0.alloc (.map #[] 0)).alloc (.map #[] 0)) := ⟨hr, hc, fun k hk hk' => by have := hob _ _ hk; have := hob _ _ hk'; omega⟩
      have hg1 : ((v0.alloc (.map #[] 0)).alloc (.map #[] 0)).heap[g]? = some (.cells #[.map (some uw.heap.size), .map (some (uw.heap.size + 1)), .int .i64 0] 215 (0, 0)) := by
        rw [Below.heap_alloc _ _ g (by simp; omega), Below.heap_alloc _ _ g (by omega)]; exact hg3
      refine ⟨_, _, _, _, hg1, hM1, ?_, fun k hk => .inr ?_, fun k hk => .inr ?_⟩
      · exact only_trans hov (only_trans (only_alloc _) (only_alloc _))
      · have := hob _ _ hk; omega
      · have := hob _ _ hk; omega
    · obtain ⟨k0, k1, k2, f0, f1, f2⟩ := cells3 hh
      have HH := Lib.hid hh
      have HMM := Lib.hid hM
      have H1 := Lib.hid h1
      have H2 := Lib.hid h2
      clear hh hM h1 h2
      go_wp2_with fail
      go_meet
      exact ⟨B, C, rm, cm, HH.out, HMM.out, Only.refl _ _ _, fun k hk => .inl (H1.out k hk), fun k hk => .inl (H2.out k hk)⟩
  case rest =>
    obtain ⟨B, C, rm, cm, hh, hM, ho, h1, h2⟩ := hcut
    have hrg : wc.rangeAt vb 0 (priS.f v) := rangeAt_block HV.out.2.2 (ho.block vb HV.out.2.1 HV.out.1 (fun h => h))
    have HRG := Lib.hid hrg
    obtain ⟨k0, k1, k2, f0, f1, f2⟩ := cells3 hh
    have hrl := outer_length hM.row hs
    have hcl := cols_length hM.col
    have hra := row_length M a
    have hcb := colU_length M b
    have hFl := HFl.out
    have hFg := HFg.out
    obtain ⟨mi, hl1, hl2⟩ : ∃ mi, (Instr.lookup 213 (.map (some B)) (.int .i64 a) false).run Tryz.prog wc = .ok (.map mi) wc ∧
        (Instr.lookup 232 (.map mi) (.int .i64 b) true).run Tryz.prog wc = .ok (.tuple #[priS.cod.enc ((cget M a b).getD priS.zero), .bool (cget M a b).isSome]) wc := by
      have hl := hM.row.map.look (z0 := none) hu1 (hz1 wc) ha
      cases hsg : sget rm a with
      | none =>
        rw [hsg] at hl
        refine ⟨none, hl, ?_⟩
        have hr := hM.row.isNil hsg
        have : cget M a b = none := by rw [cget, hr]; rfl
        rw [this]
        exact nil_look hu2 (hz2 wc) hb true
      | some x =>
        obtain ⟨b', rfl, _, _, h3⟩ := hM.row.at_ a x hsg
        rw [hsg] at hl
        exact ⟨some b', hl, h3.look_ok hu2 (hz2 wc) hb⟩
    obtain ⟨t, ht⟩ : ∃ t, t = (cget M a b).getD priS.zero := ⟨_, rfl⟩
    rw [← ht] at hl2
    obtain ⟨wd, hwd⟩ : ∃ wd, wd = wc.alloc (priS.obj t) := ⟨_, rfl⟩
    have hbd : Below wc.heap.size wc wd := by rw [hwd]; exact (Below.refl _ wc).alloc (Nat.le_refl _) _
    have hh := (hbd.block g (Array.getElem?_eq_some_iff.1 hh).1).trans hh
    have hM : MapsAt priS.cod B C rm cm M wd := hM.block (fun k hk => hbd.block k (hk.elim hM.row.lt hM.col.lt))
    have ho : Only F (fun _ => False) uw wd := only_trans ho (by rw [hwd]; exact only_alloc _)
    obtain ⟨m0, m1, m2, n0, n1, n2⟩ := cells3 hh
    have hrg : wd.rangeAt vb 0 (priS.f v) := rangeAt_block HV.out.2.2 (ho.block vb HV.out.2.1 HV.out.1 (fun h => h))
    have HRG := Lib.hid hrg
    have HWD := Lib.hid hwd
    clear ht hwd hbd
    by_cases hsome : (cget M a b).isSome = true
    · -- the cell was there
      rw [hsome] at hl2
      have hcol : colU (cput M a b v) = colU M := by
        rw [← colU_put hs]
        funext j
        split
        · rename_i e; subst e
          obtain ⟨u, hu⟩ := Option.isSome_iff_exists.1 hsome
          refine ((srt_colU hs j).put _ _).ext (srt_colU hs j) (fun x => ?_)
          rw [mem_sput]
          constructor
          · rintro (e | e)
            · subst e; exact mem_colU.2 ⟨u, mem_colOf.2 (hs.get.1 hu)⟩
            · exact e.1
          · intro hx
            by_cases e : x.1 = a
            · exact .inl (by rw [← e])
            · exact .inr ⟨hx, e⟩
        · rfl
      have hn : (M.length : Int) = (cput M a b v).length := by rw [hs.length_put, if_pos hsome]
      have hlay := lay_Q (w := wd.drew) (hM.row.block (fun k _ => rfl)) (by unfold maxLen; omega) (a := a) (b := b) (by unfold maxLen; omega) ha hb v
      rw [rowOf_put hs] at hlay
      have hks : ∀ w2, OutTo priS.cod B rm (rowOf (cput M a b v)) wd.drew w2 → w2.cell? ⟨g, 0, none⟩ = some (.map (some B)) ∧ (loadSt_Q (.pointer (some ⟨vb, 0, none⟩))).run Tryz.prog w2 = .ok (.agg (priS.f v).toArray) w2 := fun w2 ⟨rm', r1, r2, r3⟩ => by
        have hgl : g < wd.heap.size := (Array.getElem?_eq_some_iff.1 hh).1
        refine ⟨?_, run_loadSt_Q (rangeAt_block (w := wd) hrg (r2.block vb (Nat.lt_of_lt_of_le HV.out.2.1 ho.grow.size) (fun hk => (h1 vb hk).elim HV.out.1 (fun h => by have := HV.out.2.1; omega)) (fun h => h)))⟩
        rw [World.cell?_of_block (r2.block g hgl (fun hk => hM.notg hh (.inl hk) rfl) (fun h => h))]
        exact (cells3 hh).1
      have HKS := Lib.hid hks
      have KD := Lib.hid (show wd.drew.cell? ⟨g, 0, none⟩ = some (.map (some B)) ∧ (loadSt_Q (.pointer (some ⟨vb, 0, none⟩))).run Tryz.prog wd.drew = .ok (.agg (priS.f v).toArray) wd.drew from ⟨(cells3 hh).1, run_loadSt_Q hrg⟩)
      clear hks
      have HLAY := Lib.hid hlay
      have HL1 := Lib.hid hl1
      have HL2 := Lib.hid hl2
      have HFIN := Lib.hid (And.intro (show Only F (fun _ => False) uw wd.drew from only_trans ho (Only.of_later (Below.refl _ wd).drew)) (And.intro (show wd.drew.heap[g]? = _ from hh) (And.intro (show MapsAt priS.cod B C rm cm M wd.drew from hM.block (fun k _ => rfl)) (And.intro (hs.put a b v) (And.intro hn (And.intro hFg (And.intro hFl (And.intro h1 (And.intro h2 hcol)))))))))
      clear hrg hlay hl1 hl2 ho hh hM hs hn hFg hFl h1 h2 hcol hsome hrl hcl hra hcb hlen ha hb hu1 hu2 hz1 hz2 hmm
      have tok1 : True := trivial
      go_wp2_with (first
        | (at_lookup; have _t := tok1; refine wpl_look rfl _ _ _ _ rfl rfl rfl HL1.out ?_; clear tok1)
        | (at_lookup; refine wpl_look rfl _ _ _ _ rfl rfl rfl HL2.out ?_)
        | (refine wpl_allocS (s := priS) rfl rfl rfl ?_)
        | (refine wpl_storeS (s := priS) (t := t) (b := wc.heap.size) _ _ rfl rfl rfl rfl rfl (World.alloc_heap_new wc _) (zeroS priS) ?_; rw [newS, ← HWD.out])
        | fail)
      go_region_held3 (fun w' => w'.cell? ⟨g, 0, none⟩ = some (.map (some B)) ∧ (loadSt_Q (.pointer (some ⟨vb, 0, none⟩))).run Tryz.prog w' = .ok (.agg (priS.f v).toArray) w') (first | exact KD.out | exact K2.out) (first
        | (go_at_call 126; refine HLAY.out.mono ?_; rintro e w2 ⟨rfl, hout⟩; have K2 := Lib.hid (HKS.out w2 hout); have HOUT := Lib.hid hout; clear hout)
        | fail)
      all_goals go_wp2_with fail
      refine bodyPost_end (results_none rfl _ _ _) rfl ⟨rfl, GrTo.later HBU.out ?_⟩
      obtain ⟨ho, hh, hM, hs', hn, hFg, hFl, h1, h2, hcol⟩ := HFIN.out
      exact row_to ho hh hM hs' hn hFg hFl h1 h2 hcol HOUT.out
    · -- it was not
      have hnone : (cget M a b).isSome = false := by simpa using hsome
      rw [hnone] at hl2
      have W1 : IntKind.i64.wrap ((M.length : Int) + 1) = (M.length : Int) + 1 := IntWalk.i64_in _ (by omega)
      obtain ⟨wy, hwy⟩ : ∃ wy, wy = wd.setCell ⟨g, 2, none⟩ (.int .i64 ((M.length : Int) + 1)) := ⟨_, rfl⟩
      have hgy : wy.heap[g]? = some (.cells #[.map (some B), .map (some C), .int .i64 ((M.length : Int) + 1)] 215 (0, 0)) := by rw [hwy]; exact (set3 hh).2.2
      have hMy : MapsAt priS.cod B C rm cm M wy := by rw [hwy]; exact hM.set hh
      have hoy : Only F (fun _ => False) uw wy := only_trans ho (by rw [hwy]; exact only_set hFg)
      have hn : (M.length : Int) + 1 = (cput M a b v).length := by rw [hs.length_put, if_neg hsome]; simp
      have hlayC := lay_U hMy.col (by unfold maxLen; omega) (a := b) (b := a) (by unfold maxLen; omega) hb ha ()
      rw [colU_put hs a b v] at hlayC
      have hlayR : ∀ w2, OutAt priS.cod B rm (rowOf M) w2 → Calls Tryz.prog 126 #[.map (some B), .int .i64 a, .int .i64 b, .agg (priS.f v).toArray] w2 fun e w' => e = .returned (.tuple #[]) ∧ OutTo priS.cod B rm (rowOf (cput M a b v)) w2 w' := fun w2 h2 => by
        have := lay_Q h2 (by unfold maxLen; omega) (a := a) (b := b) (by unfold maxLen; omega) ha hb v
        rw [rowOf_put hs] at this
        exact this
      have hkeep : ∀ w2, OutTo codU C cm (colU (cput M a b v)) wy w2 → w2.cell? ⟨g, 0, none⟩ = some (.map (some B)) ∧ OutAt priS.cod B rm (rowOf M) w2 ∧ w2.rangeAt vb 0 (priS.f v) := fun w2 ⟨cm', c1, c2, c3⟩ => by
        have hglt : g < wy.heap.size := (Array.getElem?_eq_some_iff.1 hgy).1
        refine ⟨?_, hMy.row.block (fun k hk => c2.block k (hMy.row.lt hk) (hMy.off k hk) (fun h => h)), rangeAt_block (w := wy) (rangeAt_block HV.out.2.2 (hoy.block vb HV.out.2.1 HV.out.1 (fun h => h))) (c2.block vb (Nat.lt_of_lt_of_le HV.out.2.1 hoy.grow.size) (fun hk => (h2 vb hk).elim HV.out.1 (fun h => by have := HV.out.2.1; omega)) (fun h => h))⟩
        rw [World.cell?_of_block (c2.block g hglt (fun hk => hMy.notg hgy (.inr hk) rfl) (fun h => h))]
        exact (cells3 hgy).1
      rw [hwy] at hlayC hkeep
      have hke : ∀ w2, OutTo codU C cm (colU (cput M a b v)) (wd.setCell ⟨g, 2, none⟩ (.int .i64 ((M.length : Int) + 1))) w2 → (w2.cell? ⟨g, 0, none⟩ = some (.map (some B)) ∧ (loadSt_Q (.pointer (some ⟨vb, 0, none⟩))).run Tryz.prog w2 = .ok (.agg (priS.f v).toArray) w2) ∧ ∀ w3, OutTo priS.cod B rm (rowOf (cput M a b v)) w2 w3 → w3.cell? ⟨g, 0, none⟩ = some (.map (some B)) ∧ (loadSt_Q (.pointer (some ⟨vb, 0, none⟩))).run Tryz.prog w3 = .ok (.agg (priS.f v).toArray) w3 := fun w2 ho2 => by
        obtain ⟨e1, e2, e3⟩ := hkeep w2 ho2
        refine ⟨⟨e1, run_loadSt_Q e3⟩, fun w3 ⟨rm', r1, r2, r3⟩ => ?_⟩
        have hsz : wd.heap.size ≤ w2.heap.size := by obtain ⟨_, _, q, _⟩ := ho2; have := q.grow.size; simpa [World.setCell] using this
        have hgl : g < wd.heap.size := (Array.getElem?_eq_some_iff.1 hh).1
        refine ⟨?_, run_loadSt_Q (rangeAt_block e3 (r2.block vb (by have := ho.grow.size; have := HV.out.2.1; omega) (fun hk => (h1 vb hk).elim HV.out.1 (fun h => by have := HV.out.2.1; omega)) (fun h => h)))⟩
        rw [World.cell?_of_block (r2.block g (by omega) (fun hk => hM.notg hh (.inl hk) rfl) (fun h => h))]
        exact e1
      have HKE := Lib.hid hke
      clear hke
      have HLC := Lib.hid hlayC
      have HLR := Lib.hid hlayR
      have HKP := Lib.hid hkeep
      have HL1 := Lib.hid hl1
      have HL2 := Lib.hid hl2
      have HW := Lib.hid hwy
      have HFIN := Lib.hid (And.intro hoy (And.intro hgy (And.intro hMy (And.intro (hs.put a b v) (And.intro hn (And.intro hFg (And.intro hFl (And.intro h1 h2))))))))
      clear hrg hlayC hlayR hkeep hl1 hl2 hwy hoy hgy hMy ho hh hM hs hn hFg hFl h1 h2 hsome hnone hrl hcl hra hcb ha hb hu1 hu2 hz1 hz2 hmm
      have tok1 : True := trivial
      go_wp2_with (first
        | (at_lookup; have _t := tok1; refine wpl_look rfl _ _ _ _ rfl rfl rfl HL1.out ?_; clear tok1)
        | (at_lookup; refine wpl_look rfl _ _ _ _ rfl rfl rfl HL2.out ?_)
        | (refine wpl_allocS (s := priS) rfl rfl rfl ?_)
        | (refine wpl_storeS (s := priS) (t := t) (b := wc.heap.size) _ _ rfl rfl rfl rfl rfl (World.alloc_heap_new wc _) (zeroS priS) ?_; rw [newS, ← HWD.out])
        | (go_at_call 89; refine HLC.out.mono ?_; rintro e w2 ⟨rfl, hout⟩; obtain ⟨k9, hrow, hrg2⟩ := HKP.out w2 hout; have HRG2 := Lib.hid hrg2; clear hrg2; have HOUT := Lib.hid hout; have HROW := Lib.hid hrow; clear hout hrow)
        | fail)
      go_region_held3 (fun w' => w'.cell? ⟨g, 0, none⟩ = some (.map (some B)) ∧ (loadSt_Q (.pointer (some ⟨vb, 0, none⟩))).run Tryz.prog w' = .ok (.agg (priS.f v).toArray) w') (first | exact HKE.out w2.drew HOUT.out.drew |>.1 | exact K3.out) (first
        | (go_at_call 126; refine (HLR.out _ (HKP.out _ HOUT.out.drew).2.1).mono ?_; rintro e w3 ⟨rfl, hout3⟩; have K3 := Lib.hid ((HKE.out w2.drew HOUT.out.drew).2 w3 hout3); have HOUT3 := Lib.hid hout3; clear hout3)
        | fail)
      all_goals go_wp2_with fail
      refine bodyPost_end (results_none rfl _ _ _) rfl ⟨rfl, GrTo.later HBU.out ?_⟩
      obtain ⟨hoy, hgy, hMy, hs', hn, hFg, hFl, h1, h2⟩ := HFIN.out
      have hc := HOUT.out
      rw [← HW.out] at hc
      have hc := hc.drew
      exact maps_to hoy hgy hMy hs' hn hFg hFl h1 h2 hc (fun _ => HOUT3.out)

end Go.Proofs.YtpkamfbjgdmmoaaGreat
end
