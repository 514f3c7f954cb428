/-
  Joined texts.
-/
import Derived.Test.YtbpemdihoabbcaaGreatMhb
namespace Go.Proofs.YtbpemdihoabbcaaGreat
set_option linter.unusedVariables false
set_option linter.unusedSimpArgs false
section
open Go.RowKit Go.Maps
set_option maxRecDepth 100000 in
set_option maxHeartbeats 2000000 in
theorem lay_V {B : Nat} {rm : List (Int × Option Nat)} {rows : Int → List (Int × Bal)} {w : World} (h : OutAt balS.cod B rm rows w) (hn : rm.length < maxLen) {a b : Int} (hra : (rows a).length < maxLen) (ha : (Lit.int .i64 a).wf = true) (hb : (Lit.int .i64 b).wf = true) (v : Bal) :
 Calls Tryz.prog 107 #[.map (some B), .int .i64 a, .int .i64 b, .agg (balS.f v).toArray] w fun e w' => e = .returned (.tuple #[]) ∧ OutTo balS.cod B rm (fun i => if i = a then sput (rows a) b v else rows i) w w' := by
 have hmm := @run_makeMap Tryz.prog
 have hBw := h.map.lt
 have hu1 : Tryz.prog.underlying 167 = some (.map 3 166) := Tryz.underlying167
 have hu2 : Tryz.prog.underlying 166 = some (.map 3 28) := Tryz.underlying166
 have hz1 : ∀ w, (zeroValue 166).run Tryz.prog w = .ok (codM.enc none) w := fun w => Tryz.zeroValue166 w
 obtain ⟨u, hu⟩ : ∃ u, u = w.alloc (.cells (balS.f v).toArray 28) := ⟨_, rfl⟩
 have h : OutAt balS.cod B rm rows u := by rw [hu]; exact h.block (fun k hk => Below.heap_alloc _ _ k (h.lt hk))
 have hout : ∀ rows' w', OutTo balS.cod B rm rows' u w' → OutTo balS.cod B rm rows' w w' := fun rows' w' ho => by rw [hu] at ho; exact ho.alloc
 cases hs : sget rm a with
 | some x =>
  obtain ⟨b', rfl, h1, h2, h3⟩ := h.at_ a x hs
  obtain ⟨w', hr, hm', hg, hsz⟩ := h3.store hu2 hra hb v
  have hl := h.map.look (z0 := none) hu1 (hz1 u) ha
  rw [hs] at hl
  have Hfin : OutTo balS.cod B rm (fun i => if i = a then sput (rows a) b v else rows i) u w' :=
   ⟨rm, h.upd hs (sput_ne _ _ _) hm' hg, only_grown hg (.inr ⟨a, hs⟩), fun k hk => .inl hk⟩
  have Hfin := hout _ _ Hfin
  rw [hu] at hl hr
  have HF := Lib.hid Hfin
  have HL := Lib.hid hl
  have HR := Lib.hid hr
  have hrg : (w.alloc (.cells (balS.f v).toArray 28)).rangeAt w.heap.size 0 (balS.f v) := atS balS w v
  have HRG := Lib.hid hrg
  clear hout Hfin h h1 h2 h3 hs hm' hg hsz hn hra hl hr hmm hu hrg hBw
  have q1 : ∀ bm w, (binOp .eql 166 (.map (some bm)) (.map Option.none)).run Tryz.prog w = .ok (.bool false) w := fun bm w => by kernel_rfl
  have q2 : ∀ w, (binOp .eql 166 (.map Option.none) (.map Option.none)).run Tryz.prog w = .ok (.bool true) w := fun w => by kernel_rfl
  go_enter Tryz.func107, Tryz.ntmps107
  go_wp2_with (first
   | (at_lookup; refine wpl_look rfl _ _ _ _ rfl rfl rfl HL.out ?_; dsimp only [codM, Option.getD])
   | (at_mapUpdate; refine wpl_upd rfl _ _ _ _ rfl rfl rfl rfl HR.out ?_)
   | (refine wpl_loadS (s := balS) (t := v) (b := w.heap.size) (k := 0) _ rfl rfl rfl rfl HRG.out ?_)
   | fail)
  exact bodyPost_end (results_none rfl _ _ _) rfl ⟨rfl, HF.out⟩
 | none =>
  have hnil := h.isNil hs
  have hl := h.map.look (z0 := none) hu1 (hz1 u) ha
  rw [hs] at hl
  -- a new map, laid in, then written
  obtain ⟨w1, hw1⟩ : ∃ w1, w1 = u.alloc (.map #[] 0) := ⟨_, rfl⟩
  obtain ⟨N, hN⟩ : ∃ N, N = u.heap.size := ⟨_, rfl⟩
  have hmade : MapAt balS.cod N [] w1 := by rw [hw1, hN]; exact MapAt.made _ _
  have hM1 : MapAt codM B rm w1 := by rw [hw1]; exact h.map.kept (World.grownBy_alloc u _ none) (by simp)
  have hBlt := h.map.lt
  obtain ⟨w2, hr2, hm2, hg2, hs2⟩ := hM1.store hu1 hn ha (some N)
  have hl2 := hm2.look (z0 := none) hu1 (hz1 w2) ha
  rw [hM1.srt.get_put] at hl2
  simp only [if_true, Option.getD_some] at hl2
  have hmade2 := hmade.kept hg2 (by simp; omega)
  obtain ⟨w3, hr3, hm3, hg3, hs3⟩ := hmade2.store hu2 (by simp; unfold maxLen; omega) hb v
  have hm2' := hm2.kept hg3 (by simp; omega)
  have hB : Only (oblk B rm) (fun _ => False) u w2 := only_trans (by rw [hw1]; exact only_alloc _) (only_grown hg2 (.inl rfl))
  have hsz1 : w1.heap.size = u.heap.size + 1 := by rw [hw1]; simp
  have Hfin : OutTo balS.cod B rm (fun i => if i = a then sput (rows a) b v else rows i) u w3 := by
   rw [hnil]
   refine ⟨_, h.lay hs hm2' (by omega) (by omega) (sput_ne _ _ _) hm3 (fun k hk hkB => ?_), ⟨hB.grow.trans ⟨hg3.os, hg3.tape, hg3.output, hg3.size⟩, fun k hk hk1 hk2 => ?_⟩, fun k hk => ?_⟩
   · rw [hg3.block k (by omega) (by simp; omega), hg2.block k (by omega) (by simp; omega), hw1]
     exact Below.heap_alloc _ _ k hk
   · rw [hg3.block k (by omega) (by simp; omega)]
     exact hB.block k hk hk1 hk2
   · rcases oblk_put h.map.srt hk with h' | h'
     · exact .inl h'
     · exact .inr (by omega)
  have hrg : w2.rangeAt w.heap.size 0 (balS.f v) := by
   have hus : w.heap.size < u.heap.size := by rw [hu]; simp
   refine rangeAt_block (w := u) (by rw [hu]; exact atS balS w v) ((hg2.block _ (by omega) (by simp; omega)).trans ?_)
   rw [hw1]; exact Below.heap_alloc _ _ _ hus
  have HRG := Lib.hid hrg
  have Hfin := hout _ _ Hfin
  rw [hu] at hl
  have HF := Lib.hid Hfin
  have HL := Lib.hid hl
  have HL2 := Lib.hid hl2
  rw [hw1, hu] at hr2
  rw [hu, World.size_alloc] at hN
  subst hN
  have HR2 := Lib.hid hr2
  have HR3 := Lib.hid hr3
  have hmk : ∀ w, (Instr.makeMap 166 Option.none).run Tryz.prog w = .ok (.map (some w.heap.size)) (w.alloc (.map #[] 0)) := fun w => run_makeMap _ w
  clear hout Hfin h hs hn hra hl hl2 hr2 hr3 hnil hmade hM1 hm2 hg2 hs2 hmade2 hm3 hg3 hs3 hm2' hB hsz1 hBlt hw1 hmm hu hrg hBw
  have q1 : ∀ bm w, (binOp .eql 166 (.map (some bm)) (.map Option.none)).run Tryz.prog w = .ok (.bool false) w := fun bm w => by kernel_rfl
  have q2 : ∀ w, (binOp .eql 166 (.map Option.none) (.map Option.none)).run Tryz.prog w = .ok (.bool true) w := fun w => by kernel_rfl
  go_enter Tryz.func107, Tryz.ntmps107
  have tok1 : True := trivial
  have tok2 : True := trivial
  go_wp2_with (first
   | (at_lookup; have _t := tok1; refine wpl_look rfl _ _ _ _ rfl rfl rfl HL.out ?_; dsimp only [codM, Option.getD]; clear tok1)
   | (at_lookup; refine wpl_look rfl _ _ _ _ rfl rfl rfl HL2.out ?_; dsimp only [codM])
   | (at_mapUpdate; have _t := tok2; refine wpl_upd rfl _ _ _ _ rfl rfl rfl rfl HR2.out ?_; clear tok2)
   | (at_mapUpdate; refine wpl_upd rfl _ _ _ _ rfl rfl rfl rfl HR3.out ?_)
   | (refine wpl_loadS (s := balS) (t := v) (b := w.heap.size) (k := 0) _ rfl rfl rfl rfl HRG.out ?_)
   | fail)
  exact bodyPost_end (results_none rfl _ _ _) rfl ⟨rfl, HF.out⟩
set_option maxRecDepth 100000 in
set_option maxHeartbeats 2000000 in
theorem take_V {B : Nat} {rm : List (Int × Option Nat)} {rows : Int → List (Int × Bal)} {w : World} (h : OutAt balS.cod B rm rows w) {a b : Int} (hr0 : rows a ≠ []) (hlen : (rows a).length ≤ 1000000) (ha : (Lit.int .i64 a).wf = true) (hb : (Lit.int .i64 b).wf = true) :
 Calls Tryz.prog 110 #[.map (some B), .int .i64 a, .int .i64 b] w fun e w' => e = .returned (.tuple #[]) ∧ OutTo balS.cod B rm (fun i => if i = a then sdel (rows a) b else rows i) w w' := by
 have hu1 : Tryz.prog.underlying 167 = some (.map 3 166) := Tryz.underlying167
 have hu2 : Tryz.prog.underlying 166 = some (.map 3 28) := Tryz.underlying166
 have hz1 : ∀ w, (zeroValue 166).run Tryz.prog w = .ok (codM.enc none) w := fun w => Tryz.zeroValue166 w
 obtain ⟨b', hs⟩ := h.has a hr0
 obtain ⟨b1, e, h1, h2, h3⟩ := h.at_ a _ hs
 obtain rfl : b' = b1 := by simpa using e
 have hl := h.map.look (z0 := none) hu1 (hz1 w) ha
 rw [hs] at hl
 obtain ⟨w1, hr1, hm1, hg1, hs1⟩ := h3.drop hu2 hb 0
 have hr1' : ∀ ty, (Builtin.delete_ #[166, 3] ty #[.map (some b'), .int .i64 b]).run Tryz.prog w = .ok (.tuple #[]) w1 := fun ty => hr1
 have hM1 : MapAt codM B rm w1 := h.map.kept hg1 (by simp; exact fun e => h2 e.symm)
 have hl2 := hM1.look (z0 := none) hu1 (hz1 w1) ha
 rw [hs] at hl2
 have hln := hm1.len hu2 0
 have hln' : ∀ ty, (Builtin.len_ #[166] ty #[.map (some b')]).run Tryz.prog w1 = .ok (.int .i64 (sdel (rows a) b).length) w1 := fun ty => hln
 have hO1 : Only (oblk B rm) (fun _ => False) w w1 := only_grown hg1 (.inr ⟨a, hs⟩)
 have hdl : (sdel (rows a) b).length ≤ 1000000 := Nat.le_trans (List.length_filter_le _ _) hlen
 by_cases hz : sdel (rows a) b = []
 · obtain ⟨w2, hr2, hm2, hg2, hs2⟩ := hM1.drop hu1 ha 0
   have hr2' : ∀ ty, (Builtin.delete_ #[167, 3] ty #[.map (some B), .int .i64 a]).run Tryz.prog w1 = .ok (.tuple #[]) w2 := fun ty => hr2
   rw [hz] at hln'
   have Hfin : OutTo balS.cod B rm (fun i => if i = a then sdel (rows a) b else rows i) w w2 := by
    rw [hz]
    refine ⟨_, h.gone hs hm2 (fun k hk hk1 hk2 => ?_), only_trans hO1 (only_grown hg2 (.inl rfl)), fun k hk => .inl (oblk_del h.map.srt hk)⟩
    rw [hg2.block k (by omega) (by simpa using hk1), hg1.block k hk (by simpa using hk2)]
   have HF := Lib.hid Hfin
   have HL := Lib.hid hl
   have HL2 := Lib.hid hl2
   have HR1 := Lib.hid hr1'
   have HR2 := Lib.hid hr2'
   have HN := Lib.hid hln'
   clear Hfin h hs hl hl2 hr1 hr1' hr2 hr2' hln hln' hM1 hm1 hm2 hg1 hg2 hs1 hs2 hO1 hdl hz h1 h2 h3 e hr0 hlen
   go_enter Tryz.func110, Tryz.ntmps110
   have tok1 : True := trivial
   have tok2 : True := trivial
   go_wp2_with (first
    | (at_lookup; have _t := tok1; refine wpl_look rfl _ _ _ _ rfl rfl rfl HL.out ?_; dsimp only [codM, Option.getD]; clear tok1)
    | (at_lookup; refine wpl_look rfl _ _ _ _ rfl rfl rfl HL2.out ?_; dsimp only [codM, Option.getD])
    | (at_delete; have _t := tok2; refine wpl_drop rfl _ _ _ _ rfl rfl rfl (HR1.out _) ?_; clear tok2)
    | (at_delete; refine wpl_drop rfl _ _ _ _ rfl rfl rfl (HR2.out _) ?_)
    | (at_len; refine wpl_len rfl _ _ rfl rfl (HN.out _) ?_; dsimp only [List.length_nil])
    | fail)
   exact bodyPost_end (results_none rfl _ _ _) rfl ⟨rfl, HF.out⟩
 · have Hfin : OutTo balS.cod B rm (fun i => if i = a then sdel (rows a) b else rows i) w w1 :=
    ⟨rm, h.upd hs hz hm1 hg1, hO1, fun k hk => .inl hk⟩
   obtain ⟨n, hn⟩ : ∃ n, n = (sdel (rows a) b).length := ⟨_, rfl⟩
   have hpos : 0 < n := by rw [hn]; exact List.length_pos_iff.2 hz
   have hne : (decide ((n : Int) = 0)) = false := by simp; omega
   have hne' : ((n : Int) == 0) = false := by simp; omega
   rw [← hn] at hln' hdl
   have HF := Lib.hid Hfin
   have HL := Lib.hid hl
   have HL2 := Lib.hid hl2
   have HR1 := Lib.hid hr1'
   have HN := Lib.hid hln'
   clear Hfin h hs hl hl2 hr1 hr1' hln hln' hM1 hm1 hg1 hs1 hO1 hz h1 h2 h3 e hr0 hlen hn
   go_enter Tryz.func110, Tryz.ntmps110
   have tok1 : True := trivial
   go_wp2_with (first
    | (at_lookup; have _t := tok1; refine wpl_look rfl _ _ _ _ rfl rfl rfl HL.out ?_; dsimp only [codM, Option.getD]; clear tok1)
    | (at_lookup; refine wpl_look rfl _ _ _ _ rfl rfl rfl HL2.out ?_; dsimp only [codM, Option.getD])
    | (at_delete; refine wpl_drop rfl _ _ _ _ rfl rfl rfl (HR1.out _) ?_)
    | (at_len; refine wpl_len rfl _ _ rfl rfl (HN.out _) ?_)
    | fail)
   exact bodyPost_end (results_none rfl _ _ _) rfl ⟨rfl, HF.out⟩
set_option maxRecDepth 100000 in
set_option maxHeartbeats 2000000 in
theorem lay_D {B : Nat} {rm : List (Int × Option Nat)} {rows : Int → List (Int × Dlg)} {w : World} (h : OutAt dlgS.cod B rm rows w) (hn : rm.length < maxLen) {a b : Int} (hra : (rows a).length < maxLen) (ha : (Lit.int .i64 a).wf = true) (hb : (Lit.int .i64 b).wf = true) (v : Dlg) :
 Calls Tryz.prog 112 #[.map (some B), .int .i64 a, .int .i64 b, .agg (dlgS.f v).toArray] w fun e w' => e = .returned (.tuple #[]) ∧ OutTo dlgS.cod B rm (fun i => if i = a then sput (rows a) b v else rows i) w w' := by
 have hmm := @run_makeMap Tryz.prog
 have hBw := h.map.lt
 have hu1 : Tryz.prog.underlying 158 = some (.map 3 157) := Tryz.underlying158
 have hu2 : Tryz.prog.underlying 157 = some (.map 3 93) := Tryz.underlying157
 have hz1 : ∀ w, (zeroValue 157).run Tryz.prog w = .ok (codM.enc none) w := fun w => Tryz.zeroValue157 w
 obtain ⟨u, hu⟩ : ∃ u, u = w.alloc (.cells (dlgS.f v).toArray 93) := ⟨_, rfl⟩
 have h : OutAt dlgS.cod B rm rows u := by rw [hu]; exact h.block (fun k hk => Below.heap_alloc _ _ k (h.lt hk))
 have hout : ∀ rows' w', OutTo dlgS.cod B rm rows' u w' → OutTo dlgS.cod B rm rows' w w' := fun rows' w' ho => by rw [hu] at ho; exact ho.alloc
 cases hs : sget rm a with
 | some x =>
  obtain ⟨b', rfl, h1, h2, h3⟩ := h.at_ a x hs
  obtain ⟨w', hr, hm', hg, hsz⟩ := h3.store hu2 hra hb v
  have hl := h.map.look (z0 := none) hu1 (hz1 u) ha
  rw [hs] at hl
  have Hfin : OutTo dlgS.cod B rm (fun i => if i = a then sput (rows a) b v else rows i) u w' :=
   ⟨rm, h.upd hs (sput_ne _ _ _) hm' hg, only_grown hg (.inr ⟨a, hs⟩), fun k hk => .inl hk⟩
  have Hfin := hout _ _ Hfin
  rw [hu] at hl hr
  have HF := Lib.hid Hfin
  have HL := Lib.hid hl
  have HR := Lib.hid hr
  have hrg : (w.alloc (.cells (dlgS.f v).toArray 93)).rangeAt w.heap.size 0 (dlgS.f v) := atS dlgS w v
  have HRG := Lib.hid hrg
  clear hout Hfin h h1 h2 h3 hs hm' hg hsz hn hra hl hr hmm hu hrg hBw
  have q1 : ∀ bm w, (binOp .eql 157 (.map (some bm)) (.map Option.none)).run Tryz.prog w = .ok (.bool false) w := fun bm w => by kernel_rfl
  have q2 : ∀ w, (binOp .eql 157 (.map Option.none) (.map Option.none)).run Tryz.prog w = .ok (.bool true) w := fun w => by kernel_rfl
  go_enter Tryz.func112, Tryz.ntmps112
  go_wp2_with (first
   | (at_lookup; refine wpl_look rfl _ _ _ _ rfl rfl rfl HL.out ?_; dsimp only [codM, Option.getD])
   | (at_mapUpdate; refine wpl_upd rfl _ _ _ _ rfl rfl rfl rfl HR.out ?_)
   | (refine wpl_loadS (s := dlgS) (t := v) (b := w.heap.size) (k := 0) _ rfl rfl rfl rfl HRG.out ?_)
   | fail)
  exact bodyPost_end (results_none rfl _ _ _) rfl ⟨rfl, HF.out⟩
 | none =>
  have hnil := h.isNil hs
  have hl := h.map.look (z0 := none) hu1 (hz1 u) ha
  rw [hs] at hl
  -- a new map, laid in, then written
  obtain ⟨w1, hw1⟩ : ∃ w1, w1 = u.alloc (.map #[] 0) := ⟨_, rfl⟩
  obtain ⟨N, hN⟩ : ∃ N, N = u.heap.size := ⟨_, rfl⟩
  have hmade : MapAt dlgS.cod N [] w1 := by rw [hw1, hN]; exact MapAt.made _ _
  have hM1 : MapAt codM B rm w1 := by rw [hw1]; exact h.map.kept (World.grownBy_alloc u _ none) (by simp)
  have hBlt := h.map.lt
  obtain ⟨w2, hr2, hm2, hg2, hs2⟩ := hM1.store hu1 hn ha (some N)
  have hl2 := hm2.look (z0 := none) hu1 (hz1 w2) ha
  rw [hM1.srt.get_put] at hl2
  simp only [if_true, Option.getD_some] at hl2
  have hmade2 := hmade.kept hg2 (by simp; omega)
  obtain ⟨w3, hr3, hm3, hg3, hs3⟩ := hmade2.store hu2 (by simp; unfold maxLen; omega) hb v
  have hm2' := hm2.kept hg3 (by simp; omega)
  have hB : Only (oblk B rm) (fun _ => False) u w2 := only_trans (by rw [hw1]; exact only_alloc _) (only_grown hg2 (.inl rfl))
  have hsz1 : w1.heap.size = u.heap.size + 1 := by rw [hw1]; simp
  have Hfin : OutTo dlgS.cod B rm (fun i => if i = a then sput (rows a) b v else rows i) u w3 := by
   rw [hnil]
   refine ⟨_, h.lay hs hm2' (by omega) (by omega) (sput_ne _ _ _) hm3 (fun k hk hkB => ?_), ⟨hB.grow.trans ⟨hg3.os, hg3.tape, hg3.output, hg3.size⟩, fun k hk hk1 hk2 => ?_⟩, fun k hk => ?_⟩
   · rw [hg3.block k (by omega) (by simp; omega), hg2.block k (by omega) (by simp; omega), hw1]
     exact Below.heap_alloc _ _ k hk
   · rw [hg3.block k (by omega) (by simp; omega)]
     exact hB.block k hk hk1 hk2
   · rcases oblk_put h.map.srt hk with h' | h'
     · exact .inl h'
     · exact .inr (by omega)
  have hrg : w2.rangeAt w.heap.size 0 (dlgS.f v) := by
   have hus : w.heap.size < u.heap.size := by rw [hu]; simp
   refine rangeAt_block (w := u) (by rw [hu]; exact atS dlgS w v) ((hg2.block _ (by omega) (by simp; omega)).trans ?_)
   rw [hw1]; exact Below.heap_alloc _ _ _ hus
  have HRG := Lib.hid hrg
  have Hfin := hout _ _ Hfin
  rw [hu] at hl
  have HF := Lib.hid Hfin
  have HL := Lib.hid hl
  have HL2 := Lib.hid hl2
  rw [hw1, hu] at hr2
  rw [hu, World.size_alloc] at hN
  subst hN
  have HR2 := Lib.hid hr2
  have HR3 := Lib.hid hr3
  have hmk : ∀ w, (Instr.makeMap 157 Option.none).run Tryz.prog w = .ok (.map (some w.heap.size)) (w.alloc (.map #[] 0)) := fun w => run_makeMap _ w
  clear hout Hfin h hs hn hra hl hl2 hr2 hr3 hnil hmade hM1 hm2 hg2 hs2 hmade2 hm3 hg3 hs3 hm2' hB hsz1 hBlt hw1 hmm hu hrg hBw
  have q1 : ∀ bm w, (binOp .eql 157 (.map (some bm)) (.map Option.none)).run Tryz.prog w = .ok (.bool false) w := fun bm w => by kernel_rfl
  have q2 : ∀ w, (binOp .eql 157 (.map Option.none) (.map Option.none)).run Tryz.prog w = .ok (.bool true) w := fun w => by kernel_rfl
  go_enter Tryz.func112, Tryz.ntmps112
  have tok1 : True := trivial
  have tok2 : True := trivial
  go_wp2_with (first
   | (at_lookup; have _t := tok1; refine wpl_look rfl _ _ _ _ rfl rfl rfl HL.out ?_; dsimp only [codM, Option.getD]; clear tok1)
   | (at_lookup; refine wpl_look rfl _ _ _ _ rfl rfl rfl HL2.out ?_; dsimp only [codM])
   | (at_mapUpdate; have _t := tok2; refine wpl_upd rfl _ _ _ _ rfl rfl rfl rfl HR2.out ?_; clear tok2)
   | (at_mapUpdate; refine wpl_upd rfl _ _ _ _ rfl rfl rfl rfl HR3.out ?_)
   | (refine wpl_loadS (s := dlgS) (t := v) (b := w.heap.size) (k := 0) _ rfl rfl rfl rfl HRG.out ?_)
   | fail)
  exact bodyPost_end (results_none rfl _ _ _) rfl ⟨rfl, HF.out⟩
set_option maxRecDepth 100000 in
set_option maxHeartbeats 2000000 in
theorem take_D {B : Nat} {rm : List (Int × Option Nat)} {rows : Int → List (Int × Dlg)} {w : World} (h : OutAt dlgS.cod B rm rows w) {a b : Int} (hr0 : rows a ≠ []) (hlen : (rows a).length ≤ 1000000) (ha : (Lit.int .i64 a).wf = true) (hb : (Lit.int .i64 b).wf = true) :
 Calls Tryz.prog 114 #[.map (some B), .int .i64 a, .int .i64 b] w fun e w' => e = .returned (.tuple #[]) ∧ OutTo dlgS.cod B rm (fun i => if i = a then sdel (rows a) b else rows i) w w' := by
 have hu1 : Tryz.prog.underlying 158 = some (.map 3 157) := Tryz.underlying158
 have hu2 : Tryz.prog.underlying 157 = some (.map 3 93) := Tryz.underlying157
 have hz1 : ∀ w, (zeroValue 157).run Tryz.prog w = .ok (codM.enc none) w := fun w => Tryz.zeroValue157 w
 obtain ⟨b', hs⟩ := h.has a hr0
 obtain ⟨b1, e, h1, h2, h3⟩ := h.at_ a _ hs
 obtain rfl : b' = b1 := by simpa using e
 have hl := h.map.look (z0 := none) hu1 (hz1 w) ha
 rw [hs] at hl
 obtain ⟨w1, hr1, hm1, hg1, hs1⟩ := h3.drop hu2 hb 0
 have hr1' : ∀ ty, (Builtin.delete_ #[157, 3] ty #[.map (some b'), .int .i64 b]).run Tryz.prog w = .ok (.tuple #[]) w1 := fun ty => hr1
 have hM1 : MapAt codM B rm w1 := h.map.kept hg1 (by simp; exact fun e => h2 e.symm)
 have hl2 := hM1.look (z0 := none) hu1 (hz1 w1) ha
 rw [hs] at hl2
 have hln := hm1.len hu2 0
 have hln' : ∀ ty, (Builtin.len_ #[157] ty #[.map (some b')]).run Tryz.prog w1 = .ok (.int .i64 (sdel (rows a) b).length) w1 := fun ty => hln
 have hO1 : Only (oblk B rm) (fun _ => False) w w1 := only_grown hg1 (.inr ⟨a, hs⟩)
 have hdl : (sdel (rows a) b).length ≤ 1000000 := Nat.le_trans (List.length_filter_le _ _) hlen
 by_cases hz : sdel (rows a) b = []
 · obtain ⟨w2, hr2, hm2, hg2, hs2⟩ := hM1.drop hu1 ha 0
   have hr2' : ∀ ty, (Builtin.delete_ #[158, 3] ty #[.map (some B), .int .i64 a]).run Tryz.prog w1 = .ok (.tuple #[]) w2 := fun ty => hr2
   rw [hz] at hln'
   have Hfin : OutTo dlgS.cod B rm (fun i => if i = a then sdel (rows a) b else rows i) w w2 := by
    rw [hz]
    refine ⟨_, h.gone hs hm2 (fun k hk hk1 hk2 => ?_), only_trans hO1 (only_grown hg2 (.inl rfl)), fun k hk => .inl (oblk_del h.map.srt hk)⟩
    rw [hg2.block k (by omega) (by simpa using hk1), hg1.block k hk (by simpa using hk2)]
   have HF := Lib.hid Hfin
   have HL := Lib.hid hl
   have HL2 := Lib.hid hl2
   have HR1 := Lib.hid hr1'
   have HR2 := Lib.hid hr2'
   have HN := Lib.hid hln'
   clear Hfin h hs hl hl2 hr1 hr1' hr2 hr2' hln hln' hM1 hm1 hm2 hg1 hg2 hs1 hs2 hO1 hdl hz h1 h2 h3 e hr0 hlen
   go_enter Tryz.func114, Tryz.ntmps114
   have tok1 : True := trivial
   have tok2 : True := trivial
   go_wp2_with (first
    | (at_lookup; have _t := tok1; refine wpl_look rfl _ _ _ _ rfl rfl rfl HL.out ?_; dsimp only [codM, Option.getD]; clear tok1)
    | (at_lookup; refine wpl_look rfl _ _ _ _ rfl rfl rfl HL2.out ?_; dsimp only [codM, Option.getD])
    | (at_delete; have _t := tok2; refine wpl_drop rfl _ _ _ _ rfl rfl rfl (HR1.out _) ?_; clear tok2)
    | (at_delete; refine wpl_drop rfl _ _ _ _ rfl rfl rfl (HR2.out _) ?_)
    | (at_len; refine wpl_len rfl _ _ rfl rfl (HN.out _) ?_; dsimp only [List.length_nil])
    | fail)
   exact bodyPost_end (results_none rfl _ _ _) rfl ⟨rfl, HF.out⟩
 · have Hfin : OutTo dlgS.cod B rm (fun i => if i = a then sdel (rows a) b else rows i) w w1 :=
    ⟨rm, h.upd hs hz hm1 hg1, hO1, fun k hk => .inl hk⟩
   obtain ⟨n, hn⟩ : ∃ n, n = (sdel (rows a) b).length := ⟨_, rfl⟩
   have hpos : 0 < n := by rw [hn]; exact List.length_pos_iff.2 hz
   have hne : (decide ((n : Int) = 0)) = false := by simp; omega
   have hne' : ((n : Int) == 0) = false := by simp; omega
   rw [← hn] at hln' hdl
   have HF := Lib.hid Hfin
   have HL := Lib.hid hl
   have HL2 := Lib.hid hl2
   have HR1 := Lib.hid hr1'
   have HN := Lib.hid hln'
   clear Hfin h hs hl hl2 hr1 hr1' hln hln' hM1 hm1 hg1 hs1 hO1 hz h1 h2 h3 e hr0 hlen hn
   go_enter Tryz.func114, Tryz.ntmps114
   have tok1 : True := trivial
   go_wp2_with (first
    | (at_lookup; have _t := tok1; refine wpl_look rfl _ _ _ _ rfl rfl rfl HL.out ?_; dsimp only [codM, Option.getD]; clear tok1)
    | (at_lookup; refine wpl_look rfl _ _ _ _ rfl rfl rfl HL2.out ?_; dsimp only [codM, Option.getD])
    | (at_delete; refine wpl_drop rfl _ _ _ _ rfl rfl rfl (HR1.out _) ?_)
    | (at_len; refine wpl_len rfl _ _ rfl rfl (HN.out _) ?_)
    | fail)
   exact bodyPost_end (results_none rfl _ _ _) rfl ⟨rfl, HF.out⟩
set_option maxRecDepth 100000 in
set_option maxHeartbeats 2000000 in
theorem lay_W {B : Nat} {rm : List (Int × Option Nat)} {rows : Int → List (Int × Wgt)} {w : World} (h : OutAt wgtS.cod B rm rows w) (hn : rm.length < maxLen) {a b : Int} (hra : (rows a).length < maxLen) (ha : (Lit.int .i64 a).wf = true) (hb : (Lit.int .i64 b).wf = true) (v : Wgt) :
 Calls Tryz.prog 127 #[.map (some B), .int .i64 a, .int .i64 b, .agg (wgtS.f v).toArray] w fun e w' => e = .returned (.tuple #[]) ∧ OutTo wgtS.cod B rm (fun i => if i = a then sput (rows a) b v else rows i) w w' := by
 have hmm := @run_makeMap Tryz.prog
 have hBw := h.map.lt
 have hu1 : Tryz.prog.underlying 187 = some (.map 3 195) := Tryz.underlying187
 have hu2 : Tryz.prog.underlying 195 = some (.map 3 82) := Tryz.underlying195
 have hz1 : ∀ w, (zeroValue 195).run Tryz.prog w = .ok (codM.enc none) w := fun w => Tryz.zeroValue195 w
 obtain ⟨u, hu⟩ : ∃ u, u = w.alloc (.cells (wgtS.f v).toArray 82) := ⟨_, rfl⟩
 have h : OutAt wgtS.cod B rm rows u := by rw [hu]; exact h.block (fun k hk => Below.heap_alloc _ _ k (h.lt hk))
 have hout : ∀ rows' w', OutTo wgtS.cod B rm rows' u w' → OutTo wgtS.cod B rm rows' w w' := fun rows' w' ho => by rw [hu] at ho; exact ho.alloc
 cases hs : sget rm a with
 | some x =>
  obtain ⟨b', rfl, h1, h2, h3⟩ := h.at_ a x hs
  obtain ⟨w', hr, hm', hg, hsz⟩ := h3.store hu2 hra hb v
  have hl := h.map.look (z0 := none) hu1 (hz1 u) ha
  rw [hs] at hl
  have Hfin : OutTo wgtS.cod B rm (fun i => if i = a then sput (rows a) b v else rows i) u w' :=
   ⟨rm, h.upd hs (sput_ne _ _ _) hm' hg, only_grown hg (.inr ⟨a, hs⟩), fun k hk => .inl hk⟩
  have Hfin := hout _ _ Hfin
  rw [hu] at hl hr
  have HF := Lib.hid Hfin
  have HL := Lib.hid hl
  have HR := Lib.hid hr
  have hrg : (w.alloc (.cells (wgtS.f v).toArray 82)).rangeAt w.heap.size 0 (wgtS.f v) := atS wgtS w v
  have HRG := Lib.hid hrg
  clear hout Hfin h h1 h2 h3 hs hm' hg hsz hn hra hl hr hmm hu hrg hBw
  have q1 : ∀ bm w, (binOp .eql 195 (.map (some bm)) (.map Option.none)).run Tryz.prog w = .ok (.bool false) w := fun bm w => by kernel_rfl
  have q2 : ∀ w, (binOp .eql 195 (.map Option.none) (.map Option.none)).run Tryz.prog w = .ok (.bool true) w := fun w => by kernel_rfl
  go_enter Tryz.func127, Tryz.ntmps127
  go_wp2_with (first
   | (at_lookup; refine wpl_look rfl _ _ _ _ rfl rfl rfl HL.out ?_; dsimp only [codM, Option.getD])
   | (at_mapUpdate; refine wpl_upd rfl _ _ _ _ rfl rfl rfl rfl HR.out ?_)
   | (refine wpl_loadS (s := wgtS) (t := v) (b := w.heap.size) (k := 0) _ rfl rfl rfl rfl HRG.out ?_)
   | fail)
  exact bodyPost_end (results_none rfl _ _ _) rfl ⟨rfl, HF.out⟩
 | none =>
  have hnil := h.isNil hs
  have hl := h.map.look (z0 := none) hu1 (hz1 u) ha
  rw [hs] at hl
  -- a new map, laid in, then written
  obtain ⟨w1, hw1⟩ : ∃ w1, w1 = u.alloc (.map #[] 0) := ⟨_, rfl⟩
  obtain ⟨N, hN⟩ : ∃ N, N = u.heap.size := ⟨_, rfl⟩
  have hmade : MapAt wgtS.cod N [] w1 := by rw [hw1, hN]; exact MapAt.made _ _
  have hM1 : MapAt codM B rm w1 := by rw [hw1]; exact h.map.kept (World.grownBy_alloc u _ none) (by simp)
  have hBlt := h.map.lt
  obtain ⟨w2, hr2, hm2, hg2, hs2⟩ := hM1.store hu1 hn ha (some N)
  have hl2 := hm2.look (z0 := none) hu1 (hz1 w2) ha
  rw [hM1.srt.get_put] at hl2
  simp only [if_true, Option.getD_some] at hl2
  have hmade2 := hmade.kept hg2 (by simp; omega)
  obtain ⟨w3, hr3, hm3, hg3, hs3⟩ := hmade2.store hu2 (by simp; unfold maxLen; omega) hb v
  have hm2' := hm2.kept hg3 (by simp; omega)
  have hB : Only (oblk B rm) (fun _ => False) u w2 := only_trans (by rw [hw1]; exact only_alloc _) (only_grown hg2 (.inl rfl))
  have hsz1 : w1.heap.size = u.heap.size + 1 := by rw [hw1]; simp
  have Hfin : OutTo wgtS.cod B rm (fun i => if i = a then sput (rows a) b v else rows i) u w3 := by
   rw [hnil]
   refine ⟨_, h.lay hs hm2' (by omega) (by omega) (sput_ne _ _ _) hm3 (fun k hk hkB => ?_), ⟨hB.grow.trans ⟨hg3.os, hg3.tape, hg3.output, hg3.size⟩, fun k hk hk1 hk2 => ?_⟩, fun k hk => ?_⟩
   · rw [hg3.block k (by omega) (by simp; omega), hg2.block k (by omega) (by simp; omega), hw1]
     exact Below.heap_alloc _ _ k hk
   · rw [hg3.block k (by omega) (by simp; omega)]
     exact hB.block k hk hk1 hk2
   · rcases oblk_put h.map.srt hk with h' | h'
     · exact .inl h'
     · exact .inr (by omega)
  have hrg : w2.rangeAt w.heap.size 0 (wgtS.f v) := by
   have hus : w.heap.size < u.heap.size := by rw [hu]; simp
   refine rangeAt_block (w := u) (by rw [hu]; exact atS wgtS w v) ((hg2.block _ (by omega) (by simp; omega)).trans ?_)
   rw [hw1]; exact Below.heap_alloc _ _ _ hus
  have HRG := Lib.hid hrg
  have Hfin := hout _ _ Hfin
  rw [hu] at hl
  have HF := Lib.hid Hfin
  have HL := Lib.hid hl
  have HL2 := Lib.hid hl2
  rw [hw1, hu] at hr2
  rw [hu, World.size_alloc] at hN
  subst hN
  have HR2 := Lib.hid hr2
  have HR3 := Lib.hid hr3
  have hmk : ∀ w, (Instr.makeMap 195 Option.none).run Tryz.prog w = .ok (.map (some w.heap.size)) (w.alloc (.map #[] 0)) := fun w => run_makeMap _ w
  clear hout Hfin h hs hn hra hl hl2 hr2 hr3 hnil hmade hM1 hm2 hg2 hs2 hmade2 hm3 hg3 hs3 hm2' hB hsz1 hBlt hw1 hmm hu hrg hBw
  have q1 : ∀ bm w, (binOp .eql 195 (.map (some bm)) (.map Option.none)).run Tryz.prog w = .ok (.bool false) w := fun bm w => by kernel_rfl
  have q2 : ∀ w, (binOp .eql 195 (.map Option.none) (.map Option.none)).run Tryz.prog w = .ok (.bool true) w := fun w => by kernel_rfl
  go_enter Tryz.func127, Tryz.ntmps127
  have tok1 : True := trivial
  have tok2 : True := trivial
  go_wp2_with (first
   | (at_lookup; have _t := tok1; refine wpl_look rfl _ _ _ _ rfl rfl rfl HL.out ?_; dsimp only [codM, Option.getD]; clear tok1)
   | (at_lookup; refine wpl_look rfl _ _ _ _ rfl rfl rfl HL2.out ?_; dsimp only [codM])
   | (at_mapUpdate; have _t := tok2; refine wpl_upd rfl _ _ _ _ rfl rfl rfl rfl HR2.out ?_; clear tok2)
   | (at_mapUpdate; refine wpl_upd rfl _ _ _ _ rfl rfl rfl rfl HR3.out ?_)
   | (refine wpl_loadS (s := wgtS) (t := v) (b := w.heap.size) (k := 0) _ rfl rfl rfl rfl HRG.out ?_)
   | fail)
  exact bodyPost_end (results_none rfl _ _ _) rfl ⟨rfl, HF.out⟩
set_option maxRecDepth 100000 in
set_option maxHeartbeats 2000000 in
theorem lay_Q {B : Nat} {rm : List (Int × Option Nat)} {rows : Int → List (Int × Wgt)} {w : World} (h : OutAt priS.cod B rm rows w) (hn : rm.length < maxLen) {a b : Int} (hra : (rows a).length < maxLen) (ha : (Lit.int .i64 a).wf = true) (hb : (Lit.int .i64 b).wf = true) (v : Wgt) :
 Calls Tryz.prog 126 #[.map (some B), .int .i64 a, .int .i64 b, .agg (priS.f v).toArray] w fun e w' => e = .returned (.tuple #[]) ∧ OutTo priS.cod B rm (fun i => if i = a then sput (rows a) b v else rows i) w w' := by
 have hmm := @run_makeMap Tryz.prog
 have hBw := h.map.lt
 have hu1 : Tryz.prog.underlying 163 = some (.map 3 162) := Tryz.underlying163
 have hu2 : Tryz.prog.underlying 162 = some (.map 3 104) := Tryz.underlying162
 have hz1 : ∀ w, (zeroValue 162).run Tryz.prog w = .ok (codM.enc none) w := fun w => Tryz.zeroValue162 w
 obtain ⟨u, hu⟩ : ∃ u, u = w.alloc (.cells (priS.f v).toArray 104) := ⟨_, rfl⟩
 have h : OutAt priS.cod B rm rows u := by rw [hu]; exact h.block (fun k hk => Below.heap_alloc _ _ k (h.lt hk))
 have hout : ∀ rows' w', OutTo priS.cod B rm rows' u w' → OutTo priS.cod B rm rows' w w' := fun rows' w' ho => by rw [hu] at ho; exact ho.alloc
 cases hs : sget rm a with
 | some x =>
  obtain ⟨b', rfl, h1, h2, h3⟩ := h.at_ a x hs
  obtain ⟨w', hr, hm', hg, hsz⟩ := h3.store hu2 hra hb v
  have hl := h.map.look (z0 := none) hu1 (hz1 u) ha
  rw [hs] at hl
  have Hfin : OutTo priS.cod B rm (fun i => if i = a then sput (rows a) b v else rows i) u w' :=
   ⟨rm, h.upd hs (sput_ne _ _ _) hm' hg, only_grown hg (.inr ⟨a, hs⟩), fun k hk => .inl hk⟩
  have Hfin := hout _ _ Hfin
  rw [hu] at hl hr
  have HF := Lib.hid Hfin
  have HL := Lib.hid hl
  have HR := Lib.hid hr
  have hrg : (w.alloc (.cells (priS.f v).toArray 104)).rangeAt w.heap.size 0 (priS.f v) := atS priS w v
  have HRG := Lib.hid hrg
  clear hout Hfin h h1 h2 h3 hs hm' hg hsz hn hra hl hr hmm hu hrg hBw
  have q1 : ∀ bm w, (binOp .eql 162 (.map (some bm)) (.map Option.none)).run Tryz.prog w = .ok (.bool false) w := fun bm w => by kernel_rfl
  have q2 : ∀ w, (binOp .eql 162 (.map Option.none) (.map Option.none)).run Tryz.prog w = .ok (.bool true) w := fun w => by kernel_rfl
  go_enter Tryz.func126, Tryz.ntmps126
  go_wp2_with (first
   | (at_lookup; refine wpl_look rfl _ _ _ _ rfl rfl rfl HL.out ?_; dsimp only [codM, Option.getD])
   | (at_mapUpdate; refine wpl_upd rfl _ _ _ _ rfl rfl rfl rfl HR.out ?_)
   | (refine wpl_loadS (s := priS) (t := v) (b := w.heap.size) (k := 0) _ rfl rfl rfl rfl HRG.out ?_)
   | fail)
  exact bodyPost_end (results_none rfl _ _ _) rfl ⟨rfl, HF.out⟩
 | none =>
  have hnil := h.isNil hs
  have hl := h.map.look (z0 := none) hu1 (hz1 u) ha
  rw [hs] at hl
  -- a new map, laid in, then written
  obtain ⟨w1, hw1⟩ : ∃ w1, w1 = u.alloc (.map #[] 0) := ⟨_, rfl⟩
  obtain ⟨N, hN⟩ : ∃ N, N = u.heap.size := ⟨_, rfl⟩
  have hmade : MapAt priS.cod N [] w1 := by rw [hw1, hN]; exact MapAt.made _ _
  have hM1 : MapAt codM B rm w1 := by rw [hw1]; exact h.map.kept (World.grownBy_alloc u _ none) (by simp)
  have hBlt := h.map.lt
  obtain ⟨w2, hr2, hm2, hg2, hs2⟩ := hM1.store hu1 hn ha (some N)
  have hl2 := hm2.look (z0 := none) hu1 (hz1 w2) ha
  rw [hM1.srt.get_put] at hl2
  simp only [if_true, Option.getD_some] at hl2
  have hmade2 := hmade.kept hg2 (by simp; omega)
  obtain ⟨w3, hr3, hm3, hg3, hs3⟩ := hmade2.store hu2 (by simp; unfold maxLen; omega) hb v
  have hm2' := hm2.kept hg3 (by simp; omega)
  have hB : Only (oblk B rm) (fun _ => False) u w2 := only_trans (by rw [hw1]; exact only_alloc _) (only_grown hg2 (.inl rfl))
  have hsz1 : w1.heap.size = u.heap.size + 1 := by rw [hw1]; simp
  have Hfin : OutTo priS.cod B rm (fun i => if i = a then sput (rows a) b v else rows i) u w3 := by
   rw [hnil]
   refine ⟨_, h.lay hs hm2' (by omega) (by omega) (sput_ne _ _ _) hm3 (fun k hk hkB => ?_), ⟨hB.grow.trans ⟨hg3.os, hg3.tape, hg3.output, hg3.size⟩, fun k hk hk1 hk2 => ?_⟩, fun k hk => ?_⟩
   · rw [hg3.block k (by omega) (by simp; omega), hg2.block k (by omega) (by simp; omega), hw1]
     exact Below.heap_alloc _ _ k hk
   · rw [hg3.block k (by omega) (by simp; omega)]
     exact hB.block k hk hk1 hk2
   · rcases oblk_put h.map.srt hk with h' | h'
     · exact .inl h'
     · exact .inr (by omega)
  have hrg : w2.rangeAt w.heap.size 0 (priS.f v) := by
   have hus : w.heap.size < u.heap.size := by rw [hu]; simp
   refine rangeAt_block (w := u) (by rw [hu]; exact atS priS w v) ((hg2.block _ (by omega) (by simp; omega)).trans ?_)
   rw [hw1]; exact Below.heap_alloc _ _ _ hus
  have HRG := Lib.hid hrg
  have Hfin := hout _ _ Hfin
  rw [hu] at hl
  have HF := Lib.hid Hfin
  have HL := Lib.hid hl
  have HL2 := Lib.hid hl2
  rw [hw1, hu] at hr2
  rw [hu, World.size_alloc] at hN
  subst hN
  have HR2 := Lib.hid hr2
  have HR3 := Lib.hid hr3
  have hmk : ∀ w, (Instr.makeMap 162 Option.none).run Tryz.prog w = .ok (.map (some w.heap.size)) (w.alloc (.map #[] 0)) := fun w => run_makeMap _ w
  clear hout Hfin h hs hn hra hl hl2 hr2 hr3 hnil hmade hM1 hm2 hg2 hs2 hmade2 hm3 hg3 hs3 hm2' hB hsz1 hBlt hw1 hmm hu hrg hBw
  have q1 : ∀ bm w, (binOp .eql 162 (.map (some bm)) (.map Option.none)).run Tryz.prog w = .ok (.bool false) w := fun bm w => by kernel_rfl
  have q2 : ∀ w, (binOp .eql 162 (.map Option.none) (.map Option.none)).run Tryz.prog w = .ok (.bool true) w := fun w => by kernel_rfl
  go_enter Tryz.func126, Tryz.ntmps126
  have tok1 : True := trivial
  have tok2 : True := trivial
  go_wp2_with (first
   | (at_lookup; have _t := tok1; refine wpl_look rfl _ _ _ _ rfl rfl rfl HL.out ?_; dsimp only [codM, Option.getD]; clear tok1)
   | (at_lookup; refine wpl_look rfl _ _ _ _ rfl rfl rfl HL2.out ?_; dsimp only [codM])
   | (at_mapUpdate; have _t := tok2; refine wpl_upd rfl _ _ _ _ rfl rfl rfl rfl HR2.out ?_; clear tok2)
   | (at_mapUpdate; refine wpl_upd rfl _ _ _ _ rfl rfl rfl rfl HR3.out ?_)
   | (refine wpl_loadS (s := priS) (t := v) (b := w.heap.size) (k := 0) _ rfl rfl rfl rfl HRG.out ?_)
   | fail)
  exact bodyPost_end (results_none rfl _ _ _) rfl ⟨rfl, HF.out⟩
set_option maxRecDepth 100000 in
set_option maxHeartbeats 2000000 in
theorem take_Q {B : Nat} {rm : List (Int × Option Nat)} {rows : Int → List (Int × Wgt)} {w : World} (h : OutAt priS.cod B rm rows w) {a b : Int} (hr0 : rows a ≠ []) (hlen : (rows a).length ≤ 1000000) (ha : (Lit.int .i64 a).wf = true) (hb : (Lit.int .i64 b).wf = true) :
 Calls Tryz.prog 115 #[.map (some B), .int .i64 a, .int .i64 b] w fun e w' => e = .returned (.tuple #[]) ∧ OutTo priS.cod B rm (fun i => if i = a then sdel (rows a) b else rows i) w w' := by
 have hu1 : Tryz.prog.underlying 163 = some (.map 3 162) := Tryz.underlying163
 have hu2 : Tryz.prog.underlying 162 = some (.map 3 104) := Tryz.underlying162
 have hz1 : ∀ w, (zeroValue 162).run Tryz.prog w = .ok (codM.enc none) w := fun w => Tryz.zeroValue162 w
 obtain ⟨b', hs⟩ := h.has a hr0
 obtain ⟨b1, e, h1, h2, h3⟩ := h.at_ a _ hs
 obtain rfl : b' = b1 := by simpa using e
 have hl := h.map.look (z0 := none) hu1 (hz1 w) ha
 rw [hs] at hl
 obtain ⟨w1, hr1, hm1, hg1, hs1⟩ := h3.drop hu2 hb 0
 have hr1' : ∀ ty, (Builtin.delete_ #[162, 3] ty #[.map (some b'), .int .i64 b]).run Tryz.prog w = .ok (.tuple #[]) w1 := fun ty => hr1
 have hM1 : MapAt codM B rm w1 := h.map.kept hg1 (by simp; exact fun e => h2 e.symm)
 have hl2 := hM1.look (z0 := none) hu1 (hz1 w1) ha
 rw [hs] at hl2
 have hln := hm1.len hu2 0
 have hln' : ∀ ty, (Builtin.len_ #[162] ty #[.map (some b')]).run Tryz.prog w1 = .ok (.int .i64 (sdel (rows a) b).length) w1 := fun ty => hln
 have hO1 : Only (oblk B rm) (fun _ => False) w w1 := only_grown hg1 (.inr ⟨a, hs⟩)
 have hdl : (sdel (rows a) b).length ≤ 1000000 := Nat.le_trans (List.length_filter_le _ _) hlen
 by_cases hz : sdel (rows a) b = []
 · obtain ⟨w2, hr2, hm2, hg2, hs2⟩ := hM1.drop hu1 ha 0
   have hr2' : ∀ ty, (Builtin.delete_ #[163, 3] ty #[.map (some B), .int .i64 a]).run Tryz.prog w1 = .ok (.tuple #[]) w2 := fun ty => hr2
   rw [hz] at hln'
   have Hfin : OutTo priS.cod B rm (fun i => if i = a then sdel (rows a) b else rows i) w w2 := by
    rw [hz]
    refine ⟨_, h.gone hs hm2 (fun k hk hk1 hk2 => ?_), only_trans hO1 (only_grown hg2 (.inl rfl)), fun k hk => .inl (oblk_del h.map.srt hk)⟩
    rw [hg2.block k (by omega) (by simpa using hk1), hg1.block k hk (by simpa using hk2)]
   have HF := Lib.hid Hfin
   have HL := Lib.hid hl
   have HL2 := Lib.hid hl2
   have HR1 := Lib.hid hr1'
   have HR2 := Lib.hid hr2'
   have HN := Lib.hid hln'
   clear Hfin h hs hl hl2 hr1 hr1' hr2 hr2' hln hln' hM1 hm1 hm2 hg1 hg2 hs1 hs2 hO1 hdl hz h1 h2 h3 e hr0 hlen
   go_enter Tryz.func115, Tryz.ntmps115
   have tok1 : True := trivial
   have tok2 : True := trivial
   go_wp2_with (first
    | (at_lookup; have _t := tok1; refine wpl_look rfl _ _ _ _ rfl rfl rfl HL.out ?_; dsimp only [codM, Option.getD]; clear tok1)
    | (at_lookup; refine wpl_look rfl _ _ _ _ rfl rfl rfl HL2.out ?_; dsimp only [codM, Option.getD])
    | (at_delete; have _t := tok2; refine wpl_drop rfl _ _ _ _ rfl rfl rfl (HR1.out _) ?_; clear tok2)
    | (at_delete; refine wpl_drop rfl _ _ _ _ rfl rfl rfl (HR2.out _) ?_)
    | (at_len; refine wpl_len rfl _ _ rfl rfl (HN.out _) ?_; dsimp only [List.length_nil])
    | fail)
   exact bodyPost_end (results_none rfl _ _ _) rfl ⟨rfl, HF.out⟩
 · have Hfin : OutTo priS.cod B rm (fun i => if i = a then sdel (rows a) b else rows i) w w1 :=
    ⟨rm, h.upd hs hz hm1 hg1, hO1, fun k hk => .inl hk⟩
   obtain ⟨n, hn⟩ : ∃ n, n = (sdel (rows a) b).length := ⟨_, rfl⟩
   have hpos : 0 < n := by rw [hn]; exact List.length_pos_iff.2 hz
   have hne : (decide ((n : Int) = 0)) = false := by simp; omega
   have hne' : ((n : Int) == 0) = false := by simp; omega
   rw [← hn] at hln' hdl
   have HF := Lib.hid Hfin
   have HL := Lib.hid hl
   have HL2 := Lib.hid hl2
   have HR1 := Lib.hid hr1'
   have HN := Lib.hid hln'
   clear Hfin h hs hl hl2 hr1 hr1' hln hln' hM1 hm1 hg1 hs1 hO1 hz h1 h2 h3 e hr0 hlen hn
   go_enter Tryz.func115, Tryz.ntmps115
   have tok1 : True := trivial
   go_wp2_with (first
    | (at_lookup; have _t := tok1; refine wpl_look rfl _ _ _ _ rfl rfl rfl HL.out ?_; dsimp only [codM, Option.getD]; clear tok1)
    | (at_lookup; refine wpl_look rfl _ _ _ _ rfl rfl rfl HL2.out ?_; dsimp only [codM, Option.getD])
    | (at_delete; refine wpl_drop rfl _ _ _ _ rfl rfl rfl (HR1.out _) ?_)
    | (at_len; refine wpl_len rfl _ _ rfl rfl (HN.out _) ?_)
    | fail)
   exact bodyPost_end (results_none rfl _ _ _) rfl ⟨rfl, HF.out⟩
end
end Go.Proofs.YtbpemdihoabbcaaGreat
