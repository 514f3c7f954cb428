/-
  Joined texts.
-/
import Derived.Deep.RegionHeld3
import Derived.Test.YtbpemdihoabbcaaGreatMhc
namespace Go.Proofs.YtbpemdihoabbcaaGreat
set_option linter.unusedVariables false
set_option linter.unusedSimpArgs false
section
open Go.RowKit Go.Maps
theorem GrTo.later {β : Type} {c : Cod β} {T : TypeId} {g : Nat} {M : Cls β} {F : FP} {w u w' : World} (hb : Below w.heap.size w u) (h : GrTo c T g M F u w') : GrTo c T g M F w w' := by
 obtain ⟨F', h1, h2, h3⟩ := h
 exact ⟨F', h1, fun k hk => (h2 k hk).imp id (fun h => Nat.le_trans hb.size h), only_trans (Only.of_later hb) h3⟩
theorem OutTo.drew {β : Type} {c : Cod β} {B : Nat} {rm : List (Int × Option Nat)} {rows : Int → List (Int × β)} {w w' : World} (h : OutTo c B rm rows w w') : OutTo c B rm rows w w'.drew := by
 obtain ⟨rm', h1, h2, h3⟩ := h
 exact ⟨rm', h1.block (fun k _ => rfl), only_trans h2 (Only.of_later (Below.refl _ w').drew), h3⟩
def loadSt_V (v : Value) : Sem Value := Instr.loadAt 28 v
theorem loadSt_V_hide (v : Value) : Instr.loadAt 28 v = loadSt_V v := rfl
theorem run_loadSt_V {w : World} {b : Nat} {t : _} (h : w.rangeAt b 0 (balS.f t)) : (loadSt_V (.pointer (some ⟨b, 0, none⟩))).run Tryz.prog w = .ok (.agg (balS.f t).toArray) w := run_loadS (s := balS) h
def loadSt_D (v : Value) : Sem Value := Instr.loadAt 93 v
theorem loadSt_D_hide (v : Value) : Instr.loadAt 93 v = loadSt_D v := rfl
theorem run_loadSt_D {w : World} {b : Nat} {t : _} (h : w.rangeAt b 0 (dlgS.f t)) : (loadSt_D (.pointer (some ⟨b, 0, none⟩))).run Tryz.prog w = .ok (.agg (dlgS.f t).toArray) w := run_loadS (s := dlgS) h
def loadSt_W (v : Value) : Sem Value := Instr.loadAt 82 v
theorem loadSt_W_hide (v : Value) : Instr.loadAt 82 v = loadSt_W v := rfl
theorem run_loadSt_W {w : World} {b : Nat} {t : _} (h : w.rangeAt b 0 (wgtS.f t)) : (loadSt_W (.pointer (some ⟨b, 0, none⟩))).run Tryz.prog w = .ok (.agg (wgtS.f t).toArray) w := run_loadS (s := wgtS) h
def loadSt_Q (v : Value) : Sem Value := Instr.loadAt 104 v
theorem loadSt_Q_hide (v : Value) : Instr.loadAt 104 v = loadSt_Q v := rfl
theorem run_loadSt_Q {w : World} {b : Nat} {t : _} (h : w.rangeAt b 0 (priS.f t)) : (loadSt_Q (.pointer (some ⟨b, 0, none⟩))).run Tryz.prog w = .ok (.agg (priS.f t).toArray) w := run_loadS (s := priS) h
set_option maxRecDepth 100000 in
set_option maxHeartbeats 4000000 in
attribute [local go_sem ↓] loadSt_V_hide in
theorem grid_Set_V {g : Nat} {M : Cls Bal} {F : FP} {w : World} (h : GrAt balS.cod 169 g M F w) (hlen : M.length ≤ 1000000) {a b : Int} (ha : (Lit.int .i64 a).wf = true) (hb : (Lit.int .i64 b).wf = true) (v : Bal) :
 Calls Tryz.prog 66 #[.pointer (some ⟨g, 0, none⟩), .int .i64 a, .int .i64 b, .agg (balS.f v).toArray] w fun e w' => e = .returned (.tuple #[]) ∧ GrTo balS.cod 169 g (cput M a b v) F w w' := by
 have hu1 : Tryz.prog.underlying 167 = some (.map 3 166) := Tryz.underlying167
 have hu2 : Tryz.prog.underlying 166 = some (.map 3 28) := Tryz.underlying166
 have hz1 : ∀ w, (zeroValue 166).run Tryz.prog w = .ok (codM.enc none) w := fun w => Tryz.zeroValue166 w
 have hz2 : ∀ w, (zeroValue 28).run Tryz.prog w = .ok (balS.cod.enc balS.zero) w := fun w => balS.zeroRun w
 have hmm := @run_makeMap Tryz.prog
 obtain ⟨uw, hu⟩ : ∃ u, u = w.alloc (.cells (balS.f v).toArray 28) := ⟨_, rfl⟩
 have hbu : Below w.heap.size w uw := by rw [hu]; exact (Below.refl _ w).alloc (Nat.le_refl _) _
 obtain ⟨vb, hvb⟩ : ∃ vb, vb = w.heap.size := ⟨_, rfl⟩
 have hvF : ¬ F vb := fun hk => by have := h.2.2.1 vb hk; omega
 have hvl : vb < uw.heap.size := by rw [hu, hvb]; simp
 have hrg : uw.rangeAt vb 0 (balS.f v) := by rw [hu, hvb]; exact atS balS w v
 have h : GrAt balS.cod 169 g M F uw := h.keep (Grow.of_below hbu) (fun k hk => hbu.block k (h.2.2.1 k hk))
 have HBU := Lib.hid hbu
 have HU := Lib.hid (And.intro hu hvb)
 have HV := Lib.hid (And.intro hvF (And.intro hvl hrg))
 clear hu hbu hvb hvF hvl hrg
 obtain ⟨hs, hFg, hFl, hmem⟩ := h
 have hkey : ∃ (mv : Option Nat) (q : Bool), uw.cell? ⟨g, 0, none⟩ = some (.map mv) ∧ (∀ uw, (binOp .eql 167 (.map mv) (.map Option.none)).run Tryz.prog uw = .ok (.bool q) uw) ∧
  ((q = true ∧ M = [] ∧ uw.heap[g]? = some (.cells #[.map none, .map none, .int .i64 0] 169 (0, 0))) ∨
   (q = false ∧ ∃ B C rm cm, uw.heap[g]? = some (.cells #[.map (some B), .map (some C), .int .i64 M.length] 169 (0, 0)) ∧ MapsAt balS.cod B C rm cm M uw ∧ (∀ k, oblk B rm k → F k) ∧ (∀ k, oblk C cm k → F k))) := by
  rcases hmem with ⟨e, hh⟩ | ⟨B, C, rm, cm, hh, h⟩
  · exact ⟨none, true, (cells3 hh).1, fun uw => by kernel_rfl, .inl ⟨rfl, e, hh⟩⟩
  · exact ⟨some B, false, (cells3 hh).1, fun uw => by kernel_rfl, .inr ⟨rfl, B, C, rm, cm, hh, h⟩⟩
 obtain ⟨mv, q, kq, hq, hmem⟩ := hkey
 have HM := Lib.hid hmem
 have HFl := Lib.hid hFl
 have HFg := Lib.hid hFg
 clear hmem hFl hFg
 go_enter Tryz.func66, Tryz.ntmps66
 go_upto_region 1 with fail
 rw [← HU.out.1, ← HU.out.2]
 go_upto_if 16 with fail
 clear hq kq
 go_cut [] (fun wx => ∃ B C rm cm, wx.heap[g]? = some (.cells #[.map (some B), .map (some C), .int .i64 M.length] 169 (0, 0)) ∧ MapsAt balS.cod B C rm cm M wx ∧ Only F (fun _ => False) uw wx ∧ (∀ k, oblk B rm k → F k ∨ uw.heap.size ≤ k) ∧ (∀ k, oblk C cm k → F k ∨ uw.heap.size ≤ k))
 case first =>
  rcases HM.out with ⟨rfl, e, hh⟩ | ⟨rfl, B, C, rm, cm, hh, hM, h1, h2⟩
  · obtain ⟨k0, k1, k2, f0, f1, f2⟩ := cells3 hh
    have hglt : g < uw.heap.size := (Array.getElem?_eq_some_iff.1 hh).1
    have HH := Lib.hid hh
    have HGL := Lib.hid hglt
    have HE := Lib.hid e
    clear hh e
    go_wp2_with fail
    go_meet
    obtain rfl := HE.out
    obtain ⟨v0, hv0⟩ : ∃ v0, v0 = (uw.setCell ⟨g, 0, none⟩ (.map (some uw.heap.size))).setCell ⟨g, 1, none⟩ (.map (some (uw.heap.size + 1))) := ⟨_, rfl⟩
    have hvs : v0.heap.size = uw.heap.size := by rw [hv0]; simp [World.setCell]
    have hg3 : v0.heap[g]? = some (.cells #[.map (some uw.heap.size), .map (some (uw.heap.size + 1)), .int .i64 0] 169 (0, 0)) := by rw [hv0]; exact (set3 (set3 HH.out).1).2.1
    have hov : Only F (fun _ => False) uw v0 := by rw [hv0]; exact only_trans (only_set HFg.out) (only_set HFg.out)
    rw [← hv0]
    clear hv0
    have hr : OutAt balS.cod uw.heap.size [] (rowOf []) ((v0.alloc (.map #[] 0)).alloc (.map #[] 0)) := by
     have := OutAt.made balS.cod v0
     rw [hvs] at this
     exact (this.block (fun k hk => Below.heap_alloc _ _ k (this.lt hk))).congr (fun _ => rfl)
    have hc : OutAt codU (uw.heap.size + 1) [] (colU ([] : Cls Bal)) ((v0.alloc (.map #[] 0)).alloc (.map #[] 0)) := by
     have := OutAt.made codU (v0.alloc (.map #[] 0))
     rw [World.size_alloc, hvs] at this
     exact this.congr (fun _ => rfl)
    have hob : ∀ B k, oblk B [] k → k = B := fun B k hk => hk.elim id (fun ⟨a, ha⟩ => by simp [sget] at ha)
    have hM1 : MapsAt balS.cod uw.heap.size (uw.heap.size + 1) [] [] ([] : Cls Bal) ((v0.alloc (.map #[] 0)).alloc (.map #[] 0)) := ⟨hr, hc, fun k hk hk' => by have := hob _ _ hk; have := hob _ _ hk'; omega⟩
    have hg1 : ((v0.alloc (.map #[] 0)).alloc (.map #[] 0)).heap[g]? = some (.cells #[.map (some uw.heap.size), .map (some (uw.heap.size + 1)), .int .i64 0] 169 (0, 0)) := by
     rw [Below.heap_alloc _ _ g (by simp; omega), Below.heap_alloc _ _ g (by omega)]; exact hg3
    refine ⟨_, _, _, _, hg1, hM1, ?_, fun k hk => .inr ?_, fun k hk => .inr ?_⟩
    · exact only_trans hov (only_trans (only_alloc _) (only_alloc _))
    · have := hob _ _ hk; omega
    · have := hob _ _ hk; omega
  · obtain ⟨k0, k1, k2, f0, f1, f2⟩ := cells3 hh
    have HH := Lib.hid hh
    have HMM := Lib.hid hM
    have H1 := Lib.hid h1
    have H2 := Lib.hid h2
    clear hh hM h1 h2
    go_wp2_with fail
    go_meet
    exact ⟨B, C, rm, cm, HH.out, HMM.out, Only.refl _ _ _, fun k hk => .inl (H1.out k hk), fun k hk => .inl (H2.out k hk)⟩
 case rest =>
  obtain ⟨B, C, rm, cm, hh, hM, ho, h1, h2⟩ := hcut
  have hrg : wc.rangeAt vb 0 (balS.f v) := rangeAt_block HV.out.2.2 (ho.block vb HV.out.2.1 HV.out.1 (fun h => h))
  have HRG := Lib.hid hrg
  obtain ⟨k0, k1, k2, f0, f1, f2⟩ := cells3 hh
  have hrl := outer_length hM.row hs
  have hcl := cols_length hM.col
  have hra := row_length M a
  have hcb := colU_length M b
  have hFl := HFl.out
  have hFg := HFg.out
  obtain ⟨mi, hl1, hl2⟩ : ∃ mi, (Instr.lookup 167 (.map (some B)) (.int .i64 a) false).run Tryz.prog wc = .ok (.map mi) wc ∧
   (Instr.lookup 166 (.map mi) (.int .i64 b) true).run Tryz.prog wc = .ok (.tuple #[balS.cod.enc ((cget M a b).getD balS.zero), .bool (cget M a b).isSome]) wc := by
   have hl := hM.row.map.look (z0 := none) hu1 (hz1 wc) ha
   cases hsg : sget rm a with
   | none =>
    rw [hsg] at hl
    refine ⟨none, hl, ?_⟩
    have hr := hM.row.isNil hsg
    have : cget M a b = none := by rw [cget, hr]; rfl
    rw [this]
    exact nil_look hu2 (hz2 wc) hb true
   | some x =>
    obtain ⟨b', rfl, _, _, h3⟩ := hM.row.at_ a x hsg
    rw [hsg] at hl
    exact ⟨some b', hl, h3.look_ok hu2 (hz2 wc) hb⟩
  obtain ⟨t, ht⟩ : ∃ t, t = (cget M a b).getD balS.zero := ⟨_, rfl⟩
  rw [← ht] at hl2
  obtain ⟨wd, hwd⟩ : ∃ wd, wd = wc.alloc (balS.obj t) := ⟨_, rfl⟩
  have hbd : Below wc.heap.size wc wd := by rw [hwd]; exact (Below.refl _ wc).alloc (Nat.le_refl _) _
  have hh := (hbd.block g (Array.getElem?_eq_some_iff.1 hh).1).trans hh
  have hM : MapsAt balS.cod B C rm cm M wd := hM.block (fun k hk => hbd.block k (hk.elim hM.row.lt hM.col.lt))
  have ho : Only F (fun _ => False) uw wd := only_trans ho (by rw [hwd]; exact only_alloc _)
  obtain ⟨m0, m1, m2, n0, n1, n2⟩ := cells3 hh
  have hrg : wd.rangeAt vb 0 (balS.f v) := rangeAt_block HV.out.2.2 (ho.block vb HV.out.2.1 HV.out.1 (fun h => h))
  have HRG := Lib.hid hrg
  have HWD := Lib.hid hwd
  clear ht hwd hbd
  by_cases hsome : (cget M a b).isSome = true
  · -- the cell was there
    rw [hsome] at hl2
    have hcol : colU (cput M a b v) = colU M := by
     rw [← colU_put hs]
     funext j
     split
     · rename_i e; subst e
       obtain ⟨u, hu⟩ := Option.isSome_iff_exists.1 hsome
       refine ((srt_colU hs j).put _ _).ext (srt_colU hs j) (fun x => ?_)
       rw [mem_sput]
       constructor
       · rintro (e | e)
         · subst e; exact mem_colU.2 ⟨u, mem_colOf.2 (hs.get.1 hu)⟩
         · exact e.1
       · intro hx
         by_cases e : x.1 = a
         · exact .inl (by rw [← e])
         · exact .inr ⟨hx, e⟩
     · rfl
    have hn : (M.length : Int) = (cput M a b v).length := by rw [hs.length_put, if_pos hsome]
    have hlay := lay_V (w := wd.drew) (hM.row.block (fun k _ => rfl)) (by unfold maxLen; omega) (a := a) (b := b) (by unfold maxLen; omega) ha hb v
    rw [rowOf_put hs] at hlay
    have hks : ∀ w2, OutTo balS.cod B rm (rowOf (cput M a b v)) wd.drew w2 → w2.cell? ⟨g, 0, none⟩ = some (.map (some B)) ∧ (loadSt_V (.pointer (some ⟨vb, 0, none⟩))).run Tryz.prog w2 = .ok (.agg (balS.f v).toArray) w2 := fun w2 ⟨rm', r1, r2, r3⟩ => by
     have hgl : g < wd.heap.size := (Array.getElem?_eq_some_iff.1 hh).1
     refine ⟨?_, run_loadSt_V (rangeAt_block (w := wd) hrg (r2.block vb (Nat.lt_of_lt_of_le HV.out.2.1 ho.grow.size) (fun hk => (h1 vb hk).elim HV.out.1 (fun h => by have := HV.out.2.1; omega)) (fun h => h)))⟩
     rw [World.cell?_of_block (r2.block g hgl (fun hk => hM.notg hh (.inl hk) rfl) (fun h => h))]
     exact (cells3 hh).1
    have HKS := Lib.hid hks
    have KD := Lib.hid (show wd.drew.cell? ⟨g, 0, none⟩ = some (.map (some B)) ∧ (loadSt_V (.pointer (some ⟨vb, 0, none⟩))).run Tryz.prog wd.drew = .ok (.agg (balS.f v).toArray) wd.drew from ⟨(cells3 hh).1, run_loadSt_V hrg⟩)
    clear hks
    have HLAY := Lib.hid hlay
    have HL1 := Lib.hid hl1
    have HL2 := Lib.hid hl2
    have HFIN := Lib.hid (And.intro (show Only F (fun _ => False) uw wd.drew from only_trans ho (Only.of_later (Below.refl _ wd).drew)) (And.intro (show wd.drew.heap[g]? = _ from hh) (And.intro (show MapsAt balS.cod B C rm cm M wd.drew from hM.block (fun k _ => rfl)) (And.intro (hs.put a b v) (And.intro hn (And.intro hFg (And.intro hFl (And.intro h1 (And.intro h2 hcol)))))))))
    clear hrg hlay hl1 hl2 ho hh hM hs hn hFg hFl h1 h2 hcol hsome hrl hcl hra hcb hlen ha hb hu1 hu2 hz1 hz2 hmm
    have tok1 : True := trivial
    go_wp2_with (first
     | (at_lookup; have _t := tok1; refine wpl_look rfl _ _ _ _ rfl rfl rfl HL1.out ?_; clear tok1)
     | (at_lookup; refine wpl_look rfl _ _ _ _ rfl rfl rfl HL2.out ?_)
     | (refine wpl_allocS (s := balS) rfl rfl rfl ?_)
     | (refine wpl_storeS (s := balS) (t := t) (b := wc.heap.size) _ _ rfl rfl rfl rfl rfl (World.alloc_heap_new wc _) (zeroS balS) ?_; rw [newS, ← HWD.out])
     | fail)
    go_region_held3 (fun w' => w'.cell? ⟨g, 0, none⟩ = some (.map (some B)) ∧ (loadSt_V (.pointer (some ⟨vb, 0, none⟩))).run Tryz.prog w' = .ok (.agg (balS.f v).toArray) w') (first | exact KD.out | exact K2.out) (first
     | (go_at_call 107; refine HLAY.out.mono ?_; rintro e w2 ⟨rfl, hout⟩; have K2 := Lib.hid (HKS.out w2 hout); have HOUT := Lib.hid hout; clear hout)
     | fail)
    all_goals go_wp2_with fail
    refine bodyPost_end (results_none rfl _ _ _) rfl ⟨rfl, GrTo.later HBU.out ?_⟩
    obtain ⟨ho, hh, hM, hs', hn, hFg, hFl, h1, h2, hcol⟩ := HFIN.out
    exact row_to ho hh hM hs' hn hFg hFl h1 h2 hcol HOUT.out
  · -- it was not
    have hnone : (cget M a b).isSome = false := by simpa using hsome
    rw [hnone] at hl2
    have W1 : IntKind.i64.wrap ((M.length : Int) + 1) = (M.length : Int) + 1 := IntWalk.i64_in _ (by omega)
    obtain ⟨wy, hwy⟩ : ∃ wy, wy = wd.setCell ⟨g, 2, none⟩ (.int .i64 ((M.length : Int) + 1)) := ⟨_, rfl⟩
    have hgy : wy.heap[g]? = some (.cells #[.map (some B), .map (some C), .int .i64 ((M.length : Int) + 1)] 169 (0, 0)) := by rw [hwy]; exact (set3 hh).2.2
    have hMy : MapsAt balS.cod B C rm cm M wy := by rw [hwy]; exact hM.set hh
    have hoy : Only F (fun _ => False) uw wy := only_trans ho (by rw [hwy]; exact only_set hFg)
    have hn : (M.length : Int) + 1 = (cput M a b v).length := by rw [hs.length_put, if_neg hsome]; simp
    have hlayC := lay_U hMy.col (by unfold maxLen; omega) (a := b) (b := a) (by unfold maxLen; omega) hb ha ()
    rw [colU_put hs a b v] at hlayC
    have hlayR : ∀ w2, OutAt balS.cod B rm (rowOf M) w2 → Calls Tryz.prog 107 #[.map (some B), .int .i64 a, .int .i64 b, .agg (balS.f v).toArray] w2 fun e w' => e = .returned (.tuple #[]) ∧ OutTo balS.cod B rm (rowOf (cput M a b v)) w2 w' := fun w2 h2 => by
     have := lay_V h2 (by unfold maxLen; omega) (a := a) (b := b) (by unfold maxLen; omega) ha hb v
     rw [rowOf_put hs] at this
     exact this
    have hkeep : ∀ w2, OutTo codU C cm (colU (cput M a b v)) wy w2 → w2.cell? ⟨g, 0, none⟩ = some (.map (some B)) ∧ OutAt balS.cod B rm (rowOf M) w2 ∧ w2.rangeAt vb 0 (balS.f v) := fun w2 ⟨cm', c1, c2, c3⟩ => by
     have hglt : g < wy.heap.size := (Array.getElem?_eq_some_iff.1 hgy).1
     refine ⟨?_, hMy.row.block (fun k hk => c2.block k (hMy.row.lt hk) (hMy.off k hk) (fun h => h)), rangeAt_block (w := wy) (rangeAt_block HV.out.2.2 (hoy.block vb HV.out.2.1 HV.out.1 (fun h => h))) (c2.block vb (Nat.lt_of_lt_of_le HV.out.2.1 hoy.grow.size) (fun hk => (h2 vb hk).elim HV.out.1 (fun h => by have := HV.out.2.1; omega)) (fun h => h))⟩
     rw [World.cell?_of_block (c2.block g hglt (fun hk => hMy.notg hgy (.inr hk) rfl) (fun h => h))]
     exact (cells3 hgy).1
    rw [hwy] at hlayC hkeep
    have hke : ∀ w2, OutTo codU C cm (colU (cput M a b v)) (wd.setCell ⟨g, 2, none⟩ (.int .i64 ((M.length : Int) + 1))) w2 → (w2.cell? ⟨g, 0, none⟩ = some (.map (some B)) ∧ (loadSt_V (.pointer (some ⟨vb, 0, none⟩))).run Tryz.prog w2 = .ok (.agg (balS.f v).toArray) w2) ∧ ∀ w3, OutTo balS.cod B rm (rowOf (cput M a b v)) w2 w3 → w3.cell? ⟨g, 0, none⟩ = some (.map (some B)) ∧ (loadSt_V (.pointer (some ⟨vb, 0, none⟩))).run Tryz.prog w3 = .ok (.agg (balS.f v).toArray) w3 := fun w2 ho2 => by
     obtain ⟨e1, e2, e3⟩ := hkeep w2 ho2
     refine ⟨⟨e1, run_loadSt_V e3⟩, fun w3 ⟨rm', r1, r2, r3⟩ => ?_⟩
     have hsz : wd.heap.size ≤ w2.heap.size := by obtain ⟨_, _, q, _⟩ := ho2; have := q.grow.size; simpa [World.setCell] using this
     have hgl : g < wd.heap.size := (Array.getElem?_eq_some_iff.1 hh).1
     refine ⟨?_, run_loadSt_V (rangeAt_block e3 (r2.block vb (by have := ho.grow.size; have := HV.out.2.1; omega) (fun hk => (h1 vb hk).elim HV.out.1 (fun h => by have := HV.out.2.1; omega)) (fun h => h)))⟩
     rw [World.cell?_of_block (r2.block g (by omega) (fun hk => hM.notg hh (.inl hk) rfl) (fun h => h))]
     exact e1
    have HKE := Lib.hid hke
    clear hke
    have HLC := Lib.hid hlayC
    have HLR := Lib.hid hlayR
    have HKP := Lib.hid hkeep
    have HL1 := Lib.hid hl1
    have HL2 := Lib.hid hl2
    have HW := Lib.hid hwy
    have HFIN := Lib.hid (And.intro hoy (And.intro hgy (And.intro hMy (And.intro (hs.put a b v) (And.intro hn (And.intro hFg (And.intro hFl (And.intro h1 h2))))))))
    clear hrg hlayC hlayR hkeep hl1 hl2 hwy hoy hgy hMy ho hh hM hs hn hFg hFl h1 h2 hsome hnone hrl hcl hra hcb ha hb hu1 hu2 hz1 hz2 hmm
    have tok1 : True := trivial
    go_wp2_with (first
     | (at_lookup; have _t := tok1; refine wpl_look rfl _ _ _ _ rfl rfl rfl HL1.out ?_; clear tok1)
     | (at_lookup; refine wpl_look rfl _ _ _ _ rfl rfl rfl HL2.out ?_)
     | (refine wpl_allocS (s := balS) rfl rfl rfl ?_)
     | (refine wpl_storeS (s := balS) (t := t) (b := wc.heap.size) _ _ rfl rfl rfl rfl rfl (World.alloc_heap_new wc _) (zeroS balS) ?_; rw [newS, ← HWD.out])
     | (go_at_call 106; refine HLC.out.mono ?_; rintro e w2 ⟨rfl, hout⟩; obtain ⟨k9, hrow, hrg2⟩ := HKP.out w2 hout; have HRG2 := Lib.hid hrg2; clear hrg2; have HOUT := Lib.hid hout; have HROW := Lib.hid hrow; clear hout hrow)
     | fail)
    go_region_held3 (fun w' => w'.cell? ⟨g, 0, none⟩ = some (.map (some B)) ∧ (loadSt_V (.pointer (some ⟨vb, 0, none⟩))).run Tryz.prog w' = .ok (.agg (balS.f v).toArray) w') (first | exact HKE.out w2.drew HOUT.out.drew |>.1 | exact K3.out) (first
     | (go_at_call 107; refine (HLR.out _ (HKP.out _ HOUT.out.drew).2.1).mono ?_; rintro e w3 ⟨rfl, hout3⟩; have K3 := Lib.hid ((HKE.out w2.drew HOUT.out.drew).2 w3 hout3); have HOUT3 := Lib.hid hout3; clear hout3)
     | fail)
    all_goals go_wp2_with fail
    refine bodyPost_end (results_none rfl _ _ _) rfl ⟨rfl, GrTo.later HBU.out ?_⟩
    obtain ⟨hoy, hgy, hMy, hs', hn, hFg, hFl, h1, h2⟩ := HFIN.out
    have hc := HOUT.out
    rw [← HW.out] at hc
    have hc := hc.drew
    exact maps_to hoy hgy hMy hs' hn hFg hFl h1 h2 hc (fun _ => HOUT3.out)
set_option maxRecDepth 100000 in
set_option maxHeartbeats 4000000 in
theorem grid_Del_V {g : Nat} {M : Cls Bal} {F : FP} {w : World} (h : GrAt balS.cod 169 g M F w) (hlen : M.length ≤ 1000000) {a b : Int} (ha : (Lit.int .i64 a).wf = true) (hb : (Lit.int .i64 b).wf = true) :
 Calls Tryz.prog 68 #[.pointer (some ⟨g, 0, none⟩), .int .i64 a, .int .i64 b] w fun e w' => e = .returned (.bool (cget M a b).isSome) ∧ GrTo balS.cod 169 g (cdel M a b) F w w' := by
 have hget := grid_GetE_V h ha hb
 obtain ⟨t, ht⟩ : ∃ t, t = (cget M a b).getD balS.zero := ⟨_, rfl⟩
 rw [← ht] at hget
 obtain ⟨ug, hug⟩ : ∃ u, u = balS.getW w t := ⟨_, rfl⟩
 rw [← hug] at hget
 obtain ⟨uw, hu⟩ : ∃ u, u = ug.alloc (balS.obj t) := ⟨_, rfl⟩
 have hbg : Below w.heap.size w ug := by rw [hug]; exact balS.getW_below w t
 have hbu : Below w.heap.size w uw := by rw [hu]; exact hbg.alloc hbg.size _
 have h : GrAt balS.cod 169 g M F uw := h.keep (Grow.of_below hbu) (fun k hk => hbu.block k (h.2.2.1 k hk))
 have HBU := Lib.hid hbu
 have HUW := Lib.hid hu
 clear ht hug hu hbu hbg
 by_cases hsome : (cget M a b).isSome = true
 · rw [hsome] at hget
   obtain ⟨hs, hFg, hFl, hmem⟩ := h
   obtain ⟨u, hu⟩ := Option.isSome_iff_exists.1 hsome
   have hM0 : M ≠ [] := List.ne_nil_of_mem (hs.get.1 hu)
   obtain ⟨B, C, rm, cm, hh, hM, h1, h2⟩ := hmem.resolve_left (fun h => hM0 h.1)
   obtain ⟨k0, k1, k2, f0, f1, f2⟩ := cells3 hh
   have hpos := List.length_pos_iff.2 hM0
   have hra := row_length M a
   have hcb := colU_length M b
   have hr0 : rowOf M a ≠ [] := List.ne_nil_of_mem ((mem_rowOf (x := (b, u))).2 (hs.get.1 hu))
   have hc0 : colU M b ≠ [] := List.ne_nil_of_mem ((mem_colU (x := (a, ()))).2 ⟨u, (mem_colOf (x := (a, u))).2 (hs.get.1 hu)⟩)
   have W1 : IntKind.i64.wrap ((M.length : Int) - 1) = (M.length : Int) - 1 := IntWalk.i64_in _ (by omega)
   obtain ⟨wy, hwy⟩ : ∃ wy, wy = uw.setCell ⟨g, 2, none⟩ (.int .i64 ((M.length : Int) - 1)) := ⟨_, rfl⟩
   have hgy : wy.heap[g]? = some (.cells #[.map (some B), .map (some C), .int .i64 ((M.length : Int) - 1)] 169 (0, 0)) := by rw [hwy]; exact (set3 hh).2.2
   have hMy : MapsAt balS.cod B C rm cm M wy := by rw [hwy]; exact hM.set hh
   have hoy : Only F (fun _ => False) uw wy := by rw [hwy]; exact only_set hFg
   have hn : (M.length : Int) - 1 = (cdel M a b).length := by have := hs.length_del a b; rw [if_pos hsome] at this; omega
   have htC := take_U hMy.col (a := b) (b := a) hc0 (by omega) hb ha
   rw [colU_del hs a b] at htC
   have htR : ∀ w2, OutAt balS.cod B rm (rowOf M) w2 → Calls Tryz.prog 110 #[.map (some B), .int .i64 a, .int .i64 b] w2 fun e w' => e = .returned (.tuple #[]) ∧ OutTo balS.cod B rm (rowOf (cdel M a b)) w2 w' := fun w2 h2 => by
    have := take_V h2 (a := a) (b := b) hr0 (by omega) ha hb
    rw [rowOf_del hs] at this
    exact this
   have hkeep : ∀ w2, OutTo codU C cm (colU (cdel M a b)) wy w2 → w2.cell? ⟨g, 0, none⟩ = some (.map (some B)) ∧ OutAt balS.cod B rm (rowOf M) w2 := fun w2 ⟨cm', c1, c2, c3⟩ => by
    have hglt : g < wy.heap.size := (Array.getElem?_eq_some_iff.1 hgy).1
    refine ⟨?_, hMy.row.block (fun k hk => c2.block k (hMy.row.lt hk) (hMy.off k hk) (fun h => h))⟩
    rw [World.cell?_of_block (c2.block g hglt (fun hk => hMy.notg hgy (.inr hk) rfl) (fun h => h))]
    exact (cells3 hgy).1
   rw [hwy] at htC hkeep
   have HG := Lib.hid hget
   have HLC := Lib.hid htC
   have HLR := Lib.hid htR
   have HKP := Lib.hid hkeep
   have HW := Lib.hid hwy
   have HFIN := Lib.hid (And.intro hoy (And.intro hgy (And.intro hMy (And.intro (hs.del a b) (And.intro hn (And.intro hFg (And.intro hFl (And.intro (fun k hk => Or.inl (b := uw.heap.size ≤ k) (h1 k hk)) (fun k hk => Or.inl (b := uw.heap.size ≤ k) (h2 k hk))))))))))
   clear htC htR hkeep hwy hoy hgy hMy hh hM hs hn hFg hFl h1 h2 hra hcb ha hb hget hu hM0 hmem hr0 hc0
   rw [hsome]
   clear hsome
   go_enter Tryz.func68, Tryz.ntmps68
   go_wp2_with (first
    | (go_at_call 59; refine HG.out.mono ?_; rintro e w2 ⟨rfl, hw2⟩; rw [hw2]; clear hw2 w2)
    | (refine wpl_allocS (s := balS) rfl rfl rfl ?_)
    | (refine wpl_storeS (s := balS) (t := t) (b := ug.heap.size) _ _ rfl rfl rfl rfl rfl (World.alloc_heap_new ug _) (zeroS balS) ?_; rw [newS, ← HUW.out])
    | (go_at_call 109; refine HLC.out.mono ?_; rintro e w2 ⟨rfl, hout⟩; obtain ⟨k9, hrow⟩ := HKP.out w2 hout; have HOUT := Lib.hid hout; have HROW := Lib.hid hrow; clear hout hrow)
    | (go_at_call 110; refine (HLR.out _ HROW.out).mono ?_; rintro e w3 ⟨rfl, hout3⟩; have HOUT3 := Lib.hid hout3; clear hout3)
    | fail)
   go_ret
   refine ⟨rfl, ?_⟩
   obtain ⟨hoy, hgy, hMy, hs', hn, hFg, hFl, h1, h2⟩ := HFIN.out
   have hc := HOUT.out
   rw [← HW.out] at hc
   exact GrTo.later HBU.out (maps_to hoy hgy hMy hs' hn hFg hFl h1 h2 hc (fun _ => HOUT3.out))
 · have hnone : (cget M a b).isSome = false := by simpa using hsome
   have hdel : cdel M a b = M := cdel_none (by simpa using hsome)
   rw [hnone] at hget
   rw [hnone, hdel]
   have HG := Lib.hid hget
   have HH := Lib.hid h
   clear hget h hsome hnone hdel ha hb
   go_enter Tryz.func68, Tryz.ntmps68
   go_wp2_with (first
    | (go_at_call 59; refine HG.out.mono ?_; rintro e w2 ⟨rfl, hw2⟩; rw [hw2]; clear hw2 w2)
    | (refine wpl_allocS (s := balS) rfl rfl rfl ?_)
    | (refine wpl_storeS (s := balS) (t := t) (b := ug.heap.size) _ _ rfl rfl rfl rfl rfl (World.alloc_heap_new ug _) (zeroS balS) ?_; rw [newS, ← HUW.out])
    | fail)
   go_ret
   exact ⟨rfl, GrTo.later HBU.out ⟨F, HH.out, fun k hk => .inl hk, Only.refl _ _ _⟩⟩
set_option maxRecDepth 100000 in
set_option maxHeartbeats 4000000 in
attribute [local go_sem ↓] loadSt_D_hide in
theorem grid_Set_D {g : Nat} {M : Cls Dlg} {F : FP} {w : World} (h : GrAt dlgS.cod 161 g M F w) (hlen : M.length ≤ 1000000) {a b : Int} (ha : (Lit.int .i64 a).wf = true) (hb : (Lit.int .i64 b).wf = true) (v : Dlg) :
 Calls Tryz.prog 73 #[.pointer (some ⟨g, 0, none⟩), .int .i64 a, .int .i64 b, .agg (dlgS.f v).toArray] w fun e w' => e = .returned (.tuple #[]) ∧ GrTo dlgS.cod 161 g (cput M a b v) F w w' := by
 have hu1 : Tryz.prog.underlying 158 = some (.map 3 157) := Tryz.underlying158
 have hu2 : Tryz.prog.underlying 157 = some (.map 3 93) := Tryz.underlying157
 have hz1 : ∀ w, (zeroValue 157).run Tryz.prog w = .ok (codM.enc none) w := fun w => Tryz.zeroValue157 w
 have hz2 : ∀ w, (zeroValue 93).run Tryz.prog w = .ok (dlgS.cod.enc dlgS.zero) w := fun w => dlgS.zeroRun w
 have hmm := @run_makeMap Tryz.prog
 obtain ⟨uw, hu⟩ : ∃ u, u = w.alloc (.cells (dlgS.f v).toArray 93) := ⟨_, rfl⟩
 have hbu : Below w.heap.size w uw := by rw [hu]; exact (Below.refl _ w).alloc (Nat.le_refl _) _
 obtain ⟨vb, hvb⟩ : ∃ vb, vb = w.heap.size := ⟨_, rfl⟩
 have hvF : ¬ F vb := fun hk => by have := h.2.2.1 vb hk; omega
 have hvl : vb < uw.heap.size := by rw [hu, hvb]; simp
 have hrg : uw.rangeAt vb 0 (dlgS.f v) := by rw [hu, hvb]; exact atS dlgS w v
 have h : GrAt dlgS.cod 161 g M F uw := h.keep (Grow.of_below hbu) (fun k hk => hbu.block k (h.2.2.1 k hk))
 have HBU := Lib.hid hbu
 have HU := Lib.hid (And.intro hu hvb)
 have HV := Lib.hid (And.intro hvF (And.intro hvl hrg))
 clear hu hbu hvb hvF hvl hrg
 obtain ⟨hs, hFg, hFl, hmem⟩ := h
 have hkey : ∃ (mv : Option Nat) (q : Bool), uw.cell? ⟨g, 0, none⟩ = some (.map mv) ∧ (∀ uw, (binOp .eql 158 (.map mv) (.map Option.none)).run Tryz.prog uw = .ok (.bool q) uw) ∧
  ((q = true ∧ M = [] ∧ uw.heap[g]? = some (.cells #[.map none, .map none, .int .i64 0] 161 (0, 0))) ∨
   (q = false ∧ ∃ B C rm cm, uw.heap[g]? = some (.cells #[.map (some B), .map (some C), .int .i64 M.length] 161 (0, 0)) ∧ MapsAt dlgS.cod B C rm cm M uw ∧ (∀ k, oblk B rm k → F k) ∧ (∀ k, oblk C cm k → F k))) := by
  rcases hmem with ⟨e, hh⟩ | ⟨B, C, rm, cm, hh, h⟩
  · exact ⟨none, true, (cells3 hh).1, fun uw => by kernel_rfl, .inl ⟨rfl, e, hh⟩⟩
  · exact ⟨some B, false, (cells3 hh).1, fun uw => by kernel_rfl, .inr ⟨rfl, B, C, rm, cm, hh, h⟩⟩
 obtain ⟨mv, q, kq, hq, hmem⟩ := hkey
 have HM := Lib.hid hmem
 have HFl := Lib.hid hFl
 have HFg := Lib.hid hFg
 clear hmem hFl hFg
 go_enter Tryz.func73, Tryz.ntmps73
 go_upto_region 1 with fail
 rw [← HU.out.1, ← HU.out.2]
 go_upto_if 16 with fail
 clear hq kq
 go_cut [] (fun wx => ∃ B C rm cm, wx.heap[g]? = some (.cells #[.map (some B), .map (some C), .int .i64 M.length] 161 (0, 0)) ∧ MapsAt dlgS.cod B C rm cm M wx ∧ Only F (fun _ => False) uw wx ∧ (∀ k, oblk B rm k → F k ∨ uw.heap.size ≤ k) ∧ (∀ k, oblk C cm k → F k ∨ uw.heap.size ≤ k))
 case first =>
  rcases HM.out with ⟨rfl, e, hh⟩ | ⟨rfl, B, C, rm, cm, hh, hM, h1, h2⟩
  · obtain ⟨k0, k1, k2, f0, f1, f2⟩ := cells3 hh
    have hglt : g < uw.heap.size := (Array.getElem?_eq_some_iff.1 hh).1
    have HH := Lib.hid hh
    have HGL := Lib.hid hglt
    have HE := Lib.hid e
    clear hh e
    go_wp2_with fail
    go_meet
    obtain rfl := HE.out
    obtain ⟨v0, hv0⟩ : ∃ v0, v0 = (uw.setCell ⟨g, 0, none⟩ (.map (some uw.heap.size))).setCell ⟨g, 1, none⟩ (.map (some (uw.heap.size + 1))) := ⟨_, rfl⟩
    have hvs : v0.heap.size = uw.heap.size := by rw [hv0]; simp [World.setCell]
    have hg3 : v0.heap[g]? = some (.cells #[.map (some uw.heap.size), .map (some (uw.heap.size + 1)), .int .i64 0] 161 (0, 0)) := by rw [hv0]; exact (set3 (set3 HH.out).1).2.1
    have hov : Only F (fun _ => False) uw v0 := by rw [hv0]; exact only_trans (only_set HFg.out) (only_set HFg.out)
    rw [← hv0]
    clear hv0
    have hr : OutAt dlgS.cod uw.heap.size [] (rowOf []) ((v0.alloc (.map #[] 0)).alloc (.map #[] 0)) := by
     have := OutAt.made dlgS.cod v0
     rw [hvs] at this
     exact (this.block (fun k hk => Below.heap_alloc _ _ k (this.lt hk))).congr (fun _ => rfl)
    have hc : OutAt codU (uw.heap.size + 1) [] (colU ([] : Cls Dlg)) ((v0.alloc (.map #[] 0)).alloc (.map #[] 0)) := by
     have := OutAt.made codU (v0.alloc (.map #[] 0))
     rw [World.size_alloc, hvs] at this
     exact this.congr (fun _ => rfl)
    have hob : ∀ B k, oblk B [] k → k = B := fun B k hk => hk.elim id (fun ⟨a, ha⟩ => by simp [sget] at ha)
    have hM1 : MapsAt dlgS.cod uw.heap.size (uw.heap.size + 1) [] [] ([] : Cls Dlg) ((v0.alloc (.map #[] 0)).alloc (.map #[] 0)) := ⟨hr, hc, fun k hk hk' => by have := hob _ _ hk; have := hob _ _ hk'; omega⟩
    have hg1 : ((v0.alloc (.map #[] 0)).alloc (.map #[] 0)).heap[g]? = some (.cells #[.map (some uw.heap.size), .map (some (uw.heap.size + 1)), .int .i64 0] 161 (0, 0)) := by
     rw [Below.heap_alloc _ _ g (by simp; omega), Below.heap_alloc _ _ g (by omega)]; exact hg3
    refine ⟨_, _, _, _, hg1, hM1, ?_, fun k hk => .inr ?_, fun k hk => .inr ?_⟩
    · exact only_trans hov (only_trans (only_alloc _) (only_alloc _))
    · have := hob _ _ hk; omega
    · have := hob _ _ hk; omega
  · obtain ⟨k0, k1, k2, f0, f1, f2⟩ := cells3 hh
    have HH := Lib.hid hh
    have HMM := Lib.hid hM
    have H1 := Lib.hid h1
    have H2 := Lib.hid h2
    clear hh hM h1 h2
    go_wp2_with fail
    go_meet
    exact ⟨B, C, rm, cm, HH.out, HMM.out, Only.refl _ _ _, fun k hk => .inl (H1.out k hk), fun k hk => .inl (H2.out k hk)⟩
 case rest =>
  obtain ⟨B, C, rm, cm, hh, hM, ho, h1, h2⟩ := hcut
  have hrg : wc.rangeAt vb 0 (dlgS.f v) := rangeAt_block HV.out.2.2 (ho.block vb HV.out.2.1 HV.out.1 (fun h => h))
  have HRG := Lib.hid hrg
  obtain ⟨k0, k1, k2, f0, f1, f2⟩ := cells3 hh
  have hrl := outer_length hM.row hs
  have hcl := cols_length hM.col
  have hra := row_length M a
  have hcb := colU_length M b
  have hFl := HFl.out
  have hFg := HFg.out
  obtain ⟨mi, hl1, hl2⟩ : ∃ mi, (Instr.lookup 158 (.map (some B)) (.int .i64 a) false).run Tryz.prog wc = .ok (.map mi) wc ∧
   (Instr.lookup 157 (.map mi) (.int .i64 b) true).run Tryz.prog wc = .ok (.tuple #[dlgS.cod.enc ((cget M a b).getD dlgS.zero), .bool (cget M a b).isSome]) wc := by
   have hl := hM.row.map.look (z0 := none) hu1 (hz1 wc) ha
   cases hsg : sget rm a with
   | none =>
    rw [hsg] at hl
    refine ⟨none, hl, ?_⟩
    have hr := hM.row.isNil hsg
    have : cget M a b = none := by rw [cget, hr]; rfl
    rw [this]
    exact nil_look hu2 (hz2 wc) hb true
   | some x =>
    obtain ⟨b', rfl, _, _, h3⟩ := hM.row.at_ a x hsg
    rw [hsg] at hl
    exact ⟨some b', hl, h3.look_ok hu2 (hz2 wc) hb⟩
  obtain ⟨t, ht⟩ : ∃ t, t = (cget M a b).getD dlgS.zero := ⟨_, rfl⟩
  rw [← ht] at hl2
  obtain ⟨wd, hwd⟩ : ∃ wd, wd = wc.alloc (dlgS.obj t) := ⟨_, rfl⟩
  have hbd : Below wc.heap.size wc wd := by rw [hwd]; exact (Below.refl _ wc).alloc (Nat.le_refl _) _
  have hh := (hbd.block g (Array.getElem?_eq_some_iff.1 hh).1).trans hh
  have hM : MapsAt dlgS.cod B C rm cm M wd := hM.block (fun k hk => hbd.block k (hk.elim hM.row.lt hM.col.lt))
  have ho : Only F (fun _ => False) uw wd := only_trans ho (by rw [hwd]; exact only_alloc _)
  obtain ⟨m0, m1, m2, n0, n1, n2⟩ := cells3 hh
  have hrg : wd.rangeAt vb 0 (dlgS.f v) := rangeAt_block HV.out.2.2 (ho.block vb HV.out.2.1 HV.out.1 (fun h => h))
  have HRG := Lib.hid hrg
  have HWD := Lib.hid hwd
  clear ht hwd hbd
  by_cases hsome : (cget M a b).isSome = true
  · -- the cell was there
    rw [hsome] at hl2
    have hcol : colU (cput M a b v) = colU M := by
     rw [← colU_put hs]
     funext j
     split
     · rename_i e; subst e
       obtain ⟨u, hu⟩ := Option.isSome_iff_exists.1 hsome
       refine ((srt_colU hs j).put _ _).ext (srt_colU hs j) (fun x => ?_)
       rw [mem_sput]
       constructor
       · rintro (e | e)
         · subst e; exact mem_colU.2 ⟨u, mem_colOf.2 (hs.get.1 hu)⟩
         · exact e.1
       · intro hx
         by_cases e : x.1 = a
         · exact .inl (by rw [← e])
         · exact .inr ⟨hx, e⟩
     · rfl
    have hn : (M.length : Int) = (cput M a b v).length := by rw [hs.length_put, if_pos hsome]
    have hlay := lay_D (w := wd.drew) (hM.row.block (fun k _ => rfl)) (by unfold maxLen; omega) (a := a) (b := b) (by unfold maxLen; omega) ha hb v
    rw [rowOf_put hs] at hlay
    have hks : ∀ w2, OutTo dlgS.cod B rm (rowOf (cput M a b v)) wd.drew w2 → w2.cell? ⟨g, 0, none⟩ = some (.map (some B)) ∧ (loadSt_D (.pointer (some ⟨vb, 0, none⟩))).run Tryz.prog w2 = .ok (.agg (dlgS.f v).toArray) w2 := fun w2 ⟨rm', r1, r2, r3⟩ => by
     have hgl : g < wd.heap.size := (Array.getElem?_eq_some_iff.1 hh).1
     refine ⟨?_, run_loadSt_D (rangeAt_block (w := wd) hrg (r2.block vb (Nat.lt_of_lt_of_le HV.out.2.1 ho.grow.size) (fun hk => (h1 vb hk).elim HV.out.1 (fun h => by have := HV.out.2.1; omega)) (fun h => h)))⟩
     rw [World.cell?_of_block (r2.block g hgl (fun hk => hM.notg hh (.inl hk) rfl) (fun h => h))]
     exact (cells3 hh).1
    have HKS := Lib.hid hks
    have KD := Lib.hid (show wd.drew.cell? ⟨g, 0, none⟩ = some (.map (some B)) ∧ (loadSt_D (.pointer (some ⟨vb, 0, none⟩))).run Tryz.prog wd.drew = .ok (.agg (dlgS.f v).toArray) wd.drew from ⟨(cells3 hh).1, run_loadSt_D hrg⟩)
    clear hks
    have HLAY := Lib.hid hlay
    have HL1 := Lib.hid hl1
    have HL2 := Lib.hid hl2
    have HFIN := Lib.hid (And.intro (show Only F (fun _ => False) uw wd.drew from only_trans ho (Only.of_later (Below.refl _ wd).drew)) (And.intro (show wd.drew.heap[g]? = _ from hh) (And.intro (show MapsAt dlgS.cod B C rm cm M wd.drew from hM.block (fun k _ => rfl)) (And.intro (hs.put a b v) (And.intro hn (And.intro hFg (And.intro hFl (And.intro h1 (And.intro h2 hcol)))))))))
    clear hrg hlay hl1 hl2 ho hh hM hs hn hFg hFl h1 h2 hcol hsome hrl hcl hra hcb hlen ha hb hu1 hu2 hz1 hz2 hmm
    have tok1 : True := trivial
    go_wp2_with (first
     | (at_lookup; have _t := tok1; refine wpl_look rfl _ _ _ _ rfl rfl rfl HL1.out ?_; clear tok1)
     | (at_lookup; refine wpl_look rfl _ _ _ _ rfl rfl rfl HL2.out ?_)
     | (refine wpl_allocS (s := dlgS) rfl rfl rfl ?_)
     | (refine wpl_storeS (s := dlgS) (t := t) (b := wc.heap.size) _ _ rfl rfl rfl rfl rfl (World.alloc_heap_new wc _) (zeroS dlgS) ?_; rw [newS, ← HWD.out])
     | fail)
    go_region_held3 (fun w' => w'.cell? ⟨g, 0, none⟩ = some (.map (some B)) ∧ (loadSt_D (.pointer (some ⟨vb, 0, none⟩))).run Tryz.prog w' = .ok (.agg (dlgS.f v).toArray) w') (first | exact KD.out | exact K2.out) (first
     | (go_at_call 112; refine HLAY.out.mono ?_; rintro e w2 ⟨rfl, hout⟩; have K2 := Lib.hid (HKS.out w2 hout); have HOUT := Lib.hid hout; clear hout)
     | fail)
    all_goals go_wp2_with fail
    refine bodyPost_end (results_none rfl _ _ _) rfl ⟨rfl, GrTo.later HBU.out ?_⟩
    obtain ⟨ho, hh, hM, hs', hn, hFg, hFl, h1, h2, hcol⟩ := HFIN.out
    exact row_to ho hh hM hs' hn hFg hFl h1 h2 hcol HOUT.out
  · -- it was not
    have hnone : (cget M a b).isSome = false := by simpa using hsome
    rw [hnone] at hl2
    have W1 : IntKind.i64.wrap ((M.length : Int) + 1) = (M.length : Int) + 1 := IntWalk.i64_in _ (by omega)
    obtain ⟨wy, hwy⟩ : ∃ wy, wy = wd.setCell ⟨g, 2, none⟩ (.int .i64 ((M.length : Int) + 1)) := ⟨_, rfl⟩
    have hgy : wy.heap[g]? = some (.cells #[.map (some B), .map (some C), .int .i64 ((M.length : Int) + 1)] 161 (0, 0)) := by rw [hwy]; exact (set3 hh).2.2
    have hMy : MapsAt dlgS.cod B C rm cm M wy := by rw [hwy]; exact hM.set hh
    have hoy : Only F (fun _ => False) uw wy := only_trans ho (by rw [hwy]; exact only_set hFg)
    have hn : (M.length : Int) + 1 = (cput M a b v).length := by rw [hs.length_put, if_neg hsome]; simp
    have hlayC := lay_U hMy.col (by unfold maxLen; omega) (a := b) (b := a) (by unfold maxLen; omega) hb ha ()
    rw [colU_put hs a b v] at hlayC
    have hlayR : ∀ w2, OutAt dlgS.cod B rm (rowOf M) w2 → Calls Tryz.prog 112 #[.map (some B), .int .i64 a, .int .i64 b, .agg (dlgS.f v).toArray] w2 fun e w' => e = .returned (.tuple #[]) ∧ OutTo dlgS.cod B rm (rowOf (cput M a b v)) w2 w' := fun w2 h2 => by
     have := lay_D h2 (by unfold maxLen; omega) (a := a) (b := b) (by unfold maxLen; omega) ha hb v
     rw [rowOf_put hs] at this
     exact this
    have hkeep : ∀ w2, OutTo codU C cm (colU (cput M a b v)) wy w2 → w2.cell? ⟨g, 0, none⟩ = some (.map (some B)) ∧ OutAt dlgS.cod B rm (rowOf M) w2 ∧ w2.rangeAt vb 0 (dlgS.f v) := fun w2 ⟨cm', c1, c2, c3⟩ => by
     have hglt : g < wy.heap.size := (Array.getElem?_eq_some_iff.1 hgy).1
     refine ⟨?_, hMy.row.block (fun k hk => c2.block k (hMy.row.lt hk) (hMy.off k hk) (fun h => h)), rangeAt_block (w := wy) (rangeAt_block HV.out.2.2 (hoy.block vb HV.out.2.1 HV.out.1 (fun h => h))) (c2.block vb (Nat.lt_of_lt_of_le HV.out.2.1 hoy.grow.size) (fun hk => (h2 vb hk).elim HV.out.1 (fun h => by have := HV.out.2.1; omega)) (fun h => h))⟩
     rw [World.cell?_of_block (c2.block g hglt (fun hk => hMy.notg hgy (.inr hk) rfl) (fun h => h))]
     exact (cells3 hgy).1
    rw [hwy] at hlayC hkeep
    have hke : ∀ w2, OutTo codU C cm (colU (cput M a b v)) (wd.setCell ⟨g, 2, none⟩ (.int .i64 ((M.length : Int) + 1))) w2 → (w2.cell? ⟨g, 0, none⟩ = some (.map (some B)) ∧ (loadSt_D (.pointer (some ⟨vb, 0, none⟩))).run Tryz.prog w2 = .ok (.agg (dlgS.f v).toArray) w2) ∧ ∀ w3, OutTo dlgS.cod B rm (rowOf (cput M a b v)) w2 w3 → w3.cell? ⟨g, 0, none⟩ = some (.map (some B)) ∧ (loadSt_D (.pointer (some ⟨vb, 0, none⟩))).run Tryz.prog w3 = .ok (.agg (dlgS.f v).toArray) w3 := fun w2 ho2 => by
     obtain ⟨e1, e2, e3⟩ := hkeep w2 ho2
     refine ⟨⟨e1, run_loadSt_D e3⟩, fun w3 ⟨rm', r1, r2, r3⟩ => ?_⟩
     have hsz : wd.heap.size ≤ w2.heap.size := by obtain ⟨_, _, q, _⟩ := ho2; have := q.grow.size; simpa [World.setCell] using this
     have hgl : g < wd.heap.size := (Array.getElem?_eq_some_iff.1 hh).1
     refine ⟨?_, run_loadSt_D (rangeAt_block e3 (r2.block vb (by have := ho.grow.size; have := HV.out.2.1; omega) (fun hk => (h1 vb hk).elim HV.out.1 (fun h => by have := HV.out.2.1; omega)) (fun h => h)))⟩
     rw [World.cell?_of_block (r2.block g (by omega) (fun hk => hM.notg hh (.inl hk) rfl) (fun h => h))]
     exact e1
    have HKE := Lib.hid hke
    clear hke
    have HLC := Lib.hid hlayC
    have HLR := Lib.hid hlayR
    have HKP := Lib.hid hkeep
    have HL1 := Lib.hid hl1
    have HL2 := Lib.hid hl2
    have HW := Lib.hid hwy
    have HFIN := Lib.hid (And.intro hoy (And.intro hgy (And.intro hMy (And.intro (hs.put a b v) (And.intro hn (And.intro hFg (And.intro hFl (And.intro h1 h2))))))))
    clear hrg hlayC hlayR hkeep hl1 hl2 hwy hoy hgy hMy ho hh hM hs hn hFg hFl h1 h2 hsome hnone hrl hcl hra hcb ha hb hu1 hu2 hz1 hz2 hmm
    have tok1 : True := trivial
    go_wp2_with (first
     | (at_lookup; have _t := tok1; refine wpl_look rfl _ _ _ _ rfl rfl rfl HL1.out ?_; clear tok1)
     | (at_lookup; refine wpl_look rfl _ _ _ _ rfl rfl rfl HL2.out ?_)
     | (refine wpl_allocS (s := dlgS) rfl rfl rfl ?_)
     | (refine wpl_storeS (s := dlgS) (t := t) (b := wc.heap.size) _ _ rfl rfl rfl rfl rfl (World.alloc_heap_new wc _) (zeroS dlgS) ?_; rw [newS, ← HWD.out])
     | (go_at_call 106; refine HLC.out.mono ?_; rintro e w2 ⟨rfl, hout⟩; obtain ⟨k9, hrow, hrg2⟩ := HKP.out w2 hout; have HRG2 := Lib.hid hrg2; clear hrg2; have HOUT := Lib.hid hout; have HROW := Lib.hid hrow; clear hout hrow)
     | fail)
    go_region_held3 (fun w' => w'.cell? ⟨g, 0, none⟩ = some (.map (some B)) ∧ (loadSt_D (.pointer (some ⟨vb, 0, none⟩))).run Tryz.prog w' = .ok (.agg (dlgS.f v).toArray) w') (first | exact HKE.out w2.drew HOUT.out.drew |>.1 | exact K3.out) (first
     | (go_at_call 112; refine (HLR.out _ (HKP.out _ HOUT.out.drew).2.1).mono ?_; rintro e w3 ⟨rfl, hout3⟩; have K3 := Lib.hid ((HKE.out w2.drew HOUT.out.drew).2 w3 hout3); have HOUT3 := Lib.hid hout3; clear hout3)
     | fail)
    all_goals go_wp2_with fail
    refine bodyPost_end (results_none rfl _ _ _) rfl ⟨rfl, GrTo.later HBU.out ?_⟩
    obtain ⟨hoy, hgy, hMy, hs', hn, hFg, hFl, h1, h2⟩ := HFIN.out
    have hc := HOUT.out
    rw [← HW.out] at hc
    have hc := hc.drew
    exact maps_to hoy hgy hMy hs' hn hFg hFl h1 h2 hc (fun _ => HOUT3.out)
set_option maxRecDepth 100000 in
set_option maxHeartbeats 4000000 in
theorem grid_Del_D {g : Nat} {M : Cls Dlg} {F : FP} {w : World} (h : GrAt dlgS.cod 161 g M F w) (hlen : M.length ≤ 1000000) {a b : Int} (ha : (Lit.int .i64 a).wf = true) (hb : (Lit.int .i64 b).wf = true) :
 Calls Tryz.prog 76 #[.pointer (some ⟨g, 0, none⟩), .int .i64 a, .int .i64 b] w fun e w' => e = .returned (.bool (cget M a b).isSome) ∧ GrTo dlgS.cod 161 g (cdel M a b) F w w' := by
 have hget := grid_GetE_D h ha hb
 obtain ⟨t, ht⟩ : ∃ t, t = (cget M a b).getD dlgS.zero := ⟨_, rfl⟩
 rw [← ht] at hget
 obtain ⟨ug, hug⟩ : ∃ u, u = dlgS.getW w t := ⟨_, rfl⟩
 rw [← hug] at hget
 obtain ⟨uw, hu⟩ : ∃ u, u = ug.alloc (dlgS.obj t) := ⟨_, rfl⟩
 have hbg : Below w.heap.size w ug := by rw [hug]; exact dlgS.getW_below w t
 have hbu : Below w.heap.size w uw := by rw [hu]; exact hbg.alloc hbg.size _
 have h : GrAt dlgS.cod 161 g M F uw := h.keep (Grow.of_below hbu) (fun k hk => hbu.block k (h.2.2.1 k hk))
 have HBU := Lib.hid hbu
 have HUW := Lib.hid hu
 clear ht hug hu hbu hbg
 by_cases hsome : (cget M a b).isSome = true
 · rw [hsome] at hget
   obtain ⟨hs, hFg, hFl, hmem⟩ := h
   obtain ⟨u, hu⟩ := Option.isSome_iff_exists.1 hsome
   have hM0 : M ≠ [] := List.ne_nil_of_mem (hs.get.1 hu)
   obtain ⟨B, C, rm, cm, hh, hM, h1, h2⟩ := hmem.resolve_left (fun h => hM0 h.1)
   obtain ⟨k0, k1, k2, f0, f1, f2⟩ := cells3 hh
   have hpos := List.length_pos_iff.2 hM0
   have hra := row_length M a
   have hcb := colU_length M b
   have hr0 : rowOf M a ≠ [] := List.ne_nil_of_mem ((mem_rowOf (x := (b, u))).2 (hs.get.1 hu))
   have hc0 : colU M b ≠ [] := List.ne_nil_of_mem ((mem_colU (x := (a, ()))).2 ⟨u, (mem_colOf (x := (a, u))).2 (hs.get.1 hu)⟩)
   have W1 : IntKind.i64.wrap ((M.length : Int) - 1) = (M.length : Int) - 1 := IntWalk.i64_in _ (by omega)
   obtain ⟨wy, hwy⟩ : ∃ wy, wy = uw.setCell ⟨g, 2, none⟩ (.int .i64 ((M.length : Int) - 1)) := ⟨_, rfl⟩
   have hgy : wy.heap[g]? = some (.cells #[.map (some B), .map (some C), .int .i64 ((M.length : Int) - 1)] 161 (0, 0)) := by rw [hwy]; exact (set3 hh).2.2
   have hMy : MapsAt dlgS.cod B C rm cm M wy := by rw [hwy]; exact hM.set hh
   have hoy : Only F (fun _ => False) uw wy := by rw [hwy]; exact only_set hFg
   have hn : (M.length : Int) - 1 = (cdel M a b).length := by have := hs.length_del a b; rw [if_pos hsome] at this; omega
   have htC := take_U hMy.col (a := b) (b := a) hc0 (by omega) hb ha
   rw [colU_del hs a b] at htC
   have htR : ∀ w2, OutAt dlgS.cod B rm (rowOf M) w2 → Calls Tryz.prog 114 #[.map (some B), .int .i64 a, .int .i64 b] w2 fun e w' => e = .returned (.tuple #[]) ∧ OutTo dlgS.cod B rm (rowOf (cdel M a b)) w2 w' := fun w2 h2 => by
    have := take_D h2 (a := a) (b := b) hr0 (by omega) ha hb
    rw [rowOf_del hs] at this
    exact this
   have hkeep : ∀ w2, OutTo codU C cm (colU (cdel M a b)) wy w2 → w2.cell? ⟨g, 0, none⟩ = some (.map (some B)) ∧ OutAt dlgS.cod B rm (rowOf M) w2 := fun w2 ⟨cm', c1, c2, c3⟩ => by
    have hglt : g < wy.heap.size := (Array.getElem?_eq_some_iff.1 hgy).1
    refine ⟨?_, hMy.row.block (fun k hk => c2.block k (hMy.row.lt hk) (hMy.off k hk) (fun h => h))⟩
    rw [World.cell?_of_block (c2.block g hglt (fun hk => hMy.notg hgy (.inr hk) rfl) (fun h => h))]
    exact (cells3 hgy).1
   rw [hwy] at htC hkeep
   have HG := Lib.hid hget
   have HLC := Lib.hid htC
   have HLR := Lib.hid htR
   have HKP := Lib.hid hkeep
   have HW := Lib.hid hwy
   have HFIN := Lib.hid (And.intro hoy (And.intro hgy (And.intro hMy (And.intro (hs.del a b) (And.intro hn (And.intro hFg (And.intro hFl (And.intro (fun k hk => Or.inl (b := uw.heap.size ≤ k) (h1 k hk)) (fun k hk => Or.inl (b := uw.heap.size ≤ k) (h2 k hk))))))))))
   clear htC htR hkeep hwy hoy hgy hMy hh hM hs hn hFg hFl h1 h2 hra hcb ha hb hget hu hM0 hmem hr0 hc0
   rw [hsome]
   clear hsome
   go_enter Tryz.func76, Tryz.ntmps76
   go_wp2_with (first
    | (go_at_call 49; refine HG.out.mono ?_; rintro e w2 ⟨rfl, hw2⟩; rw [hw2]; clear hw2 w2)
    | (refine wpl_allocS (s := dlgS) rfl rfl rfl ?_)
    | (refine wpl_storeS (s := dlgS) (t := t) (b := ug.heap.size) _ _ rfl rfl rfl rfl rfl (World.alloc_heap_new ug _) (zeroS dlgS) ?_; rw [newS, ← HUW.out])
    | (go_at_call 109; refine HLC.out.mono ?_; rintro e w2 ⟨rfl, hout⟩; obtain ⟨k9, hrow⟩ := HKP.out w2 hout; have HOUT := Lib.hid hout; have HROW := Lib.hid hrow; clear hout hrow)
    | (go_at_call 114; refine (HLR.out _ HROW.out).mono ?_; rintro e w3 ⟨rfl, hout3⟩; have HOUT3 := Lib.hid hout3; clear hout3)
    | fail)
   go_ret
   refine ⟨rfl, ?_⟩
   obtain ⟨hoy, hgy, hMy, hs', hn, hFg, hFl, h1, h2⟩ := HFIN.out
   have hc := HOUT.out
   rw [← HW.out] at hc
   exact GrTo.later HBU.out (maps_to hoy hgy hMy hs' hn hFg hFl h1 h2 hc (fun _ => HOUT3.out))
 · have hnone : (cget M a b).isSome = false := by simpa using hsome
   have hdel : cdel M a b = M := cdel_none (by simpa using hsome)
   rw [hnone] at hget
   rw [hnone, hdel]
   have HG := Lib.hid hget
   have HH := Lib.hid h
   clear hget h hsome hnone hdel ha hb
   go_enter Tryz.func76, Tryz.ntmps76
   go_wp2_with (first
    | (go_at_call 49; refine HG.out.mono ?_; rintro e w2 ⟨rfl, hw2⟩; rw [hw2]; clear hw2 w2)
    | (refine wpl_allocS (s := dlgS) rfl rfl rfl ?_)
    | (refine wpl_storeS (s := dlgS) (t := t) (b := ug.heap.size) _ _ rfl rfl rfl rfl rfl (World.alloc_heap_new ug _) (zeroS dlgS) ?_; rw [newS, ← HUW.out])
    | fail)
   go_ret
   exact ⟨rfl, GrTo.later HBU.out ⟨F, HH.out, fun k hk => .inl hk, Only.refl _ _ _⟩⟩
set_option maxRecDepth 100000 in
set_option maxHeartbeats 4000000 in
attribute [local go_sem ↓] loadSt_W_hide in
theorem grid_Set_W {g : Nat} {M : Cls Wgt} {F : FP} {w : World} (h : GrAt wgtS.cod 189 g M F w) (hlen : M.length ≤ 1000000) {a b : Int} (ha : (Lit.int .i64 a).wf = true) (hb : (Lit.int .i64 b).wf = true) (v : Wgt) :
 Calls Tryz.prog 113 #[.pointer (some ⟨g, 0, none⟩), .int .i64 a, .int .i64 b, .agg (wgtS.f v).toArray] w fun e w' => e = .returned (.tuple #[]) ∧ GrTo wgtS.cod 189 g (cput M a b v) F w w' := by
 have hu1 : Tryz.prog.underlying 187 = some (.map 3 195) := Tryz.underlying187
 have hu2 : Tryz.prog.underlying 195 = some (.map 3 82) := Tryz.underlying195
 have hz1 : ∀ w, (zeroValue 195).run Tryz.prog w = .ok (codM.enc none) w := fun w => Tryz.zeroValue195 w
 have hz2 : ∀ w, (zeroValue 82).run Tryz.prog w = .ok (wgtS.cod.enc wgtS.zero) w := fun w => wgtS.zeroRun w
 have hmm := @run_makeMap Tryz.prog
 obtain ⟨uw, hu⟩ : ∃ u, u = w.alloc (.cells (wgtS.f v).toArray 82) := ⟨_, rfl⟩
 have hbu : Below w.heap.size w uw := by rw [hu]; exact (Below.refl _ w).alloc (Nat.le_refl _) _
 obtain ⟨vb, hvb⟩ : ∃ vb, vb = w.heap.size := ⟨_, rfl⟩
 have hvF : ¬ F vb := fun hk => by have := h.2.2.1 vb hk; omega
 have hvl : vb < uw.heap.size := by rw [hu, hvb]; simp
 have hrg : uw.rangeAt vb 0 (wgtS.f v) := by rw [hu, hvb]; exact atS wgtS w v
 have h : GrAt wgtS.cod 189 g M F uw := h.keep (Grow.of_below hbu) (fun k hk => hbu.block k (h.2.2.1 k hk))
 have HBU := Lib.hid hbu
 have HU := Lib.hid (And.intro hu hvb)
 have HV := Lib.hid (And.intro hvF (And.intro hvl hrg))
 clear hu hbu hvb hvF hvl hrg
 obtain ⟨hs, hFg, hFl, hmem⟩ := h
 have hkey : ∃ (mv : Option Nat) (q : Bool), uw.cell? ⟨g, 0, none⟩ = some (.map mv) ∧ (∀ uw, (binOp .eql 187 (.map mv) (.map Option.none)).run Tryz.prog uw = .ok (.bool q) uw) ∧
  ((q = true ∧ M = [] ∧ uw.heap[g]? = some (.cells #[.map none, .map none, .int .i64 0] 189 (0, 0))) ∨
   (q = false ∧ ∃ B C rm cm, uw.heap[g]? = some (.cells #[.map (some B), .map (some C), .int .i64 M.length] 189 (0, 0)) ∧ MapsAt wgtS.cod B C rm cm M uw ∧ (∀ k, oblk B rm k → F k) ∧ (∀ k, oblk C cm k → F k))) := by
  rcases hmem with ⟨e, hh⟩ | ⟨B, C, rm, cm, hh, h⟩
  · exact ⟨none, true, (cells3 hh).1, fun uw => by kernel_rfl, .inl ⟨rfl, e, hh⟩⟩
  · exact ⟨some B, false, (cells3 hh).1, fun uw => by kernel_rfl, .inr ⟨rfl, B, C, rm, cm, hh, h⟩⟩
 obtain ⟨mv, q, kq, hq, hmem⟩ := hkey
 have HM := Lib.hid hmem
 have HFl := Lib.hid hFl
 have HFg := Lib.hid hFg
 clear hmem hFl hFg
 go_enter Tryz.func113, Tryz.ntmps113
 go_upto_region 1 with fail
 rw [← HU.out.1, ← HU.out.2]
 go_upto_if 16 with fail
 clear hq kq
 go_cut [] (fun wx => ∃ B C rm cm, wx.heap[g]? = some (.cells #[.map (some B), .map (some C), .int .i64 M.length] 189 (0, 0)) ∧ MapsAt wgtS.cod B C rm cm M wx ∧ Only F (fun _ => False) uw wx ∧ (∀ k, oblk B rm k → F k ∨ uw.heap.size ≤ k) ∧ (∀ k, oblk C cm k → F k ∨ uw.heap.size ≤ k))
 case first =>
  rcases HM.out with ⟨rfl, e, hh⟩ | ⟨rfl, B, C, rm, cm, hh, hM, h1, h2⟩
  · obtain ⟨k0, k1, k2, f0, f1, f2⟩ := cells3 hh
    have hglt : g < uw.heap.size := (Array.getElem?_eq_some_iff.1 hh).1
    have HH := Lib.hid hh
    have HGL := Lib.hid hglt
    have HE := Lib.hid e
    clear hh e
    go_wp2_with fail
    go_meet
    obtain rfl := HE.out
    obtain ⟨v0, hv0⟩ : ∃ v0, v0 = (uw.setCell ⟨g, 0, none⟩ (.map (some uw.heap.size))).setCell ⟨g, 1, none⟩ (.map (some (uw.heap.size + 1))) := ⟨_, rfl⟩
    have hvs : v0.heap.size = uw.heap.size := by rw [hv0]; simp [World.setCell]
    have hg3 : v0.heap[g]? = some (.cells #[.map (some uw.heap.size), .map (some (uw.heap.size + 1)), .int .i64 0] 189 (0, 0)) := by rw [hv0]; exact (set3 (set3 HH.out).1).2.1
    have hov : Only F (fun _ => False) uw v0 := by rw [hv0]; exact only_trans (only_set HFg.out) (only_set HFg.out)
    rw [← hv0]
    clear hv0
    have hr : OutAt wgtS.cod uw.heap.size [] (rowOf []) ((v0.alloc (.map #[] 0)).alloc (.map #[] 0)) := by
     have := OutAt.made wgtS.cod v0
     rw [hvs] at this
     exact (this.block (fun k hk => Below.heap_alloc _ _ k (this.lt hk))).congr (fun _ => rfl)
    have hc : OutAt codU (uw.heap.size + 1) [] (colU ([] : Cls Wgt)) ((v0.alloc (.map #[] 0)).alloc (.map #[] 0)) := by
     have := OutAt.made codU (v0.alloc (.map #[] 0))
     rw [World.size_alloc, hvs] at this
     exact this.congr (fun _ => rfl)
    have hob : ∀ B k, oblk B [] k → k = B := fun B k hk => hk.elim id (fun ⟨a, ha⟩ => by simp [sget] at ha)
    have hM1 : MapsAt wgtS.cod uw.heap.size (uw.heap.size + 1) [] [] ([] : Cls Wgt) ((v0.alloc (.map #[] 0)).alloc (.map #[] 0)) := ⟨hr, hc, fun k hk hk' => by have := hob _ _ hk; have := hob _ _ hk'; omega⟩
    have hg1 : ((v0.alloc (.map #[] 0)).alloc (.map #[] 0)).heap[g]? = some (.cells #[.map (some uw.heap.size), .map (some (uw.heap.size + 1)), .int .i64 0] 189 (0, 0)) := by
     rw [Below.heap_alloc _ _ g (by simp; omega), Below.heap_alloc _ _ g (by omega)]; exact hg3
    refine ⟨_, _, _, _, hg1, hM1, ?_, fun k hk => .inr ?_, fun k hk => .inr ?_⟩
    · exact only_trans hov (only_trans (only_alloc _) (only_alloc _))
    · have := hob _ _ hk; omega
    · have := hob _ _ hk; omega
  · obtain ⟨k0, k1, k2, f0, f1, f2⟩ := cells3 hh
    have HH := Lib.hid hh
    have HMM := Lib.hid hM
    have H1 := Lib.hid h1
    have H2 := Lib.hid h2
    clear hh hM h1 h2
    go_wp2_with fail
    go_meet
    exact ⟨B, C, rm, cm, HH.out, HMM.out, Only.refl _ _ _, fun k hk => .inl (H1.out k hk), fun k hk => .inl (H2.out k hk)⟩
 case rest =>
  obtain ⟨B, C, rm, cm, hh, hM, ho, h1, h2⟩ := hcut
  have hrg : wc.rangeAt vb 0 (wgtS.f v) := rangeAt_block HV.out.2.2 (ho.block vb HV.out.2.1 HV.out.1 (fun h => h))
  have HRG := Lib.hid hrg
  obtain ⟨k0, k1, k2, f0, f1, f2⟩ := cells3 hh
  have hrl := outer_length hM.row hs
  have hcl := cols_length hM.col
  have hra := row_length M a
  have hcb := colU_length M b
  have hFl := HFl.out
  have hFg := HFg.out
  obtain ⟨mi, hl1, hl2⟩ : ∃ mi, (Instr.lookup 187 (.map (some B)) (.int .i64 a) false).run Tryz.prog wc = .ok (.map mi) wc ∧
   (Instr.lookup 195 (.map mi) (.int .i64 b) true).run Tryz.prog wc = .ok (.tuple #[wgtS.cod.enc ((cget M a b).getD wgtS.zero), .bool (cget M a b).isSome]) wc := by
   have hl := hM.row.map.look (z0 := none) hu1 (hz1 wc) ha
   cases hsg : sget rm a with
   | none =>
    rw [hsg] at hl
    refine ⟨none, hl, ?_⟩
    have hr := hM.row.isNil hsg
    have : cget M a b = none := by rw [cget, hr]; rfl
    rw [this]
    exact nil_look hu2 (hz2 wc) hb true
   | some x =>
    obtain ⟨b', rfl, _, _, h3⟩ := hM.row.at_ a x hsg
    rw [hsg] at hl
    exact ⟨some b', hl, h3.look_ok hu2 (hz2 wc) hb⟩
  obtain ⟨t, ht⟩ : ∃ t, t = (cget M a b).getD wgtS.zero := ⟨_, rfl⟩
  rw [← ht] at hl2
  obtain ⟨wd, hwd⟩ : ∃ wd, wd = wc.alloc (wgtS.obj t) := ⟨_, rfl⟩
  have hbd : Below wc.heap.size wc wd := by rw [hwd]; exact (Below.refl _ wc).alloc (Nat.le_refl _) _
  have hh := (hbd.block g (Array.getElem?_eq_some_iff.1 hh).1).trans hh
  have hM : MapsAt wgtS.cod B C rm cm M wd := hM.block (fun k hk => hbd.block k (hk.elim hM.row.lt hM.col.lt))
  have ho : Only F (fun _ => False) uw wd := only_trans ho (by rw [hwd]; exact only_alloc _)
  obtain ⟨m0, m1, m2, n0, n1, n2⟩ := cells3 hh
  have hrg : wd.rangeAt vb 0 (wgtS.f v) := rangeAt_block HV.out.2.2 (ho.block vb HV.out.2.1 HV.out.1 (fun h => h))
  have HRG := Lib.hid hrg
  have HWD := Lib.hid hwd
  clear ht hwd hbd
  by_cases hsome : (cget M a b).isSome = true
  · -- the cell was there
    rw [hsome] at hl2
    have hcol : colU (cput M a b v) = colU M := by
     rw [← colU_put hs]
     funext j
     split
     · rename_i e; subst e
       obtain ⟨u, hu⟩ := Option.isSome_iff_exists.1 hsome
       refine ((srt_colU hs j).put _ _).ext (srt_colU hs j) (fun x => ?_)
       rw [mem_sput]
       constructor
       · rintro (e | e)
         · subst e; exact mem_colU.2 ⟨u, mem_colOf.2 (hs.get.1 hu)⟩
         · exact e.1
       · intro hx
         by_cases e : x.1 = a
         · exact .inl (by rw [← e])
         · exact .inr ⟨hx, e⟩
     · rfl
    have hn : (M.length : Int) = (cput M a b v).length := by rw [hs.length_put, if_pos hsome]
    have hlay := lay_W (w := wd.drew) (hM.row.block (fun k _ => rfl)) (by unfold maxLen; omega) (a := a) (b := b) (by unfold maxLen; omega) ha hb v
    rw [rowOf_put hs] at hlay
    have hks : ∀ w2, OutTo wgtS.cod B rm (rowOf (cput M a b v)) wd.drew w2 → w2.cell? ⟨g, 0, none⟩ = some (.map (some B)) ∧ (loadSt_W (.pointer (some ⟨vb, 0, none⟩))).run Tryz.prog w2 = .ok (.agg (wgtS.f v).toArray) w2 := fun w2 ⟨rm', r1, r2, r3⟩ => by
     have hgl : g < wd.heap.size := (Array.getElem?_eq_some_iff.1 hh).1
     refine ⟨?_, run_loadSt_W (rangeAt_block (w := wd) hrg (r2.block vb (Nat.lt_of_lt_of_le HV.out.2.1 ho.grow.size) (fun hk => (h1 vb hk).elim HV.out.1 (fun h => by have := HV.out.2.1; omega)) (fun h => h)))⟩
     rw [World.cell?_of_block (r2.block g hgl (fun hk => hM.notg hh (.inl hk) rfl) (fun h => h))]
     exact (cells3 hh).1
    have HKS := Lib.hid hks
    have KD := Lib.hid (show wd.drew.cell? ⟨g, 0, none⟩ = some (.map (some B)) ∧ (loadSt_W (.pointer (some ⟨vb, 0, none⟩))).run Tryz.prog wd.drew = .ok (.agg (wgtS.f v).toArray) wd.drew from ⟨(cells3 hh).1, run_loadSt_W hrg⟩)
    clear hks
    have HLAY := Lib.hid hlay
    have HL1 := Lib.hid hl1
    have HL2 := Lib.hid hl2
    have HFIN := Lib.hid (And.intro (show Only F (fun _ => False) uw wd.drew from only_trans ho (Only.of_later (Below.refl _ wd).drew)) (And.intro (show wd.drew.heap[g]? = _ from hh) (And.intro (show MapsAt wgtS.cod B C rm cm M wd.drew from hM.block (fun k _ => rfl)) (And.intro (hs.put a b v) (And.intro hn (And.intro hFg (And.intro hFl (And.intro h1 (And.intro h2 hcol)))))))))
    clear hrg hlay hl1 hl2 ho hh hM hs hn hFg hFl h1 h2 hcol hsome hrl hcl hra hcb hlen ha hb hu1 hu2 hz1 hz2 hmm
    have tok1 : True := trivial
    go_wp2_with (first
     | (at_lookup; have _t := tok1; refine wpl_look rfl _ _ _ _ rfl rfl rfl HL1.out ?_; clear tok1)
     | (at_lookup; refine wpl_look rfl _ _ _ _ rfl rfl rfl HL2.out ?_)
     | (refine wpl_allocS (s := wgtS) rfl rfl rfl ?_)
     | (refine wpl_storeS (s := wgtS) (t := t) (b := wc.heap.size) _ _ rfl rfl rfl rfl rfl (World.alloc_heap_new wc _) (zeroS wgtS) ?_; rw [newS, ← HWD.out])
     | fail)
    go_region_held3 (fun w' => w'.cell? ⟨g, 0, none⟩ = some (.map (some B)) ∧ (loadSt_W (.pointer (some ⟨vb, 0, none⟩))).run Tryz.prog w' = .ok (.agg (wgtS.f v).toArray) w') (first | exact KD.out | exact K2.out) (first
     | (go_at_call 127; refine HLAY.out.mono ?_; rintro e w2 ⟨rfl, hout⟩; have K2 := Lib.hid (HKS.out w2 hout); have HOUT := Lib.hid hout; clear hout)
     | fail)
    all_goals go_wp2_with fail
    refine bodyPost_end (results_none rfl _ _ _) rfl ⟨rfl, GrTo.later HBU.out ?_⟩
    obtain ⟨ho, hh, hM, hs', hn, hFg, hFl, h1, h2, hcol⟩ := HFIN.out
    exact row_to ho hh hM hs' hn hFg hFl h1 h2 hcol HOUT.out
  · -- it was not
    have hnone : (cget M a b).isSome = false := by simpa using hsome
    rw [hnone] at hl2
    have W1 : IntKind.i64.wrap ((M.length : Int) + 1) = (M.length : Int) + 1 := IntWalk.i64_in _ (by omega)
    obtain ⟨wy, hwy⟩ : ∃ wy, wy = wd.setCell ⟨g, 2, none⟩ (.int .i64 ((M.length : Int) + 1)) := ⟨_, rfl⟩
    have hgy : wy.heap[g]? = some (.cells #[.map (some B), .map (some C), .int .i64 ((M.length : Int) + 1)] 189 (0, 0)) := by rw [hwy]; exact (set3 hh).2.2
    have hMy : MapsAt wgtS.cod B C rm cm M wy := by rw [hwy]; exact hM.set hh
    have hoy : Only F (fun _ => False) uw wy := only_trans ho (by rw [hwy]; exact only_set hFg)
    have hn : (M.length : Int) + 1 = (cput M a b v).length := by rw [hs.length_put, if_neg hsome]; simp
    have hlayC := lay_U hMy.col (by unfold maxLen; omega) (a := b) (b := a) (by unfold maxLen; omega) hb ha ()
    rw [colU_put hs a b v] at hlayC
    have hlayR : ∀ w2, OutAt wgtS.cod B rm (rowOf M) w2 → Calls Tryz.prog 127 #[.map (some B), .int .i64 a, .int .i64 b, .agg (wgtS.f v).toArray] w2 fun e w' => e = .returned (.tuple #[]) ∧ OutTo wgtS.cod B rm (rowOf (cput M a b v)) w2 w' := fun w2 h2 => by
     have := lay_W h2 (by unfold maxLen; omega) (a := a) (b := b) (by unfold maxLen; omega) ha hb v
     rw [rowOf_put hs] at this
     exact this
    have hkeep : ∀ w2, OutTo codU C cm (colU (cput M a b v)) wy w2 → w2.cell? ⟨g, 0, none⟩ = some (.map (some B)) ∧ OutAt wgtS.cod B rm (rowOf M) w2 ∧ w2.rangeAt vb 0 (wgtS.f v) := fun w2 ⟨cm', c1, c2, c3⟩ => by
     have hglt : g < wy.heap.size := (Array.getElem?_eq_some_iff.1 hgy).1
     refine ⟨?_, hMy.row.block (fun k hk => c2.block k (hMy.row.lt hk) (hMy.off k hk) (fun h => h)), rangeAt_block (w := wy) (rangeAt_block HV.out.2.2 (hoy.block vb HV.out.2.1 HV.out.1 (fun h => h))) (c2.block vb (Nat.lt_of_lt_of_le HV.out.2.1 hoy.grow.size) (fun hk => (h2 vb hk).elim HV.out.1 (fun h => by have := HV.out.2.1; omega)) (fun h => h))⟩
     rw [World.cell?_of_block (c2.block g hglt (fun hk => hMy.notg hgy (.inr hk) rfl) (fun h => h))]
     exact (cells3 hgy).1
    rw [hwy] at hlayC hkeep
    have hke : ∀ w2, OutTo codU C cm (colU (cput M a b v)) (wd.setCell ⟨g, 2, none⟩ (.int .i64 ((M.length : Int) + 1))) w2 → (w2.cell? ⟨g, 0, none⟩ = some (.map (some B)) ∧ (loadSt_W (.pointer (some ⟨vb, 0, none⟩))).run Tryz.prog w2 = .ok (.agg (wgtS.f v).toArray) w2) ∧ ∀ w3, OutTo wgtS.cod B rm (rowOf (cput M a b v)) w2 w3 → w3.cell? ⟨g, 0, none⟩ = some (.map (some B)) ∧ (loadSt_W (.pointer (some ⟨vb, 0, none⟩))).run Tryz.prog w3 = .ok (.agg (wgtS.f v).toArray) w3 := fun w2 ho2 => by
     obtain ⟨e1, e2, e3⟩ := hkeep w2 ho2
     refine ⟨⟨e1, run_loadSt_W e3⟩, fun w3 ⟨rm', r1, r2, r3⟩ => ?_⟩
     have hsz : wd.heap.size ≤ w2.heap.size := by obtain ⟨_, _, q, _⟩ := ho2; have := q.grow.size; simpa [World.setCell] using this
     have hgl : g < wd.heap.size := (Array.getElem?_eq_some_iff.1 hh).1
     refine ⟨?_, run_loadSt_W (rangeAt_block e3 (r2.block vb (by have := ho.grow.size; have := HV.out.2.1; omega) (fun hk => (h1 vb hk).elim HV.out.1 (fun h => by have := HV.out.2.1; omega)) (fun h => h)))⟩
     rw [World.cell?_of_block (r2.block g (by omega) (fun hk => hM.notg hh (.inl hk) rfl) (fun h => h))]
     exact e1
    have HKE := Lib.hid hke
    clear hke
    have HLC := Lib.hid hlayC
    have HLR := Lib.hid hlayR
    have HKP := Lib.hid hkeep
    have HL1 := Lib.hid hl1
    have HL2 := Lib.hid hl2
    have HW := Lib.hid hwy
    have HFIN := Lib.hid (And.intro hoy (And.intro hgy (And.intro hMy (And.intro (hs.put a b v) (And.intro hn (And.intro hFg (And.intro hFl (And.intro h1 h2))))))))
    clear hrg hlayC hlayR hkeep hl1 hl2 hwy hoy hgy hMy ho hh hM hs hn hFg hFl h1 h2 hsome hnone hrl hcl hra hcb ha hb hu1 hu2 hz1 hz2 hmm
    have tok1 : True := trivial
    go_wp2_with (first
     | (at_lookup; have _t := tok1; refine wpl_look rfl _ _ _ _ rfl rfl rfl HL1.out ?_; clear tok1)
     | (at_lookup; refine wpl_look rfl _ _ _ _ rfl rfl rfl HL2.out ?_)
     | (refine wpl_allocS (s := wgtS) rfl rfl rfl ?_)
     | (refine wpl_storeS (s := wgtS) (t := t) (b := wc.heap.size) _ _ rfl rfl rfl rfl rfl (World.alloc_heap_new wc _) (zeroS wgtS) ?_; rw [newS, ← HWD.out])
     | (go_at_call 106; refine HLC.out.mono ?_; rintro e w2 ⟨rfl, hout⟩; obtain ⟨k9, hrow, hrg2⟩ := HKP.out w2 hout; have HRG2 := Lib.hid hrg2; clear hrg2; have HOUT := Lib.hid hout; have HROW := Lib.hid hrow; clear hout hrow)
     | fail)
    go_region_held3 (fun w' => w'.cell? ⟨g, 0, none⟩ = some (.map (some B)) ∧ (loadSt_W (.pointer (some ⟨vb, 0, none⟩))).run Tryz.prog w' = .ok (.agg (wgtS.f v).toArray) w') (first | exact HKE.out w2.drew HOUT.out.drew |>.1 | exact K3.out) (first
     | (go_at_call 127; refine (HLR.out _ (HKP.out _ HOUT.out.drew).2.1).mono ?_; rintro e w3 ⟨rfl, hout3⟩; have K3 := Lib.hid ((HKE.out w2.drew HOUT.out.drew).2 w3 hout3); have HOUT3 := Lib.hid hout3; clear hout3)
     | fail)
    all_goals go_wp2_with fail
    refine bodyPost_end (results_none rfl _ _ _) rfl ⟨rfl, GrTo.later HBU.out ?_⟩
    obtain ⟨hoy, hgy, hMy, hs', hn, hFg, hFl, h1, h2⟩ := HFIN.out
    have hc := HOUT.out
    rw [← HW.out] at hc
    have hc := hc.drew
    exact maps_to hoy hgy hMy hs' hn hFg hFl h1 h2 hc (fun _ => HOUT3.out)
set_option maxRecDepth 100000 in
set_option maxHeartbeats 4000000 in
attribute [local go_sem ↓] loadSt_Q_hide in
theorem grid_Set_Q {g : Nat} {M : Cls Wgt} {F : FP} {w : World} (h : GrAt priS.cod 165 g M F w) (hlen : M.length ≤ 1000000) {a b : Int} (ha : (Lit.int .i64 a).wf = true) (hb : (Lit.int .i64 b).wf = true) (v : Wgt) :
 Calls Tryz.prog 111 #[.pointer (some ⟨g, 0, none⟩), .int .i64 a, .int .i64 b, .agg (priS.f v).toArray] w fun e w' => e = .returned (.tuple #[]) ∧ GrTo priS.cod 165 g (cput M a b v) F w w' := by
 have hu1 : Tryz.prog.underlying 163 = some (.map 3 162) := Tryz.underlying163
 have hu2 : Tryz.prog.underlying 162 = some (.map 3 104) := Tryz.underlying162
 have hz1 : ∀ w, (zeroValue 162).run Tryz.prog w = .ok (codM.enc none) w := fun w => Tryz.zeroValue162 w
 have hz2 : ∀ w, (zeroValue 104).run Tryz.prog w = .ok (priS.cod.enc priS.zero) w := fun w => priS.zeroRun w
 have hmm := @run_makeMap Tryz.prog
 obtain ⟨uw, hu⟩ : ∃ u, u = w.alloc (.cells (priS.f v).toArray 104) := ⟨_, rfl⟩
 have hbu : Below w.heap.size w uw := by rw [hu]; exact (Below.refl _ w).alloc (Nat.le_refl _) _
 obtain ⟨vb, hvb⟩ : ∃ vb, vb = w.heap.size := ⟨_, rfl⟩
 have hvF : ¬ F vb := fun hk => by have := h.2.2.1 vb hk; omega
 have hvl : vb < uw.heap.size := by rw [hu, hvb]; simp
 have hrg : uw.rangeAt vb 0 (priS.f v) := by rw [hu, hvb]; exact atS priS w v
 have h : GrAt priS.cod 165 g M F uw := h.keep (Grow.of_below hbu) (fun k hk => hbu.block k (h.2.2.1 k hk))
 have HBU := Lib.hid hbu
 have HU := Lib.hid (And.intro hu hvb)
 have HV := Lib.hid (And.intro hvF (And.intro hvl hrg))
 clear hu hbu hvb hvF hvl hrg
 obtain ⟨hs, hFg, hFl, hmem⟩ := h
 have hkey : ∃ (mv : Option Nat) (q : Bool), uw.cell? ⟨g, 0, none⟩ = some (.map mv) ∧ (∀ uw, (binOp .eql 163 (.map mv) (.map Option.none)).run Tryz.prog uw = .ok (.bool q) uw) ∧
  ((q = true ∧ M = [] ∧ uw.heap[g]? = some (.cells #[.map none, .map none, .int .i64 0] 165 (0, 0))) ∨
   (q = false ∧ ∃ B C rm cm, uw.heap[g]? = some (.cells #[.map (some B), .map (some C), .int .i64 M.length] 165 (0, 0)) ∧ MapsAt priS.cod B C rm cm M uw ∧ (∀ k, oblk B rm k → F k) ∧ (∀ k, oblk C cm k → F k))) := by
  rcases hmem with ⟨e, hh⟩ | ⟨B, C, rm, cm, hh, h⟩
  · exact ⟨none, true, (cells3 hh).1, fun uw => by kernel_rfl, .inl ⟨rfl, e, hh⟩⟩
  · exact ⟨some B, false, (cells3 hh).1, fun uw => by kernel_rfl, .inr ⟨rfl, B, C, rm, cm, hh, h⟩⟩
 obtain ⟨mv, q, kq, hq, hmem⟩ := hkey
 have HM := Lib.hid hmem
 have HFl := Lib.hid hFl
 have HFg := Lib.hid hFg
 clear hmem hFl hFg
 go_enter Tryz.func111, Tryz.ntmps111
 go_upto_region 1 with fail
 rw [← HU.out.1, ← HU.out.2]
 go_upto_if 16 with fail
 clear hq kq
 go_cut [] (fun wx => ∃ B C rm cm, wx.heap[g]? = some (.cells #[.map (some B), .map (some C), .int .i64 M.length] 165 (0, 0)) ∧ MapsAt priS.cod B C rm cm M wx ∧ Only F (fun _ => False) uw wx ∧ (∀ k, oblk B rm k → F k ∨ uw.heap.size ≤ k) ∧ (∀ k, oblk C cm k → F k ∨ uw.heap.size ≤ k))
 case first =>
  rcases HM.out with ⟨rfl, e, hh⟩ | ⟨rfl, B, C, rm, cm, hh, hM, h1, h2⟩
  · obtain ⟨k0, k1, k2, f0, f1, f2⟩ := cells3 hh
    have hglt : g < uw.heap.size := (Array.getElem?_eq_some_iff.1 hh).1
    have HH := Lib.hid hh
    have HGL := Lib.hid hglt
    have HE := Lib.hid e
    clear hh e
    go_wp2_with fail
    go_meet
    obtain rfl := HE.out
    obtain ⟨v0, hv0⟩ : ∃ v0, v0 = (uw.setCell ⟨g, 0, none⟩ (.map (some uw.heap.size))).setCell ⟨g, 1, none⟩ (.map (some (uw.heap.size + 1))) := ⟨_, rfl⟩
    have hvs : v0.heap.size = uw.heap.size := by rw [hv0]; simp [World.setCell]
    have hg3 : v0.heap[g]? = some (.cells #[.map (some uw.heap.size), .map (some (uw.heap.size + 1)), .int .i64 0] 165 (0, 0)) := by rw [hv0]; exact (set3 (set3 HH.out).1).2.1
    have hov : Only F (fun _ => False) uw v0 := by rw [hv0]; exact only_trans (only_set HFg.out) (only_set HFg.out)
    rw [← hv0]
    clear hv0
    have hr : OutAt priS.cod uw.heap.size [] (rowOf []) ((v0.alloc (.map #[] 0)).alloc (.map #[] 0)) := by
     have := OutAt.made priS.cod v0
     rw [hvs] at this
     exact (this.block (fun k hk => Below.heap_alloc _ _ k (this.lt hk))).congr (fun _ => rfl)
    have hc : OutAt codU (uw.heap.size + 1) [] (colU ([] : Cls Wgt)) ((v0.alloc (.map #[] 0)).alloc (.map #[] 0)) := by
     have := OutAt.made codU (v0.alloc (.map #[] 0))
     rw [World.size_alloc, hvs] at this
     exact this.congr (fun _ => rfl)
    have hob : ∀ B k, oblk B [] k → k = B := fun B k hk => hk.elim id (fun ⟨a, ha⟩ => by simp [sget] at ha)
    have hM1 : MapsAt priS.cod uw.heap.size (uw.heap.size + 1) [] [] ([] : Cls Wgt) ((v0.alloc (.map #[] 0)).alloc (.map #[] 0)) := ⟨hr, hc, fun k hk hk' => by have := hob _ _ hk; have := hob _ _ hk'; omega⟩
    have hg1 : ((v0.alloc (.map #[] 0)).alloc (.map #[] 0)).heap[g]? = some (.cells #[.map (some uw.heap.size), .map (some (uw.heap.size + 1)), .int .i64 0] 165 (0, 0)) := by
     rw [Below.heap_alloc _ _ g (by simp; omega), Below.heap_alloc _ _ g (by omega)]; exact hg3
    refine ⟨_, _, _, _, hg1, hM1, ?_, fun k hk => .inr ?_, fun k hk => .inr ?_⟩
    · exact only_trans hov (only_trans (only_alloc _) (only_alloc _))
    · have := hob _ _ hk; omega
    · have := hob _ _ hk; omega
  · obtain ⟨k0, k1, k2, f0, f1, f2⟩ := cells3 hh
    have HH := Lib.hid hh
    have HMM := Lib.hid hM
    have H1 := Lib.hid h1
    have H2 := Lib.hid h2
    clear hh hM h1 h2
    go_wp2_with fail
    go_meet
    exact ⟨B, C, rm, cm, HH.out, HMM.out, Only.refl _ _ _, fun k hk => .inl (H1.out k hk), fun k hk => .inl (H2.out k hk)⟩
 case rest =>
  obtain ⟨B, C, rm, cm, hh, hM, ho, h1, h2⟩ := hcut
  have hrg : wc.rangeAt vb 0 (priS.f v) := rangeAt_block HV.out.2.2 (ho.block vb HV.out.2.1 HV.out.1 (fun h => h))
  have HRG := Lib.hid hrg
  obtain ⟨k0, k1, k2, f0, f1, f2⟩ := cells3 hh
  have hrl := outer_length hM.row hs
  have hcl := cols_length hM.col
  have hra := row_length M a
  have hcb := colU_length M b
  have hFl := HFl.out
  have hFg := HFg.out
  obtain ⟨mi, hl1, hl2⟩ : ∃ mi, (Instr.lookup 163 (.map (some B)) (.int .i64 a) false).run Tryz.prog wc = .ok (.map mi) wc ∧
   (Instr.lookup 162 (.map mi) (.int .i64 b) true).run Tryz.prog wc = .ok (.tuple #[priS.cod.enc ((cget M a b).getD priS.zero), .bool (cget M a b).isSome]) wc := by
   have hl := hM.row.map.look (z0 := none) hu1 (hz1 wc) ha
   cases hsg : sget rm a with
   | none =>
    rw [hsg] at hl
    refine ⟨none, hl, ?_⟩
    have hr := hM.row.isNil hsg
    have : cget M a b = none := by rw [cget, hr]; rfl
    rw [this]
    exact nil_look hu2 (hz2 wc) hb true
   | some x =>
    obtain ⟨b', rfl, _, _, h3⟩ := hM.row.at_ a x hsg
    rw [hsg] at hl
    exact ⟨some b', hl, h3.look_ok hu2 (hz2 wc) hb⟩
  obtain ⟨t, ht⟩ : ∃ t, t = (cget M a b).getD priS.zero := ⟨_, rfl⟩
  rw [← ht] at hl2
  obtain ⟨wd, hwd⟩ : ∃ wd, wd = wc.alloc (priS.obj t) := ⟨_, rfl⟩
  have hbd : Below wc.heap.size wc wd := by rw [hwd]; exact (Below.refl _ wc).alloc (Nat.le_refl _) _
  have hh := (hbd.block g (Array.getElem?_eq_some_iff.1 hh).1).trans hh
  have hM : MapsAt priS.cod B C rm cm M wd := hM.block (fun k hk => hbd.block k (hk.elim hM.row.lt hM.col.lt))
  have ho : Only F (fun _ => False) uw wd := only_trans ho (by rw [hwd]; exact only_alloc _)
  obtain ⟨m0, m1, m2, n0, n1, n2⟩ := cells3 hh
  have hrg : wd.rangeAt vb 0 (priS.f v) := rangeAt_block HV.out.2.2 (ho.block vb HV.out.2.1 HV.out.1 (fun h => h))
  have HRG := Lib.hid hrg
  have HWD := Lib.hid hwd
  clear ht hwd hbd
  by_cases hsome : (cget M a b).isSome = true
  · -- the cell was there
    rw [hsome] at hl2
    have hcol : colU (cput M a b v) = colU M := by
     rw [← colU_put hs]
     funext j
     split
     · rename_i e; subst e
       obtain ⟨u, hu⟩ := Option.isSome_iff_exists.1 hsome
       refine ((srt_colU hs j).put _ _).ext (srt_colU hs j) (fun x => ?_)
       rw [mem_sput]
       constructor
       · rintro (e | e)
         · subst e; exact mem_colU.2 ⟨u, mem_colOf.2 (hs.get.1 hu)⟩
         · exact e.1
       · intro hx
         by_cases e : x.1 = a
         · exact .inl (by rw [← e])
         · exact .inr ⟨hx, e⟩
     · rfl
    have hn : (M.length : Int) = (cput M a b v).length := by rw [hs.length_put, if_pos hsome]
    have hlay := lay_Q (w := wd.drew) (hM.row.block (fun k _ => rfl)) (by unfold maxLen; omega) (a := a) (b := b) (by unfold maxLen; omega) ha hb v
    rw [rowOf_put hs] at hlay
    have hks : ∀ w2, OutTo priS.cod B rm (rowOf (cput M a b v)) wd.drew w2 → w2.cell? ⟨g, 0, none⟩ = some (.map (some B)) ∧ (loadSt_Q (.pointer (some ⟨vb, 0, none⟩))).run Tryz.prog w2 = .ok (.agg (priS.f v).toArray) w2 := fun w2 ⟨rm', r1, r2, r3⟩ => by
     have hgl : g < wd.heap.size := (Array.getElem?_eq_some_iff.1 hh).1
     refine ⟨?_, run_loadSt_Q (rangeAt_block (w := wd) hrg (r2.block vb (Nat.lt_of_lt_of_le HV.out.2.1 ho.grow.size) (fun hk => (h1 vb hk).elim HV.out.1 (fun h => by have := HV.out.2.1; omega)) (fun h => h)))⟩
     rw [World.cell?_of_block (r2.block g hgl (fun hk => hM.notg hh (.inl hk) rfl) (fun h => h))]
     exact (cells3 hh).1
    have HKS := Lib.hid hks
    have KD := Lib.hid (show wd.drew.cell? ⟨g, 0, none⟩ = some (.map (some B)) ∧ (loadSt_Q (.pointer (some ⟨vb, 0, none⟩))).run Tryz.prog wd.drew = .ok (.agg (priS.f v).toArray) wd.drew from ⟨(cells3 hh).1, run_loadSt_Q hrg⟩)
    clear hks
    have HLAY := Lib.hid hlay
    have HL1 := Lib.hid hl1
    have HL2 := Lib.hid hl2
    have HFIN := Lib.hid (And.intro (show Only F (fun _ => False) uw wd.drew from only_trans ho (Only.of_later (Below.refl _ wd).drew)) (And.intro (show wd.drew.heap[g]? = _ from hh) (And.intro (show MapsAt priS.cod B C rm cm M wd.drew from hM.block (fun k _ => rfl)) (And.intro (hs.put a b v) (And.intro hn (And.intro hFg (And.intro hFl (And.intro h1 (And.intro h2 hcol)))))))))
    clear hrg hlay hl1 hl2 ho hh hM hs hn hFg hFl h1 h2 hcol hsome hrl hcl hra hcb hlen ha hb hu1 hu2 hz1 hz2 hmm
    have tok1 : True := trivial
    go_wp2_with (first
     | (at_lookup; have _t := tok1; refine wpl_look rfl _ _ _ _ rfl rfl rfl HL1.out ?_; clear tok1)
     | (at_lookup; refine wpl_look rfl _ _ _ _ rfl rfl rfl HL2.out ?_)
     | (refine wpl_allocS (s := priS) rfl rfl rfl ?_)
     | (refine wpl_storeS (s := priS) (t := t) (b := wc.heap.size) _ _ rfl rfl rfl rfl rfl (World.alloc_heap_new wc _) (zeroS priS) ?_; rw [newS, ← HWD.out])
     | fail)
    go_region_held3 (fun w' => w'.cell? ⟨g, 0, none⟩ = some (.map (some B)) ∧ (loadSt_Q (.pointer (some ⟨vb, 0, none⟩))).run Tryz.prog w' = .ok (.agg (priS.f v).toArray) w') (first | exact KD.out | exact K2.out) (first
     | (go_at_call 126; refine HLAY.out.mono ?_; rintro e w2 ⟨rfl, hout⟩; have K2 := Lib.hid (HKS.out w2 hout); have HOUT := Lib.hid hout; clear hout)
     | fail)
    all_goals go_wp2_with fail
    refine bodyPost_end (results_none rfl _ _ _) rfl ⟨rfl, GrTo.later HBU.out ?_⟩
    obtain ⟨ho, hh, hM, hs', hn, hFg, hFl, h1, h2, hcol⟩ := HFIN.out
    exact row_to ho hh hM hs' hn hFg hFl h1 h2 hcol HOUT.out
  · -- it was not
    have hnone : (cget M a b).isSome = false := by simpa using hsome
    rw [hnone] at hl2
    have W1 : IntKind.i64.wrap ((M.length : Int) + 1) = (M.length : Int) + 1 := IntWalk.i64_in _ (by omega)
    obtain ⟨wy, hwy⟩ : ∃ wy, wy = wd.setCell ⟨g, 2, none⟩ (.int .i64 ((M.length : Int) + 1)) := ⟨_, rfl⟩
    have hgy : wy.heap[g]? = some (.cells #[.map (some B), .map (some C), .int .i64 ((M.length : Int) + 1)] 165 (0, 0)) := by rw [hwy]; exact (set3 hh).2.2
    have hMy : MapsAt priS.cod B C rm cm M wy := by rw [hwy]; exact hM.set hh
    have hoy : Only F (fun _ => False) uw wy := only_trans ho (by rw [hwy]; exact only_set hFg)
    have hn : (M.length : Int) + 1 = (cput M a b v).length := by rw [hs.length_put, if_neg hsome]; simp
    have hlayC := lay_U hMy.col (by unfold maxLen; omega) (a := b) (b := a) (by unfold maxLen; omega) hb ha ()
    rw [colU_put hs a b v] at hlayC
    have hlayR : ∀ w2, OutAt priS.cod B rm (rowOf M) w2 → Calls Tryz.prog 126 #[.map (some B), .int .i64 a, .int .i64 b, .agg (priS.f v).toArray] w2 fun e w' => e = .returned (.tuple #[]) ∧ OutTo priS.cod B rm (rowOf (cput M a b v)) w2 w' := fun w2 h2 => by
     have := lay_Q h2 (by unfold maxLen; omega) (a := a) (b := b) (by unfold maxLen; omega) ha hb v
     rw [rowOf_put hs] at this
     exact this
    have hkeep : ∀ w2, OutTo codU C cm (colU (cput M a b v)) wy w2 → w2.cell? ⟨g, 0, none⟩ = some (.map (some B)) ∧ OutAt priS.cod B rm (rowOf M) w2 ∧ w2.rangeAt vb 0 (priS.f v) := fun w2 ⟨cm', c1, c2, c3⟩ => by
     have hglt : g < wy.heap.size := (Array.getElem?_eq_some_iff.1 hgy).1
     refine ⟨?_, hMy.row.block (fun k hk => c2.block k (hMy.row.lt hk) (hMy.off k hk) (fun h => h)), rangeAt_block (w := wy) (rangeAt_block HV.out.2.2 (hoy.block vb HV.out.2.1 HV.out.1 (fun h => h))) (c2.block vb (Nat.lt_of_lt_of_le HV.out.2.1 hoy.grow.size) (fun hk => (h2 vb hk).elim HV.out.1 (fun h => by have := HV.out.2.1; omega)) (fun h => h))⟩
     rw [World.cell?_of_block (c2.block g hglt (fun hk => hMy.notg hgy (.inr hk) rfl) (fun h => h))]
     exact (cells3 hgy).1
    rw [hwy] at hlayC hkeep
    have hke : ∀ w2, OutTo codU C cm (colU (cput M a b v)) (wd.setCell ⟨g, 2, none⟩ (.int .i64 ((M.length : Int) + 1))) w2 → (w2.cell? ⟨g, 0, none⟩ = some (.map (some B)) ∧ (loadSt_Q (.pointer (some ⟨vb, 0, none⟩))).run Tryz.prog w2 = .ok (.agg (priS.f v).toArray) w2) ∧ ∀ w3, OutTo priS.cod B rm (rowOf (cput M a b v)) w2 w3 → w3.cell? ⟨g, 0, none⟩ = some (.map (some B)) ∧ (loadSt_Q (.pointer (some ⟨vb, 0, none⟩))).run Tryz.prog w3 = .ok (.agg (priS.f v).toArray) w3 := fun w2 ho2 => by
     obtain ⟨e1, e2, e3⟩ := hkeep w2 ho2
     refine ⟨⟨e1, run_loadSt_Q e3⟩, fun w3 ⟨rm', r1, r2, r3⟩ => ?_⟩
     have hsz : wd.heap.size ≤ w2.heap.size := by obtain ⟨_, _, q, _⟩ := ho2; have := q.grow.size; simpa [World.setCell] using this
     have hgl : g < wd.heap.size := (Array.getElem?_eq_some_iff.1 hh).1
     refine ⟨?_, run_loadSt_Q (rangeAt_block e3 (r2.block vb (by have := ho.grow.size; have := HV.out.2.1; omega) (fun hk => (h1 vb hk).elim HV.out.1 (fun h => by have := HV.out.2.1; omega)) (fun h => h)))⟩
     rw [World.cell?_of_block (r2.block g (by omega) (fun hk => hM.notg hh (.inl hk) rfl) (fun h => h))]
     exact e1
    have HKE := Lib.hid hke
    clear hke
    have HLC := Lib.hid hlayC
    have HLR := Lib.hid hlayR
    have HKP := Lib.hid hkeep
    have HL1 := Lib.hid hl1
    have HL2 := Lib.hid hl2
    have HW := Lib.hid hwy
    have HFIN := Lib.hid (And.intro hoy (And.intro hgy (And.intro hMy (And.intro (hs.put a b v) (And.intro hn (And.intro hFg (And.intro hFl (And.intro h1 h2))))))))
    clear hrg hlayC hlayR hkeep hl1 hl2 hwy hoy hgy hMy ho hh hM hs hn hFg hFl h1 h2 hsome hnone hrl hcl hra hcb ha hb hu1 hu2 hz1 hz2 hmm
    have tok1 : True := trivial
    go_wp2_with (first
     | (at_lookup; have _t := tok1; refine wpl_look rfl _ _ _ _ rfl rfl rfl HL1.out ?_; clear tok1)
     | (at_lookup; refine wpl_look rfl _ _ _ _ rfl rfl rfl HL2.out ?_)
     | (refine wpl_allocS (s := priS) rfl rfl rfl ?_)
     | (refine wpl_storeS (s := priS) (t := t) (b := wc.heap.size) _ _ rfl rfl rfl rfl rfl (World.alloc_heap_new wc _) (zeroS priS) ?_; rw [newS, ← HWD.out])
     | (go_at_call 106; refine HLC.out.mono ?_; rintro e w2 ⟨rfl, hout⟩; obtain ⟨k9, hrow, hrg2⟩ := HKP.out w2 hout; have HRG2 := Lib.hid hrg2; clear hrg2; have HOUT := Lib.hid hout; have HROW := Lib.hid hrow; clear hout hrow)
     | fail)
    go_region_held3 (fun w' => w'.cell? ⟨g, 0, none⟩ = some (.map (some B)) ∧ (loadSt_Q (.pointer (some ⟨vb, 0, none⟩))).run Tryz.prog w' = .ok (.agg (priS.f v).toArray) w') (first | exact HKE.out w2.drew HOUT.out.drew |>.1 | exact K3.out) (first
     | (go_at_call 126; refine (HLR.out _ (HKP.out _ HOUT.out.drew).2.1).mono ?_; rintro e w3 ⟨rfl, hout3⟩; have K3 := Lib.hid ((HKE.out w2.drew HOUT.out.drew).2 w3 hout3); have HOUT3 := Lib.hid hout3; clear hout3)
     | fail)
    all_goals go_wp2_with fail
    refine bodyPost_end (results_none rfl _ _ _) rfl ⟨rfl, GrTo.later HBU.out ?_⟩
    obtain ⟨hoy, hgy, hMy, hs', hn, hFg, hFl, h1, h2⟩ := HFIN.out
    have hc := HOUT.out
    rw [← HW.out] at hc
    have hc := hc.drew
    exact maps_to hoy hgy hMy hs' hn hFg hFl h1 h2 hc (fun _ => HOUT3.out)
set_option maxRecDepth 100000 in
set_option maxHeartbeats 4000000 in
theorem grid_Del_Q {g : Nat} {M : Cls Wgt} {F : FP} {w : World} (h : GrAt priS.cod 165 g M F w) (hlen : M.length ≤ 1000000) {a b : Int} (ha : (Lit.int .i64 a).wf = true) (hb : (Lit.int .i64 b).wf = true) :
 Calls Tryz.prog 77 #[.pointer (some ⟨g, 0, none⟩), .int .i64 a, .int .i64 b] w fun e w' => e = .returned (.bool (cget M a b).isSome) ∧ GrTo priS.cod 165 g (cdel M a b) F w w' := by
 have hget := grid_GetE_Q h ha hb
 obtain ⟨t, ht⟩ : ∃ t, t = (cget M a b).getD priS.zero := ⟨_, rfl⟩
 rw [← ht] at hget
 obtain ⟨ug, hug⟩ : ∃ u, u = priS.getW w t := ⟨_, rfl⟩
 rw [← hug] at hget
 obtain ⟨uw, hu⟩ : ∃ u, u = ug.alloc (priS.obj t) := ⟨_, rfl⟩
 have hbg : Below w.heap.size w ug := by rw [hug]; exact priS.getW_below w t
 have hbu : Below w.heap.size w uw := by rw [hu]; exact hbg.alloc hbg.size _
 have h : GrAt priS.cod 165 g M F uw := h.keep (Grow.of_below hbu) (fun k hk => hbu.block k (h.2.2.1 k hk))
 have HBU := Lib.hid hbu
 have HUW := Lib.hid hu
 clear ht hug hu hbu hbg
 by_cases hsome : (cget M a b).isSome = true
 · rw [hsome] at hget
   obtain ⟨hs, hFg, hFl, hmem⟩ := h
   obtain ⟨u, hu⟩ := Option.isSome_iff_exists.1 hsome
   have hM0 : M ≠ [] := List.ne_nil_of_mem (hs.get.1 hu)
   obtain ⟨B, C, rm, cm, hh, hM, h1, h2⟩ := hmem.resolve_left (fun h => hM0 h.1)
   obtain ⟨k0, k1, k2, f0, f1, f2⟩ := cells3 hh
   have hpos := List.length_pos_iff.2 hM0
   have hra := row_length M a
   have hcb := colU_length M b
   have hr0 : rowOf M a ≠ [] := List.ne_nil_of_mem ((mem_rowOf (x := (b, u))).2 (hs.get.1 hu))
   have hc0 : colU M b ≠ [] := List.ne_nil_of_mem ((mem_colU (x := (a, ()))).2 ⟨u, (mem_colOf (x := (a, u))).2 (hs.get.1 hu)⟩)
   have W1 : IntKind.i64.wrap ((M.length : Int) - 1) = (M.length : Int) - 1 := IntWalk.i64_in _ (by omega)
   obtain ⟨wy, hwy⟩ : ∃ wy, wy = uw.setCell ⟨g, 2, none⟩ (.int .i64 ((M.length : Int) - 1)) := ⟨_, rfl⟩
   have hgy : wy.heap[g]? = some (.cells #[.map (some B), .map (some C), .int .i64 ((M.length : Int) - 1)] 165 (0, 0)) := by rw [hwy]; exact (set3 hh).2.2
   have hMy : MapsAt priS.cod B C rm cm M wy := by rw [hwy]; exact hM.set hh
   have hoy : Only F (fun _ => False) uw wy := by rw [hwy]; exact only_set hFg
   have hn : (M.length : Int) - 1 = (cdel M a b).length := by have := hs.length_del a b; rw [if_pos hsome] at this; omega
   have htC := take_U hMy.col (a := b) (b := a) hc0 (by omega) hb ha
   rw [colU_del hs a b] at htC
   have htR : ∀ w2, OutAt priS.cod B rm (rowOf M) w2 → Calls Tryz.prog 115 #[.map (some B), .int .i64 a, .int .i64 b] w2 fun e w' => e = .returned (.tuple #[]) ∧ OutTo priS.cod B rm (rowOf (cdel M a b)) w2 w' := fun w2 h2 => by
    have := take_Q h2 (a := a) (b := b) hr0 (by omega) ha hb
    rw [rowOf_del hs] at this
    exact this
   have hkeep : ∀ w2, OutTo codU C cm (colU (cdel M a b)) wy w2 → w2.cell? ⟨g, 0, none⟩ = some (.map (some B)) ∧ OutAt priS.cod B rm (rowOf M) w2 := fun w2 ⟨cm', c1, c2, c3⟩ => by
    have hglt : g < wy.heap.size := (Array.getElem?_eq_some_iff.1 hgy).1
    refine ⟨?_, hMy.row.block (fun k hk => c2.block k (hMy.row.lt hk) (hMy.off k hk) (fun h => h))⟩
    rw [World.cell?_of_block (c2.block g hglt (fun hk => hMy.notg hgy (.inr hk) rfl) (fun h => h))]
    exact (cells3 hgy).1
   rw [hwy] at htC hkeep
   have HG := Lib.hid hget
   have HLC := Lib.hid htC
   have HLR := Lib.hid htR
   have HKP := Lib.hid hkeep
   have HW := Lib.hid hwy
   have HFIN := Lib.hid (And.intro hoy (And.intro hgy (And.intro hMy (And.intro (hs.del a b) (And.intro hn (And.intro hFg (And.intro hFl (And.intro (fun k hk => Or.inl (b := uw.heap.size ≤ k) (h1 k hk)) (fun k hk => Or.inl (b := uw.heap.size ≤ k) (h2 k hk))))))))))
   clear htC htR hkeep hwy hoy hgy hMy hh hM hs hn hFg hFl h1 h2 hra hcb ha hb hget hu hM0 hmem hr0 hc0
   rw [hsome]
   clear hsome
   go_enter Tryz.func77, Tryz.ntmps77
   go_wp2_with (first
    | (go_at_call 50; refine HG.out.mono ?_; rintro e w2 ⟨rfl, hw2⟩; rw [hw2]; clear hw2 w2)
    | (refine wpl_allocS (s := priS) rfl rfl rfl ?_)
    | (refine wpl_storeS (s := priS) (t := t) (b := ug.heap.size) _ _ rfl rfl rfl rfl rfl (World.alloc_heap_new ug _) (zeroS priS) ?_; rw [newS, ← HUW.out])
    | (go_at_call 109; refine HLC.out.mono ?_; rintro e w2 ⟨rfl, hout⟩; obtain ⟨k9, hrow⟩ := HKP.out w2 hout; have HOUT := Lib.hid hout; have HROW := Lib.hid hrow; clear hout hrow)
    | (go_at_call 115; refine (HLR.out _ HROW.out).mono ?_; rintro e w3 ⟨rfl, hout3⟩; have HOUT3 := Lib.hid hout3; clear hout3)
    | fail)
   go_ret
   refine ⟨rfl, ?_⟩
   obtain ⟨hoy, hgy, hMy, hs', hn, hFg, hFl, h1, h2⟩ := HFIN.out
   have hc := HOUT.out
   rw [← HW.out] at hc
   exact GrTo.later HBU.out (maps_to hoy hgy hMy hs' hn hFg hFl h1 h2 hc (fun _ => HOUT3.out))
 · have hnone : (cget M a b).isSome = false := by simpa using hsome
   have hdel : cdel M a b = M := cdel_none (by simpa using hsome)
   rw [hnone] at hget
   rw [hnone, hdel]
   have HG := Lib.hid hget
   have HH := Lib.hid h
   clear hget h hsome hnone hdel ha hb
   go_enter Tryz.func77, Tryz.ntmps77
   go_wp2_with (first
    | (go_at_call 50; refine HG.out.mono ?_; rintro e w2 ⟨rfl, hw2⟩; rw [hw2]; clear hw2 w2)
    | (refine wpl_allocS (s := priS) rfl rfl rfl ?_)
    | (refine wpl_storeS (s := priS) (t := t) (b := ug.heap.size) _ _ rfl rfl rfl rfl rfl (World.alloc_heap_new ug _) (zeroS priS) ?_; rw [newS, ← HUW.out])
    | fail)
   go_ret
   exact ⟨rfl, GrTo.later HBU.out ⟨F, HH.out, fun k hk => .inl hk, Only.refl _ _ _⟩⟩
end
section
open Go.RowKit Go.Maps Go.Sort Go.Shelf
set_option maxHeartbeats 1000000 in
theorem rising_V {β : Type} {c : Cod β} {b : Nat} {m : List (Int × β)} {w : World} (h : MapAt c b m w) (hm : m.length ≤ 1000000) :
 Calls Tryz.prog 139 #[.map (some b)] w fun e w' => ∃ v, e = .returned v ∧ w'.ownsRow w.heap.size 3 1 v m.length (m.map fun x => Value.int .i64 x.1) ∧ (v = .slice none 0 0 ↔ m = []) ∧ Below w.heap.size w w' := by
 refine (callsIn_wide (n := 6)).1 ?_
 have hbl := h.lt
 obtain ⟨nn, D0, hown, h1, h2⟩ := h.own
 have hs := MapAt.size h.srt hown h1
 have hperm := MapAt.keys h.srt hown h1
 have hseq : SeqGives Fence.wide 2 Tryz.prog 146 #[.pointer (some ⟨w.heap.size, 0, none⟩)] encZ (fun ss => ss.Perm (intKeys D0)) (Maps.size D0) (w.alloc (.cells #[.map (some b)] 166)) :=
  AnyZI.keys_gives (ρ := Tryz.keysV_ren) { Tryz.keysV with } Fence.wide _ trivial rfl (by omega) w.heap.size b nn D0 _ (by simp) (by simp) (hown.alloc _)
 have cK : ∀ mb W, CallsIn Fence.wide 5 Tryz.prog 142 #[.map mb] W fun e w' => e = .returned (.func (.func 146) #[] #[.pointer (some ⟨W.heap.size, 0, none⟩)]) ∧ w' = W.alloc (.cells #[.map mb] 166) := fun mb W => AnyZI.keys_in Tryz.keysV Fence.wide 5 trivial rfl mb W
 have cS := AnyZI.sorted_in Tryz.sortedA Fence.wide 5 trivial trivial trivial trivial rfl (by omega) (sortsA _) (enters_of Tryz.func144 (by kernel_rfl) rfl) 146 #[.pointer (some ⟨w.heap.size, 0, none⟩)] trivial (enters_of Tryz.func146 (by kernel_rfl) rfl) _ _ (by rw [hs]; unfold maxLen; omega) (by rw [hs]; omega) _ hseq
 change CallsIn _ _ Tryz.prog 140 _ _ _ at cS
 have hfK : Fence.wide.fn 142 := trivial
 have hfS : Fence.wide.fn 140 := trivial
 have Hd := Lib.hid (And.intro hs (And.intro hperm (And.intro h1 h.srt)))
 clear hs hperm h1 h2 hm
 refine callsIn_of_wp Tryz.func139 rfl trivial ?_ rfl
 simp only [Tryz.ntmps139, List.size_toArray, List.length_cons, List.length_nil, Nat.reduceAdd, Nat.reduceSub, Array.replicate_succ, Array.replicate_zero, List.push_toArray, List.append_toArray, List.nil_append, List.cons_append]
 gi_wp2_with (first
  | (gi_at_call 142; refine (cK _ _).mono ?_; rintro e w' ⟨rfl, rfl⟩)
  | (gi_at_call 140; refine cS.mono ?_; rintro e w' ⟨v, ss, rfl, hS, hrow, hnil, hb⟩)
  | fail)
 go_ret
 obtain ⟨hs, hperm, h1, hsrt⟩ := Hd.out
 have hp : ss.Perm (m.map (·.1)) := hS.trans hperm.symm
 have hl : ss.length = m.length := by rw [hp.length_eq]; simp
 have hsk := sorted_keys hsrt hp
 refine ⟨v, rfl, ?_, ?_, ((Below.refl _ w).alloc (Nat.le_refl _) _).trans (hb.mono (by simp))⟩
 · have : w'.ownsRow w.heap.size 3 1 v ss.length ((ss.mergeSort (fun x y => decide (x ≤ y))).map encZ) := ownsRow_base_a hrow (by simp)
   rw [hsk, hl] at this
   simpa [encZ, Function.comp_def] using this
 · rw [hnil, ← List.length_eq_zero_iff, ← List.length_eq_zero_iff, hl]
set_option maxHeartbeats 1000000 in
theorem rising_V_nil (w : World) : Calls Tryz.prog 139 #[.map none] w fun e w' => e = .returned (.slice none 0 0) ∧ Below w.heap.size w w' := by
 refine (callsIn_wide (n := 6)).1 ?_
 have hseq : SeqGives Fence.wide 2 Tryz.prog 146 #[.pointer (some ⟨w.heap.size, 0, none⟩)] encZ (fun ss : List Int => ss = []) 0 (w.alloc (.cells #[.map none] 166)) :=
  AnyZI.keys_gives_nil (ρ := Tryz.keysV_ren) { Tryz.keysV with } Fence.wide _ trivial rfl w.heap.size _ (by simp) (by simp)
 have cK : ∀ mb W, CallsIn Fence.wide 5 Tryz.prog 142 #[.map mb] W fun e w' => e = .returned (.func (.func 146) #[] #[.pointer (some ⟨W.heap.size, 0, none⟩)]) ∧ w' = W.alloc (.cells #[.map mb] 166) := fun mb W => AnyZI.keys_in Tryz.keysV Fence.wide 5 trivial rfl mb W
 have cS := AnyZI.sorted_in Tryz.sortedA Fence.wide 5 trivial trivial trivial trivial rfl (by omega) (sortsA _) (enters_of Tryz.func144 (by kernel_rfl) rfl) 146 #[.pointer (some ⟨w.heap.size, 0, none⟩)] trivial (enters_of Tryz.func146 (by kernel_rfl) rfl) _ 0 (Nat.zero_le _) (by omega) _ hseq
 change CallsIn _ _ Tryz.prog 140 _ _ _ at cS
 have hfK : Fence.wide.fn 142 := trivial
 have hfS : Fence.wide.fn 140 := trivial
 refine callsIn_of_wp Tryz.func139 rfl trivial ?_ rfl
 simp only [Tryz.ntmps139, List.size_toArray, List.length_cons, List.length_nil, Nat.reduceAdd, Nat.reduceSub, Array.replicate_succ, Array.replicate_zero, List.push_toArray, List.append_toArray, List.nil_append, List.cons_append]
 gi_wp2_with (first
  | (gi_at_call 142; refine (cK _ _).mono ?_; rintro e w' ⟨rfl, rfl⟩)
  | (gi_at_call 140; refine cS.mono ?_; rintro e w' ⟨v, ss, rfl, rfl, hrow, hnil, hb⟩; obtain rfl : v = .slice none 0 0 := hnil.2 rfl)
  | fail)
 go_ret
 exact ⟨rfl, ((Below.refl _ w).alloc (Nat.le_refl _) _).trans (hb.mono (by simp))⟩
attribute [local go_sem] Oper.semAt_some
theorem GrAt.look_V {g : Nat} {M : Cls Bal} {F : FP} {w : World} (h : GrAt balS.cod 169 g M F w) {a b : Int} (ha : (Lit.int .i64 a).wf = true) (hb : (Lit.int .i64 b).wf = true) :
 ∃ mv mi, w.cell? ⟨g, 0, none⟩ = some (.map mv) ∧ (Instr.lookup 167 (.map mv) (.int .i64 a) false).run Tryz.prog w = .ok (.map mi) w ∧
  (Instr.lookup 166 (.map mi) (.int .i64 b) false).run Tryz.prog w = .ok (balS.cod.enc ((cget M a b).getD balS.zero)) w := by
 have hu1 : Tryz.prog.underlying 167 = some (.map 3 166) := Tryz.underlying167
 have hu2 : Tryz.prog.underlying 166 = some (.map 3 28) := Tryz.underlying166
 have hz1 : ∀ w, (zeroValue 166).run Tryz.prog w = .ok (codM.enc none) w := fun w => Tryz.zeroValue166 w
 have hz2 : ∀ w, (zeroValue 28).run Tryz.prog w = .ok (balS.cod.enc balS.zero) w := fun w => balS.zeroRun w
 obtain ⟨_, _, _, (⟨rfl, hh⟩ | ⟨B, C, rm, cm, hh, hM, _⟩)⟩ := h
 · exact ⟨none, none, by rw [World.cell?, hh]; rfl, nil_look hu1 (hz1 w) ha false, nil_look hu2 (hz2 w) hb false⟩
 · have hl := hM.row.map.look (z0 := none) hu1 (hz1 w) ha
   cases hs : sget rm a with
   | none =>
    rw [hs] at hl
    refine ⟨some B, none, by rw [World.cell?, hh]; rfl, hl, ?_⟩
    have hr := hM.row.isNil hs
    have : cget M a b = none := by rw [cget, hr]; rfl
    rw [this]
    exact nil_look hu2 (hz2 w) hb false
   | some x =>
    obtain ⟨b', rfl, _, _, h3⟩ := hM.row.at_ a x hs
    rw [hs] at hl
    exact ⟨some B, some b', by rw [World.cell?, hh]; rfl, hl, h3.look hu2 (hz2 w) hb⟩
theorem GrAt.rises_row_V {g : Nat} {M : Cls Bal} {F : FP} {w : World} (h : GrAt balS.cod 169 g M F w) (hlen : M.length ≤ 100000) {a : Int} (ha : (Lit.int .i64 a).wf = true) :
 ∃ mv mi, w.cell? ⟨g, 0, none⟩ = some (.map mv) ∧ (Instr.lookup 167 (.map mv) (.int .i64 a) false).run Tryz.prog w = .ok (.map mi) w ∧
  Calls Tryz.prog 139 #[.map mi] w (fun e w' => ∃ v, e = .returned v ∧ OwnN w.heap.size v ((rowOf M a).map (·.1)) w' ∧ Below w.heap.size w w') := by
 have hu1 : Tryz.prog.underlying 167 = some (.map 3 166) := Tryz.underlying167
 have hz1 : ∀ w, (zeroValue 166).run Tryz.prog w = .ok (codM.enc none) w := fun w => Tryz.zeroValue166 w
 have hnil : rowOf M a = [] → Calls Tryz.prog 139 #[.map none] w (fun e w' => ∃ v, e = .returned v ∧ OwnN w.heap.size v ((rowOf M a).map (·.1)) w' ∧ Below w.heap.size w w') := fun e => by
  refine (rising_V_nil w).mono ?_
  rintro _ w' ⟨rfl, hb⟩
  rw [e]
  exact ⟨_, rfl, OwnN.nil _ _, hb⟩
 have hr := row_length M a
 obtain ⟨_, _, _, (⟨rfl, hh⟩ | ⟨B, C, rm, cm, hh, hM, _⟩)⟩ := h
 · exact ⟨none, none, by rw [World.cell?, hh]; rfl, nil_look hu1 (hz1 w) ha false, hnil rfl⟩
 · have hl := hM.row.map.look (z0 := none) hu1 (hz1 w) ha
   cases hs : sget rm a with
   | none =>
    rw [hs] at hl
    exact ⟨some B, none, by rw [World.cell?, hh]; rfl, hl, hnil (hM.row.isNil hs)⟩
   | some x =>
    obtain ⟨b', rfl, _, _, h3⟩ := hM.row.at_ a x hs
    rw [hs] at hl
    refine ⟨some B, some b', by rw [World.cell?, hh]; rfl, hl, (rising_V h3 (by omega)).mono ?_⟩
    rintro e w' ⟨v, rfl, ho, _, hb⟩
    refine ⟨v, rfl, ?_, hb⟩
    unfold OwnN Is
    rw [List.length_map, List.map_map]
    exact ho
set_option maxHeartbeats 4000000 in
set_option maxRecDepth 100000 in
theorem row_iter_V (n : Nat) (bx ba g : Nat) (M : Cls Bal) (F : FP) (s : Int) (w : World) (hbx : w.cell? ⟨bx, 0, none⟩ = some (.pointer (some ⟨g, 0, none⟩))) (hba : w.cell? ⟨ba, 0, none⟩ = some (.int .i64 s)) (h : GrAt balS.cod 169 g M F w) (hlen : M.length ≤ 100000) (hs : (Lit.int .i64 s).wf = true)
 (G : FP) (hGb : G bx) (hGa : G ba) (hGF : ∀ k, F k → G k) :
 Iter Tryz.prog n 138 #[.pointer (some ⟨bx, 0, none⟩), .pointer (some ⟨ba, 0, none⟩)] (fun x : Int × Bal => #[.int .i64 x.1, balS.cod.enc x.2]) (rowOf M s) G w := by
 intro lp B Ψ J Jx Φ0 W hgw hG hΨ hΦ0 hJ hJx hround h0
 have hc1 : W.cell? ⟨bx, 0, none⟩ = some (.pointer (some ⟨g, 0, none⟩)) := (World.cell?_of_block (hG bx hGb).2).trans hbx
 have hc2 : W.cell? ⟨ba, 0, none⟩ = some (.int .i64 s) := (World.cell?_of_block (hG ba hGa).2).trans hba
 have hW : GrAt balS.cod 169 g M F W := h.keep hgw (fun k hk => (hG k (hGF k hk)).2)
 have hWd : GrAt balS.cod 169 g M F W.drew := hW.keep ⟨rfl, rfl, rfl, Nat.le_refl _⟩ (fun _ _ => rfl)
 obtain ⟨mv, mi, hcm, hlm, hrise⟩ := hWd.rises_row_V hlen hs
 have hcm : W.cell? ⟨g, 0, none⟩ = some (.map mv) := hcm
 obtain ⟨hs1, hs2, hs3⟩ := hJ _ _ _ h0
 have mixed : Tryz.prog.follows .mixedOrders = true := by kernel_rfl
 refine callsIn_of_wp Tryz.func138 rfl trivial ?_ rfl
 simp only [Tryz.ntmps138, List.size_toArray, List.length_cons, List.length_nil, Nat.reduceAdd, Nat.reduceSub, Array.replicate_succ, Array.replicate_zero, List.push_toArray, List.append_toArray, List.nil_append, List.cons_append]
 have hsrt := hW.1
 obtain ⟨xs, hxs⟩ : ∃ xs, xs = rowOf M s := ⟨_, rfl⟩
 obtain ⟨ks, hks⟩ : ∃ ks, ks = (rowOf M s).map (·.1) := ⟨_, rfl⟩
 rw [← hks] at hrise
 rw [← hxs] at hround ⊢
 have hkl : ks.length = xs.length := by rw [hks, hxs]; simp
 have hbig : (ks.length : Int) ≤ 100000 := by rw [hkl, hxs]; have := row_length M s; omega
 have HXS := Lib.hid hxs
 have HKS := Lib.hid (And.intro hks (And.intro hkl hsrt))
 clear hxs hks hkl hsrt
 have HW := Lib.hid hW
 have HRS := Lib.hid hrise
 have HRD := Lib.hid hround
 have HJ := Lib.hid hJ
 have HP := Lib.hid hΨ
 have HP0 := Lib.hid hΦ0
 have HG := Lib.hid hG
 have HGF := Lib.hid (And.intro hGb (And.intro hGa hGF))
 have HH0 := Lib.hid h0
 have HS3 := Lib.hid hs3
 have HS1 := Lib.hid hs1
 have HL := Lib.hid hlen
 have HWF := Lib.hid hs
 clear hW hWd hrise hround hJ hJx hG hΨ hΦ0 hbx hba hGb hGa hGF h0 hs1 hs3 hlen hs h
 gi_wp2_with fail
 refine region_meet (R := fun a wc => ∃ co ccap, a = { tmps := #[.func (.yield lp) #[] #[], .pointer (some ⟨bx, 0, none⟩), .pointer (some ⟨ba, 0, none⟩), undef, undef, undef, .pointer (some ⟨g, 0, none⟩), .bool false, .pointer (some ⟨g, 0, none⟩), .pointer (some ⟨g, 0, none⟩), .pointer (some ⟨g, 0, none⟩), .map mv, .int .i64 s, .map mi, .slice co ks.length ccap, .int .i64 ks.length, .int .i64 0, undef, undef, undef, undef, undef, undef, undef, undef, undef, undef, undef, undef, undef, undef, undef, undef], defers := [] } ∧ OwnN W.drew.heap.size (.slice co ks.length ccap) ks wc ∧ Below W.drew.heap.size W.drew wc) ?_ ?_
 · go_region_with (first | (go_at_call 139; refine HRS.out.mono ?_; rintro e wc ⟨vc, rfl, hoc, hbc⟩; obtain ⟨co, ccap, rfl⟩ := hoc.lenOf; have HOC := Lib.hid hoc; have HBC := Lib.hid hbc; clear hoc hbc) | fail)
   all_goals exact ⟨co, ccap, rfl, HOC.out, HBC.out⟩
 rintro _ wc ⟨co, ccap, rfl, hoc, hbc⟩
 have HOC := Lib.hid hoc
 have HBC := Lib.hid hbc
 clear hoc hbc
 have hcs : W.heap.size ≤ wc.heap.size := HBC.out.size
 have hbc' : Below W.heap.size W wc := ((Below.refl _ W).drew).trans (show Below W.heap.size W.drew wc from HBC.out)
 have HO1 := Lib.hid (Only.of_later (Ψ := Ψ) (Φ := Φ0) hbc')
 have hJc : J [] Φ0 wc := HS3.out wc (Grow.of_below hbc') (fun k hk => hbc'.block k (hk.elim (fun h => by omega) (fun h => (HS1.out k h).2)))
 have HJC := Lib.hid hJc
 have hkeep : ∀ wr, Only Ψ Φ0 wc wr → OwnN W.heap.size (.slice co ks.length ccap) ks wr ∧ GrAt balS.cod 169 g M F wr ∧ wr.cell? ⟨bx, 0, none⟩ = some (.pointer (some ⟨g, 0, none⟩)) ∧ wr.cell? ⟨ba, 0, none⟩ = some (.int .i64 s) := fun wr ho => by
  have hgk : ∀ k, G k → wr.heap[k]? = W.heap[k]? := fun k hk => by
   have hkW : k < W.heap.size := by have := (HG.out k hk).1; have := hgw.size; omega
   rw [ho.block k (by omega) (fun h => (HP.out k h).2 hk) (fun h => HP0.out k h hk)]
   exact hbc'.block k hkW
  refine ⟨OwnN.of HOC.out (Nat.le_refl _) (fun k hk => ?_), HW.out.keep ((Grow.of_below hbc').trans ho.grow) (fun k hk => hgk k (HGF.out.2.2 k hk)), (World.cell?_of_block (hgk bx HGF.out.1)).trans hc1, (World.cell?_of_block (hgk ba HGF.out.2.1)).trans hc2⟩
  obtain ⟨h1, h2⟩ := HOC.out.block hk
  have h1 : W.heap.size ≤ k := h1
  exact ho.block k h2 (fun h => by have := (HP.out k h).1; omega) (fun h => by have := (HS1.out k h).2; omega)
 have HK := Lib.hid hkeep
 clear hkeep hJc hbc' hc1 hc2 hlm hcm
 gi_wp2_with fail
 gi_loopw [16] (fun r wr => ∃ (k : Nat) (Φ : FP), k ≤ ks.length ∧ r = .int .i64 k ∧ J (xs.take k) Φ wr ∧ Only Ψ Φ0 wc wr ∧ (∀ j, Φ j → Φ0 j ∨ wc.heap.size ≤ j)) (fun r wr => ks.length - (intOf r).toNat)
 case atStart => exact ⟨0, Φ0, Nat.zero_le _, rfl, HJC.out, Only.refl _ _ _, fun j h => .inl h⟩
 case round =>
  obtain ⟨k, Φ, hk, rfl, hJ2, ho2, hn2⟩ := hrel
  obtain ⟨hkl, hkl2, hsrt⟩ := HKS.out
  by_cases hlt : k < ks.length
  · have hlt' : (k : Int) < ks.length := by omega
    obtain ⟨hoW, hGW, cb, ca⟩ := HK.out wr ho2
    obtain ⟨b, cap, hv, hcell, hbl, hbu⟩ := hoW.at hlt
    injection hv with hv1 hv2 hv3
    subst hv1
    have hltx : k < xs.length := by omega
    obtain ⟨x, hx⟩ : ∃ x, x = xs[k] := ⟨_, rfl⟩
    have hy : ks[k] = x.1 := by simp only [hkl, hx, HXS.out, List.getElem_map]
    rw [hy] at hcell
    have hxm : x ∈ rowOf M s := by rw [← HXS.out, hx]; exact List.getElem_mem _
    have hxM := (mem_rowOf (x := x)).1 hxm
    have hwfx := hGW.wf hxM
    have hget : cget M s x.1 = some x.2 := hsrt.get.2 hxM
    obtain ⟨mv', mi', cm, l1, l2⟩ := (hGW.keep (w' := wr.drew) ⟨rfl, rfl, rfl, Nat.le_refl _⟩ (fun _ _ => rfl)).look_V (a := s) (b := x.1) HWF.out hwfx.2
    rw [hget, Option.getD_some] at l2
    have cm : wr.cell? ⟨g, 0, none⟩ = some (.map mv') := cm
    have htk : xs.take k ++ [x] = xs.take (k + 1) := by rw [hx]; exact pre_snoc hltx
    have hpre : (xs.take k ++ [x]) <+: xs := by rw [htk]; exact List.take_prefix _ _
    obtain ⟨q1, q2, q3⟩ := HJ.out _ _ _ hJ2
    have hJd : J (xs.take k) Φ wr.drew := q3 wr.drew ⟨rfl, rfl, rfl, Nat.le_refl _⟩ (fun _ _ => rfl)
    obtain ⟨fn, tm, asg, bd, hyy, hR⟩ := HRD.out (xs.take k) x Φ wr.drew hpre hJd
    dsimp only at hyy
    obtain ⟨yv, hyv⟩ : ∃ yv, yv = x.1 := ⟨_, rfl⟩
    rw [← hyv] at hcell hyy l2
    obtain ⟨ev, hev⟩ : ∃ ev, ev = balS.cod.enc x.2 := ⟨_, rfl⟩
    rw [← hev] at hyy l2
    have HT := Lib.hid htk
    have HPR := Lib.hid hpre
    have HO2 := Lib.hid ho2
    have HN2 := Lib.hid hn2
    have HR := Lib.hid hR
    clear htk hpre q1 q2 q3 hx hy hyv hev hJ2 hJd ho2 hn2 hR hxm hxM hget hwfx hoW hGW hkl hkl2 hsrt hv2 hv3
    gi_wp2_with fail
    refine wpIn_region_still_tail 10 mixed (by kernel_rfl) ?_
    simp only [List.take_succ_cons, List.take_zero, List.drop_succ_cons, List.drop_zero]
    change wpStill _ _ wr.drew _ _ _
    repeat still_step
    refine wpStill_nil ?_
    change wpListIn _ _ _ _ _ _ _ wr.drew
    gi_wp2
    refine HR.out.mono ?_
    rintro e W' ⟨Φ', hn', ho', (⟨rfl, hJ'⟩ | ⟨rfl, hJ'⟩)⟩
    · have ho3 : Only Ψ Φ0 wc W' := HO2.out.trans (Only.undrew ho') HN2.out
      have hn3 : ∀ j, Φ' j → Φ0 j ∨ wc.heap.size ≤ j := fun j hj => (hn' j hj).elim (HN2.out j) (fun h => .inr (by have := HO2.out.grow.size; have : wr.heap.size ≤ j := h; omega))
      gi_wp2
      exact ⟨⟨k + 1, Φ', hlt, by go_num, by rw [← HT.out]; exact hJ', ho3, hn3⟩, by simp [intOf]; omega⟩
    · have ho3 : Only Ψ Φ0 wc W' := HO2.out.trans (Only.undrew ho') HN2.out
      have hn3 : ∀ j, Φ' j → Φ0 j ∨ wc.heap.size ≤ j := fun j hj => (hn' j hj).elim (HN2.out j) (fun h => .inr (by have := HO2.out.grow.size; have : wr.heap.size ≤ j := h; omega))
      gi_wp2
      refine bodyPost_ret (results_none rfl _ _ _) rfl ?_
      exact ⟨⟨_, rfl⟩, Φ', fun j hj => (hn3 j hj).imp id (fun h => by omega), HO1.out.trans ho3 (fun j h => .inl h), .inr ⟨_, HPR.out, hJ'⟩⟩
  · have hkn : k = ks.length := by omega
    subst hkn
    rw [hkl2, List.take_length] at hJ2
    clear hkl hkl2 hsrt
    gi_wp2
    refine bodyPost_end (results_none rfl _ _ _) rfl ?_
    exact ⟨⟨_, rfl⟩, Φ, fun j hj => (hn2 j hj).imp id (fun h => by omega), HO1.out.trans ho2 (fun j h => .inl h), .inl hJ2⟩
theorem enters_row1_V : ∀ args w, (callFunc 138 args).run Tryz.prog w = .ok (.enter 138 args) w := enters_of Tryz.func138 (by kernel_rfl) rfl
theorem grid_row_V (p : Option Addr) (s : Int) (w : World) : Calls Tryz.prog 129 #[.pointer p, .int .i64 s] w fun e w' => e = .returned (.func (.func 138) #[] #[.pointer (some ⟨w.heap.size, 0, none⟩), .pointer (some ⟨w.heap.size + 1, 0, none⟩)]) ∧ w' = (w.alloc (.cells #[.pointer p] 96)).alloc (.cells #[.int .i64 s] 3) := by
 go_enter Tryz.func129, Tryz.ntmps129
 go_wp2
 go_ret
 exact ⟨rfl, rfl⟩
end
end Go.Proofs.YtbpemdihoabbcaaGreat
