/-
  Joined texts.
-/
import Derived.Deep.RegionHeld3
import Derived.Shelf.SlIterI.Nil
import Derived.Shelf.SortM.Plain
import Derived.Shelf.SortM.SortNone
import Derived.Ground.GgzProg
import Derived.Ground.SlgmProg
import Derived.Shelf.SlGeneric
import Derived.Test.YtpkamfbjgdmmoaaGreatProg
import Derived.OwnWalkIn
import Derived.TacticsInMore
import Derived.Test.YtpkamfbjgdmmoaaGreatChecked
import Derived.WalkKit
import Derived.Lib.Hide
import Derived.Below
import Derived.Maps.OwnIn
import Derived.Maps.AppendAt
import Derived.RangeFuncBox
import Derived.Deep.MidRow
import Derived.StillTailTactics
import Derived.OrdersIn
import Derived.TacticsIn
import Derived.LoopNIn
import Derived.LoopIn
import Derived.Test.YtpkamfbjgdmmoaaGreatMgc

section
namespace Go.Proofs.YtpkamfbjgdmmoaaGreat
open Go.RowKit Go.Maps
set_option linter.unusedVariables false
set_option linter.unusedSimpArgs false

def loadSt_R (v : Value) : Sem Value := Instr.loadAt 56 v
theorem loadSt_R_hide (v : Value) : Instr.loadAt 56 v = loadSt_R v := rfl
theorem run_loadSt_R {w : World} {b : Nat} {t : _} (h : w.rangeAt b 0 (rfS.f t)) : (loadSt_R (.pointer (some ⟨b, 0, none⟩))).run Tryz.prog w = .ok (.agg (rfS.f t).toArray) w := run_loadS (s := rfS) h

set_option maxRecDepth 100000 in
set_option maxHeartbeats 4000000 in
attribute [local go_sem ↓] loadSt_R_hide in
theorem grid_Set_R {g : Nat} {M : Cls Rfm} {F : FP} {w : World} (h : GrAt rfS.cod 173 g M F w) (hlen : M.length ≤ 1000000) {a b : Int} (ha : (Lit.int .i64 a).wf = true) (hb : (Lit.int .i64 b).wf = true) (v : Rfm) :
    Calls Tryz.prog 84 #[.pointer (some ⟨g, 0, none⟩), .int .i64 a, .int .i64 b, .agg (rfS.f v).toArray] w fun e w' => e = .returned (.tuple #[]) ∧ GrTo rfS.cod 173 g (cput M a b v) F w w' := by
  have hu1 : Tryz.prog.underlying 170 = some (.map 3 200) := Tryz.underlying170
  have hu2 : Tryz.prog.underlying 200 = some (.map 3 56) := Tryz.underlying200
  have hz1 : ∀ w, (zeroValue 200).run Tryz.prog w = .ok (codM.enc none) w := fun w => Tryz.zeroValue200 w
  have hz2 : ∀ w, (zeroValue 56).run Tryz.prog w = .ok (rfS.cod.enc rfS.zero) w := fun w => rfS.zeroRun w
  have hmm := @run_makeMap Tryz.prog
  obtain ⟨uw, hu⟩ : ∃ u, u = w.alloc (.cells (rfS.f v).toArray 56) := ⟨_, rfl⟩
  have hbu : Below w.heap.size w uw := by rw [hu]; exact (Below.refl _ w).alloc (Nat.le_refl _) _
  obtain ⟨vb, hvb⟩ : ∃ vb, vb = w.heap.size := ⟨_, rfl⟩
  have hvF : ¬ F vb := fun hk => by have := h.2.2.1 vb hk; omega
  have hvl : vb < uw.heap.size := by rw [hu, hvb]; simp
  have hrg : uw.rangeAt vb 0 (rfS.f v) := by rw [hu, hvb]; exact atS rfS w v
  have h : GrAt rfS.cod 173 g M F uw := h.keep (Grow.of_below hbu) (fun k hk => hbu.block k (h.2.2.1 k hk))
  have HBU := Lib.hid hbu
  have HU := Lib.hid (And.intro hu hvb)
  have HV := Lib.hid (And.intro hvF (And.intro hvl hrg))
  clear hu hbu hvb hvF hvl hrg
  obtain ⟨hs, hFg, hFl, hmem⟩ := h
  have hkey : ∃ (mv : Option Nat) (q : Bool), uw.cell? ⟨g, 0, none⟩ = some (.map mv) ∧ (∀ uw, (binOp .eql 170 (.map mv) (.map Option.none)).run Tryz.prog uw = .ok (.bool q) uw) ∧
      ((q = true ∧ M = [] ∧ uw.heap[g]? = some (.cells #[.map none, .map none, .int .i64 0] 173 (0, 0))) ∨
       (q = false ∧ ∃ B C rm cm, uw.heap[g]? = some (.cells #[.map (some B), .map (some C), .int .i64 M.length] 173 (0, 0)) ∧ MapsAt rfS.cod B C rm cm M uw ∧ (∀ k, oblk B rm k → F k) ∧ (∀ k, oblk C cm k → F k))) := by
    rcases hmem with ⟨e, hh⟩ | ⟨B, C, rm, cm, hh, h⟩
    · exact ⟨none, true, (cells3 hh).1, fun uw => by kernel_rfl, .inl ⟨rfl, e, hh⟩⟩
    · exact ⟨some B, false, (cells3 hh).1, fun uw => by kernel_rfl, .inr ⟨rfl, B, C, rm, cm, hh, h⟩⟩
  obtain ⟨mv, q, kq, hq, hmem⟩ := hkey
  have HM := Lib.hid hmem
  have HFl := Lib.hid hFl
  have HFg := Lib.hid hFg
  clear hmem hFl hFg
  go_enter Tryz.func84, Tryz.ntmps84
  go_upto_region 1 with fail
  rw [← HU.out.1, ← HU.out.2]
  go_upto_if 16 with fail
  clear hq kq
  go_cut [] (fun wx => ∃ B C rm cm, wx.heap[g]? = some (.cells #[.map (some B), .map (some C), .int .i64 M.length] 173 (0, 0)) ∧ MapsAt rfS.cod B C rm cm M wx ∧ Only F (fun _ => False) uw wx ∧ (∀ k, oblk B rm k → F k ∨ uw.heap.size ≤ k) ∧ (∀ k, oblk C cm k → F k ∨ uw.heap.size ≤ k))
  case first =>
    rcases HM.out with ⟨rfl, e, hh⟩ | ⟨rfl, B, C, rm, cm, hh, hM, h1, h2⟩
    · obtain ⟨k0, k1, k2, f0, f1, f2⟩ := cells3 hh
      have hglt : g < uw.heap.size := (Array.getElem?_eq_some_iff.1 hh).1
      have HH := Lib.hid hh
      have HGL := Lib.hid hglt
      have HE := Lib.hid e
      clear hh e
      go_wp2_with fail
      go_meet
      obtain rfl := HE.out
      obtain ⟨v0, hv0⟩ : ∃ v0, v0 = (uw.setCell ⟨g, 0, none⟩ (.map (some uw.heap.size))).setCell ⟨g, 1, none⟩ (.map (some (uw.heap.size + 1))) := ⟨_, rfl⟩
      have hvs : v0.heap.size = uw.heap.size := by rw [hv0]; simp [World.setCell]
      have hg3 : v0.heap[g]? = some (.cells #[.map (some uw.heap.size), .map (some (uw.heap.size + 1)), .int .i64 0] 173 (0, 0)) := by rw [hv0]; exact (set3 (set3 HH.out).1).2.1
      have hov : Only F (fun _ => False) uw v0 := by rw [hv0]; exact only_trans (only_set HFg.out) (only_set HFg.out)
      rw [← hv0]
      clear hv0
      have hr : OutAt rfS.cod uw.heap.size [] (rowOf []) ((v0.alloc (.map #[] 0)).alloc (.map #[] 0)) := by
        have := OutAt.made rfS.cod v0
        rw [hvs] at this
        exact (this.block (fun k hk => Below.heap_alloc _ _ k (this.lt hk))).congr (fun _ => rfl)
      have hc : OutAt codU (uw.heap.size + 1) [] (colU ([] : Cls Rfm)) ((v0.alloc (.map #[] 0)).alloc (.map #[] 0)) := by
        have := OutAt.made codU (v0.alloc (.map #[] 0))
        rw [World.size_alloc, hvs] at this
        exact this.congr (fun _ => rfl)
      have hob : ∀ B k, oblk B [] k → k = B := fun B k hk => hk.elim id (fun ⟨a, ha⟩ => by simp [sget] at ha)
      have hM1 : MapsAt rfS.cod uw.heap.size (uw.heap.size + 1) [] [] ([] : Cls Rfm) ((v0.alloc (.map #[] 0)).alloc (.map #[] 0)) := ⟨hr, hc, fun k hk hk' => by have := hob _ _ hk; have := hob _ _ hk'; omega⟩
      have hg1 : ((v0.alloc (.map #[] 0)).alloc (.map #[] 0)).heap[g]? = some (.cells #[.map (some uw.heap.size), .map (some (uw.heap.size + 1)), .int .i64 0] 173 (0, 0)) := by
        rw [Below.heap_alloc _ _ g (by simp; omega), Below.heap_alloc _ _ g (by omega)]; exact hg3
      refine ⟨_, _, _, _, hg1, hM1, ?_, fun k hk => .inr ?_, fun k hk => .inr ?_⟩
      · exact only_trans hov (only_trans (only_alloc _) (only_alloc _))
      · have := hob _ _ hk; omega
      · have := hob _ _ hk; omega
    · obtain ⟨k0, k1, k2, f0, f1, f2⟩ := cells3 hh
      have HH := Lib.hid hh
      have HMM := Lib.hid hM
      have H1 := Lib.hid h1
      have H2 := Lib.hid h2
      clear hh hM h1 h2
      go_wp2_with fail
      go_meet
      exact ⟨B, C, rm, cm, HH.out, HMM.out, Only.refl _ _ _, fun k hk => .inl (H1.out k hk), fun k hk => .inl (H2.out k hk)⟩
  case rest =>
    obtain ⟨B, C, rm, cm, hh, hM, ho, h1, h2⟩ := hcut
    have hrg : wc.rangeAt vb 0 (rfS.f v) := rangeAt_block HV.out.2.2 (ho.block vb HV.out.2.1 HV.out.1 (fun h => h))
    have HRG := Lib.hid hrg
    obtain ⟨k0, k1, k2, f0, f1, f2⟩ := cells3 hh
    have hrl := outer_length hM.row hs
    have hcl := cols_length hM.col
    have hra := row_length M a
    have hcb := colU_length M b
    have hFl := HFl.out
    have hFg := HFg.out
    obtain ⟨mi, hl1, hl2⟩ : ∃ mi, (Instr.lookup 170 (.map (some B)) (.int .i64 a) false).run Tryz.prog wc = .ok (.map mi) wc ∧
        (Instr.lookup 200 (.map mi) (.int .i64 b) true).run Tryz.prog wc = .ok (.tuple #[rfS.cod.enc ((cget M a b).getD rfS.zero), .bool (cget M a b).isSome]) wc := by
      have hl := hM.row.map.look (z0 := none) hu1 (hz1 wc) ha
      cases hsg : sget rm a with
      | none =>
        rw [hsg] at hl
        refine ⟨none, hl, ?_⟩
        have hr := hM.row.isNil hsg
        have : cget M a b = none := by rw [cget, hr]; rfl
        rw [this]
        exact nil_look hu2 (hz2 wc) hb true
      | some x =>
        obtain ⟨b', rfl, _, _, h3⟩ := hM.row.at_ a x hsg
        rw [hsg] at hl
        exact ⟨some b', hl, h3.look_ok hu2 (hz2 wc) hb⟩
    obtain ⟨t, ht⟩ : ∃ t, t = (cget M a b).getD rfS.zero := ⟨_, rfl⟩
    rw [← ht] at hl2
    obtain ⟨wd, hwd⟩ : ∃ wd, wd = wc.alloc (rfS.obj t) := ⟨_, rfl⟩
    have hbd : Below wc.heap.size wc wd := by rw [hwd]; exact (Below.refl _ wc).alloc (Nat.le_refl _) _
    have hh := (hbd.block g (Array.getElem?_eq_some_iff.1 hh).1).trans hh
    have hM : MapsAt rfS.cod B C rm cm M wd := hM.block (fun k hk => hbd.block k (hk.elim hM.row.lt hM.col.lt))
    have ho : Only F (fun _ => False) uw wd := only_trans ho (by rw [hwd]; exact only_alloc _)
    obtain ⟨m0, m1, m2, n0, n1, n2⟩ := cells3 hh
    have hrg : wd.rangeAt vb 0 (rfS.f v) := rangeAt_block HV.out.2.2 (ho.block vb HV.out.2.1 HV.out.1 (fun h => h))
    have HRG := Lib.hid hrg
    have HWD := Lib.hid hwd
    clear ht hwd hbd
    by_cases hsome : (cget M a b).isSome = true
    · -- the cell was there
      rw [hsome] at hl2
      have hcol : colU (cput M a b v) = colU M := by
        rw [← colU_put hs]
        funext j
        split
        · rename_i e; subst e
          obtain ⟨u, hu⟩ := Option.isSome_iff_exists.1 hsome
          refine ((srt_colU hs j).put _ _).ext (srt_colU hs j) (fun x => ?_)
          rw [mem_sput]
          constructor
          · rintro (e | e)
            · subst e; exact mem_colU.2 ⟨u, mem_colOf.2 (hs.get.1 hu)⟩
            · exact e.1
          · intro hx
            by_cases e : x.1 = a
            · exact .inl (by rw [← e])
            · exact .inr ⟨hx, e⟩
        · rfl
      have hn : (M.length : Int) = (cput M a b v).length := by rw [hs.length_put, if_pos hsome]
      have hlay := lay_R (w := wd.drew) (hM.row.block (fun k _ => rfl)) (by unfold maxLen; omega) (a := a) (b := b) (by unfold maxLen; omega) ha hb v
      rw [rowOf_put hs] at hlay
      have hks : ∀ w2, OutTo rfS.cod B rm (rowOf (cput M a b v)) wd.drew w2 → w2.cell? ⟨g, 0, none⟩ = some (.map (some B)) ∧ (loadSt_R (.pointer (some ⟨vb, 0, none⟩))).run Tryz.prog w2 = .ok (.agg (rfS.f v).toArray) w2 := fun w2 ⟨rm', r1, r2, r3⟩ => by
        have hgl : g < wd.heap.size := (Array.getElem?_eq_some_iff.1 hh).1
        refine ⟨?_, run_loadSt_R (rangeAt_block (w := wd) hrg (r2.block vb (Nat.lt_of_lt_of_le HV.out.2.1 ho.grow.size) (fun hk => (h1 vb hk).elim HV.out.1 (fun h => by have := HV.out.2.1; omega)) (fun h => h)))⟩
        rw [World.cell?_of_block (r2.block g hgl (fun hk => hM.notg hh (.inl hk) rfl) (fun h => h))]
        exact (cells3 hh).1
      have HKS := Lib.hid hks
      have KD := Lib.hid (show wd.drew.cell? ⟨g, 0, none⟩ = some (.map (some B)) ∧ (loadSt_R (.pointer (some ⟨vb, 0, none⟩))).run Tryz.prog wd.drew = .ok (.agg (rfS.f v).toArray) wd.drew from ⟨(cells3 hh).1, run_loadSt_R hrg⟩)
      clear hks
      have HLAY := Lib.hid hlay
      have HL1 := Lib.hid hl1
      have HL2 := Lib.hid hl2
      have HFIN := Lib.hid (And.intro (show Only F (fun _ => False) uw wd.drew from only_trans ho (Only.of_later (Below.refl _ wd).drew)) (And.intro (show wd.drew.heap[g]? = _ from hh) (And.intro (show MapsAt rfS.cod B C rm cm M wd.drew from hM.block (fun k _ => rfl)) (And.intro (hs.put a b v) (And.intro hn (And.intro hFg (And.intro hFl (And.intro h1 (And.intro h2 hcol)))))))))
      clear hrg hlay hl1 hl2 ho hh hM hs hn hFg hFl h1 h2 hcol hsome hrl hcl hra hcb hlen ha hb hu1 hu2 hz1 hz2 hmm
      have tok1 : True := trivial
      go_wp2_with (first
        | (at_lookup; have _t := tok1; refine wpl_look rfl _ _ _ _ rfl rfl rfl HL1.out ?_; clear tok1)
        | (at_lookup; refine wpl_look rfl _ _ _ _ rfl rfl rfl HL2.out ?_)
        | (refine wpl_allocS (s := rfS) rfl rfl rfl ?_)
        | (refine wpl_storeS (s := rfS) (t := t) (b := wc.heap.size) _ _ rfl rfl rfl rfl rfl (World.alloc_heap_new wc _) (zeroS rfS) ?_; rw [newS, ← HWD.out])
        | fail)
      go_region_held3 (fun w' => w'.cell? ⟨g, 0, none⟩ = some (.map (some B)) ∧ (loadSt_R (.pointer (some ⟨vb, 0, none⟩))).run Tryz.prog w' = .ok (.agg (rfS.f v).toArray) w') (first | exact KD.out | exact K2.out) (first
        | (go_at_call 110; refine HLAY.out.mono ?_; rintro e w2 ⟨rfl, hout⟩; have K2 := Lib.hid (HKS.out w2 hout); have HOUT := Lib.hid hout; clear hout)
        | fail)
      all_goals go_wp2_with fail
      refine bodyPost_end (results_none rfl _ _ _) rfl ⟨rfl, GrTo.later HBU.out ?_⟩
      obtain ⟨ho, hh, hM, hs', hn, hFg, hFl, h1, h2, hcol⟩ := HFIN.out
      exact row_to ho hh hM hs' hn hFg hFl h1 h2 hcol HOUT.out
    · -- it was not
      have hnone : (cget M a b).isSome = false := by simpa using hsome
      rw [hnone] at hl2
      have W1 : IntKind.i64.wrap ((M.length : Int) + 1) = (M.length : Int) + 1 := IntWalk.i64_in _ (by omega)
      obtain ⟨wy, hwy⟩ : ∃ wy, wy = wd.setCell ⟨g, 2, none⟩ (.int .i64 ((M.length : Int) + 1)) := ⟨_, rfl⟩
      have hgy : wy.heap[g]? = some (.cells #[.map (some B), .map (some C), .int .i64 ((M.length : Int) + 1)] 173 (0, 0)) := by rw [hwy]; exact (set3 hh).2.2
      have hMy : MapsAt rfS.cod B C rm cm M wy := by rw [hwy]; exact hM.set hh
      have hoy : Only F (fun _ => False) uw wy := only_trans ho (by rw [hwy]; exact only_set hFg)
      have hn : (M.length : Int) + 1 = (cput M a b v).length := by rw [hs.length_put, if_neg hsome]; simp
      have hlayC := lay_U hMy.col (by unfold maxLen; omega) (a := b) (b := a) (by unfold maxLen; omega) hb ha ()
      rw [colU_put hs a b v] at hlayC
      have hlayR : ∀ w2, OutAt rfS.cod B rm (rowOf M) w2 → Calls Tryz.prog 110 #[.map (some B), .int .i64 a, .int .i64 b, .agg (rfS.f v).toArray] w2 fun e w' => e = .returned (.tuple #[]) ∧ OutTo rfS.cod B rm (rowOf (cput M a b v)) w2 w' := fun w2 h2 => by
        have := lay_R h2 (by unfold maxLen; omega) (a := a) (b := b) (by unfold maxLen; omega) ha hb v
        rw [rowOf_put hs] at this
        exact this
      have hkeep : ∀ w2, OutTo codU C cm (colU (cput M a b v)) wy w2 → w2.cell? ⟨g, 0, none⟩ = some (.map (some B)) ∧ OutAt rfS.cod B rm (rowOf M) w2 ∧ w2.rangeAt vb 0 (rfS.f v) := fun w2 ⟨cm', c1, c2, c3⟩ => by
        have hglt : g < wy.heap.size := (Array.getElem?_eq_some_iff.1 hgy).1
        refine ⟨?_, hMy.row.block (fun k hk => c2.block k (hMy.row.lt hk) (hMy.off k hk) (fun h => h)), rangeAt_block (w := wy) (rangeAt_block HV.out.2.2 (hoy.block vb HV.out.2.1 HV.out.1 (fun h => h))) (c2.block vb (Nat.lt_of_lt_of_le HV.out.2.1 hoy.grow.size) (fun hk => (h2 vb hk).elim HV.out.1 (fun h => by have := HV.out.2.1; omega)) (fun h => h))⟩
        rw [World.cell?_of_block (c2.block g hglt (fun hk => hMy.notg hgy (.inr hk) rfl) (fun h => h))]
        exact (cells3 hgy).1
      rw [hwy] at hlayC hkeep
      have hke : ∀ w2, OutTo codU C cm (colU (cput M a b v)) (wd.setCell ⟨g, 2, none⟩ (.int .i64 ((M.length : Int) + 1))) w2 → (w2.cell? ⟨g, 0, none⟩ = some (.map (some B)) ∧ (loadSt_R (.pointer (some ⟨vb, 0, none⟩))).run Tryz.prog w2 = .ok (.agg (rfS.f v).toArray) w2) ∧ ∀ w3, OutTo rfS.cod B rm (rowOf (cput M a b v)) w2 w3 → w3.cell? ⟨g, 0, none⟩ = some (.map (some B)) ∧ (loadSt_R (.pointer (some ⟨vb, 0, none⟩))).run Tryz.prog w3 = .ok (.agg (rfS.f v).toArray) w3 := fun w2 ho2 => by
        obtain ⟨e1, e2, e3⟩ := hkeep w2 ho2
        refine ⟨⟨e1, run_loadSt_R e3⟩, fun w3 ⟨rm', r1, r2, r3⟩ => ?_⟩
        have hsz : wd.heap.size ≤ w2.heap.size := by obtain ⟨_, _, q, _⟩ := ho2; have := q.grow.size; simpa [World.setCell] using this
        have hgl : g < wd.heap.size := (Array.getElem?_eq_some_iff.1 hh).1
        refine ⟨?_, run_loadSt_R (rangeAt_block e3 (r2.block vb (by have := ho.grow.size; have := HV.out.2.1; omega) (fun hk => (h1 vb hk).elim HV.out.1 (fun h => by have := HV.out.2.1; omega)) (fun h => h)))⟩
        rw [World.cell?_of_block (r2.block g (by omega) (fun hk => hM.notg hh (.inl hk) rfl) (fun h => h))]
        exact e1
      have HKE := Lib.hid hke
      clear hke
      have HLC := Lib.hid hlayC
      have HLR := Lib.hid hlayR
      have HKP := Lib.hid hkeep
      have HL1 := Lib.hid hl1
      have HL2 := Lib.hid hl2
      have HW := Lib.hid hwy
      have HFIN := Lib.hid (And.intro hoy (And.intro hgy (And.intro hMy (And.intro (hs.put a b v) (And.intro hn (And.intro hFg (And.intro hFl (And.intro h1 h2))))))))
      clear hrg hlayC hlayR hkeep hl1 hl2 hwy hoy hgy hMy ho hh hM hs hn hFg hFl h1 h2 hsome hnone hrl hcl hra hcb ha hb hu1 hu2 hz1 hz2 hmm
      have tok1 : True := trivial
      go_wp2_with (first
        | (at_lookup; have _t := tok1; refine wpl_look rfl _ _ _ _ rfl rfl rfl HL1.out ?_; clear tok1)
        | (at_lookup; refine wpl_look rfl _ _ _ _ rfl rfl rfl HL2.out ?_)
        | (refine wpl_allocS (s := rfS) rfl rfl rfl ?_)
        | (refine wpl_storeS (s := rfS) (t := t) (b := wc.heap.size) _ _ rfl rfl rfl rfl rfl (World.alloc_heap_new wc _) (zeroS rfS) ?_; rw [newS, ← HWD.out])
        | (go_at_call 89; refine HLC.out.mono ?_; rintro e w2 ⟨rfl, hout⟩; obtain ⟨k9, hrow, hrg2⟩ := HKP.out w2 hout; have HRG2 := Lib.hid hrg2; clear hrg2; have HOUT := Lib.hid hout; have HROW := Lib.hid hrow; clear hout hrow)
        | fail)
      go_region_held3 (fun w' => w'.cell? ⟨g, 0, none⟩ = some (.map (some B)) ∧ (loadSt_R (.pointer (some ⟨vb, 0, none⟩))).run Tryz.prog w' = .ok (.agg (rfS.f v).toArray) w') (first | exact HKE.out w2.drew HOUT.out.drew |>.1 | exact K3.out) (first
        | (go_at_call 110; refine (HLR.out _ (HKP.out _ HOUT.out.drew).2.1).mono ?_; rintro e w3 ⟨rfl, hout3⟩; have K3 := Lib.hid ((HKE.out w2.drew HOUT.out.drew).2 w3 hout3); have HOUT3 := Lib.hid hout3; clear hout3)
        | fail)
      all_goals go_wp2_with fail
      refine bodyPost_end (results_none rfl _ _ _) rfl ⟨rfl, GrTo.later HBU.out ?_⟩
      obtain ⟨hoy, hgy, hMy, hs', hn, hFg, hFl, h1, h2⟩ := HFIN.out
      have hc := HOUT.out
      rw [← HW.out] at hc
      have hc := hc.drew
      exact maps_to hoy hgy hMy hs' hn hFg hFl h1 h2 hc (fun _ => HOUT3.out)
end Go.Proofs.YtpkamfbjgdmmoaaGreat
end

section
namespace Go.Proofs.YtpkamfbjgdmmoaaGreat
open Go.RowKit Go.Maps
set_option linter.unusedVariables false
set_option linter.unusedSimpArgs false

/-- A list as a table: row 0, from number k on. -/
def tabR {β : Type} : Nat → List β → Cls β
  | _, [] => []
  | k, x :: l => ((0, (k : Int)), x) :: tabR (k + 1) l
def rowR {β : Type} : Nat → List β → List (Int × β)
  | _, [] => []
  | k, x :: l => ((k : Int), x) :: rowR (k + 1) l
section
variable {β : Type}
theorem tabR_len : ∀ (l : List β) (k : Nat), (tabR k l).length = l.length
  | [], _ => rfl
  | _ :: l, k => by rw [tabR, List.length_cons, List.length_cons, tabR_len l]
theorem rowR_len : ∀ (l : List β) (k : Nat), (rowR k l).length = l.length
  | [], _ => rfl
  | _ :: l, k => by rw [rowR, List.length_cons, List.length_cons, rowR_len l]
theorem mem_tabR : ∀ {l : List β} {k : Nat} {c : (Int × Int) × β}, c ∈ tabR k l ↔ c.1.1 = 0 ∧ ∃ i, l[i]? = some c.2 ∧ c.1.2 = ((k + i : Nat) : Int)
  | [], k, c => by simp [tabR]
  | x :: l, k, c => by
    rw [tabR, List.mem_cons, mem_tabR (l := l)]
    constructor
    · rintro (rfl | ⟨h0, i, h1, h2⟩)
      · exact ⟨rfl, 0, rfl, rfl⟩
      · exact ⟨h0, i + 1, h1, by rw [h2]; omega⟩
    · rintro ⟨h0, i, h1, h2⟩
      cases i with
      | zero =>
        left
        obtain ⟨⟨c1, c2⟩, c3⟩ := c
        simp only [List.getElem?_cons_zero, Option.some.injEq] at h1
        simp only at h0 h2
        rw [h0, h2, h1]; rfl
      | succ i => exact .inr ⟨h0, i, by simpa using h1, by rw [h2]; omega⟩
theorem tabR_srt : ∀ (l : List β) (k : Nat), SrtC (tabR k l)
  | [], _ => List.Pairwise.nil
  | x :: l, k => by
    refine List.Pairwise.cons (fun c hc => ?_) (tabR_srt l (k + 1))
    obtain ⟨h0, i, -, h2⟩ := mem_tabR.1 hc
    exact .inr ⟨h0.symm, by show (k : Int) < c.1.2; rw [h2]; omega⟩
theorem mem_rowR : ∀ {l : List β} {k : Nat} {c : Int × β}, c ∈ rowR k l ↔ ∃ i, l[i]? = some c.2 ∧ c.1 = ((k + i : Nat) : Int)
  | [], k, c => by simp [rowR]
  | x :: l, k, c => by
    rw [rowR, List.mem_cons, mem_rowR (l := l)]
    constructor
    · rintro (rfl | ⟨i, h1, h2⟩)
      · exact ⟨0, rfl, rfl⟩
      · exact ⟨i + 1, h1, by rw [h2]; omega⟩
    · rintro ⟨i, h1, h2⟩
      cases i with
      | zero =>
        left
        obtain ⟨c1, c2⟩ := c
        simp only [List.getElem?_cons_zero, Option.some.injEq] at h1
        simp only at h2
        rw [h2, h1]; rfl
      | succ i => exact .inr ⟨i, by simpa using h1, by rw [h2]; omega⟩
theorem row_tabR : ∀ (l : List β) (k : Nat), rowOf (tabR k l) 0 = rowR k l
  | [], _ => rfl
  | x :: l, k => by
    have := row_tabR l (k + 1)
    unfold rowOf at this ⊢
    rw [tabR, List.filterMap_cons, this]
    rfl
theorem get_tabR (l : List β) (b : Int) : cget (tabR 0 l) 0 b = if 0 ≤ b then l[b.toNat]? else none := by
  have hs := tabR_srt l 0
  by_cases h : 0 ≤ b
  · rw [if_pos h]
    cases hx : l[b.toNat]? with
    | some x => exact hs.get.2 (mem_tabR.2 ⟨rfl, b.toNat, hx, by show b = _; omega⟩)
    | none =>
      cases hc : cget (tabR 0 l) 0 b with
      | none => rfl
      | some y =>
        obtain ⟨-, i, h1, h2⟩ := mem_tabR.1 (hs.get.1 hc)
        have h2 : b = ((0 + i : Nat) : Int) := h2
        have e : b.toNat = i := by omega
        rw [e] at hx
        rw [hx] at h1
        cases h1
  · rw [if_neg h]
    cases hc : cget (tabR 0 l) 0 b with
    | none => rfl
    | some y =>
      obtain ⟨-, i, h1, h2⟩ := mem_tabR.1 (hs.get.1 hc)
      have h2 : b = ((0 + i : Nat) : Int) := h2
      omega
theorem put_tabR_old {l : List β} {i : Nat} (hi : i < l.length) (x : β) : cput (tabR 0 l) 0 i x = tabR 0 (l.set i x) := by
  refine SrtC.ext ((tabR_srt l 0).put 0 i x) (tabR_srt _ 0) fun c => ?_
  rw [mem_cput, mem_tabR, mem_tabR]
  constructor
  · rintro (rfl | ⟨⟨h0, j, h1, h2⟩, hne⟩)
    · exact ⟨rfl, i, by simp [hi], by simp⟩
    · refine ⟨h0, j, ?_, h2⟩
      have hj : i ≠ j := fun e => hne (by rw [← e] at h2; exact Prod.ext h0 (by rw [h2]; simp))
      rw [List.getElem?_set_ne hj]; exact h1
  · rintro ⟨h0, j, h1, h2⟩
    by_cases e : i = j
    · subst e
      left
      rw [List.getElem?_set_self hi] at h1
      obtain ⟨⟨c1, c2⟩, c3⟩ := c
      simp only [Option.some.injEq, Nat.zero_add] at h0 h1 h2
      rw [h0, h1, h2]
    · right
      rw [List.getElem?_set_ne e] at h1
      refine ⟨⟨h0, j, h1, h2⟩, fun hc => e ?_⟩
      have := congrArg Prod.snd hc
      rw [h2] at this
      simp only at this
      omega
theorem put_tabR_new (l : List β) (x : β) : cput (tabR 0 l) 0 l.length x = tabR 0 (l ++ [x]) := by
  refine SrtC.ext ((tabR_srt l 0).put 0 _ x) (tabR_srt _ 0) fun c => ?_
  rw [mem_cput, mem_tabR, mem_tabR]
  constructor
  · rintro (rfl | ⟨⟨h0, j, h1, h2⟩, hne⟩)
    · exact ⟨rfl, l.length, by simp, by simp⟩
    · refine ⟨h0, j, ?_, h2⟩
      have hj : j < l.length := (List.getElem?_eq_some_iff.1 h1).1
      rw [List.getElem?_append_left hj]; exact h1
  · rintro ⟨h0, j, h1, h2⟩
    have hj : j < l.length + 1 := by have := (List.getElem?_eq_some_iff.1 h1).1; simpa using this
    by_cases e : j = l.length
    · subst e
      left
      simp only [List.getElem?_concat_length, Option.some.injEq] at h1
      obtain ⟨⟨c1, c2⟩, c3⟩ := c
      simp only [Nat.zero_add] at h0 h1 h2
      rw [h0, ← h1, h2]
    · right
      rw [List.getElem?_append_left (by omega)] at h1
      refine ⟨⟨h0, j, h1, h2⟩, fun hc => e ?_⟩
      have := congrArg Prod.snd hc
      rw [h2] at this
      simp only at this
      omega
end
end Go.Proofs.YtpkamfbjgdmmoaaGreat
end

section
namespace Go.Proofs.YtpkamfbjgdmmoaaGreat
set_option linter.unusedVariables false
set_option linter.unusedSimpArgs false

/-- Accounts: what is free, what is held. -/
abbrev Acc := Nat → Int × Int
def acc0 : Acc := fun _ => (0, 0)
def upd (A : Acc) (a : Nat) (x : Int × Int) : Acc := fun k => if k = a then x else A k
theorem upd_same (A : Acc) (a : Nat) (x : Int × Int) : upd A a x a = x := by simp [upd]
theorem upd_other (A : Acc) {a k : Nat} (x : Int × Int) (h : k ≠ a) : upd A a x k = A k := by simp [upd, h]
def both (A : Acc) (k : Nat) : Int := (A k).1 + (A k).2
/-- What the first n accounts have. -/
def sumTo (A : Acc) : Nat → Int
  | 0 => 0
  | n + 1 => sumTo A n + both A n
theorem sumTo_upd (A : Acc) (a : Nat) (x : Int × Int) : ∀ n, sumTo (upd A a x) n = sumTo A n + (if a < n then (x.1 + x.2) - both A a else 0)
  | 0 => by simp [sumTo]
  | n + 1 => by
    rw [sumTo, sumTo, sumTo_upd A a x n]
    by_cases h : n = a
    · subst h
      have : both (upd A n x) n = x.1 + x.2 := by simp [both, upd_same]
      rw [this, if_neg (by omega), if_pos (by omega)]; omega
    · have : both (upd A a x) n = both A n := by simp [both, upd_other A x h]
      rw [this]
      by_cases h2 : a < n
      · rw [if_pos h2, if_pos (by omega)]; omega
      · rw [if_neg h2, if_neg (by omega)]; omega
/-- No account is below nought; all of them are within what may be. -/
structure AccOk (A : Acc) : Prop where
  free : ∀ k, 0 ≤ (A k).1
  held : ∀ k, 0 ≤ (A k).2
  all : sumTo A 10 ≤ 1073741824
theorem sumTo_mono {A : Acc} (h : ∀ k, 0 ≤ both A k) : ∀ {m n : Nat}, m ≤ n → sumTo A m ≤ sumTo A n := by
  intro m n hmn
  induction hmn with
  | refl => exact Int.le_refl _
  | step _ ih => rw [sumTo]; have := h; exact Int.le_trans ih (by have := h (by assumption); omega)
theorem AccOk.sum {A : Acc} (h : AccOk A) (k : Nat) : 0 ≤ both A k := by have := h.free k; have := h.held k; unfold both; omega
theorem AccOk.part {A : Acc} (h : AccOk A) {n : Nat} (hn : n ≤ 10) : 0 ≤ sumTo A n ∧ sumTo A n ≤ 1073741824 := by
  have h1 := sumTo_mono h.sum (Nat.zero_le n)
  have h2 := sumTo_mono h.sum hn
  have h3 := h.all
  rw [sumTo] at h1
  omega
theorem AccOk.one {A : Acc} (h : AccOk A) {k : Nat} (hk : k < 10) : both A k ≤ 1073741824 := by
  have h1 := h.part (n := k) (by omega)
  have h2 := h.part (n := k + 1) (by omega)
  rw [sumTo] at h2
  omega
theorem AccOk.zero : AccOk acc0 := ⟨fun k => by simp [acc0], fun k => by simp [acc0], by decide⟩
theorem AccOk.upd {A : Acc} (h : AccOk A) {a : Nat} {x : Int × Int} (ha : a < 10) (h1 : 0 ≤ x.1) (h2 : 0 ≤ x.2) (hs : sumTo A 10 + (x.1 + x.2) - both A a ≤ 1073741824) : AccOk (upd A a x) := by
  refine ⟨fun k => ?_, fun k => ?_, ?_⟩
  · by_cases e : k = a
    · subst e; rw [upd_same]; exact h1
    · rw [upd_other A x e]; exact h.free k
  · by_cases e : k = a
    · subst e; rw [upd_same]; exact h2
    · rw [upd_other A x e]; exact h.held k
  · rw [sumTo_upd, if_pos ha]; omega
/-- The greatest lock of a row. -/
def maxTo (l : List (Int × Int)) : Int := l.foldl (fun n x => max n x.2) 0
theorem maxTo_snoc (l : List (Int × Int)) (x : Int × Int) : maxTo (l ++ [x]) = max (maxTo l) x.2 := by simp [maxTo, List.foldl_append]
theorem foldl_max : ∀ (l : List (Int × Int)) (n : Int), n ≤ l.foldl (fun n x => max n x.2) n ∧ (∀ x ∈ l, x.2 ≤ l.foldl (fun n x => max n x.2) n) ∧ (l.foldl (fun n x => max n x.2) n = n ∨ ∃ x ∈ l, l.foldl (fun n x => max n x.2) n = x.2)
  | [], n => ⟨Int.le_refl _, fun x hx => absurd hx List.not_mem_nil, .inl rfl⟩
  | y :: l, n => by
    obtain ⟨h1, h2, h3⟩ := foldl_max l (max n y.2)
    rw [List.foldl_cons]
    refine ⟨by omega, fun x hx => ?_, ?_⟩
    · rcases List.mem_cons.1 hx with rfl | hx
      · omega
      · exact h2 x hx
    · rcases h3 with h3 | ⟨x, hx, h3⟩
      · rcases Int.le_total n y.2 with h | h
        · exact .inr ⟨y, List.mem_cons_self, by rw [h3]; omega⟩
        · exact .inl (by rw [h3]; omega)
      · exact .inr ⟨x, List.mem_cons_of_mem _ hx, h3⟩
theorem maxTo_nonneg (l : List (Int × Int)) : 0 ≤ maxTo l := (foldl_max l 0).1
theorem maxTo_le {l : List (Int × Int)} {x : Int × Int} (h : x ∈ l) : x.2 ≤ maxTo l := (foldl_max l 0).2.1 x h
theorem maxTo_is (l : List (Int × Int)) : maxTo l = 0 ∨ ∃ x ∈ l, maxTo l = x.2 := (foldl_max l 0).2.2
/-- What is locked of an account. -/
def lockedOf (M : Cls Int) (a : Int) : Int := maxTo (rowOf M a)
def isAcc (a : Int) : Prop := 0 ≤ a ∧ a < 10
instance (a : Int) : Decidable (isAcc a) := by unfold isAcc; infer_instance
def isBal (n : Int) : Prop := 0 ≤ n ∧ n ≤ 1073741824
instance (a : Int) : Decidable (isBal a) := by unfold isBal; infer_instance
/-- May n be taken from what a has free? -/
def spendE (A : Acc) (M : Cls Int) (a n : Int) (back : Bool) : Int :=
  if ¬ isAcc a ∨ ¬ isBal n then 1 else if (A a.toNat).1 < n then 6 else if 0 < n ∧ back = false ∧ (A a.toNat).1 - n < lockedOf M a then 7 else 0
def spendA (A : Acc) (a n : Int) : Acc := upd A a.toNat ((A a.toNat).1 - n, (A a.toNat).2)
theorem spendE_ok {A : Acc} {M : Cls Int} {a n : Int} {b : Bool} (h : spendE A M a n b = 0) : isAcc a ∧ isBal n ∧ n ≤ (A a.toNat).1 := by
  unfold spendE at h
  split at h
  · cases h
  · rename_i h1
    split at h
    · cases h
    · rename_i h2
      exact ⟨by simpa using fun k => h1 (.inl k), by simpa using fun k => h1 (.inr k), by omega⟩
theorem spendA_ok {A : Acc} (h : AccOk A) {a n : Int} (ha : isAcc a) (hn : isBal n) (hf : n ≤ (A a.toNat).1) : AccOk (spendA A a n) := by
  unfold isAcc at ha
  unfold isBal at hn
  have := h.held a.toNat
  have := h.all
  exact h.upd (by omega) (by simp only; omega) (by simpa using h.held _) (by unfold both; simp only; omega)
end Go.Proofs.YtpkamfbjgdmmoaaGreat
end

section
namespace Go.Proofs
open Go.Shelf
def Tryz.keysA_ren : Go.Shelf.Ren := ⟨fun | 7 => 162 | 10 => 166 | n => n, fun | 23 => 241 | 26 => 3 | 3 => 3 | 28 => 250 | 0 => 0 | 27 => 249 | 33 => 72 | 4 => 4 | n => n, fun | n => n⟩
theorem Tryz.keysA : Go.Proofs.SlLaysZI.n7 Tryz.prog Tryz.keysA_ren := {
  mixed := by kernel_rfl
  f7 := ⟨Tryz.f162.name, by decide, Tryz.func162.trans (congrArg some (by kernel_rfl))⟩
  f10 := ⟨Tryz.f166.name, by decide, Tryz.func166.trans (congrArg some (by kernel_rfl))⟩
  t0 := Tryz.underlying0
  a0 := Tryz.isAgg0
  z0 := Tryz.sizeOf0
  v0 := Tryz.zeroValue0
  t4 := Tryz.underlying4
  a4 := Tryz.isAgg4
  z4 := Tryz.sizeOf4
  v4 := Tryz.zeroValue4
  t23 := Tryz.underlying241
  a23 := Tryz.isAgg241
  z23 := Tryz.sizeOf241
  v23 := Tryz.zeroValue241
  t26 := Tryz.underlying3
  a26 := Tryz.isAgg3
  z26 := Tryz.sizeOf3
  v26 := Tryz.zeroValue3
  t27 := Tryz.underlying249
  a27 := Tryz.isAgg249
  z27 := Tryz.sizeOf249
  v27 := Tryz.zeroValue249
  t28 := Tryz.underlying250
  a28 := Tryz.isAgg250
  z28 := Tryz.sizeOf250
  v28 := Tryz.zeroValue250
  t33 := Tryz.underlying72
  a33 := Tryz.isAgg72
  z33 := Tryz.sizeOf72
  v33 := Tryz.zeroValue72 }
def Tryz.sortedA_ren : Go.Shelf.Ren := ⟨fun | 6 => 150 | 8 => 158 | 9 => 159 | 11 => 163 | 13 => 165 | 12 => 164 | 23 => 176 | 24 => 177 | 14 => 167 | 15 => 168 | 16 => 169 | 17 => 170 | 18 => 171 | 19 => 172 | 20 => 173 | 21 => 174 | 22 => 175 | 25 => 178 | 26 => 179 | 27 => 180 | 28 => 181 | 29 => 182 | 30 => 118 | 31 => 183 | n => n, fun | 26 => 3 | 28 => 250 | 24 => 22 | 0 => 0 | 3 => 3 | 37 => 247 | 48 => 270 | 50 => 272 | 4 => 4 | 40 => 264 | 39 => 263 | 45 => 238 | 5 => 5 | 9 => 9 | 51 => 273 | 55 => 277 | 57 => 279 | 58 => 203 | 33 => 72 | n => n, fun | n => n⟩
theorem Tryz.sortedA : Go.Proofs.SlLaysZI.n6 Tryz.prog Tryz.sortedA_ren := {
  mixed := by kernel_rfl
  f6 := ⟨Tryz.f150.name, by decide, Tryz.func150.trans (congrArg some (by kernel_rfl))⟩
  f8 := ⟨Tryz.f158.name, by decide, Tryz.func158.trans (congrArg some (by kernel_rfl))⟩
  f11 := ⟨Tryz.f163.name, by decide, Tryz.func163.trans (congrArg some (by kernel_rfl))⟩
  t0 := Tryz.underlying0
  a0 := Tryz.isAgg0
  z0 := Tryz.sizeOf0
  v0 := Tryz.zeroValue0
  t24 := Tryz.underlying22
  a24 := Tryz.isAgg22
  z24 := Tryz.sizeOf22
  v24 := Tryz.zeroValue22
  t26 := Tryz.underlying3
  a26 := Tryz.isAgg3
  z26 := Tryz.sizeOf3
  v26 := Tryz.zeroValue3
  t28 := Tryz.underlying250
  a28 := Tryz.isAgg250
  z28 := Tryz.sizeOf250
  v28 := Tryz.zeroValue250
  i26 := by kernel_rfl }
def Tryz.sortA_ren : Go.Shelf.Ren := ⟨fun | 5 => 159 | 8 => 165 | 7 => 164 | 19 => 176 | 20 => 177 | 10 => 167 | 11 => 168 | 12 => 169 | 13 => 170 | 14 => 171 | 15 => 172 | 16 => 173 | 17 => 174 | 18 => 175 | 30 => 178 | 31 => 179 | 32 => 180 | 33 => 181 | 34 => 182 | 35 => 118 | 40 => 183 | n => n, fun | 23 => 22 | 25 => 3 | 3 => 3 | 32 => 247 | 22 => 22 | 0 => 0 | 44 => 270 | 46 => 272 | 4 => 4 | 36 => 264 | 35 => 263 | 41 => 238 | 5 => 5 | 9 => 9 | 53 => 273 | 57 => 277 | 63 => 279 | 64 => 203 | n => n, fun | n => n⟩
theorem Tryz.sortA : Go.Proofs.SlLaysM.n5 Tryz.prog Tryz.sortA_ren := {
  mixed := by kernel_rfl
  f5 := ⟨Tryz.f159.name, by decide, Tryz.func159.trans (congrArg some (by kernel_rfl))⟩
  f7 := ⟨Tryz.f164.name, by decide, Tryz.func164.trans (congrArg some (by kernel_rfl))⟩
  f8 := Tryz.func165.trans (congrArg some (by kernel_rfl))
  f10 := ⟨Tryz.f167.name, by decide, Tryz.func167.trans (congrArg some (by kernel_rfl))⟩
  f11 := ⟨Tryz.f168.name, by decide, Tryz.func168.trans (congrArg some (by kernel_rfl))⟩
  f12 := ⟨Tryz.f169.name, by decide, Tryz.func169.trans (congrArg some (by kernel_rfl))⟩
  f13 := ⟨Tryz.f170.name, by decide, Tryz.func170.trans (congrArg some (by kernel_rfl))⟩
  f14 := ⟨Tryz.f171.name, by decide, Tryz.func171.trans (congrArg some (by kernel_rfl))⟩
  f15 := ⟨Tryz.f172.name, by decide, Tryz.func172.trans (congrArg some (by kernel_rfl))⟩
  f16 := ⟨Tryz.f173.name, by decide, Tryz.func173.trans (congrArg some (by kernel_rfl))⟩
  f17 := ⟨Tryz.f174.name, by decide, Tryz.func174.trans (congrArg some (by kernel_rfl))⟩
  f18 := ⟨Tryz.f175.name, by decide, Tryz.func175.trans (congrArg some (by kernel_rfl))⟩
  f19 := Tryz.func176.trans (congrArg some (by kernel_rfl))
  f20 := Tryz.func177.trans (congrArg some (by kernel_rfl))
  f30 := ⟨Tryz.f178.name, by decide, Tryz.func178.trans (congrArg some (by kernel_rfl))⟩
  f31 := Tryz.func179.trans (congrArg some (by kernel_rfl))
  f32 := Tryz.func180.trans (congrArg some (by kernel_rfl))
  f33 := ⟨Tryz.f181.name, by decide, Tryz.func181.trans (congrArg some (by kernel_rfl))⟩
  f34 := ⟨Tryz.f182.name, by decide, Tryz.func182.trans (congrArg some (by kernel_rfl))⟩
  f35 := ⟨Tryz.f118.name, by decide, Tryz.func118.trans (congrArg some (by kernel_rfl))⟩
  f40 := ⟨Tryz.f183.name, by decide, Tryz.func183.trans (congrArg some (by kernel_rfl))⟩
  t0 := Tryz.underlying0
  a0 := Tryz.isAgg0
  z0 := Tryz.sizeOf0
  v0 := Tryz.zeroValue0
  t3 := Tryz.underlying3
  a3 := Tryz.isAgg3
  z3 := Tryz.sizeOf3
  v3 := Tryz.zeroValue3
  t4 := Tryz.underlying4
  a4 := Tryz.isAgg4
  z4 := Tryz.sizeOf4
  v4 := Tryz.zeroValue4
  t5 := Tryz.underlying5
  a5 := Tryz.isAgg5
  z5 := Tryz.sizeOf5
  v5 := Tryz.zeroValue5
  t9 := Tryz.underlying9
  a9 := Tryz.isAgg9
  z9 := Tryz.sizeOf9
  v9 := Tryz.zeroValue9
  t22 := Tryz.underlying22
  a22 := Tryz.isAgg22
  z22 := Tryz.sizeOf22
  v22 := Tryz.zeroValue22
  t23 := Tryz.underlying22
  a23 := Tryz.isAgg22
  z23 := Tryz.sizeOf22
  v23 := Tryz.zeroValue22
  t25 := Tryz.underlying3
  a25 := Tryz.isAgg3
  z25 := Tryz.sizeOf3
  v25 := Tryz.zeroValue3
  t32 := Tryz.underlying247
  a32 := Tryz.isAgg247
  z32 := Tryz.sizeOf247
  v32 := Tryz.zeroValue247
  t35 := Tryz.underlying263
  a35 := Tryz.isAgg263
  z35 := Tryz.sizeOf263
  v35 := Tryz.zeroValue263
  t36 := Tryz.underlying264
  a36 := Tryz.isAgg264
  z36 := Tryz.sizeOf264
  v36 := Tryz.zeroValue264
  t41 := Tryz.underlying238
  a41 := Tryz.isAgg238
  z41 := Tryz.sizeOf238
  v41 := Tryz.zeroValue238
  t44 := Tryz.underlying270
  a44 := Tryz.isAgg270
  z44 := Tryz.sizeOf270
  v44 := Tryz.zeroValue270
  t46 := Tryz.underlying272
  a46 := Tryz.isAgg272
  z46 := Tryz.sizeOf272
  v46 := Tryz.zeroValue272
  t53 := Tryz.underlying273
  a53 := Tryz.isAgg273
  z53 := Tryz.sizeOf273
  v53 := Tryz.zeroValue273
  t57 := Tryz.underlying277
  a57 := Tryz.isAgg277
  z57 := Tryz.sizeOf277
  v57 := Tryz.zeroValue277
  t63 := Tryz.underlying279
  a63 := Tryz.isAgg279
  z63 := Tryz.sizeOf279
  v63 := Tryz.zeroValue279
  t64 := Tryz.underlying203
  a64 := Tryz.isAgg203
  z64 := Tryz.sizeOf203
  v64 := Tryz.zeroValue203 }
end Go.Proofs
end

section
namespace Go.Proofs.YtpkamfbjgdmmoaaGreat
open Go.RowKit Go.Maps Go.Sort Go.Shelf
set_option linter.unusedVariables false
set_option linter.unusedSimpArgs false

theorem sorted_keys {β : Type} {m : List (Int × β)} (h : SrtK m) {ss : List Int} (hp : ss.Perm (m.map (·.1))) : ss.mergeSort (fun x y => decide (x ≤ y)) = m.map (·.1) := by
  have e : ss.mergeSort leI = (m.map (·.1)).mergeSort leI := mergeSort_of_perm_i hp
  rw [show (fun x y : Int => decide (x ≤ y)) = leI from rfl, e]
  refine List.mergeSort_of_pairwise ?_
  refine List.pairwise_map.2 (h.imp (fun {a b} hab => ?_))
  simp only [leI, decide_eq_true_eq]
  omega

theorem sortsA (m : Nat) : AnyZI.SortsIn Tryz.prog Tryz.sortedA_ren Fence.wide m :=
  ⟨fun blk off cap ss W hH hblk hsz => callsIn_wide.2 (AnyM.slices_Sort_int Tryz.sortA blk off cap ss W hH hblk hsz),
   fun p cap W => callsIn_wide.2 (AnyM.slices_Sort_int_none Tryz.sortA p cap W)⟩

set_option maxHeartbeats 1000000 in
theorem rising_I {β : Type} {c : Cod β} {b : Nat} {m : List (Int × β)} {w : World} (h : MapAt c b m w) (hm : m.length ≤ 1000000) :
    Calls Tryz.prog 156 #[.map (some b)] w fun e w' => ∃ v, e = .returned v ∧ w'.ownsRow w.heap.size 3 1 v m.length (m.map fun x => Value.int .i64 x.1) ∧ (v = .slice none 0 0 ↔ m = []) ∧ Below w.heap.size w w' := by
  refine (callsIn_wide (n := 6)).1 ?_
  have hbl := h.lt
  obtain ⟨nn, D0, hown, h1, h2⟩ := h.own
  have hs := MapAt.size h.srt hown h1
  have hperm := MapAt.keys h.srt hown h1
  have hseq : SeqGives Fence.wide 2 Tryz.prog 166 #[.pointer (some ⟨w.heap.size, 0, none⟩)] encZ (fun ss => ss.Perm (intKeys D0)) (Maps.size D0) (w.alloc (.cells #[.map (some b)] 241)) :=
    AnyZI.keys_gives (ρ := Tryz.keysA_ren) { Tryz.keysA with } Fence.wide _ trivial rfl (by omega) w.heap.size b nn D0 _ (by simp) (by simp) (hown.alloc _)
  have cK : ∀ mb W, CallsIn Fence.wide 5 Tryz.prog 162 #[.map mb] W fun e w' => e = .returned (.func (.func 166) #[] #[.pointer (some ⟨W.heap.size, 0, none⟩)]) ∧ w' = W.alloc (.cells #[.map mb] 241) := fun mb W => AnyZI.keys_in Tryz.keysA Fence.wide 5 trivial rfl mb W
  have cS := AnyZI.sorted_in Tryz.sortedA Fence.wide 5 trivial trivial trivial trivial rfl (by omega) (sortsA _) (enters_of Tryz.func159 (by kernel_rfl) rfl) 166 #[.pointer (some ⟨w.heap.size, 0, none⟩)] trivial (enters_of Tryz.func166 (by kernel_rfl) rfl) _ _ (by rw [hs]; unfold maxLen; omega) (by rw [hs]; omega) _ hseq
  change CallsIn _ _ Tryz.prog 150 _ _ _ at cS
  have hfK : Fence.wide.fn 162 := trivial
  have hfS : Fence.wide.fn 150 := trivial
  have Hd := Lib.hid (And.intro hs (And.intro hperm (And.intro h1 h.srt)))
  clear hs hperm h1 h2 hm
  refine callsIn_of_wp Tryz.func156 rfl trivial ?_ rfl
  simp only [Tryz.ntmps156, List.size_toArray, List.length_cons, List.length_nil, Nat.reduceAdd, Nat.reduceSub, Array.replicate_succ, Array.replicate_zero, List.push_toArray, List.append_toArray, List.nil_append, List.cons_append]
  gi_wp2_with (first
    | (gi_at_call 162; refine (cK _ _).mono ?_; rintro e w' ⟨rfl, rfl⟩)
    | (gi_at_call 150; refine cS.mono ?_; rintro e w' ⟨v, ss, rfl, hS, hrow, hnil, hb⟩)
    | fail)
  go_ret
  obtain ⟨hs, hperm, h1, hsrt⟩ := Hd.out
  have hp : ss.Perm (m.map (·.1)) := hS.trans hperm.symm
  have hl : ss.length = m.length := by rw [hp.length_eq]; simp
  have hsk := sorted_keys hsrt hp
  refine ⟨v, rfl, ?_, ?_, ((Below.refl _ w).alloc (Nat.le_refl _) _).trans (hb.mono (by simp))⟩
  · have : w'.ownsRow w.heap.size 3 1 v ss.length ((ss.mergeSort (fun x y => decide (x ≤ y))).map encZ) := ownsRow_base_a hrow (by simp)
    rw [hsk, hl] at this
    simpa [encZ, Function.comp_def] using this
  · rw [hnil, ← List.length_eq_zero_iff, ← List.length_eq_zero_iff, hl]

set_option maxHeartbeats 1000000 in
theorem rising_I_nil (w : World) : Calls Tryz.prog 156 #[.map none] w fun e w' => e = .returned (.slice none 0 0) ∧ Below w.heap.size w w' := by
  refine (callsIn_wide (n := 6)).1 ?_
  have hseq : SeqGives Fence.wide 2 Tryz.prog 166 #[.pointer (some ⟨w.heap.size, 0, none⟩)] encZ (fun ss : List Int => ss = []) 0 (w.alloc (.cells #[.map none] 241)) :=
    AnyZI.keys_gives_nil (ρ := Tryz.keysA_ren) { Tryz.keysA with } Fence.wide _ trivial rfl w.heap.size _ (by simp) (by simp)
  have cK : ∀ mb W, CallsIn Fence.wide 5 Tryz.prog 162 #[.map mb] W fun e w' => e = .returned (.func (.func 166) #[] #[.pointer (some ⟨W.heap.size, 0, none⟩)]) ∧ w' = W.alloc (.cells #[.map mb] 241) := fun mb W => AnyZI.keys_in Tryz.keysA Fence.wide 5 trivial rfl mb W
  have cS := AnyZI.sorted_in Tryz.sortedA Fence.wide 5 trivial trivial trivial trivial rfl (by omega) (sortsA _) (enters_of Tryz.func159 (by kernel_rfl) rfl) 166 #[.pointer (some ⟨w.heap.size, 0, none⟩)] trivial (enters_of Tryz.func166 (by kernel_rfl) rfl) _ 0 (Nat.zero_le _) (by omega) _ hseq
  change CallsIn _ _ Tryz.prog 150 _ _ _ at cS
  have hfK : Fence.wide.fn 162 := trivial
  have hfS : Fence.wide.fn 150 := trivial
  refine callsIn_of_wp Tryz.func156 rfl trivial ?_ rfl
  simp only [Tryz.ntmps156, List.size_toArray, List.length_cons, List.length_nil, Nat.reduceAdd, Nat.reduceSub, Array.replicate_succ, Array.replicate_zero, List.push_toArray, List.append_toArray, List.nil_append, List.cons_append]
  gi_wp2_with (first
    | (gi_at_call 162; refine (cK _ _).mono ?_; rintro e w' ⟨rfl, rfl⟩)
    | (gi_at_call 150; refine cS.mono ?_; rintro e w' ⟨v, ss, rfl, rfl, hrow, hnil, hb⟩; obtain rfl : v = .slice none 0 0 := hnil.2 rfl)
    | fail)
  go_ret
  exact ⟨rfl, ((Below.refl _ w).alloc (Nat.le_refl _) _).trans (hb.mono (by simp))⟩

end Go.Proofs.YtpkamfbjgdmmoaaGreat
end

section
namespace Go.Proofs.YtpkamfbjgdmmoaaGreat
open Go.RowKit
attribute [local go_sem] Oper.semAt_some
set_option linter.unusedVariables false
set_option linter.unusedSimpArgs false

def Is (l : List Int) : List Value := l.map fun x => Value.int .i64 x
/-- Numbers that the call owns. -/
def OwnN (B : Nat) (v : Value) (l : List Int) (w : World) : Prop := w.ownsRow B 3 1 v l.length (Is l)
theorem infoI : (Tryz.prog.info? 3).map (fun i => (i.zero, i.size, i.bytes)) = some (some (.int .i64 0), 1, 8) := by kernel_rfl
theorem OwnN.nil (w : World) (B : Nat) : OwnN B (.slice none 0 0) [] w := World.ownsRow_nil w B _ 1
theorem OwnN.lenOf {B : Nat} {v : Value} {l : List Int} {w : World} (h : OwnN B v l w) : ∃ ao cap, v = .slice ao l.length cap := by
  rcases h.2 with ⟨rfl, e⟩ | ⟨g, cap, cur, rfl, -⟩
  · exact ⟨none, 0, by rw [e]⟩
  · exact ⟨_, _, rfl⟩
theorem OwnN.block {B : Nat} {v : Value} {l : List Int} {w : World} (h : OwnN B v l w) {k : Nat} (hk : v.ownBlock = some k) : B ≤ k ∧ k < w.heap.size := World.ownsRow.lt h k hk
theorem OwnN.of {B S' : Nat} {v : Value} {l : List Int} {w w' : World} (h : OwnN B v l w) (hS : S' ≤ B) (hk : ∀ k, v.ownBlock = some k → w'.heap[k]? = w.heap[k]?) : OwnN S' v l w' := by
  obtain ⟨h1, h2⟩ := h
  refine ⟨h1, ?_⟩
  rcases h2 with h2 | ⟨g, cap, cur, rfl, hb, hg, hn, hm, hs, ht⟩
  · exact .inl h2
  · exact .inr ⟨g, cap, cur, rfl, by omega, (hk g rfl).trans hg, hn, hm, hs, ht⟩
section
variable {F : Fence} {nF : Nat} {w : World} {ops : Array Oper} {rest : List Oper} {o : Oper} {a : Act} {Q : Exit → Act → World → Prop}
theorem wplIn_appN_at {s x : Operand} {B ub : Nat} {v : Value} {xs : List Int} {y : Int} (hgd : o.guard = none) (ho : o.op = .call { callee := .builtin .append, args := #[s, x], argTypes := #[22, 22] }) (hs : a.eval s = v) (hx : a.eval x = .slice (some ⟨ub, 0, none⟩) 1 1)
    (hown : OwnN B v xs w) (hc : w.cell? ⟨ub, 0, none⟩ = some (.int .i64 y)) (hlen : xs.length ≤ 100000) (hB : B ≤ w.heap.size)
    (h : ∀ v' w', OwnN B v' (xs ++ [y]) w' → w.grownBy w' v.ownBlock → (v'.ownBlock = v.ownBlock ∨ v'.ownBlock = some w.heap.size) → wpListIn F nF Tryz.prog ops Q rest (a.put o.dst v') w') : wpListIn F nF Tryz.prog ops Q (o :: rest) a w := by
  obtain ⟨i0, hi, hz⟩ := Option.map_eq_some_iff.1 infoI
  simp only [Prod.mk.injEq] at hz
  obtain ⟨hz0, hz1, hz2⟩ := hz
  refine wpListIn_append_own_at _ hgd s x _ ho B 3 i0 (.int .i64 0) 1 8 Tryz.underlying22 hi hz0 hz1 hz2 rfl (by decide) v _ _ hs hown ⟨ub, 0, none⟩ 1 1 [.int .i64 y] hx (by simp)
    (fun j u hj => by
      cases j with
      | zero => simp only [List.getElem?_cons_zero, Option.some.injEq] at hj; subst hj; rw [Addr.add_mid]; exact hc
      | succ j => simp at hj) (by simp [Value.oneCell']) (by unfold maxLen; omega) (by omega) hB ?_
  intro v' w' h1 h2 _ h4
  refine h v' w' ?_ h2 h4
  unfold OwnN
  rw [List.length_append]
  simpa [Is] using h1
end
/-- Numbers that are only read. -/
def RdN (w : World) (v : Value) (l : List Int) : Prop := ∃ ao cap, v = .slice ao l.length cap ∧ ∀ i (hi : i < l.length), ∃ b off, ao = some ⟨b, off, none⟩ ∧ w.cell? ⟨b, off + i, none⟩ = some (.int .i64 l[i]) ∧ b < w.heap.size
theorem RdN.below {w w' : World} {v : Value} {l : List Int} (h : RdN w v l) (hb : Below w.heap.size w w') : RdN w' v l := by
  obtain ⟨ao, cap, e, h2⟩ := h
  refine ⟨ao, cap, e, fun i hi => ?_⟩
  obtain ⟨b, off, e1, e2, e3⟩ := h2 i hi
  exact ⟨b, off, e1, (World.cell?_of_block (a := ⟨b, off + i, none⟩) (hb.block b e3)).trans e2, Nat.lt_of_lt_of_le e3 hb.size⟩
theorem OwnN.reads {B : Nat} {v : Value} {l : List Int} {w : World} (h : OwnN B v l w) : RdN w v l := by
  have h0 := h
  obtain ⟨hl, h2⟩ := h
  rcases h2 with ⟨rfl, e⟩ | ⟨g, cap, cur, rfl, _, hg, _, _, hs, ht⟩
  · exact ⟨none, 0, by rw [e], fun i hi => by omega⟩
  · refine ⟨some ⟨g, 0, none⟩, cap, rfl, fun i hi => ⟨g, 0, rfl, ?_, (h0.block rfl).2⟩⟩
    rw [World.cell?, hg]
    have h1 : (Is l)[i]? = some (.int .i64 l[i]) := by simp [Is, hi]
    rw [← ht, List.getElem?_take_of_lt (by omega)] at h1
    simpa using h1
def appI (args : Array Value) : Sem Value := Builtin.append_ #[22, 22] 22 args
theorem append_hide (args : Array Value) : Builtin.append_ #[22, 22] 22 args = appI args := rfl
theorem run_appI {w : World} {B ub : Nat} {v : Value} {xs : List Int} {y : Int} (hown : OwnN B v xs w) (hc : w.cell? ⟨ub, 0, none⟩ = some (.int .i64 y)) (hlen : xs.length ≤ 100000) (hB : B ≤ w.heap.size) :
    ∃ v' w', (appI #[v, .slice (some ⟨ub, 0, none⟩) 1 1]).run Tryz.prog w = .ok v' w' ∧ OwnN B v' (xs ++ [y]) w' ∧ w.grownBy w' v.ownBlock ∧ (v'.ownBlock = v.ownBlock ∨ v'.ownBlock = some w.heap.size) := by
  obtain ⟨i0, hi, hz⟩ := Option.map_eq_some_iff.1 infoI
  simp only [Prod.mk.injEq] at hz
  obtain ⟨hz0, hz1, hz2⟩ := hz
  obtain ⟨v', w', h1, h2, h3, -, h5⟩ := run_append_own_at (P := Tryz.prog) (w := w) B 22 22 3 i0 (.int .i64 0) 1 8 Tryz.underlying22 hi hz0 hz1 hz2 rfl (by decide) v _ _ hown ⟨ub, 0, none⟩ 1 1 [.int .i64 y] (by simp)
    (fun j u hj => by
      cases j with
      | zero => simp only [List.getElem?_cons_zero, Option.some.injEq] at hj; subst hj; rw [Addr.add_mid]; exact hc
      | succ j => simp at hj) (by simp [Value.oneCell']) (by unfold maxLen; omega) (by omega) hB
  refine ⟨v', w', h1, ?_, h3, h5⟩
  unfold OwnN
  rw [List.length_append]
  simpa [Is] using h2
end Go.Proofs.YtpkamfbjgdmmoaaGreat
end

section
namespace Go.Proofs.YtpkamfbjgdmmoaaGreat
open Go.RowKit
set_option linter.unusedVariables false
theorem region_calm {n : Nat} {P : Program} {c : Code} {K : Act → World → Prop} {Q : Exit → Act → World → Prop} {a : Act} {w : World} (h : c.wp P (Exit.then K (fun _ _ _ => False)) a w) : c.wpIn Fence.wide n P (Exit.then K Q) a w :=
  wpIn_mono (wpIn_wide.2 h) (fun e a w hq => by cases e <;> first | exact hq | exact hq.elim)
theorem region_meet {n : Nat} {P : Program} {c : Code} {K : Act → World → Prop} {Q : Exit → Act → World → Prop} {a : Act} {w : World} {R : Act → World → Prop} (h : c.wp P (Exit.then R (fun _ _ _ => False)) a w) (hK : ∀ a w, R a w → K a w) : c.wpIn Fence.wide n P (Exit.then K Q) a w :=
  wpIn_mono (wpIn_wide.2 h) (fun e a w hq => by cases e <;> first | exact hK _ _ hq | exact hq.elim)
section
variable {P : Program} {ops : Array Oper} {md : Region.Mode} {w : World} {n : Nat}
theorem wpIn_of_still {o : Oper} {a : Act} {K : Act → Prop} {K' : Act → World → Prop} {Q' : Exit → Act → World → Prop} (h : ∀ a, K a → K' a w) (hh : o.still P a w K) : o.wpIn Fence.wide n P a w K' Q' := by
  unfold Oper.still at hh
  unfold Oper.wpIn
  refine ⟨fun f _ => trivial, ?_⟩
  have e : o.semAt Fence.wide.round a.eval = execOp a.eval o := rfl
  rw [e]
  generalize (execOp a.eval o).run P w = r at *
  cases r with
  | ok x w' =>
    cases x <;> simp only [Oper.stillUpon] at hh <;> simp only [Oper.uponIn]
    case enter f args =>
      obtain ⟨rfl, v, hc, hn⟩ := hh
      exact ⟨fun h => by simp [Fence.wide] at h, (callsIn_wide.2 hc).mono fun e w'' ⟨he, hw⟩ => by subst he; subst hw; exact h _ hn⟩
    all_goals (obtain ⟨rfl, h2⟩ := hh; exact h _ h2)
  | halt x w' => simp only [Oper.stillUpon] at hh
theorem wpOpIn_of_stOp {i : Nat} {a : Act} {K : Act → Prop} {K' : Act → World → Prop} {Q' : Exit → Act → World → Prop} (h : ∀ a, K a → K' a w) (hh : stOp P ops w i K a) : wpOpIn Fence.wide n P ops Q' i K' a w := by
  unfold stOp at hh
  unfold wpOpIn
  split
  · rename_i ho; simp only [ho] at hh; exact h _ hh
  · rename_i o ho
    simp only [ho] at hh
    split
    · rename_i hw; simp only [hw, if_true] at hh; exact wpIn_of_still h hh
    · rename_i hw; simp only [hw] at hh; exact ⟨fun f _ => trivial, h _ hh⟩
theorem wpAnyIn_of_head {m g : Nat} {L : Array Bool → Act → Prop} {Q' : Exit → Act → World → Prop} (hL : ∀ listed a, L listed a → wpAnyIn Fence.wide n P md ops Q' g listed a w) :
    ∀ (f : Nat) (listed : Array Bool) (a : Act), wpAnyL P md ops w m L f listed a → wpAnyIn Fence.wide n P md ops Q' (f + g) listed a w
  | 0, listed, a, h => by rw [Nat.zero_add]; exact hL _ _ h
  | f + 1, listed, a, h => by
    rw [show f + 1 + g = (f + g) + 1 by omega]
    exact ⟨fun h0 => absurd h0 h.1, fun i hi => wpOpIn_of_stOp (fun a' h' => wpAnyIn_of_head hL f _ a' h') (h.2 i hi).2⟩
theorem wpAnyIn_of_seq {Q' : Exit → Act → World → Prop} : ∀ (l : List Oper) (k : Nat) (listed : Array Bool) (a : Act) (w : World), (∀ j, l[j]? = ops[k + j]?) →
    Region.seqB md ops l.length k listed = true → wpListIn Fence.wide n P ops Q' l a w → wpAnyIn Fence.wide n P md ops Q' l.length listed a w
  | [], _, _, _, _, _, hB, h => ⟨by simpa [Region.seqB] using hB, h⟩
  | o :: l, k, listed, a, w, hl, hB, h => by
    have h0 : ops[k]? = some o := by simpa using (hl 0).symm
    simp only [List.length_cons, Region.seqB, Bool.and_eq_true, decide_eq_true_eq] at hB
    refine ⟨fun h1 => (by rw [hB.1] at h1; cases h1), fun i hi => ?_⟩
    rw [hB.1] at hi
    have hik : i = k := by simpa using hi
    subst hik
    have hw : wpOpIn Fence.wide n P ops Q' i (wpListIn Fence.wide n P ops Q' l) a w := by unfold wpOpIn; simp only [h0]; exact h
    exact wpOpIn_mono (fun a' w' h' => wpAnyIn_of_seq l (i + 1) _ a' w' (fun j => by have := hl (j + 1); simpa [Nat.add_assoc, Nat.add_comm 1 j] using this) hB.2 h') hw
theorem wpIn_region_still_tail {id : Nat} {Q : Exit → Act → World → Prop} {a : Act} {w : World} {l : List Oper} (m : Nat) (hm : P.follows .mixedOrders = true) (hB : Region.lexTailB .any l.toArray m = true)
    (h : wpStill P l.toArray { w with drawn := w.drawn + 1 } (fun a' => wpListIn Fence.wide n P l.toArray Q (l.drop m) a' { w with drawn := w.drawn + 1 }) (l.take m) a) : (Code.region id l.toArray true).wpIn Fence.wide n P Q a w := by
  simp only [Region.lexTailB, Bool.and_eq_true, decide_eq_true_eq] at hB
  obtain ⟨⟨⟨⟨hsel, hn⟩, hs⟩, hc⟩, hlex⟩ := hB
  have hn' : m < l.length := by simpa using hn
  have htl : (l.take m).length = m := by simp; omega
  have hdl : (l.drop m).length = l.toArray.size - m := by simp
  have inv0 : HeadInv .any l.toArray m (Array.replicate l.toArray.size false) :=
    ⟨by simp, fun j oj _ hl => (by rw [getD_replicate_false] at hl; cases hl), fun t _ ht => getD_in (by simpa using ht) (getD_replicate_false _ _)⟩
  have H := wpAnyL_lex (md := .any) (g := l.toArray.size - m) hsel hs hc hn (l.take m) 0 _ a (fun j hj => by
    have hj' : j < m := by rw [htl] at hj; exact hj
    simp [hj']) (by simpa using htl) inv0 (by rw [htl]; exact hlex) h
  refine wpIn_region_any hm ?_
  have := wpAnyIn_of_head (n := n) (Q' := Q) (g := l.toArray.size - m) (fun listed a' hL => by
    have := wpAnyIn_of_seq (n := n) (md := .any) (Q' := Q) (l.drop m) m listed a' { w with drawn := w.drawn + 1 } (fun j => by simp [List.getElem?_drop]) (by rw [hdl]; exact hL.1) hL.2
    rwa [hdl] at this) _ _ _ H
  rw [htl, show m + (l.toArray.size - m) = l.toArray.size by omega] at this
  exact this
end
end Go.Proofs.YtpkamfbjgdmmoaaGreat
end

section
namespace Go.Proofs.YtpkamfbjgdmmoaaGreat
open Go.RowKit Go.Maps Go.Shelf
attribute [local go_sem] Oper.semAt_some
set_option linter.unusedVariables false
set_option linter.unusedSimpArgs false

theorem Only.undrew {Ψ Φ : FP} {A B : World} (h : Only Ψ Φ A.drew B) : Only Ψ Φ A B := ⟨⟨h.grow.os, h.grow.tape, h.grow.output, h.grow.size⟩, h.block⟩
theorem pre_snoc {α : Type} {xs : List α} {k : Nat} (h : k < xs.length) : xs.take k ++ [xs[k]] = xs.take (k + 1) := by rw [List.take_succ_eq_append_getElem h]
theorem OwnN.at {B : Nat} {v : Value} {l : List Int} {w : World} (h : OwnN B v l w) {k : Nat} (hk : k < l.length) : ∃ b cap, v = .slice (some ⟨b, 0, none⟩) l.length cap ∧ w.cell? ⟨b, k, none⟩ = some (.int .i64 l[k]) ∧ B ≤ b ∧ b < w.heap.size := by
  obtain ⟨ao, cap, rfl, h2⟩ := h.reads
  obtain ⟨b, off, rfl, e2, e3⟩ := h2 k hk
  rcases h.2 with ⟨e, _⟩ | ⟨g, c', cur, e, hb, _⟩
  · cases e
  · have : (some ⟨b, off, none⟩ : Option Addr) = some ⟨g, 0, none⟩ := by injection e
    injection this with this
    injection this with t1 t2 t3
    subst t1 t2
    rw [Nat.zero_add] at e2
    exact ⟨b, cap, rfl, e2, hb, e3⟩

/-- What a look at a table finds. -/
theorem GrAt.look_I {g : Nat} {M : Cls Int} {F : FP} {w : World} (h : GrAt codI 209 g M F w) {a b : Int} (ha : (Lit.int .i64 a).wf = true) (hb : (Lit.int .i64 b).wf = true) :
    ∃ mv mi, w.cell? ⟨g, 0, none⟩ = some (.map mv) ∧ (Instr.lookup 207 (.map mv) (.int .i64 a) false).run Tryz.prog w = .ok (.map mi) w ∧
      (Instr.lookup 241 (.map mi) (.int .i64 b) false).run Tryz.prog w = .ok (codI.enc ((cget M a b).getD (0 : Int))) w := by
  have hu1 : Tryz.prog.underlying 207 = some (.map 3 241) := Tryz.underlying207
  have hu2 : Tryz.prog.underlying 241 = some (.map 3 3) := Tryz.underlying241
  have hz1 : ∀ w, (zeroValue 241).run Tryz.prog w = .ok (codM.enc none) w := fun w => Tryz.zeroValue241 w
  have hz2 : ∀ w, (zeroValue 3).run Tryz.prog w = .ok (codI.enc (0 : Int)) w := fun w => Tryz.zeroValue3 w
  obtain ⟨_, _, _, (⟨rfl, hh⟩ | ⟨B, C, rm, cm, hh, hM, _⟩)⟩ := h
  · exact ⟨none, none, by rw [World.cell?, hh]; rfl, nil_look hu1 (hz1 w) ha false, nil_look hu2 (hz2 w) hb false⟩
  · have hl := hM.row.map.look (z0 := none) hu1 (hz1 w) ha
    cases hs : sget rm a with
    | none =>
      rw [hs] at hl
      refine ⟨some B, none, by rw [World.cell?, hh]; rfl, hl, ?_⟩
      have hr := hM.row.isNil hs
      have : cget M a b = none := by rw [cget, hr]; rfl
      rw [this]
      exact nil_look hu2 (hz2 w) hb false
    | some x =>
      obtain ⟨b', rfl, _, _, h3⟩ := hM.row.at_ a x hs
      rw [hs] at hl
      exact ⟨some B, some b', by rw [World.cell?, hh]; rfl, hl, h3.look hu2 (hz2 w) hb⟩
/-- A row's keys, rising. -/
theorem GrAt.rises_row_I {g : Nat} {M : Cls Int} {F : FP} {w : World} (h : GrAt codI 209 g M F w) (hlen : M.length ≤ 100000) {a : Int} (ha : (Lit.int .i64 a).wf = true) :
    ∃ mv mi, w.cell? ⟨g, 0, none⟩ = some (.map mv) ∧ (Instr.lookup 207 (.map mv) (.int .i64 a) false).run Tryz.prog w = .ok (.map mi) w ∧
      Calls Tryz.prog 156 #[.map mi] w (fun e w' => ∃ v, e = .returned v ∧ OwnN w.heap.size v ((rowOf M a).map (·.1)) w' ∧ Below w.heap.size w w') := by
  have hu1 : Tryz.prog.underlying 207 = some (.map 3 241) := Tryz.underlying207
  have hz1 : ∀ w, (zeroValue 241).run Tryz.prog w = .ok (codM.enc none) w := fun w => Tryz.zeroValue241 w
  have hnil : rowOf M a = [] → Calls Tryz.prog 156 #[.map none] w (fun e w' => ∃ v, e = .returned v ∧ OwnN w.heap.size v ((rowOf M a).map (·.1)) w' ∧ Below w.heap.size w w') := fun e => by
    refine (rising_I_nil w).mono ?_
    rintro _ w' ⟨rfl, hb⟩
    rw [e]
    exact ⟨_, rfl, OwnN.nil _ _, hb⟩
  have hr := row_length M a
  obtain ⟨_, _, _, (⟨rfl, hh⟩ | ⟨B, C, rm, cm, hh, hM, _⟩)⟩ := h
  · exact ⟨none, none, by rw [World.cell?, hh]; rfl, nil_look hu1 (hz1 w) ha false, hnil rfl⟩
  · have hl := hM.row.map.look (z0 := none) hu1 (hz1 w) ha
    cases hs : sget rm a with
    | none =>
      rw [hs] at hl
      exact ⟨some B, none, by rw [World.cell?, hh]; rfl, hl, hnil (hM.row.isNil hs)⟩
    | some x =>
      obtain ⟨b', rfl, _, _, h3⟩ := hM.row.at_ a x hs
      rw [hs] at hl
      refine ⟨some B, some b', by rw [World.cell?, hh]; rfl, hl, (rising_I h3 (by omega)).mono ?_⟩
      rintro e w' ⟨v, rfl, ho, _, hb⟩
      refine ⟨v, rfl, ?_, hb⟩
      unfold OwnN Is
      rw [List.length_map, List.map_map]
      exact ho
theorem GrAt.wf {β : Type} {c : Cod β} {T : TypeId} {g : Nat} {M : Cls β} {F : FP} {w : World} (h : GrAt c T g M F w) {x : (Int × Int) × β} (hx : x ∈ M) : (Lit.int .i64 x.1.1).wf = true ∧ (Lit.int .i64 x.1.2).wf = true := by
  obtain ⟨_, _, _, (⟨rfl, hh⟩ | ⟨B, C, rm, cm, hh, hM, _⟩)⟩ := h
  · cases hx
  · have hr : (x.1.2, x.2) ∈ rowOf M x.1.1 := mem_rowOf.2 hx
    obtain ⟨b, hb⟩ := hM.row.has x.1.1 (List.ne_nil_of_mem hr)
    obtain ⟨b', e, _, _, h3⟩ := hM.row.at_ _ _ hb
    exact ⟨hM.row.map.wf (sget_mem hb), h3.wf hr⟩

set_option maxHeartbeats 4000000 in
set_option maxRecDepth 100000 in
theorem row_iter_I (n : Nat) (bx ba g : Nat) (M : Cls Int) (F : FP) (s : Int) (w : World) (hbx : w.cell? ⟨bx, 0, none⟩ = some (.pointer (some ⟨g, 0, none⟩))) (hba : w.cell? ⟨ba, 0, none⟩ = some (.int .i64 s)) (h : GrAt codI 209 g M F w) (hlen : M.length ≤ 100000) (hs : (Lit.int .i64 s).wf = true)
    (G : FP) (hGb : G bx) (hGa : G ba) (hGF : ∀ k, F k → G k) :
    Iter Tryz.prog n 155 #[.pointer (some ⟨bx, 0, none⟩), .pointer (some ⟨ba, 0, none⟩)] (fun x : Int × Int => #[.int .i64 x.1, codI.enc x.2]) (rowOf M s) G w := by
  intro lp B Ψ J Jx Φ0 W hgw hG hΨ hΦ0 hJ hJx hround h0
  have hc1 : W.cell? ⟨bx, 0, none⟩ = some (.pointer (some ⟨g, 0, none⟩)) := (World.cell?_of_block (hG bx hGb).2).trans hbx
  have hc2 : W.cell? ⟨ba, 0, none⟩ = some (.int .i64 s) := (World.cell?_of_block (hG ba hGa).2).trans hba
  have hW : GrAt codI 209 g M F W := h.keep hgw (fun k hk => (hG k (hGF k hk)).2)
  have hWd : GrAt codI 209 g M F W.drew := hW.keep ⟨rfl, rfl, rfl, Nat.le_refl _⟩ (fun _ _ => rfl)
  obtain ⟨mv, mi, hcm, hlm, hrise⟩ := hWd.rises_row_I hlen hs
  have hcm : W.cell? ⟨g, 0, none⟩ = some (.map mv) := hcm
  obtain ⟨hs1, hs2, hs3⟩ := hJ _ _ _ h0
  have mixed : Tryz.prog.follows .mixedOrders = true := by kernel_rfl
  refine callsIn_of_wp Tryz.func155 rfl trivial ?_ rfl
  simp only [Tryz.ntmps155, List.size_toArray, List.length_cons, List.length_nil, Nat.reduceAdd, Nat.reduceSub, Array.replicate_succ, Array.replicate_zero, List.push_toArray, List.append_toArray, List.nil_append, List.cons_append]
  have hsrt := hW.1
  obtain ⟨xs, hxs⟩ : ∃ xs, xs = rowOf M s := ⟨_, rfl⟩
  obtain ⟨ks, hks⟩ : ∃ ks, ks = (rowOf M s).map (·.1) := ⟨_, rfl⟩
  rw [← hks] at hrise
  rw [← hxs] at hround ⊢
  have hkl : ks.length = xs.length := by rw [hks, hxs]; simp
  have hbig : (ks.length : Int) ≤ 100000 := by rw [hkl, hxs]; have := row_length M s; omega
  have HXS := Lib.hid hxs
  have HKS := Lib.hid (And.intro hks (And.intro hkl hsrt))
  clear hxs hks hkl hsrt
  have HW := Lib.hid hW
  have HRS := Lib.hid hrise
  have HRD := Lib.hid hround
  have HJ := Lib.hid hJ
  have HP := Lib.hid hΨ
  have HP0 := Lib.hid hΦ0
  have HG := Lib.hid hG
  have HGF := Lib.hid (And.intro hGb (And.intro hGa hGF))
  have HH0 := Lib.hid h0
  have HS3 := Lib.hid hs3
  have HS1 := Lib.hid hs1
  have HL := Lib.hid hlen
  have HWF := Lib.hid hs
  clear hW hWd hrise hround hJ hJx hG hΨ hΦ0 hbx hba hGb hGa hGF h0 hs1 hs3 hlen hs h
  gi_wp2_with fail
  refine region_meet (R := fun a wc => ∃ co ccap, a = { tmps := #[.func (.yield lp) #[] #[], .pointer (some ⟨bx, 0, none⟩), .pointer (some ⟨ba, 0, none⟩), undef, undef, undef, .pointer (some ⟨g, 0, none⟩), .bool false, .pointer (some ⟨g, 0, none⟩), .pointer (some ⟨g, 0, none⟩), .pointer (some ⟨g, 0, none⟩), .map mv, .int .i64 s, .map mi, .slice co ks.length ccap, .int .i64 ks.length, .int .i64 0, undef, undef, undef, undef, undef, undef, undef, undef, undef, undef, undef, undef, undef, undef, undef, undef], defers := [] } ∧ OwnN W.drew.heap.size (.slice co ks.length ccap) ks wc ∧ Below W.drew.heap.size W.drew wc) ?_ ?_
  · go_region_with (first | (go_at_call 156; refine HRS.out.mono ?_; rintro e wc ⟨vc, rfl, hoc, hbc⟩; obtain ⟨co, ccap, rfl⟩ := hoc.lenOf; have HOC := Lib.hid hoc; have HBC := Lib.hid hbc; clear hoc hbc) | fail)
    all_goals exact ⟨co, ccap, rfl, HOC.out, HBC.out⟩
  rintro _ wc ⟨co, ccap, rfl, hoc, hbc⟩
  have HOC := Lib.hid hoc
  have HBC := Lib.hid hbc
  clear hoc hbc
  have hcs : W.heap.size ≤ wc.heap.size := HBC.out.size
  have hbc' : Below W.heap.size W wc := ((Below.refl _ W).drew).trans (show Below W.heap.size W.drew wc from HBC.out)
  have HO1 := Lib.hid (Only.of_later (Ψ := Ψ) (Φ := Φ0) hbc')
  have hJc : J [] Φ0 wc := HS3.out wc (Grow.of_below hbc') (fun k hk => hbc'.block k (hk.elim (fun h => by omega) (fun h => (HS1.out k h).2)))
  have HJC := Lib.hid hJc
  have hkeep : ∀ wr, Only Ψ Φ0 wc wr → OwnN W.heap.size (.slice co ks.length ccap) ks wr ∧ GrAt codI 209 g M F wr ∧ wr.cell? ⟨bx, 0, none⟩ = some (.pointer (some ⟨g, 0, none⟩)) ∧ wr.cell? ⟨ba, 0, none⟩ = some (.int .i64 s) := fun wr ho => by
    have hgk : ∀ k, G k → wr.heap[k]? = W.heap[k]? := fun k hk => by
      have hkW : k < W.heap.size := by have := (HG.out k hk).1; have := hgw.size; omega
      rw [ho.block k (by omega) (fun h => (HP.out k h).2 hk) (fun h => HP0.out k h hk)]
      exact hbc'.block k hkW
    refine ⟨OwnN.of HOC.out (Nat.le_refl _) (fun k hk => ?_), HW.out.keep ((Grow.of_below hbc').trans ho.grow) (fun k hk => hgk k (HGF.out.2.2 k hk)), (World.cell?_of_block (hgk bx HGF.out.1)).trans hc1, (World.cell?_of_block (hgk ba HGF.out.2.1)).trans hc2⟩
    obtain ⟨h1, h2⟩ := HOC.out.block hk
    have h1 : W.heap.size ≤ k := h1
    exact ho.block k h2 (fun h => by have := (HP.out k h).1; omega) (fun h => by have := (HS1.out k h).2; omega)
  have HK := Lib.hid hkeep
  clear hkeep hJc hbc' hc1 hc2 hlm hcm
  gi_wp2_with fail
  gi_loopw [16] (fun r wr => ∃ (k : Nat) (Φ : FP), k ≤ ks.length ∧ r = .int .i64 k ∧ J (xs.take k) Φ wr ∧ Only Ψ Φ0 wc wr ∧ (∀ j, Φ j → Φ0 j ∨ wc.heap.size ≤ j)) (fun r wr => ks.length - (intOf r).toNat)
  case atStart => exact ⟨0, Φ0, Nat.zero_le _, rfl, HJC.out, Only.refl _ _ _, fun j h => .inl h⟩
  case round =>
    obtain ⟨k, Φ, hk, rfl, hJ2, ho2, hn2⟩ := hrel
    obtain ⟨hkl, hkl2, hsrt⟩ := HKS.out
    by_cases hlt : k < ks.length
    · have hlt' : (k : Int) < ks.length := by omega
      obtain ⟨hoW, hGW, cb, ca⟩ := HK.out wr ho2
      obtain ⟨b, cap, hv, hcell, hbl, hbu⟩ := hoW.at hlt
      injection hv with hv1 hv2 hv3
      subst hv1
      have hltx : k < xs.length := by omega
      obtain ⟨x, hx⟩ : ∃ x, x = xs[k] := ⟨_, rfl⟩
      have hy : ks[k] = x.1 := by simp only [hkl, hx, HXS.out, List.getElem_map]
      rw [hy] at hcell
      have hxm : x ∈ rowOf M s := by rw [← HXS.out, hx]; exact List.getElem_mem _
      have hxM := (mem_rowOf (x := x)).1 hxm
      have hwfx := hGW.wf hxM
      have hget : cget M s x.1 = some x.2 := hsrt.get.2 hxM
      obtain ⟨mv', mi', cm, l1, l2⟩ := (hGW.keep (w' := wr.drew) ⟨rfl, rfl, rfl, Nat.le_refl _⟩ (fun _ _ => rfl)).look_I (a := s) (b := x.1) HWF.out hwfx.2
      rw [hget, Option.getD_some] at l2
      have cm : wr.cell? ⟨g, 0, none⟩ = some (.map mv') := cm
      have htk : xs.take k ++ [x] = xs.take (k + 1) := by rw [hx]; exact pre_snoc hltx
      have hpre : (xs.take k ++ [x]) <+: xs := by rw [htk]; exact List.take_prefix _ _
      obtain ⟨q1, q2, q3⟩ := HJ.out _ _ _ hJ2
      have hJd : J (xs.take k) Φ wr.drew := q3 wr.drew ⟨rfl, rfl, rfl, Nat.le_refl _⟩ (fun _ _ => rfl)
      obtain ⟨fn, tm, asg, bd, hyy, hR⟩ := HRD.out (xs.take k) x Φ wr.drew hpre hJd
      dsimp only at hyy
      obtain ⟨yv, hyv⟩ : ∃ yv, yv = x.1 := ⟨_, rfl⟩
      rw [← hyv] at hcell hyy l2
      obtain ⟨ev, hev⟩ : ∃ ev, ev = codI.enc x.2 := ⟨_, rfl⟩
      rw [← hev] at hyy l2
      have HT := Lib.hid htk
      have HPR := Lib.hid hpre
      have HO2 := Lib.hid ho2
      have HN2 := Lib.hid hn2
      have HR := Lib.hid hR
      clear htk hpre q1 q2 q3 hx hy hyv hev hJ2 hJd ho2 hn2 hR hxm hxM hget hwfx hoW hGW hkl hkl2 hsrt hv2 hv3
      gi_wp2_with fail
      refine wpIn_region_still_tail 10 mixed (by kernel_rfl) ?_
      simp only [List.take_succ_cons, List.take_zero, List.drop_succ_cons, List.drop_zero]
      change wpStill _ _ wr.drew _ _ _
      repeat still_step
      refine wpStill_nil ?_
      change wpListIn _ _ _ _ _ _ _ wr.drew
      gi_wp2
      refine HR.out.mono ?_
      rintro e W' ⟨Φ', hn', ho', (⟨rfl, hJ'⟩ | ⟨rfl, hJ'⟩)⟩
      · have ho3 : Only Ψ Φ0 wc W' := HO2.out.trans (Only.undrew ho') HN2.out
        have hn3 : ∀ j, Φ' j → Φ0 j ∨ wc.heap.size ≤ j := fun j hj => (hn' j hj).elim (HN2.out j) (fun h => .inr (by have := HO2.out.grow.size; have : wr.heap.size ≤ j := h; omega))
        gi_wp2
        exact ⟨⟨k + 1, Φ', hlt, by go_num, by rw [← HT.out]; exact hJ', ho3, hn3⟩, by simp [intOf]; omega⟩
      · have ho3 : Only Ψ Φ0 wc W' := HO2.out.trans (Only.undrew ho') HN2.out
        have hn3 : ∀ j, Φ' j → Φ0 j ∨ wc.heap.size ≤ j := fun j hj => (hn' j hj).elim (HN2.out j) (fun h => .inr (by have := HO2.out.grow.size; have : wr.heap.size ≤ j := h; omega))
        gi_wp2
        refine bodyPost_ret (results_none rfl _ _ _) rfl ?_
        exact ⟨⟨_, rfl⟩, Φ', fun j hj => (hn3 j hj).imp id (fun h => by omega), HO1.out.trans ho3 (fun j h => .inl h), .inr ⟨_, HPR.out, hJ'⟩⟩
    · have hkn : k = ks.length := by omega
      subst hkn
      rw [hkl2, List.take_length] at hJ2
      clear hkl hkl2 hsrt
      gi_wp2
      refine bodyPost_end (results_none rfl _ _ _) rfl ?_
      exact ⟨⟨_, rfl⟩, Φ, fun j hj => (hn2 j hj).imp id (fun h => by omega), HO1.out.trans ho2 (fun j h => .inl h), .inl hJ2⟩

set_option maxHeartbeats 4000000 in
theorem row_iter_nil_I (n : Nat) (bx ba : Nat) (w : World) (hbx : w.cell? ⟨bx, 0, none⟩ = some (.pointer none)) (G : FP) (hGb : G bx) :
    Iter Tryz.prog n 155 #[.pointer (some ⟨bx, 0, none⟩), .pointer (some ⟨ba, 0, none⟩)] (fun x : Int × Int => #[.int .i64 x.1, codI.enc x.2]) [] G w := by
  intro lp B Ψ J Jx Φ0 W hgw hG hΨ hΦ0 hJ hJx hround h0
  have hc1 : W.cell? ⟨bx, 0, none⟩ = some (.pointer none) := (World.cell?_of_block (hG bx hGb).2).trans hbx
  refine callsIn_of_wp Tryz.func155 rfl trivial ?_ rfl
  simp only [Tryz.ntmps155, List.size_toArray, List.length_cons, List.length_nil, Nat.reduceAdd, Nat.reduceSub, Array.replicate_succ, Array.replicate_zero, List.push_toArray, List.append_toArray, List.nil_append, List.cons_append]
  have HH0 := Lib.hid h0
  clear hround hJ hJx hG hΨ hbx hGb h0
  gi_wp2
  refine bodyPost_ret (results_none rfl _ _ _) rfl ?_
  exact ⟨⟨_, rfl⟩, Φ0, fun j h => .inl h, Only.refl _ _ _, .inl HH0.out⟩
theorem enters_row1_I : ∀ args w, (callFunc 155 args).run Tryz.prog w = .ok (.enter 155 args) w := enters_of Tryz.func155 (by kernel_rfl) rfl
theorem grid_row_I (p : Option Addr) (s : Int) (w : World) : Calls Tryz.prog 148 #[.pointer p, .int .i64 s] w fun e w' => e = .returned (.func (.func 155) #[] #[.pointer (some ⟨w.heap.size, 0, none⟩), .pointer (some ⟨w.heap.size + 1, 0, none⟩)]) ∧ w' = (w.alloc (.cells #[.pointer p] 144)).alloc (.cells #[.int .i64 s] 3) := by
  go_enter Tryz.func148, Tryz.ntmps148
  go_wp2
  go_ret
  exact ⟨rfl, rfl⟩

end Go.Proofs.YtpkamfbjgdmmoaaGreat
end

section
namespace Go.Proofs.YtpkamfbjgdmmoaaGreat
open Go.RowKit
set_option linter.unusedVariables false

/-- AN ITERATOR's PROMISE, whatever the body does with its data once it has begun: function gf, which has captured lb, tells xs, one behind the other, to whatever body, till that says no; its data lie in the blocks of G, as they lay in w. -/
def IterF {α : Type} (P : Program) (n : Nat) (gf : Nat) (lb : Array Value) (encs : α → Array Value) (xs : List α) (G : FP) (w : World) : Prop :=
  ∀ (l B : Nat) (Ψ : FP) (J Jx : List α → FP → World → Prop) (Φ0 : FP) (W : World), Grow w W → (∀ k, G k → k < w.heap.size ∧ W.heap[k]? = w.heap[k]?) → (∀ k, Ψ k → k < B) → Stab B J → Stab B Jx →
    (∀ pre x Φ W1, (pre ++ [x]) <+: xs → J pre Φ W1 → RoundOk P n l encs Ψ J Jx pre x Φ W1) → J [] Φ0 W →
    CallsIn Fence.wide (n + 1) P gf (#[.func (.yield l) #[] #[]] ++ lb) W fun e W' => (∃ v, e = .returned v) ∧ Leaves Ψ Φ0 W (fun Φ' W' => J xs Φ' W' ∨ ∃ pre, pre <+: xs ∧ Jx pre Φ' W') W'

section
variable {P : Program} {α : Type}
/-- **A LOOP OVER AN ITERATOR, in a function's own frame.** -/
theorem range_outerF {n : Nat} {g : Operand} {ps : Array Tmp} {assign body : Code} {Q : Exit → Act → World → Prop} {a : Act} {w : World} {gf : Nat} {lb : Array Value} (hg : a.eval g = .func (.func gf) #[] lb) (eg : ∀ args w, (callFunc gf args).run P w = .ok (.enter gf args) w)
    {encs : α → Array Value} {xs : List α} {G : FP} {w0 : World} (hit : IterF P n gf lb encs xs G w0) (hg0 : Grow w0 w) (hG : ∀ k, G k → k < w0.heap.size ∧ w.heap[k]? = w0.heap[k]?) (hps : ∀ x, (encs x).size = ps.size)
    (Ψ : FP) (hΨ : ∀ k, Ψ k → k < w.heap.size) (I : List α → FP → World → Prop) (Ix : Code → List α → FP → World → Prop) (hI : Stab w.heap.size I) (hIx : ∀ c, Stab w.heap.size (Ix c)) (h0 : I [] (fun _ => False) w) (a₁ : α → Act)
    (hassign : ∀ (l : Nat) (x : α) (W : World) (K : Act → World → Prop), K (a₁ x) W → assign.wpIn (Fence.wide.inRound l) n P (Exit.then K (fun _ _ _ => False)) { tmps := (ps.zip (encs x)).foldl (fun t (p, v) => t.setIfInBounds p v) a.tmps, defers := [] } W)
    (hbody : ∀ (l : Nat) (pre : List α) (x : α) (Φ : FP) (W : World), (pre ++ [x]) <+: xs → I pre Φ W → w.heap.size < l → (∀ k, Φ k → l + 1 ≤ k) → (∃ r, W.heap[l]? = some (.loop r)) → body.wpIn (Fence.wide.inRound l) n P (bodyI Ψ Φ I Ix (pre ++ [x]) W) (a₁ x) W)
    (hdone : ∀ (D : Nat) (Φ : FP) (W : World), I xs Φ W → Only Ψ (fun _ => False) w W → w.heap.size ≤ D → ¬ Φ D → W.heap[D]? = some (.deferred (some [])) → Q .normal { a with defers := { target := .collected D, args := #[] } :: a.defers } W)
    (hstop : ∀ (D : Nat) (Φ : FP) (c : Code) (pre : List α) (W : World), pre <+: xs → Ix c pre Φ W → Only Ψ (fun _ => False) w W → w.heap.size ≤ D → ¬ Φ D → W.heap[D]? = some (.deferred (some [])) → c.wpIn Fence.wide (n + 2) P Q { a with defers := { target := .collected D, args := #[] } :: a.defers } W) :
    (Code.rangeFunc g ps assign body).wpIn Fence.wide (n + 2) P Q a w := by
  refine wpIn_rangeFunc ?_
  intro fn hfn
  obtain ⟨W1, hW1⟩ : ∃ W1, (w.alloc (.deferred (some []))).alloc (.loop (recOf fn a.tmps ps assign body w.heap.size .ready none)) = W1 := ⟨_, rfl⟩
  have hL1 : W1.heap[w.heap.size + 1]? = some (.loop (recOf fn a.tmps ps assign body w.heap.size .ready none)) := by
    rw [← hW1]; have := World.alloc_heap_new (w.alloc (.deferred (some []))) (.loop (recOf fn a.tmps ps assign body w.heap.size .ready none)); rwa [World.size_alloc] at this
  have hK1 : W1.heap[w.heap.size]? = some (.deferred (some [])) := by
    rw [← hW1]; exact (Below.heap_alloc _ _ _ (by simp)).trans (World.alloc_heap_new w _)
  have hB1 : Below w.heap.size w W1 := by rw [← hW1]; exact ((Below.refl _ w).alloc (Nat.le_refl _) _).alloc (by simp) _
  have hsz : W1.heap.size = w.heap.size + 2 := by rw [← hW1]; simp
  have hi1 : I [] (fun _ => False) W1 := (hI _ _ _ h0).2.2 _ (Grow.of_below hB1) (fun k hk => hk.elim (fun h => hB1.block k h) (fun h => h.elim))
  refine ⟨w.heap.size + 1, [{ target := .collected w.heap.size, args := #[] }], W1, { target := .fn (.func gf) lb, args := #[.func (.yield (w.heap.size + 1)) #[] #[]] }, W1, gf,
    #[.func (.yield (w.heap.size + 1)) #[] #[]] ++ lb, W1, ?_, ?_, ?_, ?_, fun h => by simp [Fence.wide] at h, ?_⟩
  · rw [← hW1]; exact run_enterLoop_outer _ _ _ _ _
  · simp only [resolve, hg]
    simp [go_sem]
  · intro f' hf'; simp [Target.leads] at hf'; subst hf'; trivial
  · simp [invoke, go_sem, eg]
  · have hD : ∀ d, some w.heap.size = some d → w.heap.size ≤ d ∧ d < w.heap.size + 1 := fun d hd => by cases hd; omega
    refine (hit (w.heap.size + 1) (w.heap.size + 2) (fun k => Ψ k ∨ k = w.heap.size + 1) (InvJ I (w.heap.size + 1) (some w.heap.size) (recOf fn a.tmps ps assign body w.heap.size .ready none))
      (fun pre Φ W => ∃ c, InvJ (Ix c) (w.heap.size + 1) (some w.heap.size) (recOf fn a.tmps ps assign body w.heap.size .done (some c)) pre Φ W) (fun _ => False) W1 (hg0.trans (Grow.of_below hB1))
      (fun k hk => ⟨(hG k hk).1, (hB1.block k (Nat.lt_of_lt_of_le (hG k hk).1 hg0.size)).trans (hG k hk).2⟩) (fun k hk => ?_) (InvJ.stab hI (by omega) (fun d hd => (hD d hd).2)) ?_ ?_ ⟨hi1, fun _ h => h.elim, hL1, fun d hd => by cases hd; exact hK1⟩).mono ?_
    · rcases hk with h | h
      · have := hΨ k h; omega
      · omega
    · rintro pre Φ W ⟨c, hc⟩
      obtain ⟨h1, h2, h3⟩ := InvJ.stab (hIx c) (by omega) (fun d hd => (hD d hd).2) _ _ _ hc
      exact ⟨h1, h2, fun W' hg' hk => ⟨c, h3 W' hg' hk⟩⟩
    · intro pre x Φ W hpx hJ
      exact round_of_body hI hIx (by omega) hΨ hps hD a₁ hJ (fun W K hK => hassign _ x W K hK) (fun W hi hΦ hr => hbody _ pre x Φ W hpx hi (by omega) hΦ hr)
    · have fine : ∀ W2, Only (fun k => Ψ k ∨ k = w.heap.size + 1) (fun _ => False) W1 W2 → ∀ r, Only Ψ (fun _ => False) w (W2.putObj (w.heap.size + 1) (.loop r)) := fun W2 ho r =>
        ⟨((Grow.of_below hB1).trans ho.grow).trans (put_grow _ _ _), fun k hk h1 h2 => (put_other (by omega)).trans ((ho.block k (by omega) (fun h => h.elim h1 (by omega)) h2).trans (hB1.block k hk))⟩
      rintro e W2 ⟨⟨v, rfl⟩, Φ', hn, ho, (⟨hi, hΦ, hl, hk⟩ | ⟨pre, hpre, c, hi, hΦ, hl, hk⟩)⟩
      · have hnD : ¬ Φ' w.heap.size := fun h => by have := hΦ _ h; omega
        refine ⟨none, _, run_endLoop (P := P) hl (by simp [recOf]), hdone _ Φ' _ ?_ (fine W2 ho _) (Nat.le_refl _) hnD ((put_other (by omega)).trans (hk _ rfl))⟩
        exact (hI _ _ _ hi).2.2 _ (put_grow _ _ _) (fun k hk' => put_other (hk'.elim (fun h => by omega) (fun h => by have := hΦ k h; omega)))
      · have hnD : ¬ Φ' w.heap.size := fun h => by have := hΦ _ h; omega
        refine ⟨some c, _, run_endLoop (P := P) hl (by simp [recOf]), hstop _ Φ' c pre _ hpre ?_ (fine W2 ho _) (Nat.le_refl _) hnD ((put_other (by omega)).trans (hk _ rfl))⟩
        exact (hIx c _ _ _ hi).2.2 _ (put_grow _ _ _) (fun k hk' => put_other (hk'.elim (fun h => by omega) (fun h => by have := hΦ k h; omega)))

/-- **A LOOP OVER AN ITERATOR, in a round of another loop.** -/
theorem range_innerF {n l₀ : Nat} {r₀ : Loop} {g : Operand} {ps : Array Tmp} {assign body : Code} {Q : Exit → Act → World → Prop} {a : Act} {w : World} {gf : Nat} {lb : Array Value} (hr0 : w.heap[l₀]? = some (.loop r₀)) (hg : a.eval g = .func (.func gf) #[] lb) (eg : ∀ args w, (callFunc gf args).run P w = .ok (.enter gf args) w)
    {encs : α → Array Value} {xs : List α} {G : FP} {w0 : World} (hit : IterF P n gf lb encs xs G w0) (hg0 : Grow w0 w) (hG : ∀ k, G k → k < w0.heap.size ∧ w.heap[k]? = w0.heap[k]?) (hps : ∀ x, (encs x).size = ps.size)
    (Ψ : FP) (hΨ : ∀ k, Ψ k → k < w.heap.size) (I : List α → FP → World → Prop) (Ix : Code → List α → FP → World → Prop) (hI : Stab w.heap.size I) (hIx : ∀ c, Stab w.heap.size (Ix c)) (h0 : I [] (fun _ => False) w) (a₁ : α → Act)
    (hassign : ∀ (l : Nat) (x : α) (W : World) (K : Act → World → Prop), K (a₁ x) W → assign.wpIn (Fence.wide.inRound l) n P (Exit.then K (fun _ _ _ => False)) { tmps := (ps.zip (encs x)).foldl (fun t (p, v) => t.setIfInBounds p v) a.tmps, defers := [] } W)
    (hbody : ∀ (l : Nat) (pre : List α) (x : α) (Φ : FP) (W : World), (pre ++ [x]) <+: xs → I pre Φ W → w.heap.size ≤ l → (∀ k, Φ k → l + 1 ≤ k) → (∃ r, W.heap[l]? = some (.loop r)) → body.wpIn (Fence.wide.inRound l) n P (bodyI Ψ Φ I Ix (pre ++ [x]) W) (a₁ x) W)
    (hdone : ∀ (Φ : FP) (W : World), I xs Φ W → Only Ψ (fun _ => False) w W → Q .normal { a with defers := [] ++ a.defers } W)
    (hstop : ∀ (Φ : FP) (c : Code) (pre : List α) (W : World), pre <+: xs → Ix c pre Φ W → Only Ψ (fun _ => False) w W → c.wpIn (Fence.wide.inRound l₀) (n + 2) P Q { a with defers := [] ++ a.defers } W) :
    (Code.rangeFunc g ps assign body).wpIn (Fence.wide.inRound l₀) (n + 2) P Q a w := by
  refine wpIn_rangeFunc ?_
  intro fn hfn
  obtain ⟨W1, hW1⟩ : ∃ W1, w.alloc (.loop (recOf fn a.tmps ps assign body r₀.defers .ready none)) = W1 := ⟨_, rfl⟩
  have hL1 : W1.heap[w.heap.size]? = some (.loop (recOf fn a.tmps ps assign body r₀.defers .ready none)) := by
    rw [← hW1]; exact World.alloc_heap_new w _
  have hB1 : Below w.heap.size w W1 := by rw [← hW1]; exact (Below.refl _ w).alloc (Nat.le_refl _) _
  have hsz : W1.heap.size = w.heap.size + 1 := by rw [← hW1]; simp
  have hi1 : I [] (fun _ => False) W1 := (hI _ _ _ h0).2.2 _ (Grow.of_below hB1) (fun k hk => hk.elim (fun h => hB1.block k h) (fun h => h.elim))
  refine ⟨w.heap.size, [], W1, { target := .fn (.func gf) lb, args := #[.func (.yield w.heap.size) #[] #[]] }, W1, gf,
    #[.func (.yield w.heap.size) #[] #[]] ++ lb, W1, ?_, ?_, ?_, ?_, fun h => by simp [Fence.wide] at h, ?_⟩
  · rw [← hW1]; exact run_enterLoop_inner hr0 _ _ _ _ _
  · simp only [resolve, hg]
    simp [go_sem]
  · intro f' hf'; simp [Target.leads] at hf'; subst hf'; trivial
  · simp [invoke, go_sem, eg]
  · have hD : ∀ d, (none : Option Nat) = some d → w.heap.size ≤ d ∧ d < w.heap.size := fun d hd => by cases hd
    refine CallsIn.inRound l₀ ((hit w.heap.size (w.heap.size + 1) (fun k => Ψ k ∨ k = w.heap.size) (InvJ I w.heap.size none (recOf fn a.tmps ps assign body r₀.defers .ready none))
      (fun pre Φ W => ∃ c, InvJ (Ix c) w.heap.size none (recOf fn a.tmps ps assign body r₀.defers .done (some c)) pre Φ W) (fun _ => False) W1 (hg0.trans (Grow.of_below hB1))
      (fun k hk => ⟨(hG k hk).1, (hB1.block k (Nat.lt_of_lt_of_le (hG k hk).1 hg0.size)).trans (hG k hk).2⟩) (fun k hk => ?_) (InvJ.stab hI (by omega) (fun d hd => (hD d hd).2)) ?_ ?_ ⟨hi1, fun _ h => h.elim, hL1, fun d hd => by cases hd⟩).mono ?_)
    · rcases hk with h | h
      · have := hΨ k h; omega
      · omega
    · rintro pre Φ W ⟨c, hc⟩
      obtain ⟨h1, h2, h3⟩ := InvJ.stab (hIx c) (by omega) (fun d hd => (hD d hd).2) _ _ _ hc
      exact ⟨h1, h2, fun W' hg' hk => ⟨c, h3 W' hg' hk⟩⟩
    · intro pre x Φ W hpx hJ
      exact round_of_body hI hIx (by omega) hΨ hps hD a₁ hJ (fun W K hK => hassign _ x W K hK) (fun W hi hΦ hr => hbody _ pre x Φ W hpx hi (by omega) hΦ hr)
    · have fine : ∀ W2, Only (fun k => Ψ k ∨ k = w.heap.size) (fun _ => False) W1 W2 → ∀ r, Only Ψ (fun _ => False) w (W2.putObj w.heap.size (.loop r)) := fun W2 ho r =>
        ⟨((Grow.of_below hB1).trans ho.grow).trans (put_grow _ _ _), fun k hk h1 h2 => (put_other (by omega)).trans ((ho.block k (by omega) (fun h => h.elim h1 (by omega)) h2).trans (hB1.block k hk))⟩
      rintro e W2 ⟨⟨v, rfl⟩, Φ', hn, ho, (⟨hi, hΦ, hl, hk⟩ | ⟨pre, hpre, c, hi, hΦ, hl, hk⟩)⟩
      · refine ⟨none, _, run_endLoop (P := P) hl (by simp [recOf]), hdone Φ' _ ?_ (fine W2 ho _)⟩
        exact (hI _ _ _ hi).2.2 _ (put_grow _ _ _) (fun k hk' => put_other (hk'.elim (fun h => by omega) (fun h => by have := hΦ k h; omega)))
      · refine ⟨some c, _, run_endLoop (P := P) hl (by simp [recOf]), hstop Φ' c pre _ hpre ?_ (fine W2 ho _)⟩
        exact (hIx c _ _ _ hi).2.2 _ (put_grow _ _ _) (fun k hk' => put_other (hk'.elim (fun h => by omega) (fun h => by have := hΦ k h; omega)))
end
end Go.Proofs.YtpkamfbjgdmmoaaGreat
end

section
namespace Go.Proofs.YtpkamfbjgdmmoaaGreat
open Go.RowKit
set_option linter.unusedVariables false

section
variable {P : Program} {α : Type}
/-- One round, out of its body's walk: the record turns busy, then ready, or done. -/
theorem round_of_bodyA {n l : Nat} {fn : FuncId} {encs : α → Array Value} {ps : Array Tmp} {assign body : Code} {tm : Array Value} {dfr : Nat} {Ψ : FP} {I : List α → FP → World → Prop} {Ix : Code → List α → FP → World → Prop} {B : Nat} (hI : Stab B I) (hIx : ∀ c, Stab B (Ix c))
    (hBJ : B ≤ l) (hΨ : ∀ k, Ψ k → k < B) (hps : ∀ x, (encs x).size = ps.size) {D : Option Nat} (hD : ∀ d, D = some d → B ≤ d ∧ d < l) (aOf : α → Nat → Act) (At : α → Nat → World → Prop) (hAt : ∀ x N W W', At x N W → W'.heap[N]? = W.heap[N]? → At x N W') {pre : List α} {x : α} {Φ : FP} {W : World}
    (hJ : InvJ I l D (recOf fn tm ps assign body dfr .ready none) pre Φ W)
    (hassign : ∀ (W : World) (K : Act → World → Prop), (∀ W', Below W.heap.size W W' → W.heap.size < W'.heap.size → At x W.heap.size W' → K (aOf x W.heap.size) W') → assign.wpIn (Fence.wide.inRound l) n P (Exit.then K (fun _ _ _ => False)) { tmps := (ps.zip (encs x)).foldl (fun t (p, v) => t.setIfInBounds p v) tm, defers := [] } W)
    (hbody : ∀ N W, I pre Φ W → (∀ k, Φ k → l + 1 ≤ k ∧ k < N) → (∃ r, W.heap[l]? = some (.loop r)) → l < N → N < W.heap.size → At x N W → body.wpIn (Fence.wide.inRound l) n P (bodyI Ψ Φ I Ix (pre ++ [x]) W) (aOf x N) W) :
    RoundOk P n l encs (fun k => Ψ k ∨ k = l) (InvJ I l D (recOf fn tm ps assign body dfr .ready none))
      (fun pre Φ W => ∃ c, InvJ (Ix c) l D (recOf fn tm ps assign body dfr .done (some c)) pre Φ W) pre x Φ W := by
  obtain ⟨hi, hΦ, hl, hDW⟩ := hJ
  have hlt : l < W.heap.size := (Array.getElem?_eq_some_iff.1 hl).1
  have hy := run_yield (P := P) (args := encs x) hl (hps x)
  refine ⟨fn, _, assign, body, hy, roundIn_of_wpIn trivial (hassign W _ fun V hV hVs hVA => ?_)⟩
  have hlV : V.heap[l]? = some (.loop (recOf fn tm ps assign body dfr .ready none)) := (hV.block l hlt).trans hl
  refine ⟨_, run_beginRound hlV rfl, ?_⟩
  obtain ⟨W2, hW2⟩ : ∃ W2, W2 = V.putObj l (.loop { recOf fn tm ps assign body dfr .ready none with state := .busy }) := ⟨_, rfl⟩
  rw [← hW2]
  have hl2 : W2.heap[l]? = some (.loop (recOf fn tm ps assign body dfr .busy none)) := by rw [hW2]; exact World.putObj_heap_same (Nat.lt_of_lt_of_le hlt hV.size)
  have hnl : ∀ k, Φ k → k ≠ l := fun k hk e => by have := hΦ k hk; omega
  have ho2 : ∀ k, k ≠ l → k < W.heap.size → W2.heap[k]? = W.heap[k]? := fun k hk hkW => by rw [hW2]; exact (put_other hk).trans (hV.block k hkW)
  have hIW := hI _ _ _ hi
  have hi2 : I pre Φ W2 := hIW.2.2 _ (by rw [hW2]; exact (Grow.of_below hV).trans (put_grow _ _ _)) (fun k hk => ho2 k (hk.elim (fun h => by omega) (fun h => hnl k h)) (hk.elim (fun h => by omega) (fun h => (hIW.1 k h).2)))
  have hA2 : At x W.heap.size W2 := hAt _ _ _ _ hVA (by rw [hW2]; exact put_other (by omega))
  have hsz : W2.heap.size = V.heap.size := by rw [hW2]; simp [World.putObj]
  have hg2 : Grow W W2 := by rw [hW2]; exact (Grow.of_below hV).trans (put_grow _ _ _)
  have hWV : W.heap.size ≤ W2.heap.size := by rw [hsz]; exact hV.size
  clear hW2
  refine wpIn_mono (hbody _ _ hi2 (fun k hk => ⟨hΦ k hk, (hIW.1 k hk).2⟩) ⟨_, hl2⟩ hlt (by rw [hsz]; exact hVs) hA2) ?_
  have fin : ∀ (jump : Option Code) (Φ' : FP) (W3 : World) (R : List α → FP → World → Prop), Only Ψ Φ W2 W3 → (∀ k, Φ' k → Φ k ∨ W2.heap.size ≤ k) → Stab B R → R (pre ++ [x]) Φ' W3 →
      ∃ W4, (Instr.endRound l jump).run P W3 = .ok (.bool jump.isNone) W4 ∧ (∀ k, Φ' k → Φ k ∨ W.heap.size ≤ k) ∧ Only (fun k => Ψ k ∨ k = l) Φ W W4 ∧
        InvJ R l D (recOf fn tm ps assign body dfr (if jump.isNone then .ready else .done) jump) (pre ++ [x]) Φ' W4 := by
    intro jump Φ' W3 R ho hn hS hR
    have hl3 : W3.heap[l]? = some (.loop (recOf fn tm ps assign body dfr .busy none)) := (ho.block l (by omega) (fun h => by have := hΨ l h; omega) (fun h => hnl l h rfl)).trans hl2
    have hlt3 : l < W3.heap.size := (Array.getElem?_eq_some_iff.1 hl3).1
    have hn : ∀ k, Φ' k → Φ k ∨ W.heap.size ≤ k := fun k hk => (hn k hk).imp id (fun h => Nat.le_trans hWV h)
    have hΦ' : ∀ k, Φ' k → l + 1 ≤ k := fun k hk => (hn k hk).elim (hΦ k) (fun h => by omega)
    refine ⟨_, run_endRound (P := P) jump hl3, hn, ⟨(hg2.trans ho.grow).trans (put_grow _ _ _), fun k hk h1 h2 => ?_⟩, (hS _ _ _ hR).2.2 _ (put_grow _ _ _) (fun k hk => put_other ?_), hΦ', World.putObj_heap_same hlt3, fun d hd => ?_⟩
    · have hkl : k ≠ l := fun e => h1 (.inr e)
      exact (put_other hkl).trans ((ho.block k (by omega) (fun h => h1 (.inl h)) h2).trans (ho2 k hkl hk))
    · rcases hk with h | h
      · omega
      · have := hΦ' k h; omega
    · obtain ⟨d1, d2⟩ := hD d hd
      exact (put_other (by omega)).trans ((ho.block d (by omega) (fun h => by have := hΨ d h; omega) (fun h => by have := hΦ d h; omega)).trans ((ho2 d (by omega) (by omega)).trans (hDW d hd)))
  rintro e a3 W3 hp
  cases e with
  | normal =>
    obtain ⟨Φ', hn, ho, hR⟩ := hp
    obtain ⟨W4, hr, h1, h2, h3⟩ := fin none Φ' W3 I ho hn hI hR
    exact ⟨_, _, hr, Φ', h1, h2, .inl ⟨rfl, h3⟩⟩
  | ret =>
    obtain ⟨Φ', hn, ho, hR⟩ := hp
    obtain ⟨W4, hr, h1, h2, h3⟩ := fin (some .ret) Φ' W3 (Ix .ret) ho hn (hIx _) hR
    exact ⟨_, _, hr, Φ', h1, h2, .inr ⟨rfl, .ret, h3⟩⟩
  | exit id =>
    obtain ⟨Φ', hn, ho, hR⟩ := hp
    obtain ⟨W4, hr, h1, h2, h3⟩ := fin (some (.exit id)) Φ' W3 (Ix (.exit id)) ho hn (hIx _) hR
    exact ⟨_, _, hr, Φ', h1, h2, .inr ⟨rfl, .exit id, h3⟩⟩
  | goto t =>
    obtain ⟨Φ', hn, ho, hR⟩ := hp
    obtain ⟨W4, hr, h1, h2, h3⟩ := fin (some (.goto t)) Φ' W3 (Ix (.goto t)) ho hn (hIx _) hR
    exact ⟨_, _, hr, Φ', h1, h2, .inr ⟨rfl, .goto t, h3⟩⟩
  | panic ch => exact hp.elim
  | outgrown => exact hp.elim

/-- **A LOOP OVER AN ITERATOR, in a function's own frame.** -/
theorem range_outerA {n : Nat} {g : Operand} {ps : Array Tmp} {assign body : Code} {Q : Exit → Act → World → Prop} {a : Act} {w : World} {gf : Nat} {lb : Array Value} (hg : a.eval g = .func (.func gf) #[] lb) (eg : ∀ args w, (callFunc gf args).run P w = .ok (.enter gf args) w)
    {encs : α → Array Value} {xs : List α} {G : FP} {w0 : World} (hit : IterF P n gf lb encs xs G w0) (hg0 : Grow w0 w) (hG : ∀ k, G k → k < w0.heap.size ∧ w.heap[k]? = w0.heap[k]?) (hps : ∀ x, (encs x).size = ps.size)
    (Ψ : FP) (hΨ : ∀ k, Ψ k → k < w.heap.size) (I : List α → FP → World → Prop) (Ix : Code → List α → FP → World → Prop) (hI : Stab w.heap.size I) (hIx : ∀ c, Stab w.heap.size (Ix c)) (h0 : I [] (fun _ => False) w) (aOf : α → Nat → Act) (At : α → Nat → World → Prop) (hAt : ∀ x N W W', At x N W → W'.heap[N]? = W.heap[N]? → At x N W')
    (hassign : ∀ (l : Nat) (x : α) (W : World) (K : Act → World → Prop), (∀ W', Below W.heap.size W W' → W.heap.size < W'.heap.size → At x W.heap.size W' → K (aOf x W.heap.size) W') → assign.wpIn (Fence.wide.inRound l) n P (Exit.then K (fun _ _ _ => False)) { tmps := (ps.zip (encs x)).foldl (fun t (p, v) => t.setIfInBounds p v) a.tmps, defers := [] } W)
    (hbody : ∀ (l : Nat) (pre : List α) (x : α) (Φ : FP) (N : Nat) (W : World), (pre ++ [x]) <+: xs → I pre Φ W → w.heap.size < l → (∀ k, Φ k → l + 1 ≤ k ∧ k < N) → (∃ r, W.heap[l]? = some (.loop r)) → l < N → N < W.heap.size → At x N W → body.wpIn (Fence.wide.inRound l) n P (bodyI Ψ Φ I Ix (pre ++ [x]) W) (aOf x N) W)
    (hdone : ∀ (D : Nat) (Φ : FP) (W : World), I xs Φ W → Only Ψ (fun _ => False) w W → w.heap.size ≤ D → ¬ Φ D → W.heap[D]? = some (.deferred (some [])) → Q .normal { a with defers := { target := .collected D, args := #[] } :: a.defers } W)
    (hstop : ∀ (D : Nat) (Φ : FP) (c : Code) (pre : List α) (W : World), pre <+: xs → Ix c pre Φ W → Only Ψ (fun _ => False) w W → w.heap.size ≤ D → ¬ Φ D → W.heap[D]? = some (.deferred (some [])) → c.wpIn Fence.wide (n + 2) P Q { a with defers := { target := .collected D, args := #[] } :: a.defers } W) :
    (Code.rangeFunc g ps assign body).wpIn Fence.wide (n + 2) P Q a w := by
  refine wpIn_rangeFunc ?_
  intro fn hfn
  obtain ⟨W1, hW1⟩ : ∃ W1, (w.alloc (.deferred (some []))).alloc (.loop (recOf fn a.tmps ps assign body w.heap.size .ready none)) = W1 := ⟨_, rfl⟩
  have hL1 : W1.heap[w.heap.size + 1]? = some (.loop (recOf fn a.tmps ps assign body w.heap.size .ready none)) := by
    rw [← hW1]; have := World.alloc_heap_new (w.alloc (.deferred (some []))) (.loop (recOf fn a.tmps ps assign body w.heap.size .ready none)); rwa [World.size_alloc] at this
  have hK1 : W1.heap[w.heap.size]? = some (.deferred (some [])) := by
    rw [← hW1]; exact (Below.heap_alloc _ _ _ (by simp)).trans (World.alloc_heap_new w _)
  have hB1 : Below w.heap.size w W1 := by rw [← hW1]; exact ((Below.refl _ w).alloc (Nat.le_refl _) _).alloc (by simp) _
  have hsz : W1.heap.size = w.heap.size + 2 := by rw [← hW1]; simp
  have hi1 : I [] (fun _ => False) W1 := (hI _ _ _ h0).2.2 _ (Grow.of_below hB1) (fun k hk => hk.elim (fun h => hB1.block k h) (fun h => h.elim))
  refine ⟨w.heap.size + 1, [{ target := .collected w.heap.size, args := #[] }], W1, { target := .fn (.func gf) lb, args := #[.func (.yield (w.heap.size + 1)) #[] #[]] }, W1, gf,
    #[.func (.yield (w.heap.size + 1)) #[] #[]] ++ lb, W1, ?_, ?_, ?_, ?_, fun h => by simp [Fence.wide] at h, ?_⟩
  · rw [← hW1]; exact run_enterLoop_outer _ _ _ _ _
  · simp only [resolve, hg]
    simp [go_sem]
  · intro f' hf'; simp [Target.leads] at hf'; subst hf'; trivial
  · simp [invoke, go_sem, eg]
  · have hD : ∀ d, some w.heap.size = some d → w.heap.size ≤ d ∧ d < w.heap.size + 1 := fun d hd => by cases hd; omega
    refine (hit (w.heap.size + 1) (w.heap.size + 2) (fun k => Ψ k ∨ k = w.heap.size + 1) (InvJ I (w.heap.size + 1) (some w.heap.size) (recOf fn a.tmps ps assign body w.heap.size .ready none))
      (fun pre Φ W => ∃ c, InvJ (Ix c) (w.heap.size + 1) (some w.heap.size) (recOf fn a.tmps ps assign body w.heap.size .done (some c)) pre Φ W) (fun _ => False) W1 (hg0.trans (Grow.of_below hB1))
      (fun k hk => ⟨(hG k hk).1, (hB1.block k (Nat.lt_of_lt_of_le (hG k hk).1 hg0.size)).trans (hG k hk).2⟩) (fun k hk => ?_) (InvJ.stab hI (by omega) (fun d hd => (hD d hd).2)) ?_ ?_ ⟨hi1, fun _ h => h.elim, hL1, fun d hd => by cases hd; exact hK1⟩).mono ?_
    · rcases hk with h | h
      · have := hΨ k h; omega
      · omega
    · rintro pre Φ W ⟨c, hc⟩
      obtain ⟨h1, h2, h3⟩ := InvJ.stab (hIx c) (by omega) (fun d hd => (hD d hd).2) _ _ _ hc
      exact ⟨h1, h2, fun W' hg' hk => ⟨c, h3 W' hg' hk⟩⟩
    · intro pre x Φ W hpx hJ
      exact round_of_bodyA hI hIx (by omega) hΨ hps hD aOf At hAt hJ (fun W K hK => hassign _ x W K hK) (fun N W hi hΦ hr h1 h2 h3 => hbody _ pre x Φ N W hpx hi (by omega) hΦ hr h1 h2 h3)
    · have fine : ∀ W2, Only (fun k => Ψ k ∨ k = w.heap.size + 1) (fun _ => False) W1 W2 → ∀ r, Only Ψ (fun _ => False) w (W2.putObj (w.heap.size + 1) (.loop r)) := fun W2 ho r =>
        ⟨((Grow.of_below hB1).trans ho.grow).trans (put_grow _ _ _), fun k hk h1 h2 => (put_other (by omega)).trans ((ho.block k (by omega) (fun h => h.elim h1 (by omega)) h2).trans (hB1.block k hk))⟩
      rintro e W2 ⟨⟨v, rfl⟩, Φ', hn, ho, (⟨hi, hΦ, hl, hk⟩ | ⟨pre, hpre, c, hi, hΦ, hl, hk⟩)⟩
      · have hnD : ¬ Φ' w.heap.size := fun h => by have := hΦ _ h; omega
        refine ⟨none, _, run_endLoop (P := P) hl (by simp [recOf]), hdone _ Φ' _ ?_ (fine W2 ho _) (Nat.le_refl _) hnD ((put_other (by omega)).trans (hk _ rfl))⟩
        exact (hI _ _ _ hi).2.2 _ (put_grow _ _ _) (fun k hk' => put_other (hk'.elim (fun h => by omega) (fun h => by have := hΦ k h; omega)))
      · have hnD : ¬ Φ' w.heap.size := fun h => by have := hΦ _ h; omega
        refine ⟨some c, _, run_endLoop (P := P) hl (by simp [recOf]), hstop _ Φ' c pre _ hpre ?_ (fine W2 ho _) (Nat.le_refl _) hnD ((put_other (by omega)).trans (hk _ rfl))⟩
        exact (hIx c _ _ _ hi).2.2 _ (put_grow _ _ _) (fun k hk' => put_other (hk'.elim (fun h => by omega) (fun h => by have := hΦ k h; omega)))

end
end Go.Proofs.YtpkamfbjgdmmoaaGreat
end

section
namespace Go.Proofs.YtpkamfbjgdmmoaaGreat
open Go.RowKit
set_option linter.unusedVariables false
section
variable {P : Program} {α : Type}
theorem range_outerAI {n : Nat} {g : Operand} {ps : Array Tmp} {assign body : Code} {Q : Exit → Act → World → Prop} {a : Act} {w : World} {gf : Nat} {lb : Array Value} (hg : a.eval g = .func (.func gf) #[] lb) (eg : ∀ args w, (callFunc gf args).run P w = .ok (.enter gf args) w)
    {encs : α → Array Value} {xs : List α} {G : FP} {w0 : World} (hit : Iter P n gf lb encs xs G w0) (hg0 : Grow w0 w) (hG : ∀ k, G k → k < w0.heap.size ∧ w.heap[k]? = w0.heap[k]?) (hps : ∀ x, (encs x).size = ps.size)
    (Ψ : FP) (hΨ : ∀ k, Ψ k → k < w.heap.size ∧ ¬ G k) (I : List α → FP → World → Prop) (Ix : Code → List α → FP → World → Prop) (hI : Stab w.heap.size I) (hIx : ∀ c, Stab w.heap.size (Ix c)) (h0 : I [] (fun _ => False) w) (aOf : α → Nat → Act) (At : α → Nat → World → Prop) (hAt : ∀ x N W W', At x N W → W'.heap[N]? = W.heap[N]? → At x N W')
    (hassign : ∀ (l : Nat) (x : α) (W : World) (K : Act → World → Prop), (∀ W', Below W.heap.size W W' → W.heap.size < W'.heap.size → At x W.heap.size W' → K (aOf x W.heap.size) W') → assign.wpIn (Fence.wide.inRound l) n P (Exit.then K (fun _ _ _ => False)) { tmps := (ps.zip (encs x)).foldl (fun t (p, v) => t.setIfInBounds p v) a.tmps, defers := [] } W)
    (hbody : ∀ (l : Nat) (pre : List α) (x : α) (Φ : FP) (N : Nat) (W : World), (pre ++ [x]) <+: xs → I pre Φ W → w.heap.size < l → (∀ k, Φ k → l + 1 ≤ k ∧ k < N) → (∃ r, W.heap[l]? = some (.loop r)) → l < N → N < W.heap.size → At x N W → body.wpIn (Fence.wide.inRound l) n P (bodyI Ψ Φ I Ix (pre ++ [x]) W) (aOf x N) W)
    (hdone : ∀ (D : Nat) (Φ : FP) (W : World), I xs Φ W → Only Ψ (fun _ => False) w W → w.heap.size ≤ D → ¬ Φ D → W.heap[D]? = some (.deferred (some [])) → Q .normal { a with defers := { target := .collected D, args := #[] } :: a.defers } W)
    (hstop : ∀ (D : Nat) (Φ : FP) (c : Code) (pre : List α) (W : World), pre <+: xs → Ix c pre Φ W → Only Ψ (fun _ => False) w W → w.heap.size ≤ D → ¬ Φ D → W.heap[D]? = some (.deferred (some [])) → c.wpIn Fence.wide (n + 2) P Q { a with defers := { target := .collected D, args := #[] } :: a.defers } W) :
    (Code.rangeFunc g ps assign body).wpIn Fence.wide (n + 2) P Q a w := by
  refine wpIn_rangeFunc ?_
  intro fn hfn
  obtain ⟨W1, hW1⟩ : ∃ W1, (w.alloc (.deferred (some []))).alloc (.loop (recOf fn a.tmps ps assign body w.heap.size .ready none)) = W1 := ⟨_, rfl⟩
  have hL1 : W1.heap[w.heap.size + 1]? = some (.loop (recOf fn a.tmps ps assign body w.heap.size .ready none)) := by
    rw [← hW1]; have := World.alloc_heap_new (w.alloc (.deferred (some []))) (.loop (recOf fn a.tmps ps assign body w.heap.size .ready none)); rwa [World.size_alloc] at this
  have hK1 : W1.heap[w.heap.size]? = some (.deferred (some [])) := by
    rw [← hW1]; exact (Below.heap_alloc _ _ _ (by simp)).trans (World.alloc_heap_new w _)
  have hB1 : Below w.heap.size w W1 := by rw [← hW1]; exact ((Below.refl _ w).alloc (Nat.le_refl _) _).alloc (by simp) _
  have hsz : W1.heap.size = w.heap.size + 2 := by rw [← hW1]; simp
  have hi1 : I [] (fun _ => False) W1 := (hI _ _ _ h0).2.2 _ (Grow.of_below hB1) (fun k hk => hk.elim (fun h => hB1.block k h) (fun h => h.elim))
  refine ⟨w.heap.size + 1, [{ target := .collected w.heap.size, args := #[] }], W1, { target := .fn (.func gf) lb, args := #[.func (.yield (w.heap.size + 1)) #[] #[]] }, W1, gf,
    #[.func (.yield (w.heap.size + 1)) #[] #[]] ++ lb, W1, ?_, ?_, ?_, ?_, fun h => by simp [Fence.wide] at h, ?_⟩
  · rw [← hW1]; exact run_enterLoop_outer _ _ _ _ _
  · simp only [resolve, hg]
    simp [go_sem]
  · intro f' hf'; simp [Target.leads] at hf'; subst hf'; trivial
  · simp [invoke, go_sem, eg]
  · have hD : ∀ d, some w.heap.size = some d → w.heap.size ≤ d ∧ d < w.heap.size + 1 := fun d hd => by cases hd; omega
    refine (hit (w.heap.size + 1) (w.heap.size + 2) (fun k => Ψ k ∨ k = w.heap.size + 1) (InvJ I (w.heap.size + 1) (some w.heap.size) (recOf fn a.tmps ps assign body w.heap.size .ready none))
      (fun pre Φ W => ∃ c, InvJ (Ix c) (w.heap.size + 1) (some w.heap.size) (recOf fn a.tmps ps assign body w.heap.size .done (some c)) pre Φ W) (fun _ => False) W1 (hg0.trans (Grow.of_below hB1))
      (fun k hk => ⟨(hG k hk).1, (hB1.block k (Nat.lt_of_lt_of_le (hG k hk).1 hg0.size)).trans (hG k hk).2⟩) (fun k hk => ?_) (fun _ h => h.elim) (InvJ.stab hI (by omega) (fun d hd => (hD d hd).2)) ?_ ?_ ⟨hi1, fun _ h => h.elim, hL1, fun d hd => by cases hd; exact hK1⟩).mono ?_
    · rcases hk with h | h
      · exact ⟨by have := (hΨ k h).1; omega, (hΨ k h).2⟩
      · exact ⟨by omega, fun hg' => by have := (hG k hg').1; have := hg0.size; omega⟩
    · rintro pre Φ W ⟨c, hc⟩
      obtain ⟨h1, h2, h3⟩ := InvJ.stab (hIx c) (by omega) (fun d hd => (hD d hd).2) _ _ _ hc
      exact ⟨h1, h2, fun W' hg' hk => ⟨c, h3 W' hg' hk⟩⟩
    · intro pre x Φ W hpx hJ
      exact round_of_bodyA hI hIx (by omega) (fun k hk => (hΨ k hk).1) hps hD aOf At hAt hJ (fun W K hK => hassign _ x W K hK) (fun N W hi hΦ hr h1 h2 h3 => hbody _ pre x Φ N W hpx hi (by omega) hΦ hr h1 h2 h3)
    · have fine : ∀ W2, Only (fun k => Ψ k ∨ k = w.heap.size + 1) (fun _ => False) W1 W2 → ∀ r, Only Ψ (fun _ => False) w (W2.putObj (w.heap.size + 1) (.loop r)) := fun W2 ho r =>
        ⟨((Grow.of_below hB1).trans ho.grow).trans (put_grow _ _ _), fun k hk h1 h2 => (put_other (by omega)).trans ((ho.block k (by omega) (fun h => h.elim h1 (by omega)) h2).trans (hB1.block k hk))⟩
      rintro e W2 ⟨⟨v, rfl⟩, Φ', hn, ho, (⟨hi, hΦ, hl, hk⟩ | ⟨pre, hpre, c, hi, hΦ, hl, hk⟩)⟩
      · have hnD : ¬ Φ' w.heap.size := fun h => by have := hΦ _ h; omega
        refine ⟨none, _, run_endLoop (P := P) hl (by simp [recOf]), hdone _ Φ' _ ?_ (fine W2 ho _) (Nat.le_refl _) hnD ((put_other (by omega)).trans (hk _ rfl))⟩
        exact (hI _ _ _ hi).2.2 _ (put_grow _ _ _) (fun k hk' => put_other (hk'.elim (fun h => by omega) (fun h => by have := hΦ k h; omega)))
      · have hnD : ¬ Φ' w.heap.size := fun h => by have := hΦ _ h; omega
        refine ⟨some c, _, run_endLoop (P := P) hl (by simp [recOf]), hstop _ Φ' c pre _ hpre ?_ (fine W2 ho _) (Nat.le_refl _) hnD ((put_other (by omega)).trans (hk _ rfl))⟩
        exact (hIx c _ _ _ hi).2.2 _ (put_grow _ _ _) (fun k hk' => put_other (hk'.elim (fun h => by omega) (fun h => by have := hΦ k h; omega)))

end
end Go.Proofs.YtpkamfbjgdmmoaaGreat
end
