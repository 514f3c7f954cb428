/- A part. -/
import Derived.Test.YtbpemdihoabbcaaGreatRbx
import Derived.Test.YtbpemdihoabbcaaGreatMhl
import Derived.StillTailTactics
import Derived.TacticsInMore
import Derived.Deep.CutBlock
import Derived.Deep.DeepCutAuto
import Derived.BigQuiet
import Derived.Deep.QuietTactic
import Derived.BigRegion
import Derived.RegionTactic
import Derived.Conc.WalkWords
namespace Go.Proofs.YtbpemdihoabbcaaGreat
set_option linter.unusedVariables false
set_option linter.unusedSimpArgs false
set_option maxRecDepth 100000
set_option maxHeartbeats 8000000
open Go.RowKit Go.Maps Go.Shelf
section
variable {d : Bp} {now : Int} {s : Sx} {F : FP} {w w' : World}
theorem bq_srtR (h : (bwM d now s s).is F w) : s.Srt := by
 obtain ⟨Fv, hx⟩ := bq_vo h
 obtain ⟨Fl, hl⟩ := bq_ld h
 obtain ⟨h1, h2, h3, h4⟩ := hx.srt
 exact ⟨hl.srt.1, h1, h2, h3, h4⟩
attribute [local go_sem ↓] loadSt_V_hide loadSt_W_hide loadSt_T_hide storeT_hide storeWt_hide in
theorem law11_recount (h : (bwM d now s s).is F w) (hs : s.Ok) (hN : d.N ≤ d.p) (hT : TInv s.S) (hG : GInv s.S) {k : Nat} (hk : k < 12) (hst : (s.S.P k).st = 1) {t : Int} (ht : t = (s.S.P k).tr) : Calls Tryz.prog 12 #[.pointer (some ⟨d.vb, 0, none⟩), .int .i64 k, .int .i64 t] w fun e w' => e = .returned (.tuple #[.agg (tlyS.f (s.S.P k).t).toArray, .bool true]) ∧ Below w.heap.size w w' := by
 have hab : ∀ W, Below w.heap.size w W → (bwM d now s s).is F W := fun W hW => bw_below h hW
 have hsv : SrtC s.S.V := (bq_srtR h).v
 have HCA := Lib.hid (fun W (hW : Below w.heap.size w W) (a : Int) (ha : -1 ≤ a ∧ a ≤ 12) => bq_casts (hab W hW) hs.inv (wf_small ha) t (Nat.le_trans (keys12 (ballots_srt hsv a t) (fun x hx => (hs.inv.row a x (List.mem_filter.1 hx).1).1)) (by decide)))
 have hts : 0 ≤ t ∧ t < 4 := by rw [ht]; exact hs.inv.t k hk
 have HDE := Lib.hid (fun W (hW : Below w.heap.size w W) (a : Int) (ha : -1 ≤ a ∧ a ≤ 12) => bq_lends (t := t) (hab W hW) (wf_small ha) (wf_small (by omega)))
 have HDI := Lib.hid (And.intro hs.inv.d (bq_srtR h).d)
 have HHH := Lib.hid (And.intro hsv (And.intro hs.inv (And.intro hG (And.intro hts ht))))
 have HTT := Lib.hid (hT.tal hk hst)
 clear hab hs hN hT hG hst hts h hsv
 obtain ⟨W1, hW1⟩ : ∃ W1, W1 = (w.alloc (.cells #[.int .i64 0, .int .i64 0, .int .i64 0] 41)).alloc (.cells #[.int .i64 0, .int .i64 0, .int .i64 0] 41) := ⟨_, rfl⟩
 have hB1 : Below w.heap.size w (w.alloc (.cells #[.int .i64 0, .int .i64 0, .int .i64 0] 41)) := (Below.refl _ w).alloc (Nat.le_refl _) _
 have hB2 : Below w.heap.size w W1 := by rw [hW1]; exact hB1.alloc hB1.size _
 have b0 : BxS tlyS W1 w.heap.size ⟨0, 0, 0⟩ := by
  rw [hW1]
  exact (BxS.new tlyS w ⟨0, 0, 0⟩).below ((Below.refl _ _).alloc (Nat.le_refl _) _)
 have b1 : BxS tlyS W1 (w.heap.size + 1) ⟨0, 0, 0⟩ := by
  rw [hW1]
  have := BxS.new tlyS (w.alloc (tlyS.obj ⟨0, 0, 0⟩)) ⟨0, 0, 0⟩
  rw [World.size_alloc] at this
  exact this
 have rs1 := b1.storeT ⟨0, 0, 0⟩
 have c0 := b0.other (c := w.heap.size + 1) (by omega) 0 (tlyS.f ⟨0, 0, 0⟩)
 have c1 := b1.set ⟨0, 0, 0⟩
 have c2 := below_setCells hB2 (b := w.heap.size + 1) (by omega) 0 (tlyS.f ⟨0, 0, 0⟩)
 obtain ⟨W2, hW2⟩ : ∃ W2, W2 = W1.setCells (w.heap.size + 1) 0 (tlyS.f ⟨0, 0, 0⟩) := ⟨_, rfl⟩
 rw [← hW2] at rs1 c0 c1 c2
 have rs : (storeT (.pointer (some ⟨w.heap.size + 1, 0, none⟩)) (.agg #[.int .i64 0, .int .i64 0, .int .i64 0])).run Tryz.prog ((w.alloc (.cells #[.int .i64 0, .int .i64 0, .int .i64 0] 41)).alloc (.cells #[.int .i64 0, .int .i64 0, .int .i64 0] 41)) = .ok () W2 := by rw [← hW1]; exact rs1
 obtain ⟨rb, hrb⟩ : ∃ rb, rb = w.heap.size := ⟨_, rfl⟩
 obtain ⟨ob, hob⟩ : ∃ ob, ob = w.heap.size + 1 := ⟨_, rfl⟩
 rw [← hob] at c1
 rw [← hrb] at c0
 have HB := Lib.hid (And.intro hrb hob)
 have HC := Lib.hid (And.intro c0 (And.intro c1 c2))
 have HNE := Lib.hid (show w.heap.size ≤ rb ∧ w.heap.size ≤ ob ∧ rb ≠ ob by omega)
 clear hW1 hB1 hB2 b0 b1 rs1 c0 c1 c2 hW2 hrb hob ht W1
 have HK := Lib.hid hk
 clear hk
 go_enter Tryz.func12, Tryz.ntmps12
 go_upto_block 0 with fail
 rw [← HB.out.2, ← HB.out.1]
 clear rs
 go_wp2_with fail
 go_loopw [9, 10, 11, 12, 13, 14, 15, 16, 17, 18] (fun a _ _ _ _ _ _ _ _ _ wr => ∃ j : Nat, j ≤ 10 ∧ a = .int .i64 j ∧ BxS tlyS wr ob (talK s.S k j) ∧ BxS tlyS wr rb ⟨0, 0, 0⟩ ∧ Below w.heap.size w wr) (fun a _ _ _ _ _ _ _ _ _ _ => 10 - (intOf a).toNat)
 case atStart => exact ⟨0, by omega, rfl, by rw [talK_zero]; exact HC.out.2.1, HC.out.1, HC.out.2.2⟩
 case round =>
  obtain ⟨j, hj, rfl, hbo, hbr, hbl⟩ := hrel
  have HR := Lib.hid (And.intro hbo (And.intro hbr hbl))
  clear hbo hbr hbl
  by_cases hlt : j < 10
  · have hlt' : (j : Int) < 10 := by omega
    have HJ := Lib.hid (show -1 ≤ (j : Int) ∧ (j : Int) ≤ 12 by omega)
    have HJ10 := Lib.hid hlt
    obtain ⟨wb, hwb⟩ : ∃ wb, wb = wr.heap.size := ⟨_, rfl⟩
    have hBn : Below wr.heap.size wr (wr.alloc (.cells #[.int .i64 0, .int .i64 0] 82)) := (Below.refl _ wr).alloc (Nat.le_refl _) _
    have bn : BxS wgtS (wr.alloc (.cells #[.int .i64 0, .int .i64 0] 82)) wr.heap.size ⟨0, 0⟩ := BxS.new wgtS wr ⟨0, 0⟩
    have rs1 : (storeWt (.pointer (some ⟨wr.heap.size, 0, none⟩)) (.agg #[.int .i64 0, .int .i64 0])).run Tryz.prog (wr.alloc (.cells #[.int .i64 0, .int .i64 0] 82)) = .ok () _ := bn.storeW ⟨0, 0⟩
    have f1 := bn.set ⟨0, 0⟩
    have f2 := below_setCells hBn (b := wr.heap.size) (Nat.le_refl _) 0 (wgtS.f ⟨0, 0⟩)
    obtain ⟨w2, hw2⟩ : ∃ w2, w2 = (wr.alloc (.cells #[.int .i64 0, .int .i64 0] 82)).setCells wr.heap.size 0 (wgtS.f ⟨0, 0⟩) := ⟨_, rfl⟩
    rw [← hw2] at rs1 f1 f2
    have f3 := HR.out.1.below f2
    have f4 := HR.out.2.1.below f2
    have f5 := HR.out.2.2.trans (f2.mono HR.out.2.2.size)
    rw [← hwb] at f1
    have hne : wb ≠ ob ∧ wb ≠ rb ∧ w.heap.size ≤ wb := ⟨by have := HR.out.1.lt; omega, by have := HR.out.2.1.lt; omega, by have := HR.out.2.2.size; omega⟩
    have HN2 := Lib.hid hne
    have HF := Lib.hid (And.intro f1 (And.intro f3 (And.intro f4 f5)))
    have HWB := Lib.hid hwb
    clear hBn bn f1 f2 f3 f4 f5 hne hw2 hwb hlt hj
    go_upto_block 2 with fail
    rw [← HWB.out]
    clear rs1
    go_wp2_with fail
    go_loopw [11, 12, 13, 14, 15] (fun dd _ _ _ _ wq => ∃ e : Nat, e ≤ 10 ∧ dd = .int .i64 e ∧ BxS wgtS wq wb (gotK s.S j t e) ∧ BxS tlyS wq ob (talK s.S k j) ∧ BxS tlyS wq rb ⟨0, 0, 0⟩ ∧ Below w.heap.size w wq) (fun dd _ _ _ _ _ => 10 - (intOf dd).toNat)
    case atStart => exact ⟨0, by omega, rfl, by rw [gotK_zero]; exact HF.out.1, HF.out.2.1, HF.out.2.2.1, HF.out.2.2.2⟩
    case round =>
     obtain ⟨e, he, rfl, hbw, hbo, hbr, hbl⟩ := hrel
     have HQ := Lib.hid (And.intro hbw (And.intro hbo (And.intro hbr hbl)))
     clear hbw hbo hbr hbl
     by_cases hlt : e < 10
     · have hlte : (e : Int) < 10 := by omega
       have HE := Lib.hid (show -1 ≤ (e : Int) ∧ (e : Int) ≤ 12 by omega)
       have HE10 := Lib.hid hlt
       clear hlt he
       have hdeg := HDE.out wr HQ.out.2.2.2 e HE.out
       obtain ⟨y, hy⟩ : ∃ y, y = undD s.S e t := ⟨_, rfl⟩
       rw [← hy] at hdeg
       cases hc : cget s.S.D e t with
       | none =>
        have hl0 : lentW s.S j t e = ⟨0, 0⟩ := by unfold lentW; rw [hc]
        rw [hc] at hdeg
        have hdeg' : Calls Tryz.prog 16 #[.pointer (some ⟨d.vb, 0, none⟩), .int .i64 e, .int .i64 t] wr fun e w' => e = .returned (.tuple #[.int .i64 y.to, .int .i64 y.l, .int .i64 y.n, .bool false]) ∧ Below wr.heap.size wr w' := hdeg
        have HDG := Lib.hid hdeg'
        have HL0 := Lib.hid hl0
        clear hdeg hdeg' hl0 hc hy
        go_wp2_with (first
         | (go_at_call 16; refine HDG.out.mono ?_; rintro e9 w5 ⟨rfl, hb⟩; have H5 := Lib.hid hb; clear hb)
         | fail)
        go_roundw
        case rel => exact ⟨e + 1, HE10.out, by go_num, by rw [gotK_skip HL0.out]; exact HQ.out.1.below H5.out, HQ.out.2.1.below H5.out, HQ.out.2.2.1.below H5.out, HQ.out.2.2.2.trans (H5.out.mono HQ.out.2.2.2.size)⟩
        case measure => have := HE10.out; simp [intOf]; omega
       | some z =>
        obtain ⟨-, hz1, hz2, hz3⟩ := HDI.out.1 _ (HDI.out.2.get.1 hc)
        have hyz : y = z := by rw [hy]; unfold undD; rw [hc]; rfl
        subst hyz
        rw [hc] at hdeg
        have hdeg' : Calls Tryz.prog 16 #[.pointer (some ⟨d.vb, 0, none⟩), .int .i64 e, .int .i64 t] wr fun e w' => e = .returned (.tuple #[.int .i64 y.to, .int .i64 y.l, .int .i64 y.n, .bool true]) ∧ Below wr.heap.size wr w' := hdeg
        have HDG := Lib.hid hdeg'
        have hle : lentW s.S j t e = if y.to = j then ⟨votesI y.n y.l, y.n⟩ else ⟨0, 0⟩ := by unfold lentW; rw [hc]
        obtain ⟨yt, yl, yn⟩ := y
        dsimp only at hz1 hz2 hz3 hle HDG
        have HLE := Lib.hid hle
        clear hdeg hdeg' hle hc hy
        by_cases hto : yt = (j : Int)
        · have hto2 : (yt == (j : Int)) = true := by rw [hto]; exact beq_self_eq_true _
          have hl0 : (0 : Int) ≤ yl := hz2.1
          have hl6 : yl ≤ (6 : Int) := hz2.2
          obtain ⟨gv, gc, hgg⟩ : ∃ gv gc, gotK s.S j t e = ⟨gv, gc⟩ := ⟨_, _, rfl⟩
          obtain ⟨vo, hvo⟩ : ∃ vo, vo = votesI yn yl := ⟨_, rfl⟩
          have hvc : ∀ W, Calls Tryz.prog 44 #[.int .i64 yn, .int .i64 yl] W fun e w' => e = .returned (.int .i64 vo) ∧ w' = W := fun W => by
           rw [hvo]
           exact (ref_Votes yn yl W hz3.1 (by omega) hl0 hl6).mono fun e w' h => ⟨h.1, h.2.symm⟩
          obtain ⟨g1, hg1⟩ : ∃ g1, g1 = wrap64 (gv + vo) := ⟨_, rfl⟩
          obtain ⟨g2, hg2⟩ : ∃ g2, g2 = wrap64 (gc + yn) := ⟨_, rfl⟩
          have hgs : gotK s.S j t (e + 1) = ⟨g1, g2⟩ := by rw [gotK_step, HLE.out, if_pos hto, hgg, hg1, hg2, hvo]
          have E1 : wrap64 (gv + vo) = g1 := hg1.symm
          have E2 : wrap64 (gc + yn) = g2 := hg2.symm
          have E3 : IntKind.i64.wrap (gv + vo) = g1 := by rw [hg1]; exact (IntWalk.i64_left (gv + vo))
          have E4 : IntKind.i64.wrap (gc + yn) = g2 := by rw [hg2]; exact (IntWalk.i64_left (gc + yn))
          have HV := Lib.hid hvc
          have HGS := Lib.hid (And.intro hgg hgs)
          have HTO := Lib.hid hto
          clear hvc hgg hgs hg1 hg2 hvo hto hz1 hz2 hz3
          go_upto_region 11 with (first
           | (go_at_call 16; refine HDG.out.mono ?_; rintro e9 w5 ⟨rfl, hb⟩; have H5 := Lib.hid hb; clear hb)
           | fail)
          have k1 := HQ.out.1.below H5.out
          rw [HGS.out.1] at k1
          have k2 := HQ.out.2.1.below H5.out
          have k3 := HQ.out.2.2.1.below H5.out
          have k4 := HQ.out.2.2.2.trans (H5.out.mono HQ.out.2.2.2.size)
          have kd : Below w5.heap.size w5 w5.drew := (Below.refl _ w5).drew
          have q1 := k1.below kd
          have cv : w5.drew.cell? ⟨wb, 0, none⟩ = some (.int .i64 gv) := q1.at_ 0 _ rfl
          have cc : w5.drew.cell? ⟨wb, 1, none⟩ = some (.int .i64 gc) := q1.at_ 1 _ rfl
          have cv0 : w5.cell? ⟨wb, 0, none⟩ = some (.int .i64 gv) := k1.at_ 0 _ rfl
          have cc0 : w5.cell? ⟨wb, 1, none⟩ = some (.int .i64 gc) := k1.at_ 1 _ rfl
          have st : (storeWt (.pointer (some ⟨wb, 0, none⟩)) (.agg #[.int .i64 g1, .int .i64 g2])).run Tryz.prog w5.drew = .ok () _ := q1.storeW ⟨g1, g2⟩
          have m1 := q1.set ⟨g1, g2⟩
          have m2 := (k2.below kd).other (c := wb) (fun q => HN2.out.1 q.symm) 0 (wgtS.f ⟨g1, g2⟩)
          have m3 := (k3.below kd).other (c := wb) (fun q => HN2.out.2.1 q.symm) 0 (wgtS.f ⟨g1, g2⟩)
          have m4 := below_setCells (k4.trans (kd.mono k4.size)) HN2.out.2.2 0 (wgtS.f ⟨g1, g2⟩)
          obtain ⟨w6, hw6⟩ : ∃ w6, w6 = w5.drew.setCells wb 0 (wgtS.f ⟨g1, g2⟩) := ⟨_, rfl⟩
          rw [← hw6] at st m1 m2 m3 m4
          have HM := Lib.hid (And.intro m1 (And.intro m2 (And.intro m3 m4)))
          clear k1 k2 k3 k4 kd q1 m1 m2 m3 m4 hw6
          have mixed : Tryz.prog.follows .mixedOrders = true := by kernel_rfl
          refine wp_region_still_tail 11 (by kernel_rfl) (by kernel_rfl) ?_
          simp only [List.take_succ_cons, List.take_zero, List.drop_succ_cons, List.drop_zero]
          repeat still_step
          still_call (HV.out _)
          repeat still_step
          refine wpStill_nil ?_
          change wpList _ _ _ _ _ w5.drew
          go_wp2_with fail
          go_roundw
          case rel => exact ⟨e + 1, HE10.out, by go_num, by rw [HGS.out.2]; exact HM.out.1, HM.out.2.1, HM.out.2.2.1, HM.out.2.2.2⟩
          case measure => have := HE10.out; simp [intOf]; omega
        · have hto2 : (yt == (j : Int)) = false := by simp [hto]
          have hl0 : lentW s.S j t e = ⟨0, 0⟩ := by rw [HLE.out, if_neg hto]
          have HL0 := Lib.hid hl0
          have HTO := Lib.hid hto
          clear hl0 hto hz1 hz2 hz3
          go_wp2_with (first
           | (go_at_call 16; refine HDG.out.mono ?_; rintro e9 w5 ⟨rfl, hb⟩; have H5 := Lib.hid hb; clear hb)
           | fail)
          go_roundw
          case rel => exact ⟨e + 1, HE10.out, by go_num, by rw [gotK_skip HL0.out]; exact HQ.out.1.below H5.out, HQ.out.2.1.below H5.out, HQ.out.2.2.1.below H5.out, HQ.out.2.2.2.trans (H5.out.mono HQ.out.2.2.2.size)⟩
          case measure => have := HE10.out; simp [intOf]; omega
     · have hge : ¬ (e : Int) < 10 := by omega
       have he10 : e = 10 := by omega
       obtain ⟨g, hg⟩ : ∃ g, g = gotK s.S j t 10 := ⟨_, rfl⟩
       have hgot : g = gotS s.S j t := by
        rw [hg]
        exact (HHH.out.2.2.1 j t ⟨by omega, by have := HJ10.out; omega⟩ HHH.out.2.2.2.1).symm
       obtain ⟨cs, hcs⟩ : ∃ cs, cs = ballots s.S j t := ⟨_, rfl⟩
       obtain ⟨n, hn⟩ : ∃ n, n = cs.length := ⟨_, rfl⟩
       have hn12 : n ≤ 12 := by rw [hn, hcs]; exact keys12 (ballots_srt HHH.out.1 j t) (fun x hx => (HHH.out.2.1.row j x (List.mem_filter.1 hx).1).1)
       have hok : ∀ x ∈ cs, balOk x.2 = true := fun x hx => by rw [hcs] at hx; exact (HHH.out.2.1.row j x (List.mem_filter.1 hx).1).2.2
       have htal : talC g k cs (talK s.S k j) = talK s.S k (j + 1) := by
        rw [hcs, HHH.out.2.2.2.2]
        exact talC_all HHH.out.1 (by rw [hgot, HHH.out.2.2.2.2])
       have hbw := HQ.out.1
       rw [he10, ← hg] at hbw
       have HQ2 := Lib.hid (And.intro hbw HQ.out.2)
       have HCS := Lib.hid (And.intro hcs (And.intro hn (And.intro hok htal)))
       clear he10 hg hgot hcs hn hok htal hbw he hlt HQ
       go_upto_block 4 with (first
        | (go_at_call 14; refine (HCA.out _ HQ2.out.2.2.2 j HJ.out).mono ?_; rintro e w4 ⟨v2, rfl, ho, hb⟩; rw [← HCS.out.1] at ho; obtain ⟨ao2, cap2, rfl⟩ := ho.lenOf; rw [← HCS.out.2.1] at ho ⊢; have HO := Lib.hid ho; have H4 := Lib.hid hb; clear ho hb)
        | fail)
       have HW4 := Lib.hid (And.intro (HQ2.out.1.below H4.out) (And.intro (HQ2.out.2.1.below H4.out) (And.intro (HQ2.out.2.2.1.below H4.out) (HQ2.out.2.2.2.trans (H4.out.mono HQ2.out.2.2.2.size)))))
       have HCO := Lib.hid (show ∀ q (hq : q < n), ∃ b2 o2, ao2 = some ⟨b2, o2, none⟩ ∧ w4.rangeAt b2 (o2 + q * 7) (castR.f (cs[q]'(by rw [← HCS.out.2.1]; exact hq))) ∧ b2 < w4.heap.size ∧ b2 ≠ ob ∧ b2 ≠ rb ∧ b2 ≠ wb from fun q hq => by
        obtain ⟨b2, o2, e2, h2, hb2⟩ := HO.out.reads.at (show q < cs.length by rw [← HCS.out.2.1]; exact hq)
        have hbk := HO.out.block (k := b2) (by rw [e2]; rfl)
        have l1 := HQ2.out.2.1.lt
        have l2 := HQ2.out.2.2.1.lt
        have l3 := HQ2.out.1.lt
        exact ⟨b2, o2, e2, h2, hb2, by omega, by omega, by omega⟩)
       clear HO HQ2 H4
       go_wp2_with fail
       go_loopw [18] (fun i wk => ∃ q : Nat, q ≤ n ∧ i = .int .i64 q ∧ BxS wgtS wk wb g ∧ BxS tlyS wk ob (talC g k (cs.take q) (talK s.S k j)) ∧ BxS tlyS wk rb ⟨0, 0, 0⟩ ∧ Below w.heap.size w wk ∧ (w4.heap.size ≤ wk.heap.size ∧ ∀ b, b < w4.heap.size → b ≠ ob → wk.heap[b]? = w4.heap[b]?)) (fun i _ => n - (intOf i).toNat)
       case atStart => exact ⟨0, by omega, rfl, HW4.out.1, HW4.out.2.1, HW4.out.2.2.1, HW4.out.2.2.2, Nat.le_refl _, fun _ _ _ => rfl⟩
       case round =>
        obtain ⟨q, hq, rfl, h1, h2, h3, h4, h5⟩ := hrel
        have HK5 := Lib.hid (And.intro h1 (And.intro h2 (And.intro h3 (And.intro h4 h5))))
        clear h1 h2 h3 h4 h5
        by_cases hlt : q < n
        · have hltq : (q : Int) < n := by omega
          obtain ⟨b2, o2, rfl, hr2, hb2, hbo2, hbr2, hbw2⟩ := HCO.out q hlt
          obtain ⟨x, hx⟩ : ∃ x, x = cs[q]'(by rw [← HCS.out.2.1]; exact hlt) := ⟨_, rfl⟩
          rw [← hx] at hr2
          have hxo : balOk x.2 = true := HCS.out.2.2.1 x (by rw [hx]; exact List.getElem_mem _)
          have htk : cs.take (q + 1) = cs.take q ++ [x] := by rw [hx]; exact (take_snoc (by rw [← HCS.out.2.1]; exact hlt)).symm
          have hsn := talC_snoc g k (cs.take q) (talK s.S k j) x
          rw [← htk] at hsn
          have hcx : wr.rangeAt b2 (o2 + q * 7) (castR.f x) := rangeAt_block hr2 (HK5.out.2.2.2.2.2 b2 hb2 hbo2)
          have cr : wr.cell? ⟨b2, o2 + q * 7, none⟩ = some (.int .i64 x.1) := cast_ref hcx
          have HX := Lib.hid (And.intro hcx (And.intro hxo hsn))
          have HQL := Lib.hid hlt
          have HB2 := Lib.hid (And.intro hb2 hbo2)
          clear hx hr2 hb2 hbo2 hbr2 hbw2 hxo htk hsn hcx hlt hq
          by_cases hkx : x.1 = (k : Int)
          · have hkx2 : (x.1 == (k : Int)) = true := by rw [hkx]; exact beq_self_eq_true _
            obtain ⟨T, hTT⟩ : ∃ T, T = talC g k (cs.take q) (talK s.S k j) := ⟨_, rfl⟩
            obtain ⟨G1, hG1⟩ : ∃ G1, G1 = gainW x.2 g := ⟨_, rfl⟩
            obtain ⟨T2, hT2⟩ : ∃ T2, T2 = T.add G1 := ⟨_, rfl⟩
            have hsn : talC g k (cs.take (q + 1)) (talK s.S k j) = T2 := by rw [HX.out.2.2, if_pos hkx, hT2, hG1, hTT]
            have hgn : ∀ W : World, Calls Tryz.prog 46 #[.agg (balS.f x.2).toArray, .agg (wgtS.f g).toArray] W fun e w' => e = .returned (.agg (tlyS.f G1).toArray) ∧ Below W.heap.size W w' := fun W => by rw [hG1]; exact ref_GainV x.2 g W HX.out.2.1
            have had : ∀ W : World, Calls Tryz.prog 45 #[.agg (tlyS.f T).toArray, .agg (tlyS.f G1).toArray] W fun e w' => e = .returned (.agg (tlyS.f T2).toArray) ∧ Below W.heap.size W w' := fun W => by rw [hT2]; exact ref_AddW T G1 W
            have hbo := HK5.out.2.1
            rw [← hTT] at hbo
            have hss : ∀ W, Below wr.heap.size wr W → ((loadSt_V (.pointer (some ⟨b2, o2 + q * 7 + 1, none⟩))).run Tryz.prog W = .ok (.agg (balS.f x.2).toArray) W ∧ (loadSt_W (.pointer (some ⟨wb, 0, none⟩))).run Tryz.prog W = .ok (.agg (wgtS.f g).toArray) W ∧ (loadSt_T (.pointer (some ⟨ob, 0, none⟩))).run Tryz.prog W = .ok (.agg (tlyS.f T).toArray) W) ∧ (storeT (.pointer (some ⟨ob, 0, none⟩)) (.agg (tlyS.f T2).toArray)).run Tryz.prog W = .ok () (W.setCells ob 0 (tlyS.f T2)) ∧ (BxS wgtS (W.setCells ob 0 (tlyS.f T2)) wb g ∧ BxS tlyS (W.setCells ob 0 (tlyS.f T2)) ob T2 ∧ BxS tlyS (W.setCells ob 0 (tlyS.f T2)) rb ⟨0, 0, 0⟩ ∧ Below w.heap.size w (W.setCells ob 0 (tlyS.f T2)) ∧ (w4.heap.size ≤ (W.setCells ob 0 (tlyS.f T2)).heap.size ∧ ∀ b, b < w4.heap.size → b ≠ ob → (W.setCells ob 0 (tlyS.f T2)).heap[b]? = w4.heap[b]?)) := fun W hW => by
             have hbw := HK5.out.1.below hW
             have hbo' := hbo.below hW
             have hbr := HK5.out.2.2.1.below hW
             have hlt4 := HK5.out.2.2.2.2.1
             have e2 : W.heap[b2]? = wr.heap[b2]? := hW.block b2 (Nat.lt_of_lt_of_le HB2.out.1 hlt4)
             have lv := cast_vote (rangeAt_block HX.out.1 e2)
             have s2 := (setCells_off (vs := tlyS.f T2) (o := 0) (w := W) (b := ob) (k := b2) HB2.out.2)
             have hbwo := hbw.other HN2.out.1 0 (tlyS.f T2)
             refine ⟨⟨loadV_at lv, hbw.loadW, hbo'.loadT⟩, hbo'.storeT T2, hbwo, hbo'.set T2, hbr.other HNE.out.2.2 0 (tlyS.f T2), below_setCells (HK5.out.2.2.2.1.trans (hW.mono HK5.out.2.2.2.1.size)) HNE.out.2.1 0 (tlyS.f T2), by rw [setCells_size]; exact Nat.le_trans hlt4 hW.size, fun b hb hbo => ?_⟩
             exact (setCells_off hbo _ _ _).trans ((hW.block b (Nat.lt_of_lt_of_le hb hlt4)).trans (HK5.out.2.2.2.2.2 b hb hbo))
            have HS := Lib.hid hss
            have HGN := Lib.hid hgn
            have HAD := Lib.hid had
            have HSN := Lib.hid hsn
            have HKX := Lib.hid hkx
            clear hss hgn had hsn hbo hT2 hG1 hTT hkx
            go_upto_region 19 with fail
            have mixed : Tryz.prog.follows .mixedOrders = true := by kernel_rfl
            have L0 := Lib.hid (Below.refl wr.heap.size wr)
            have LD := Lib.hid L0.out.drew
            apply wp_meetQ (S := fun wc => BxS wgtS wc wb g ∧ BxS tlyS wc ob T2 ∧ BxS tlyS wc rb ⟨0, 0, 0⟩ ∧ Below w.heap.size w wc ∧ (w4.heap.size ≤ wc.heap.size ∧ ∀ b, b < w4.heap.size → b ≠ ob → wc.heap[b]? = w4.heap[b]?))
            case h =>
             refine startU (S := fun W => (loadSt_V (.pointer (some ⟨b2, o2 + q * 7 + 1, none⟩))).run Tryz.prog W = .ok (.agg (balS.f x.2).toArray) W ∧ (loadSt_W (.pointer (some ⟨wb, 0, none⟩))).run Tryz.prog W = .ok (.agg (wgtS.f g).toArray) W ∧ (loadSt_T (.pointer (some ⟨ob, 0, none⟩))).run Tryz.prog W = .ok (.agg (tlyS.f T).toArray) W) (L := 9) (by kernel_rfl) ?_ (fun hHeld => ?_)
             · try dsimp only
               first | with_reducible exact (HS.out _ LB.out).1 | with_reducible exact (HS.out _ LA.out).1 | with_reducible exact (HS.out _ LD.out).1
             refine takeU (i := 0) (v := ?_) rfl (by kernel_rfl) (fun _ _ _ h => h) (Or.inl ⟨by rfl, ?_⟩) (by assumption) ?_
             rotate_left
             · (intro w' hSw; (try dsimp only at hSw); go_simp; try with_reducible rfl)
             try walk_nrm
             refine takeU (i := 1) (v := ?_) rfl (by kernel_rfl) (fun _ _ _ h => h) (Or.inl ⟨by rfl, ?_⟩) (by assumption) ?_
             rotate_left
             · (intro w' hSw; (try dsimp only at hSw); go_simp; try with_reducible rfl)
             try walk_nrm
             refine takeU (i := 2) (v := ?_) rfl (by kernel_rfl) (fun _ _ _ h => h) (Or.inl ⟨by rfl, ?_⟩) (by assumption) ?_
             rotate_left
             · (intro w' hSw; (try dsimp only at hSw); go_simp; try with_reducible rfl)
             try walk_nrm
             refine takeU (i := 3) (v := ?_) rfl (by kernel_rfl) (fun _ _ _ h => h) (Or.inl ⟨by rfl, ?_⟩) (by assumption) ?_
             rotate_left
             · (intro w' hSw; (try dsimp only at hSw); go_simp; try with_reducible rfl)
             try walk_nrm
             refine takeU (i := 4) (v := ?_) rfl (by kernel_rfl) (fun _ _ _ h => h) (Or.inl ⟨by rfl, ?_⟩) (by assumption) ?_
             rotate_left
             · (intro w' hSw; (try dsimp only at hSw); go_simp; try with_reducible rfl)
             try walk_nrm
             refine takeU (i := 5) (v := ?_) rfl (by kernel_rfl) (fun _ _ _ h => h) (Or.inl ⟨by rfl, ?_⟩) (by assumption) ?_
             rotate_left
             · (intro w' hSw; (try dsimp only at hSw); go_simp; try with_reducible rfl)
             try walk_nrm
             refine takeU (i := 6) (v := ?_) rfl (by kernel_rfl) (fun _ _ _ h => h) (Or.inl ⟨by rfl, ?_⟩) (by assumption) ?_
             rotate_left
             · (intro w' hSw; (try dsimp only at hSw); go_simp; try with_reducible rfl)
             try walk_nrm
             refine readyU (rs := [7]) (by kernel_rfl) (by simp) ?_
             refine AllReadyU.cons rfl (fun K hK => ?_) AllReadyU.nil
             simp only [List.getElem_toArray, List.getElem_cons_zero, List.getElem_cons_succ]
             go_simp
             go_at_call 46; with_reducible refine (HGN.out _).mono ?_; rintro e wa ⟨rfl, hb⟩; have LA := Lib.hid (LD.out.trans (hb.mono LD.out.size)); clear hb
             first | refine hK.out _ _ ?_ (fun hHeld => ?_) | (go_wp2_with fail; refine hK.out _ _ ?_ (fun hHeld => ?_))
             · try dsimp only
               first | with_reducible exact (HS.out _ LB.out).1 | with_reducible exact (HS.out _ LA.out).1 | with_reducible exact (HS.out _ LD.out).1
             clear hK K
             try walk_nrm
             refine readyU (rs := [8]) (by kernel_rfl) (by simp) ?_
             refine AllReadyU.cons rfl (fun K hK => ?_) AllReadyU.nil
             simp only [List.getElem_toArray, List.getElem_cons_zero, List.getElem_cons_succ]
             go_simp
             go_at_call 45; with_reducible refine (HAD.out _).mono ?_; rintro e wb2 ⟨rfl, hb⟩; have LB := Lib.hid (LA.out.trans (hb.mono LA.out.size)); have tsb := (HS.out _ LB.out).2.1; clear hb
             first | refine hK.out _ _ ?_ (fun hHeld => ?_) | (go_wp2_with fail; refine hK.out _ _ ?_ (fun hHeld => ?_))
             · try dsimp only
               first | with_reducible exact (HS.out _ LB.out).1 | with_reducible exact (HS.out _ LA.out).1 | with_reducible exact (HS.out _ LD.out).1
             clear hK K
             try walk_nrm
             refine readyU (rs := [9]) (by kernel_rfl) (by simp) ?_
             refine AllReadyU.last rfl (fun K hK => ?_)
             simp only [List.getElem_toArray, List.getElem_cons_zero, List.getElem_cons_succ]
             go_simp
             first | refine hK.out _ _ ?_ | (go_wp2_with fail; refine hK.out _ _ ?_)
             clear hK K
             try walk_nrm
             refine doneU (by kernel_rfl) ?_ _
             exact ⟨rfl, (HS.out _ LB.out).2.2⟩
            case hK =>
             rintro wc hwc
             dsimp only [Exit.inBlock, Exit.then]
             have HWC := Lib.hid hwc
             clear hwc
             go_wp2_with fail
             go_roundw
             case rel => exact ⟨q + 1, HQL.out, by go_num, HWC.out.1, by rw [HSN.out]; exact HWC.out.2.1, HWC.out.2.2.1, HWC.out.2.2.2.1, HWC.out.2.2.2.2⟩
             case measure => have := HQL.out; simp [intOf]; omega
          · have hkx2 : (x.1 == (k : Int)) = false := by simp [hkx]
            have HSN := Lib.hid (show talC g k (cs.take (q + 1)) (talK s.S k j) = talC g k (cs.take q) (talK s.S k j) by rw [HX.out.2.2, if_neg hkx])
            have HKX := Lib.hid hkx
            clear hkx
            go_wp2_with fail
            go_roundw
            case rel => exact ⟨q + 1, HQL.out, by go_num, HK5.out.1, by rw [HSN.out]; exact HK5.out.2.1, HK5.out.2.2.1, HK5.out.2.2.2.1, HK5.out.2.2.2.2⟩
            case measure => have := HQL.out; simp [intOf]; omega
        · have hge : ¬ (q : Int) < n := by omega
          have hqn : q = n := by omega
          have h2 := HK5.out.2.1
          rw [hqn, HCS.out.2.1, List.take_length, HCS.out.2.2.2] at h2
          have HZ := Lib.hid h2
          clear h2 hqn hlt hq
          go_wp2_with fail
          go_roundw
          case rel => exact ⟨j + 1, HJ10.out, by go_num, HZ.out, HK5.out.2.2.1, HK5.out.2.2.2.1⟩
          case measure => have := HJ10.out; simp [intOf]; omega
  · have hge : ¬ (j : Int) < 10 := by omega
    have hj10 : j = 10 := by omega
    have hbo := HR.out.1
    rw [hj10, ← HTT.out] at hbo
    obtain ⟨T, hTe⟩ : ∃ T, T = (s.S.P k).t := ⟨_, rfl⟩
    rw [← hTe] at hbo
    have lt0 := hbo.loadT
    have st0 := HR.out.2.1.storeT T
    have f1 := HR.out.2.1.set T
    have f2 := below_setCells HR.out.2.2 HNE.out.1 0 (tlyS.f T)
    obtain ⟨w9, hw9⟩ : ∃ w9, w9 = wr.setCells rb 0 (tlyS.f T) := ⟨_, rfl⟩
    rw [← hw9] at st0 f1 f2
    have HF := Lib.hid (And.intro f1 f2)
    have HTE := Lib.hid hTe
    clear f1 f2 hw9 hbo hTe hj10 hlt hj
    go_wp2_with fail
    exact bodyPost_ret (v := .tuple #[tlyS.v T, .bool true]) (results_S2 (s := tlyS) Tryz.results12 rfl rfl HF.out.1.at_) rfl ⟨by rw [← HTE.out]; rfl, HF.out.2⟩
end
end Go.Proofs.YtbpemdihoabbcaaGreat
