/-
  Joined texts.
-/
import Derived.Test.YtbpemdihoabbcaaGreatMhl
import Derived.Conc.WalkWords
namespace Go.Proofs.YtbpemdihoabbcaaGreat
set_option linter.unusedVariables false
set_option linter.unusedSimpArgs false
set_option maxRecDepth 100000
set_option maxHeartbeats 8000000
section
open Go.RowKit Go.Maps
section
variable {vy pb rb : Nat} {P P' : Nat → Pl} {R R' : Nat → Rc} {F : FP} {w w' W : World}
theorem RyAt.row (h : RyAt vy pb rb P R F w) {k : Nat} (hk : k < 40) : ∃ v, w.cell? ⟨rb, k * 9, none⟩ = some v ∧ RdR castR w v (R k).c ∧ ∀ b, v.ownBlock = some b → F b ∧ b ≠ vy ∧ b ≠ pb ∧ b ≠ rb := by
 obtain ⟨vs, Cp, Cr, h1, h2, h3, h4, h5, h6, -⟩ := h
 exact ⟨vs k, by rw [World.cell?, h3]; exact h5.2.2 k hk 0 _ rfl, (h6 k hk).1, (h6 k hk).2⟩
theorem loadV_at {b o : Nat} {x : Bal} (h : w.rangeAt b o (balS.f x)) : (loadSt_V (.pointer (some ⟨b, o, none⟩))).run Tryz.prog w = .ok (.agg (balS.f x).toArray) w := run_loadS (s := balS) h
theorem loadW_at {b o : Nat} {x : Wgt} (h : w.rangeAt b o (wgtS.f x)) : (loadSt_W (.pointer (some ⟨b, o, none⟩))).run Tryz.prog w = .ok (.agg (wgtS.f x).toArray) w := run_loadS (s := wgtS) h
theorem loadT_at {b o : Nat} {x : Tl} (h : w.rangeAt b o (tlyS.f x)) : (loadSt_T (.pointer (some ⟨b, o, none⟩))).run Tryz.prog w = .ok (.agg (tlyS.f x).toArray) w := run_loadS (s := tlyS) h
theorem RyAt.tally (h : RyAt vy pb rb P R F w) {k : Nat} (hk : k < 12) : w.rangeAt pb (k * 7 + 4) (tlyS.f (P k).t) := fun j u hj => by
 obtain ⟨c0, c1, c2, c3, c4, c5, c6⟩ := h.poll hk
 have hj3 : j < 3 := (List.getElem?_eq_some_iff.1 hj).1
 match j, hj3, hj with
 | 0, _, hj => cases hj; exact c4
 | 1, _, hj => cases hj; exact c5
 | 2, _, hj => cases hj; exact c6
def storeWt (a v : Value) : Sem Unit := Instr.storeAt 82 a v
theorem storeWt_hide (a v : Value) : Instr.storeAt 82 a v = storeWt a v := rfl
theorem RyAt.got (h : RyAt vy pb rb P R F w) {k : Nat} (hk : k < 40) : w.rangeAt rb (k * 9 + 5) (wgtS.f (R k).g) := fun j u hj => by
 obtain ⟨v, -, -, -, -, -, -, c5, c6, -⟩ := h.rec hk
 have hj2 : j < 2 := (List.getElem?_eq_some_iff.1 hj).1
 match j, hj2, hj with
 | 0, _, hj => cases hj; exact c5
 | 1, _, hj => cases hj; exact c6
theorem cast_vote {b o : Nat} {x : Int × Bal} (h : w.rangeAt b o (castR.f x)) : w.rangeAt b (o + 1) (balS.f x.2) := fun j u hj => by
 have := h (j + 1) u hj
 rwa [show o + 1 + j = o + (j + 1) by omega]
theorem cast_ref {b o : Nat} {x : Int × Bal} (h : w.rangeAt b o (castR.f x)) : w.cell? ⟨b, o, none⟩ = some (.int .i64 x.1) := h 0 _ rfl
attribute [local go_sem ↓] loadSt_V_hide loadSt_W_hide loadSt_T_hide storeT_hide storeWt_hide in
theorem ry_got (h : RyAt vy pb rb P R F w) {a t : Int} (ha : isAcc a) (ht : 0 ≤ t ∧ t < 4) (hv : ∀ x ∈ (R (kOf a t)).c, (0 ≤ x.1 ∧ x.1 < 12) ∧ balOk x.2 = true) (hl : (R (kOf a t)).c.length ≤ 1000) (is : Wgt) : Calls Tryz.prog 97 #[.pointer (some ⟨vy, 0, none⟩), .int .i64 a, .int .i64 t, .agg #[.int .i64 is.v, .int .i64 is.c]] w fun e w' => e = .returned (.tuple #[]) ∧ (ryM vy pb rb (lendP (R (kOf a t)).g is P (R (kOf a t)).c) (updN R (kOf a t) { R (kOf a t) with g := is })).to F w w' := by
 have hk := kOf_lt ha ht
 obtain ⟨w1, hw1⟩ : ∃ w1, w1 = w.alloc (.cells #[.int .i64 is.v, .int .i64 is.c] 82) := ⟨_, rfl⟩
 have hb1 : Below w.heap.size w w1 := by rw [hw1]; exact (Below.refl _ w).alloc (Nat.le_refl _) _
 have h1 : RyAt vy pb rb P R F w1 := Mem.below (m := ryM vy pb rb P R) h hb1
 have hat := ry_rec h1 ha ht
 obtain ⟨nb, hnb⟩ : ∃ nb, nb = w.heap.size := ⟨_, rfl⟩
 have hbx : w1.heap[nb]? = some (.cells #[.int .i64 is.v, .int .i64 is.c] 82 (0, 0)) := by rw [hw1, hnb]; exact World.alloc_heap_new _ _
 have hnF : ¬ F nb := fun q => by have := (ryM vy pb rb P R).lt (show (ryM vy pb rb P R).is F w from h) q; omega
 have hnl : nb < w1.heap.size := (Array.getElem?_eq_some_iff.1 hbx).1
 obtain ⟨k, hkk⟩ : ∃ k, k = kOf a t := ⟨_, rfl⟩
 rw [← hkk] at hk hv hl hat ⊢
 obtain ⟨xs, hxs⟩ : ∃ xs, xs = (R k).c := ⟨_, rfl⟩
 obtain ⟨was, hwas⟩ : ∃ g, g = (R k).g := ⟨_, rfl⟩
 rw [← hxs] at hv hl ⊢
 rw [← hwas] at ⊢
 obtain ⟨n, hn⟩ : ∃ n, n = xs.length := ⟨_, rfl⟩
 have HAT := Lib.hid hat
 have HK := Lib.hid (And.intro hk (And.intro hv (And.intro hl (And.intro hn (And.intro hxs hwas)))))
 have HW1 := Lib.hid hw1
 have HNB := Lib.hid hnb
 have H1 := Lib.hid (And.intro hb1 (And.intro h1 (And.intro hbx (And.intro hnF hnl))))
 clear hat hk hv hl hn hxs hwas hw1 hnb hb1 h1 hbx hnF hnl h ha ht hkk
 go_enter Tryz.func97, Tryz.ntmps97
 go_upto_region 2 with (first
  | (go_at_call 90; rw [← HW1.out]; refine HAT.out.mono ?_; rintro e w' ⟨rfl, hw⟩; rw [hw]; clear hw w')
  | fail)
 rw [← HNB.out]
 go_wp2_with fail
 go_loopw [9] (fun i wr => ∃ j : Nat, j ≤ n ∧ i = .int .i64 j ∧ (ryM vy pb rb (lendP was is P (xs.take j)) R).to F w1 wr) (fun i _ => n - (intOf i).toNat)
 case atStart => exact ⟨0, by omega, rfl, ry_refl H1.out.2.1⟩
 case round =>
  obtain ⟨j, hj, rfl, hto⟩ := hrel
  have hn1 : n ≤ 1000 := by rw [HK.out.2.2.2.1]; exact HK.out.2.2.1
  obtain ⟨F1, hry⟩ := ry_at hto
  have hbr : wr.heap[nb]? = some (.cells #[.int .i64 is.v, .int .i64 is.c] 82 (0, 0)) := (Mem.to_keeps hto H1.out.2.2.2.2 H1.out.2.2.2.1).trans H1.out.2.2.1
  obtain ⟨v, c0, hrd, hown⟩ := hry.row HK.out.1
  rw [← HK.out.2.2.2.2.1] at hrd
  obtain ⟨ao, cap, rfl⟩ := hrd.lenOf
  rw [← HK.out.2.2.2.1] at hrd c0
  have HRD := Lib.hid (And.intro hrd hown)
  have HTO := Lib.hid (And.intro hto hry)
  have HBR := Lib.hid hbr
  by_cases hlt : j < n
  · have g1 : (j : Int) < n := by omega
    obtain ⟨b, off, rfl, hr, hb⟩ := hrd.at (show j < xs.length by rw [← HK.out.2.2.2.1]; exact hlt)
    obtain ⟨x, hx⟩ : ∃ x, x = xs[j]'(by rw [← HK.out.2.2.2.1]; exact hlt) := ⟨_, rfl⟩
    rw [← hx] at hr
    have hxm : x ∈ xs := by rw [hx]; exact List.getElem_mem _
    obtain ⟨⟨x0, x12⟩, xok⟩ := HK.out.2.1 x hxm
    have hbp : b ≠ pb := (hown b rfl).2.2.1
    have htk : xs.take (j + 1) = xs.take j ++ [x] := by rw [hx]; exact (take_snoc (by rw [← HK.out.2.2.2.1]; exact hlt)).symm
    have hlen := lendP_snoc was is P (xs.take j) x
    rw [← htk] at hlen
    obtain ⟨P1, hP1⟩ : ∃ P1, P1 = lendP was is P (xs.take j) := ⟨_, rfl⟩
    rw [← hP1] at hlen hry hto
    have d0 : wr.cell? ⟨b, off + j * 7, none⟩ = some (.int .i64 x.1) := cast_ref hr
    obtain ⟨rf, hrf⟩ : ∃ rf : Nat, x.1 = rf := ⟨x.1.toNat, by omega⟩
    rw [hrf] at d0 x12
    have hrl : rf < 12 := by omega
    have hop := ry_open hry hrl
    unfold lendP1 at hlen
    rw [hrf, Int.toNat_natCast] at hlen
    obtain ⟨y, hy⟩ : ∃ y, y = x.2 := ⟨_, rfl⟩
    have lv := cast_vote hr
    rw [← hy] at xok hlen lv
    have hrlI : (rf : Int) < 12 := by omega
    by_cases q : (P1 rf).st = 1
    · rw [show ((P1 rf).st == 1) = true by simp [q]] at hop
      rw [if_pos q] at hlen
      obtain ⟨tt, htt⟩ : ∃ tt, tt = (P1 rf).t := ⟨_, rfl⟩
      have ct := hry.tally hrl
      rw [← htt] at hlen ct
      have cg := hry.got HK.out.1
      rw [← HK.out.2.2.2.2.2] at cg
      obtain ⟨c1, -⟩ := hry.top
      obtain ⟨o1, o2, o3, o4, o5, o6⟩ := hry.own
      have hnp : nb ≠ pb := fun e => by
       obtain ⟨F2, k1, k2, k3⟩ := hto
       rcases k2 pb (RyAt.own k1).2.1 with e2 | e2
       · exact H1.out.2.2.2.1 (by rw [e]; exact e2)
       · have := H1.out.2.2.2.2; omega
      have cb : wr.rangeAt nb 0 (wgtS.f is) := rangeAt_whole (T := 82) hbr
      have hS : ∀ W : World, W.heap[vy]? = wr.heap[vy]? → W.heap[rb]? = wr.heap[rb]? → W.heap[b]? = wr.heap[b]? → W.heap[nb]? = wr.heap[nb]? → (W.cell? ⟨vy, 0, none⟩ = some (.slice (some ⟨pb, 0, none⟩) 12 12) ∧ W.cell? ⟨rb, k * 9, none⟩ = some (.slice (some ⟨b, off, none⟩) n cap) ∧ W.cell? ⟨b, off + j * 7, none⟩ = some (.int .i64 rf) ∧ (loadSt_V (.pointer (some ⟨b, off + j * 7 + 1, none⟩))).run Tryz.prog W = .ok (.agg (balS.f y).toArray) W ∧ (loadSt_W (.pointer (some ⟨rb, k * 9 + 5, none⟩))).run Tryz.prog W = .ok (.agg (wgtS.f was).toArray) W ∧ (loadSt_W (.pointer (some ⟨nb, 0, none⟩))).run Tryz.prog W = .ok (.agg (wgtS.f is).toArray) W) := fun W q1 q2 q3 q4 =>
       ⟨(World.cell?_of_block q1).trans c1, (World.cell?_of_block q2).trans c0, (World.cell?_of_block q3).trans d0, loadV_at (rangeAt_block lv q3), loadW_at (rangeAt_block cg q2), loadW_at (rangeAt_block cb q4)⟩
      have hl1 : vy < wr.heap.size := (ryM vy pb rb P1 R).lt hry o1
      have hl2 : rb < wr.heap.size := (ryM vy pb rb P1 R).lt hry o3
      have hl3 : pb < wr.heap.size := (ryM vy pb rb P1 R).lt hry o2
      have hl4 : nb < wr.heap.size := (Array.getElem?_eq_some_iff.1 hbr).1
      have hSb : ∀ W : World, Below wr.heap.size wr W → (W.cell? ⟨vy, 0, none⟩ = some (.slice (some ⟨pb, 0, none⟩) 12 12) ∧ W.cell? ⟨rb, k * 9, none⟩ = some (.slice (some ⟨b, off, none⟩) n cap) ∧ W.cell? ⟨b, off + j * 7, none⟩ = some (.int .i64 rf) ∧ (loadSt_V (.pointer (some ⟨b, off + j * 7 + 1, none⟩))).run Tryz.prog W = .ok (.agg (balS.f y).toArray) W ∧ (loadSt_W (.pointer (some ⟨rb, k * 9 + 5, none⟩))).run Tryz.prog W = .ok (.agg (wgtS.f was).toArray) W ∧ (loadSt_W (.pointer (some ⟨nb, 0, none⟩))).run Tryz.prog W = .ok (.agg (wgtS.f is).toArray) W) := fun W hW => hS W (hW.block vy hl1) (hW.block rb hl2) (hW.block b hb) (hW.block nb hl4)
      have hSs : ∀ (W : World) (vs : List Value), Below wr.heap.size wr W → ((fun W : World => W.cell? ⟨vy, 0, none⟩ = some (.slice (some ⟨pb, 0, none⟩) 12 12) ∧ W.cell? ⟨rb, k * 9, none⟩ = some (.slice (some ⟨b, off, none⟩) n cap) ∧ W.cell? ⟨b, off + j * 7, none⟩ = some (.int .i64 rf) ∧ (loadSt_V (.pointer (some ⟨b, off + j * 7 + 1, none⟩))).run Tryz.prog W = .ok (.agg (balS.f y).toArray) W ∧ (loadSt_W (.pointer (some ⟨rb, k * 9 + 5, none⟩))).run Tryz.prog W = .ok (.agg (wgtS.f was).toArray) W ∧ (loadSt_W (.pointer (some ⟨nb, 0, none⟩))).run Tryz.prog W = .ok (.agg (wgtS.f is).toArray) W) (W.setCells pb (rf * 7 + 4) vs)) := fun W vs hW =>
       hS _ ((setCells_off o4 _ _ _).trans (hW.block vy hl1)) ((setCells_off (fun e => o6 e.symm) _ _ _).trans (hW.block rb hl2)) ((setCells_off hbp _ _ _).trans (hW.block b hb)) ((setCells_off hnp _ _ _).trans (hW.block nb hl4))
      obtain ⟨T3, hT3⟩ : ∃ T3, T3 = relend y was is tt := ⟨_, rfl⟩
      rw [← hT3] at hlen
      have hTl : ∀ W : World, Below wr.heap.size wr W → (loadSt_T (.pointer (some ⟨pb, rf * 7 + 4, none⟩))).run Tryz.prog W = .ok (.agg (tlyS.f tt).toArray) W := fun W hW => loadT_at (rangeAt_block ct (hW.block pb hl3))
      have hTs : ∀ W : World, Below wr.heap.size wr W → (storeT (.pointer (some ⟨pb, rf * 7 + 4, none⟩)) (.agg (tlyS.f T3).toArray)).run Tryz.prog W = .ok () (W.setCells pb (rf * 7 + 4) (tlyS.f T3)) := fun W hW => run_storeT (RyAt.pthere (Mem.below (m := ryM vy pb rb P1 R) hry hW) hrl (by omega)) T3
      have hend : ∀ W : World, Below wr.heap.size wr W → (ryM vy pb rb (lendP was is P (xs.take (j + 1))) R).to F w1 (W.setCells pb (rf * 7 + 4) (tlyS.f T3)) := fun W hW => by
       rw [hlen]
       exact ry_setPs (ry_below hto hW) hrl (by show 4 + 3 ≤ 7; omega) rfl
      have hg1 : ∀ W : World, Calls Tryz.prog 46 #[.agg (balS.f y).toArray, .agg (wgtS.f was).toArray] W fun e w' => e = .returned (.agg (tlyS.f (gainW y was)).toArray) ∧ Below W.heap.size W w' := fun W => ref_GainV y was W xok
      have hg2 : ∀ W : World, Calls Tryz.prog 46 #[.agg (balS.f y).toArray, .agg (wgtS.f is).toArray] W fun e w' => e = .returned (.agg (tlyS.f (gainW y is)).toArray) ∧ Below W.heap.size W w' := fun W => ref_GainV y is W xok
      have hsub : ∀ W : World, Calls Tryz.prog 92 #[.agg (tlyS.f tt).toArray, .agg (tlyS.f (gainW y was)).toArray] W fun e w' => e = .returned (.agg (tlyS.f (tt.sub (gainW y was))).toArray) ∧ Below W.heap.size W w' := fun W => ref_SubW tt _ W
      have hadd : ∀ W : World, Calls Tryz.prog 45 #[.agg (tlyS.f (tt.sub (gainW y was))).toArray, .agg (tlyS.f (gainW y is)).toArray] W fun e w' => e = .returned (.agg (tlyS.f T3).toArray) ∧ Below W.heap.size W w' := fun W => by rw [hT3]; exact ref_AddW _ _ W
      obtain ⟨G1, hG1⟩ : ∃ g, g = gainW y was := ⟨_, rfl⟩
      obtain ⟨G2, hG2⟩ : ∃ g, g = gainW y is := ⟨_, rfl⟩
      obtain ⟨T2, hT2⟩ : ∃ g, g = tt.sub (gainW y was) := ⟨_, rfl⟩
      rw [← hT2] at hsub hadd
      rw [← hG1] at hg1 hsub
      rw [← hG2] at hg2 hadd
      have HOP := Lib.hid hop
      have HSB := Lib.hid hSb
      have HSS := Lib.hid hSs
      have HTL := Lib.hid hTl
      have HTS := Lib.hid hTs
      have HEND := Lib.hid hend
      have HG1 := Lib.hid hg1
      have HG2 := Lib.hid hg2
      have HSUB := Lib.hid hsub
      have HADD := Lib.hid hadd
      have tokg : True := trivial
      clear hop hSb hSs hTl hTs hend hg1 hg2 hsub hadd hG1 hG2 hT2 hT3 hS hl1 hl2 hl3 hl4 cb hnp o1 o2 o3 o4 o5 o6 cg ct htt hlen lv hy xok hP1 htk hxm hr hb hown hbp hrd hto hry hbr hx q
      go_upto_region 6 with (first
       | (go_at_call 87; refine HOP.out.mono ?_; rintro e w' ⟨rfl, hw⟩; rw [hw]; clear hw w')
       | fail)
      have mixed : Tryz.prog.follows .mixedOrders = true := by kernel_rfl
      have B0 := Lib.hid (Below.refl wr.heap.size wr)
      first
       | go_region_held3 (fun W => W.cell? ⟨vy, 0, none⟩ = some (.slice (some ⟨pb, 0, none⟩) 12 12) ∧ W.cell? ⟨rb, k * 9, none⟩ = some (.slice (some ⟨b, off, none⟩) n cap) ∧ W.cell? ⟨b, off + j * 7, none⟩ = some (.int .i64 rf) ∧ (loadSt_V (.pointer (some ⟨b, off + j * 7 + 1, none⟩))).run Tryz.prog W = .ok (.agg (balS.f y).toArray) W ∧ (loadSt_W (.pointer (some ⟨rb, k * 9 + 5, none⟩))).run Tryz.prog W = .ok (.agg (wgtS.f was).toArray) W ∧ (loadSt_W (.pointer (some ⟨nb, 0, none⟩))).run Tryz.prog W = .ok (.agg (wgtS.f is).toArray) W) (first | exact HSB.out _ B0.out | exact HSB.out _ B0.out.drew) (fail)
       | fail
      go_upto_region 7 with fail
      have B1 := Lib.hid B0.out.drew
      have B2 := Lib.hid B1.out.drew
      refine startU (S := fun W => (W.cell? ⟨vy, 0, none⟩ = some (.slice (some ⟨pb, 0, none⟩) 12 12) ∧ W.cell? ⟨rb, k * 9, none⟩ = some (.slice (some ⟨b, off, none⟩) n cap) ∧ W.cell? ⟨b, off + j * 7, none⟩ = some (.int .i64 rf) ∧ (loadSt_V (.pointer (some ⟨b, off + j * 7 + 1, none⟩))).run Tryz.prog W = .ok (.agg (balS.f y).toArray) W ∧ (loadSt_W (.pointer (some ⟨rb, k * 9 + 5, none⟩))).run Tryz.prog W = .ok (.agg (wgtS.f was).toArray) W ∧ (loadSt_W (.pointer (some ⟨nb, 0, none⟩))).run Tryz.prog W = .ok (.agg (wgtS.f is).toArray) W) ∧ (loadSt_T (.pointer (some ⟨pb, rf * 7 + 4, none⟩))).run Tryz.prog W = .ok (.agg (tlyS.f tt).toArray) W) (L := 32) (by kernel_rfl) ?_ (fun hHeld => ?_)
      · try dsimp only
        first | with_reducible exact ⟨HSB.out _ L6.out, HTL.out _ L6.out⟩ | with_reducible exact ⟨HSB.out _ L5.out, HTL.out _ L5.out⟩ | with_reducible exact ⟨HSB.out _ L4.out, HTL.out _ L4.out⟩ | with_reducible exact ⟨HSB.out _ L3.out, HTL.out _ L3.out⟩ | with_reducible exact ⟨HSB.out _ B2.out, HTL.out _ B2.out⟩
      refine takeU (i := 0) (v := ?_) rfl (by kernel_rfl) (fun _ _ _ h => h) (Or.inl ⟨by rfl, ?_⟩) (by assumption) ?_
      rotate_left
      · (intro w' hSw; (try dsimp only at hSw); go_simp; try with_reducible rfl)
      try walk_nrm
      refine takeU (i := 1) (v := ?_) rfl (by kernel_rfl) (fun _ _ _ h => h) (Or.inl ⟨by rfl, ?_⟩) (by assumption) ?_
      rotate_left
      · (intro w' hSw; (try dsimp only at hSw); go_simp; try with_reducible rfl)
      try walk_nrm
      refine takeU (i := 2) (v := ?_) rfl (by kernel_rfl) (fun _ _ _ h => h) (Or.inl ⟨by rfl, ?_⟩) (by assumption) ?_
      rotate_left
      · (intro w' hSw; (try dsimp only at hSw); go_simp; try with_reducible rfl)
      try walk_nrm
      refine takeU (i := 3) (v := ?_) rfl (by kernel_rfl) (fun _ _ _ h => h) (Or.inl ⟨by rfl, ?_⟩) (by assumption) ?_
      rotate_left
      · (intro w' hSw; (try dsimp only at hSw); go_simp; try with_reducible rfl)
      try walk_nrm
      refine takeU (i := 4) (v := ?_) rfl (by kernel_rfl) (fun _ _ _ h => h) (Or.inl ⟨by rfl, ?_⟩) (by assumption) ?_
      rotate_left
      · (intro w' hSw; (try dsimp only at hSw); go_simp; try with_reducible rfl)
      try walk_nrm
      refine takeU (i := 5) (v := ?_) rfl (by kernel_rfl) (fun _ _ _ h => h) (Or.inl ⟨by rfl, ?_⟩) (by assumption) ?_
      rotate_left
      · (intro w' hSw; (try dsimp only at hSw); go_simp; try with_reducible rfl)
      try walk_nrm
      refine takeU (i := 6) (v := ?_) rfl (by kernel_rfl) (fun _ _ _ h => h) (Or.inl ⟨by rfl, ?_⟩) (by assumption) ?_
      rotate_left
      · (intro w' hSw; (try dsimp only at hSw); go_simp; try with_reducible rfl)
      try walk_nrm
      refine takeU (i := 7) (v := ?_) rfl (by kernel_rfl) (fun _ _ _ h => h) (Or.inl ⟨by rfl, ?_⟩) (by assumption) ?_
      rotate_left
      · (intro w' hSw; (try dsimp only at hSw); go_simp; try with_reducible rfl)
      try walk_nrm
      refine takeU (i := 8) (v := ?_) rfl (by kernel_rfl) (fun _ _ _ h => h) (Or.inl ⟨by rfl, ?_⟩) (by assumption) ?_
      rotate_left
      · (intro w' hSw; (try dsimp only at hSw); go_simp; try with_reducible rfl)
      try walk_nrm
      refine takeU (i := 9) (v := ?_) rfl (by kernel_rfl) (fun _ _ _ h => h) (Or.inl ⟨by rfl, ?_⟩) (by assumption) ?_
      rotate_left
      · (intro w' hSw; (try dsimp only at hSw); go_simp; try with_reducible rfl)
      try walk_nrm
      refine takeU (i := 10) (v := ?_) rfl (by kernel_rfl) (fun _ _ _ h => h) (Or.inl ⟨by rfl, ?_⟩) (by assumption) ?_
      rotate_left
      · (intro w' hSw; (try dsimp only at hSw); go_simp; try with_reducible rfl)
      try walk_nrm
      refine takeU (i := 11) (v := ?_) rfl (by kernel_rfl) (fun _ _ _ h => h) (Or.inl ⟨by rfl, ?_⟩) (by assumption) ?_
      rotate_left
      · (intro w' hSw; (try dsimp only at hSw); go_simp; try with_reducible rfl)
      try walk_nrm
      refine takeU (i := 12) (v := ?_) rfl (by kernel_rfl) (fun _ _ _ h => h) (Or.inl ⟨by rfl, ?_⟩) (by assumption) ?_
      rotate_left
      · (intro w' hSw; (try dsimp only at hSw); go_simp; try with_reducible rfl)
      try walk_nrm
      refine takeU (i := 13) (v := ?_) rfl (by kernel_rfl) (fun _ _ _ h => h) (Or.inl ⟨by rfl, ?_⟩) (by assumption) ?_
      rotate_left
      · (intro w' hSw; (try dsimp only at hSw); go_simp; try with_reducible rfl)
      try walk_nrm
      refine takeU (i := 14) (v := ?_) rfl (by kernel_rfl) (fun _ _ _ h => h) (Or.inl ⟨by rfl, ?_⟩) (by assumption) ?_
      rotate_left
      · (intro w' hSw; (try dsimp only at hSw); go_simp; try with_reducible rfl)
      try walk_nrm
      refine takeU (i := 15) (v := ?_) rfl (by kernel_rfl) (fun _ _ _ h => h) (Or.inl ⟨by rfl, ?_⟩) (by assumption) ?_
      rotate_left
      · (intro w' hSw; (try dsimp only at hSw); go_simp; try with_reducible rfl)
      try walk_nrm
      refine takeU (i := 16) (v := ?_) rfl (by kernel_rfl) (fun _ _ _ h => h) (Or.inl ⟨by rfl, ?_⟩) (by assumption) ?_
      rotate_left
      · (intro w' hSw; (try dsimp only at hSw); go_simp; try with_reducible rfl)
      try walk_nrm
      refine takeU (i := 19) (v := ?_) rfl (by kernel_rfl) (fun _ _ _ h => h) (Or.inl ⟨by rfl, ?_⟩) (by assumption) ?_
      rotate_left
      · (intro w' hSw; (try dsimp only at hSw); go_simp; try with_reducible rfl)
      try walk_nrm
      refine takeU (i := 20) (v := ?_) rfl (by kernel_rfl) (fun _ _ _ h => h) (Or.inl ⟨by rfl, ?_⟩) (by assumption) ?_
      rotate_left
      · (intro w' hSw; (try dsimp only at hSw); go_simp; try with_reducible rfl)
      try walk_nrm
      refine takeU (i := 21) (v := ?_) rfl (by kernel_rfl) (fun _ _ _ h => h) (Or.inl ⟨by rfl, ?_⟩) (by assumption) ?_
      rotate_left
      · (intro w' hSw; (try dsimp only at hSw); go_simp; try with_reducible rfl)
      try walk_nrm
      refine takeU (i := 22) (v := ?_) rfl (by kernel_rfl) (fun _ _ _ h => h) (Or.inl ⟨by rfl, ?_⟩) (by assumption) ?_
      rotate_left
      · (intro w' hSw; (try dsimp only at hSw); go_simp; try with_reducible rfl)
      try walk_nrm
      refine takeU (i := 23) (v := ?_) rfl (by kernel_rfl) (fun _ _ _ h => h) (Or.inl ⟨by rfl, ?_⟩) (by assumption) ?_
      rotate_left
      · (intro w' hSw; (try dsimp only at hSw); go_simp; try with_reducible rfl)
      try walk_nrm
      refine takeU (i := 24) (v := ?_) rfl (by kernel_rfl) (fun _ _ _ h => h) (Or.inl ⟨by rfl, ?_⟩) (by assumption) ?_
      rotate_left
      · (intro w' hSw; (try dsimp only at hSw); go_simp; try with_reducible rfl)
      try walk_nrm
      refine takeU (i := 25) (v := ?_) rfl (by kernel_rfl) (fun _ _ _ h => h) (Or.inl ⟨by rfl, ?_⟩) (by assumption) ?_
      rotate_left
      · (intro w' hSw; (try dsimp only at hSw); go_simp; try with_reducible rfl)
      try walk_nrm
      refine takeU (i := 26) (v := ?_) rfl (by kernel_rfl) (fun _ _ _ h => h) (Or.inl ⟨by rfl, ?_⟩) (by assumption) ?_
      rotate_left
      · (intro w' hSw; (try dsimp only at hSw); go_simp; try with_reducible rfl)
      try walk_nrm
      refine takeU (i := 27) (v := ?_) rfl (by kernel_rfl) (fun _ _ _ h => h) (Or.inl ⟨by rfl, ?_⟩) (by assumption) ?_
      rotate_left
      · (intro w' hSw; (try dsimp only at hSw); go_simp; try with_reducible rfl)
      try walk_nrm
      refine readyU (rs := [17]) (by kernel_rfl) (by simp) ?_
      refine AllReadyU.cons rfl (fun K hK => ?_) AllReadyU.nil
      simp only [List.getElem_toArray, List.getElem_cons_zero, List.getElem_cons_succ]
      go_simp
      go_at_call 46; with_reducible refine (HG1.out _).mono ?_; rintro e w3 ⟨rfl, hb⟩; have L3 := Lib.hid (B2.out.trans (hb.mono B2.out.size)); clear hb
      first | refine hK.out _ _ ?_ (fun hHeld => ?_) | (go_wp2_with fail; refine hK.out _ _ ?_ (fun hHeld => ?_))
      · try dsimp only
        first | with_reducible exact ⟨HSB.out _ L6.out, HTL.out _ L6.out⟩ | with_reducible exact ⟨HSB.out _ L5.out, HTL.out _ L5.out⟩ | with_reducible exact ⟨HSB.out _ L4.out, HTL.out _ L4.out⟩ | with_reducible exact ⟨HSB.out _ L3.out, HTL.out _ L3.out⟩ | with_reducible exact ⟨HSB.out _ B2.out, HTL.out _ B2.out⟩
      clear hK K
      try walk_nrm
      refine readyU (rs := [18]) (by kernel_rfl) (by simp) ?_
      refine AllReadyU.cons rfl (fun K hK => ?_) AllReadyU.nil
      simp only [List.getElem_toArray, List.getElem_cons_zero, List.getElem_cons_succ]
      go_simp
      go_at_call 92; with_reducible refine (HSUB.out _).mono ?_; rintro e w4 ⟨rfl, hb⟩; have L4 := Lib.hid (L3.out.trans (hb.mono L3.out.size)); clear hb
      first | refine hK.out _ _ ?_ (fun hHeld => ?_) | (go_wp2_with fail; refine hK.out _ _ ?_ (fun hHeld => ?_))
      · try dsimp only
        first | with_reducible exact ⟨HSB.out _ L6.out, HTL.out _ L6.out⟩ | with_reducible exact ⟨HSB.out _ L5.out, HTL.out _ L5.out⟩ | with_reducible exact ⟨HSB.out _ L4.out, HTL.out _ L4.out⟩ | with_reducible exact ⟨HSB.out _ L3.out, HTL.out _ L3.out⟩ | with_reducible exact ⟨HSB.out _ B2.out, HTL.out _ B2.out⟩
      clear hK K
      try walk_nrm
      refine readyU (rs := [28]) (by kernel_rfl) (by simp) ?_
      refine AllReadyU.cons rfl (fun K hK => ?_) AllReadyU.nil
      simp only [List.getElem_toArray, List.getElem_cons_zero, List.getElem_cons_succ]
      go_simp
      go_at_call 46; with_reducible refine (HG2.out _).mono ?_; rintro e w5 ⟨rfl, hb⟩; have L5 := Lib.hid (L4.out.trans (hb.mono L4.out.size)); clear hb
      first | refine hK.out _ _ ?_ (fun hHeld => ?_) | (go_wp2_with fail; refine hK.out _ _ ?_ (fun hHeld => ?_))
      · try dsimp only
        first | with_reducible exact ⟨HSB.out _ L6.out, HTL.out _ L6.out⟩ | with_reducible exact ⟨HSB.out _ L5.out, HTL.out _ L5.out⟩ | with_reducible exact ⟨HSB.out _ L4.out, HTL.out _ L4.out⟩ | with_reducible exact ⟨HSB.out _ L3.out, HTL.out _ L3.out⟩ | with_reducible exact ⟨HSB.out _ B2.out, HTL.out _ B2.out⟩
      clear hK K
      try walk_nrm
      refine readyU (rs := [29]) (by kernel_rfl) (by simp) ?_
      refine AllReadyU.cons rfl (fun K hK => ?_) AllReadyU.nil
      simp only [List.getElem_toArray, List.getElem_cons_zero, List.getElem_cons_succ]
      go_simp
      go_at_call 45; with_reducible refine (HADD.out _).mono ?_; rintro e w6 ⟨rfl, hb⟩; have L6 := Lib.hid (L5.out.trans (hb.mono L5.out.size)); have ts6 := HTS.out _ L6.out; clear hb
      first | refine hK.out _ _ ?_ (fun hHeld => ?_) | (go_wp2_with fail; refine hK.out _ _ ?_ (fun hHeld => ?_))
      · try dsimp only
        first | with_reducible exact ⟨HSB.out _ L6.out, HTL.out _ L6.out⟩ | with_reducible exact ⟨HSB.out _ L5.out, HTL.out _ L5.out⟩ | with_reducible exact ⟨HSB.out _ L4.out, HTL.out _ L4.out⟩ | with_reducible exact ⟨HSB.out _ L3.out, HTL.out _ L3.out⟩ | with_reducible exact ⟨HSB.out _ B2.out, HTL.out _ B2.out⟩
      clear hK K
      try walk_nrm
      refine takeU (i := 30) (v := ?_) rfl (by kernel_rfl) (fun _ _ _ h => h) (Or.inl ⟨by rfl, ?_⟩) (by assumption) ?_
      rotate_left
      · (intro w' hSw; (try dsimp only at hSw); go_simp; try with_reducible rfl)
      try walk_nrm
      refine takeU (i := 31) (v := ?_) rfl (by kernel_rfl) (fun _ _ _ h => h) (Or.inl ⟨by rfl, ?_⟩) (by assumption) ?_
      rotate_left
      · (intro w' hSw; (try dsimp only at hSw); go_simp; try with_reducible rfl)
      try walk_nrm
      refine readyU (rs := [32]) (by kernel_rfl) (by simp) ?_
      refine AllReadyU.last rfl (fun K hK => ?_)
      simp only [List.getElem_toArray, List.getElem_cons_zero, List.getElem_cons_succ]
      go_simp
      first | refine hK.out _ _ ?_ | (go_wp2_with fail; refine hK.out _ _ ?_)
      clear hK K
      try walk_nrm
      refine doneU (by kernel_rfl) ?_ _
      go_wp2_with fail
      go_roundw
      case rel => exact ⟨j + 1, by omega, by go_num, HEND.out _ L6.out⟩
      case measure => simp [intOf]; omega
    · rw [show ((P1 rf).st == 1) = false by simp [q]] at hop
      rw [if_neg q] at hlen
      have HOP := Lib.hid hop
      have hend : (ryM vy pb rb (lendP was is P (xs.take (j + 1))) R).to F w1 wr := by rw [hlen]; exact hto
      have HEND := Lib.hid hend
      clear hop hlen lv hy xok hP1 htk hxm hr hb hown hbp hrd hto hry hbr hx q hend
      go_wp2_with (first
       | (go_at_call 87; refine HOP.out.mono ?_; rintro e w' ⟨rfl, hw⟩; rw [hw]; clear hw w')
       | fail)
      go_roundw
      case rel => exact ⟨j + 1, by omega, by go_num, HEND.out⟩
      case measure => simp [intOf]; omega
  · obtain rfl : j = n := by omega
    have g1 : ¬ (j : Int) < j := by omega
    have htk : xs.take j = xs := by rw [HK.out.2.2.2.1, List.take_length]
    rw [htk] at hto hry
    obtain ⟨v2, -, -, -, -, -, -, d5, d6, -⟩ := hry.rec HK.out.1
    have f5 := (hry.frozen (k * 9 + 5)).2
    have f6 := (hry.frozen (k * 9 + 5 + 1)).2
    have b0 : wr.cell? ⟨nb, 0, none⟩ = some (.int .i64 is.v) := by rw [World.cell?, hbr]; rfl
    have b1 : wr.cell? ⟨nb, 1, none⟩ = some (.int .i64 is.c) := by rw [World.cell?, hbr]; rfl
    have hend := ry_setRs hto (o := 5) HK.out.1 (vs := wgtS.f is) (by show 5 + 2 ≤ 9; omega) (r' := { R k with g := is }) (fun v => rfl) rfl
    have HEND := Lib.hid (Mem.to_later (m := ryM vy pb rb (lendP was is P xs) (updN R k { R k with g := is })) H1.out.1 hend)
    have rs : (Instr.storeAt 82 (.pointer (some ⟨rb, k * 9 + 5, none⟩)) (.agg (wgtS.f is).toArray)).run Tryz.prog wr = .ok () (wr.setCells rb (k * 9 + 5) (wgtS.f is)) := run_storeAt_mid wr rb (k * 9 + 5) 82 (wgtS.f is).toArray (RyAt.rthere hry HK.out.1 (by show 5 + 2 ≤ 9; omega)) (by kernel_rfl) (by simp [wgtS, Value.oneCell'])
    have lb : (loadSt_W (.pointer (some ⟨nb, 0, none⟩))).run Tryz.prog wr = .ok (.agg (wgtS.f is).toArray) wr := loadW_at (rangeAt_whole (T := 82) hbr)
    have RS := Lib.hid rs
    clear hend hto hry hown hrd hbr htk b0 b1 d5 d6 f5 f6 rs
    have rs : (storeWt (.pointer (some ⟨rb, k * 9 + 5, none⟩)) (.agg (wgtS.f is).toArray)).run Tryz.prog wr = .ok () (wr.setCells rb (k * 9 + 5) (wgtS.f is)) := RS.out
    go_wp2_with fail
    exact bodyPost_end (results_none rfl _ _ _) rfl ⟨rfl, by first | exact HEND.out | exact ry_below HEND.out (Below.refl _ _).drew⟩
end
end
section
open Go.RowKit Go.Maps
section
variable {vy pb rb : Nat} {S S' : Vs} {F : FP} {w w' W : World}
abbrev ryS (vy pb rb : Nat) (S : Vs) : Mem := ryM vy pb rb S.P (rcOf S)
abbrev SrtS (S : Vs) : Prop := SrtC S.V ∧ SrtC S.D ∧ SrtC S.G ∧ SrtC S.Q
theorem RyAt.cells (h : RyAt vy pb rb S.P (rcOf S) F w) {a t : Int} (ha : isAcc a) (ht : 0 ≤ t ∧ t < 4) : ∃ v, RdR castR w v (ballots S a t) ∧ w.cell? ⟨rb, kOf a t * 9, none⟩ = some v ∧ w.cell? ⟨rb, kOf a t * 9 + 1, none⟩ = some (.bool (cget S.D a t).isSome) ∧ w.cell? ⟨rb, kOf a t * 9 + 2, none⟩ = some (.int .i64 (undD S a t).to) ∧ w.cell? ⟨rb, kOf a t * 9 + 3, none⟩ = some (.int .i64 (undD S a t).l) ∧ w.cell? ⟨rb, kOf a t * 9 + 4, none⟩ = some (.int .i64 (undD S a t).n) ∧ w.cell? ⟨rb, kOf a t * 9 + 5, none⟩ = some (.int .i64 (gotS S a t).v) ∧ w.cell? ⟨rb, kOf a t * 9 + 6, none⟩ = some (.int .i64 (gotS S a t).c) ∧ w.cell? ⟨rb, kOf a t * 9 + 7, none⟩ = some (.int .i64 ((cget S.Q a t).getD ⟨0, 0⟩).v) ∧ w.cell? ⟨rb, kOf a t * 9 + 8, none⟩ = some (.int .i64 ((cget S.Q a t).getD ⟨0, 0⟩).c) := by
 have := h.rec (kOf_lt ha ht)
 rw [rcOf_at S ha ht] at this
 exact this
theorem ryS_got (h : RyAt vy pb rb S.P (rcOf S) F w) (hi : VInv S) (hs : SrtC S.G) (hsV : SrtC S.V) {a t : Int} (ha : isAcc a) (ht : 0 ≤ t ∧ t < 4) (is : Wgt) : Calls Tryz.prog 97 #[.pointer (some ⟨vy, 0, none⟩), .int .i64 a, .int .i64 t, .agg #[.int .i64 is.v, .int .i64 is.c]] w fun e w' => e = .returned (.tuple #[]) ∧ (ryS vy pb rb { S with G := cput S.G a t is, P := lendP (gotS S a t) is S.P (ballots S a t) }).to F w w' := by
 have hv : ∀ x ∈ ballots S a t, (0 ≤ x.1 ∧ x.1 < 12) ∧ balOk x.2 = true := fun x hx => by
  have := hi.row a x (List.mem_filter.1 hx).1
  exact ⟨this.1, this.2.2⟩
 have hl : (ballots S a t).length ≤ 1000 := Nat.le_trans (tbal_length S.P t _) (Nat.le_trans (row_length S.V a) (by have := hi.boxV.len hsV; omega))
 have e := rcOf_at S ha ht
 have := ry_got h ha ht (by rw [e]; exact hv) (by rw [e]; exact hl) is
 rw [e] at this
 refine this.mono fun e' w' ⟨h1, h2⟩ => ⟨h1, ry_congr h2 (fun k _ => rfl) (fun k hk => ?_)⟩
 have hr := rec_got hs ha ht is (P' := lendP (gotS S a t) is S.P (ballots S a t)) (fun k => (lendP_same _ _ _ _ k).2.1) k hk
 rw [e] at hr
 exact hr
theorem ryS_join (h : RyAt vy pb rb S.P (rcOf S) F w) (hs : SrtC S.Q) {a t : Int} (ha : isAcc a) (ht : 0 ≤ t ∧ t < 4) (u n : Int) : Calls Tryz.prog 96 #[.pointer (some ⟨rb, kOf a t * 9, none⟩), .int .i64 u, .int .i64 n] w fun e w' => e = .returned (.tuple #[]) ∧ (ryS vy pb rb { S with Q := cput S.Q a t ⟨max ((cget S.Q a t).getD ⟨0, 0⟩).v u, max ((cget S.Q a t).getD ⟨0, 0⟩).c n⟩ }).to F w w' := by
 have e := rcOf_at S ha ht
 have := ry_join h (kOf_lt ha ht) u n
 refine this.mono fun e' w' ⟨h1, h2⟩ => ⟨h1, ry_congr h2 (fun k _ => rfl) (fun k hk => ?_)⟩
 have hr := rec_prior hs ha ht ⟨max ((cget S.Q a t).getD ⟨0, 0⟩).v u, max ((cget S.Q a t).getD ⟨0, 0⟩).c n⟩ k hk
 rw [e] at hr ⊢
 exact hr
theorem ryS_lendsNo (h : (ryS vy pb rb S).to F w W) (hs : SrtC S.D) {a t : Int} (ha : isAcc a) (ht : 0 ≤ t ∧ t < 4) : (ryS vy pb rb { S with D := cdel S.D a t }).to F w ((((W.setCell ⟨rb, kOf a t * 9 + 1, none⟩ (.bool false)).setCell ⟨rb, kOf a t * 9 + 2, none⟩ (.int .i64 0)).setCell ⟨rb, kOf a t * 9 + 3, none⟩ (.int .i64 0)).setCell ⟨rb, kOf a t * 9 + 4, none⟩ (.int .i64 0)) := by
 have hk := kOf_lt ha ht
 have h4 := ry_setRs h (o := 1) hk (vs := [.bool false, .int .i64 0, .int .i64 0, .int .i64 0]) (by show 1 + 4 ≤ 9; omega) (r' := { rcOf S (kOf a t) with on := false, who := 0, l := 0, n := 0 }) (fun v => rfl) rfl
 exact ry_congr h4 (fun k _ => rfl) (rec_lendsNo hs ha ht)
theorem ryS_lends (h : (ryS vy pb rb S).to F w W) (hs : SrtC S.D) {a t : Int} (ha : isAcc a) (ht : 0 ≤ t ∧ t < 4) (d : Dlg) : (ryS vy pb rb { S with D := cput S.D a t d }).to F w ((((W.setCell ⟨rb, kOf a t * 9 + 1, none⟩ (.bool true)).setCell ⟨rb, kOf a t * 9 + 2, none⟩ (.int .i64 d.to)).setCell ⟨rb, kOf a t * 9 + 3, none⟩ (.int .i64 d.l)).setCell ⟨rb, kOf a t * 9 + 4, none⟩ (.int .i64 d.n)) := by
 have hk := kOf_lt ha ht
 have h4 := ry_setRs h (o := 1) hk (vs := [.bool true, .int .i64 d.to, .int .i64 d.l, .int .i64 d.n]) (by show 1 + 4 ≤ 9; omega) (r' := { rcOf S (kOf a t) with on := true, who := d.to, l := d.l, n := d.n }) (fun v => rfl) rfl
 exact ry_congr h4 (fun k _ => rfl) (rec_lends hs ha ht d)
end
end
section
open Go.RowKit Go.Maps
section
variable {vy pb rb : Nat} {S S' : Vs} {F : FP} {w w' W : World}
theorem ry_next (h : (ryS vy pb rb S).to F w W) : ∃ F1, RyAt vy pb rb S.P (rcOf S) F1 W ∧ (∀ k, F1 k → F k ∨ w.heap.size ≤ k) ∧ ∀ S' w', (ryS vy pb rb S').to F1 W w' → (ryS vy pb rb S').to F w w' := by
 obtain ⟨F1, h1, h2, h3⟩ := h
 exact ⟨F1, h1, h2, fun S' w' ht => Mem.to_then (m := ryS vy pb rb S) ⟨F1, h1, h2, h3, ht⟩⟩
theorem undS_eq {S : Vs} {a t now : Int} (h : undE S a t = 0) : undS S a t now = { S with D := cdel S.D a t, G := cput S.G (undD S a t).to t ⟨wrap64 ((gotS S (undD S a t).to t).v - votesI (undD S a t).n (undD S a t).l), wrap64 ((gotS S (undD S a t).to t).c - (undD S a t).n)⟩, P := lendP (gotS S (undD S a t).to t) ⟨wrap64 ((gotS S (undD S a t).to t).v - votesI (undD S a t).n (undD S a t).l), wrap64 ((gotS S (undD S a t).to t).c - (undD S a t).n)⟩ S.P (ballots S (undD S a t).to t), Q := joinQ S.Q a t (wrap64 (now + periodI (undD S a t).l 8)) (undD S a t).n now } := by
 unfold undS
 rw [if_pos h]
 unfold undS1 lendS lendG gotS
 dsimp only
 rw [wrap_sub, wrap_sub]
 rfl
attribute [local go_sem ↓] loadSt_W_hide in
theorem ryS_Undelegate (h : RyAt vy pb rb S.P (rcOf S) F w) (hi : VInv S) (hs : SrtS S) (a t now : Int) : Calls Tryz.prog 36 #[.pointer (some ⟨vy, 0, none⟩), .int .i64 a, .int .i64 t, .int .i64 now] w fun e w' => e = .returned (.int .i64 (undE S a t)) ∧ (ryS vy pb rb (undS S a t now)).to F w w' := by
 have HH := Lib.hid h
 have hIs := ref6_Is a w
 have hTr := ry_track t w
 by_cases ha : isAcc a
 · rw [decide_eq_true (show 0 ≤ a ∧ a < 10 from ha)] at hIs
   by_cases ht : 0 ≤ t ∧ t < 4
   · rw [decide_eq_true ht] at hTr
     have hat := ry_rec h ha ht
     obtain ⟨v, hrd, c0, c1, c2, c3, c4, c5, c6, c7, c8⟩ := h.cells ha ht
     cases hd : cget S.D a t with
     | none =>
      have eE : undE S a t = 4 := by unfold undE; rw [if_neg (fun q => q.elim (fun q => q ha) (fun q => q ht)), if_pos (by rw [hd]; rfl)]
      have eS : undS S a t now = S := by unfold undS; rw [if_neg (by rw [eE]; decide)]
      rw [eE, eS]
      rw [hd] at c1
      have HIS := Lib.hid hIs
      have HTR := Lib.hid hTr
      have HAT := Lib.hid hat
      obtain ⟨kk, hkk⟩ : ∃ kk, kk = kOf a t := ⟨_, rfl⟩
      rw [← hkk] at HAT c1
      dsimp only [Option.isSome] at c1
      clear hIs hTr hat ha ht hrd c0 c2 c3 c4 c5 c6 c7 c8 hd eE eS hkk h hi hs
      go_enter Tryz.func36, Tryz.ntmps36
      go_wp2_with (first
       | (go_at_call 88; refine HIS.out.mono ?_; rintro e w' ⟨rfl, hw⟩; rw [hw]; clear hw w')
       | (go_at_call 86; refine HTR.out.mono ?_; rintro e w' ⟨rfl, hw⟩; rw [hw]; clear hw w')
       | (go_at_call 90; refine HAT.out.mono ?_; rintro e w' ⟨rfl, hw⟩; rw [hw]; clear hw w')
       | fail)
      exact bodyPost_ret (v := .int .i64 4) (by simp [results, Tryz.results36, go_sem]) rfl ⟨rfl, ry_refl HH.out⟩
     | some d =>
      have eE : undE S a t = 0 := by unfold undE; rw [if_neg (fun q => q.elim (fun q => q ha) (fun q => q ht)), if_neg (by rw [hd]; simp)]
      rw [undS_eq eE, eE]
      have hdd : undD S a t = d := by unfold undD; rw [hd]; rfl
      obtain ⟨-, dto, dl, dn⟩ := hi.d _ (hs.2.1.get.1 hd)
      rw [hdd] at c2 c3 c4 ⊢
      rw [hd] at c1
      dsimp only [Option.isSome] at c1 dto dl dn
      obtain ⟨who, lv, nn⟩ := d
      dsimp only at dto dl dn c2 c3 c4 ⊢
      have hwho : isAcc who := dto
      have hat2 := ry_rec h hwho ht
      have cg := h.cells hwho ht
      obtain ⟨v2, -, -, -, -, -, -, g5, g6, -⟩ := cg
      obtain ⟨g, hg⟩ : ∃ g, g = gotS S who t := ⟨_, rfl⟩
      rw [← hg] at g5 g6 ⊢
      obtain ⟨vt, hvt⟩ : ∃ vt, vt = votesI nn lv := ⟨_, rfl⟩
      rw [← hvt]
      obtain ⟨is, his⟩ : ∃ is : Wgt, is = ⟨wrap64 (g.v - vt), wrap64 (g.c - nn)⟩ := ⟨_, rfl⟩
      rw [← his]
      obtain ⟨pr, hpr⟩ : ∃ pr, pr = periodI lv 8 := ⟨_, rfl⟩
      rw [← hpr]
      obtain ⟨un, hun⟩ : ∃ un, un = wrap64 (now + pr) := ⟨_, rfl⟩
      rw [← hun]
      have hvo : ∀ W : World, Calls Tryz.prog 44 #[.int .i64 nn, .int .i64 lv] W fun e w' => e = .returned (.int .i64 vt) ∧ W = w' := fun W => by rw [hvt]; exact ref_Votes nn lv W dn.1 (by omega) dl.1 dl.2
      have hpe : ∀ W : World, Calls Tryz.prog 94 #[.int .i64 lv, .int .i64 8] W fun e w' => e = .returned (.int .i64 pr) ∧ W = w' := fun W => by rw [hpr]; exact ref_Period lv 8 W (by decide) (by decide) dl.1 dl.2
      obtain ⟨kk, hkk⟩ : ∃ kk, kk = kOf a t := ⟨_, rfl⟩
      obtain ⟨kd, hkd⟩ : ∃ kd, kd = kOf who t := ⟨_, rfl⟩
      rw [← hkk] at hat c0 c1 c2 c3 c4
      rw [← hkd] at hat2 g5 g6
      obtain ⟨nb, hnb⟩ : ∃ nb, nb = w.heap.size := ⟨_, rfl⟩
      obtain ⟨w1, hw1⟩ : ∃ w1, w1 = w.alloc (wgtS.obj g) := ⟨_, rfl⟩
      have hb1 : Below w.heap.size w w1 := by rw [hw1]; exact (Below.refl _ w).alloc (Nat.le_refl _) _
      have hbx : w1.heap[nb]? = some (.cells #[.int .i64 g.v, .int .i64 g.c] 82 (0, 0)) := by rw [hw1, hnb]; exact World.alloc_heap_new _ _
      have hnF : ¬ F nb := fun q => by have := (ryS vy pb rb S).lt (show (ryS vy pb rb S).is F w from h) q; omega
      -- the state behind got
      obtain ⟨Sa, hSa⟩ : ∃ Sa : Vs, Sa = { S with G := cput S.G who t is, P := lendP g is S.P (ballots S who t) } := ⟨_, rfl⟩
      have hgot : ∀ W, Below w1.heap.size w1 W → Calls Tryz.prog 97 #[.pointer (some ⟨vy, 0, none⟩), .int .i64 who, .int .i64 t, .agg #[.int .i64 (IntKind.i64.wrap (g.v - vt)), .int .i64 (IntKind.i64.wrap (g.c - nn))]] W fun e w' => e = .returned (.tuple #[]) ∧ (ryS vy pb rb Sa).to F w w' ∧ w'.cell? ⟨nb, 0, none⟩ = some (.int .i64 g.v) ∧ w'.cell? ⟨nb, 1, none⟩ = some (.int .i64 g.c) := fun W hW => by
       have hbW := hb1.trans (hW.mono hb1.size)
       have := ryS_got (Mem.below (m := ryS vy pb rb S) h hbW) hi hs.2.2.1 hs.1 hwho ht is
       rw [his] at this
       rw [show IntKind.i64.wrap (g.v - vt) = wrap64 (g.v - vt) from IntWalk.i64_left _, show IntKind.i64.wrap (g.c - nn) = wrap64 (g.c - nn) from IntWalk.i64_left _]
       refine this.mono fun e w' ⟨e1, e2⟩ => ⟨e1, ?_, ?_, ?_⟩
       · rw [hSa, his]
         rw [← hg] at e2
         exact Mem.to_later hbW e2
       all_goals
        have hk := (Mem.to_keeps e2 (by have := hW.size; have := (Array.getElem?_eq_some_iff.1 hbx).1; omega) hnF).trans ((hW.block nb (Array.getElem?_eq_some_iff.1 hbx).1).trans hbx)
        rw [World.cell?, hk]; rfl
      have hcell : ∀ W, Below w1.heap.size w1 W → W.cell? ⟨rb, kk * 9 + 2, none⟩ = some (.int .i64 who) ∧ W.cell? ⟨rb, kk * 9 + 3, none⟩ = some (.int .i64 lv) ∧ W.cell? ⟨rb, kk * 9 + 4, none⟩ = some (.int .i64 nn) ∧ W.cell? ⟨nb, 0, none⟩ = some (.int .i64 g.v) ∧ W.cell? ⟨nb, 1, none⟩ = some (.int .i64 g.c) := fun W hW => by
       have hrl : rb < w.heap.size := (ryS vy pb rb S).lt (show (ryS vy pb rb S).is F w from h) h.own.2.2.1
       have hbW := (hb1.trans (hW.mono hb1.size)).block rb hrl
       have hn := (hW.block nb (Array.getElem?_eq_some_iff.1 hbx).1).trans hbx
       exact ⟨(World.cell?_of_block hbW).trans c2, (World.cell?_of_block hbW).trans c3, (World.cell?_of_block hbW).trans c4, by rw [World.cell?, hn]; rfl, by rw [World.cell?, hn]; rfl⟩
      have hcellA : ∀ W, (ryS vy pb rb Sa).to F w W → W.cell? ⟨rb, kk * 9 + 2, none⟩ = some (.int .i64 who) ∧ W.cell? ⟨rb, kk * 9 + 3, none⟩ = some (.int .i64 lv) ∧ W.cell? ⟨rb, kk * 9 + 4, none⟩ = some (.int .i64 nn) := fun W hW => by
       obtain ⟨F1, h1, -⟩ := ry_next hW
       obtain ⟨_, -, -, -, d2, d3, d4, -⟩ := h1.cells ha ht
       have e : undD Sa a t = ⟨who, lv, nn⟩ := by rw [hSa]; exact hdd
       rw [e, ← hkk] at d2 d3 d4
       exact ⟨d2, d3, d4⟩
      have hjoin : ∀ W, (ryS vy pb rb Sa).to F w W → now < un → Calls Tryz.prog 96 #[.pointer (some ⟨rb, kk * 9, none⟩), .int .i64 un, .int .i64 nn] W fun e w' => e = .returned (.tuple #[]) ∧ (ryS vy pb rb { Sa with Q := joinQ S.Q a t un nn now }).to F w w' := fun W hW hlt => by
       obtain ⟨F1, h1, -, h3⟩ := ry_next hW
       have := ryS_join h1 (by rw [hSa]; exact hs.2.2.2) ha ht un nn
       rw [← hkk] at this
       refine this.mono fun e w' ⟨e1, e2⟩ => ⟨e1, ?_⟩
       have e3 : joinQ S.Q a t un nn now = cput Sa.Q a t ⟨max ((cget Sa.Q a t).getD ⟨0, 0⟩).v un, max ((cget Sa.Q a t).getD ⟨0, 0⟩).c nn⟩ := by unfold joinQ; rw [if_neg (by omega), hSa]
       rw [e3]
       exact h3 _ _ e2
      have hnoj : ¬ now < un → Sa = { Sa with Q := joinQ S.Q a t un nn now } := fun hlt => by
       have : joinQ S.Q a t un nn now = S.Q := by unfold joinQ; rw [if_pos (by omega)]
       rw [this, hSa]
      have hfin : ∀ W, (ryS vy pb rb { Sa with Q := joinQ S.Q a t un nn now }).to F w W → (∀ j, j < 9 → (W.cell? ⟨rb, kk * 9 + j, none⟩).isSome = true ∧ W.frozen? ⟨rb, kk * 9 + j, none⟩ = false) ∧ (ryS vy pb rb { S with D := cdel S.D a t, G := cput S.G who t is, P := lendP g is S.P (ballots S who t), Q := joinQ S.Q a t un nn now }).to F w ((((W.setCell ⟨rb, kk * 9 + 1, none⟩ (.bool false)).setCell ⟨rb, kk * 9 + 2, none⟩ (.int .i64 0)).setCell ⟨rb, kk * 9 + 3, none⟩ (.int .i64 0)).setCell ⟨rb, kk * 9 + 4, none⟩ (.int .i64 0)) := fun W hW => by
       obtain ⟨F1, h1, -⟩ := ry_next hW
       have hth := RyAt.rthere h1 (o := 0) (n := 9) (kOf_lt ha ht) (by omega)
       rw [← hkk] at hth
       refine ⟨fun j hj => by have := hth j hj; simpa using this, ?_⟩
       have := ryS_lendsNo hW (by rw [hSa]; exact hs.2.1) ha ht
       rw [← hkk] at this
       rw [hSa] at this
       exact this
      have HIS := Lib.hid hIs
      have HTR := Lib.hid hTr
      have HAT := Lib.hid hat
      have HAT2 := Lib.hid hat2
      have HVO := Lib.hid hvo
      have HPE := Lib.hid hpe
      have HGOT := Lib.hid hgot
      have HC := Lib.hid hcell
      have HCA := Lib.hid hcellA
      have HJ := Lib.hid hjoin
      have HNJ := Lib.hid hnoj
      have HF := Lib.hid hfin
      have HW1 := Lib.hid hw1
      have HNB := Lib.hid hnb
      have HUN := Lib.hid hun
      have g5' : w.rangeAt rb (kd * 9 + 5) (wgtS.f g) := by
       have := h.got (kOf_lt hwho ht)
       rw [rcOf_at S hwho ht, ← hkd] at this
       rw [hg]; exact this
      have lw := loadW_at g5'
      clear hIs hTr hat hat2 hvo hpe hgot hcell hcellA hjoin hnoj hfin hw1 hnb hun g5 g6 g5' hnF hbx hb1 hSa his hpr hvt hg hkk hkd hdd dto dl dn hwho ha ht hrd c0 c5 c6 c7 c8 hd eE h hi hs
      go_enter Tryz.func36, Tryz.ntmps36
      go_upto_region 7 with (first
       | (go_at_call 88; refine HIS.out.mono ?_; rintro e w' ⟨rfl, hw⟩; rw [hw]; clear hw w')
       | (go_at_call 86; refine HTR.out.mono ?_; rintro e w' ⟨rfl, hw⟩; rw [hw]; clear hw w')
       | (go_at_call 90; with_reducible refine HAT.out.mono ?_; rintro e w' ⟨rfl, hw⟩; rw [hw]; clear hw w')
       | (go_at_call 90; with_reducible refine HAT2.out.mono ?_; rintro e w' ⟨rfl, hw⟩; rw [hw]; clear hw w')
       | (refine wpl_allocS (s := wgtS) rfl rfl rfl ?_)
       | (refine wpl_storeS (s := wgtS) (t := g) (b := w.heap.size) _ _ rfl rfl rfl rfl rfl (World.alloc_heap_new w _) (zeroS wgtS) ?_; rw [newS])
       | fail)
      rw [← HW1.out, ← HNB.out]
      have B0 := Lib.hid (Below.refl w1.heap.size w1)
      have mixed : Tryz.prog.follows .mixedOrders = true := by kernel_rfl
      clear c1 c2 c3 c4 lw
      first
       | go_region_held3 (fun W => W.cell? ⟨rb, kk * 9 + 2, none⟩ = some (.int .i64 who) ∧ W.cell? ⟨rb, kk * 9 + 3, none⟩ = some (.int .i64 lv) ∧ W.cell? ⟨rb, kk * 9 + 4, none⟩ = some (.int .i64 nn) ∧ W.cell? ⟨nb, 0, none⟩ = some (.int .i64 g.v) ∧ W.cell? ⟨nb, 1, none⟩ = some (.int .i64 g.c)) (first | exact HC.out _ B0.out | exact HC.out _ B0.out.drew | exact HC4.out) (first
        | (go_at_call 44; with_reducible refine (HVO.out _).mono ?_; rintro e w' ⟨rfl, rfl⟩)
        | (go_at_call 97; with_reducible refine (HGOT.out _ B0.out.drew).mono ?_; rintro e w4 ⟨rfl, h4, n0, n1⟩; have H4 := Lib.hid h4; have HC4 := Lib.hid (And.intro (HCA.out _ h4).1 (And.intro (HCA.out _ h4).2.1 (And.intro (HCA.out _ h4).2.2 (And.intro n0 n1)))); clear h4 n0 n1)
        | fail)
       | fail
      obtain ⟨c2, c3, c4, -⟩ := HC4.out
      have hun1 : wrap64 (now + pr) = un := HUN.out.symm
      have hun2 : IntKind.i64.wrap (now + pr) = un := (IntWalk.i64_left _).trans HUN.out.symm
      by_cases hlt : now < un
      · go_upto_region 11 with (first
         | (go_at_call 94; refine (HPE.out _).mono ?_; rintro e w' ⟨rfl, rfl⟩)
         | (go_at_call 96; refine (HJ.out _ H4.out hlt).mono ?_; rintro e w5 ⟨rfl, h5⟩; have H5 := Lib.hid h5; clear h5)
         | fail)
        obtain ⟨hth, hst⟩ := HF.out _ H5.out
        have HST := Lib.hid hst
        obtain ⟨e1, f1⟩ := hth 1 (by omega)
        obtain ⟨e2, f2⟩ := hth 2 (by omega)
        obtain ⟨e3, f3⟩ := hth 3 (by omega)
        obtain ⟨e4, f4⟩ := hth 4 (by omega)
        obtain ⟨y1, e1⟩ := Option.isSome_iff_exists.1 e1
        obtain ⟨y2, e2⟩ := Option.isSome_iff_exists.1 e2
        obtain ⟨y3, e3⟩ := Option.isSome_iff_exists.1 e3
        obtain ⟨y4, e4⟩ := Option.isSome_iff_exists.1 e4
        clear hth hst
        go_wp2_with fail
        exact bodyPost_ret (v := .int .i64 0) (by simp [results, Tryz.results36, go_sem]) rfl ⟨rfl, by first | exact HST.out | exact ry_below HST.out (Below.refl _ _).drew⟩
      · have H5 := Lib.hid (show (ryS vy pb rb { Sa with Q := joinQ S.Q a t un nn now }).to F w w4 by rw [← HNJ.out (by omega)]; exact H4.out)
        go_upto_region 11 with (first
         | (go_at_call 94; refine (HPE.out _).mono ?_; rintro e w' ⟨rfl, rfl⟩)
         | fail)
        obtain ⟨hth, hst⟩ := HF.out _ H5.out
        have HST := Lib.hid hst
        obtain ⟨e1, f1⟩ := hth 1 (by omega)
        obtain ⟨e2, f2⟩ := hth 2 (by omega)
        obtain ⟨e3, f3⟩ := hth 3 (by omega)
        obtain ⟨e4, f4⟩ := hth 4 (by omega)
        obtain ⟨y1, e1⟩ := Option.isSome_iff_exists.1 e1
        obtain ⟨y2, e2⟩ := Option.isSome_iff_exists.1 e2
        obtain ⟨y3, e3⟩ := Option.isSome_iff_exists.1 e3
        obtain ⟨y4, e4⟩ := Option.isSome_iff_exists.1 e4
        clear hth hst
        go_wp2_with fail
        exact bodyPost_ret (v := .int .i64 0) (by simp [results, Tryz.results36, go_sem]) rfl ⟨rfl, by first | exact HST.out | exact ry_below HST.out (Below.refl _ _).drew⟩
   · have eE : undE S a t = 1 := by unfold undE; rw [if_pos (.inr ht)]
     have eS : undS S a t now = S := by unfold undS; rw [if_neg (by rw [eE]; decide)]
     rw [eE, eS]
     rw [decide_eq_false ht] at hTr
     have HIS := Lib.hid hIs
     have HTR := Lib.hid hTr
     clear hIs hTr ha ht eE eS h hi hs
     go_enter Tryz.func36, Tryz.ntmps36
     go_wp2_with (first
      | (go_at_call 88; refine HIS.out.mono ?_; rintro e w' ⟨rfl, hw⟩; rw [hw]; clear hw w')
      | (go_at_call 86; refine HTR.out.mono ?_; rintro e w' ⟨rfl, hw⟩; rw [hw]; clear hw w')
      | fail)
     exact bodyPost_ret (v := .int .i64 1) (by simp [results, Tryz.results36, go_sem]) rfl ⟨rfl, ry_refl HH.out⟩
 · have eE : undE S a t = 1 := by unfold undE; rw [if_pos (.inl ha)]
   have eS : undS S a t now = S := by unfold undS; rw [if_neg (by rw [eE]; decide)]
   rw [eE, eS]
   rw [decide_eq_false (show ¬ (0 ≤ a ∧ a < 10) from ha)] at hIs
   have HIS := Lib.hid hIs
   clear hIs hTr ha eE eS h hi hs
   go_enter Tryz.func36, Tryz.ntmps36
   go_wp2_with (first
    | (go_at_call 88; refine HIS.out.mono ?_; rintro e w' ⟨rfl, hw⟩; rw [hw]; clear hw w')
    | fail)
   exact bodyPost_ret (v := .int .i64 1) (by simp [results, Tryz.results36, go_sem]) rfl ⟨rfl, ry_refl HH.out⟩
end
end
section
open Go.RowKit Go.Maps
theorem find_take_step {xs : List (Int × Int)} {j : Nat} (hj : j < xs.length) {id : Int} (h : ∀ q ∈ xs.take j, q.1 ≠ id) (hx : xs[j].1 = id) : sget xs id = some xs[j].2 := by
 obtain ⟨y, hy⟩ : ∃ y, y = xs[j] := ⟨_, rfl⟩
 have h1 : xs = xs.take j ++ y :: xs.drop (j + 1) := by rw [hy, ← List.drop_eq_getElem_cons hj, List.take_append_drop]
 have h2 : (xs.take j).find? (fun x => x.1 == id) = none := by
  rw [List.find?_eq_none]; intro q hq; simpa using h q hq
 rw [← hy] at hx ⊢
 have h3 : xs.find? (fun x => x.1 == id) = some y := by
  rw [h1, List.find?_append, h2]; simp [hx]
 unfold sget
 rw [h3]; rfl
section
variable {y ab : Nat} {F : FP} {A : Acc} {M : Cls Int} {w : World}
theorem ref6_Of (h : RlAt y ab F A M w) (a id : Int) (hlen : (rowOf M a).length ≤ 1000000) : Calls Tryz.prog 121 #[.pointer (some ⟨y, 0, none⟩), .int .i64 a, .int .i64 id] w fun e w' => e = .returned (.int .i64 ((sget (rowOf M a) id).getD 0)) ∧ w' = w := by
 by_cases ha : isAcc a
 · obtain ⟨k, rfl⟩ : ∃ k : Nat, a = k := ⟨a.toNat, by have := ha.1; omega⟩
   have hk : k < 10 := by have := ha.2; omega
   obtain ⟨v, c, c0, c1, c2, hrd, -⟩ := h.cells hk
   have hI := ref6_Is (k : Int) w
   rw [decide_eq_true (show 0 ≤ (k : Int) ∧ (k : Int) < 10 from ha)] at hI
   have HI := Lib.hid hI
   have hk' : (k : Int) < 10 := ha.2
   obtain ⟨ao, cap, rfl⟩ := hrd.lenOf
   obtain ⟨xs, hxs⟩ : ∃ xs, xs = rowOf M k := ⟨_, rfl⟩
   rw [← hxs] at hrd hlen c2 ⊢
   obtain ⟨n, hn⟩ : ∃ n, n = xs.length := ⟨_, rfl⟩
   rw [← hn] at hlen c2 hrd
   have HRD := Lib.hid (And.intro hrd hn)
   clear hI h ha c0 c1 hrd hxs hn
   go_enter Tryz.func121, Tryz.ntmps121
   go_wp2_with fail
   go_loopw [7] (fun i wr => ∃ j : Nat, j ≤ n ∧ i = .int .i64 j ∧ wr = w ∧ ∀ q ∈ xs.take j, q.1 ≠ id) (fun i _ => n - (intOf i).toNat)
   case atStart => exact ⟨0, by omega, rfl, rfl, fun q hq => by simp at hq⟩
   case round =>
    obtain ⟨j, hj, rfl, rfl, hno⟩ := hrel
    by_cases hlt : j < n
    · have g1 : (j : Int) < n := by omega
      obtain ⟨b, off, rfl, hr, hb⟩ := HRD.out.1.at (show j < xs.length by rw [← HRD.out.2]; exact hlt)
      have hj' : j < xs.length := by rw [← HRD.out.2]; exact hlt
      obtain ⟨x, hx⟩ : ∃ x, x = xs[j]'hj' := ⟨_, rfl⟩
      rw [← hx] at hr
      have d0 : wr.cell? ⟨b, off + j * 2, none⟩ = some (.int .i64 x.1) := hr 0 _ rfl
      have d1 : wr.cell? ⟨b, off + j * 2 + 1, none⟩ = some (.int .i64 x.2) := hr 1 _ rfl
      have hyes : x.1 = id → sget xs id = some x.2 := fun e => by rw [hx] at e ⊢; exact find_take_step hj' hno e
      have hnx : x.1 ≠ id → ∀ q ∈ xs.take (j + 1), q.1 ≠ id := fun e q hq => by
       rw [← take_snoc hj', ← hx, List.mem_append, List.mem_singleton] at hq
       rcases hq with hq | rfl
       · exact hno q hq
       · exact e
      have HY := Lib.hid hyes
      have HN := Lib.hid hnx
      obtain ⟨x1, hx1⟩ : ∃ x1, x1 = x.1 := ⟨_, rfl⟩
      obtain ⟨x2, hx2⟩ : ∃ x2, x2 = x.2 := ⟨_, rfl⟩
      have HX := Lib.hid (And.intro hx1 hx2)
      rw [← hx1] at d0
      rw [← hx2] at d1
      clear hx hr hno hyes hnx hx1 hx2 hj'
      by_cases he : x1 = id
      · go_wp2_with (first
         | (go_at_call 88; refine HI.out.mono ?_; rintro e w' ⟨rfl, hw⟩; rw [hw]; clear hw w')
         | fail)
        exact bodyPost_ret (v := .int .i64 x2) (by simp [results, Tryz.results121, go_sem]) rfl ⟨by rw [HY.out (HX.out.1 ▸ he), HX.out.2]; rfl, rfl⟩
      · go_wp2_with (first
         | (go_at_call 88; refine HI.out.mono ?_; rintro e w' ⟨rfl, hw⟩; rw [hw]; clear hw w')
         | fail)
        go_roundw
        case rel => exact ⟨j + 1, by omega, by go_num, by first | rfl | trivial, HN.out (HX.out.1 ▸ he)⟩
        case measure => simp [intOf]; omega
    · obtain rfl : j = n := by omega
      have g1 : ¬ (j : Int) < j := by omega
      have ht : sget xs id = none := by
       rw [HRD.out.2, List.take_length] at hno
       exact sget_none.2 fun u hu => hno _ hu rfl
      have HT := Lib.hid ht
      clear ht hno
      go_wp2_with (first
       | (go_at_call 88; refine HI.out.mono ?_; rintro e w' ⟨rfl, hw⟩; rw [hw]; clear hw w')
       | fail)
      have hfin : Ending.returned (.int .i64 0) = Ending.returned (.int .i64 ((sget xs id).getD 0)) := by rw [HT.out]; rfl
      exact bodyPost_ret (v := .int .i64 0) (by simp [results, Tryz.results121, go_sem]) rfl ⟨hfin, rfl⟩
 · have hI := ref6_Is a w
   rw [decide_eq_false (show ¬ (0 ≤ a ∧ a < 10) from ha)] at hI
   have HI := Lib.hid hI
   rw [rowOf_no h.keys ha]
   clear hI h ha hlen
   go_enter Tryz.func121, Tryz.ntmps121
   go_wp2_with fail
   go_loopw [7] (fun i wr => i = .int .i64 0 ∧ wr = w) (fun _ _ => 0)
   case atStart => exact ⟨rfl, rfl⟩
   case round =>
    obtain ⟨rfl, rfl⟩ := hrel
    go_wp2_with (first
     | (go_at_call 88; refine HI.out.mono ?_; rintro e w' ⟨rfl, hw⟩; rw [hw]; clear hw w')
     | fail)
    exact bodyPost_ret (v := .int .i64 0) (by simp [results, Tryz.results121, go_sem]) rfl ⟨rfl, rfl⟩
end
end
section
open Go.RowKit Go.Maps
section
variable {y ab : Nat} {F : FP} {A : Acc} {M : Cls Int} {w : World}
def rlM (y ab : Nat) (A : Acc) (M : Cls Int) : Mem where
 is F w := RlAt y ab F A M w
 keep h hg hk := RlAt.keep h hg hk
 lt h hk := RlAt.lt h hk
theorem rl_to {w' : World} (h : RlTo y ab F A M w w') : (rlM y ab A M).to F w w' := h
theorem raise_eq (hs : SrtC M) {a t n : Int} (ha : isAcc a) (hn : 0 ≤ n) : raiseM M a t n = if (sget (rowOf M a) t).getD 0 < n then lockM M a t n else M := by
 have hr := hs.row a
 unfold raiseM
 cases hg : sget (rowOf M a) t with
 | some m =>
  have hm := sget_mem hg
  by_cases hlt : m < n
  · rw [if_neg, if_pos (by simpa using hlt)]
    rintro ⟨x, hx, he⟩
    have : x = (t, m) := hr.one hx hm he.1
    subst this
    have := he.2
    dsimp only at this
    omega
  · rw [if_pos, if_neg (by simpa using hlt)]
    exact ⟨_, hm, rfl, by show n ≤ m; omega⟩
 | none =>
  have hno : ¬ ∃ x ∈ rowOf M a, enough t n x := by
   rintro ⟨x, hx, he⟩
   have h0 := sget_none.1 hg x.2
   have : (t, x.2) = x := by rw [← he.1]
   rw [this] at h0
   exact h0 hx
  rw [if_neg hno]
  by_cases hlt : 0 < n
  · rw [if_pos (by simpa using hlt)]
  · rw [if_neg (by simpa using hlt)]
    obtain rfl : n = 0 := by omega
    unfold lockM
    rw [if_neg (fun q => q ha), if_pos (.inl rfl)]
    exact cdel_none hg
theorem ref6_Raise (h : RlAt y ab F A M w) {a : Int} (ha : isAcc a) (t n : Int) (hn : 0 ≤ n) (hlen : (rowOf M a).length ≤ 100000) : Calls Tryz.prog 93 #[.pointer (some ⟨y, 0, none⟩), .int .i64 a, .int .i64 t, .int .i64 n] w fun e w' => e = .returned (.tuple #[]) ∧ (rlM y ab A (raiseM M a t n)).to F w w' := by
 have ho := ref6_Of h a t (by omega)
 have hl := ref6_Lock h t n hlen
 rw [raise_eq h.srt ha hn]
 obtain ⟨m, hm⟩ : ∃ m, m = (sget (rowOf M a) t).getD 0 := ⟨_, rfl⟩
 rw [← hm] at ho ⊢
 have HO := Lib.hid ho
 have HL := Lib.hid hl
 have HH := Lib.hid h
 clear ho hl hm ha hn hlen h
 by_cases hlt : m < n
 · rw [if_pos hlt]
   go_enter Tryz.func93, Tryz.ntmps93
   go_wp2_with (first
    | (go_at_call 121; refine HO.out.mono ?_; rintro e w' ⟨rfl, hw⟩; rw [hw]; clear hw w')
    | (go_at_call 98; refine HL.out.mono ?_; rintro e w1 ⟨rfl, h1⟩; have H1 := Lib.hid h1; clear h1)
    | fail)
   exact bodyPost_end (results_none rfl _ _ _) rfl ⟨rfl, H1.out⟩
 · rw [if_neg hlt]
   go_enter Tryz.func93, Tryz.ntmps93
   go_wp2_with (first
    | (go_at_call 121; refine HO.out.mono ?_; rintro e w' ⟨rfl, hw⟩; rw [hw]; clear hw w')
    | fail)
   exact bodyPost_end (results_none rfl _ _ _) rfl ⟨rfl, Mem.to_below (m := rlM y ab A M) HH.out (Below.refl _ _)⟩
end
end
section
open Go.RowKit Go.Maps
theorem Mem.next {m : Mem} {F : FP} {w W : World} (h : m.to F w W) : ∃ F1, m.is F1 W ∧ (∀ k, F1 k → F k ∨ w.heap.size ≤ k) ∧ ∀ (m' : Mem) w', m'.to F1 W w' → m'.to F w w' := by
 obtain ⟨F1, h1, h2, h3⟩ := h
 exact ⟨F1, h1, h2, fun m' w' ht => Mem.to_then (m := m) ⟨F1, h1, h2, h3, ht⟩⟩
section
variable {y ab vy pb rb : Nat} {A : Acc} {M : Cls Int} {S S' : Vs} {F : FP} {w w' W : World}
abbrev rrM (y ab vy pb rb : Nat) (A : Acc) (M : Cls Int) (S : Vs) : Mem := (rlM y ab A M).star (ryS vy pb rb S)
theorem rr_y (h : (rrM y ab vy pb rb A M S).is F w) : ∃ B, RyAt vy pb rb S.P (rcOf S) B w ∧ (∀ k, B k → F k) ∧ ∀ S' w', (ryS vy pb rb S').to B w w' → (rrM y ab vy pb rb A M S').to F w w' := by
 obtain ⟨B, h1, h2, h3⟩ := Mem.r h
 exact ⟨B, h1, h2, fun S' w' ht => h3 _ _ ht⟩
theorem rr_l (h : (rrM y ab vy pb rb A M S).is F w) : ∃ B, RlAt y ab B A M w ∧ (∀ k, B k → F k) ∧ ∀ A' M' w', (rlM y ab A' M').to B w w' → (rrM y ab vy pb rb A' M' S).to F w w' := by
 obtain ⟨B, h1, h2, h3⟩ := Mem.l h
 exact ⟨B, h1, h2, fun A' M' w' ht => h3 _ _ ht⟩
theorem rr_raise (h : (rrM y ab vy pb rb A M S).to F w W) (hl : M.length ≤ 10000) {a : Int} (ha : isAcc a) (t n : Int) (hn : 0 ≤ n) : Calls Tryz.prog 93 #[.pointer (some ⟨y, 0, none⟩), .int .i64 a, .int .i64 t, .int .i64 n] W fun e w' => e = .returned (.tuple #[]) ∧ (rrM y ab vy pb rb A (raiseM M a t n) S).to F w w' := by
 obtain ⟨F1, h1, h2, h3⟩ := Mem.next h
 obtain ⟨B, k1, k2, k3⟩ := rr_l h1
 refine (ref6_Raise k1 ha t n hn (Nat.le_trans (row_length M a) (by omega))).mono ?_
 rintro e w' ⟨he, ht⟩
 exact ⟨he, h3 _ _ (k3 _ _ _ ht)⟩
theorem rr_free (h : (rrM y ab vy pb rb A M S).is F w) {a : Int} (ha : isAcc a) : Calls Tryz.prog 40 #[.pointer (some ⟨y, 0, none⟩), .int .i64 a] w fun e w' => e = .returned (.int .i64 (A a.toNat).1) ∧ w' = w := by
 obtain ⟨B, k1, k2, k3⟩ := rr_l h
 have := ref6_Free k1 a
 unfold accOf at this
 rw [if_pos ha] at this
 exact this
theorem delS_eq {S : Vs} {A : Acc} {a t who l n : Int} (h : delE S A a t who l n = 0) : delS S A a t who l n = { S with D := cput S.D a t ⟨who, l, n⟩, G := cput S.G who t ⟨wrap64 ((gotS S who t).v + votesI n l), wrap64 ((gotS S who t).c + n)⟩, P := lendP (gotS S who t) ⟨wrap64 ((gotS S who t).v + votesI n l), wrap64 ((gotS S who t).c + n)⟩ S.P (ballots S who t) } := by
 unfold delS
 rw [if_pos h]
 rfl
theorem ryS_Delegate_bad (h : (rrM y ab vy pb rb A M S).is F w) (a t who l n : Int) (hE : delE S A a t who l n = 1) : Calls Tryz.prog 35 #[.pointer (some ⟨vy, 0, none⟩), .pointer (some ⟨y, 0, none⟩), .int .i64 a, .int .i64 t, .int .i64 who, .int .i64 l, .int .i64 n] w fun e w' => e = .returned (.int .i64 1) ∧ w' = w := by
 have hc : ¬ isAcc a ∨ ¬ (0 ≤ t ∧ t < 4) ∨ ¬ isAcc who ∨ who = a ∨ ¬ (0 ≤ l ∧ l ≤ 6) ∨ ¬ isBal n := by
  unfold delE at hE
  by_cases q : ¬ isAcc a ∨ ¬ (0 ≤ t ∧ t < 4) ∨ ¬ isAcc who ∨ who = a ∨ ¬ (0 ≤ l ∧ l ≤ 6) ∨ ¬ isBal n
  · exact q
  · rw [if_neg q] at hE
    split at hE
    · omega
    · split at hE
      · omega
      · split at hE <;> omega
 have hI1 := ref6_Is a w
 have hI2 := ref6_Is who w
 have hTr := ry_track t w
 have hx : (decide (0 ≤ a ∧ a < 10) = false) ∨ (decide (0 ≤ a ∧ a < 10) = true ∧ decide (0 ≤ who ∧ who < 10) = false) ∨ (decide (0 ≤ a ∧ a < 10) = true ∧ decide (0 ≤ who ∧ who < 10) = true ∧ (a == who) = true) ∨ (decide (0 ≤ a ∧ a < 10) = true ∧ decide (0 ≤ who ∧ who < 10) = true ∧ (a == who) = false ∧ decide (0 ≤ t ∧ t < 4) = false) ∨ (decide (0 ≤ a ∧ a < 10) = true ∧ decide (0 ≤ who ∧ who < 10) = true ∧ (a == who) = false ∧ decide (0 ≤ t ∧ t < 4) = true ∧ l < 0) ∨ (decide (0 ≤ a ∧ a < 10) = true ∧ decide (0 ≤ who ∧ who < 10) = true ∧ (a == who) = false ∧ decide (0 ≤ t ∧ t < 4) = true ∧ ¬ l < 0 ∧ 6 < l) ∨ (decide (0 ≤ a ∧ a < 10) = true ∧ decide (0 ≤ who ∧ who < 10) = true ∧ (a == who) = false ∧ decide (0 ≤ t ∧ t < 4) = true ∧ ¬ l < 0 ∧ ¬ 6 < l ∧ n < 0) ∨ (decide (0 ≤ a ∧ a < 10) = true ∧ decide (0 ≤ who ∧ who < 10) = true ∧ (a == who) = false ∧ decide (0 ≤ t ∧ t < 4) = true ∧ ¬ l < 0 ∧ ¬ 6 < l ∧ ¬ n < 0 ∧ 1073741824 < n) := by
  unfold isAcc isBal at hc
  by_cases q1 : 0 ≤ a ∧ a < 10
  · by_cases q2 : 0 ≤ who ∧ who < 10
    · by_cases q3 : a = who
      · exact .inr (.inr (.inl ⟨decide_eq_true q1, decide_eq_true q2, by simp [q3]⟩))
      · by_cases q4 : 0 ≤ t ∧ t < 4
        · by_cases q5 : l < 0
          · exact .inr (.inr (.inr (.inr (.inl ⟨decide_eq_true q1, decide_eq_true q2, by simp [q3], decide_eq_true q4, q5⟩))))
          · by_cases q6 : 6 < l
            · exact .inr (.inr (.inr (.inr (.inr (.inl ⟨decide_eq_true q1, decide_eq_true q2, by simp [q3], decide_eq_true q4, q5, q6⟩)))))
            · by_cases q7 : n < 0
              · exact .inr (.inr (.inr (.inr (.inr (.inr (.inl ⟨decide_eq_true q1, decide_eq_true q2, by simp [q3], decide_eq_true q4, q5, q6, q7⟩))))))
              · exact .inr (.inr (.inr (.inr (.inr (.inr (.inr ⟨decide_eq_true q1, decide_eq_true q2, by simp [q3], decide_eq_true q4, q5, q6, q7, by omega⟩))))))
        · exact .inr (.inr (.inr (.inl ⟨decide_eq_true q1, decide_eq_true q2, by simp [q3], decide_eq_false q4⟩)))
    · exact .inr (.inl ⟨decide_eq_true q1, decide_eq_false q2⟩)
  · exact .inl (decide_eq_false q1)
 obtain ⟨b1, hb1⟩ : ∃ b, b = decide (0 ≤ a ∧ a < 10) := ⟨_, rfl⟩
 obtain ⟨b2, hb2⟩ : ∃ b, b = decide (0 ≤ who ∧ who < 10) := ⟨_, rfl⟩
 obtain ⟨b3, hb3⟩ : ∃ b, b = decide (0 ≤ t ∧ t < 4) := ⟨_, rfl⟩
 rw [← hb1, ← hb2, ← hb3] at hx
 rw [← hb1] at hI1
 rw [← hb2] at hI2
 rw [← hb3] at hTr
 have HI1 := Lib.hid hI1
 have HI2 := Lib.hid hI2
 have HTR := Lib.hid hTr
 clear hb1 hb2 hb3 hI1 hI2 hTr hc hE h
 rcases hx with hx | ⟨hx, hx2⟩ | ⟨hx, hx2, hx3⟩ | ⟨hx, hx2, hx3, hx4⟩ | ⟨hx, hx2, hx3, hx4, hx5⟩ | ⟨hx, hx2, hx3, hx4, hx5, hx6⟩ | ⟨hx, hx2, hx3, hx4, hx5, hx6, hx7⟩ | ⟨hx, hx2, hx3, hx4, hx5, hx6, hx7, hx8⟩
 all_goals
  subst hx
  try subst hx2
  try subst hx4
  go_enter Tryz.func35, Tryz.ntmps35
  go_wp2_with (first
   | (go_at_call 88; with_reducible refine HI1.out.mono ?_; rintro e w' ⟨rfl, hw⟩; rw [hw]; clear hw w')
   | (go_at_call 88; with_reducible refine HI2.out.mono ?_; rintro e w' ⟨rfl, hw⟩; rw [hw]; clear hw w')
   | (go_at_call 86; refine HTR.out.mono ?_; rintro e w' ⟨rfl, hw⟩; rw [hw]; clear hw w')
   | fail)
  exact bodyPost_ret (v := .int .i64 1) (by simp [results, Tryz.results35, go_sem]) rfl ⟨rfl, rfl⟩
end
end
section
open Go.RowKit Go.Maps
section
variable {y ab vy pb rb : Nat} {A : Acc} {M : Cls Int} {S S' : Vs} {F : FP} {w w' W : World}
attribute [local go_sem ↓] loadSt_W_hide in
theorem rr_Delegate (h : (rrM y ab vy pb rb A M S).is F w) (hi : VInv S) (hs : SrtS S) (hM : M.length ≤ 10000) (a t who l n : Int) : Calls Tryz.prog 35 #[.pointer (some ⟨vy, 0, none⟩), .pointer (some ⟨y, 0, none⟩), .int .i64 a, .int .i64 t, .int .i64 who, .int .i64 l, .int .i64 n] w fun e w' => e = .returned (.int .i64 (delE S A a t who l n)) ∧ (rrM y ab vy pb rb A (delM S A M a t who l n) (delS S A a t who l n)).to F w w' := by
 have HH := Lib.hid h
 have hrefl : (rrM y ab vy pb rb A M S).to F w w := Mem.to_below (m := rrM y ab vy pb rb A M S) h (Below.refl _ _)
 have HR := Lib.hid hrefl
 clear hrefl
 by_cases hE1 : delE S A a t who l n = 1
 · have eS : delS S A a t who l n = S := by unfold delS; rw [if_neg (by rw [hE1]; decide)]
   have eM : delM S A M a t who l n = M := by unfold delM; rw [if_neg (by rw [hE1]; decide)]
   rw [eS, eM, hE1]
   refine (ryS_Delegate_bad h a t who l n hE1).mono ?_
   rintro e w' ⟨rfl, rfl⟩
   exact ⟨rfl, HR.out⟩
 have hc : isAcc a ∧ (0 ≤ t ∧ t < 4) ∧ isAcc who ∧ who ≠ a ∧ (0 ≤ l ∧ l ≤ 6) ∧ isBal n := by
  unfold delE at hE1
  refine ⟨?_, ?_, ?_, ?_, ?_, ?_⟩
  all_goals
   refine Classical.byContradiction fun q => hE1 (if_pos ?_)
   first | (simp [q]; done) | (have := Classical.not_not.1 q; simp [this])
 obtain ⟨ha, ht, hw, hne, hl, hn⟩ := hc
 have hI1 := ref6_Is a w
 have hI2 := ref6_Is who w
 have hTr := ry_track t w
 rw [decide_eq_true (show 0 ≤ a ∧ a < 10 from ha)] at hI1
 rw [decide_eq_true (show 0 ≤ who ∧ who < 10 from hw)] at hI2
 rw [decide_eq_true ht] at hTr
 obtain ⟨B, hy, hBF, hlift⟩ := rr_y h
 have hat := ry_rec hy ha ht
 obtain ⟨v, hrd, c0, c1, -⟩ := hy.cells ha ht
 have hfr := rr_free h ha
 have g0 : (a == who) = false := by simp; omega
 obtain ⟨l0, l6⟩ := hl
 have hn' := hn
 unfold isBal at hn'
 have g1 : ¬ l < 0 := by omega
 have g2 : ¬ 6 < l := by omega
 have g3 : ¬ n < 0 := by omega
 have g4 : ¬ 1073741824 < n := by omega
 have HI1 := Lib.hid hI1
 have HI2 := Lib.hid hI2
 have HTR := Lib.hid hTr
 have HFR := Lib.hid hfr
 have hE : delE S A a t who l n = (if (cget S.D a t).isSome = true then 5 else if 0 < (ballots S a t).length then 9 else if (A a.toNat).1 < n then 6 else 0) := by
  unfold delE
  rw [if_neg (by rintro (q | q | q | q | q | q); exact q ha; exact q ht; exact q hw; exact hne q; exact q ⟨l0, l6⟩; exact q hn)]
 obtain ⟨ao, cap, rfl⟩ := hrd.lenOf
 obtain ⟨on, hon⟩ : ∃ on, on = (cget S.D a t).isSome := ⟨_, rfl⟩
 obtain ⟨nb, hnb⟩ : ∃ nb, nb = (ballots S a t).length := ⟨_, rfl⟩
 obtain ⟨fr, hfrr⟩ : ∃ fr, fr = (A a.toNat).1 := ⟨_, rfl⟩
 rw [← hon, ← hnb, ← hfrr] at hE
 rw [← hon] at c1
 rw [← hnb] at c0
 rw [← hfrr] at HFR
 obtain ⟨kk, hkk⟩ : ∃ kk, kk = kOf a t := ⟨_, rfl⟩
 rw [← hkk] at hat c0 c1
 have HAT := Lib.hid hat
 have HKK := Lib.hid hkk
 have hrow : (nb : Int) ≤ 1000 := by
  have h1 := tbal_length S.P t (rowOf S.V a)
  have h2 := row_length S.V a
  have h3 := hi.boxV.len hs.1
  have : nb ≤ 120 := by rw [hnb]; unfold ballots; omega
  omega
 have HD := Lib.hid (And.intro hi (And.intro hs (And.intro hM (And.intro ha (And.intro ht (And.intro hw (And.intro hn hne)))))))
 clear hI1 hI2 hTr hfr hat hon hnb hfrr hrd ha ht hw hn hi hs hM h hkk
 cases on with
 | true =>
  rw [if_pos rfl] at hE
  have eS : delS S A a t who l n = S := by unfold delS; rw [if_neg (by rw [hE]; decide)]
  have eM : delM S A M a t who l n = M := by unfold delM; rw [if_neg (by rw [hE]; decide)]
  rw [eS, eM, hE]
  clear eS eM hE hE1
  go_enter Tryz.func35, Tryz.ntmps35
  go_wp2_with (first
   | (go_at_call 88; with_reducible refine HI1.out.mono ?_; rintro e w' ⟨rfl, hw⟩; rw [hw]; clear hw w')
   | (go_at_call 88; with_reducible refine HI2.out.mono ?_; rintro e w' ⟨rfl, hw⟩; rw [hw]; clear hw w')
   | (go_at_call 86; refine HTR.out.mono ?_; rintro e w' ⟨rfl, hw⟩; rw [hw]; clear hw w')
   | (go_at_call 90; refine HAT.out.mono ?_; rintro e w' ⟨rfl, hw⟩; rw [hw]; clear hw w')
   | fail)
  exact bodyPost_ret (v := .int .i64 5) (by simp [results, Tryz.results35, go_sem]) rfl ⟨rfl, HR.out⟩
 | false =>
  rw [if_neg (by decide)] at hE
  by_cases q1 : 0 < nb
  · rw [if_pos q1] at hE
    have eS : delS S A a t who l n = S := by unfold delS; rw [if_neg (by rw [hE]; decide)]
    have eM : delM S A M a t who l n = M := by unfold delM; rw [if_neg (by rw [hE]; decide)]
    rw [eS, eM, hE]
    clear eS eM hE hE1
    go_enter Tryz.func35, Tryz.ntmps35
    go_wp2_with (first
     | (go_at_call 88; with_reducible refine HI1.out.mono ?_; rintro e w' ⟨rfl, hw⟩; rw [hw]; clear hw w')
     | (go_at_call 88; with_reducible refine HI2.out.mono ?_; rintro e w' ⟨rfl, hw⟩; rw [hw]; clear hw w')
     | (go_at_call 86; refine HTR.out.mono ?_; rintro e w' ⟨rfl, hw⟩; rw [hw]; clear hw w')
     | (go_at_call 90; refine HAT.out.mono ?_; rintro e w' ⟨rfl, hw⟩; rw [hw]; clear hw w')
     | fail)
    exact bodyPost_ret (v := .int .i64 9) (by simp [results, Tryz.results35, go_sem]) rfl ⟨rfl, HR.out⟩
  · rw [if_neg q1] at hE
    by_cases q2 : fr < n
    · rw [if_pos q2] at hE
      have eS : delS S A a t who l n = S := by unfold delS; rw [if_neg (by rw [hE]; decide)]
      have eM : delM S A M a t who l n = M := by unfold delM; rw [if_neg (by rw [hE]; decide)]
      rw [eS, eM, hE]
      clear eS eM hE hE1
      go_enter Tryz.func35, Tryz.ntmps35
      go_wp2_with (first
       | (go_at_call 88; with_reducible refine HI1.out.mono ?_; rintro e w' ⟨rfl, hw⟩; rw [hw]; clear hw w')
       | (go_at_call 88; with_reducible refine HI2.out.mono ?_; rintro e w' ⟨rfl, hw⟩; rw [hw]; clear hw w')
       | (go_at_call 86; refine HTR.out.mono ?_; rintro e w' ⟨rfl, hw⟩; rw [hw]; clear hw w')
       | (go_at_call 90; refine HAT.out.mono ?_; rintro e w' ⟨rfl, hw⟩; rw [hw]; clear hw w')
       | (go_at_call 40; refine HFR.out.mono ?_; rintro e w' ⟨rfl, hw⟩; rw [hw]; clear hw w')
       | fail)
      exact bodyPost_ret (v := .int .i64 6) (by simp [results, Tryz.results35, go_sem]) rfl ⟨rfl, HR.out⟩
    · rw [if_neg q2] at hE
      rw [delS_eq hE, hE]
      have eM : delM S A M a t who l n = raiseM M a t n := by unfold delM; rw [if_pos hE]
      rw [eM]
      obtain ⟨hi, hs, hM, ha, ht, hw, hn, hne⟩ := HD.out
      have hkk := HKK.out
      obtain ⟨g, hg⟩ : ∃ g, g = gotS S who t := ⟨_, rfl⟩
      rw [← hg]
      obtain ⟨vt, hvt⟩ : ∃ vt, vt = votesI n l := ⟨_, rfl⟩
      rw [← hvt]
      obtain ⟨is, his⟩ : ∃ is : Wgt, is = ⟨wrap64 (g.v + vt), wrap64 (g.c + n)⟩ := ⟨_, rfl⟩
      rw [← his]
      have hvo : ∀ W : World, Calls Tryz.prog 44 #[.int .i64 n, .int .i64 l] W fun e w' => e = .returned (.int .i64 vt) ∧ W = w' := fun W => by rw [hvt]; exact ref_Votes n l W (by omega) (by omega) l0 l6
      -- behind the four stores
      obtain ⟨S1, hS1⟩ : ∃ S1 : Vs, S1 = { S with D := cput S.D a t ⟨who, l, n⟩ } := ⟨_, rfl⟩
      obtain ⟨w1, hw1⟩ : ∃ w1, w1 = (((w.setCell ⟨rb, kk * 9 + 1, none⟩ (.bool true)).setCell ⟨rb, kk * 9 + 2, none⟩ (.int .i64 who)).setCell ⟨rb, kk * 9 + 3, none⟩ (.int .i64 l)).setCell ⟨rb, kk * 9 + 4, none⟩ (.int .i64 n) := ⟨_, rfl⟩
      have hto1 : (rrM y ab vy pb rb A M S1).to F w w1 := by
       refine hlift S1 w1 ?_
       have := ryS_lends (ry_refl hy) hs.2.1 ha ht ⟨who, l, n⟩
       rw [← hkk] at this
       rw [hS1, hw1]; exact this
      obtain ⟨F1, hm1, -, hn1⟩ := Mem.next hto1
      obtain ⟨B1, hy1, hB1, hl1⟩ := rr_y hm1
      have hi1 : VInv S1 := by
       rw [hS1]
       exact ⟨hi.v, fun x hx => by
        rcases mem_cput.1 hx with rfl | ⟨hx, -⟩
        · exact ⟨⟨ha, by show 0 ≤ t ∧ t < 12; omega⟩, hw, ⟨l0, l6⟩, hn⟩
        · exact hi.d x hx, hi.g, hi.q, hi.t⟩
      have hg1 : gotS S1 who t = g := by rw [hS1, hg]; rfl
      have hat2 := ry_rec hy1 hw ht
      have hgr := hy1.got (kOf_lt hw ht)
      rw [rcOf_at S1 hw ht, show (rcAt S1 who t).g = g from hg1] at hgr
      have lw := loadW_at hgr
      obtain ⟨kd, hkd⟩ : ∃ kd, kd = kOf who t := ⟨_, rfl⟩
      rw [← hkd] at hat2 lw
      obtain ⟨bx, hbx⟩ : ∃ bx, bx = w1.heap.size := ⟨_, rfl⟩
      obtain ⟨w2, hw2⟩ : ∃ w2, w2 = w1.alloc (wgtS.obj g) := ⟨_, rfl⟩
      have hb2 : Below w1.heap.size w1 w2 := by rw [hw2]; exact (Below.refl _ w1).alloc (Nat.le_refl _) _
      have hbo : w2.heap[bx]? = some (.cells #[.int .i64 g.v, .int .i64 g.c] 82 (0, 0)) := by rw [hw2, hbx]; exact World.alloc_heap_new _ _
      have hbl : bx < w2.heap.size := (Array.getElem?_eq_some_iff.1 hbo).1
      have hnB : ¬ B1 bx := fun q => by have := (ryS vy pb rb S1).lt (show (ryS vy pb rb S1).is B1 w1 from hy1) q; omega
      have hcell : ∀ W, Below w2.heap.size w2 W → W.cell? ⟨bx, 0, none⟩ = some (.int .i64 g.v) ∧ W.cell? ⟨bx, 1, none⟩ = some (.int .i64 g.c) := fun W hW => by
       have := (hW.block bx hbl).trans hbo
       exact ⟨by rw [World.cell?, this]; rfl, by rw [World.cell?, this]; rfl⟩
      have hgot : ∀ W, Below w2.heap.size w2 W → Calls Tryz.prog 97 #[.pointer (some ⟨vy, 0, none⟩), .int .i64 who, .int .i64 t, .agg #[.int .i64 (IntKind.i64.wrap (g.v + vt)), .int .i64 (IntKind.i64.wrap (g.c + n))]] W fun e w' => e = .returned (.tuple #[]) ∧ (rrM y ab vy pb rb A M { S1 with G := cput S.G who t is, P := lendP g is S.P (ballots S who t) }).to F w w' ∧ w'.cell? ⟨bx, 0, none⟩ = some (.int .i64 g.v) ∧ w'.cell? ⟨bx, 1, none⟩ = some (.int .i64 g.c) := fun W hW => by
       have hbW := hb2.trans (hW.mono hb2.size)
       have := ryS_got (Mem.below (m := ryS vy pb rb S1) hy1 hbW) hi1 (by rw [hS1]; exact hs.2.2.1) (by rw [hS1]; exact hs.1) hw ht is
       rw [his] at this
       rw [show IntKind.i64.wrap (g.v + vt) = wrap64 (g.v + vt) from IntWalk.i64_left _, show IntKind.i64.wrap (g.c + n) = wrap64 (g.c + n) from IntWalk.i64_left _]
       refine this.mono fun e w' ⟨e1, e2⟩ => ⟨e1, ?_, ?_, ?_⟩
       · have e3 := hn1 _ _ (hl1 _ _ (Mem.to_later hbW e2))
         rw [hg1] at e3
         rw [his, hS1]
         rw [hS1] at e3
         exact e3
       all_goals
        have hk := (Mem.to_keeps e2 (by have := hW.size; omega) hnB).trans ((hW.block bx hbl).trans hbo)
        rw [World.cell?, hk]; rfl
      have hra : ∀ W, (rrM y ab vy pb rb A M { S1 with G := cput S.G who t is, P := lendP g is S.P (ballots S who t) }).to F w W → Calls Tryz.prog 93 #[.pointer (some ⟨y, 0, none⟩), .int .i64 a, .int .i64 t, .int .i64 n] W fun e w' => e = .returned (.tuple #[]) ∧ (rrM y ab vy pb rb A (raiseM M a t n) { S with D := cput S.D a t ⟨who, l, n⟩, G := cput S.G who t is, P := lendP g is S.P (ballots S who t) }).to F w w' := fun W hW => by
       have := rr_raise hW hM ha t n (by omega)
       rw [hS1] at this
       exact this
      have hth := RyAt.rthere hy (o := 0) (n := 9) (kOf_lt ha ht) (by omega)
      rw [← hkk] at hth
      have hthj : ∀ j, j < 9 → ∃ y, w.cell? ⟨rb, kk * 9 + j, none⟩ = some y ∧ w.frozen? ⟨rb, kk * 9 + j, none⟩ = false := fun j hj => by
       have := hth j hj
       rw [Nat.add_zero] at this
       obtain ⟨y, hy⟩ := Option.isSome_iff_exists.1 this.1
       exact ⟨y, hy, this.2⟩
      obtain ⟨-, -, f1⟩ := hthj 1 (by omega)
      obtain ⟨y2, d2, f2⟩ := hthj 2 (by omega)
      obtain ⟨y3, d3, f3⟩ := hthj 3 (by omega)
      obtain ⟨y4, d4, f4⟩ := hthj 4 (by omega)
      have HVO := Lib.hid hvo
      have HAT2 := Lib.hid hat2
      have HGOT := Lib.hid hgot
      have HC := Lib.hid hcell
      have HRA := Lib.hid hra
      have HW1 := Lib.hid hw1
      have HW2 := Lib.hid hw2
      have HBX := Lib.hid hbx
      have HLW := Lib.hid lw
      clear hvo hat2 hgot hcell hra hw1 hw2 hbx lw hth hthj hnB hbl hbo hb2 hgr hg1 hi1 hl1 hB1 hy1 hn1 hm1 hto1 hS1 his hvt hg hkd hkk hi hs hM ha ht hw hn hne eM hE hE1 hy hBF hlift hn'
      go_enter Tryz.func35, Tryz.ntmps35
      go_upto_region 11 with (first
       | (go_at_call 88; with_reducible refine HI1.out.mono ?_; rintro e w' ⟨rfl, hw⟩; rw [hw]; clear hw w')
       | (go_at_call 88; with_reducible refine HI2.out.mono ?_; rintro e w' ⟨rfl, hw⟩; rw [hw]; clear hw w')
       | (go_at_call 86; refine HTR.out.mono ?_; rintro e w' ⟨rfl, hw⟩; rw [hw]; clear hw w')
       | (go_at_call 90; refine HAT.out.mono ?_; rintro e w' ⟨rfl, hw⟩; rw [hw]; clear hw w')
       | (go_at_call 40; refine HFR.out.mono ?_; rintro e w' ⟨rfl, hw⟩; rw [hw]; clear hw w')
       | fail)
      rw [← HW1.out]
      have lw := HLW.out
      clear c0 c1 d2 d3 d4 f1 f2 f3 f4
      go_upto_region 12 with (first
       | (go_at_call 90; refine HAT2.out.mono ?_; rintro e w' ⟨rfl, hw⟩; rw [hw]; clear hw w')
       | (refine wpl_allocS (s := wgtS) rfl rfl rfl ?_)
       | (refine wpl_storeS (s := wgtS) (t := g) (b := w1.heap.size) _ _ rfl rfl rfl rfl rfl (World.alloc_heap_new w1 _) (zeroS wgtS) ?_; rw [newS])
       | fail)
      rw [← HW2.out, ← HBX.out]
      have B0 := Lib.hid (Below.refl w2.heap.size w2)
      have mixed : Tryz.prog.follows .mixedOrders = true := by kernel_rfl
      clear lw
      first
       | go_region_held3 (fun W => W.cell? ⟨bx, 0, none⟩ = some (.int .i64 g.v) ∧ W.cell? ⟨bx, 1, none⟩ = some (.int .i64 g.c)) (first | exact HC.out _ B0.out | exact HC.out _ B0.out.drew | exact HC4.out) (first
        | (go_at_call 44; with_reducible refine (HVO.out _).mono ?_; rintro e w' ⟨rfl, rfl⟩)
        | (go_at_call 97; with_reducible refine (HGOT.out _ B0.out.drew).mono ?_; rintro e w4 ⟨rfl, h4, n0, n1⟩; have H4 := Lib.hid h4; have HC4 := Lib.hid (And.intro n0 n1); clear h4 n0 n1)
        | fail)
       | fail
      go_wp2_with (first
       | (go_at_call 93; refine (HRA.out _ H4.out).mono ?_; rintro e w5 ⟨rfl, h5⟩; have H5 := Lib.hid h5; clear h5)
       | fail)
      exact bodyPost_ret (v := .int .i64 0) (by simp [results, Tryz.results35, go_sem]) rfl ⟨rfl, H5.out⟩
end
end
section
open Go.RowKit Go.Maps
theorem ref_CapitalV (x : Bal) (w : World) (h : balOk x = true) : Calls Tryz.prog 15 #[.agg (balS.f x).toArray] w fun e w' => e = .returned (.int .i64 (capB x)) ∧ Below w.heap.size w w' := by
 obtain ⟨k, aye, l, a, n, s⟩ := x
 simp only [balOk, voteB, Bool.and_eq_true] at h
 obtain ⟨⟨⟨⟨h0, h1⟩, h2⟩, h3⟩, -⟩ := h
 exact ref_Capital k aye l a n s w (withinB_out h1) (withinB_out h2) (withinB_out h3)
section
variable {y ab vy pb rb : Nat} {A : Acc} {M : Cls Int} {S S' : Vs} {F : FP} {w w' W : World}
attribute [local go_sem ↓] loadSt_V_hide in
theorem rr_Unlock (h : (rrM y ab vy pb rb A M S).is F w) (hi : VInv S) (hs : SrtS S) (hM : M.length ≤ 10000) (a t now : Int) : Calls Tryz.prog 37 #[.pointer (some ⟨vy, 0, none⟩), .pointer (some ⟨y, 0, none⟩), .int .i64 a, .int .i64 t, .int .i64 now] w fun e w' => e = .returned (.int .i64 (unlE a t)) ∧ (rrM y ab vy pb rb A (unlM S M a t now) (unlS S a t now)).to F w w' := by
 have hIs := ref6_Is a w
 have hTr := ry_track t w
 have HR := Lib.hid (show (rrM y ab vy pb rb A M S).to F w w from Mem.to_below (m := rrM y ab vy pb rb A M S) h (Below.refl _ _))
 by_cases ha : isAcc a
 · rw [decide_eq_true (show 0 ≤ a ∧ a < 10 from ha)] at hIs
   by_cases ht : 0 ≤ t ∧ t < 4
   · rw [decide_eq_true ht] at hTr
     have eE : unlE a t = 0 := by unfold unlE; rw [if_neg (fun q => q.elim (fun q => q ha) (fun q => q ht))]
     have eS : unlS S a t now = { S with Q := unlQ S a t now } := by unfold unlS; rw [if_pos eE]
     have eM : unlM S M a t now = lockM M a t (unlN S a t now) := by unfold unlM; rw [if_pos eE]
     rw [eS, eM, eE]
     obtain ⟨B, hy, hBF, hlift⟩ := rr_y h
     have hat := ry_rec hy ha ht
     obtain ⟨v0, -, -, -, -, -, -, -, -, c7, c8⟩ := hy.cells ha ht
     obtain ⟨S1, hS1⟩ : ∃ S1 : Vs, S1 = { S with Q := unlQ S a t now } := ⟨_, rfl⟩
     rw [← hS1]
     obtain ⟨ou, hou⟩ : ∃ z, z = ((cget S.Q a t).getD ⟨0, 0⟩).v := ⟨_, rfl⟩
     obtain ⟨oc, hoc⟩ : ∃ z, z = ((cget S.Q a t).getD ⟨0, 0⟩).c := ⟨_, rfl⟩
     rw [← hou] at c7
     rw [← hoc] at c8
     obtain ⟨xs, hxs⟩ : ∃ xs, xs = ballots S a t := ⟨_, rfl⟩
     obtain ⟨n, hn⟩ : ∃ n, n = xs.length := ⟨_, rfl⟩
     have hn1 : n ≤ 1000 := by
      have h1 := tbal_length S.P t (rowOf S.V a)
      have h2 := row_length S.V a
      have h3 := hi.boxV.len hs.1
      rw [hn, hxs]; unfold ballots; omega
     have hvs : ∀ x ∈ xs, balOk x.2 = true := fun x hx => (hi.row a x (List.mem_filter.1 (by rw [hxs] at hx; exact hx)).1).2.2
     obtain ⟨dn, hdn⟩ : ∃ z, z = (undD S a t).n := ⟨_, rfl⟩
     obtain ⟨pc, hpc⟩ : ∃ z, z = ((cget (unlQ S a t now) a t).getD ⟨0, 0⟩).c := ⟨_, rfl⟩
     obtain ⟨n0, hn0⟩ : ∃ z, z = max dn pc := ⟨_, rfl⟩
     have eN : unlN S a t now = maxCap xs n0 := by unfold unlN; rw [hn0, hdn, hpc, hxs]
     rw [eN]
     obtain ⟨kk, hkk⟩ : ∃ kk, kk = kOf a t := ⟨_, rfl⟩
     rw [← hkk] at hat c7 c8
     -- the rest, from any world in which the prior lock is as it should be
     have hth := RyAt.rthere hy (o := 0) (n := 9) (kOf_lt ha ht) (by omega)
     rw [← hkk] at hth
     have f7 := (hth 7 (by omega)).2
     have f8 := (hth 8 (by omega)).2
     rw [Nat.add_zero] at f7 f8
     have hst : ou ≤ now → (rrM y ab vy pb rb A M S1).to F w ((w.setCell ⟨rb, kk * 9 + 7, none⟩ (.int .i64 0)).setCell ⟨rb, kk * 9 + 8, none⟩ (.int .i64 0)) := fun hle => by
      refine hlift S1 _ ?_
      have e1 := ry_setRs (ry_refl hy) (o := 7) (kOf_lt ha ht) (vs := [.int .i64 0, .int .i64 0]) (by show 7 + 2 ≤ 9; omega) (r' := { rcOf S (kOf a t) with u := 0, p := 0 }) (fun v => rfl) rfl
      have e2 := ry_congr e1 (fun k _ => rfl) (rec_noprior hs.2.2.2 ha ht)
      rw [← hkk] at e2
      have e3 : S1 = { S with Q := cdel S.Q a t } := by rw [hS1]; unfold unlQ; rw [if_pos (by rw [← hou]; exact hle)]
      rw [e3]
      exact e2
     have hst2 : ¬ ou ≤ now → (rrM y ab vy pb rb A M S1).to F w w := fun hle => by
      have e3 : S1 = S := by rw [hS1]; unfold unlQ; rw [if_neg (by rw [← hou]; exact hle)]
      rw [e3]
      exact HR.out
     have hrest : ∀ W, (rrM y ab vy pb rb A M S1).to F w W → ∃ v, RdR castR W v xs ∧ W.cell? ⟨rb, kk * 9, none⟩ = some v ∧ W.cell? ⟨rb, kk * 9 + 4, none⟩ = some (.int .i64 dn) ∧ W.cell? ⟨rb, kk * 9 + 8, none⟩ = some (.int .i64 pc) := fun W hW => by
      obtain ⟨F1, hm1, -, -⟩ := Mem.next hW
      obtain ⟨B1, hy1, -, -⟩ := rr_y hm1
      obtain ⟨v, hrd, d0, d1, d2, d3, d4, d5, d6, d7, d8⟩ := hy1.cells ha ht
      have e1 : ballots S1 a t = xs := by rw [hS1, hxs]; rfl
      have e2 : (undD S1 a t).n = dn := by rw [hS1, hdn]; rfl
      have e3 : ((cget S1.Q a t).getD ⟨0, 0⟩).c = pc := by rw [hS1, hpc]
      rw [e1] at hrd
      rw [← hkk] at d0 d4 d8
      rw [e2] at d4
      rw [e3] at d8
      exact ⟨v, hrd, d0, d4, d8⟩
     have hlk : ∀ W N, (rrM y ab vy pb rb A M S1).to F w W → Calls Tryz.prog 98 #[.pointer (some ⟨y, 0, none⟩), .int .i64 a, .int .i64 t, .int .i64 N] W fun e w' => e = .returned (.tuple #[]) ∧ (rrM y ab vy pb rb A (lockM M a t N) S1).to F w w' := fun W N hW => by
      obtain ⟨F1, h1, -, h3⟩ := Mem.next hW
      obtain ⟨B1, k1, -, k3⟩ := rr_l h1
      refine (ref6_Lock k1 t N (Nat.le_trans (row_length M a) (by omega))).mono ?_
      rintro e w' ⟨he, hto⟩
      exact ⟨he, h3 _ _ (k3 _ _ _ (rl_to hto))⟩
     have HIS := Lib.hid hIs
     have HTR := Lib.hid hTr
     have HAT := Lib.hid hat
     have HST := Lib.hid hst
     have HST2 := Lib.hid hst2
     have HRE := Lib.hid hrest
     have HLK := Lib.hid hlk
     have HVS := Lib.hid (And.intro hvs hn)
     have M1 : max dn pc = n0 := hn0.symm
     have M2 : (if dn < pc then pc else dn) = n0 := by rw [hn0]; split <;> omega
     clear hIs hTr hat hst hst2 hrest hlk hvs hn hth hkk eN hn0 hpc hdn hxs hoc hou hS1 hlift hBF hy eE eS eM ha ht h hi hs hM
     by_cases hle : ou ≤ now
     · have hto0 := HST.out hle
       go_enter Tryz.func37, Tryz.ntmps37
       go_upto_region 6 with (first
        | (go_at_call 88; refine HIS.out.mono ?_; rintro e w' ⟨rfl, hw⟩; rw [hw]; clear hw w')
        | (go_at_call 86; refine HTR.out.mono ?_; rintro e w' ⟨rfl, hw⟩; rw [hw]; clear hw w')
        | (go_at_call 90; refine HAT.out.mono ?_; rintro e w' ⟨rfl, hw⟩; rw [hw]; clear hw w')
        | fail)
       obtain ⟨w1, hw1⟩ : ∃ w1, w1 = (w.setCell ⟨rb, kk * 9 + 7, none⟩ (.int .i64 0)).setCell ⟨rb, kk * 9 + 8, none⟩ (.int .i64 0) := ⟨_, rfl⟩
       rw [← hw1]
       rw [← hw1] at hto0
       have HW0 := Lib.hid hto0
       clear hto0 hw1 c7 c8 f7 f8
       obtain ⟨v1, hrd, d0, d4, d8⟩ := HRE.out _ HW0.out
       obtain ⟨ao, cap, rfl⟩ := hrd.lenOf
       rw [← HVS.out.2] at d0 hrd
       have HRD := Lib.hid hrd
       have HD0 := Lib.hid d0
       clear hrd
       have mixed : Tryz.prog.follows .mixedOrders = true := by kernel_rfl
       go_region_held3 (fun W => W.cell? ⟨rb, kk * 9 + 4, none⟩ = some (.int .i64 dn) ∧ W.cell? ⟨rb, kk * 9 + 8, none⟩ = some (.int .i64 pc)) (first | exact ⟨d4, d8⟩) (fail)
       clear d4 d8
       go_wp2_with fail
       go_loopw [12, 13] (fun m i wr => ∃ j : Nat, j ≤ n ∧ m = .int .i64 (maxCap (xs.take j) n0) ∧ i = .int .i64 j ∧ Below w1.heap.size w1 wr) (fun _ i _ => n - (intOf i).toNat)
       case atStart => exact ⟨0, by omega, rfl, rfl, by first | exact Below.refl _ _ | exact (Below.refl _ _).drew⟩
       case round =>
        obtain ⟨j, hj, rfl, rfl, hbw⟩ := hrel
        have HB := Lib.hid hbw
        have d0 : wr.cell? ⟨rb, kk * 9, none⟩ = some (.slice ao n cap) := (World.cell?_of_block (hbw.block rb (cell_ltR HD0.out))).trans HD0.out
        clear hbw
        by_cases hlt : j < n
        · have g1 : (j : Int) < n := by omega
          obtain ⟨b, off, rfl, hr, hb⟩ := HRD.out.at (show j < xs.length by rw [← HVS.out.2]; exact hlt)
          obtain ⟨x, hx⟩ : ∃ x, x = xs[j]'(by rw [← HVS.out.2]; exact hlt) := ⟨_, rfl⟩
          rw [← hx] at hr
          have hxm : x ∈ xs := by rw [hx]; exact List.getElem_mem _
          have lv : (loadSt_V (.pointer (some ⟨b, off + j * 7 + 1, none⟩))).run Tryz.prog wr = .ok (.agg (balS.f x.2).toArray) wr := loadV_at (cast_vote (rangeAt_block hr (HB.out.block b hb)))
          have htk : xs.take (j + 1) = xs.take j ++ [x] := by rw [hx]; exact (take_snoc (by rw [← HVS.out.2]; exact hlt)).symm
          have hst : maxCap (xs.take (j + 1)) n0 = max (maxCap (xs.take j) n0) (capB x.2) := by rw [htk, maxCap_snoc]
          have hcap : ∀ W : World, Calls Tryz.prog 15 #[.agg (balS.f x.2).toArray] W fun e w' => e = .returned (.int .i64 (capB x.2)) ∧ Below W.heap.size W w' := fun W => ref_CapitalV x.2 W (HVS.out.1 x hxm)
          obtain ⟨mx, hmx⟩ : ∃ mx, mx = maxCap (xs.take j) n0 := ⟨_, rfl⟩
          obtain ⟨cp, hcp⟩ : ∃ cp, cp = capB x.2 := ⟨_, rfl⟩
          rw [← hmx, ← hcp] at hst
          rw [← hcp] at hcap
          rw [← hmx]
          obtain ⟨mz, hmz⟩ : ∃ mz, mz = max mx cp := ⟨_, rfl⟩
          rw [← hmz] at hst
          have N1 : max mx cp = mz := hmz.symm
          have N2 : (if mx < cp then cp else mx) = mz := by rw [hmz]; split <;> omega
          have HCAP := Lib.hid hcap
          have HSTT := Lib.hid hst
          clear hcap hst hmz hmx hcp htk hxm hx hr hb
          go_wp2_with (first
           | (go_at_call 15; refine (HCAP.out _).mono ?_; rintro e w5 ⟨rfl, hb⟩; have HB5 := Lib.hid (HB.out.trans (hb.mono HB.out.size)); clear hb)
           | fail)
          go_roundw
          case rel => exact ⟨j + 1, by omega, by rw [HSTT.out], by go_num, HB5.out⟩
          case measure => simp [intOf]; omega
        · obtain rfl : j = n := by omega
          have g1 : ¬ (j : Int) < j := by omega
          have ht : maxCap (xs.take j) n0 = maxCap xs n0 := by rw [HVS.out.2, List.take_length]
          rw [ht]
          obtain ⟨mx, hmx⟩ : ∃ mx, mx = maxCap xs n0 := ⟨_, rfl⟩
          rw [← hmx]
          have HMX := Lib.hid hmx
          clear ht hmx
          go_wp2_with (first
           | (go_at_call 98; refine (HLK.out _ _ (Mem.to_then_below HW0.out HB.out)).mono ?_; rintro e w6 ⟨rfl, h6⟩; have H6 := Lib.hid h6; clear h6)
           | fail)
          exact bodyPost_ret (v := .int .i64 0) (by simp [results, Tryz.results37, go_sem]) rfl ⟨rfl, by rw [← HMX.out]; exact H6.out⟩
     · have hto0 := HST2.out hle
       go_enter Tryz.func37, Tryz.ntmps37
       go_upto_region 6 with (first
        | (go_at_call 88; refine HIS.out.mono ?_; rintro e w' ⟨rfl, hw⟩; rw [hw]; clear hw w')
        | (go_at_call 86; refine HTR.out.mono ?_; rintro e w' ⟨rfl, hw⟩; rw [hw]; clear hw w')
        | (go_at_call 90; refine HAT.out.mono ?_; rintro e w' ⟨rfl, hw⟩; rw [hw]; clear hw w')
        | fail)
       obtain ⟨w1, hw1⟩ : ∃ w1, w1 = w := ⟨_, rfl⟩
       rw [← hw1] at hto0
       rw [← hw1]
       have HW0 := Lib.hid (show (rrM y ab vy pb rb A M S1).to F w w1 by rw [hw1] at hto0 ⊢; exact hto0)
       clear hto0 c7 c8 f7 f8
       have HWE := Lib.hid hw1
       clear hw1
       obtain ⟨v1, hrd, d0, d4, d8⟩ := HRE.out _ HW0.out
       obtain ⟨ao, cap, rfl⟩ := hrd.lenOf
       rw [← HVS.out.2] at d0 hrd
       have HRD := Lib.hid hrd
       have HD0 := Lib.hid d0
       clear hrd
       have mixed : Tryz.prog.follows .mixedOrders = true := by kernel_rfl
       go_region_held3 (fun W => W.cell? ⟨rb, kk * 9 + 4, none⟩ = some (.int .i64 dn) ∧ W.cell? ⟨rb, kk * 9 + 8, none⟩ = some (.int .i64 pc)) (first | exact ⟨d4, d8⟩) (fail)
       clear d4 d8
       go_wp2_with fail
       go_loopw [12, 13] (fun m i wr => ∃ j : Nat, j ≤ n ∧ m = .int .i64 (maxCap (xs.take j) n0) ∧ i = .int .i64 j ∧ Below w1.heap.size w1 wr) (fun _ i _ => n - (intOf i).toNat)
       case atStart => exact ⟨0, by omega, rfl, rfl, by first | exact Below.refl _ _ | exact (Below.refl _ _).drew⟩
       case round =>
        obtain ⟨j, hj, rfl, rfl, hbw⟩ := hrel
        have HB := Lib.hid hbw
        have d0 : wr.cell? ⟨rb, kk * 9, none⟩ = some (.slice ao n cap) := (World.cell?_of_block (hbw.block rb (cell_ltR HD0.out))).trans HD0.out
        clear hbw
        by_cases hlt : j < n
        · have g1 : (j : Int) < n := by omega
          obtain ⟨b, off, rfl, hr, hb⟩ := HRD.out.at (show j < xs.length by rw [← HVS.out.2]; exact hlt)
          obtain ⟨x, hx⟩ : ∃ x, x = xs[j]'(by rw [← HVS.out.2]; exact hlt) := ⟨_, rfl⟩
          rw [← hx] at hr
          have hxm : x ∈ xs := by rw [hx]; exact List.getElem_mem _
          have lv : (loadSt_V (.pointer (some ⟨b, off + j * 7 + 1, none⟩))).run Tryz.prog wr = .ok (.agg (balS.f x.2).toArray) wr := loadV_at (cast_vote (rangeAt_block hr (HB.out.block b hb)))
          have htk : xs.take (j + 1) = xs.take j ++ [x] := by rw [hx]; exact (take_snoc (by rw [← HVS.out.2]; exact hlt)).symm
          have hst : maxCap (xs.take (j + 1)) n0 = max (maxCap (xs.take j) n0) (capB x.2) := by rw [htk, maxCap_snoc]
          have hcap : ∀ W : World, Calls Tryz.prog 15 #[.agg (balS.f x.2).toArray] W fun e w' => e = .returned (.int .i64 (capB x.2)) ∧ Below W.heap.size W w' := fun W => ref_CapitalV x.2 W (HVS.out.1 x hxm)
          obtain ⟨mx, hmx⟩ : ∃ mx, mx = maxCap (xs.take j) n0 := ⟨_, rfl⟩
          obtain ⟨cp, hcp⟩ : ∃ cp, cp = capB x.2 := ⟨_, rfl⟩
          rw [← hmx, ← hcp] at hst
          rw [← hcp] at hcap
          rw [← hmx]
          obtain ⟨mz, hmz⟩ : ∃ mz, mz = max mx cp := ⟨_, rfl⟩
          rw [← hmz] at hst
          have N1 : max mx cp = mz := hmz.symm
          have N2 : (if mx < cp then cp else mx) = mz := by rw [hmz]; split <;> omega
          have HCAP := Lib.hid hcap
          have HSTT := Lib.hid hst
          clear hcap hst hmz hmx hcp htk hxm hx hr hb
          go_wp2_with (first
           | (go_at_call 15; refine (HCAP.out _).mono ?_; rintro e w5 ⟨rfl, hb⟩; have HB5 := Lib.hid (HB.out.trans (hb.mono HB.out.size)); clear hb)
           | fail)
          go_roundw
          case rel => exact ⟨j + 1, by omega, by rw [HSTT.out], by go_num, HB5.out⟩
          case measure => simp [intOf]; omega
        · obtain rfl : j = n := by omega
          have g1 : ¬ (j : Int) < j := by omega
          have ht : maxCap (xs.take j) n0 = maxCap xs n0 := by rw [HVS.out.2, List.take_length]
          rw [ht]
          obtain ⟨mx, hmx⟩ : ∃ mx, mx = maxCap xs n0 := ⟨_, rfl⟩
          rw [← hmx]
          have HMX := Lib.hid hmx
          clear ht hmx
          go_wp2_with (first
           | (go_at_call 98; refine (HLK.out _ _ (Mem.to_then_below HW0.out HB.out)).mono ?_; rintro e w6 ⟨rfl, h6⟩; have H6 := Lib.hid h6; clear h6)
           | fail)
          exact bodyPost_ret (v := .int .i64 0) (by simp [results, Tryz.results37, go_sem]) rfl ⟨rfl, by rw [← HMX.out]; exact H6.out⟩
   · have eE : unlE a t = 1 := by unfold unlE; rw [if_pos (.inr ht)]
     have eS : unlS S a t now = S := by unfold unlS; rw [if_neg (by rw [eE]; decide)]
     have eM : unlM S M a t now = M := by unfold unlM; rw [if_neg (by rw [eE]; decide)]
     rw [eS, eM, eE]
     rw [decide_eq_false ht] at hTr
     have HIS := Lib.hid hIs
     have HTR := Lib.hid hTr
     clear hIs hTr ha ht eE eS eM h hi hs hM
     go_enter Tryz.func37, Tryz.ntmps37
     go_wp2_with (first
      | (go_at_call 88; refine HIS.out.mono ?_; rintro e w' ⟨rfl, hw⟩; rw [hw]; clear hw w')
      | (go_at_call 86; refine HTR.out.mono ?_; rintro e w' ⟨rfl, hw⟩; rw [hw]; clear hw w')
      | fail)
     exact bodyPost_ret (v := .int .i64 1) (by simp [results, Tryz.results37, go_sem]) rfl ⟨rfl, HR.out⟩
 · have eE : unlE a t = 1 := by unfold unlE; rw [if_pos (.inl ha)]
   have eS : unlS S a t now = S := by unfold unlS; rw [if_neg (by rw [eE]; decide)]
   have eM : unlM S M a t now = M := by unfold unlM; rw [if_neg (by rw [eE]; decide)]
   rw [eS, eM, eE]
   rw [decide_eq_false (show ¬ (0 ≤ a ∧ a < 10) from ha)] at hIs
   have HIS := Lib.hid hIs
   clear hIs hTr ha eE eS eM h hi hs hM
   go_enter Tryz.func37, Tryz.ntmps37
   go_wp2_with (first
    | (go_at_call 88; refine HIS.out.mono ?_; rintro e w' ⟨rfl, hw⟩; rw [hw]; clear hw w')
    | fail)
   exact bodyPost_ret (v := .int .i64 1) (by simp [results, Tryz.results37, go_sem]) rfl ⟨rfl, HR.out⟩
end
end
end Go.Proofs.YtbpemdihoabbcaaGreat
