/-
  Joined texts.
-/
import Derived.Test.YtbpemdihoabbcaaGreatMhh
import Derived.Conc.WalkWords
namespace Go.Proofs.YtbpemdihoabbcaaGreat
set_option linter.unusedVariables false
set_option linter.unusedSimpArgs false
set_option maxRecDepth 100000
set_option maxHeartbeats 8000000
section
open Go.RowKit Go.Maps Go.Shelf
attribute [local go_sem ↓] loadSt_V_hide loadSt_W_hide loadSt_T_hide storeT_hide in
theorem LvAt.Vote {g vb N : Nat} {S : Vs} {A : Acc} {M : Cls Int} {Zn : FP} {w : World} (h : LvAt g vb N S A M Zn w) (hv : VInv S) (hM : M.length < 10000) {a r : Int} (ha : (Lit.int .i64 a).wf = true) (hr : (Lit.int .i64 r).wf = true) (x : Bal) :
 Calls Tryz.prog 22 #[.pointer (some ⟨vb, 0, none⟩), .pointer (some ⟨g, 0, none⟩), .int .i64 a, .int .i64 r, .agg (balS.f x).toArray] w fun e w' => e = .returned (.int .i64 (voteE S A a r x)) ∧ LvTo g vb N (voteS S A a r x) A (voteM S A M a r x) Zn w w' := by
 obtain ⟨w1, hw1⟩ : ∃ w1, w1 = w.alloc (.cells (balS.f x).toArray 28) := ⟨_, rfl⟩
 have hb1 : Below w.heap.size w w1 := by rw [hw1]; exact (Below.refl _ w).alloc (Nat.le_refl _) _
 have hs1 : w1.heap.size = w.heap.size + 1 := by rw [hw1]; simp
 have hN := h.size
 obtain ⟨bx, hbx⟩ : ∃ bx, bx = w.heap.size := ⟨_, rfl⟩
 have hrx : w1.rangeAt bx 0 (balS.f x) := by rw [hw1, hbx]; exact rangeAt_whole (T := balS.T) (World.alloc_heap_new _ _)
 have hbxl : bx < w1.heap.size := by omega
 have hX : ∀ W, Below w1.heap.size w1 W → (loadSt_V (.pointer (some ⟨bx, 0, none⟩))).run Tryz.prog W = .ok (.agg (balS.f x).toArray) W := fun W hb => run_loadSt_V (rangeAt_block hrx (hb.block bx hbxl))
 have fin : ∀ W', Below w.heap.size w W' → ∀ E : Int, E ≠ 0 → voteE S A a r x = E → Ending.returned (.int .i64 E) = .returned (.int .i64 (voteE S A a r x)) ∧ LvTo g vb N (voteS S A a r x) A (voteM S A M a r x) Zn w W' := fun W' hb E h0 hE => by
  unfold voteS voteM
  rw [hE, if_neg h0, if_neg h0]
  exact ⟨rfl, LvTo.of_below h hb⟩
 have FIN := Lib.hid fin
 have lX := hX w1 (Below.refl _ _)
 have hIs : ∀ wx, Calls Tryz.prog 58 #[.agg (balS.f x).toArray] wx fun e w' => e = .returned (.bool (balOk x)) ∧ Below wx.heap.size wx w' := fun wx => conv_IsW x wx
 obtain ⟨F, FL, hst0⟩ := Stt.start h
 have hvo0 := hst0.vo
 have hld0 := hst0.ld
 have hbF : ¬ F bx ∧ ¬ FL bx := ⟨fun hf => by have := hvo0.lt hf; omega, fun hf => by have := hld0.lt hf; omega⟩
 have HBX := Lib.hid hbF
 by_cases hac : isAcc a
 · have hA : decide (0 ≤ a ∧ a < 10) = true := decide_eq_true hac
   cases hok : balOk x with
   | false =>
    have eE : voteE S A a r x = 1 := by unfold voteE; rw [if_pos (.inr hok)]
    rw [hok] at hIs
    have HA := Lib.hid hA
    have HI := Lib.hid hIs
    have H1 := Lib.hid (And.intro hb1 eE)
    have HW := Lib.hid hw1
    clear hA hIs hst0 hvo0 hld0 hbF eE h hv hM hac hok hX hrx hb1 fin
    go_enter Tryz.func22, Tryz.ntmps22
    go_upto_region 1 with fail
    rw [← HW.out, ← hbx]
    clear hw1 hs1 hbx
    go_wp2_with (first
     | (go_at_call 57; refine (bound_Account _ _).mono ?_; rw [HA.out]; rintro e w' ⟨rfl, hw⟩; rw [hw]; clear hw w')
     | (go_at_call 58; refine (HI.out _).mono ?_; rintro e w2 ⟨rfl, hb⟩; have K2 := Lib.hid hb; clear hb)
     | fail)
    exact bodyPost_ret (v := .int .i64 1) (by simp [results, Tryz.results22, go_sem]) rfl (FIN.out _ (H1.out.1.trans (K2.out.mono H1.out.1.size)) 1 (by decide) H1.out.2)
   | true =>
    rw [hok] at hIs
    have hvo := hvo0.below hb1
    have hld := hld0.below hb1
    have hp := fun W (hb : Below w1.heap.size w1 W) => (hvo.below hb).poll r
    by_cases hh : plHas S.P r
    · obtain ⟨k, rfl, hk, hst, hptr⟩ := plPtr_has (vb := vb) hh
      rw [hptr] at hp
      have hL := hv.lens hvo
      obtain ⟨gv, gd, gw, gp, htb, hgV, hgD, -⟩ := hvo.tables
      have htr := hv.t k hk
      obtain ⟨tr, htr0⟩ : ∃ tr, tr = (S.P k).tr := ⟨_, rfl⟩
      have wtr : (Lit.int .i64 tr).wf = true := wfS (by omega) (by omega)
      obtain ⟨y, hy⟩ : ∃ y, y = (cget S.V a k).getD balS.zero := ⟨_, rfl⟩
      obtain ⟨qv, hqv⟩ : ∃ qv, qv = (cget S.V a k).isSome := ⟨_, rfl⟩
      obtain ⟨dd, hdd⟩ : ∃ dd, dd = (cget S.D a tr).getD dlgS.zero := ⟨_, rfl⟩
      obtain ⟨qd, hqd⟩ : ∃ qd, qd = (cget S.D a tr).isSome := ⟨_, rfl⟩
      have hV : ∀ W, Below w1.heap.size w1 W → Calls Tryz.prog 59 #[.pointer (some ⟨gv, 0, none⟩), .int .i64 a, .int .i64 k] W fun e w' => e = .returned (.tuple #[.agg (balS.f y).toArray, .bool qv]) ∧ Below W.heap.size W w' := fun W hb => by rw [hy, hqv]; exact hgV W hb a k ha hr
      have hD : ∀ W, Below w1.heap.size w1 W → Calls Tryz.prog 49 #[.pointer (some ⟨gd, 0, none⟩), .int .i64 a, .int .i64 tr] W fun e w' => e = .returned (.tuple #[.agg #[.int .i64 dd.to, .int .i64 dd.l, .int .i64 dd.n], .bool qd]) ∧ Below W.heap.size W w' := fun W hb => by rw [hdd, hqd]; exact hgD W hb a tr ha wtr
      have hC : ∀ W, Below w1.heap.size w1 W → W.cell? ⟨vb, 72, none⟩ = some (.pointer (some ⟨gv, 0, none⟩)) ∧ W.cell? ⟨vb, 73, none⟩ = some (.pointer (some ⟨gd, 0, none⟩)) ∧ W.cell? ⟨vb, k * 6 + 1, none⟩ = some (.int .i64 tr) ∧ (loadSt_V (.pointer (some ⟨bx, 0, none⟩))).run Tryz.prog W = .ok (.agg (balS.f x).toArray) W := fun W hb => by
       obtain ⟨t1, t2, -, -⟩ := htb W hb
       exact ⟨t1, t2, by rw [htr0]; exact ((hvo.below hb).cells hk).2.1, hX W hb⟩
      obtain ⟨st, hst0⟩ : ∃ st, st = (S.P k).st := ⟨_, rfl⟩
      obtain ⟨fr, hfr⟩ : ∃ fr, fr = (A a.toNat).1 := ⟨_, rfl⟩
      obtain ⟨nb, hnb⟩ : ∃ nb, nb = (ballots S a tr).length := ⟨_, rfl⟩
      obtain ⟨le, hle⟩ : ∃ le, le = gotS S a tr := ⟨_, rfl⟩
      obtain ⟨cp, hcp⟩ : ∃ cp, cp = capB x := ⟨_, rfl⟩
      have hO : ∀ W, Below w1.heap.size w1 W → Calls Tryz.prog 55 #[.pointer (some ⟨vb, k * 6, none⟩)] W fun e w' => e = .returned (.bool (st == 1)) ∧ w' = W := fun W hb => by rw [hst0]; exact (hvo.below hb).open hk
      have hFr : ∀ W, Below w1.heap.size w1 W → Calls Tryz.prog 19 #[.pointer (some ⟨g, 0, none⟩), .int .i64 a] W fun e w' => e = .returned (.int .i64 fr) ∧ w' = W := fun W hb => by
       have := ledger_FreeX (hld.below hb) a
       rw [accOf, if_pos hac, ← hfr] at this
       exact this
      have hCt : ∀ W, Below w1.heap.size w1 W → Calls Tryz.prog 61 #[.pointer (some ⟨vb, 0, none⟩), .int .i64 a, .int .i64 tr] W fun e w' => e = .returned (.int .i64 (nb : Int)) ∧ Below W.heap.size W w' := fun W hb => by
       rw [hnb]; exact (hvo.below hb).count (by omega) ha (fun x hx => (hv.row a x hx).1) tr
      have hGt : ∀ W, Below w1.heap.size w1 W → Calls Tryz.prog 62 #[.pointer (some ⟨vb, 0, none⟩), .int .i64 a, .int .i64 tr] W fun e w' => e = .returned (.agg (wgtS.f le).toArray) ∧ Below W.heap.size W w' := fun W hb => by rw [hle]; exact (hvo.below hb).got ha wtr
      have hCp : ∀ W, Calls Tryz.prog 60 #[.agg (balS.f x).toArray] W fun e w' => e = .returned (.int .i64 cp) ∧ Below W.heap.size W w' := fun W => by rw [hcp]; exact cCap x hok W
      have eNat : ((k : Int)).toNat = k := Int.toNat_natCast k
      have v0 : voteE S A a k x = (if st ≠ 1 then 9 else if qd = true then 5 else if fr < cp then 6 else if qv = false ∧ 6 ≤ nb then 3 else 0) := by
       unfold voteE
       rw [if_neg (fun q => q.elim (fun q => q hac) (fun q => by rw [hok] at q; cases q)), if_neg (fun q => q hh), eNat, ← htr0, ← hst0, ← hqd, ← hfr, ← hcp, ← hqv, ← hnb]
      have hyok : qv = true → balOk y = true := fun q => by
       rw [hqv] at q
       obtain ⟨y', hy'⟩ := Option.isSome_iff_exists.1 q
       rw [hy, hy', Option.getD_some]
       exact (hv.v _ (hvo.srt.1.get.1 hy')).2.2
      have vT : voteT S a k x = ((if qv = true then (S.P k).t.sub (gainW y le) else (S.P k).t)).add (gainW x le) := by
       unfold voteT voteT0
       rw [eNat, ← htr0, ← hle]
       cases hc : cget S.V a k with
       | none => rw [hqv, hc]; rfl
       | some y' => rw [hqv, hc, hy, hc]; rfl
      have vS : voteE S A a k x = 0 → voteS S A a k x = { S with P := putP S.P k ((S.P k).withT (voteT S a k x)), V := cput S.V a k x } := fun q => by unfold voteS; rw [if_pos q, eNat]
      have vM : voteE S A a k x = 0 → voteM S A M a k x = raiseM M a tr cp := fun q => by unfold voteM; rw [if_pos q, eNat, ← htr0, ← hcp]
      have HO := Lib.hid hO
      have HFr := Lib.hid hFr
      have HCt := Lib.hid hCt
      have HGt := Lib.hid hGt
      have HCp := Lib.hid hCp
      have HE := Lib.hid (And.intro v0 (And.intro hyok (And.intro vT (And.intro vS vM))))
      have hnb2 : nb ≤ 120 := by rw [hnb]; exact Nat.le_trans (tbal_length _ _ _) (Nat.le_trans (row_length _ _) hL.1)
      have HNB := Lib.hid hnb2
      clear hO hFr hCt hGt hCp v0 hyok vT vS vM hst0 hfr hnb hle hcp eNat hnb2
      have HA := Lib.hid hA
      have HI := Lib.hid hIs
      have HP := Lib.hid hp
      have HV := Lib.hid hV
      have HD := Lib.hid hD
      have HC := Lib.hid hC
      have HW := Lib.hid hw1
      have HLV := Lib.hid (hst0.below hb1)
      have HB1 := Lib.hid (And.intro hb1 hs1)
      have HS := Lib.hid (And.intro htr0 (And.intro hy (And.intro hqv (And.intro hdd (And.intro hqd (And.intro hk (And.intro hst (And.intro hh hptr))))))))
      have HVI := Lib.hid (And.intro hv (And.intro hM (And.intro ha (And.intro hr (And.intro hac (And.intro hok (And.intro hL htr)))))))
      have HWT := Lib.hid wtr
      have HK := Lib.hid hk
      have HX := Lib.hid (And.intro hX (And.intro hrx hbxl))
      clear hA hIs hp hV hD hC hvo hld hst0 hvo0 hld0 hbF hb1 htr0 hy hqv hdd hqd hk hst hh hptr hv hM ha hr hac hok hL htr hX hrx htb hgV hgD wtr fin h
      have K0 := Lib.hid (Below.refl w1.heap.size w1)
      have mixed : Tryz.prog.follows .mixedOrders = true := by kernel_rfl
      obtain ⟨cv, -⟩ := HC.out _ K0.out
      go_enter Tryz.func22, Tryz.ntmps22
      go_upto_region 1 with fail
      rw [← HW.out, ← hbx]
      clear hw1 hs1 hbx hN hbxl
      go_upto_region 6 with (first
       | (go_at_call 57; refine (bound_Account _ _).mono ?_; rw [HA.out]; rintro e w' ⟨rfl, hw⟩; rw [hw]; clear hw w')
       | (go_at_call 58; refine (HI.out _).mono ?_; rintro e w2 ⟨rfl, hb⟩; have K2 := Lib.hid hb; clear hb; obtain ⟨cv2, -⟩ := HC.out _ K2.out)
       | (go_at_call 47; refine (HP.out _ K2.out).mono ?_; rintro e w' ⟨rfl, hw⟩; rw [hw]; clear hw w')
       | fail)
      go_upto_region 7 with (first
       | (go_at_call 59; refine (HV.out _ K2.out).mono ?_; rintro e w3 ⟨rfl, hb⟩; have K3 := Lib.hid (K2.out.trans (hb.mono K2.out.size)); clear hb)
       | (refine wpl_allocS (s := balS) rfl rfl rfl ?_)
       | (refine wpl_storeS (s := balS) (t := y) (b := w3.heap.size) _ _ rfl rfl rfl rfl rfl (World.alloc_heap_new w3 _) (zeroS balS) ?_; rw [newS])
       | fail)
      obtain ⟨yb, hyb⟩ : ∃ yb, yb = w3.heap.size := ⟨_, rfl⟩
      obtain ⟨w4, hw4⟩ : ∃ w4, w4 = w3.alloc (balS.obj y) := ⟨_, rfl⟩
      have hry : w4.rangeAt yb 0 (balS.f y) := by rw [hw4, hyb]; exact atS balS w3 y
      have hyl : yb < w4.heap.size := by rw [hw4, hyb]; simp
      rw [← hw4, ← hyb]
      have K4 : Hid (Below w1.heap.size w1 w4) := Lib.hid (by rw [hw4]; exact K3.out.alloc K3.out.size _)
      have hYr : ∀ W, Below w4.heap.size w4 W → (loadSt_V (.pointer (some ⟨yb, 0, none⟩))).run Tryz.prog W = .ok (.agg (balS.f y).toArray) W := fun W hb => run_loadSt_V (rangeAt_block hry (hb.block yb hyl))
      have HYR := Lib.hid (And.intro hry (And.intro (show w1.heap.size ≤ yb by rw [hyb]; exact K3.out.size) hyl))
      have HC2 := Lib.hid (show ∀ W, Below w4.heap.size w4 W → W.cell? ⟨vb, 73, none⟩ = some (.pointer (some ⟨gd, 0, none⟩)) ∧ W.cell? ⟨vb, k * 6 + 1, none⟩ = some (.int .i64 tr) from fun W hb => by
       obtain ⟨-, t2, t3, -⟩ := HC.out W (K4.out.trans (hb.mono K4.out.size))
       exact ⟨t2, t3⟩)
      have L4 := Lib.hid (show Below w4.heap.size w4 w4.drew from (Below.refl _ w4).drew)
      clear hw4 hyb hry hyl hYr cv2 cv lX
      have L4a := Lib.hid (show Below w4.heap.size w4 (w4.alloc (.cells #[.int .i64 0, .int .i64 0, .int .i64 0] 93)).drew from ((Below.refl _ w4).alloc (Nat.le_refl _) _).drew)
      have hst : ∀ W (hb : Below (w4.alloc (.cells #[.int .i64 0, .int .i64 0, .int .i64 0] 93)).drew.heap.size (w4.alloc (.cells #[.int .i64 0, .int .i64 0, .int .i64 0] 93)).drew W), W.cell? ⟨w4.heap.size, 0, none⟩ = some (.int .i64 0) ∧ W.cell? ⟨w4.heap.size, 1, none⟩ = some (.int .i64 0) ∧ W.cell? ⟨w4.heap.size, 2, none⟩ = some (.int .i64 0) ∧ (∀ i, W.frozen? ⟨w4.heap.size, i, none⟩ = false) ∧ ∀ u v s : Value, Below w4.heap.size w4 (((W.setCell ⟨w4.heap.size, 0, none⟩ u).setCell ⟨w4.heap.size, 1, none⟩ v).setCell ⟨w4.heap.size, 2, none⟩ s) := fun W hb => by
       have hB : W.heap[w4.heap.size]? = some (.cells #[.int .i64 0, .int .i64 0, .int .i64 0] 93 (0, 0)) := (hb.block w4.heap.size (by show _ < (w4.alloc _).heap.size; simp)).trans (World.alloc_heap_new w4 _)
       refine ⟨by rw [World.cell?, hB]; rfl, by rw [World.cell?, hB]; rfl, by rw [World.cell?, hB]; rfl, fun i => by simp [World.frozen?, hB], fun u v s => ?_⟩
       have h0 := L4a.out.trans (hb.mono L4a.out.size)
       exact ((h0.setCell (Nat.le_refl _) _).setCell (Nat.le_refl _) _).setCell (Nat.le_refl _) _
      have HST := Lib.hid hst
      clear hst
      go_cut [14, 15] (fun p14 p15 wx => (∃ b14, p14 = .pointer (some ⟨b14, 0, none⟩)) ∧ p15 = .bool qd ∧ Below w4.heap.size w4 wx)
      case first =>
       go_region_held3 (fun W => W.cell? ⟨vb, 73, none⟩ = some (.pointer (some ⟨gd, 0, none⟩)) ∧ W.cell? ⟨vb, k * 6 + 1, none⟩ = some (.int .i64 tr)) (first | exact HC2.out _ L4.out | exact HC2.out _ L4a.out | exact HC2.out _ L5.out | exact HC2.out _ (L5.out.alloc L5.out.size _) | exact HC2.out _ (L5s.out _ _ _)) (first
        | (go_at_call 49; with_reducible refine (HD.out w4.drew (K4.out.trans (L4.out.mono K4.out.size))).mono ?_; rintro e w5 ⟨rfl, hb⟩; have L5 := Lib.hid (L4.out.trans (hb.mono L4.out.size)); clear hb)
        | (go_at_call 49; with_reducible refine (HD.out _ (K4.out.trans (L4a.out.mono K4.out.size))).mono ?_; rintro e w5 ⟨rfl, hb⟩; obtain ⟨z0, z1, z2, zf, zs⟩ := HST.out _ hb; have f0 := zf 0; have f1 := zf 1; have f2 := zf 2; have L5s := Lib.hid zs; have L5 := Lib.hid (L4a.out.trans (hb.mono L4a.out.size)); clear hb zf zs)
        | fail)
       all_goals
        go_wp2_with fail
        go_meet
        first
         | exact ⟨⟨_, rfl⟩, rfl, L5.out.alloc L5.out.size _⟩
         | exact ⟨⟨_, rfl⟩, rfl, L5s.out _ _ _⟩
      case rest =>
       obtain ⟨⟨b14, rfl⟩, rfl, hb5⟩ := hcut
       have K5 := Lib.hid (K4.out.trans (hb5.mono K4.out.size))
       have L5 := Lib.hid hb5
       clear hb5
       have lX5 := (HC.out _ K5.out).2.2.2
       have v0 := HE.out.1
       by_cases q1 : st = 1
       · have q1' : (st == 1) = true := by simpa using q1
         rw [if_neg (fun q => q q1)] at v0
         clear q1
         cases qd with
         | true =>
          rw [if_pos rfl] at v0
          have hE := v0
          clear v0
          go_wp2_with (first
           | (go_at_call 55; refine (HO.out _ K5.out).mono ?_; rintro e wx ⟨rfl, hw⟩; rw [hw]; clear hw wx)
           | fail)
          have LV := K5
          exact bodyPost_ret (v := .int .i64 5) (by simp [results, Tryz.results22, go_sem]) rfl (FIN.out _ (HB1.out.1.trans (LV.out.mono HB1.out.1.size)) 5 (by decide) hE)
         | false =>
          rw [if_neg (by decide)] at v0
          by_cases q3 : fr < cp
          · rw [if_pos q3] at v0
            have q3' : cp > fr := q3
            have hE := v0
            clear v0
            go_wp2_with (first
             | (go_at_call 55; refine (HO.out _ K5.out).mono ?_; rintro e wx ⟨rfl, hw⟩; rw [hw]; clear hw wx)
             | (go_at_call 60; refine (HCp.out _).mono ?_; rintro e w6 ⟨rfl, hb⟩; have K6 := Lib.hid (K5.out.trans (hb.mono K5.out.size)); have L6 := Lib.hid (L5.out.trans (hb.mono L5.out.size)); clear hb)
             | (go_at_call 19; refine (HFr.out _ K6.out).mono ?_; rintro e wx ⟨rfl, hw⟩; rw [hw]; clear hw wx)
             | fail)
            have LV := K6
            exact bodyPost_ret (v := .int .i64 6) (by simp [results, Tryz.results22, go_sem]) rfl (FIN.out _ (HB1.out.1.trans (LV.out.mono HB1.out.1.size)) 6 (by decide) hE)
          · rw [if_neg q3] at v0
            have q3' : ¬ cp > fr := q3
            cases qv with
            | true =>
             rw [if_neg (fun q => by cases q.1)] at v0
             have HV0 := Lib.hid v0
             clear v0
             go_upto_region 16 with (first
              | (go_at_call 55; refine (HO.out _ K5.out).mono ?_; rintro e wx ⟨rfl, hw⟩; rw [hw]; clear hw wx)
              | (go_at_call 60; refine (HCp.out _).mono ?_; rintro e w6 ⟨rfl, hb⟩; have K6 := Lib.hid (K5.out.trans (hb.mono K5.out.size)); have L6 := Lib.hid (L5.out.trans (hb.mono L5.out.size)); clear hb)
              | (go_at_call 19; refine (HFr.out _ K6.out).mono ?_; rintro e wx ⟨rfl, hw⟩; rw [hw]; clear hw wx)
              | fail)
             have ct7 := (HC.out _ K6.out).2.2.1
             go_upto_region 17 with (first
              | (go_at_call 62; refine (HGt.out _ K6.out).mono ?_; rintro e w8 ⟨rfl, hb⟩; have L8 := Lib.hid (L6.out.trans (hb.mono L6.out.size)); clear hb)
              | (refine wpl_allocS (s := wgtS) rfl rfl rfl ?_)
              | (refine wpl_storeS (s := wgtS) (t := le) (b := w8.heap.size) _ _ rfl rfl rfl rfl rfl (World.alloc_heap_new w8 _) (zeroS wgtS) ?_; rw [newS])
              | fail)
             obtain ⟨lb, hlb⟩ : ∃ lb, lb = w8.heap.size := ⟨_, rfl⟩
             obtain ⟨w9, hw9⟩ : ∃ w9, w9 = w8.alloc (wgtS.obj le) := ⟨_, rfl⟩
             have hrl : w9.rangeAt lb 0 (wgtS.f le) := by rw [hw9, hlb]; exact atS wgtS w8 le
             have hb9 : Below w8.heap.size w8 w9 := by rw [hw9]; exact (Below.refl _ w8).alloc (Nat.le_refl _) _
             have hl9 : lb < w9.heap.size := by rw [hw9, hlb]; simp
             rw [← hw9, ← hlb]
             have hs0 := HLV.out
             have hs1 : Stt g vb N S A M F FL Zn w [(bx, balS.f x)] w1 := hs0.box HX.out.2.1 HBX.out HX.out.2.2
             have hs4 : Stt g vb N S A M F FL Zn w [(yb, balS.f y), (bx, balS.f x)] w4 := hs1.new HYR.out.1 K4.out HYR.out.2.1 HYR.out.2.2
             have hs9 := (hs4.below L8.out).new hrl hb9 (by omega) hl9
             have Q9 := Lib.hid (Sit.of hs9 k)
             clear hs0 hs1 hs4 hs9 hrl hb9 hl9 hw9 hlb ct7
             obtain ⟨t1, ht1⟩ : ∃ t1, t1 = (S.P k).t.sub (gainW y le) := ⟨_, rfl⟩
             obtain ⟨tt, htt⟩ : ∃ tt, tt = (S.P k).t := ⟨_, rfl⟩
             rw [← htt] at Q9 ht1
             have HT1 := Lib.hid (And.intro htt (show t1 = (S.P k).t.sub (gainW y le) by rw [ht1, htt]))
             have HT1b := Lib.hid ht1
             clear htt ht1
             go_upto_region 18 with fail
             have SLo := Lib.hid (show ∀ W u, Sit g vb N k S A M F FL Zn w [(lb, wgtS.f le), (yb, balS.f y), (bx, balS.f x)] u W → (loadSt_V (.pointer (some ⟨yb, 0, none⟩))).run Tryz.prog W = .ok (.agg (balS.f y).toArray) W ∧ (loadSt_W (.pointer (some ⟨lb, 0, none⟩))).run Tryz.prog W = .ok (.agg (wgtS.f le).toArray) W from fun W u h => ⟨h.loadV (by simp), h.loadW (by simp)⟩)
             have Q9d := Lib.hid (Q9.out.below (Below.refl _ w9).drew)
             go_cut [] (fun wx => Sit g vb N k S A M F FL Zn w [(lb, wgtS.f le), (yb, balS.f y), (bx, balS.f x)] t1 wx)
             case first =>
              refine startU (S := fun W => (loadSt_V (.pointer (some ⟨yb, 0, none⟩))).run Tryz.prog W = .ok (.agg (balS.f y).toArray) W ∧ (loadSt_W (.pointer (some ⟨lb, 0, none⟩))).run Tryz.prog W = .ok (.agg (wgtS.f le).toArray) W ∧ (loadSt_T (.pointer (some ⟨vb, k * 6 + 2, none⟩))).run Tryz.prog W = .ok (.agg (tlyS.f tt).toArray) W) (L := 11) (by kernel_rfl) ?_ (fun hHeld => ?_)
              · try dsimp only
                first | with_reducible exact ⟨(SLo.out _ _ Q11.out).1, (SLo.out _ _ Q11.out).2, (Sit.tally Q11.out HK.out).1⟩ | with_reducible exact ⟨(SLo.out _ _ Q10.out).1, (SLo.out _ _ Q10.out).2, (Sit.tally Q10.out HK.out).1⟩ | with_reducible exact ⟨(SLo.out _ _ Q9d.out).1, (SLo.out _ _ Q9d.out).2, (Sit.tally Q9d.out HK.out).1⟩
              refine takeU (i := 0) (v := ?_) rfl (by kernel_rfl) (fun _ _ _ h => h) (Or.inl ⟨by rfl, ?_⟩) (by assumption) ?_
              rotate_left
              · (intro w' hSw; (try dsimp only at hSw); go_simp; try with_reducible rfl)
              try walk_nrm
              refine takeU (i := 1) (v := ?_) rfl (by kernel_rfl) (fun _ _ _ h => h) (Or.inl ⟨by rfl, ?_⟩) (by assumption) ?_
              rotate_left
              · (intro w' hSw; (try dsimp only at hSw); go_simp; try with_reducible rfl)
              try walk_nrm
              refine takeU (i := 2) (v := ?_) rfl (by kernel_rfl) (fun _ _ _ h => h) (Or.inl ⟨by rfl, ?_⟩) (by assumption) ?_
              rotate_left
              · (intro w' hSw; (try dsimp only at hSw); go_simp; try with_reducible rfl)
              try walk_nrm
              refine takeU (i := 3) (v := ?_) rfl (by kernel_rfl) (fun _ _ _ h => h) (Or.inl ⟨by rfl, ?_⟩) (by assumption) ?_
              rotate_left
              · (intro w' hSw; (try dsimp only at hSw); go_simp; try with_reducible rfl)
              try walk_nrm
              refine takeU (i := 4) (v := ?_) rfl (by kernel_rfl) (fun _ _ _ h => h) (Or.inl ⟨by rfl, ?_⟩) (by assumption) ?_
              rotate_left
              · (intro w' hSw; (try dsimp only at hSw); go_simp; try with_reducible rfl)
              try walk_nrm
              refine takeU (i := 5) (v := ?_) rfl (by kernel_rfl) (fun _ _ _ h => h) (Or.inl ⟨by rfl, ?_⟩) (by assumption) ?_
              rotate_left
              · (intro w' hSw; (try dsimp only at hSw); go_simp; try with_reducible rfl)
              try walk_nrm
              refine takeU (i := 6) (v := ?_) rfl (by kernel_rfl) (fun _ _ _ h => h) (Or.inl ⟨by rfl, ?_⟩) (by assumption) ?_
              rotate_left
              · (intro w' hSw; (try dsimp only at hSw); go_simp; try with_reducible rfl)
              try walk_nrm
              refine readyU (rs := [7]) (by kernel_rfl) (by simp) ?_
              refine AllReadyU.cons rfl (fun K hK => ?_) AllReadyU.nil
              simp only [List.getElem_toArray, List.getElem_cons_zero, List.getElem_cons_succ]
              go_simp
              go_at_call 64; refine (cGain y le (HE.out.2.1 (by trivial)) _).mono ?_; rintro e w10 ⟨rfl, hb⟩; have Q10 := Lib.hid (Q9d.out.below hb); clear hb
              first | refine hK.out _ _ ?_ (fun hHeld => ?_) | (go_wp2_with fail; refine hK.out _ _ ?_ (fun hHeld => ?_))
              · try dsimp only
                first | with_reducible exact ⟨(SLo.out _ _ Q11.out).1, (SLo.out _ _ Q11.out).2, (Sit.tally Q11.out HK.out).1⟩ | with_reducible exact ⟨(SLo.out _ _ Q10.out).1, (SLo.out _ _ Q10.out).2, (Sit.tally Q10.out HK.out).1⟩ | with_reducible exact ⟨(SLo.out _ _ Q9d.out).1, (SLo.out _ _ Q9d.out).2, (Sit.tally Q9d.out HK.out).1⟩
              clear hK K
              try walk_nrm
              refine readyU (rs := [8]) (by kernel_rfl) (by simp) ?_
              refine AllReadyU.cons rfl (fun K hK => ?_) AllReadyU.nil
              simp only [List.getElem_toArray, List.getElem_cons_zero, List.getElem_cons_succ]
              go_simp
              go_at_call 63; refine (cSub tt (gainW y le) _).mono ?_; rw [← HT1b.out]; rintro e w11 ⟨rfl, hb⟩; have Q11 := Lib.hid (Q10.out.below hb); have rS11 := (Sit.tally Q11.out HK.out).2.1 t1; have Q12 := Lib.hid (Sit.setT Q11.out HK.out t1); clear hb
              first | refine hK.out _ _ ?_ (fun hHeld => ?_) | (go_wp2_with fail; refine hK.out _ _ ?_ (fun hHeld => ?_))
              · try dsimp only
                first | with_reducible exact ⟨(SLo.out _ _ Q11.out).1, (SLo.out _ _ Q11.out).2, (Sit.tally Q11.out HK.out).1⟩ | with_reducible exact ⟨(SLo.out _ _ Q10.out).1, (SLo.out _ _ Q10.out).2, (Sit.tally Q10.out HK.out).1⟩ | with_reducible exact ⟨(SLo.out _ _ Q9d.out).1, (SLo.out _ _ Q9d.out).2, (Sit.tally Q9d.out HK.out).1⟩
              clear hK K
              try walk_nrm
              refine takeU (i := 9) (v := ?_) rfl (by kernel_rfl) (fun _ _ _ h => h) (Or.inl ⟨by rfl, ?_⟩) (by assumption) ?_
              rotate_left
              · (intro w' hSw; (try dsimp only at hSw); go_simp; try with_reducible rfl)
              try walk_nrm
              refine takeU (i := 10) (v := ?_) rfl (by kernel_rfl) (fun _ _ _ h => h) (Or.inl ⟨by rfl, ?_⟩) (by assumption) ?_
              rotate_left
              · (intro w' hSw; (try dsimp only at hSw); go_simp; try with_reducible rfl)
              try walk_nrm
              refine readyU (rs := [11]) (by kernel_rfl) (by simp) ?_
              refine AllReadyU.last rfl (fun K hK => ?_)
              simp only [List.getElem_toArray, List.getElem_cons_zero, List.getElem_cons_succ]
              go_simp
              first | refine hK.out _ _ ?_ | (go_wp2_with fail; refine hK.out _ _ ?_)
              clear hK K
              try walk_nrm
              refine doneU (by kernel_rfl) ?_ _
              go_wp2_with fail
              go_meet
              exact Q12.out
             case rest =>
              have Q13 := Lib.hid hcut
              clear hcut
              obtain ⟨t2, ht2⟩ : ∃ t2, t2 = t1.add (gainW x le) := ⟨_, rfl⟩
              have HT2 := Lib.hid ht2
              clear ht2
              go_upto_region 19 with fail
              obtain ⟨wd, hwd⟩ : ∃ wd, wd = wc := ⟨_, rfl⟩
              rw [← hwd] at Q13 ⊢
              clear hwd
              have SLp := Lib.hid (show ∀ W u, Sit g vb N k S A M F FL Zn w [(lb, wgtS.f le), (yb, balS.f y), (bx, balS.f x)] u W → (loadSt_V (.pointer (some ⟨bx, 0, none⟩))).run Tryz.prog W = .ok (.agg (balS.f x).toArray) W ∧ (loadSt_W (.pointer (some ⟨lb, 0, none⟩))).run Tryz.prog W = .ok (.agg (wgtS.f le).toArray) W from fun W u h => ⟨h.loadV (by simp), h.loadW (by simp)⟩)
              have Q13d := Lib.hid (Q13.out.below (Below.refl _ wd).drew)
              go_cut [] (fun wx => Sit g vb N k S A M F FL Zn w [(lb, wgtS.f le), (yb, balS.f y), (bx, balS.f x)] t2 wx)
              case first =>
               refine startU (S := fun W => (loadSt_V (.pointer (some ⟨bx, 0, none⟩))).run Tryz.prog W = .ok (.agg (balS.f x).toArray) W ∧ (loadSt_W (.pointer (some ⟨lb, 0, none⟩))).run Tryz.prog W = .ok (.agg (wgtS.f le).toArray) W ∧ (loadSt_T (.pointer (some ⟨vb, k * 6 + 2, none⟩))).run Tryz.prog W = .ok (.agg (tlyS.f t1).toArray) W) (L := 12) (by kernel_rfl) ?_ (fun hHeld => ?_)
               · try dsimp only
                 first | with_reducible exact ⟨(SLp.out _ _ Q15.out).1, (SLp.out _ _ Q15.out).2, (Sit.tally Q15.out HK.out).1⟩ | with_reducible exact ⟨(SLp.out _ _ Q14.out).1, (SLp.out _ _ Q14.out).2, (Sit.tally Q14.out HK.out).1⟩ | with_reducible exact ⟨(SLp.out _ _ Q13d.out).1, (SLp.out _ _ Q13d.out).2, (Sit.tally Q13d.out HK.out).1⟩ | exact ⟨(SLp.out _ _ (Q14a.out _)).1, (SLp.out _ _ (Q14a.out _)).2, (Sit.tally (Q14a.out _) HK.out).1⟩
               refine takeU (i := 0) (v := ?_) rfl (by kernel_rfl) (fun _ _ _ h => h) (Or.inl ⟨by rfl, ?_⟩) (by assumption) ?_
               rotate_left
               · (intro w' hSw; (try dsimp only at hSw); go_simp; try with_reducible rfl)
               try walk_nrm
               refine takeU (i := 1) (v := ?_) rfl (by kernel_rfl) (fun _ _ _ h => h) (Or.inl ⟨by rfl, ?_⟩) (by assumption) ?_
               rotate_left
               · (intro w' hSw; (try dsimp only at hSw); go_simp; try with_reducible rfl)
               try walk_nrm
               refine takeU (i := 2) (v := ?_) rfl (by kernel_rfl) (fun _ _ _ h => h) (Or.inl ⟨by rfl, ?_⟩) (by assumption) ?_
               rotate_left
               · (intro w' hSw; (try dsimp only at hSw); go_simp; try with_reducible rfl)
               try walk_nrm
               refine takeU (i := 3) (v := ?_) rfl (by kernel_rfl) (fun _ _ _ h => h) (Or.inl ⟨by rfl, ?_⟩) (by assumption) ?_
               rotate_left
               · (intro w' hSw; (try dsimp only at hSw); go_simp; try with_reducible rfl)
               try walk_nrm
               refine takeU (i := 4) (v := ?_) rfl (by kernel_rfl) (fun _ _ _ h => h) (Or.inl ⟨by rfl, ?_⟩) (by assumption) ?_
               rotate_left
               · (intro w' hSw; (try dsimp only at hSw); go_simp; try with_reducible rfl)
               try walk_nrm
               refine takeU (i := 5) (v := ?_) rfl (by kernel_rfl) (fun _ _ _ h => h) (Or.inl ⟨by rfl, ?_⟩) (by assumption) ?_
               rotate_left
               · (intro w' hSw; (try dsimp only at hSw); go_simp; try with_reducible rfl)
               try walk_nrm
               refine takeU (i := 6) (v := ?_) rfl (by kernel_rfl) (fun _ _ _ h => h) (Or.inl ⟨by rfl, ?_⟩) (by assumption) ?_
               rotate_left
               · (intro w' hSw; (try dsimp only at hSw); go_simp; try with_reducible rfl)
               try walk_nrm
               refine readyU (rs := [7]) (by kernel_rfl) (by simp) ?_
               refine AllReadyU.cons rfl (fun K hK => ?_) AllReadyU.nil
               simp only [List.getElem_toArray, List.getElem_cons_zero, List.getElem_cons_succ]
               go_simp
               go_at_call 64; refine (cGain x le HVI.out.2.2.2.2.2.1 _).mono ?_; rintro e w14 ⟨rfl, hb⟩; have Q14 := Lib.hid (Q13d.out.below hb); have Q14a := Lib.hid (show ∀ o, Sit g vb N k S A M F FL Zn w [(lb, wgtS.f le), (yb, balS.f y), (bx, balS.f x)] t1 (w14.alloc o) from fun o => Q14.out.below ((Below.refl _ w14).alloc (Nat.le_refl _) _)); clear hb
               first | refine hK.out _ _ ?_ (fun hHeld => ?_) | (go_wp2_with fail; refine hK.out _ _ ?_ (fun hHeld => ?_))
               · try dsimp only
                 first | with_reducible exact ⟨(SLp.out _ _ Q15.out).1, (SLp.out _ _ Q15.out).2, (Sit.tally Q15.out HK.out).1⟩ | with_reducible exact ⟨(SLp.out _ _ Q14.out).1, (SLp.out _ _ Q14.out).2, (Sit.tally Q14.out HK.out).1⟩ | with_reducible exact ⟨(SLp.out _ _ Q13d.out).1, (SLp.out _ _ Q13d.out).2, (Sit.tally Q13d.out HK.out).1⟩ | exact ⟨(SLp.out _ _ (Q14a.out _)).1, (SLp.out _ _ (Q14a.out _)).2, (Sit.tally (Q14a.out _) HK.out).1⟩
               clear hK K
               try walk_nrm
               refine readyU (rs := [8]) (by kernel_rfl) (by simp) ?_
               refine AllReadyU.cons rfl (fun K hK => ?_) AllReadyU.nil
               simp only [List.getElem_toArray, List.getElem_cons_zero, List.getElem_cons_succ]
               go_simp
               first | refine hK.out _ _ ?_ (fun hHeld => ?_) | (go_wp2_with fail; refine hK.out _ _ ?_ (fun hHeld => ?_))
               · try dsimp only
                 first | with_reducible exact ⟨(SLp.out _ _ Q15.out).1, (SLp.out _ _ Q15.out).2, (Sit.tally Q15.out HK.out).1⟩ | with_reducible exact ⟨(SLp.out _ _ Q14.out).1, (SLp.out _ _ Q14.out).2, (Sit.tally Q14.out HK.out).1⟩ | with_reducible exact ⟨(SLp.out _ _ Q13d.out).1, (SLp.out _ _ Q13d.out).2, (Sit.tally Q13d.out HK.out).1⟩ | exact ⟨(SLp.out _ _ (Q14a.out _)).1, (SLp.out _ _ (Q14a.out _)).2, (Sit.tally (Q14a.out _) HK.out).1⟩
               clear hK K
               try walk_nrm
               refine readyU (rs := [9]) (by kernel_rfl) (by simp) ?_
               refine AllReadyU.cons rfl (fun K hK => ?_) AllReadyU.nil
               simp only [List.getElem_toArray, List.getElem_cons_zero, List.getElem_cons_succ]
               go_simp
               go_at_call 65; refine (cAdd t1 (gainW x le) (RdT.one w14 _ _ _ _ rfl)).mono ?_; rw [← HT2.out]; rintro e w15 ⟨rfl, hb⟩; have Q15 := Lib.hid ((Q14a.out _).below hb); have rS15 := (Sit.tally Q15.out HK.out).2.1 t2; have Q16 := Lib.hid (Sit.setT Q15.out HK.out t2); clear hb
               first | refine hK.out _ _ ?_ (fun hHeld => ?_) | (go_wp2_with fail; refine hK.out _ _ ?_ (fun hHeld => ?_))
               · try dsimp only
                 first | with_reducible exact ⟨(SLp.out _ _ Q15.out).1, (SLp.out _ _ Q15.out).2, (Sit.tally Q15.out HK.out).1⟩ | with_reducible exact ⟨(SLp.out _ _ Q14.out).1, (SLp.out _ _ Q14.out).2, (Sit.tally Q14.out HK.out).1⟩ | with_reducible exact ⟨(SLp.out _ _ Q13d.out).1, (SLp.out _ _ Q13d.out).2, (Sit.tally Q13d.out HK.out).1⟩ | exact ⟨(SLp.out _ _ (Q14a.out _)).1, (SLp.out _ _ (Q14a.out _)).2, (Sit.tally (Q14a.out _) HK.out).1⟩
               clear hK K
               try walk_nrm
               refine takeU (i := 10) (v := ?_) rfl (by kernel_rfl) (fun _ _ _ h => h) (Or.inl ⟨by rfl, ?_⟩) (by assumption) ?_
               rotate_left
               · (intro w' hSw; (try dsimp only at hSw); go_simp; try with_reducible rfl)
               try walk_nrm
               refine takeU (i := 11) (v := ?_) rfl (by kernel_rfl) (fun _ _ _ h => h) (Or.inl ⟨by rfl, ?_⟩) (by assumption) ?_
               rotate_left
               · (intro w' hSw; (try dsimp only at hSw); go_simp; try with_reducible rfl)
               try walk_nrm
               refine readyU (rs := [12]) (by kernel_rfl) (by simp) ?_
               refine AllReadyU.last rfl (fun K hK => ?_)
               simp only [List.getElem_toArray, List.getElem_cons_zero, List.getElem_cons_succ]
               go_simp
               first | refine hK.out _ _ ?_ | (go_wp2_with fail; refine hK.out _ _ ?_)
               clear hK K
               try walk_nrm
               refine doneU (by kernel_rfl) ?_ _
               go_wp2_with fail
               go_meet
               exact Q16.out
              case rest =>
               have Q17 := Lib.hid hcut
               clear hcut
               have eT : voteT S a k x = t2 := by rw [HE.out.2.2.1, HT2.out, HT1.out.2]; rfl
               have vS := HE.out.2.2.2.1 HV0.out
               have vM := HE.out.2.2.2.2 HV0.out
               rw [eT] at vS
               have HFIN := Lib.hid (And.intro vS vM)
               clear eT vS vM
               go_upto_region 20 with fail
               obtain ⟨we, hwe⟩ : ∃ we, we = wc := ⟨_, rfl⟩
               rw [← hwe] at Q17 ⊢
               clear hwe
               have Q17d := Lib.hid (Q17.out.below (Below.refl _ we).drew)
               obtain ⟨gv2, gd2, gw2, gp2, htb2, -, -, hSV, -⟩ := Q17d.out.vo.tables
               obtain ⟨t72, -⟩ := htb2 we.drew (Below.refl _ _)
               have lx20 := Q17d.out.loadV (b := bx) (x := x) (by simp)
               have hset := hSV we.drew (Below.refl _ _) a k x (show S.V.length ≤ 1000000 by have := HVI.out.2.2.2.2.2.2.1.1; omega) HVI.out.2.2.1 HVI.out.2.2.2.1
               have HSET := Lib.hid hset
               clear htb2 hSV hset
               go_still_tail 7, (by kernel_rfl)
               change wpList _ _ _ _ _ we.drew
               go_upto_region 21 with (first
                | (go_at_call 66; refine HSET.out.mono ?_; rintro e w17 ⟨rfl, hto⟩; have H17 := Lib.hid hto; clear hto)
                | fail)
               obtain ⟨F2, hq2⟩ := Q17d.out.toV H17.out
               have Q18 := Lib.hid hq2
               clear hq2
               have SLr := Lib.hid (show ∀ (M' : Cls Int) (FL' : FP) W, Stt g vb N { S with P := putP S.P k ((S.P k).withT t2), V := cput S.V a k x } A M' F2 FL' Zn w [(lb, wgtS.f le), (yb, balS.f y), (bx, balS.f x)] W → W.cell? ⟨vb, k * 6 + 1, none⟩ = some (.int .i64 tr) ∧ (loadSt_V (.pointer (some ⟨bx, 0, none⟩))).run Tryz.prog W = .ok (.agg (balS.f x).toArray) W from fun M' FL' W h => by
                have hc := (h.vo.cells HK.out).2.1
                have hc : W.cell? ⟨vb, k * 6 + 1, none⟩ = some (.int .i64 (putP S.P k ((S.P k).withT t2) k).tr) := hc
                rw [putP_same, show ((S.P k).withT t2).tr = (S.P k).tr from rfl, ← HS.out.1] at hc
                exact ⟨hc, h.loadV (by simp)⟩)
               have Q18d := Lib.hid (Q18.out.below (Below.refl _ w17).drew)
               go_region_held3 (fun W => W.cell? ⟨vb, k * 6 + 1, none⟩ = some (.int .i64 tr) ∧ (loadSt_V (.pointer (some ⟨bx, 0, none⟩))).run Tryz.prog W = .ok (.agg (balS.f x).toArray) W) (first | exact SLr.out _ _ _ Q18d.out | exact SLr.out _ _ _ Q19.out | exact SLr.out _ _ _ Q20.out) (first
                | (go_at_call 60; refine (HCp.out _).mono ?_; rintro e w18 ⟨rfl, hb⟩; have Q19 := Lib.hid (Q18d.out.below hb); clear hb)
                | (go_at_call 67; refine (raise_X Q19.out.ld HVI.out.2.1 HVI.out.2.2.2.2.1 HVI.out.2.2.1 HWT.out cp).mono ?_; rintro e w19 ⟨rfl, ht⟩; obtain ⟨FL3, hq3⟩ := Q19.out.toL ht; have Q20 := Lib.hid hq3; clear ht hq3)
                | fail)
               all_goals
                go_wp2_with fail
                refine bodyPost_ret (v := .int .i64 0) (by simp [results, Tryz.results22, go_sem]) rfl ⟨by rw [HV0.out], ?_⟩
                rw [HFIN.out.1, HFIN.out.2]
                exact Q20.out.to
            | false =>
             have HQV := Lib.hid v0
             by_cases q4 : 6 ≤ nb
             · rw [if_pos ⟨rfl, q4⟩] at v0
               have q4' : ((nb : Int) ≥ 6) := by omega
               have hE := v0
               clear v0
               have ct6 : ∀ W, Below w1.heap.size w1 W → W.cell? ⟨vb, k * 6 + 1, none⟩ = some (.int .i64 tr) := fun W hb => (HC.out W hb).2.2.1
               have CT := Lib.hid ct6
               clear ct6
               go_wp2_with (first
                | (go_at_call 55; refine (HO.out _ K5.out).mono ?_; rintro e wx ⟨rfl, hw⟩; rw [hw]; clear hw wx)
                | (go_at_call 60; refine (HCp.out _).mono ?_; rintro e w6 ⟨rfl, hb⟩; have K6 := Lib.hid (K5.out.trans (hb.mono K5.out.size)); have L6 := Lib.hid (L5.out.trans (hb.mono L5.out.size)); have ct6 := CT.out _ K6.out; clear hb)
                | (go_at_call 19; refine (HFr.out _ K6.out).mono ?_; rintro e wx ⟨rfl, hw⟩; rw [hw]; clear hw wx)
                | (go_at_call 61; refine (HCt.out _ K6.out).mono ?_; rintro e w7 ⟨rfl, hb⟩; have K7 := Lib.hid (K6.out.trans (hb.mono K6.out.size)); have L7 := Lib.hid (L6.out.trans (hb.mono L6.out.size)); clear hb)
                | fail)
               have LV := K7
               exact bodyPost_ret (v := .int .i64 3) (by simp [results, Tryz.results22, go_sem]) rfl (FIN.out _ (HB1.out.1.trans (LV.out.mono HB1.out.1.size)) 3 (by decide) hE)
             · rw [if_neg (fun q => q4 q.2)] at v0
               have q4' : ¬ ((nb : Int) ≥ 6) := by omega
               have HV0 := Lib.hid v0
               clear v0 q4
               have ct6 : ∀ W, Below w1.heap.size w1 W → W.cell? ⟨vb, k * 6 + 1, none⟩ = some (.int .i64 tr) := fun W hb => (HC.out W hb).2.2.1
               have CT := Lib.hid ct6
               clear ct6
               go_upto_region 16 with (first
                | (go_at_call 55; refine (HO.out _ K5.out).mono ?_; rintro e wx ⟨rfl, hw⟩; rw [hw]; clear hw wx)
                | (go_at_call 60; refine (HCp.out _).mono ?_; rintro e w6 ⟨rfl, hb⟩; have K6 := Lib.hid (K5.out.trans (hb.mono K5.out.size)); have L6 := Lib.hid (L5.out.trans (hb.mono L5.out.size)); have ct6 := CT.out _ K6.out; clear hb)
                | (go_at_call 19; refine (HFr.out _ K6.out).mono ?_; rintro e wx ⟨rfl, hw⟩; rw [hw]; clear hw wx)
                | (go_at_call 61; refine (HCt.out _ K6.out).mono ?_; rintro e w7 ⟨rfl, hb⟩; have K7 := Lib.hid (K6.out.trans (hb.mono K6.out.size)); have L7 := Lib.hid (L6.out.trans (hb.mono L6.out.size)); clear hb)
                | fail)
               have ct7 := (HC.out _ K7.out).2.2.1
               go_upto_region 17 with (first
                | (go_at_call 62; refine (HGt.out _ K7.out).mono ?_; rintro e w8 ⟨rfl, hb⟩; have L8 := Lib.hid (L7.out.trans (hb.mono L7.out.size)); clear hb)
                | (refine wpl_allocS (s := wgtS) rfl rfl rfl ?_)
                | (refine wpl_storeS (s := wgtS) (t := le) (b := w8.heap.size) _ _ rfl rfl rfl rfl rfl (World.alloc_heap_new w8 _) (zeroS wgtS) ?_; rw [newS])
                | fail)
               obtain ⟨lb, hlb⟩ : ∃ lb, lb = w8.heap.size := ⟨_, rfl⟩
               obtain ⟨w9, hw9⟩ : ∃ w9, w9 = w8.alloc (wgtS.obj le) := ⟨_, rfl⟩
               have hrl : w9.rangeAt lb 0 (wgtS.f le) := by rw [hw9, hlb]; exact atS wgtS w8 le
               have hb9 : Below w8.heap.size w8 w9 := by rw [hw9]; exact (Below.refl _ w8).alloc (Nat.le_refl _) _
               have hl9 : lb < w9.heap.size := by rw [hw9, hlb]; simp
               rw [← hw9, ← hlb]
               have hs0 := HLV.out
               have hs1 : Stt g vb N S A M F FL Zn w [(bx, balS.f x)] w1 := hs0.box HX.out.2.1 HBX.out HX.out.2.2
               have hs4 : Stt g vb N S A M F FL Zn w [(yb, balS.f y), (bx, balS.f x)] w4 := hs1.new HYR.out.1 K4.out HYR.out.2.1 HYR.out.2.2
               have hs9 := (hs4.below L8.out).new hrl hb9 (by omega) hl9
               have Q9 := Lib.hid (Sit.of hs9 k)
               clear hs0 hs1 hs4 hs9 hrl hb9 hl9 hw9 hlb ct7
               obtain ⟨t1, ht1⟩ : ∃ t1, t1 = (S.P k).t := ⟨_, rfl⟩
               rw [← ht1] at Q9
               have HT1 := Lib.hid (And.intro ht1 ht1)
               clear ht1
               have Q13 := Q9
               obtain ⟨t2, ht2⟩ : ∃ t2, t2 = t1.add (gainW x le) := ⟨_, rfl⟩
               have HT2 := Lib.hid ht2
               clear ht2
               go_upto_region 19 with fail
               obtain ⟨wd, hwd⟩ : ∃ wd, wd = w9 := ⟨_, rfl⟩
               rw [← hwd] at Q13 ⊢
               clear hwd
               have SLp := Lib.hid (show ∀ W u, Sit g vb N k S A M F FL Zn w [(lb, wgtS.f le), (yb, balS.f y), (bx, balS.f x)] u W → (loadSt_V (.pointer (some ⟨bx, 0, none⟩))).run Tryz.prog W = .ok (.agg (balS.f x).toArray) W ∧ (loadSt_W (.pointer (some ⟨lb, 0, none⟩))).run Tryz.prog W = .ok (.agg (wgtS.f le).toArray) W from fun W u h => ⟨h.loadV (by simp), h.loadW (by simp)⟩)
               have Q13d := Lib.hid (Q13.out.below (Below.refl _ wd).drew)
               go_cut [] (fun wx => Sit g vb N k S A M F FL Zn w [(lb, wgtS.f le), (yb, balS.f y), (bx, balS.f x)] t2 wx)
               case first =>
                refine startU (S := fun W => (loadSt_V (.pointer (some ⟨bx, 0, none⟩))).run Tryz.prog W = .ok (.agg (balS.f x).toArray) W ∧ (loadSt_W (.pointer (some ⟨lb, 0, none⟩))).run Tryz.prog W = .ok (.agg (wgtS.f le).toArray) W ∧ (loadSt_T (.pointer (some ⟨vb, k * 6 + 2, none⟩))).run Tryz.prog W = .ok (.agg (tlyS.f t1).toArray) W) (L := 12) (by kernel_rfl) ?_ (fun hHeld => ?_)
                · try dsimp only
                  first | with_reducible exact ⟨(SLp.out _ _ Q15.out).1, (SLp.out _ _ Q15.out).2, (Sit.tally Q15.out HK.out).1⟩ | with_reducible exact ⟨(SLp.out _ _ Q14.out).1, (SLp.out _ _ Q14.out).2, (Sit.tally Q14.out HK.out).1⟩ | with_reducible exact ⟨(SLp.out _ _ Q13d.out).1, (SLp.out _ _ Q13d.out).2, (Sit.tally Q13d.out HK.out).1⟩ | exact ⟨(SLp.out _ _ (Q14a.out _)).1, (SLp.out _ _ (Q14a.out _)).2, (Sit.tally (Q14a.out _) HK.out).1⟩
                refine takeU (i := 0) (v := ?_) rfl (by kernel_rfl) (fun _ _ _ h => h) (Or.inl ⟨by rfl, ?_⟩) (by assumption) ?_
                rotate_left
                · (intro w' hSw; (try dsimp only at hSw); go_simp; try with_reducible rfl)
                try walk_nrm
                refine takeU (i := 1) (v := ?_) rfl (by kernel_rfl) (fun _ _ _ h => h) (Or.inl ⟨by rfl, ?_⟩) (by assumption) ?_
                rotate_left
                · (intro w' hSw; (try dsimp only at hSw); go_simp; try with_reducible rfl)
                try walk_nrm
                refine takeU (i := 2) (v := ?_) rfl (by kernel_rfl) (fun _ _ _ h => h) (Or.inl ⟨by rfl, ?_⟩) (by assumption) ?_
                rotate_left
                · (intro w' hSw; (try dsimp only at hSw); go_simp; try with_reducible rfl)
                try walk_nrm
                refine takeU (i := 3) (v := ?_) rfl (by kernel_rfl) (fun _ _ _ h => h) (Or.inl ⟨by rfl, ?_⟩) (by assumption) ?_
                rotate_left
                · (intro w' hSw; (try dsimp only at hSw); go_simp; try with_reducible rfl)
                try walk_nrm
                refine takeU (i := 4) (v := ?_) rfl (by kernel_rfl) (fun _ _ _ h => h) (Or.inl ⟨by rfl, ?_⟩) (by assumption) ?_
                rotate_left
                · (intro w' hSw; (try dsimp only at hSw); go_simp; try with_reducible rfl)
                try walk_nrm
                refine takeU (i := 5) (v := ?_) rfl (by kernel_rfl) (fun _ _ _ h => h) (Or.inl ⟨by rfl, ?_⟩) (by assumption) ?_
                rotate_left
                · (intro w' hSw; (try dsimp only at hSw); go_simp; try with_reducible rfl)
                try walk_nrm
                refine takeU (i := 6) (v := ?_) rfl (by kernel_rfl) (fun _ _ _ h => h) (Or.inl ⟨by rfl, ?_⟩) (by assumption) ?_
                rotate_left
                · (intro w' hSw; (try dsimp only at hSw); go_simp; try with_reducible rfl)
                try walk_nrm
                refine readyU (rs := [7]) (by kernel_rfl) (by simp) ?_
                refine AllReadyU.cons rfl (fun K hK => ?_) AllReadyU.nil
                simp only [List.getElem_toArray, List.getElem_cons_zero, List.getElem_cons_succ]
                go_simp
                go_at_call 64; refine (cGain x le HVI.out.2.2.2.2.2.1 _).mono ?_; rintro e w14 ⟨rfl, hb⟩; have Q14 := Lib.hid (Q13d.out.below hb); have Q14a := Lib.hid (show ∀ o, Sit g vb N k S A M F FL Zn w [(lb, wgtS.f le), (yb, balS.f y), (bx, balS.f x)] t1 (w14.alloc o) from fun o => Q14.out.below ((Below.refl _ w14).alloc (Nat.le_refl _) _)); clear hb
                first | refine hK.out _ _ ?_ (fun hHeld => ?_) | (go_wp2_with fail; refine hK.out _ _ ?_ (fun hHeld => ?_))
                · try dsimp only
                  first | with_reducible exact ⟨(SLp.out _ _ Q15.out).1, (SLp.out _ _ Q15.out).2, (Sit.tally Q15.out HK.out).1⟩ | with_reducible exact ⟨(SLp.out _ _ Q14.out).1, (SLp.out _ _ Q14.out).2, (Sit.tally Q14.out HK.out).1⟩ | with_reducible exact ⟨(SLp.out _ _ Q13d.out).1, (SLp.out _ _ Q13d.out).2, (Sit.tally Q13d.out HK.out).1⟩ | exact ⟨(SLp.out _ _ (Q14a.out _)).1, (SLp.out _ _ (Q14a.out _)).2, (Sit.tally (Q14a.out _) HK.out).1⟩
                clear hK K
                try walk_nrm
                refine readyU (rs := [8]) (by kernel_rfl) (by simp) ?_
                refine AllReadyU.cons rfl (fun K hK => ?_) AllReadyU.nil
                simp only [List.getElem_toArray, List.getElem_cons_zero, List.getElem_cons_succ]
                go_simp
                first | refine hK.out _ _ ?_ (fun hHeld => ?_) | (go_wp2_with fail; refine hK.out _ _ ?_ (fun hHeld => ?_))
                · try dsimp only
                  first | with_reducible exact ⟨(SLp.out _ _ Q15.out).1, (SLp.out _ _ Q15.out).2, (Sit.tally Q15.out HK.out).1⟩ | with_reducible exact ⟨(SLp.out _ _ Q14.out).1, (SLp.out _ _ Q14.out).2, (Sit.tally Q14.out HK.out).1⟩ | with_reducible exact ⟨(SLp.out _ _ Q13d.out).1, (SLp.out _ _ Q13d.out).2, (Sit.tally Q13d.out HK.out).1⟩ | exact ⟨(SLp.out _ _ (Q14a.out _)).1, (SLp.out _ _ (Q14a.out _)).2, (Sit.tally (Q14a.out _) HK.out).1⟩
                clear hK K
                try walk_nrm
                refine readyU (rs := [9]) (by kernel_rfl) (by simp) ?_
                refine AllReadyU.cons rfl (fun K hK => ?_) AllReadyU.nil
                simp only [List.getElem_toArray, List.getElem_cons_zero, List.getElem_cons_succ]
                go_simp
                go_at_call 65; refine (cAdd t1 (gainW x le) (RdT.one w14 _ _ _ _ rfl)).mono ?_; rw [← HT2.out]; rintro e w15 ⟨rfl, hb⟩; have Q15 := Lib.hid ((Q14a.out _).below hb); have rS15 := (Sit.tally Q15.out HK.out).2.1 t2; have Q16 := Lib.hid (Sit.setT Q15.out HK.out t2); clear hb
                first | refine hK.out _ _ ?_ (fun hHeld => ?_) | (go_wp2_with fail; refine hK.out _ _ ?_ (fun hHeld => ?_))
                · try dsimp only
                  first | with_reducible exact ⟨(SLp.out _ _ Q15.out).1, (SLp.out _ _ Q15.out).2, (Sit.tally Q15.out HK.out).1⟩ | with_reducible exact ⟨(SLp.out _ _ Q14.out).1, (SLp.out _ _ Q14.out).2, (Sit.tally Q14.out HK.out).1⟩ | with_reducible exact ⟨(SLp.out _ _ Q13d.out).1, (SLp.out _ _ Q13d.out).2, (Sit.tally Q13d.out HK.out).1⟩ | exact ⟨(SLp.out _ _ (Q14a.out _)).1, (SLp.out _ _ (Q14a.out _)).2, (Sit.tally (Q14a.out _) HK.out).1⟩
                clear hK K
                try walk_nrm
                refine takeU (i := 10) (v := ?_) rfl (by kernel_rfl) (fun _ _ _ h => h) (Or.inl ⟨by rfl, ?_⟩) (by assumption) ?_
                rotate_left
                · (intro w' hSw; (try dsimp only at hSw); go_simp; try with_reducible rfl)
                try walk_nrm
                refine takeU (i := 11) (v := ?_) rfl (by kernel_rfl) (fun _ _ _ h => h) (Or.inl ⟨by rfl, ?_⟩) (by assumption) ?_
                rotate_left
                · (intro w' hSw; (try dsimp only at hSw); go_simp; try with_reducible rfl)
                try walk_nrm
                refine readyU (rs := [12]) (by kernel_rfl) (by simp) ?_
                refine AllReadyU.last rfl (fun K hK => ?_)
                simp only [List.getElem_toArray, List.getElem_cons_zero, List.getElem_cons_succ]
                go_simp
                first | refine hK.out _ _ ?_ | (go_wp2_with fail; refine hK.out _ _ ?_)
                clear hK K
                try walk_nrm
                refine doneU (by kernel_rfl) ?_ _
                go_wp2_with fail
                go_meet
                exact Q16.out
               case rest =>
                have Q17 := Lib.hid hcut
                clear hcut
                have eT : voteT S a k x = t2 := by rw [HE.out.2.2.1, HT2.out, HT1.out.2]; rfl
                have vS := HE.out.2.2.2.1 HV0.out
                have vM := HE.out.2.2.2.2 HV0.out
                rw [eT] at vS
                have HFIN := Lib.hid (And.intro vS vM)
                clear eT vS vM
                go_upto_region 20 with fail
                obtain ⟨we, hwe⟩ : ∃ we, we = wc := ⟨_, rfl⟩
                rw [← hwe] at Q17 ⊢
                clear hwe
                have Q17d := Lib.hid (Q17.out.below (Below.refl _ we).drew)
                obtain ⟨gv2, gd2, gw2, gp2, htb2, -, -, hSV, -⟩ := Q17d.out.vo.tables
                obtain ⟨t72, -⟩ := htb2 we.drew (Below.refl _ _)
                have lx20 := Q17d.out.loadV (b := bx) (x := x) (by simp)
                have hset := hSV we.drew (Below.refl _ _) a k x (show S.V.length ≤ 1000000 by have := HVI.out.2.2.2.2.2.2.1.1; omega) HVI.out.2.2.1 HVI.out.2.2.2.1
                have HSET := Lib.hid hset
                clear htb2 hSV hset
                go_still_tail 7, (by kernel_rfl)
                change wpList _ _ _ _ _ we.drew
                go_upto_region 21 with (first
                 | (go_at_call 66; refine HSET.out.mono ?_; rintro e w17 ⟨rfl, hto⟩; have H17 := Lib.hid hto; clear hto)
                 | fail)
                obtain ⟨F2, hq2⟩ := Q17d.out.toV H17.out
                have Q18 := Lib.hid hq2
                clear hq2
                have SLr := Lib.hid (show ∀ (M' : Cls Int) (FL' : FP) W, Stt g vb N { S with P := putP S.P k ((S.P k).withT t2), V := cput S.V a k x } A M' F2 FL' Zn w [(lb, wgtS.f le), (yb, balS.f y), (bx, balS.f x)] W → W.cell? ⟨vb, k * 6 + 1, none⟩ = some (.int .i64 tr) ∧ (loadSt_V (.pointer (some ⟨bx, 0, none⟩))).run Tryz.prog W = .ok (.agg (balS.f x).toArray) W from fun M' FL' W h => by
                 have hc := (h.vo.cells HK.out).2.1
                 have hc : W.cell? ⟨vb, k * 6 + 1, none⟩ = some (.int .i64 (putP S.P k ((S.P k).withT t2) k).tr) := hc
                 rw [putP_same, show ((S.P k).withT t2).tr = (S.P k).tr from rfl, ← HS.out.1] at hc
                 exact ⟨hc, h.loadV (by simp)⟩)
                have Q18d := Lib.hid (Q18.out.below (Below.refl _ w17).drew)
                go_region_held3 (fun W => W.cell? ⟨vb, k * 6 + 1, none⟩ = some (.int .i64 tr) ∧ (loadSt_V (.pointer (some ⟨bx, 0, none⟩))).run Tryz.prog W = .ok (.agg (balS.f x).toArray) W) (first | exact SLr.out _ _ _ Q18d.out | exact SLr.out _ _ _ Q19.out | exact SLr.out _ _ _ Q20.out) (first
                 | (go_at_call 60; refine (HCp.out _).mono ?_; rintro e w18 ⟨rfl, hb⟩; have Q19 := Lib.hid (Q18d.out.below hb); clear hb)
                 | (go_at_call 67; refine (raise_X Q19.out.ld HVI.out.2.1 HVI.out.2.2.2.2.1 HVI.out.2.2.1 HWT.out cp).mono ?_; rintro e w19 ⟨rfl, ht⟩; obtain ⟨FL3, hq3⟩ := Q19.out.toL ht; have Q20 := Lib.hid hq3; clear ht hq3)
                 | fail)
                all_goals
                 go_wp2_with fail
                 refine bodyPost_ret (v := .int .i64 0) (by simp [results, Tryz.results22, go_sem]) rfl ⟨by rw [HV0.out], ?_⟩
                 rw [HFIN.out.1, HFIN.out.2]
                 exact Q20.out.to
       · have q1' : (st == 1) = false := by simpa using q1
         rw [if_pos q1] at v0
         have hE := v0
         clear v0 q1
         go_wp2_with (first
          | (go_at_call 55; refine (HO.out _ K5.out).mono ?_; rintro e wx ⟨rfl, hw⟩; rw [hw]; clear hw wx)
          | fail)
         have LV := K5
         exact bodyPost_ret (v := .int .i64 9) (by simp [results, Tryz.results22, go_sem]) rfl (FIN.out _ (HB1.out.1.trans (LV.out.mono HB1.out.1.size)) 9 (by decide) hE)
    · have hp := fun W hb => hp W hb
      rw [plPtr_none hh] at hp
      have eE : voteE S A a r x = 4 := by unfold voteE; rw [if_neg (fun q => q.elim (fun q => q hac) (fun q => by rw [hok] at q; cases q)), if_pos hh]
      have HA := Lib.hid hA
      have HI := Lib.hid hIs
      have HP := Lib.hid hp
      have H1 := Lib.hid (And.intro hb1 eE)
      have HW := Lib.hid hw1
      clear hA hIs hp eE hst0 hvo0 hld0 hbF h hv hM hac hok hX hrx hb1 fin hh hvo hld
      go_enter Tryz.func22, Tryz.ntmps22
      go_upto_region 1 with fail
      rw [← HW.out, ← hbx]
      clear hw1 hs1 hbx
      go_wp2_with (first
       | (go_at_call 57; refine (bound_Account _ _).mono ?_; rw [HA.out]; rintro e w' ⟨rfl, hw⟩; rw [hw]; clear hw w')
       | (go_at_call 58; refine (HI.out _).mono ?_; rintro e w2 ⟨rfl, hb⟩; have K2 := Lib.hid hb; clear hb)
       | (go_at_call 47; refine (HP.out _ K2.out).mono ?_; rintro e w' ⟨rfl, hw⟩; rw [hw]; clear hw w')
       | fail)
      exact bodyPost_ret (v := .int .i64 4) (by simp [results, Tryz.results22, go_sem]) rfl (FIN.out _ (H1.out.1.trans (K2.out.mono H1.out.1.size)) 4 (by decide) H1.out.2)
 · have hA : decide (0 ≤ a ∧ a < 10) = false := decide_eq_false hac
   have eE : voteE S A a r x = 1 := by unfold voteE; rw [if_pos (.inl hac)]
   have HA := Lib.hid hA
   have H1 := Lib.hid (And.intro hb1 eE)
   have HW := Lib.hid hw1
   clear hA hIs eE hst0 hvo0 hld0 hbF h hv hM hac hX hrx hb1 fin
   go_enter Tryz.func22, Tryz.ntmps22
   go_upto_region 1 with fail
   rw [← HW.out, ← hbx]
   clear hw1 hs1 hbx
   go_wp2_with (first
    | (go_at_call 57; refine (bound_Account _ _).mono ?_; rw [HA.out]; rintro e w' ⟨rfl, hw⟩; rw [hw]; clear hw w')
    | fail)
   exact bodyPost_ret (v := .int .i64 1) (by simp [results, Tryz.results22, go_sem]) rfl (FIN.out _ H1.out.1 1 (by decide) H1.out.2)
end
section
open Go.RowKit Go.Maps Go.Shelf
theorem VoX.Undelegate {vb N : Nat} {S : Vs} {F : FP} {w : World} (h : VoX vb N S F w) (hv : VInv S) {a t now : Int} (ha : (Lit.int .i64 a).wf = true) (ht : (Lit.int .i64 t).wf = true) :
 Calls Tryz.prog 25 #[.pointer (some ⟨vb, 0, none⟩), .int .i64 a, .int .i64 t, .int .i64 now] w fun e w' => e = .returned (.int .i64 (undE S a t)) ∧ VoTo vb N (undS S a t now) F w w' := by
 by_cases hac : isAcc a
 · have hA : decide (0 ≤ a ∧ a < 10) = true := decide_eq_true hac
   by_cases htr : 0 ≤ t ∧ t < 4
   · have hT : decide (0 ≤ t ∧ t < 4) = true := decide_eq_true htr
     have hL := hv.lens h
     obtain ⟨gv, gd, gw, gp, htb, -, hgD, -, -, -, -, hdD, -⟩ := h.tables
     obtain ⟨-, c73, -, -⟩ := htb w (Below.refl _ _)
     have hget := hgD w (Below.refl _ _) a t ha ht
     obtain ⟨d, hd⟩ : ∃ d, d = undD S a t := ⟨_, rfl⟩
     obtain ⟨q, hq⟩ : ∃ q, q = (cget S.D a t).isSome := ⟨_, rfl⟩
     rw [show (cget S.D a t).getD dlgS.zero = d from by rw [hd]; rfl, ← hq] at hget
     have hE : undE S a t = if q = false then 4 else 0 := by unfold undE; rw [if_neg (fun q => q.elim (fun q => q hac) (fun q => q htr)), ← hq]
     have HA := Lib.hid hA
     have HT := Lib.hid hT
     have HG := Lib.hid hget
     cases q with
     | false =>
      rw [if_pos rfl] at hE
      have hS : undS S a t now = S := by unfold undS; rw [hE]; rfl
      rw [hE, hS]
      have HX := Lib.hid h
      clear hA hT hget hE hS hL htb hgD hdD hd hq hv h ha ht hac htr
      go_enter Tryz.func25, Tryz.ntmps25
      go_wp2_with (first
       | (go_at_call 57; refine (bound_Account _ _).mono ?_; rw [HA.out]; rintro e w' ⟨rfl, hw⟩; rw [hw]; clear hw w')
       | (go_at_call 54; refine (voting_isTrack _ _).mono ?_; rw [HT.out]; rintro e w' ⟨rfl, hw⟩; rw [hw]; clear hw w')
       | (go_at_call 49; refine HG.out.mono ?_; rintro e w3 ⟨rfl, hb⟩; have K3 := Lib.hid hb; clear hb)
       | (refine wpl_allocS (s := dlgS) rfl rfl rfl ?_)
       | (refine wpl_storeS (s := dlgS) (t := d) (b := w3.heap.size) _ _ rfl rfl rfl rfl rfl (World.alloc_heap_new w3 _) (zeroS dlgS) ?_; rw [newS])
       | fail)
      exact bodyPost_ret (v := .int .i64 4) (by simp [results, Tryz.results25, go_sem]) rfl ⟨rfl, VoTo.of_below HX.out (K3.out.alloc K3.out.size _)⟩
     | true =>
      rw [if_neg (by decide)] at hE
      obtain ⟨d', hd'⟩ := Option.isSome_iff_exists.1 hq.symm
      have hdd : d = d' := by rw [hd]; unfold undD; rw [hd']; rfl
      obtain ⟨-, hdt, hdl, hdn⟩ := hv.d _ (h.srt.2.1.get.1 hd')
      rw [← hdd] at hdt hdl hdn
      dsimp only at hdt hdl hdn
      obtain ⟨S1, hS1⟩ : ∃ S1, S1 = { S with D := cdel S.D a t } := ⟨_, rfl⟩
      obtain ⟨S2, hS2⟩ : ∃ S2, S2 = lendS S1 d.to t (wrap64 (-(votesI d.n d.l))) (wrap64 (-d.n)) := ⟨_, rfl⟩
      obtain ⟨u, hu⟩ : ∃ u, u = wrap64 (now + periodI d.l 8) := ⟨_, rfl⟩
      have hS : undS S a t now = { S2 with Q := joinQ S.Q a t u d.n now } := by
       unfold undS; rw [hE, if_pos rfl]; unfold undS1; rw [← hd, ← hS1, ← hS2, ← hu]
      have hQ2 : S2.Q = S.Q := by rw [hS2, hS1]; rfl
      rw [hE, hS]
      have hdel := fun W hb => hdD W hb a t (by omega) ha ht
      have hlend : ∀ F' W, VoX vb N S1 F' W → Calls Tryz.prog 74 #[.pointer (some ⟨vb, 0, none⟩), .int .i64 d.to, .int .i64 t, .int .i64 (wrap64 (-(votesI d.n d.l))), .int .i64 (wrap64 (-d.n))] W fun e w' => e = .returned (.tuple #[]) ∧ VoTo vb N S2 F' W w' := fun F' W hx => by
       rw [hS2]
       rw [hS1] at hx ⊢
       exact hx.lend (show S.V.length ≤ 100000 by omega) (show S.G.length ≤ 100000 by omega) (wfS (by omega) (by omega)) ht (hv.row d.to) _ _
      have hjoin : ∀ F' W, VoX vb N S2 F' W → Calls Tryz.prog 70 #[.pointer (some ⟨vb, 0, none⟩), .int .i64 a, .int .i64 t, .int .i64 u, .int .i64 d.n, .int .i64 now] W fun e w' => e = .returned (.tuple #[]) ∧ VoTo vb N { S2 with Q := joinQ S.Q a t u d.n now } F' W w' := fun F' W hx => by
       have := hx.join (by rw [hQ2]; omega) ha ht u d.n now
       rw [hQ2] at this
       exact this
      have hvo : ∀ wx : World, Calls Tryz.prog 75 #[.int .i64 d.n, .int .i64 d.l] wx fun e w' => e = .returned (.int .i64 (votesI d.n d.l)) ∧ w' = wx := fun wx => (conv_Votes d.n d.l wx (by omega) (by omega) (by omega) (by omega)).mono fun e w' h => ⟨h.1, h.2.symm⟩
      have hpe : ∀ wx : World, Calls Tryz.prog 71 #[.int .i64 d.l, .int .i64 8] wx fun e w' => e = .returned (.int .i64 (periodI d.l 8)) ∧ w' = wx := fun wx => (conv_Period d.l 8 wx (by omega) (by omega) (by omega) (by omega)).mono fun e w' h => ⟨h.1, h.2.symm⟩
      rw [← hS1] at hdel
      have HX := Lib.hid h
      have HTB := Lib.hid htb
      have HD := Lib.hid hdel
      have HLE := Lib.hid hlend
      have HJ := Lib.hid hjoin
      have HV := Lib.hid hvo
      have HP := Lib.hid hpe
      subst hu
      clear hA hT hget hE hS hL htb hgD hdD hd hq hv h ha ht hac htr hdel hlend hjoin hvo hpe hdt hdl hdn hd' hdd hS1 hS2 hQ2
      obtain ⟨dt, dl, dn⟩ := d
      dsimp only at HLE HJ HV HP
      go_enter Tryz.func25, Tryz.ntmps25
      go_upto_region 6 with (first
       | (go_at_call 57; refine (bound_Account _ _).mono ?_; rw [HA.out]; rintro e w' ⟨rfl, hw⟩; rw [hw]; clear hw w')
       | (go_at_call 54; refine (voting_isTrack _ _).mono ?_; rw [HT.out]; rintro e w' ⟨rfl, hw⟩; rw [hw]; clear hw w')
       | (go_at_call 49; refine HG.out.mono ?_; rintro e w3 ⟨rfl, hb⟩; have K3 := Lib.hid hb; clear hb)
       | (refine wpl_allocS (s := dlgS) rfl rfl rfl ?_)
       | (refine wpl_storeS (s := dlgS) (t := ⟨dt, dl, dn⟩) (b := w3.heap.size) _ _ rfl rfl rfl rfl rfl (World.alloc_heap_new w3 _) (zeroS dlgS) ?_; rw [newS])
       | fail)
      obtain ⟨db, hdb⟩ : ∃ db, db = w3.heap.size := ⟨_, rfl⟩
      obtain ⟨w4, hw4⟩ : ∃ w4, w4 = w3.alloc (dlgS.obj ⟨dt, dl, dn⟩) := ⟨_, rfl⟩
      have hr4 : w4.rangeAt db 0 (dlgS.f ⟨dt, dl, dn⟩) := by rw [hw4, hdb]; exact atS dlgS w3 _
      have hb4 : Below w.heap.size w w4 := by rw [hw4]; exact K3.out.alloc K3.out.size _
      have hl4 : db < w4.heap.size ∧ w.heap.size ≤ db := by rw [hw4, hdb]; exact ⟨by simp, K3.out.size⟩
      rw [← hw4, ← hdb]
      obtain ⟨-, c73, -, -⟩ := HTB.out w4 hb4
      have H4 := Lib.hid (And.intro hr4 (And.intro hb4 hl4))
      clear hw4 hdb hr4 hb4 hl4
      go_upto_region 7 with (first
       | (go_at_call 76; refine (HD.out w4 H4.out.2.1).mono ?_; rintro e w5 ⟨rfl, hto⟩; have H5 := Lib.hid hto; clear hto)
       | fail)
      obtain ⟨F5, hx5, hF5, ho5⟩ := H5.out
      obtain ⟨hr4, hb4, hl4, hl4'⟩ := H4.out
      have hnF : ∀ k, w.heap.size ≤ k → ¬ F k := fun k hk hf => by have := HX.out.lt hf; omega
      have hr5 : w5.rangeAt db 0 (dlgS.f ⟨dt, dl, dn⟩) := rangeAt_block hr4 (ho5.block db hl4 (hnF db hl4') (fun h => h))
      have hl5 : db < w5.heap.size := Nat.lt_of_lt_of_le hl4 ho5.grow.size
      have d0 : w5.drew.cell? ⟨db, 0, none⟩ = some (.int .i64 dt) := hr5 0 _ rfl
      have d1 : w5.drew.cell? ⟨db, 1, none⟩ = some (.int .i64 dl) := hr5 1 _ rfl
      have d2 : w5.drew.cell? ⟨db, 2, none⟩ = some (.int .i64 dn) := hr5 2 _ rfl
      have hn5 : ¬ F5 db := fun hf => (hF5 db hf).elim (hnF db hl4') (fun e => by omega)
      have H5x := Lib.hid (And.intro hx5 (And.intro hr5 (And.intro hl5 hn5)))
      have H5y := Lib.hid (And.intro hF5 ho5)
      clear hx5 hF5 ho5 hr4 hb4 hl4 hl4' hnF hr5 hl5 hn5 c73
      refine wp_region_still_tail 13 (by kernel_rfl) (by kernel_rfl) ?_
      simp only [List.take_succ_cons, List.take_zero, List.drop_succ_cons, List.drop_zero]
      change wpStill _ _ w5.drew _ _ _
      repeat still_step
      still_call (HV.out w5.drew)
      repeat still_step
      refine wpStill_nil ?_
      change wpList _ _ _ _ _ w5.drew
      go_upto_region 8 with (first
       | (go_at_call 74; refine (HLE.out F5 _ (H5x.out.1.below (Below.refl _ w5).drew)).mono ?_; rintro e w6 ⟨rfl, hto⟩; have H6 := Lib.hid hto; clear hto)
       | fail)
      obtain ⟨F6, hx6, hF6, ho6⟩ := H6.out
      obtain ⟨hx5, hr5, hl5, hn5⟩ := H5x.out
      have hr6 : w6.rangeAt db 0 (dlgS.f ⟨dt, dl, dn⟩) := rangeAt_block (w := w5.drew) hr5 (ho6.block db hl5 hn5 (fun h => h))
      have e1 : w6.drew.cell? ⟨db, 1, none⟩ = some (.int .i64 dl) := hr6 1 _ rfl
      have e2 : w6.drew.cell? ⟨db, 2, none⟩ = some (.int .i64 dn) := hr6 2 _ rfl
      have H6x := Lib.hid hx6
      have H6y := Lib.hid (And.intro hF6 ho6)
      clear hx6 hF6 ho6 hx5 hr5 hl5 hn5 hr6 d0 d1 d2
      refine wp_region_still_tail 11 (by kernel_rfl) (by kernel_rfl) ?_
      simp only [List.take_succ_cons, List.take_zero, List.drop_succ_cons, List.drop_zero]
      change wpStill _ _ w6.drew _ _ _
      repeat still_step
      still_call (HP.out w6.drew)
      repeat still_step
      refine wpStill_nil ?_
      change wpList _ _ _ _ _ w6.drew
      go_wp2_with (first
       | (go_at_call 70; refine (HJ.out F6 _ (H6x.out.below (Below.refl _ w6).drew)).mono ?_; rintro e w7 ⟨rfl, hto⟩; have H7 := Lib.hid hto; clear hto)
       | fail)
      refine bodyPost_ret (v := .int .i64 0) (by simp [results, Tryz.results25, go_sem]) rfl ⟨rfl, ?_⟩
      exact VoTo.later H4.out.2.1 (VoTo.cons H5y.out.1 H5y.out.2 (VoTo.later (Below.refl _ w5).drew (VoTo.cons H6y.out.1 H6y.out.2 (VoTo.later (Below.refl _ w6).drew H7.out))))
   · have hT : decide (0 ≤ t ∧ t < 4) = false := decide_eq_false htr
     have hE : undE S a t = 1 := by unfold undE; rw [if_pos (.inr htr)]
     have hS : undS S a t now = S := by unfold undS; rw [if_neg (by rw [hE]; decide)]
     rw [hE, hS]
     have HA := Lib.hid hA
     have HT := Lib.hid hT
     have HX := Lib.hid h
     clear hA hT hE hS hac htr h hv ha ht
     go_enter Tryz.func25, Tryz.ntmps25
     go_wp2_with (first
      | (go_at_call 57; refine (bound_Account _ _).mono ?_; rw [HA.out]; rintro e w' ⟨rfl, hw⟩; rw [hw]; clear hw w')
      | (go_at_call 54; refine (voting_isTrack _ _).mono ?_; rw [HT.out]; rintro e w' ⟨rfl, hw⟩; rw [hw]; clear hw w')
      | fail)
     exact bodyPost_ret (v := .int .i64 1) (by simp [results, Tryz.results25, go_sem]) rfl ⟨rfl, VoTo.refl HX.out⟩
 · have hA : decide (0 ≤ a ∧ a < 10) = false := decide_eq_false hac
   have hE : undE S a t = 1 := by unfold undE; rw [if_pos (.inl hac)]
   have hS : undS S a t now = S := by unfold undS; rw [if_neg (by rw [hE]; decide)]
   rw [hE, hS]
   have HA := Lib.hid hA
   have HX := Lib.hid h
   clear hA hE hS hac h hv ha ht
   go_enter Tryz.func25, Tryz.ntmps25
   go_wp2_with (first
    | (go_at_call 57; refine (bound_Account _ _).mono ?_; rw [HA.out]; rintro e w' ⟨rfl, hw⟩; rw [hw]; clear hw w')
    | fail)
   exact bodyPost_ret (v := .int .i64 1) (by simp [results, Tryz.results25, go_sem]) rfl ⟨rfl, VoTo.refl HX.out⟩
end
section
open Go.RowKit Go.Maps Go.Shelf
theorem LvAt.Delegate {g vb N : Nat} {S : Vs} {A : Acc} {M : Cls Int} {Zn : FP} {w : World} (h : LvAt g vb N S A M Zn w) (hv : VInv S) (hM : M.length < 10000) {a t who : Int} (ha : (Lit.int .i64 a).wf = true) (ht : (Lit.int .i64 t).wf = true) (l n : Int) :
 Calls Tryz.prog 24 #[.pointer (some ⟨vb, 0, none⟩), .pointer (some ⟨g, 0, none⟩), .int .i64 a, .int .i64 t, .int .i64 who, .int .i64 l, .int .i64 n] w fun e w' => e = .returned (.int .i64 (delE S A a t who l n)) ∧ LvTo g vb N (delS S A a t who l n) A (delM S A M a t who l n) Zn w w' := by
 have hNs := h.size
 have fin : ∀ W', Below w.heap.size w W' → ∀ E : Int, E ≠ 0 → delE S A a t who l n = E → Ending.returned (.int .i64 E) = .returned (.int .i64 (delE S A a t who l n)) ∧ LvTo g vb N (delS S A a t who l n) A (delM S A M a t who l n) Zn w W' := fun W' hb E h0 hE => by
  unfold delS delM
  rw [hE, if_neg h0, if_neg h0]
  exact ⟨rfl, LvTo.of_below h hb⟩
 have FIN := Lib.hid fin
 clear fin
 by_cases hac : isAcc a
 rotate_left
 focus
  have hE : delE S A a t who l n = 1 := by unfold delE; rw [if_pos (.inl hac)]
  have HE1 := Lib.hid hE
  have HA := Lib.hid (show decide (0 ≤ a ∧ a < 10) = false from decide_eq_false hac)
  clear hE h hv ha ht hM hNs hac
 rotate_right
 have HA := Lib.hid (show decide (0 ≤ a ∧ a < 10) = true from decide_eq_true hac)
 by_cases htr : 0 ≤ t ∧ t < 4
 rotate_left
 focus
  have hE : delE S A a t who l n = 1 := by unfold delE; rw [if_pos (.inr (.inl htr))]
  have HE1 := Lib.hid hE
  have HT := Lib.hid (show decide (0 ≤ t ∧ t < 4) = false from decide_eq_false htr)
  clear hE h hv ha ht hM hNs hac htr
 rotate_right
 have HT := Lib.hid (show decide (0 ≤ t ∧ t < 4) = true from decide_eq_true htr)
 by_cases hwc : isAcc who
 rotate_left
 focus
  have hE : delE S A a t who l n = 1 := by unfold delE; rw [if_pos (.inr (.inr (.inl hwc)))]
  have HE1 := Lib.hid hE
  have HB := Lib.hid (show decide (0 ≤ who ∧ who < 10) = false from decide_eq_false hwc)
  clear hE h hv ha ht hM hNs hac htr hwc
 rotate_right
 have HB := Lib.hid (show decide (0 ≤ who ∧ who < 10) = true from decide_eq_true hwc)
 by_cases hne : who ≠ a
 rotate_left
 focus
  have hE : delE S A a t who l n = 1 := by unfold delE; rw [if_pos (.inr (.inr (.inr (.inl (Classical.not_not.1 hne)))))]
  have HE1 := Lib.hid hE
  have q3 : (who == a) = true := by simpa using Classical.not_not.1 hne
  clear hE h hv ha ht hM hNs hac htr hwc hne
 rotate_right
 have q3 : (who == a) = false := by simpa using hne
 by_cases hll : 0 ≤ l ∧ l ≤ 6
 rotate_left
 focus
  have hE : delE S A a t who l n = 1 := by unfold delE; rw [if_pos (.inr (.inr (.inr (.inr (.inl hll)))))]
  have HE1 := Lib.hid hE
  have HL := Lib.hid (show withinB l 0 6 = false by simp only [withinB]; by_cases q : 0 ≤ l <;> simp [q] <;> omega)
  clear hE h hv ha ht hM hNs hac htr hwc hne hll
 rotate_right
 have HL := Lib.hid (show withinB l 0 6 = true by simp only [withinB, Bool.and_eq_true, decide_eq_true_eq]; exact hll)
 by_cases hnn : isBal n
 rotate_left
 focus
  have hE : delE S A a t who l n = 1 := by unfold delE; rw [if_pos (.inr (.inr (.inr (.inr (.inr hnn)))))]
  have HE1 := Lib.hid hE
  have HN := Lib.hid (show withinB n 0 1073741824 = false by unfold isBal at hnn; simp only [withinB]; by_cases q : 0 ≤ n <;> simp [q] <;> omega)
  clear hE h hv ha ht hM hNs hac htr hwc hne hll hnn
 rotate_right
 have HN := Lib.hid (show withinB n 0 1073741824 = true by unfold isBal at hnn; simp only [withinB, Bool.and_eq_true, decide_eq_true_eq]; exact hnn)
 rotate_left
 iterate 6
  · go_enter Tryz.func24, Tryz.ntmps24
    go_wp2_with (first
     | (go_at_call 57; refine (bound_Account _ _).mono ?_; (first | rw [HA.out] | rw [HB.out]); rintro e w' ⟨rfl, hw⟩; rw [hw]; clear hw w')
     | (go_at_call 54; refine (voting_isTrack _ _).mono ?_; rw [HT.out]; rintro e w' ⟨rfl, hw⟩; rw [hw]; clear hw w')
     | (go_at_call 56; refine (cvWithin _ _ _ _).mono ?_; rw [HL.out]; rintro e w' ⟨rfl, hw⟩; rw [← hw]; clear hw w')
     | (go_at_call 72; refine (cvBalance _ _).mono ?_; rw [HN.out]; rintro e w' ⟨rfl, hw⟩; rw [← hw]; clear hw w')
     | fail)
    exact bodyPost_ret (v := .int .i64 1) (by simp [results, Tryz.results24, go_sem]) rfl (FIN.out _ (Below.refl _ _) 1 (by decide) HE1.out)
 obtain ⟨F, FL, hs⟩ := Stt.start h
 have hvo := hs.vo
 have hL := hv.lens hvo
 have hbn : 0 ≤ n ∧ n ≤ 1073741824 := hnn
 have hbw : 0 ≤ who ∧ who < 10 := hwc
 obtain ⟨gv, gd, gw, gp, htb, -, hgD, -, hSD, -⟩ := hvo.tables
 have hget := hgD w (Below.refl _ _) a t ha ht
 obtain ⟨d, hd⟩ : ∃ d, d = (cget S.D a t).getD dlgS.zero := ⟨_, rfl⟩
 obtain ⟨qd, hqd⟩ : ∃ qd, qd = (cget S.D a t).isSome := ⟨_, rfl⟩
 obtain ⟨fr, hfr⟩ : ∃ fr, fr = (A a.toNat).1 := ⟨_, rfl⟩
 obtain ⟨nb, hnb⟩ : ∃ nb, nb = (ballots S a t).length := ⟨_, rfl⟩
 rw [← hd, ← hqd] at hget
 have v0 : delE S A a t who l n = (if qd = true then 5 else if 0 < nb then 9 else if fr < n then 6 else 0) := by
  unfold delE
  rw [if_neg (fun q => by rcases q with q | q | q | q | q | q; exact q hac; exact q htr; exact q hwc; exact hne q; exact q hll; exact q hnn), ← hqd, ← hnb, ← hfr]
 have hFr : ∀ W, Below w.heap.size w W → Calls Tryz.prog 19 #[.pointer (some ⟨g, 0, none⟩), .int .i64 a] W fun e w' => e = .returned (.int .i64 fr) ∧ w' = W := fun W hb => by
  have := ledger_FreeX (hs.below hb).ld a
  rw [accOf, if_pos hac, ← hfr] at this
  exact this
 have hCt : ∀ W, Below w.heap.size w W → Calls Tryz.prog 61 #[.pointer (some ⟨vb, 0, none⟩), .int .i64 a, .int .i64 t] W fun e w' => e = .returned (.int .i64 (nb : Int)) ∧ Below W.heap.size W w' := fun W hb => by
  rw [hnb]; exact (hs.below hb).vo.count (by omega) ha (fun x hx => (hv.row a x hx).1) t
 obtain ⟨c72, c73, -, -⟩ := htb w (Below.refl _ _)
 obtain ⟨S1, hS1⟩ : ∃ S1, S1 = { S with D := cput S.D a t ⟨who, l, n⟩ } := ⟨_, rfl⟩
 have hset : ∀ W, Below w.heap.size w W → Calls Tryz.prog 73 #[.pointer (some ⟨gd, 0, none⟩), .int .i64 a, .int .i64 t, .agg #[.int .i64 who, .int .i64 l, .int .i64 n]] W fun e w' => e = .returned (.tuple #[]) ∧ VoTo vb N S1 F W w' := fun W hb => by rw [hS1]; exact hSD W hb a t ⟨who, l, n⟩ (by omega) ha ht
 have htb2 : ∀ W, Below w.heap.size w W → W.cell? ⟨vb, 73, none⟩ = some (.pointer (some ⟨gd, 0, none⟩)) := fun W hb => (htb W hb).2.1
 have hlend : ∀ F' W, VoX vb N S1 F' W → Calls Tryz.prog 74 #[.pointer (some ⟨vb, 0, none⟩), .int .i64 who, .int .i64 t, .int .i64 (votesI n l), .int .i64 n] W fun e w' => e = .returned (.tuple #[]) ∧ VoTo vb N (lendS S1 who t (votesI n l) n) F' W w' := fun F' W hx => by
  rw [hS1] at hx ⊢
  exact hx.lend (show S.V.length ≤ 100000 by omega) (show S.G.length ≤ 100000 by omega) (wfS (by omega) (by omega)) ht (hv.row who) _ _
 have hvo : ∀ wx : World, Calls Tryz.prog 75 #[.int .i64 n, .int .i64 l] wx fun e w' => e = .returned (.int .i64 (votesI n l)) ∧ w' = wx := fun wx => (conv_Votes n l wx (by omega) (by omega) (by omega) (by omega)).mono fun e w' h => ⟨h.1, h.2.symm⟩
 have vS : delE S A a t who l n = 0 → delS S A a t who l n = lendS S1 who t (votesI n l) n := fun q => by unfold delS; rw [if_pos q, ← hS1]
 have vM : delE S A a t who l n = 0 → delM S A M a t who l n = raiseM M a t n := fun q => by unfold delM; rw [if_pos q]
 have HG := Lib.hid hget
 have HFr := Lib.hid hFr
 have HCt := Lib.hid hCt
 have HSET := Lib.hid hset
 have HTB := Lib.hid htb2
 have HLE := Lib.hid hlend
 have HV := Lib.hid hvo
 have HVS := Lib.hid (And.intro vS vM)
 have HST := Lib.hid hs
 have HM := Lib.hid (And.intro hM (And.intro hac (And.intro ha ht)))
 clear hget hFr hCt hset htb htb2 hlend hvo vS vM hs hM hac ha ht h hv hgD hSD hL hd hqd hfr hnb hS1 hbn hbw htr hwc hne hll hnn hNs
 cases qd
 rotate_left
 rw [if_pos rfl] at v0
 have HE1 := Lib.hid v0
 clear v0
 rotate_left
 rw [if_neg (by decide)] at v0
 by_cases q1 : 0 < nb
 focus
  rw [if_pos q1] at v0
  have HE1 := Lib.hid v0
  have q1' : (nb : Int) > 0 := by omega
  clear v0
 rotate_left
 rw [if_neg q1] at v0
 obtain rfl : nb = 0 := by omega
 clear q1
 by_cases q2 : fr < n
 focus
  rw [if_pos q2] at v0
  have HE1 := Lib.hid v0
  have q2' : n > fr := q2
  clear v0
 rotate_left
 rw [if_neg q2] at v0
 have HE1 := Lib.hid v0
 have q2' : ¬ n > fr := q2
 clear v0
 rotate_left
 iterate 3
  · go_enter Tryz.func24, Tryz.ntmps24
    go_wp2_with (first
     | (go_at_call 57; refine (bound_Account _ _).mono ?_; (first | rw [HA.out] | rw [HB.out]); rintro e w' ⟨rfl, hw⟩; rw [hw]; clear hw w')
     | (go_at_call 54; refine (voting_isTrack _ _).mono ?_; rw [HT.out]; rintro e w' ⟨rfl, hw⟩; rw [hw]; clear hw w')
     | (go_at_call 56; refine (cvWithin _ _ _ _).mono ?_; rw [HL.out]; rintro e w' ⟨rfl, hw⟩; rw [← hw]; clear hw w')
     | (go_at_call 72; refine (cvBalance _ _).mono ?_; rw [HN.out]; rintro e w' ⟨rfl, hw⟩; rw [← hw]; clear hw w')
     | (go_at_call 49; refine HG.out.mono ?_; rintro e w3 ⟨rfl, hb⟩; have K3 := Lib.hid hb; clear hb)
     | (refine wpl_allocS (s := dlgS) rfl rfl rfl ?_)
     | (refine wpl_storeS (s := dlgS) (t := d) (b := w3.heap.size) _ _ rfl rfl rfl rfl rfl (World.alloc_heap_new w3 _) (zeroS dlgS) ?_; rw [newS]; have K4 := Lib.hid (K3.out.alloc K3.out.size (dlgS.obj d)))
     | (go_at_call 61; refine (HCt.out _ K4.out).mono ?_; rintro e w5 ⟨rfl, hb⟩; have K5 := Lib.hid (K4.out.trans (hb.mono K4.out.size)); clear hb)
     | (go_at_call 19; refine (HFr.out _ K5.out).mono ?_; rintro e wx ⟨rfl, hw⟩; rw [hw]; clear hw wx)
     | fail)
    first
     | exact bodyPost_ret (v := .int .i64 5) (by simp [results, Tryz.results24, go_sem]) rfl (FIN.out _ K4.out 5 (by decide) HE1.out)
     | exact bodyPost_ret (v := .int .i64 9) (by simp [results, Tryz.results24, go_sem]) rfl (FIN.out _ K5.out 9 (by decide) HE1.out)
     | exact bodyPost_ret (v := .int .i64 6) (by simp [results, Tryz.results24, go_sem]) rfl (FIN.out _ K5.out 6 (by decide) HE1.out)
 go_enter Tryz.func24, Tryz.ntmps24
 go_upto_region 10 with (first
  | (go_at_call 57; refine (bound_Account _ _).mono ?_; (first | rw [HA.out] | rw [HB.out]); rintro e w' ⟨rfl, hw⟩; rw [hw]; clear hw w')
  | (go_at_call 54; refine (voting_isTrack _ _).mono ?_; rw [HT.out]; rintro e w' ⟨rfl, hw⟩; rw [hw]; clear hw w')
  | (go_at_call 56; refine (cvWithin _ _ _ _).mono ?_; rw [HL.out]; rintro e w' ⟨rfl, hw⟩; rw [← hw]; clear hw w')
  | (go_at_call 72; refine (cvBalance _ _).mono ?_; rw [HN.out]; rintro e w' ⟨rfl, hw⟩; rw [← hw]; clear hw w')
  | (go_at_call 49; refine HG.out.mono ?_; rintro e w3 ⟨rfl, hb⟩; have K3 := Lib.hid hb; clear hb)
  | (refine wpl_allocS (s := dlgS) rfl rfl rfl ?_)
  | (refine wpl_storeS (s := dlgS) (t := d) (b := w3.heap.size) _ _ rfl rfl rfl rfl rfl (World.alloc_heap_new w3 _) (zeroS dlgS) ?_; rw [newS]; have K4 := Lib.hid (K3.out.alloc K3.out.size (dlgS.obj d)))
  | (go_at_call 61; refine (HCt.out _ K4.out).mono ?_; rintro e w5 ⟨rfl, hb⟩; have K5 := Lib.hid (K4.out.trans (hb.mono K4.out.size)); clear hb)
  | (go_at_call 19; refine (HFr.out _ K5.out).mono ?_; rintro e wx ⟨rfl, hw⟩; rw [hw]; clear hw wx)
  | fail)
 have c5 := HTB.out _ K5.out
 clear q2 q2' q3 c72 c73
 go_upto_region 11 with (first
  | (go_at_call 73; refine (HSET.out _ K5.out).mono ?_; rintro e w6 ⟨rfl, hto⟩; have H6 := Lib.hid hto; clear hto)
  | fail)
 obtain ⟨F6, hs6⟩ := (HST.out.below K5.out).toV H6.out
 have Q6 := Lib.hid hs6
 clear hs6 c5
 go_upto_region 12 with (first
  | (go_at_call 75; refine (HV.out _).mono ?_; rintro e wx ⟨rfl, hw⟩; rw [hw]; clear hw wx)
  | (go_at_call 74; refine (HLE.out F6 _ Q6.out.vo).mono ?_; rintro e w7 ⟨rfl, hto⟩; have H7 := Lib.hid hto; clear hto)
  | fail)
 obtain ⟨F7, hs7⟩ := Q6.out.toV H7.out
 have Q7 := Lib.hid hs7
 clear hs7
 go_wp2_with (first
  | (go_at_call 67; refine (raise_X Q7.out.ld HM.out.1 HM.out.2.1 HM.out.2.2.1 HM.out.2.2.2 n).mono ?_; rintro e w8 ⟨rfl, hto⟩; have H8 := Lib.hid hto; clear hto)
  | fail)
 obtain ⟨F8, hs8⟩ := Q7.out.toL H8.out
 refine bodyPost_ret (v := .int .i64 0) (by simp [results, Tryz.results24, go_sem]) rfl ⟨by rw [HE1.out], ?_⟩
 rw [HVS.out.1 HE1.out, HVS.out.2 HE1.out]
 exact hs8.to
end
end Go.Proofs.YtbpemdihoabbcaaGreat
