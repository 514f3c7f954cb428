/-
  Joined texts.
-/
import Derived.Test.YtbpemdihoabbcaaGreatMhi
import Derived.Conc.WalkWords
namespace Go.Proofs.YtbpemdihoabbcaaGreat
set_option linter.unusedVariables false
set_option linter.unusedSimpArgs false
section
open Go.RowKit Go.Maps Go.Shelf
set_option maxHeartbeats 8000000 in
set_option maxRecDepth 100000 in
theorem LvAt.Delegate {g vb N : Nat} {S : Vs} {A : Acc} {M : Cls Int} {Zn : FP} {w : World} (h : LvAt g vb N S A M Zn w) (hv : VInv S) (hM : M.length < 10000) {a t who : Int} (ha : (Lit.int .i64 a).wf = true) (ht : (Lit.int .i64 t).wf = true) (l n : Int) :
 Calls Tryz.prog 24 #[.pointer (some ⟨vb, 0, none⟩), .pointer (some ⟨g, 0, none⟩), .int .i64 a, .int .i64 t, .int .i64 who, .int .i64 l, .int .i64 n] w fun e w' => e = .returned (.int .i64 (delE S A a t who l n)) ∧ LvTo g vb N (delS S A a t who l n) A (delM S A M a t who l n) Zn w w' := by
 have hNs := h.size
 have fin : ∀ W', Below w.heap.size w W' → ∀ E : Int, E ≠ 0 → delE S A a t who l n = E → Ending.returned (.int .i64 E) = .returned (.int .i64 (delE S A a t who l n)) ∧ LvTo g vb N (delS S A a t who l n) A (delM S A M a t who l n) Zn w W' := fun W' hb E h0 hE => by
  unfold delS delM
  rw [hE, if_neg h0, if_neg h0]
  exact ⟨rfl, LvTo.of_below h hb⟩
 have FIN := Lib.hid fin
 clear fin
 by_cases hac : isAcc a
 · have HA := Lib.hid (show decide (0 ≤ a ∧ a < 10) = true from decide_eq_true hac)
   by_cases htr : 0 ≤ t ∧ t < 4
   · have HT := Lib.hid (show decide (0 ≤ t ∧ t < 4) = true from decide_eq_true htr)
     by_cases hwc : isAcc who
     · have HB := Lib.hid (show decide (0 ≤ who ∧ who < 10) = true from decide_eq_true hwc)
       by_cases hne : who ≠ a
       · have q3 : (who == a) = false := by simpa using hne
         by_cases hll : 0 ≤ l ∧ l ≤ 6
         · have HL := Lib.hid (show withinB l 0 6 = true by simp only [withinB, Bool.and_eq_true, decide_eq_true_eq]; exact hll)
           by_cases hnn : isBal n
           · have HN := Lib.hid (show withinB n 0 1073741824 = true by unfold isBal at hnn; simp only [withinB, Bool.and_eq_true, decide_eq_true_eq]; exact hnn)
             obtain ⟨F, FL, hs⟩ := Stt.start h
             have hvo := hs.vo
             have hL := hv.lens hvo
             have hbn : 0 ≤ n ∧ n ≤ 1073741824 := hnn
             have hbw : 0 ≤ who ∧ who < 10 := hwc
             obtain ⟨gv, gd, gw, gp, htb, -, hgD, -, hSD, -⟩ := hvo.tables
             have hget := hgD w (Below.refl _ _) a t ha ht
             obtain ⟨d, hd⟩ : ∃ d, d = (cget S.D a t).getD dlgS.zero := ⟨_, rfl⟩
             obtain ⟨qd, hqd⟩ : ∃ qd, qd = (cget S.D a t).isSome := ⟨_, rfl⟩
             obtain ⟨fr, hfr⟩ : ∃ fr, fr = (A a.toNat).1 := ⟨_, rfl⟩
             obtain ⟨nb, hnb⟩ : ∃ nb, nb = (ballots S a t).length := ⟨_, rfl⟩
             rw [← hd, ← hqd] at hget
             have v0 : delE S A a t who l n = (if qd = true then 5 else if 0 < nb then 9 else if fr < n then 6 else 0) := by
              unfold delE
              rw [if_neg (fun q => by rcases q with q | q | q | q | q | q; exact q hac; exact q htr; exact q hwc; exact hne q; exact q hll; exact q hnn), ← hqd, ← hnb, ← hfr]
             have hFr : ∀ W, Below w.heap.size w W → Calls Tryz.prog 19 #[.pointer (some ⟨g, 0, none⟩), .int .i64 a] W fun e w' => e = .returned (.int .i64 fr) ∧ w' = W := fun W hb => by
              have := ledger_FreeX (hs.below hb).ld a
              rw [accOf, if_pos hac, ← hfr] at this
              exact this
             have hCt : ∀ W, Below w.heap.size w W → Calls Tryz.prog 61 #[.pointer (some ⟨vb, 0, none⟩), .int .i64 a, .int .i64 t] W fun e w' => e = .returned (.int .i64 (nb : Int)) ∧ Below W.heap.size W w' := fun W hb => by
              rw [hnb]; exact (hs.below hb).vo.count (by omega) ha (fun x hx => (hv.row a x hx).1) t
             obtain ⟨c72, c73, -, -⟩ := htb w (Below.refl _ _)
             obtain ⟨S1, hS1⟩ : ∃ S1, S1 = { S with D := cput S.D a t ⟨who, l, n⟩ } := ⟨_, rfl⟩
             have hset : ∀ W, Below w.heap.size w W → Calls Tryz.prog 73 #[.pointer (some ⟨gd, 0, none⟩), .int .i64 a, .int .i64 t, .agg #[.int .i64 who, .int .i64 l, .int .i64 n]] W fun e w' => e = .returned (.tuple #[]) ∧ VoTo vb N S1 F W w' := fun W hb => by rw [hS1]; exact hSD W hb a t ⟨who, l, n⟩ (by omega) ha ht
             have htb2 : ∀ W, Below w.heap.size w W → W.cell? ⟨vb, 73, none⟩ = some (.pointer (some ⟨gd, 0, none⟩)) := fun W hb => (htb W hb).2.1
             have hlend : ∀ F' W, VoX vb N S1 F' W → Calls Tryz.prog 74 #[.pointer (some ⟨vb, 0, none⟩), .int .i64 who, .int .i64 t, .int .i64 (votesI n l), .int .i64 n] W fun e w' => e = .returned (.tuple #[]) ∧ VoTo vb N (lendS S1 who t (votesI n l) n) F' W w' := fun F' W hx => by
              rw [hS1] at hx ⊢
              exact hx.lend (show S.V.length ≤ 100000 by omega) (show S.G.length ≤ 100000 by omega) (wfS (by omega) (by omega)) ht (hv.row who) _ _
             have hvo : ∀ wx : World, Calls Tryz.prog 75 #[.int .i64 n, .int .i64 l] wx fun e w' => e = .returned (.int .i64 (votesI n l)) ∧ w' = wx := fun wx => (conv_Votes n l wx (by omega) (by omega) (by omega) (by omega)).mono fun e w' h => ⟨h.1, h.2.symm⟩
             have vS : delE S A a t who l n = 0 → delS S A a t who l n = lendS S1 who t (votesI n l) n := fun q => by unfold delS; rw [if_pos q, ← hS1]
             have vM : delE S A a t who l n = 0 → delM S A M a t who l n = raiseM M a t n := fun q => by unfold delM; rw [if_pos q]
             have HG := Lib.hid hget
             have HFr := Lib.hid hFr
             have HCt := Lib.hid hCt
             have HSET := Lib.hid hset
             have HTB := Lib.hid htb2
             have HLE := Lib.hid hlend
             have HV := Lib.hid hvo
             have HVS := Lib.hid (And.intro vS vM)
             have HST := Lib.hid hs
             have HM := Lib.hid (And.intro hM (And.intro hac (And.intro ha ht)))
             clear hget hFr hCt hset htb htb2 hlend hvo vS vM hs hM hac ha ht h hv hgD hSD hL hd hqd hfr hnb hS1 hbn hbw htr hwc hne hll hnn hNs
             cases qd with
             | true =>
              rw [if_pos rfl] at v0
              have HE1 := Lib.hid v0
              clear v0
              go_enter Tryz.func24, Tryz.ntmps24
              go_wp2_with (first
               | (go_at_call 57; refine (bound_Account _ _).mono ?_; (first | rw [HA.out] | rw [HB.out]); rintro e w' ⟨rfl, hw⟩; rw [hw]; clear hw w')
               | (go_at_call 54; refine (voting_isTrack _ _).mono ?_; rw [HT.out]; rintro e w' ⟨rfl, hw⟩; rw [hw]; clear hw w')
               | (go_at_call 56; refine (cvWithin _ _ _ _).mono ?_; rw [HL.out]; rintro e w' ⟨rfl, hw⟩; rw [← hw]; clear hw w')
               | (go_at_call 72; refine (cvBalance _ _).mono ?_; rw [HN.out]; rintro e w' ⟨rfl, hw⟩; rw [← hw]; clear hw w')
               | (go_at_call 49; refine HG.out.mono ?_; rintro e w3 ⟨rfl, hb⟩; have K3 := Lib.hid hb; clear hb)
               | (refine wpl_allocS (s := dlgS) rfl rfl rfl ?_)
               | (refine wpl_storeS (s := dlgS) (t := d) (b := w3.heap.size) _ _ rfl rfl rfl rfl rfl (World.alloc_heap_new w3 _) (zeroS dlgS) ?_; rw [newS]; have K4 := Lib.hid (K3.out.alloc K3.out.size (dlgS.obj d)))
               | fail)
              exact bodyPost_ret (v := .int .i64 5) (by simp [results, Tryz.results24, go_sem]) rfl (FIN.out _ K4.out 5 (by decide) HE1.out)
             | false =>
              rw [if_neg (by decide)] at v0
              by_cases q1 : 0 < nb
              · rw [if_pos q1] at v0
                have HE1 := Lib.hid v0
                have q1' : (nb : Int) > 0 := by omega
                clear v0
                go_enter Tryz.func24, Tryz.ntmps24
                go_wp2_with (first
                 | (go_at_call 57; refine (bound_Account _ _).mono ?_; (first | rw [HA.out] | rw [HB.out]); rintro e w' ⟨rfl, hw⟩; rw [hw]; clear hw w')
                 | (go_at_call 54; refine (voting_isTrack _ _).mono ?_; rw [HT.out]; rintro e w' ⟨rfl, hw⟩; rw [hw]; clear hw w')
                 | (go_at_call 56; refine (cvWithin _ _ _ _).mono ?_; rw [HL.out]; rintro e w' ⟨rfl, hw⟩; rw [← hw]; clear hw w')
                 | (go_at_call 72; refine (cvBalance _ _).mono ?_; rw [HN.out]; rintro e w' ⟨rfl, hw⟩; rw [← hw]; clear hw w')
                 | (go_at_call 49; refine HG.out.mono ?_; rintro e w3 ⟨rfl, hb⟩; have K3 := Lib.hid hb; clear hb)
                 | (refine wpl_allocS (s := dlgS) rfl rfl rfl ?_)
                 | (refine wpl_storeS (s := dlgS) (t := d) (b := w3.heap.size) _ _ rfl rfl rfl rfl rfl (World.alloc_heap_new w3 _) (zeroS dlgS) ?_; rw [newS]; have K4 := Lib.hid (K3.out.alloc K3.out.size (dlgS.obj d)))
                 | (go_at_call 61; refine (HCt.out _ K4.out).mono ?_; rintro e w5 ⟨rfl, hb⟩; have K5 := Lib.hid (K4.out.trans (hb.mono K4.out.size)); clear hb)
                 | fail)
                exact bodyPost_ret (v := .int .i64 9) (by simp [results, Tryz.results24, go_sem]) rfl (FIN.out _ K5.out 9 (by decide) HE1.out)
              · rw [if_neg q1] at v0
                obtain rfl : nb = 0 := by omega
                clear q1
                by_cases q2 : fr < n
                · rw [if_pos q2] at v0
                  have HE1 := Lib.hid v0
                  have q2' : n > fr := q2
                  clear v0
                  go_enter Tryz.func24, Tryz.ntmps24
                  go_wp2_with (first
                   | (go_at_call 57; refine (bound_Account _ _).mono ?_; (first | rw [HA.out] | rw [HB.out]); rintro e w' ⟨rfl, hw⟩; rw [hw]; clear hw w')
                   | (go_at_call 54; refine (voting_isTrack _ _).mono ?_; rw [HT.out]; rintro e w' ⟨rfl, hw⟩; rw [hw]; clear hw w')
                   | (go_at_call 56; refine (cvWithin _ _ _ _).mono ?_; rw [HL.out]; rintro e w' ⟨rfl, hw⟩; rw [← hw]; clear hw w')
                   | (go_at_call 72; refine (cvBalance _ _).mono ?_; rw [HN.out]; rintro e w' ⟨rfl, hw⟩; rw [← hw]; clear hw w')
                   | (go_at_call 49; refine HG.out.mono ?_; rintro e w3 ⟨rfl, hb⟩; have K3 := Lib.hid hb; clear hb)
                   | (refine wpl_allocS (s := dlgS) rfl rfl rfl ?_)
                   | (refine wpl_storeS (s := dlgS) (t := d) (b := w3.heap.size) _ _ rfl rfl rfl rfl rfl (World.alloc_heap_new w3 _) (zeroS dlgS) ?_; rw [newS]; have K4 := Lib.hid (K3.out.alloc K3.out.size (dlgS.obj d)))
                   | (go_at_call 61; refine (HCt.out _ K4.out).mono ?_; rintro e w5 ⟨rfl, hb⟩; have K5 := Lib.hid (K4.out.trans (hb.mono K4.out.size)); clear hb)
                   | (go_at_call 19; refine (HFr.out _ K5.out).mono ?_; rintro e wx ⟨rfl, hw⟩; rw [hw]; clear hw wx)
                   | fail)
                  exact bodyPost_ret (v := .int .i64 6) (by simp [results, Tryz.results24, go_sem]) rfl (FIN.out _ K5.out 6 (by decide) HE1.out)
                · rw [if_neg q2] at v0
                  have HE1 := Lib.hid v0
                  have q2' : ¬ n > fr := q2
                  clear v0
                  go_enter Tryz.func24, Tryz.ntmps24
                  go_upto_region 10 with (first
                   | (go_at_call 57; refine (bound_Account _ _).mono ?_; (first | rw [HA.out] | rw [HB.out]); rintro e w' ⟨rfl, hw⟩; rw [hw]; clear hw w')
                   | (go_at_call 54; refine (voting_isTrack _ _).mono ?_; rw [HT.out]; rintro e w' ⟨rfl, hw⟩; rw [hw]; clear hw w')
                   | (go_at_call 56; refine (cvWithin _ _ _ _).mono ?_; rw [HL.out]; rintro e w' ⟨rfl, hw⟩; rw [← hw]; clear hw w')
                   | (go_at_call 72; refine (cvBalance _ _).mono ?_; rw [HN.out]; rintro e w' ⟨rfl, hw⟩; rw [← hw]; clear hw w')
                   | (go_at_call 49; refine HG.out.mono ?_; rintro e w3 ⟨rfl, hb⟩; have K3 := Lib.hid hb; clear hb)
                   | (refine wpl_allocS (s := dlgS) rfl rfl rfl ?_)
                   | (refine wpl_storeS (s := dlgS) (t := d) (b := w3.heap.size) _ _ rfl rfl rfl rfl rfl (World.alloc_heap_new w3 _) (zeroS dlgS) ?_; rw [newS]; have K4 := Lib.hid (K3.out.alloc K3.out.size (dlgS.obj d)))
                   | (go_at_call 61; refine (HCt.out _ K4.out).mono ?_; rintro e w5 ⟨rfl, hb⟩; have K5 := Lib.hid (K4.out.trans (hb.mono K4.out.size)); clear hb)
                   | (go_at_call 19; refine (HFr.out _ K5.out).mono ?_; rintro e wx ⟨rfl, hw⟩; rw [hw]; clear hw wx)
                   | fail)
                  have c5 := HTB.out _ K5.out
                  clear q2 q2' q3 c72 c73
                  go_upto_region 11 with (first
                   | (go_at_call 73; refine (HSET.out _ K5.out).mono ?_; rintro e w6 ⟨rfl, hto⟩; have H6 := Lib.hid hto; clear hto)
                   | fail)
                  obtain ⟨F6, hs6⟩ := (HST.out.below K5.out).toV H6.out
                  have Q6 := Lib.hid hs6
                  clear hs6 c5
                  go_upto_region 12 with (first
                   | (go_at_call 75; refine (HV.out _).mono ?_; rintro e wx ⟨rfl, hw⟩; rw [hw]; clear hw wx)
                   | (go_at_call 74; refine (HLE.out F6 _ Q6.out.vo).mono ?_; rintro e w7 ⟨rfl, hto⟩; have H7 := Lib.hid hto; clear hto)
                   | fail)
                  obtain ⟨F7, hs7⟩ := Q6.out.toV H7.out
                  have Q7 := Lib.hid hs7
                  clear hs7
                  go_wp2_with (first
                   | (go_at_call 67; refine (raise_X Q7.out.ld HM.out.1 HM.out.2.1 HM.out.2.2.1 HM.out.2.2.2 n).mono ?_; rintro e w8 ⟨rfl, hto⟩; have H8 := Lib.hid hto; clear hto)
                   | fail)
                  obtain ⟨F8, hs8⟩ := Q7.out.toL H8.out
                  refine bodyPost_ret (v := .int .i64 0) (by simp [results, Tryz.results24, go_sem]) rfl ⟨by rw [HE1.out], ?_⟩
                  rw [HVS.out.1 HE1.out, HVS.out.2 HE1.out]
                  exact hs8.to
           · have hE : delE S A a t who l n = 1 := by unfold delE; rw [if_pos (.inr (.inr (.inr (.inr (.inr hnn)))))]
             have HE1 := Lib.hid hE
             have HN := Lib.hid (show withinB n 0 1073741824 = false by unfold isBal at hnn; simp only [withinB]; by_cases q : 0 ≤ n <;> simp [q] <;> omega)
             clear hE h hv ha ht hM hNs hac htr hwc hne hll hnn
             go_enter Tryz.func24, Tryz.ntmps24
             go_wp2_with (first
              | (go_at_call 57; refine (bound_Account _ _).mono ?_; (first | rw [HA.out] | rw [HB.out]); rintro e w' ⟨rfl, hw⟩; rw [hw]; clear hw w')
              | (go_at_call 54; refine (voting_isTrack _ _).mono ?_; rw [HT.out]; rintro e w' ⟨rfl, hw⟩; rw [hw]; clear hw w')
              | (go_at_call 56; refine (cvWithin _ _ _ _).mono ?_; rw [HL.out]; rintro e w' ⟨rfl, hw⟩; rw [← hw]; clear hw w')
              | (go_at_call 72; refine (cvBalance _ _).mono ?_; rw [HN.out]; rintro e w' ⟨rfl, hw⟩; rw [← hw]; clear hw w')
              | fail)
             exact bodyPost_ret (v := .int .i64 1) (by simp [results, Tryz.results24, go_sem]) rfl (FIN.out _ (Below.refl _ _) 1 (by decide) HE1.out)
         · have hE : delE S A a t who l n = 1 := by unfold delE; rw [if_pos (.inr (.inr (.inr (.inr (.inl hll)))))]
           have HE1 := Lib.hid hE
           have HL := Lib.hid (show withinB l 0 6 = false by simp only [withinB]; by_cases q : 0 ≤ l <;> simp [q] <;> omega)
           clear hE h hv ha ht hM hNs hac htr hwc hne hll
           go_enter Tryz.func24, Tryz.ntmps24
           go_wp2_with (first
            | (go_at_call 57; refine (bound_Account _ _).mono ?_; (first | rw [HA.out] | rw [HB.out]); rintro e w' ⟨rfl, hw⟩; rw [hw]; clear hw w')
            | (go_at_call 54; refine (voting_isTrack _ _).mono ?_; rw [HT.out]; rintro e w' ⟨rfl, hw⟩; rw [hw]; clear hw w')
            | (go_at_call 56; refine (cvWithin _ _ _ _).mono ?_; rw [HL.out]; rintro e w' ⟨rfl, hw⟩; rw [← hw]; clear hw w')
            | fail)
           exact bodyPost_ret (v := .int .i64 1) (by simp [results, Tryz.results24, go_sem]) rfl (FIN.out _ (Below.refl _ _) 1 (by decide) HE1.out)
       · have hE : delE S A a t who l n = 1 := by unfold delE; rw [if_pos (.inr (.inr (.inr (.inl (Classical.not_not.1 hne)))))]
         have HE1 := Lib.hid hE
         have q3 : (who == a) = true := by simpa using Classical.not_not.1 hne
         clear hE h hv ha ht hM hNs hac htr hwc hne
         go_enter Tryz.func24, Tryz.ntmps24
         go_wp2_with (first
          | (go_at_call 57; refine (bound_Account _ _).mono ?_; (first | rw [HA.out] | rw [HB.out]); rintro e w' ⟨rfl, hw⟩; rw [hw]; clear hw w')
          | (go_at_call 54; refine (voting_isTrack _ _).mono ?_; rw [HT.out]; rintro e w' ⟨rfl, hw⟩; rw [hw]; clear hw w')
          | fail)
         exact bodyPost_ret (v := .int .i64 1) (by simp [results, Tryz.results24, go_sem]) rfl (FIN.out _ (Below.refl _ _) 1 (by decide) HE1.out)
     · have hE : delE S A a t who l n = 1 := by unfold delE; rw [if_pos (.inr (.inr (.inl hwc)))]
       have HE1 := Lib.hid hE
       have HB := Lib.hid (show decide (0 ≤ who ∧ who < 10) = false from decide_eq_false hwc)
       clear hE h hv ha ht hM hNs hac htr hwc
       go_enter Tryz.func24, Tryz.ntmps24
       go_wp2_with (first
        | (go_at_call 57; refine (bound_Account _ _).mono ?_; (first | rw [HA.out] | rw [HB.out]); rintro e w' ⟨rfl, hw⟩; rw [hw]; clear hw w')
        | (go_at_call 54; refine (voting_isTrack _ _).mono ?_; rw [HT.out]; rintro e w' ⟨rfl, hw⟩; rw [hw]; clear hw w')
        | fail)
       exact bodyPost_ret (v := .int .i64 1) (by simp [results, Tryz.results24, go_sem]) rfl (FIN.out _ (Below.refl _ _) 1 (by decide) HE1.out)
   · have hE : delE S A a t who l n = 1 := by unfold delE; rw [if_pos (.inr (.inl htr))]
     have HE1 := Lib.hid hE
     have HT := Lib.hid (show decide (0 ≤ t ∧ t < 4) = false from decide_eq_false htr)
     clear hE h hv ha ht hM hNs hac htr
     go_enter Tryz.func24, Tryz.ntmps24
     go_wp2_with (first
      | (go_at_call 57; refine (bound_Account _ _).mono ?_; rw [HA.out]; rintro e w' ⟨rfl, hw⟩; rw [hw]; clear hw w')
      | (go_at_call 54; refine (voting_isTrack _ _).mono ?_; rw [HT.out]; rintro e w' ⟨rfl, hw⟩; rw [hw]; clear hw w')
      | fail)
     exact bodyPost_ret (v := .int .i64 1) (by simp [results, Tryz.results24, go_sem]) rfl (FIN.out _ (Below.refl _ _) 1 (by decide) HE1.out)
 · have hE : delE S A a t who l n = 1 := by unfold delE; rw [if_pos (.inl hac)]
   have HE1 := Lib.hid hE
   have HA := Lib.hid (show decide (0 ≤ a ∧ a < 10) = false from decide_eq_false hac)
   clear hE h hv ha ht hM hNs hac
   go_enter Tryz.func24, Tryz.ntmps24
   go_wp2_with (first
    | (go_at_call 57; refine (bound_Account _ _).mono ?_; rw [HA.out]; rintro e w' ⟨rfl, hw⟩; rw [hw]; clear hw w')
    | fail)
   exact bodyPost_ret (v := .int .i64 1) (by simp [results, Tryz.results24, go_sem]) rfl (FIN.out _ (Below.refl _ _) 1 (by decide) HE1.out)
end
section
open Go.RowKit Go.Maps Go.Shelf
set_option maxHeartbeats 8000000 in
set_option maxRecDepth 100000 in
attribute [local go_sem ↓] loadSt_V_hide loadSt_W_hide loadSt_T_hide storeT_hide in
theorem VoX.Unvote {vb N : Nat} {S : Vs} {F : FP} {w : World} (h : VoX vb N S F w) (hv : VInv S) {a r now : Int} (ha : (Lit.int .i64 a).wf = true) (hr : (Lit.int .i64 r).wf = true) :
 Calls Tryz.prog 23 #[.pointer (some ⟨vb, 0, none⟩), .int .i64 a, .int .i64 r, .int .i64 now] w fun e w' => e = .returned (.int .i64 (unvoteE S a r)) ∧ VoTo vb N (unvoteS S a r now) F w w' := by
 by_cases hac : isAcc a
 · have HA := Lib.hid (show decide (0 ≤ a ∧ a < 10) = true from decide_eq_true hac)
   have hL := hv.lens h
   obtain ⟨gv, gd, gw, gp, htb, hgV, -, -, -, -, hdV, -⟩ := h.tables
   obtain ⟨c72, -⟩ := htb w (Below.refl _ _)
   have hget := hgV w (Below.refl _ _) a r ha hr
   have hp := h.poll r
   obtain ⟨x, hx⟩ : ∃ x, x = (cget S.V a r).getD balS.zero := ⟨_, rfl⟩
   obtain ⟨q, hq⟩ : ∃ q, q = (cget S.V a r).isSome := ⟨_, rfl⟩
   rw [← hx, ← hq] at hget
   by_cases hh : plHas S.P r
   · cases q with
     | false =>
      have hE : unvoteE S a r = 4 := by unfold unvoteE; rw [if_neg (fun q => q hac), if_pos (.inr hq.symm)]
      have hS : unvoteS S a r now = S := by unfold unvoteS; rw [if_neg (by rw [hE]; decide)]
      rw [hE, hS]
      obtain ⟨k, rfl, hk, hst, hptr⟩ := plPtr_has (vb := vb) hh
      rw [hptr] at hp
      have HG := Lib.hid hget
      have HP := Lib.hid hp
      have HX := Lib.hid h
      clear hget hp h hv ha hr hac hL htb hgV hdV hx hq hh hE hS hk hst hptr
      go_enter Tryz.func23, Tryz.ntmps23
      go_wp2_with (first
       | (go_at_call 57; refine (bound_Account _ _).mono ?_; rw [HA.out]; rintro e w' ⟨rfl, hw⟩; rw [hw]; clear hw w')
       | (go_at_call 47; refine HP.out.mono ?_; rintro e w' ⟨rfl, hw⟩; rw [hw]; clear hw w')
       | (go_at_call 59; refine HG.out.mono ?_; rintro e w3 ⟨rfl, hb⟩; have K3 := Lib.hid hb; clear hb)
       | (refine wpl_allocS (s := balS) rfl rfl rfl ?_)
       | (refine wpl_storeS (s := balS) (t := x) (b := w3.heap.size) _ _ rfl rfl rfl rfl rfl (World.alloc_heap_new w3 _) (zeroS balS) ?_; rw [newS])
       | fail)
      exact bodyPost_ret (v := .int .i64 4) (by simp [results, Tryz.results23, go_sem]) rfl ⟨rfl, VoTo.of_below HX.out (K3.out.alloc K3.out.size _)⟩
     | true =>
      have hE : unvoteE S a r = 0 := by unfold unvoteE; rw [if_neg (fun q => q hac), if_neg (fun q => q.elim (fun q => q hh) (fun q => by rw [← hq] at q; cases q))]
      obtain ⟨x', hx'⟩ := Option.isSome_iff_exists.1 hq.symm
      have hxx : x = x' := by rw [hx, hx']; rfl
      obtain ⟨-, -, hok⟩ := hv.v _ (h.srt.1.get.1 hx')
      rw [← hxx] at hok
      dsimp only at hok
      obtain ⟨k, rfl, hk, hst, hptr⟩ := plPtr_has (vb := vb) hh
      rw [hptr] at hp
      rw [hE]
      have htr := hv.t k hk
      obtain ⟨tr, htr0⟩ : ∃ tr, tr = (S.P k).tr := ⟨_, rfl⟩
      obtain ⟨st, hst0⟩ : ∃ st, st = (S.P k).st := ⟨_, rfl⟩
      obtain ⟨en, hen0⟩ : ∃ en, en = (S.P k).en := ⟨_, rfl⟩
      obtain ⟨tt, htt0⟩ : ∃ tt, tt = (S.P k).t := ⟨_, rfl⟩
      obtain ⟨le, hle⟩ : ∃ le, le = gotS S a tr := ⟨_, rfl⟩
      have wtr : (Lit.int .i64 tr).wf = true := wfS (by omega) (by omega)
      obtain ⟨S1, hS1⟩ : ∃ S1, S1 = { S with V := cdel S.V a k } := ⟨_, rfl⟩
      have hdel := fun W hb => hdV W hb a k (by omega) ha hr
      rw [← hS1] at hdel
      have eNat : ((k : Int)).toNat = k := Int.toNat_natCast k
      have hW : ∀ F' w5 W, VoX vb N S1 F' w5 → Below w5.heap.size w5 W → W.cell? ⟨vb, k * 6 + 1, none⟩ = some (.int .i64 tr) ∧ W.cell? ⟨vb, k * 6 + 5, none⟩ = some (.int .i64 en) ∧ (loadSt_T (.pointer (some ⟨vb, k * 6 + 2, none⟩))).run Tryz.prog W = .ok (.agg (tlyS.f tt).toArray) W ∧ (∀ t' : Tl, (storeT (.pointer (some ⟨vb, k * 6 + 2, none⟩)) (.agg (tlyS.f t').toArray)).run Tryz.prog W = .ok () (W.setCells vb (k * 6 + 2) (tlyS.f t'))) ∧ ∀ t' : Tl, (W.setCells vb (k * 6 + 2) (tlyS.f t')).cell? ⟨vb, k * 6 + 1, none⟩ = some (.int .i64 tr) := fun F' w5 W hx5 hb => by
       obtain ⟨-, c1, c5, -, hrt, hth, -⟩ := (hx5.below hb).cells hk
       have eP : S1.P = S.P := by rw [hS1]
       rw [eP] at c1 c5 hrt
       refine ⟨by rw [htr0]; exact c1, by rw [hen0]; exact c5, by rw [htt0]; exact run_loadS (s := tlyS) hrt, fun t' => run_storeT hth t', fun t' => ?_⟩
       have := (((hx5.below hb).setTX hk t').cells hk).2.1
       have this : (W.setCells vb (k * 6 + 2) (tlyS.f t')).cell? ⟨vb, k * 6 + 1, none⟩ = some (.int .i64 (putP S1.P k ⟨(S1.P k).st, (S1.P k).tr, t'.a, t'.n, t'.s, (S1.P k).en⟩ k).tr) := this
       rw [putP_same, eP] at this
       rw [htr0]; exact this
      have hop : ∀ F' W, VoX vb N S1 F' W → Calls Tryz.prog 55 #[.pointer (some ⟨vb, k * 6, none⟩)] W fun e w' => e = .returned (.bool (st == 1)) ∧ w' = W := fun F' W hx5 => by
       have := hx5.open hk
       rw [show S1.P = S.P by rw [hS1], ← hst0] at this
       exact this
      have hwon : ∀ F' W, VoX vb N S1 F' W → Calls Tryz.prog 69 #[.pointer (some ⟨vb, k * 6, none⟩), .agg (balS.f x).toArray] W fun e w' => e = .returned (.bool (wonB st x)) ∧ Below W.heap.size W w' := fun F' W hx5 => by
       have := hx5.won hk x
       rw [show S1.P = S.P by rw [hS1], ← hst0] at this
       exact this
      have hgot : ∀ F' W, VoX vb N S1 F' W → Calls Tryz.prog 62 #[.pointer (some ⟨vb, 0, none⟩), .int .i64 a, .int .i64 tr] W fun e w' => e = .returned (.agg (wgtS.f le).toArray) ∧ Below W.heap.size W w' := fun F' W hx5 => by
       have := hx5.got ha wtr
       rw [show S1.G = S.G by rw [hS1]] at this
       rw [hle]; exact this
      have hsub : ∀ wx, Calls Tryz.prog 63 #[.agg (tlyS.f tt).toArray, .agg (tlyS.f (gainW x le)).toArray] wx fun e w' => e = .returned (.agg (tlyS.f (tt.sub (gainW x le))).toArray) ∧ Below wx.heap.size wx w' := fun wx => cSub tt (gainW x le) wx
      have HG := Lib.hid hget
      have HP := Lib.hid hp
      have HX := Lib.hid h
      have HTB := Lib.hid (show ∀ W, Below w.heap.size w W → W.cell? ⟨vb, 72, none⟩ = some (.pointer (some ⟨gv, 0, none⟩)) from fun W hb => (htb W hb).1)
      have HD := Lib.hid hdel
      have HW := Lib.hid hW
      have HO := Lib.hid hop
      have HWN := Lib.hid hwon
      have HGT := Lib.hid hgot
      have HSB := Lib.hid hsub
      have HGN := Lib.hid (cGain x le hok)
      have HK := Lib.hid hk
      have vS : unvoteS S a k now = (if st = 1 then { S1 with P := putP S1.P k ((S1.P k).withT (tt.sub (gainW x le))) } else if wonB st x = true then { S1 with Q := joinQ S1.Q a tr (wrap64 (en + periodI x.l 8)) x.a now } else S1) := by
       unfold unvoteS
       rw [hE, if_pos rfl, eNat, ← hst0, ← hx, ← htr0, ← hle, ← htt0, ← hen0, hS1]
      have hjoin : ∀ F' W, VoX vb N S1 F' W → ∀ u n : Int, Calls Tryz.prog 70 #[.pointer (some ⟨vb, 0, none⟩), .int .i64 a, .int .i64 tr, .int .i64 u, .int .i64 n, .int .i64 now] W fun e w' => e = .returned (.tuple #[]) ∧ VoTo vb N { S1 with Q := joinQ S1.Q a tr u n now } F' W w' := fun F' W hx5 u n => hx5.join (by rw [show S1.Q = S.Q by rw [hS1]]; omega) ha wtr u n now
      have hlev : wonB st x = true → 0 ≤ x.l ∧ x.l ≤ 6 := fun q => by
       unfold wonB at q
       by_cases k1 : x.k = 1
       · unfold balOk voteB shapedB at hok
         simp only [k1, if_true, Bool.and_eq_true] at hok
         exact withinB_out hok.1.1.1.1.1.1
       · rw [if_neg k1] at q; cases q
      have hper : wonB st x = true → ∀ wx : World, Calls Tryz.prog 71 #[.int .i64 x.l, .int .i64 8] wx fun e w' => e = .returned (.int .i64 (periodI x.l 8)) ∧ w' = wx := fun q wx => (conv_Period x.l 8 wx (by omega) (by omega) (hlev q).1 (hlev q).2).mono fun e w' h => ⟨h.1, h.2.symm⟩
      have HJ := Lib.hid hjoin
      have HPE := Lib.hid hper
      rw [vS]
      clear hget hp h hv ha hr hac hL htb hgV hdV hx hq hh hE hst hptr hx' hxx hok htr0 hst0 hen0 htt0 hle wtr hS1 hdel eNat hW hop hwon hgot hsub hk vS hjoin hlev hper htr
      obtain ⟨p, hp⟩ : ∃ p, p = wonB st x := ⟨_, rfl⟩
      rw [← hp] at HWN HPE ⊢
      clear hp
      by_cases q1 : st = 1
      · have q1' : (st == 1) = true := by simpa using q1
        rw [if_pos q1]
        clear q1
        go_enter Tryz.func23, Tryz.ntmps23
        go_upto_region 7 with (first
         | (go_at_call 57; refine (bound_Account _ _).mono ?_; rw [HA.out]; rintro e w' ⟨rfl, hw⟩; rw [hw]; clear hw w')
         | (go_at_call 47; refine HP.out.mono ?_; rintro e w' ⟨rfl, hw⟩; rw [hw]; clear hw w')
         | (go_at_call 59; refine HG.out.mono ?_; rintro e w3 ⟨rfl, hb⟩; have K3 := Lib.hid hb; clear hb)
         | (refine wpl_allocS (s := balS) rfl rfl rfl ?_)
         | (refine wpl_storeS (s := balS) (t := x) (b := w3.heap.size) _ _ rfl rfl rfl rfl rfl (World.alloc_heap_new w3 _) (zeroS balS) ?_; rw [newS])
         | fail)
        obtain ⟨yb, hyb⟩ : ∃ yb, yb = w3.heap.size := ⟨_, rfl⟩
        obtain ⟨w4, hw4⟩ : ∃ w4, w4 = w3.alloc (balS.obj x) := ⟨_, rfl⟩
        have hr4 : w4.rangeAt yb 0 (balS.f x) := by rw [hw4, hyb]; exact atS balS w3 x
        have hb4 : Below w.heap.size w w4 := by rw [hw4]; exact K3.out.alloc K3.out.size _
        have hl4 : yb < w4.heap.size ∧ w.heap.size ≤ yb := by rw [hw4, hyb]; exact ⟨by simp, K3.out.size⟩
        rw [← hw4, ← hyb]
        have c74 := HTB.out w4 hb4
        have H4 := Lib.hid (And.intro hr4 (And.intro hb4 hl4))
        clear hw4 hyb hr4 hb4 hl4 c72
        go_upto_region 8 with (first
         | (go_at_call 68; refine (HD.out w4 H4.out.2.1).mono ?_; rintro e w5 ⟨rfl, hto⟩; have H5 := Lib.hid hto; clear hto)
         | fail)
        obtain ⟨F5, hx5, hF5, ho5⟩ := H5.out
        obtain ⟨hr4, hb4, hl4, hl4'⟩ := H4.out
        have hnF : ∀ k, w.heap.size ≤ k → ¬ F k := fun k hk hf => by have := HX.out.lt hf; omega
        have hr5 : w5.rangeAt yb 0 (balS.f x) := rangeAt_block hr4 (ho5.block yb hl4 (hnF yb hl4') (fun h => h))
        have hl5 : yb < w5.heap.size := Nat.lt_of_lt_of_le hl4 ho5.grow.size
        have hn5 : yb ≠ vb := fun e => by have := HX.out.lt HX.out.own; omega
        have hSx : ∀ W, Below w5.heap.size w5 W → (loadSt_V (.pointer (some ⟨yb, 0, none⟩))).run Tryz.prog W = .ok (.agg (balS.f x).toArray) W := fun W hb => run_loadSt_V (rangeAt_block hr5 (hb.block yb hl5))
        have hSy : ∀ W, Below w5.heap.size w5 W → ∀ vs, (loadSt_V (.pointer (some ⟨yb, 0, none⟩))).run Tryz.prog (W.setCells vb (k * 6 + 2) vs) = .ok (.agg (balS.f x).toArray) (W.setCells vb (k * 6 + 2) vs) := fun W hb vs => run_loadSt_V (rangeAt_block hr5 ((setCells_off hn5 _ _ _).trans (hb.block yb hl5)))
        have hcl : ∀ W, Below w5.heap.size w5 W → W.cell? ⟨yb, 2, none⟩ = some (.int .i64 x.l) ∧ W.cell? ⟨yb, 3, none⟩ = some (.int .i64 x.a) := fun W hb => ⟨(rangeAt_block hr5 (hb.block yb hl5)) 2 _ rfl, (rangeAt_block hr5 (hb.block yb hl5)) 3 _ rfl⟩
        have H5x := Lib.hid (And.intro hx5 (And.intro hF5 ho5))
        have HW5 := Lib.hid (fun W hb => HW.out F5 w5 W hx5 hb)
        have HSX := Lib.hid hSx
        have HSY := Lib.hid hSy
        have HCL := Lib.hid hcl
        have K5 := Lib.hid (Below.refl w5.heap.size w5)
        clear hx5 hF5 ho5 hr4 hb4 hl4 hl4' hnF hr5 hl5 hn5 hSx hSy hcl c74
        go_upto_region 9 with (first
         | (go_at_call 55; refine (HO.out F5 w5 H5x.out.1).mono ?_; rintro e wx ⟨rfl, hw⟩; rw [hw]; clear hw wx)
         | fail)
        have SL := Lib.hid (show ∀ W, Below w5.heap.size w5 W → (loadSt_V (.pointer (some ⟨yb, 0, none⟩))).run Tryz.prog W = .ok (.agg (balS.f x).toArray) W ∧ W.cell? ⟨vb, k * 6 + 1, none⟩ = some (.int .i64 tr) from fun W hb => ⟨HSX.out W hb, (HW5.out W hb).1⟩)
        have K5d := Lib.hid (show Below w5.heap.size w5 w5.drew from (Below.refl _ w5).drew)
        have rT5 := (HW5.out _ K5d.out).2.2.1
        refine wp_region_held_drew (S := fun W => (loadSt_V (.pointer (some ⟨yb, 0, none⟩))).run Tryz.prog W = .ok (.agg (balS.f x).toArray) W ∧ W.cell? ⟨vb, k * 6 + 1, none⟩ = some (.int .i64 tr)) (by kernel_rfl) (SL.out _ K5d.out) (fun hHeld => ?_)
        refine wpAnyH_take (i := 0) (v := ?_) rfl (by kernel_rfl) (by kernel_rfl) (by kernel_rfl) (fun _ _ _ h => h) (Or.inl ⟨by kernel_rfl, ?_⟩) (by assumption) ?_
        rotate_left
        · intro w' hSw
          try dsimp only at hSw
          go_simp
          try with_reducible rfl
        try walk_nrm
        refine wpAnyH_take (i := 1) (v := ?_) rfl (by kernel_rfl) (by kernel_rfl) (by kernel_rfl) (fun _ _ _ h => h) (Or.inl ⟨by kernel_rfl, ?_⟩) (by assumption) ?_
        rotate_left
        · intro w' hSw
          try dsimp only at hSw
          go_simp
          try with_reducible rfl
        try walk_nrm
        refine wpAnyH_take (i := 2) (v := ?_) rfl (by kernel_rfl) (by kernel_rfl) (by kernel_rfl) (fun _ _ _ h => h) (Or.inl ⟨by kernel_rfl, ?_⟩) (by assumption) ?_
        rotate_left
        · intro w' hSw
          try dsimp only at hSw
          go_simp
          try with_reducible rfl
        try walk_nrm
        refine wpAnyH_take (i := 3) (v := ?_) rfl (by kernel_rfl) (by kernel_rfl) (by kernel_rfl) (fun _ _ _ h => h) (Or.inl ⟨by kernel_rfl, ?_⟩) (by assumption) ?_
        rotate_left
        · intro w' hSw
          try dsimp only at hSw
          go_simp
          try with_reducible rfl
        try walk_nrm
        refine wpAnyH_take (i := 5) (v := ?_) rfl (by kernel_rfl) (by kernel_rfl) (by kernel_rfl) (fun _ _ _ h => h) (Or.inl ⟨by kernel_rfl, ?_⟩) (by assumption) ?_
        rotate_left
        · intro w' hSw
          try dsimp only at hSw
          go_simp
          try with_reducible rfl
        try walk_nrm
        refine wpAnyH_take (i := 6) (v := ?_) rfl (by kernel_rfl) (by kernel_rfl) (by kernel_rfl) (fun _ _ _ h => h) (Or.inl ⟨by kernel_rfl, ?_⟩) (by assumption) ?_
        rotate_left
        · intro w' hSw
          try dsimp only at hSw
          go_simp
          try with_reducible rfl
        try walk_nrm
        refine wpAnyH_take (i := 7) (v := ?_) rfl (by kernel_rfl) (by kernel_rfl) (by kernel_rfl) (fun _ _ _ h => h) (Or.inl ⟨by kernel_rfl, ?_⟩) (by assumption) ?_
        rotate_left
        · intro w' hSw
          try dsimp only at hSw
          go_simp
          try with_reducible rfl
        try walk_nrm
        refine wpAnyH_take (i := 8) (v := ?_) rfl (by kernel_rfl) (by kernel_rfl) (by kernel_rfl) (fun _ _ _ h => h) (Or.inl ⟨by kernel_rfl, ?_⟩) (by assumption) ?_
        rotate_left
        · intro w' hSw
          try dsimp only at hSw
          go_simp
          try with_reducible rfl
        try walk_nrm
        refine wpAnyH_take (i := 9) (v := ?_) rfl (by kernel_rfl) (by kernel_rfl) (by kernel_rfl) (fun _ _ _ h => h) (Or.inl ⟨by kernel_rfl, ?_⟩) (by assumption) ?_
        rotate_left
        · intro w' hSw
          try dsimp only at hSw
          go_simp
          try with_reducible rfl
        try walk_nrm
        refine wpAnyH_take (i := 10) (v := ?_) rfl (by kernel_rfl) (by kernel_rfl) (by kernel_rfl) (fun _ _ _ h => h) (Or.inl ⟨by kernel_rfl, ?_⟩) (by assumption) ?_
        rotate_left
        · intro w' hSw
          try dsimp only at hSw
          go_simp
          try with_reducible rfl
        try walk_nrm
        refine wpAnyH_take (i := 11) (v := ?_) rfl (by kernel_rfl) (by kernel_rfl) (by kernel_rfl) (fun _ _ _ h => h) (Or.inl ⟨by kernel_rfl, ?_⟩) (by assumption) ?_
        rotate_left
        · intro w' hSw
          try dsimp only at hSw
          go_simp
          try with_reducible rfl
        try walk_nrm
        refine wpAnyH_ready (rs := [4, 12]) (by kernel_rfl) (by simp) ?_
        refine AllReadyH.cons rfl (fun K hK => ?_) (AllReadyH.cons rfl (fun K hK => ?_) AllReadyH.nil)
        · rw [if_pos (by kernel_rfl)]
          go_simp
          skip
          first | refine hK.out _ _ ?_ (fun hHeld => ?_) | (go_wp2_with fail; refine hK.out _ _ ?_ (fun hHeld => ?_))
          · try dsimp only
            exact SL.out _ K5d.out
          clear hK K
          try walk_nrm
          refine wpAnyH_ready (rs := [12]) (by kernel_rfl) (by simp) ?_
          refine AllReadyH.cons rfl (fun K hK => ?_) AllReadyH.nil
          rw [if_pos (by kernel_rfl)]
          go_simp
          go_at_call 62; refine (HGT.out F5 _ (H5x.out.1.below K5d.out)).mono ?_; rintro e w12 ⟨rfl, hb⟩; have K12 := Lib.hid (K5d.out.trans (hb.mono K5d.out.size)); have rT12 := (HW5.out _ K12.out).2.2.1; clear hb
          first | refine hK.out _ _ ?_ (fun hHeld => ?_) | (go_wp2_with fail; refine hK.out _ _ ?_ (fun hHeld => ?_))
          · try dsimp only
            exact SL.out _ K12.out
          clear hK K
          try walk_nrm
          refine wpAnyH_ready (rs := [13]) (by kernel_rfl) (by simp) ?_
          refine AllReadyH.cons rfl (fun K hK => ?_) AllReadyH.nil
          rw [if_pos (by kernel_rfl)]
          go_simp
          go_at_call 64; refine (HGN.out _).mono ?_; rintro e w13 ⟨rfl, hb⟩; have K13 := Lib.hid (K12.out.trans (hb.mono K12.out.size)); have rT13 := (HW5.out _ K13.out).2.2.1; clear hb
          first | refine hK.out _ _ ?_ (fun hHeld => ?_) | (go_wp2_with fail; refine hK.out _ _ ?_ (fun hHeld => ?_))
          · try dsimp only
            exact SL.out _ K13.out
          clear hK K
          try walk_nrm
          refine wpAnyH_ready (rs := [14]) (by kernel_rfl) (by simp) ?_
          refine AllReadyH.cons rfl (fun K hK => ?_) AllReadyH.nil
          rw [if_pos (by kernel_rfl)]
          go_simp
          go_at_call 63; refine (HSB.out _).mono ?_; rintro e w14 ⟨rfl, hb⟩; have K14 := Lib.hid (K13.out.trans (hb.mono K13.out.size)); have rS14 := (HW5.out _ K14.out).2.2.2.1 (tt.sub (gainW x le)); clear hb
          first | refine hK.out _ _ ?_ (fun hHeld => ?_) | (go_wp2_with fail; refine hK.out _ _ ?_ (fun hHeld => ?_))
          · try dsimp only
            exact SL.out _ K14.out
          clear hK K
          try walk_nrm
          refine wpAnyH_take (i := 15) (v := ?_) rfl (by kernel_rfl) (by kernel_rfl) (by kernel_rfl) (fun _ _ _ h => h) (Or.inl ⟨by kernel_rfl, ?_⟩) (by assumption) ?_
          rotate_left
          · intro w' hSw
            try dsimp only at hSw
            go_simp
            try with_reducible rfl
          try walk_nrm
          refine wpAnyH_take (i := 16) (v := ?_) rfl (by kernel_rfl) (by kernel_rfl) (by kernel_rfl) (fun _ _ _ h => h) (Or.inl ⟨by kernel_rfl, ?_⟩) (by assumption) ?_
          rotate_left
          · intro w' hSw
            try dsimp only at hSw
            go_simp
            try with_reducible rfl
          try walk_nrm
          refine wpAnyH_ready (rs := [17]) (by kernel_rfl) (by simp) ?_
          refine AllReadyH.cons rfl (fun K hK => ?_) AllReadyH.nil
          rw [if_pos (by kernel_rfl)]
          go_simp
          skip
          first | refine hK.out _ _ ?_ (fun hHeld => ?_) | (go_wp2_with fail; refine hK.out _ _ ?_ (fun hHeld => ?_))
          · try dsimp only
            exact ⟨HSY.out _ K14.out _, (HW5.out _ K14.out).2.2.2.2 _⟩
          clear hK K
          try walk_nrm
          refine wpAnyH_done (by kernel_rfl) ?_ _
          go_wp2_with fail
          exact bodyPost_ret (v := .int .i64 0) (by simp [results, Tryz.results23, go_sem]) rfl ⟨rfl, VoTo.later H4.out.2.1 (VoTo.cons H5x.out.2.1 H5x.out.2.2 (VoTo.later K14.out ((H5x.out.1.below K14.out).setT HK.out _)))⟩
        · rw [if_pos (by kernel_rfl)]
          go_simp
          go_at_call 62; refine (HGT.out F5 _ (H5x.out.1.below K5d.out)).mono ?_; rintro e w12 ⟨rfl, hb⟩; have K12 := Lib.hid (K5d.out.trans (hb.mono K5d.out.size)); have rT12 := (HW5.out _ K12.out).2.2.1; clear hb
          first | refine hK.out _ _ ?_ (fun hHeld => ?_) | (go_wp2_with fail; refine hK.out _ _ ?_ (fun hHeld => ?_))
          · try dsimp only
            exact SL.out _ K12.out
          clear hK K
          try walk_nrm
          refine wpAnyH_ready (rs := [4, 13]) (by kernel_rfl) (by simp) ?_
          refine AllReadyH.cons rfl (fun K hK => ?_) (AllReadyH.cons rfl (fun K hK => ?_) AllReadyH.nil)
          · rw [if_pos (by kernel_rfl)]
            go_simp
            skip
            first | refine hK.out _ _ ?_ (fun hHeld => ?_) | (go_wp2_with fail; refine hK.out _ _ ?_ (fun hHeld => ?_))
            · try dsimp only
              exact SL.out _ K12.out
            clear hK K
            try walk_nrm
            refine wpAnyH_ready (rs := [13]) (by kernel_rfl) (by simp) ?_
            refine AllReadyH.cons rfl (fun K hK => ?_) AllReadyH.nil
            rw [if_pos (by kernel_rfl)]
            go_simp
            go_at_call 64; refine (HGN.out _).mono ?_; rintro e w13 ⟨rfl, hb⟩; have K13 := Lib.hid (K12.out.trans (hb.mono K12.out.size)); have rT13 := (HW5.out _ K13.out).2.2.1; clear hb
            first | refine hK.out _ _ ?_ (fun hHeld => ?_) | (go_wp2_with fail; refine hK.out _ _ ?_ (fun hHeld => ?_))
            · try dsimp only
              exact SL.out _ K13.out
            clear hK K
            try walk_nrm
            refine wpAnyH_ready (rs := [14]) (by kernel_rfl) (by simp) ?_
            refine AllReadyH.cons rfl (fun K hK => ?_) AllReadyH.nil
            rw [if_pos (by kernel_rfl)]
            go_simp
            go_at_call 63; refine (HSB.out _).mono ?_; rintro e w14 ⟨rfl, hb⟩; have K14 := Lib.hid (K13.out.trans (hb.mono K13.out.size)); have rS14 := (HW5.out _ K14.out).2.2.2.1 (tt.sub (gainW x le)); clear hb
            first | refine hK.out _ _ ?_ (fun hHeld => ?_) | (go_wp2_with fail; refine hK.out _ _ ?_ (fun hHeld => ?_))
            · try dsimp only
              exact SL.out _ K14.out
            clear hK K
            try walk_nrm
            refine wpAnyH_take (i := 15) (v := ?_) rfl (by kernel_rfl) (by kernel_rfl) (by kernel_rfl) (fun _ _ _ h => h) (Or.inl ⟨by kernel_rfl, ?_⟩) (by assumption) ?_
            rotate_left
            · intro w' hSw
              try dsimp only at hSw
              go_simp
              try with_reducible rfl
            try walk_nrm
            refine wpAnyH_take (i := 16) (v := ?_) rfl (by kernel_rfl) (by kernel_rfl) (by kernel_rfl) (fun _ _ _ h => h) (Or.inl ⟨by kernel_rfl, ?_⟩) (by assumption) ?_
            rotate_left
            · intro w' hSw
              try dsimp only at hSw
              go_simp
              try with_reducible rfl
            try walk_nrm
            refine wpAnyH_ready (rs := [17]) (by kernel_rfl) (by simp) ?_
            refine AllReadyH.cons rfl (fun K hK => ?_) AllReadyH.nil
            rw [if_pos (by kernel_rfl)]
            go_simp
            skip
            first | refine hK.out _ _ ?_ (fun hHeld => ?_) | (go_wp2_with fail; refine hK.out _ _ ?_ (fun hHeld => ?_))
            · try dsimp only
              exact ⟨HSY.out _ K14.out _, (HW5.out _ K14.out).2.2.2.2 _⟩
            clear hK K
            try walk_nrm
            refine wpAnyH_done (by kernel_rfl) ?_ _
            go_wp2_with fail
            exact bodyPost_ret (v := .int .i64 0) (by simp [results, Tryz.results23, go_sem]) rfl ⟨rfl, VoTo.later H4.out.2.1 (VoTo.cons H5x.out.2.1 H5x.out.2.2 (VoTo.later K14.out ((H5x.out.1.below K14.out).setT HK.out _)))⟩
          · rw [if_pos (by kernel_rfl)]
            go_simp
            go_at_call 64; refine (HGN.out _).mono ?_; rintro e w13 ⟨rfl, hb⟩; have K13 := Lib.hid (K12.out.trans (hb.mono K12.out.size)); have rT13 := (HW5.out _ K13.out).2.2.1; clear hb
            first | refine hK.out _ _ ?_ (fun hHeld => ?_) | (go_wp2_with fail; refine hK.out _ _ ?_ (fun hHeld => ?_))
            · try dsimp only
              exact SL.out _ K13.out
            clear hK K
            try walk_nrm
            refine wpAnyH_ready (rs := [4]) (by kernel_rfl) (by simp) ?_
            refine AllReadyH.cons rfl (fun K hK => ?_) AllReadyH.nil
            rw [if_pos (by kernel_rfl)]
            go_simp
            skip
            first | refine hK.out _ _ ?_ (fun hHeld => ?_) | (go_wp2_with fail; refine hK.out _ _ ?_ (fun hHeld => ?_))
            · try dsimp only
              exact SL.out _ K13.out
            clear hK K
            try walk_nrm
            refine wpAnyH_ready (rs := [14]) (by kernel_rfl) (by simp) ?_
            refine AllReadyH.cons rfl (fun K hK => ?_) AllReadyH.nil
            rw [if_pos (by kernel_rfl)]
            go_simp
            go_at_call 63; refine (HSB.out _).mono ?_; rintro e w14 ⟨rfl, hb⟩; have K14 := Lib.hid (K13.out.trans (hb.mono K13.out.size)); have rS14 := (HW5.out _ K14.out).2.2.2.1 (tt.sub (gainW x le)); clear hb
            first | refine hK.out _ _ ?_ (fun hHeld => ?_) | (go_wp2_with fail; refine hK.out _ _ ?_ (fun hHeld => ?_))
            · try dsimp only
              exact SL.out _ K14.out
            clear hK K
            try walk_nrm
            refine wpAnyH_take (i := 15) (v := ?_) rfl (by kernel_rfl) (by kernel_rfl) (by kernel_rfl) (fun _ _ _ h => h) (Or.inl ⟨by kernel_rfl, ?_⟩) (by assumption) ?_
            rotate_left
            · intro w' hSw
              try dsimp only at hSw
              go_simp
              try with_reducible rfl
            try walk_nrm
            refine wpAnyH_take (i := 16) (v := ?_) rfl (by kernel_rfl) (by kernel_rfl) (by kernel_rfl) (fun _ _ _ h => h) (Or.inl ⟨by kernel_rfl, ?_⟩) (by assumption) ?_
            rotate_left
            · intro w' hSw
              try dsimp only at hSw
              go_simp
              try with_reducible rfl
            try walk_nrm
            refine wpAnyH_ready (rs := [17]) (by kernel_rfl) (by simp) ?_
            refine AllReadyH.cons rfl (fun K hK => ?_) AllReadyH.nil
            rw [if_pos (by kernel_rfl)]
            go_simp
            skip
            first | refine hK.out _ _ ?_ (fun hHeld => ?_) | (go_wp2_with fail; refine hK.out _ _ ?_ (fun hHeld => ?_))
            · try dsimp only
              exact ⟨HSY.out _ K14.out _, (HW5.out _ K14.out).2.2.2.2 _⟩
            clear hK K
            try walk_nrm
            refine wpAnyH_done (by kernel_rfl) ?_ _
            go_wp2_with fail
            exact bodyPost_ret (v := .int .i64 0) (by simp [results, Tryz.results23, go_sem]) rfl ⟨rfl, VoTo.later H4.out.2.1 (VoTo.cons H5x.out.2.1 H5x.out.2.2 (VoTo.later K14.out ((H5x.out.1.below K14.out).setT HK.out _)))⟩
      · have q1' : (st == 1) = false := by simpa using q1
        rw [if_neg q1]
        clear q1
        cases p with
        | true =>
         rw [if_pos rfl]
         go_enter Tryz.func23, Tryz.ntmps23
         go_upto_region 7 with (first
          | (go_at_call 57; refine (bound_Account _ _).mono ?_; rw [HA.out]; rintro e w' ⟨rfl, hw⟩; rw [hw]; clear hw w')
          | (go_at_call 47; refine HP.out.mono ?_; rintro e w' ⟨rfl, hw⟩; rw [hw]; clear hw w')
          | (go_at_call 59; refine HG.out.mono ?_; rintro e w3 ⟨rfl, hb⟩; have K3 := Lib.hid hb; clear hb)
          | (refine wpl_allocS (s := balS) rfl rfl rfl ?_)
          | (refine wpl_storeS (s := balS) (t := x) (b := w3.heap.size) _ _ rfl rfl rfl rfl rfl (World.alloc_heap_new w3 _) (zeroS balS) ?_; rw [newS])
          | fail)
         obtain ⟨yb, hyb⟩ : ∃ yb, yb = w3.heap.size := ⟨_, rfl⟩
         obtain ⟨w4, hw4⟩ : ∃ w4, w4 = w3.alloc (balS.obj x) := ⟨_, rfl⟩
         have hr4 : w4.rangeAt yb 0 (balS.f x) := by rw [hw4, hyb]; exact atS balS w3 x
         have hb4 : Below w.heap.size w w4 := by rw [hw4]; exact K3.out.alloc K3.out.size _
         have hl4 : yb < w4.heap.size ∧ w.heap.size ≤ yb := by rw [hw4, hyb]; exact ⟨by simp, K3.out.size⟩
         rw [← hw4, ← hyb]
         have c74 := HTB.out w4 hb4
         have H4 := Lib.hid (And.intro hr4 (And.intro hb4 hl4))
         clear hw4 hyb hr4 hb4 hl4 c72
         go_upto_region 8 with (first
          | (go_at_call 68; refine (HD.out w4 H4.out.2.1).mono ?_; rintro e w5 ⟨rfl, hto⟩; have H5 := Lib.hid hto; clear hto)
          | fail)
         obtain ⟨F5, hx5, hF5, ho5⟩ := H5.out
         obtain ⟨hr4, hb4, hl4, hl4'⟩ := H4.out
         have hnF : ∀ k, w.heap.size ≤ k → ¬ F k := fun k hk hf => by have := HX.out.lt hf; omega
         have hr5 : w5.rangeAt yb 0 (balS.f x) := rangeAt_block hr4 (ho5.block yb hl4 (hnF yb hl4') (fun h => h))
         have hl5 : yb < w5.heap.size := Nat.lt_of_lt_of_le hl4 ho5.grow.size
         have hn5 : yb ≠ vb := fun e => by have := HX.out.lt HX.out.own; omega
         have hSx : ∀ W, Below w5.heap.size w5 W → (loadSt_V (.pointer (some ⟨yb, 0, none⟩))).run Tryz.prog W = .ok (.agg (balS.f x).toArray) W := fun W hb => run_loadSt_V (rangeAt_block hr5 (hb.block yb hl5))
         have hSy : ∀ W, Below w5.heap.size w5 W → ∀ vs, (loadSt_V (.pointer (some ⟨yb, 0, none⟩))).run Tryz.prog (W.setCells vb (k * 6 + 2) vs) = .ok (.agg (balS.f x).toArray) (W.setCells vb (k * 6 + 2) vs) := fun W hb vs => run_loadSt_V (rangeAt_block hr5 ((setCells_off hn5 _ _ _).trans (hb.block yb hl5)))
         have hcl : ∀ W, Below w5.heap.size w5 W → W.cell? ⟨yb, 2, none⟩ = some (.int .i64 x.l) ∧ W.cell? ⟨yb, 3, none⟩ = some (.int .i64 x.a) := fun W hb => ⟨(rangeAt_block hr5 (hb.block yb hl5)) 2 _ rfl, (rangeAt_block hr5 (hb.block yb hl5)) 3 _ rfl⟩
         have H5x := Lib.hid (And.intro hx5 (And.intro hF5 ho5))
         have HW5 := Lib.hid (fun W hb => HW.out F5 w5 W hx5 hb)
         have HSX := Lib.hid hSx
         have HSY := Lib.hid hSy
         have HCL := Lib.hid hcl
         have K5 := Lib.hid (Below.refl w5.heap.size w5)
         clear hx5 hF5 ho5 hr4 hb4 hl4 hl4' hnF hr5 hl5 hn5 hSx hSy hcl c74
         have lx5 := HSX.out _ K5.out
         go_upto_region 11 with (first
          | (go_at_call 55; refine (HO.out F5 w5 H5x.out.1).mono ?_; rintro e wx ⟨rfl, hw⟩; rw [hw]; clear hw wx)
          | (go_at_call 69; refine (HWN.out F5 w5 H5x.out.1).mono ?_; rintro e w6 ⟨rfl, hb⟩; have K6 := Lib.hid hb; clear hb)
          | fail)
         have K6d := Lib.hid (show Below w5.heap.size w5 w6.drew from K6.out.drew)
         obtain ⟨z1, z5, -⟩ := HW5.out _ K6d.out
         obtain ⟨y2, y3⟩ := HCL.out _ K6d.out
         clear lx5
         refine wp_region_still_tail 17 (by kernel_rfl) (by kernel_rfl) ?_
         simp only [List.take_succ_cons, List.take_zero, List.drop_succ_cons, List.drop_zero]
         change wpStill _ _ w6.drew _ _ _
         repeat still_step
         still_call (HPE.out (by trivial) w6.drew)
         repeat still_step
         refine wpStill_nil ?_
         change wpList _ _ _ _ _ w6.drew
         go_wp2_with (first
          | (go_at_call 70; refine (HJ.out F5 _ (H5x.out.1.below K6d.out) _ _).mono ?_; rintro e w7 ⟨rfl, hto⟩; have H7 := Lib.hid hto; clear hto)
          | fail)
         exact bodyPost_ret (v := .int .i64 0) (by simp [results, Tryz.results23, go_sem]) rfl ⟨rfl, VoTo.later H4.out.2.1 (VoTo.cons H5x.out.2.1 H5x.out.2.2 (VoTo.later K6d.out H7.out))⟩
        | false =>
         rw [if_neg (by decide)]
         go_enter Tryz.func23, Tryz.ntmps23
         go_upto_region 7 with (first
          | (go_at_call 57; refine (bound_Account _ _).mono ?_; rw [HA.out]; rintro e w' ⟨rfl, hw⟩; rw [hw]; clear hw w')
          | (go_at_call 47; refine HP.out.mono ?_; rintro e w' ⟨rfl, hw⟩; rw [hw]; clear hw w')
          | (go_at_call 59; refine HG.out.mono ?_; rintro e w3 ⟨rfl, hb⟩; have K3 := Lib.hid hb; clear hb)
          | (refine wpl_allocS (s := balS) rfl rfl rfl ?_)
          | (refine wpl_storeS (s := balS) (t := x) (b := w3.heap.size) _ _ rfl rfl rfl rfl rfl (World.alloc_heap_new w3 _) (zeroS balS) ?_; rw [newS])
          | fail)
         obtain ⟨yb, hyb⟩ : ∃ yb, yb = w3.heap.size := ⟨_, rfl⟩
         obtain ⟨w4, hw4⟩ : ∃ w4, w4 = w3.alloc (balS.obj x) := ⟨_, rfl⟩
         have hr4 : w4.rangeAt yb 0 (balS.f x) := by rw [hw4, hyb]; exact atS balS w3 x
         have hb4 : Below w.heap.size w w4 := by rw [hw4]; exact K3.out.alloc K3.out.size _
         have hl4 : yb < w4.heap.size ∧ w.heap.size ≤ yb := by rw [hw4, hyb]; exact ⟨by simp, K3.out.size⟩
         rw [← hw4, ← hyb]
         have c74 := HTB.out w4 hb4
         have H4 := Lib.hid (And.intro hr4 (And.intro hb4 hl4))
         clear hw4 hyb hr4 hb4 hl4 c72
         go_upto_region 8 with (first
          | (go_at_call 68; refine (HD.out w4 H4.out.2.1).mono ?_; rintro e w5 ⟨rfl, hto⟩; have H5 := Lib.hid hto; clear hto)
          | fail)
         obtain ⟨F5, hx5, hF5, ho5⟩ := H5.out
         obtain ⟨hr4, hb4, hl4, hl4'⟩ := H4.out
         have hnF : ∀ k, w.heap.size ≤ k → ¬ F k := fun k hk hf => by have := HX.out.lt hf; omega
         have hr5 : w5.rangeAt yb 0 (balS.f x) := rangeAt_block hr4 (ho5.block yb hl4 (hnF yb hl4') (fun h => h))
         have hl5 : yb < w5.heap.size := Nat.lt_of_lt_of_le hl4 ho5.grow.size
         have hn5 : yb ≠ vb := fun e => by have := HX.out.lt HX.out.own; omega
         have hSx : ∀ W, Below w5.heap.size w5 W → (loadSt_V (.pointer (some ⟨yb, 0, none⟩))).run Tryz.prog W = .ok (.agg (balS.f x).toArray) W := fun W hb => run_loadSt_V (rangeAt_block hr5 (hb.block yb hl5))
         have hSy : ∀ W, Below w5.heap.size w5 W → ∀ vs, (loadSt_V (.pointer (some ⟨yb, 0, none⟩))).run Tryz.prog (W.setCells vb (k * 6 + 2) vs) = .ok (.agg (balS.f x).toArray) (W.setCells vb (k * 6 + 2) vs) := fun W hb vs => run_loadSt_V (rangeAt_block hr5 ((setCells_off hn5 _ _ _).trans (hb.block yb hl5)))
         have hcl : ∀ W, Below w5.heap.size w5 W → W.cell? ⟨yb, 2, none⟩ = some (.int .i64 x.l) ∧ W.cell? ⟨yb, 3, none⟩ = some (.int .i64 x.a) := fun W hb => ⟨(rangeAt_block hr5 (hb.block yb hl5)) 2 _ rfl, (rangeAt_block hr5 (hb.block yb hl5)) 3 _ rfl⟩
         have H5x := Lib.hid (And.intro hx5 (And.intro hF5 ho5))
         have HW5 := Lib.hid (fun W hb => HW.out F5 w5 W hx5 hb)
         have HSX := Lib.hid hSx
         have HSY := Lib.hid hSy
         have HCL := Lib.hid hcl
         have K5 := Lib.hid (Below.refl w5.heap.size w5)
         clear hx5 hF5 ho5 hr4 hb4 hl4 hl4' hnF hr5 hl5 hn5 hSx hSy hcl c74
         have lx5 := HSX.out _ K5.out
         go_wp2_with (first
          | (go_at_call 55; refine (HO.out F5 w5 H5x.out.1).mono ?_; rintro e wx ⟨rfl, hw⟩; rw [hw]; clear hw wx)
          | (go_at_call 69; refine (HWN.out F5 w5 H5x.out.1).mono ?_; rintro e w6 ⟨rfl, hb⟩; have K6 := Lib.hid hb; clear hb)
          | fail)
         exact bodyPost_ret (v := .int .i64 0) (by simp [results, Tryz.results23, go_sem]) rfl ⟨rfl, VoTo.later H4.out.2.1 (VoTo.cons H5x.out.2.1 H5x.out.2.2 (VoTo.of_below H5x.out.1 K6.out))⟩
   · have hE : unvoteE S a r = 4 := by unfold unvoteE; rw [if_neg (fun q => q hac), if_pos (.inl hh)]
     have hS : unvoteS S a r now = S := by unfold unvoteS; rw [if_neg (by rw [hE]; decide)]
     rw [hE, hS]
     rw [plPtr_none hh] at hp
     have HG := Lib.hid hget
     have HP := Lib.hid hp
     have HX := Lib.hid h
     clear hget hp h hv ha hr hac hL htb hgV hdV hx hq hh hE hS
     go_enter Tryz.func23, Tryz.ntmps23
     go_wp2_with (first
      | (go_at_call 57; refine (bound_Account _ _).mono ?_; rw [HA.out]; rintro e w' ⟨rfl, hw⟩; rw [hw]; clear hw w')
      | (go_at_call 47; refine HP.out.mono ?_; rintro e w' ⟨rfl, hw⟩; rw [hw]; clear hw w')
      | (go_at_call 59; refine HG.out.mono ?_; rintro e w3 ⟨rfl, hb⟩; have K3 := Lib.hid hb; clear hb)
      | (refine wpl_allocS (s := balS) rfl rfl rfl ?_)
      | (refine wpl_storeS (s := balS) (t := x) (b := w3.heap.size) _ _ rfl rfl rfl rfl rfl (World.alloc_heap_new w3 _) (zeroS balS) ?_; rw [newS])
      | fail)
     exact bodyPost_ret (v := .int .i64 4) (by simp [results, Tryz.results23, go_sem]) rfl ⟨rfl, VoTo.of_below HX.out (K3.out.alloc K3.out.size _)⟩
 · have HA := Lib.hid (show decide (0 ≤ a ∧ a < 10) = false from decide_eq_false hac)
   have hE : unvoteE S a r = 1 := by unfold unvoteE; rw [if_pos hac]
   have hS : unvoteS S a r now = S := by unfold unvoteS; rw [if_neg (by rw [hE]; decide)]
   rw [hE, hS]
   have HX := Lib.hid h
   clear h hv ha hr hac hE hS
   go_enter Tryz.func23, Tryz.ntmps23
   go_wp2_with (first
    | (go_at_call 57; refine (bound_Account _ _).mono ?_; rw [HA.out]; rintro e w' ⟨rfl, hw⟩; rw [hw]; clear hw w')
    | fail)
   exact bodyPost_ret (v := .int .i64 1) (by simp [results, Tryz.results23, go_sem]) rfl ⟨rfl, VoTo.refl HX.out⟩
end
section
open Go.RowKit Go.Maps Go.Shelf
attribute [local go_sem] Oper.semAt_some
theorem maxCap_snoc (l : List (Int × Bal)) (x : Int × Bal) (n : Int) : maxCap (l ++ [x]) n = max (maxCap l n) (capB x.2) := by simp [maxCap]
theorem Stt.keep {g vb N : Nat} {S : Vs} {A : Acc} {M : Cls Int} {F FL Zn : FP} {w : World} {bs : List (Nat × List Value)} {W W' : World} (h : Stt g vb N S A M F FL Zn w bs W) (hg : Grow W W') (hk : ∀ k, F k ∨ FL k → W'.heap[k]? = W.heap[k]?) (hb : Below w.heap.size W W') : Stt g vb N S A M F FL Zn w [] W' :=
 ⟨h.vo.keep hg (fun k hf => hk k (.inl hf)), h.ld.keep hg (fun k hf => hk k (.inr hf)), h.dis, ⟨h.on.grow.trans hg, fun k hk h1 h2 => (hb.block k hk).trans (h.on.block k hk h1 h2)⟩, h.sub, fun b hb => by cases hb⟩
def UnlI (N0 nb : Nat) (n0 : Int) (pre : List (Int × Bal)) (Φ : FP) (W : World) : Prop := (∀ k, ¬ Φ k) ∧ Boxed W nb 3 (.int .i64 (maxCap pre n0)) ∧ N0 ≤ W.heap.size
theorem UnlI.stab {N0 nb : Nat} {n0 : Int} (h1 : nb < N0) : Stab N0 (UnlI N0 nb n0) := by
 rintro pre Φ W ⟨h0, h, hs⟩
 exact ⟨fun k hk => (h0 k hk).elim, hs, fun W' hg hk => ⟨h0, (hk nb (.inl h1)).trans h, Nat.le_trans hs hg.size⟩⟩
set_option maxHeartbeats 8000000 in
set_option maxRecDepth 100000 in
attribute [local go_sem ↓] loadSt_V_hide in
theorem LvAt.Unlock {g vb N : Nat} {S : Vs} {A : Acc} {M : Cls Int} {Zn : FP} {w : World} (h : LvAt g vb N S A M Zn w) (hv : VInv S) (hM : M.length < 10000) {a t now : Int} (ha : (Lit.int .i64 a).wf = true) (ht : (Lit.int .i64 t).wf = true) :
 Calls Tryz.prog 26 #[.pointer (some ⟨vb, 0, none⟩), .pointer (some ⟨g, 0, none⟩), .int .i64 a, .int .i64 t, .int .i64 now] w fun e w' => e = .returned (.int .i64 (unlE a t)) ∧ LvTo g vb N (unlS S a t now) A (unlM S M a t now) Zn w w' := by
 by_cases hac : isAcc a
 · have HA := Lib.hid (show decide (0 ≤ a ∧ a < 10) = true from decide_eq_true hac)
   by_cases htr : 0 ≤ t ∧ t < 4
   · have HT := Lib.hid (show decide (0 ≤ t ∧ t < 4) = true from decide_eq_true htr)
     have hE : unlE a t = 0 := by unfold unlE; rw [if_neg (fun q => q.elim (fun q => q hac) (fun q => q htr))]
     have hS : unlS S a t now = { S with Q := unlQ S a t now } := by unfold unlS; rw [if_pos hE]
     have hMM : unlM S M a t now = lockM M a t (unlN S a t now) := by unfold unlM; rw [if_pos hE]
     rw [hE, hS, hMM]
     obtain ⟨F, FL, hs⟩ := Stt.start h
     have hL := hv.lens hs.vo
     obtain ⟨gv, gd, gw, gp, htb, -, -, -, -, -, -, -, hdQ⟩ := hs.vo.tables
     have hpr := hs.vo.prior ha ht
     obtain ⟨S1, hS1⟩ : ∃ S1, S1 = { S with Q := unlQ S a t now } := ⟨_, rfl⟩
     obtain ⟨p1, hp1⟩ : ∃ p1, p1 = (cget S.Q a t).getD priS.zero := ⟨_, rfl⟩
     obtain ⟨dd, hdd⟩ : ∃ dd, dd = undD S a t := ⟨_, rfl⟩
     obtain ⟨dq, hdq⟩ : ∃ dq, dq = (cget S.D a t).isSome := ⟨_, rfl⟩
     obtain ⟨p2, hp2⟩ : ∃ p2, p2 = (cget S1.Q a t).getD priS.zero := ⟨_, rfl⟩
     obtain ⟨xs, hxs⟩ : ∃ xs, xs = ballots S a t := ⟨_, rfl⟩
     have hN : unlN S a t now = maxCap xs (max dd.n p2.c) := by unfold unlN; rw [← hxs, ← hdd, hp2, hS1]; rfl
     rw [← hp1] at hpr
     have hdg : ∀ F' W, VoX vb N S1 F' W → Calls Tryz.prog 16 #[.pointer (some ⟨vb, 0, none⟩), .int .i64 a, .int .i64 t] W fun e w' => e = .returned (.tuple #[.int .i64 dd.to, .int .i64 dd.l, .int .i64 dd.n, .bool dq]) ∧ Below W.heap.size W w' := fun F' W hx => by
      have := hx.delegating ha ht
      rw [show S1.D = S.D by rw [hS1]] at this
      rw [hdd, hdq]; exact this
     have hp2c : ∀ F' W, VoX vb N S1 F' W → Calls Tryz.prog 17 #[.pointer (some ⟨vb, 0, none⟩), .int .i64 a, .int .i64 t] W fun e w' => e = .returned (.tuple #[.int .i64 p2.v, .int .i64 p2.c]) ∧ Below W.heap.size W w' := fun F' W hx => by
      rw [hp2]; exact hx.prior ha ht
     have hbal : ∀ F' W, VoX vb N S1 F' W → Calls Tryz.prog 78 #[.pointer (some ⟨vb, 0, none⟩), .int .i64 a, .int .i64 t] W (BalWay vb S1 F' a t W) := fun F' W hx => hx.balWay (by rw [show S1.V = S.V by rw [hS1]]; omega) ha (by rw [show S1.V = S.V by rw [hS1]]; exact fun x hx => (hv.row a x hx).1) t
     have hxs1 : ballots S1 a t = xs := by rw [hxs, hS1]; rfl
     have hok : ∀ x ∈ xs, balOk x.2 = true := fun x hx => by rw [hxs] at hx; exact (hv.row a x (List.mem_filter.1 hx).1).2.2
     have hdel := fun W hb => hdQ W hb a t (by omega) ha ht
     have hq1 : p1.v ≤ now → { S with Q := cdel S.Q a t } = S1 := fun q => by rw [hS1]; unfold unlQ; rw [if_pos (by rw [hp1] at q; exact q)]
     have hq2 : ¬ p1.v ≤ now → S = S1 := fun q => by rw [hS1]; unfold unlQ; rw [if_neg (by rw [hp1] at q; exact q)]
     have HTB := Lib.hid (show ∀ W, Below w.heap.size w W → W.cell? ⟨vb, 75, none⟩ = some (.pointer (some ⟨gp, 0, none⟩)) from fun W hb => (htb W hb).2.2.2)
     have HPR := Lib.hid hpr
     have HD := Lib.hid hdel
     have HDG := Lib.hid hdg
     have HP2 := Lib.hid hp2c
     have HBL := Lib.hid (And.intro hbal hxs1)
     have HOK := Lib.hid hok
     have HST := Lib.hid hs
     have HM := Lib.hid (And.intro hM (And.intro hac (And.intro ha (And.intro ht hN))))
     have HQ1 := Lib.hid hq1
     have HQ2 := Lib.hid hq2
     rw [← hS1, hN]
     clear hE hS hMM hs hL htb hdQ hpr hp1 hdd hdq hp2 hxs hN hdg hp2c hbal hxs1 hok hdel hq1 hq2 hS1 h hv hM ha ht hac htr
     by_cases q1 : p1.v ≤ now
     · have HQ := Lib.hid q1
       refine (callsIn_wide (n := 3)).1 ?_
       refine callsIn_of_wp_marks Tryz.func26 rfl trivial ?_ rfl
       simp only [Tryz.ntmps26, List.size_toArray, List.length_cons, List.length_nil, Nat.reduceAdd, Nat.reduceSub, Array.replicate_succ, Array.replicate_zero, List.push_toArray, List.append_toArray, List.nil_append, List.cons_append]
       gi_upto_region 6 with (first
        | (gi_at_call 57; refine (callsIn_wide.2 (bound_Account _ _)).mono ?_; rw [HA.out]; rintro e w' ⟨rfl, hw⟩; rw [hw]; clear hw w')
        | (refine ⟨trivial, ?_⟩; gi_at_call 57; refine (callsIn_wide.2 (bound_Account _ _)).mono ?_; rw [HA.out]; rintro e w' ⟨rfl, hw⟩; rw [hw]; clear hw w')
        | (gi_at_call 54; refine (callsIn_wide.2 (voting_isTrack _ _)).mono ?_; rw [HT.out]; rintro e w' ⟨rfl, hw⟩; rw [hw]; clear hw w')
        | (refine ⟨trivial, ?_⟩; gi_at_call 54; refine (callsIn_wide.2 (voting_isTrack _ _)).mono ?_; rw [HT.out]; rintro e w' ⟨rfl, hw⟩; rw [hw]; clear hw w')
        | (gi_at_call 17; with_reducible refine (callsIn_wide.2 HPR.out).mono ?_; rintro e w3 ⟨rfl, hb⟩; have K3 := Lib.hid hb; have c75 := HTB.out w3 hb; clear hb)
        | (refine ⟨trivial, ?_⟩; gi_at_call 17; with_reducible refine (callsIn_wide.2 HPR.out).mono ?_; rintro e w3 ⟨rfl, hb⟩; have K3 := Lib.hid hb; have c75 := HTB.out w3 hb; clear hb)
        | (gi_at_call 77; refine (callsIn_wide.2 (HD.out w3 K3.out)).mono ?_; rintro e w4 ⟨rfl, hto⟩; have H4 := Lib.hid (VoTo.later K3.out hto); clear hto)
        | (refine ⟨trivial, ?_⟩; gi_at_call 77; refine (callsIn_wide.2 (HD.out w3 K3.out)).mono ?_; rintro e w4 ⟨rfl, hto⟩; have H4 := Lib.hid (VoTo.later K3.out hto); clear hto)
        | fail)
       have H4' := H4.out
       rw [HQ1.out HQ.out] at H4'
       obtain ⟨F4, hs4⟩ := HST.out.toV H4'
       have Q4 := Lib.hid hs4
       have L4 := Lib.hid (show w.heap.size ≤ w4.heap.size by obtain ⟨_, _, _, q⟩ := H4'; exact q.grow.size)
       clear hs4 H4' c75
       gi_upto_region 9 with (first
        | (gi_at_call 16; refine (callsIn_wide.2 (HDG.out F4 w4 Q4.out.vo)).mono ?_; rintro e w5 ⟨rfl, hb⟩; have Q5 := Lib.hid (Q4.out.below hb); have K5 := Lib.hid hb; clear hb)
        | (refine ⟨trivial, ?_⟩; gi_at_call 16; refine (callsIn_wide.2 (HDG.out F4 w4 Q4.out.vo)).mono ?_; rintro e w5 ⟨rfl, hb⟩; have Q5 := Lib.hid (Q4.out.below hb); have K5 := Lib.hid hb; clear hb)
        | (gi_at_call 17; with_reducible refine (callsIn_wide.2 (HP2.out F4 w5 Q5.out.vo)).mono ?_; rintro e w6 ⟨rfl, hb⟩; have Q6 := Lib.hid (Q5.out.below hb); have K6 := Lib.hid (K5.out.trans (hb.mono K5.out.size)); clear hb)
        | (refine ⟨trivial, ?_⟩; gi_at_call 17; with_reducible refine (callsIn_wide.2 (HP2.out F4 w5 Q5.out.vo)).mono ?_; rintro e w6 ⟨rfl, hb⟩; have Q6 := Lib.hid (Q5.out.below hb); have K6 := Lib.hid (K5.out.trans (hb.mono K5.out.size)); clear hb)
        | fail)
       obtain ⟨n0, hn0⟩ : ∃ n0, n0 = max dd.n p2.c := ⟨_, rfl⟩
       obtain ⟨nb, hnb⟩ : ∃ nb, nb = w6.heap.size := ⟨_, rfl⟩
       try rw [← hn0]
       obtain ⟨w7, hw7⟩ : ∃ w7, w7 = w6.alloc (.cells #[.int .i64 n0] 3) := ⟨_, rfl⟩
       rw [← hw7, ← hnb]
       have hb7 : Below w6.heap.size w6 w7 := by rw [hw7]; exact (Below.refl _ w6).alloc (Nat.le_refl _) _
       have x7 : Boxed w7 nb 3 (.int .i64 n0) := by rw [hw7, hnb]; exact Boxed.new w6 _ _
       have hnl : nb < w7.heap.size := by rw [hw7, hnb]; simp
       have H7 := Lib.hid (And.intro x7 (And.intro hb7 (And.intro hnl hn0)))
       have Q7 := Lib.hid (Q6.out.below hb7)
       have hnF : ¬ F4 nb := fun hf => by have := Q6.out.vo.lt hf; omega
       have hnL : ¬ FL nb := fun hf => by have := Q6.out.ld.lt hf; omega
       have HNF := Lib.hid (And.intro hnF (And.intro hnL (show w4.heap.size ≤ nb by have := K6.out.size; omega)))
       have hbw := HBL.out.1 F4 w7 Q7.out.vo
       unfold BalWay at hbw
       rw [HBL.out.2] at hbw
       have HBW := Lib.hid hbw
       clear hw7 hnb hb7 x7 hnl hn0 hnF hnL hbw
       gi_wp2_with (first
        | (gi_at_call 78; refine (callsIn_wide.2 HBW.out).mono ?_; rintro e w8 ⟨rfl, hb, hs8, -, hit⟩; have H8 := Lib.hid (And.intro hit (And.intro hb hs8)); clear hit hb hs8)
        | (refine ⟨trivial, ?_⟩; gi_at_call 78; refine (callsIn_wide.2 HBW.out).mono ?_; rintro e w8 ⟨rfl, hb, hs8, -, hit⟩; have H8 := Lib.hid (And.intro hit (And.intro hb hs8)); clear hit hb hs8)
        | fail)
       obtain ⟨hit, hb8, hs8⟩ := H8.out
       obtain ⟨x7, hb7, hnl7, hn0⟩ := H7.out
       have x8 : Boxed w8 nb 3 (.int .i64 (maxCap [] n0)) := (hb8.block nb hnl7).trans x7
       have hnl : nb < w8.heap.size := Nat.lt_of_lt_of_le hnl7 hb8.size
       have hF4 : ∀ k, F4 k → k < w7.heap.size := fun k hk => Q7.out.vo.lt hk
       have hGl : ∀ k, (F4 k ∨ k = w7.heap.size ∨ k = w7.heap.size + 1 ∨ k = w7.heap.size + 1 + 1) → k < w8.heap.size ∧ k ≠ nb := fun k hk => by
        rcases hk with h | h
        · exact ⟨by have := hF4 k h; omega, fun e => HNF.out.1 (e ▸ h)⟩
        · omega
       have mixed : Tryz.prog.follows .mixedOrders = true := by kernel_rfl
       have HIT := Lib.hid (hit 0)
       have HB8 := Lib.hid hb8
       clear hit hb8 hs8 x7 hb7 hnl7 hn0 hF4
       refine range_outerAU (n := 1) (gf := 116) rfl enters_ballots1 HIT.out (Grow.refl w8) (fun k hk => ⟨(hGl k hk).1, rfl⟩) (fun _ => rfl)
        (fun k => k = nb) (by rintro k rfl; exact ⟨hnl, fun h => (hGl _ h).2 rfl⟩) (UnlI w8.heap.size nb n0) (fun _ _ _ _ => False) (UnlI.stab hnl) (fun c _ _ _ h => h.elim) ⟨fun _ h => h, x8, Nat.le_refl _⟩
        (fun x N T => ((T.setIfInBounds 78 (.int .i64 x.1)).setIfInBounds 79 (balVal x)).setIfInBounds 21 (.pointer (some ⟨N, 0, none⟩)))
        (fun x N W => W.heap[N]? = some (.cells #[.int .i64 x.2.k, .bool x.2.aye, .int .i64 x.2.l, .int .i64 x.2.a, .int .i64 x.2.n, .int .i64 x.2.s] 28 (0, 0))) (fun x N W W' h e => e.trans h) ?assign ?body ?done ?stop
       case stop => exact fun _ _ _ _ _ _ h => h.elim
       case assign =>
        intro l x W K hK
        simp only [encs_V]
        clear hGl
        gi_wp2
        exact hK _ ((Below.refl _ W).alloc (Nat.le_refl _) _) (by simp) (World.alloc_heap_new _ _)
       case body =>
        rintro l pre x Φi Nx W' hpx ⟨hno, hbx, hsz⟩ hl hΦl - hlN hNW hAt
        have hok := HOK.out x (hpx.subset (by simp))
        have hmx := maxCap_snoc pre x n0
        obtain ⟨m, hm⟩ : ∃ m, m = maxCap pre n0 := ⟨_, rfl⟩
        obtain ⟨xb, hxb⟩ : ∃ xb, xb = x.2 := ⟨_, rfl⟩
        obtain ⟨cp, hcp⟩ : ∃ cp, cp = capB xb := ⟨_, rfl⟩
        rw [← hm] at hbx hmx
        rw [← hxb, ← hcp] at hmx
        have hcap : ∀ wx, Calls Tryz.prog 60 #[.agg (balS.f xb).toArray] wx fun e w' => e = .returned (.int .i64 cp) ∧ Below wx.heap.size wx w' := fun wx => by rw [hcp]; exact cCap xb (by rw [hxb]; exact hok) wx
        have hNr : W'.rangeAt Nx 0 (balS.f xb) := by rw [hxb]; exact rangeAt_whole (T := balS.T) hAt
        have hnx : Nx ≠ nb := by omega
        have hnbW : nb < W'.heap.size := by omega
        have hS : ∀ wx, Below W'.heap.size W' wx → (loadSt_V (.pointer (some ⟨Nx, 0, none⟩))).run Tryz.prog wx = .ok (.agg (balS.f xb).toArray) wx ∧ wx.cell? ⟨nb, 0, none⟩ = some (.int .i64 m) ∧ wx.frozen? ⟨nb, 0, none⟩ = false := fun wx hb => by
         have hbb : Boxed wx nb 3 (.int .i64 m) := (hb.block nb hnbW).trans hbx
         exact ⟨run_loadSt_V (rangeAt_block hNr (hb.block Nx hNW)), hbb.cell, hbb.frozen⟩
        have hS2 : ∀ wx, Below W'.heap.size W' wx → ∀ v, (loadSt_V (.pointer (some ⟨Nx, 0, none⟩))).run Tryz.prog (wx.setCell ⟨nb, 0, none⟩ v) = .ok (.agg (balS.f xb).toArray) (wx.setCell ⟨nb, 0, none⟩ v) ∧ ((wx.setCell ⟨nb, 0, none⟩ v).heap[nb]? = some (.cells #[v] 3 (0, 0))) ∧ ∀ j, j ≠ nb → j < W'.heap.size → (wx.setCell ⟨nb, 0, none⟩ v).heap[j]? = W'.heap[j]? := fun wx hb v => by
         have hbb : Boxed wx nb 3 (.int .i64 m) := (hb.block nb hnbW).trans hbx
         exact ⟨run_loadSt_V (rangeAt_block hNr ((Below.heap_setCell _ _ _ Nx hnx).trans (hb.block Nx hNW))), hbb.set v, fun j hj hl => (Below.heap_setCell _ _ _ j hj).trans (hb.block j hl)⟩
        have HS := Lib.hid hS
        have HS2 := Lib.hid hS2
        have HC := Lib.hid hcap
        have HR := Lib.hid (And.intro hno (And.intro hsz (And.intro hmx hbx)))
        have K0 := Lib.hid (show Below W'.heap.size W' W'.drew from (Below.refl _ W').drew)
        have SL := Lib.hid (show ∀ W, Below W'.heap.size W' W → (loadSt_V (.pointer (some ⟨Nx, 0, none⟩))).run Tryz.prog W = .ok (.agg (balS.f xb).toArray) W from fun W hb => (hS W hb).1)
        obtain ⟨-, z0, -⟩ := hS _ K0.out
        clear hno hbx hsz hmx hm hxb hcp hcap hNr hnx hnbW hS hS2 hok hpx hAt hGl
        gi_upto_region 11 with fail
        refine wpIn_region_heldR (S := fun wx => (loadSt_V (.pointer (some ⟨Nx, 0, none⟩))).run Tryz.prog wx = .ok (.agg (balS.f xb).toArray) wx) (R := fun a wx => ∃ w9, Below W'.heap.size W' w9 ∧ wx = w9.setCell ⟨nb, 0, none⟩ (.int .i64 (max m cp))) mixed (by kernel_rfl) (SL.out _ K0.out) (fun hHeld => ?_) ?_
        · refine wpAnyH_take (i := 1) (v := ?_) rfl (by kernel_rfl) (by kernel_rfl) (by kernel_rfl) (fun _ _ _ h => h) (Or.inl ⟨by kernel_rfl, ?_⟩) (by assumption) ?_
          rotate_left
          · intro w' hSw
            try dsimp only at hSw
            go_simp
            try with_reducible rfl
          try walk_nrm
          refine wpAnyH_ready (rs := [0, 2]) (by kernel_rfl) (by simp) ?_
          refine AllReadyH.cons rfl (fun K hK => ?_) (AllReadyH.cons rfl (fun K hK => ?_) AllReadyH.nil)
          · rw [if_pos (by kernel_rfl)]
            go_simp
            skip
            first | refine hK.out _ _ ?_ (fun hHeld => ?_) | (go_wp2_with fail; refine hK.out _ _ ?_ (fun hHeld => ?_))
            · try dsimp only
              exact SL.out _ K0.out
            clear hK K
            try walk_nrm
            refine wpAnyH_ready (rs := [2]) (by kernel_rfl) (by simp) ?_
            refine AllReadyH.cons rfl (fun K hK => ?_) AllReadyH.nil
            rw [if_pos (by kernel_rfl)]
            go_simp
            go_at_call 60; refine (HC.out _).mono ?_; rintro e w9 ⟨rfl, hb⟩; have K9 := Lib.hid (K0.out.trans (hb.mono K0.out.size)); obtain ⟨-, z9, f9⟩ := HS.out _ K9.out; clear hb
            first | refine hK.out _ _ ?_ (fun hHeld => ?_) | (go_wp2_with fail; refine hK.out _ _ ?_ (fun hHeld => ?_))
            · try dsimp only
              exact SL.out _ K9.out
            clear hK K
            try walk_nrm
            refine wpAnyH_ready (rs := [3]) (by kernel_rfl) (by simp) ?_
            refine AllReadyH.cons rfl (fun K hK => ?_) AllReadyH.nil
            rw [if_pos (by kernel_rfl)]
            go_simp
            skip
            first | refine hK.out _ _ ?_ (fun hHeld => ?_) | (go_wp2_with fail; refine hK.out _ _ ?_ (fun hHeld => ?_))
            · try dsimp only
              exact SL.out _ K9.out
            clear hK K
            try walk_nrm
            refine wpAnyH_ready (rs := [4]) (by kernel_rfl) (by simp) ?_
            refine AllReadyH.cons rfl (fun K hK => ?_) AllReadyH.nil
            rw [if_pos (by kernel_rfl)]
            go_simp
            skip
            first | refine hK.out _ _ ?_ (fun hHeld => ?_) | (go_wp2_with fail; refine hK.out _ _ ?_ (fun hHeld => ?_))
            · try dsimp only
              exact (HS2.out _ K9.out _).1
            clear hK K
            try walk_nrm
            refine wpAnyH_done (by kernel_rfl) ?_ _
            exact ⟨w9, K9.out, rfl⟩
          · rw [if_pos (by kernel_rfl)]
            go_simp
            go_at_call 60; refine (HC.out _).mono ?_; rintro e w9 ⟨rfl, hb⟩; have K9 := Lib.hid (K0.out.trans (hb.mono K0.out.size)); obtain ⟨-, z9, f9⟩ := HS.out _ K9.out; clear hb
            first | refine hK.out _ _ ?_ (fun hHeld => ?_) | (go_wp2_with fail; refine hK.out _ _ ?_ (fun hHeld => ?_))
            · try dsimp only
              exact SL.out _ K9.out
            clear hK K
            try walk_nrm
            refine wpAnyH_ready (rs := [0]) (by kernel_rfl) (by simp) ?_
            refine AllReadyH.cons rfl (fun K hK => ?_) AllReadyH.nil
            rw [if_pos (by kernel_rfl)]
            go_simp
            skip
            first | refine hK.out _ _ ?_ (fun hHeld => ?_) | (go_wp2_with fail; refine hK.out _ _ ?_ (fun hHeld => ?_))
            · try dsimp only
              exact SL.out _ K9.out
            clear hK K
            try walk_nrm
            refine wpAnyH_ready (rs := [3]) (by kernel_rfl) (by simp) ?_
            refine AllReadyH.cons rfl (fun K hK => ?_) AllReadyH.nil
            rw [if_pos (by kernel_rfl)]
            go_simp
            skip
            first | refine hK.out _ _ ?_ (fun hHeld => ?_) | (go_wp2_with fail; refine hK.out _ _ ?_ (fun hHeld => ?_))
            · try dsimp only
              exact SL.out _ K9.out
            clear hK K
            try walk_nrm
            refine wpAnyH_ready (rs := [4]) (by kernel_rfl) (by simp) ?_
            refine AllReadyH.cons rfl (fun K hK => ?_) AllReadyH.nil
            rw [if_pos (by kernel_rfl)]
            go_simp
            skip
            first | refine hK.out _ _ ?_ (fun hHeld => ?_) | (go_wp2_with fail; refine hK.out _ _ ?_ (fun hHeld => ?_))
            · try dsimp only
              exact (HS2.out _ K9.out _).1
            clear hK K
            try walk_nrm
            refine wpAnyH_done (by kernel_rfl) ?_ _
            exact ⟨w9, K9.out, rfl⟩
        rintro a wx ⟨w9, hb9, rfl⟩
        obtain ⟨hno, hsz, hmx, hbx⟩ := HR.out
        obtain ⟨-, k1, k2⟩ := HS2.out w9 hb9 (.int .i64 (max m cp))
        have hg9 : Grow W' (w9.setCell ⟨nb, 0, none⟩ (.int .i64 (max m cp))) := (Grow.of_below hb9).trans ⟨rfl, rfl, rfl, by simp [World.setCell]⟩
        refine ⟨Φi, fun k h => .inl h, ⟨hg9, fun k hk h1 h2 => k2 k h1 hk⟩, hno, ?_, Nat.le_trans hsz hg9.size⟩
        rw [hmx]
        exact k1
       case done =>
        rintro D Φ W3 ⟨hno, hbx, hsz⟩ hon hD hnD hK
        have c1 := hbx.cell
        have hb4 : Below w4.heap.size w4 W3 := by
         have h1 := K6.out.trans (H7.out.2.1.mono K6.out.size)
         have h2 := h1.trans (HB8.out.mono h1.size)
         exact ⟨hon.grow.os.trans h2.os, hon.grow.tape.trans h2.tape, hon.grow.output.trans h2.output, Nat.le_trans h2.size hon.grow.size, fun k hk => (hon.block k (Nat.lt_of_lt_of_le hk h2.size) (fun e => by have := HNF.out.2.2; omega) (fun h => h)).trans (h2.block k hk)⟩
        have Q9 := Lib.hid (Q4.out.below hb4)
        have hlock := ledger_LockX Q9.out.ld HM.out.1 HM.out.2.1 HM.out.2.2.1 HM.out.2.2.2.1 (maxCap xs n0)
        have HLO := Lib.hid hlock
        have hDl : D < W3.heap.size := (Array.getElem?_eq_some_iff.1 hK).1
        have HD9 := Lib.hid (And.intro hD (And.intro hK (And.intro hDl hb4)))
        clear hno hbx hsz hon hD hnD hK hb4 hlock hDl hGl
        gi_wp2_with (first
         | (gi_at_call 79; refine (callsIn_wide.2 HLO.out).mono ?_; rintro e w10 ⟨rfl, hto⟩; have H10 := Lib.hid hto; clear hto)
         | (refine ⟨trivial, ?_⟩; gi_at_call 79; refine (callsIn_wide.2 HLO.out).mono ?_; rintro e w10 ⟨rfl, hto⟩; have H10 := Lib.hid hto; clear hto)
         | fail)
        obtain ⟨hD, hK, hDl, hb4⟩ := HD9.out
        obtain ⟨F10, k1, k2, k3⟩ := H10.out
        have hq := Q9.out.toL H10.out
        have hDL : ∀ k, FL k → k ≠ D := fun k hk e => by have := Q4.out.ld.lt hk; have := HB8.out.size; have := H7.out.2.2.1; have := HNF.out.2.2; omega
        have hFD : ∀ k, F4 k → k ≠ D := fun k hk e => by have := Q7.out.vo.lt hk; have := HB8.out.size; omega
        have hF10 : ∀ k, F10 k → k ≠ D := fun k hk e => (k2 k hk).elim (fun h => hDL k h e) (fun h => by omega)
        have hKD : w10.heap[D]? = some (.deferred (some [])) := (k3.block D hDl (fun h => hDL D h rfl) (fun h => h)).trans hK
        have hs10 : Stt g vb N S1 A (lockM M a t (maxCap xs n0)) F4 F10 Zn w [] w10 := ⟨Q9.out.vo.keep k3.grow (fun k hk => k3.block k (Q9.out.vo.lt hk) (fun e => Q9.out.dis k hk e) (fun h => h)), k1, fun k hk hl => (k2 k hl).elim (fun e => Q9.out.dis k hk e) (fun e => by have := Q9.out.vo.lt hk; omega), only_cons Q9.out.on (fun k hk => Q9.out.sub k (.inr hk)) k3, fun k hk => hk.elim (fun e => Q9.out.sub k (.inl e)) (fun e => (k2 k e).elim (fun e => Q9.out.sub k (.inr e)) (fun e => .inr (Nat.le_trans Q9.out.on.grow.size e))), fun b hb => by cases hb⟩
        refine marks_leave [D] w10 (by simp) (fun d hd => ?_) (fun w' hg hk => ⟨.int .i64 0, by simp [results, Tryz.results26, go_sem], rfl, ?_⟩)
        · simp only [List.mem_cons, List.not_mem_nil, or_false] at hd
          subst hd; exact hKD
        · have hs11 := hs10.keep (W' := w') hg (fun k hk' => hk k (by simp; exact hk'.elim (hFD k) (hF10 k))) ⟨hg.os, hg.tape, hg.output, hg.size, fun k hk' => hk k (by simp; have := HB8.out.size; have := H7.out.2.2.1; have := HNF.out.2.2; have := L4.out; omega)⟩
          have e0 := H7.out.2.2.2
          rw [← e0]
          exact hs11.to
     · have HQ := Lib.hid q1
       refine (callsIn_wide (n := 3)).1 ?_
       refine callsIn_of_wp_marks Tryz.func26 rfl trivial ?_ rfl
       simp only [Tryz.ntmps26, List.size_toArray, List.length_cons, List.length_nil, Nat.reduceAdd, Nat.reduceSub, Array.replicate_succ, Array.replicate_zero, List.push_toArray, List.append_toArray, List.nil_append, List.cons_append]
       gi_upto_region 6 with (first
        | (gi_at_call 57; refine (callsIn_wide.2 (bound_Account _ _)).mono ?_; rw [HA.out]; rintro e w' ⟨rfl, hw⟩; rw [hw]; clear hw w')
        | (refine ⟨trivial, ?_⟩; gi_at_call 57; refine (callsIn_wide.2 (bound_Account _ _)).mono ?_; rw [HA.out]; rintro e w' ⟨rfl, hw⟩; rw [hw]; clear hw w')
        | (gi_at_call 54; refine (callsIn_wide.2 (voting_isTrack _ _)).mono ?_; rw [HT.out]; rintro e w' ⟨rfl, hw⟩; rw [hw]; clear hw w')
        | (refine ⟨trivial, ?_⟩; gi_at_call 54; refine (callsIn_wide.2 (voting_isTrack _ _)).mono ?_; rw [HT.out]; rintro e w' ⟨rfl, hw⟩; rw [hw]; clear hw w')
        | (gi_at_call 17; with_reducible refine (callsIn_wide.2 HPR.out).mono ?_; rintro e w3 ⟨rfl, hb⟩; have K3 := Lib.hid hb; clear hb)
        | (refine ⟨trivial, ?_⟩; gi_at_call 17; with_reducible refine (callsIn_wide.2 HPR.out).mono ?_; rintro e w3 ⟨rfl, hb⟩; have K3 := Lib.hid hb; clear hb)
        | fail)
       obtain ⟨w4, hw4⟩ : ∃ w4, w4 = w3 := ⟨_, rfl⟩
       rw [← hw4]
       obtain ⟨F4, hF4⟩ : ∃ F4, F4 = F := ⟨_, rfl⟩
       have hs4 : Stt g vb N S1 A M F4 FL Zn w [] w4 := by rw [hw4, hF4, ← HQ2.out HQ.out]; exact HST.out.below K3.out
       have Q4 := Lib.hid hs4
       have L4 := Lib.hid (show w.heap.size ≤ w4.heap.size by rw [hw4]; exact K3.out.size)
       clear hs4 hw4 hF4
       gi_upto_region 9 with (first
        | (gi_at_call 16; refine (callsIn_wide.2 (HDG.out F4 w4 Q4.out.vo)).mono ?_; rintro e w5 ⟨rfl, hb⟩; have Q5 := Lib.hid (Q4.out.below hb); have K5 := Lib.hid hb; clear hb)
        | (refine ⟨trivial, ?_⟩; gi_at_call 16; refine (callsIn_wide.2 (HDG.out F4 w4 Q4.out.vo)).mono ?_; rintro e w5 ⟨rfl, hb⟩; have Q5 := Lib.hid (Q4.out.below hb); have K5 := Lib.hid hb; clear hb)
        | (gi_at_call 17; with_reducible refine (callsIn_wide.2 (HP2.out F4 w5 Q5.out.vo)).mono ?_; rintro e w6 ⟨rfl, hb⟩; have Q6 := Lib.hid (Q5.out.below hb); have K6 := Lib.hid (K5.out.trans (hb.mono K5.out.size)); clear hb)
        | (refine ⟨trivial, ?_⟩; gi_at_call 17; with_reducible refine (callsIn_wide.2 (HP2.out F4 w5 Q5.out.vo)).mono ?_; rintro e w6 ⟨rfl, hb⟩; have Q6 := Lib.hid (Q5.out.below hb); have K6 := Lib.hid (K5.out.trans (hb.mono K5.out.size)); clear hb)
        | fail)
       obtain ⟨n0, hn0⟩ : ∃ n0, n0 = max dd.n p2.c := ⟨_, rfl⟩
       obtain ⟨nb, hnb⟩ : ∃ nb, nb = w6.heap.size := ⟨_, rfl⟩
       try rw [← hn0]
       obtain ⟨w7, hw7⟩ : ∃ w7, w7 = w6.alloc (.cells #[.int .i64 n0] 3) := ⟨_, rfl⟩
       rw [← hw7, ← hnb]
       have hb7 : Below w6.heap.size w6 w7 := by rw [hw7]; exact (Below.refl _ w6).alloc (Nat.le_refl _) _
       have x7 : Boxed w7 nb 3 (.int .i64 n0) := by rw [hw7, hnb]; exact Boxed.new w6 _ _
       have hnl : nb < w7.heap.size := by rw [hw7, hnb]; simp
       have H7 := Lib.hid (And.intro x7 (And.intro hb7 (And.intro hnl hn0)))
       have Q7 := Lib.hid (Q6.out.below hb7)
       have hnF : ¬ F4 nb := fun hf => by have := Q6.out.vo.lt hf; omega
       have hnL : ¬ FL nb := fun hf => by have := Q6.out.ld.lt hf; omega
       have HNF := Lib.hid (And.intro hnF (And.intro hnL (show w4.heap.size ≤ nb by have := K6.out.size; omega)))
       have hbw := HBL.out.1 F4 w7 Q7.out.vo
       unfold BalWay at hbw
       rw [HBL.out.2] at hbw
       have HBW := Lib.hid hbw
       clear hw7 hnb hb7 x7 hnl hn0 hnF hnL hbw
       gi_wp2_with (first
        | (gi_at_call 78; refine (callsIn_wide.2 HBW.out).mono ?_; rintro e w8 ⟨rfl, hb, hs8, -, hit⟩; have H8 := Lib.hid (And.intro hit (And.intro hb hs8)); clear hit hb hs8)
        | (refine ⟨trivial, ?_⟩; gi_at_call 78; refine (callsIn_wide.2 HBW.out).mono ?_; rintro e w8 ⟨rfl, hb, hs8, -, hit⟩; have H8 := Lib.hid (And.intro hit (And.intro hb hs8)); clear hit hb hs8)
        | fail)
       obtain ⟨hit, hb8, hs8⟩ := H8.out
       obtain ⟨x7, hb7, hnl7, hn0⟩ := H7.out
       have x8 : Boxed w8 nb 3 (.int .i64 (maxCap [] n0)) := (hb8.block nb hnl7).trans x7
       have hnl : nb < w8.heap.size := Nat.lt_of_lt_of_le hnl7 hb8.size
       have hF4 : ∀ k, F4 k → k < w7.heap.size := fun k hk => Q7.out.vo.lt hk
       have hGl : ∀ k, (F4 k ∨ k = w7.heap.size ∨ k = w7.heap.size + 1 ∨ k = w7.heap.size + 1 + 1) → k < w8.heap.size ∧ k ≠ nb := fun k hk => by
        rcases hk with h | h
        · exact ⟨by have := hF4 k h; omega, fun e => HNF.out.1 (e ▸ h)⟩
        · omega
       have mixed : Tryz.prog.follows .mixedOrders = true := by kernel_rfl
       have HIT := Lib.hid (hit 0)
       have HB8 := Lib.hid hb8
       clear hit hb8 hs8 x7 hb7 hnl7 hn0 hF4
       refine range_outerAU (n := 1) (gf := 116) rfl enters_ballots1 HIT.out (Grow.refl w8) (fun k hk => ⟨(hGl k hk).1, rfl⟩) (fun _ => rfl)
        (fun k => k = nb) (by rintro k rfl; exact ⟨hnl, fun h => (hGl _ h).2 rfl⟩) (UnlI w8.heap.size nb n0) (fun _ _ _ _ => False) (UnlI.stab hnl) (fun c _ _ _ h => h.elim) ⟨fun _ h => h, x8, Nat.le_refl _⟩
        (fun x N T => ((T.setIfInBounds 78 (.int .i64 x.1)).setIfInBounds 79 (balVal x)).setIfInBounds 21 (.pointer (some ⟨N, 0, none⟩)))
        (fun x N W => W.heap[N]? = some (.cells #[.int .i64 x.2.k, .bool x.2.aye, .int .i64 x.2.l, .int .i64 x.2.a, .int .i64 x.2.n, .int .i64 x.2.s] 28 (0, 0))) (fun x N W W' h e => e.trans h) ?assign ?body ?done ?stop
       case stop => exact fun _ _ _ _ _ _ h => h.elim
       case assign =>
        intro l x W K hK
        simp only [encs_V]
        clear hGl
        gi_wp2
        exact hK _ ((Below.refl _ W).alloc (Nat.le_refl _) _) (by simp) (World.alloc_heap_new _ _)
       case body =>
        rintro l pre x Φi Nx W' hpx ⟨hno, hbx, hsz⟩ hl hΦl - hlN hNW hAt
        have hok := HOK.out x (hpx.subset (by simp))
        have hmx := maxCap_snoc pre x n0
        obtain ⟨m, hm⟩ : ∃ m, m = maxCap pre n0 := ⟨_, rfl⟩
        obtain ⟨xb, hxb⟩ : ∃ xb, xb = x.2 := ⟨_, rfl⟩
        obtain ⟨cp, hcp⟩ : ∃ cp, cp = capB xb := ⟨_, rfl⟩
        rw [← hm] at hbx hmx
        rw [← hxb, ← hcp] at hmx
        have hcap : ∀ wx, Calls Tryz.prog 60 #[.agg (balS.f xb).toArray] wx fun e w' => e = .returned (.int .i64 cp) ∧ Below wx.heap.size wx w' := fun wx => by rw [hcp]; exact cCap xb (by rw [hxb]; exact hok) wx
        have hNr : W'.rangeAt Nx 0 (balS.f xb) := by rw [hxb]; exact rangeAt_whole (T := balS.T) hAt
        have hnx : Nx ≠ nb := by omega
        have hnbW : nb < W'.heap.size := by omega
        have hS : ∀ wx, Below W'.heap.size W' wx → (loadSt_V (.pointer (some ⟨Nx, 0, none⟩))).run Tryz.prog wx = .ok (.agg (balS.f xb).toArray) wx ∧ wx.cell? ⟨nb, 0, none⟩ = some (.int .i64 m) ∧ wx.frozen? ⟨nb, 0, none⟩ = false := fun wx hb => by
         have hbb : Boxed wx nb 3 (.int .i64 m) := (hb.block nb hnbW).trans hbx
         exact ⟨run_loadSt_V (rangeAt_block hNr (hb.block Nx hNW)), hbb.cell, hbb.frozen⟩
        have hS2 : ∀ wx, Below W'.heap.size W' wx → ∀ v, (loadSt_V (.pointer (some ⟨Nx, 0, none⟩))).run Tryz.prog (wx.setCell ⟨nb, 0, none⟩ v) = .ok (.agg (balS.f xb).toArray) (wx.setCell ⟨nb, 0, none⟩ v) ∧ ((wx.setCell ⟨nb, 0, none⟩ v).heap[nb]? = some (.cells #[v] 3 (0, 0))) ∧ ∀ j, j ≠ nb → j < W'.heap.size → (wx.setCell ⟨nb, 0, none⟩ v).heap[j]? = W'.heap[j]? := fun wx hb v => by
         have hbb : Boxed wx nb 3 (.int .i64 m) := (hb.block nb hnbW).trans hbx
         exact ⟨run_loadSt_V (rangeAt_block hNr ((Below.heap_setCell _ _ _ Nx hnx).trans (hb.block Nx hNW))), hbb.set v, fun j hj hl => (Below.heap_setCell _ _ _ j hj).trans (hb.block j hl)⟩
        have HS := Lib.hid hS
        have HS2 := Lib.hid hS2
        have HC := Lib.hid hcap
        have HR := Lib.hid (And.intro hno (And.intro hsz (And.intro hmx hbx)))
        have K0 := Lib.hid (show Below W'.heap.size W' W'.drew from (Below.refl _ W').drew)
        have SL := Lib.hid (show ∀ W, Below W'.heap.size W' W → (loadSt_V (.pointer (some ⟨Nx, 0, none⟩))).run Tryz.prog W = .ok (.agg (balS.f xb).toArray) W from fun W hb => (hS W hb).1)
        obtain ⟨-, z0, -⟩ := hS _ K0.out
        clear hno hbx hsz hmx hm hxb hcp hcap hNr hnx hnbW hS hS2 hok hpx hAt hGl
        gi_upto_region 11 with fail
        refine wpIn_region_heldR (S := fun wx => (loadSt_V (.pointer (some ⟨Nx, 0, none⟩))).run Tryz.prog wx = .ok (.agg (balS.f xb).toArray) wx) (R := fun a wx => ∃ w9, Below W'.heap.size W' w9 ∧ wx = w9.setCell ⟨nb, 0, none⟩ (.int .i64 (max m cp))) mixed (by kernel_rfl) (SL.out _ K0.out) (fun hHeld => ?_) ?_
        · refine wpAnyH_take (i := 1) (v := ?_) rfl (by kernel_rfl) (by kernel_rfl) (by kernel_rfl) (fun _ _ _ h => h) (Or.inl ⟨by kernel_rfl, ?_⟩) (by assumption) ?_
          rotate_left
          · intro w' hSw
            try dsimp only at hSw
            go_simp
            try with_reducible rfl
          try walk_nrm
          refine wpAnyH_ready (rs := [0, 2]) (by kernel_rfl) (by simp) ?_
          refine AllReadyH.cons rfl (fun K hK => ?_) (AllReadyH.cons rfl (fun K hK => ?_) AllReadyH.nil)
          · rw [if_pos (by kernel_rfl)]
            go_simp
            skip
            first | refine hK.out _ _ ?_ (fun hHeld => ?_) | (go_wp2_with fail; refine hK.out _ _ ?_ (fun hHeld => ?_))
            · try dsimp only
              exact SL.out _ K0.out
            clear hK K
            try walk_nrm
            refine wpAnyH_ready (rs := [2]) (by kernel_rfl) (by simp) ?_
            refine AllReadyH.cons rfl (fun K hK => ?_) AllReadyH.nil
            rw [if_pos (by kernel_rfl)]
            go_simp
            go_at_call 60; refine (HC.out _).mono ?_; rintro e w9 ⟨rfl, hb⟩; have K9 := Lib.hid (K0.out.trans (hb.mono K0.out.size)); obtain ⟨-, z9, f9⟩ := HS.out _ K9.out; clear hb
            first | refine hK.out _ _ ?_ (fun hHeld => ?_) | (go_wp2_with fail; refine hK.out _ _ ?_ (fun hHeld => ?_))
            · try dsimp only
              exact SL.out _ K9.out
            clear hK K
            try walk_nrm
            refine wpAnyH_ready (rs := [3]) (by kernel_rfl) (by simp) ?_
            refine AllReadyH.cons rfl (fun K hK => ?_) AllReadyH.nil
            rw [if_pos (by kernel_rfl)]
            go_simp
            skip
            first | refine hK.out _ _ ?_ (fun hHeld => ?_) | (go_wp2_with fail; refine hK.out _ _ ?_ (fun hHeld => ?_))
            · try dsimp only
              exact SL.out _ K9.out
            clear hK K
            try walk_nrm
            refine wpAnyH_ready (rs := [4]) (by kernel_rfl) (by simp) ?_
            refine AllReadyH.cons rfl (fun K hK => ?_) AllReadyH.nil
            rw [if_pos (by kernel_rfl)]
            go_simp
            skip
            first | refine hK.out _ _ ?_ (fun hHeld => ?_) | (go_wp2_with fail; refine hK.out _ _ ?_ (fun hHeld => ?_))
            · try dsimp only
              exact (HS2.out _ K9.out _).1
            clear hK K
            try walk_nrm
            refine wpAnyH_done (by kernel_rfl) ?_ _
            exact ⟨w9, K9.out, rfl⟩
          · rw [if_pos (by kernel_rfl)]
            go_simp
            go_at_call 60; refine (HC.out _).mono ?_; rintro e w9 ⟨rfl, hb⟩; have K9 := Lib.hid (K0.out.trans (hb.mono K0.out.size)); obtain ⟨-, z9, f9⟩ := HS.out _ K9.out; clear hb
            first | refine hK.out _ _ ?_ (fun hHeld => ?_) | (go_wp2_with fail; refine hK.out _ _ ?_ (fun hHeld => ?_))
            · try dsimp only
              exact SL.out _ K9.out
            clear hK K
            try walk_nrm
            refine wpAnyH_ready (rs := [0]) (by kernel_rfl) (by simp) ?_
            refine AllReadyH.cons rfl (fun K hK => ?_) AllReadyH.nil
            rw [if_pos (by kernel_rfl)]
            go_simp
            skip
            first | refine hK.out _ _ ?_ (fun hHeld => ?_) | (go_wp2_with fail; refine hK.out _ _ ?_ (fun hHeld => ?_))
            · try dsimp only
              exact SL.out _ K9.out
            clear hK K
            try walk_nrm
            refine wpAnyH_ready (rs := [3]) (by kernel_rfl) (by simp) ?_
            refine AllReadyH.cons rfl (fun K hK => ?_) AllReadyH.nil
            rw [if_pos (by kernel_rfl)]
            go_simp
            skip
            first | refine hK.out _ _ ?_ (fun hHeld => ?_) | (go_wp2_with fail; refine hK.out _ _ ?_ (fun hHeld => ?_))
            · try dsimp only
              exact SL.out _ K9.out
            clear hK K
            try walk_nrm
            refine wpAnyH_ready (rs := [4]) (by kernel_rfl) (by simp) ?_
            refine AllReadyH.cons rfl (fun K hK => ?_) AllReadyH.nil
            rw [if_pos (by kernel_rfl)]
            go_simp
            skip
            first | refine hK.out _ _ ?_ (fun hHeld => ?_) | (go_wp2_with fail; refine hK.out _ _ ?_ (fun hHeld => ?_))
            · try dsimp only
              exact (HS2.out _ K9.out _).1
            clear hK K
            try walk_nrm
            refine wpAnyH_done (by kernel_rfl) ?_ _
            exact ⟨w9, K9.out, rfl⟩
        rintro a wx ⟨w9, hb9, rfl⟩
        obtain ⟨hno, hsz, hmx, hbx⟩ := HR.out
        obtain ⟨-, k1, k2⟩ := HS2.out w9 hb9 (.int .i64 (max m cp))
        have hg9 : Grow W' (w9.setCell ⟨nb, 0, none⟩ (.int .i64 (max m cp))) := (Grow.of_below hb9).trans ⟨rfl, rfl, rfl, by simp [World.setCell]⟩
        refine ⟨Φi, fun k h => .inl h, ⟨hg9, fun k hk h1 h2 => k2 k h1 hk⟩, hno, ?_, Nat.le_trans hsz hg9.size⟩
        rw [hmx]
        exact k1
       case done =>
        rintro D Φ W3 ⟨hno, hbx, hsz⟩ hon hD hnD hK
        have c1 := hbx.cell
        have hb4 : Below w4.heap.size w4 W3 := by
         have h1 := K6.out.trans (H7.out.2.1.mono K6.out.size)
         have h2 := h1.trans (HB8.out.mono h1.size)
         exact ⟨hon.grow.os.trans h2.os, hon.grow.tape.trans h2.tape, hon.grow.output.trans h2.output, Nat.le_trans h2.size hon.grow.size, fun k hk => (hon.block k (Nat.lt_of_lt_of_le hk h2.size) (fun e => by have := HNF.out.2.2; omega) (fun h => h)).trans (h2.block k hk)⟩
        have Q9 := Lib.hid (Q4.out.below hb4)
        have hlock := ledger_LockX Q9.out.ld HM.out.1 HM.out.2.1 HM.out.2.2.1 HM.out.2.2.2.1 (maxCap xs n0)
        have HLO := Lib.hid hlock
        have hDl : D < W3.heap.size := (Array.getElem?_eq_some_iff.1 hK).1
        have HD9 := Lib.hid (And.intro hD (And.intro hK (And.intro hDl hb4)))
        clear hno hbx hsz hon hD hnD hK hb4 hlock hDl hGl
        gi_wp2_with (first
         | (gi_at_call 79; refine (callsIn_wide.2 HLO.out).mono ?_; rintro e w10 ⟨rfl, hto⟩; have H10 := Lib.hid hto; clear hto)
         | (refine ⟨trivial, ?_⟩; gi_at_call 79; refine (callsIn_wide.2 HLO.out).mono ?_; rintro e w10 ⟨rfl, hto⟩; have H10 := Lib.hid hto; clear hto)
         | fail)
        obtain ⟨hD, hK, hDl, hb4⟩ := HD9.out
        obtain ⟨F10, k1, k2, k3⟩ := H10.out
        have hq := Q9.out.toL H10.out
        have hDL : ∀ k, FL k → k ≠ D := fun k hk e => by have := Q4.out.ld.lt hk; have := HB8.out.size; have := H7.out.2.2.1; have := HNF.out.2.2; omega
        have hFD : ∀ k, F4 k → k ≠ D := fun k hk e => by have := Q7.out.vo.lt hk; have := HB8.out.size; omega
        have hF10 : ∀ k, F10 k → k ≠ D := fun k hk e => (k2 k hk).elim (fun h => hDL k h e) (fun h => by omega)
        have hKD : w10.heap[D]? = some (.deferred (some [])) := (k3.block D hDl (fun h => hDL D h rfl) (fun h => h)).trans hK
        have hs10 : Stt g vb N S1 A (lockM M a t (maxCap xs n0)) F4 F10 Zn w [] w10 := ⟨Q9.out.vo.keep k3.grow (fun k hk => k3.block k (Q9.out.vo.lt hk) (fun e => Q9.out.dis k hk e) (fun h => h)), k1, fun k hk hl => (k2 k hl).elim (fun e => Q9.out.dis k hk e) (fun e => by have := Q9.out.vo.lt hk; omega), only_cons Q9.out.on (fun k hk => Q9.out.sub k (.inr hk)) k3, fun k hk => hk.elim (fun e => Q9.out.sub k (.inl e)) (fun e => (k2 k e).elim (fun e => Q9.out.sub k (.inr e)) (fun e => .inr (Nat.le_trans Q9.out.on.grow.size e))), fun b hb => by cases hb⟩
        refine marks_leave [D] w10 (by simp) (fun d hd => ?_) (fun w' hg hk => ⟨.int .i64 0, by simp [results, Tryz.results26, go_sem], rfl, ?_⟩)
        · simp only [List.mem_cons, List.not_mem_nil, or_false] at hd
          subst hd; exact hKD
        · have hs11 := hs10.keep (W' := w') hg (fun k hk' => hk k (by simp; exact hk'.elim (hFD k) (hF10 k))) ⟨hg.os, hg.tape, hg.output, hg.size, fun k hk' => hk k (by simp; have := HB8.out.size; have := H7.out.2.2.1; have := HNF.out.2.2; have := L4.out; omega)⟩
          have e0 := H7.out.2.2.2
          rw [← e0]
          exact hs11.to
   · have HT := Lib.hid (show decide (0 ≤ t ∧ t < 4) = false from decide_eq_false htr)
     have hE : unlE a t = 1 := by unfold unlE; rw [if_pos (.inr htr)]
     have hS : unlS S a t now = S := by unfold unlS; rw [if_neg (by rw [hE]; decide)]
     have hMM : unlM S M a t now = M := by unfold unlM; rw [if_neg (by rw [hE]; decide)]
     rw [hE, hS, hMM]
     have HX := Lib.hid h
     clear hE hS hMM h hv hM ha ht hac htr
     refine (callsIn_wide (n := 3)).1 ?_
     refine callsIn_of_wp_marks Tryz.func26 rfl trivial ?_ rfl
     simp only [Tryz.ntmps26, List.size_toArray, List.length_cons, List.length_nil, Nat.reduceAdd, Nat.reduceSub, Array.replicate_succ, Array.replicate_zero, List.push_toArray, List.append_toArray, List.nil_append, List.cons_append]
     gi_wp2_with (first
      | (gi_at_call 57; refine (callsIn_wide.2 (bound_Account _ _)).mono ?_; rw [HA.out]; rintro e w' ⟨rfl, hw⟩; rw [hw]; clear hw w')
      | (refine ⟨trivial, ?_⟩; gi_at_call 57; refine (callsIn_wide.2 (bound_Account _ _)).mono ?_; rw [HA.out]; rintro e w' ⟨rfl, hw⟩; rw [hw]; clear hw w')
      | (gi_at_call 54; refine (callsIn_wide.2 (voting_isTrack _ _)).mono ?_; rw [HT.out]; rintro e w' ⟨rfl, hw⟩; rw [hw]; clear hw w')
      | (refine ⟨trivial, ?_⟩; gi_at_call 54; refine (callsIn_wide.2 (voting_isTrack _ _)).mono ?_; rw [HT.out]; rintro e w' ⟨rfl, hw⟩; rw [hw]; clear hw w')
      | fail)
     refine marks_leave [] w (by simp) (fun d hd => by cases hd) (fun w' hg hk => ⟨.int .i64 1, by simp [results, Tryz.results26, go_sem], rfl, ?_⟩)
     have hb : Below w.heap.size w w' := ⟨hg.os, hg.tape, hg.output, hg.size, fun k hk' => hk k (by simp)⟩
     exact LvTo.of_below HX.out hb
 · have HA := Lib.hid (show decide (0 ≤ a ∧ a < 10) = false from decide_eq_false hac)
   have hE : unlE a t = 1 := by unfold unlE; rw [if_pos (.inl hac)]
   have hS : unlS S a t now = S := by unfold unlS; rw [if_neg (by rw [hE]; decide)]
   have hMM : unlM S M a t now = M := by unfold unlM; rw [if_neg (by rw [hE]; decide)]
   rw [hE, hS, hMM]
   have HX := Lib.hid h
   clear hE hS hMM h hv hM ha ht hac
   refine (callsIn_wide (n := 3)).1 ?_
   refine callsIn_of_wp_marks Tryz.func26 rfl trivial ?_ rfl
   simp only [Tryz.ntmps26, List.size_toArray, List.length_cons, List.length_nil, Nat.reduceAdd, Nat.reduceSub, Array.replicate_succ, Array.replicate_zero, List.push_toArray, List.append_toArray, List.nil_append, List.cons_append]
   gi_wp2_with (first
    | (gi_at_call 57; refine (callsIn_wide.2 (bound_Account _ _)).mono ?_; rw [HA.out]; rintro e w' ⟨rfl, hw⟩; rw [hw]; clear hw w')
    | (refine ⟨trivial, ?_⟩; gi_at_call 57; refine (callsIn_wide.2 (bound_Account _ _)).mono ?_; rw [HA.out]; rintro e w' ⟨rfl, hw⟩; rw [hw]; clear hw w')
    | (refine ⟨trivial, ?_⟩)
    | fail)
   refine marks_leave [] w (by simp) (fun d hd => by cases hd) (fun w' hg hk => ⟨.int .i64 1, by simp [results, Tryz.results26, go_sem], rfl, ?_⟩)
   have hb : Below w.heap.size w w' := ⟨hg.os, hg.tape, hg.output, hg.size, fun k hk' => hk k (by simp)⟩
   exact LvTo.of_below HX.out hb
end
end Go.Proofs.YtbpemdihoabbcaaGreat
