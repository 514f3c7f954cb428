/-
  Joined texts.
-/
import Derived.Test.YtlnjcfgihklppaaGreatMgi

section
namespace Go.Proofs.YtlnjcfgihklppaaGreat
open Go.RowKit Go.Maps Go.Shelf
set_option linter.unusedVariables false
set_option linter.unusedSimpArgs false

set_option maxHeartbeats 8000000 in
set_option maxRecDepth 100000 in
theorem VoX.Undelegate {vb N : Nat} {S : Vs} {F : FP} {w : World} (h : VoX vb N S F w) (hv : VInv S) {a t now : Int} (ha : (Lit.int .i64 a).wf = true) (ht : (Lit.int .i64 t).wf = true) :
    Calls Tryz.prog 22 #[.pointer (some ⟨vb, 0, none⟩), .int .i64 a, .int .i64 t, .int .i64 now] w fun e w' => e = .returned (.int .i64 (undE S a t)) ∧ VoTo vb N (undS S a t now) F w w' := by
  by_cases hac : isAcc a
  · have hA : decide (0 ≤ a ∧ a < 10) = true := decide_eq_true hac
    by_cases htr : 0 ≤ t ∧ t < 4
    · have hT : decide (0 ≤ t ∧ t < 4) = true := decide_eq_true htr
      have hL := hv.lens h
      obtain ⟨gv, gd, gw, gp, htb, -, hgD, -, -, -, -, hdD, -⟩ := h.tables
      obtain ⟨-, c73, -, -⟩ := htb w (Below.refl _ _)
      have hget := hgD w (Below.refl _ _) a t ha ht
      obtain ⟨d, hd⟩ : ∃ d, d = undD S a t := ⟨_, rfl⟩
      obtain ⟨q, hq⟩ : ∃ q, q = (cget S.D a t).isSome := ⟨_, rfl⟩
      rw [show (cget S.D a t).getD dlgS.zero = d from by rw [hd]; rfl, ← hq] at hget
      have hE : undE S a t = if q = false then 4 else 0 := by unfold undE; rw [if_neg (fun q => q.elim (fun q => q hac) (fun q => q htr)), ← hq]
      have HA := Lib.hid hA
      have HT := Lib.hid hT
      have HG := Lib.hid hget
      cases q with
      | false =>
        rw [if_pos rfl] at hE
        have hS : undS S a t now = S := by unfold undS; rw [hE]; rfl
        rw [hE, hS]
        have HX := Lib.hid h
        clear hA hT hget hE hS hL htb hgD hdD hd hq hv h ha ht hac htr
        go_enter Tryz.func22, Tryz.ntmps22
        go_wp2_with (first
          | (go_at_call 46; refine (bound_Account _ _).mono ?_; rw [HA.out]; rintro e w' ⟨rfl, hw⟩; rw [hw]; clear hw w')
          | (go_at_call 42; refine (voting_isTrack _ _).mono ?_; rw [HT.out]; rintro e w' ⟨rfl, hw⟩; rw [hw]; clear hw w')
          | (go_at_call 38; refine HG.out.mono ?_; rintro e w3 ⟨rfl, hb⟩; have K3 := Lib.hid hb; clear hb)
          | (refine wpl_allocS (s := dlgS) rfl rfl rfl ?_)
          | (refine wpl_storeS (s := dlgS) (t := d) (b := w3.heap.size) _ _ rfl rfl rfl rfl rfl (World.alloc_heap_new w3 _) (zeroS dlgS) ?_; rw [newS])
          | fail)
        exact bodyPost_ret (v := .int .i64 4) (by simp [results, Tryz.results22, go_sem]) rfl ⟨rfl, VoTo.of_below HX.out (K3.out.alloc K3.out.size _)⟩
      | true =>
        rw [if_neg (by decide)] at hE
        obtain ⟨d', hd'⟩ := Option.isSome_iff_exists.1 hq.symm
        have hdd : d = d' := by rw [hd]; unfold undD; rw [hd']; rfl
        obtain ⟨-, hdt, hdl, hdn⟩ := hv.d _ (h.srt.2.1.get.1 hd')
        rw [← hdd] at hdt hdl hdn
        dsimp only at hdt hdl hdn
        obtain ⟨S1, hS1⟩ : ∃ S1, S1 = { S with D := cdel S.D a t } := ⟨_, rfl⟩
        obtain ⟨S2, hS2⟩ : ∃ S2, S2 = lendS S1 d.to t (wrap64 (-(votesI d.n d.l))) (wrap64 (-d.n)) := ⟨_, rfl⟩
        obtain ⟨u, hu⟩ : ∃ u, u = wrap64 (now + periodI d.l 8) := ⟨_, rfl⟩
        have hS : undS S a t now = { S2 with Q := joinQ S.Q a t u d.n now } := by
          unfold undS; rw [hE, if_pos rfl]; unfold undS1; rw [← hd, ← hS1, ← hS2, ← hu]
        have hQ2 : S2.Q = S.Q := by rw [hS2, hS1]; rfl
        rw [hE, hS]
        have hdel := fun W hb => hdD W hb a t (by omega) ha ht
        have hlend : ∀ F' W, VoX vb N S1 F' W → Calls Tryz.prog 62 #[.pointer (some ⟨vb, 0, none⟩), .int .i64 d.to, .int .i64 t, .int .i64 (wrap64 (-(votesI d.n d.l))), .int .i64 (wrap64 (-d.n))] W fun e w' => e = .returned (.tuple #[]) ∧ VoTo vb N S2 F' W w' := fun F' W hx => by
          rw [hS2]
          rw [hS1] at hx ⊢
          exact hx.lend (show S.V.length ≤ 100000 by omega) (show S.G.length ≤ 100000 by omega) (wfS (by omega) (by omega)) ht (hv.row d.to) _ _
        have hjoin : ∀ F' W, VoX vb N S2 F' W → Calls Tryz.prog 59 #[.pointer (some ⟨vb, 0, none⟩), .int .i64 a, .int .i64 t, .int .i64 u, .int .i64 d.n, .int .i64 now] W fun e w' => e = .returned (.tuple #[]) ∧ VoTo vb N { S2 with Q := joinQ S.Q a t u d.n now } F' W w' := fun F' W hx => by
          have := hx.join (by rw [hQ2]; omega) ha ht u d.n now
          rw [hQ2] at this
          exact this
        have hvo : ∀ wx : World, Calls Tryz.prog 63 #[.int .i64 d.n, .int .i64 d.l] wx fun e w' => e = .returned (.int .i64 (votesI d.n d.l)) ∧ w' = wx := fun wx => (conv_Votes d.n d.l wx (by omega) (by omega) (by omega) (by omega)).mono fun e w' h => ⟨h.1, h.2.symm⟩
        have hpe : ∀ wx : World, Calls Tryz.prog 60 #[.int .i64 d.l, .int .i64 8] wx fun e w' => e = .returned (.int .i64 (periodI d.l 8)) ∧ w' = wx := fun wx => (conv_Period d.l 8 wx (by omega) (by omega) (by omega) (by omega)).mono fun e w' h => ⟨h.1, h.2.symm⟩
        rw [← hS1] at hdel
        have HX := Lib.hid h
        have HTB := Lib.hid htb
        have HD := Lib.hid hdel
        have HLE := Lib.hid hlend
        have HJ := Lib.hid hjoin
        have HV := Lib.hid hvo
        have HP := Lib.hid hpe
        subst hu
        clear hA hT hget hE hS hL htb hgD hdD hd hq hv h ha ht hac htr hdel hlend hjoin hvo hpe hdt hdl hdn hd' hdd hS1 hS2 hQ2
        obtain ⟨dt, dl, dn⟩ := d
        dsimp only at HLE HJ HV HP
        go_enter Tryz.func22, Tryz.ntmps22
        go_upto_region 6 with (first
          | (go_at_call 46; refine (bound_Account _ _).mono ?_; rw [HA.out]; rintro e w' ⟨rfl, hw⟩; rw [hw]; clear hw w')
          | (go_at_call 42; refine (voting_isTrack _ _).mono ?_; rw [HT.out]; rintro e w' ⟨rfl, hw⟩; rw [hw]; clear hw w')
          | (go_at_call 38; refine HG.out.mono ?_; rintro e w3 ⟨rfl, hb⟩; have K3 := Lib.hid hb; clear hb)
          | (refine wpl_allocS (s := dlgS) rfl rfl rfl ?_)
          | (refine wpl_storeS (s := dlgS) (t := ⟨dt, dl, dn⟩) (b := w3.heap.size) _ _ rfl rfl rfl rfl rfl (World.alloc_heap_new w3 _) (zeroS dlgS) ?_; rw [newS])
          | fail)
        obtain ⟨db, hdb⟩ : ∃ db, db = w3.heap.size := ⟨_, rfl⟩
        obtain ⟨w4, hw4⟩ : ∃ w4, w4 = w3.alloc (dlgS.obj ⟨dt, dl, dn⟩) := ⟨_, rfl⟩
        have hr4 : w4.rangeAt db 0 (dlgS.f ⟨dt, dl, dn⟩) := by rw [hw4, hdb]; exact atS dlgS w3 _
        have hb4 : Below w.heap.size w w4 := by rw [hw4]; exact K3.out.alloc K3.out.size _
        have hl4 : db < w4.heap.size ∧ w.heap.size ≤ db := by rw [hw4, hdb]; exact ⟨by simp, K3.out.size⟩
        rw [← hw4, ← hdb]
        obtain ⟨-, c73, -, -⟩ := HTB.out w4 hb4
        have H4 := Lib.hid (And.intro hr4 (And.intro hb4 hl4))
        clear hw4 hdb hr4 hb4 hl4
        go_upto_region 7 with (first
          | (go_at_call 64; refine (HD.out w4 H4.out.2.1).mono ?_; rintro e w5 ⟨rfl, hto⟩; have H5 := Lib.hid hto; clear hto)
          | fail)
        obtain ⟨F5, hx5, hF5, ho5⟩ := H5.out
        obtain ⟨hr4, hb4, hl4, hl4'⟩ := H4.out
        have hnF : ∀ k, w.heap.size ≤ k → ¬ F k := fun k hk hf => by have := HX.out.lt hf; omega
        have hr5 : w5.rangeAt db 0 (dlgS.f ⟨dt, dl, dn⟩) := rangeAt_block hr4 (ho5.block db hl4 (hnF db hl4') (fun h => h))
        have hl5 : db < w5.heap.size := Nat.lt_of_lt_of_le hl4 ho5.grow.size
        have d0 : w5.drew.cell? ⟨db, 0, none⟩ = some (.int .i64 dt) := hr5 0 _ rfl
        have d1 : w5.drew.cell? ⟨db, 1, none⟩ = some (.int .i64 dl) := hr5 1 _ rfl
        have d2 : w5.drew.cell? ⟨db, 2, none⟩ = some (.int .i64 dn) := hr5 2 _ rfl
        have hn5 : ¬ F5 db := fun hf => (hF5 db hf).elim (hnF db hl4') (fun e => by omega)
        have H5x := Lib.hid (And.intro hx5 (And.intro hr5 (And.intro hl5 hn5)))
        have H5y := Lib.hid (And.intro hF5 ho5)
        clear hx5 hF5 ho5 hr4 hb4 hl4 hl4' hnF hr5 hl5 hn5 c73
        refine wp_region_still_tail 13 (by kernel_rfl) (by kernel_rfl) ?_
        simp only [List.take_succ_cons, List.take_zero, List.drop_succ_cons, List.drop_zero]
        change wpStill _ _ w5.drew _ _ _
        repeat still_step
        still_call (HV.out w5.drew)
        repeat still_step
        refine wpStill_nil ?_
        change wpList _ _ _ _ _ w5.drew
        go_upto_region 8 with (first
          | (go_at_call 62; refine (HLE.out F5 _ (H5x.out.1.below (Below.refl _ w5).drew)).mono ?_; rintro e w6 ⟨rfl, hto⟩; have H6 := Lib.hid hto; clear hto)
          | fail)
        obtain ⟨F6, hx6, hF6, ho6⟩ := H6.out
        obtain ⟨hx5, hr5, hl5, hn5⟩ := H5x.out
        have hr6 : w6.rangeAt db 0 (dlgS.f ⟨dt, dl, dn⟩) := rangeAt_block (w := w5.drew) hr5 (ho6.block db hl5 hn5 (fun h => h))
        have e1 : w6.drew.cell? ⟨db, 1, none⟩ = some (.int .i64 dl) := hr6 1 _ rfl
        have e2 : w6.drew.cell? ⟨db, 2, none⟩ = some (.int .i64 dn) := hr6 2 _ rfl
        have H6x := Lib.hid hx6
        have H6y := Lib.hid (And.intro hF6 ho6)
        clear hx6 hF6 ho6 hx5 hr5 hl5 hn5 hr6 d0 d1 d2
        refine wp_region_still_tail 11 (by kernel_rfl) (by kernel_rfl) ?_
        simp only [List.take_succ_cons, List.take_zero, List.drop_succ_cons, List.drop_zero]
        change wpStill _ _ w6.drew _ _ _
        repeat still_step
        still_call (HP.out w6.drew)
        repeat still_step
        refine wpStill_nil ?_
        change wpList _ _ _ _ _ w6.drew
        go_wp2_with (first
          | (go_at_call 59; refine (HJ.out F6 _ (H6x.out.below (Below.refl _ w6).drew)).mono ?_; rintro e w7 ⟨rfl, hto⟩; have H7 := Lib.hid hto; clear hto)
          | fail)
        refine bodyPost_ret (v := .int .i64 0) (by simp [results, Tryz.results22, go_sem]) rfl ⟨rfl, ?_⟩
        exact VoTo.later H4.out.2.1 (VoTo.cons H5y.out.1 H5y.out.2 (VoTo.later (Below.refl _ w5).drew (VoTo.cons H6y.out.1 H6y.out.2 (VoTo.later (Below.refl _ w6).drew H7.out))))
    · have hT : decide (0 ≤ t ∧ t < 4) = false := decide_eq_false htr
      have hE : undE S a t = 1 := by unfold undE; rw [if_pos (.inr htr)]
      have hS : undS S a t now = S := by unfold undS; rw [if_neg (by rw [hE]; decide)]
      rw [hE, hS]
      have HA := Lib.hid hA
      have HT := Lib.hid hT
      have HX := Lib.hid h
      clear hA hT hE hS hac htr h hv ha ht
      go_enter Tryz.func22, Tryz.ntmps22
      go_wp2_with (first
        | (go_at_call 46; refine (bound_Account _ _).mono ?_; rw [HA.out]; rintro e w' ⟨rfl, hw⟩; rw [hw]; clear hw w')
        | (go_at_call 42; refine (voting_isTrack _ _).mono ?_; rw [HT.out]; rintro e w' ⟨rfl, hw⟩; rw [hw]; clear hw w')
        | fail)
      exact bodyPost_ret (v := .int .i64 1) (by simp [results, Tryz.results22, go_sem]) rfl ⟨rfl, VoTo.refl HX.out⟩
  · have hA : decide (0 ≤ a ∧ a < 10) = false := decide_eq_false hac
    have hE : undE S a t = 1 := by unfold undE; rw [if_pos (.inl hac)]
    have hS : undS S a t now = S := by unfold undS; rw [if_neg (by rw [hE]; decide)]
    rw [hE, hS]
    have HA := Lib.hid hA
    have HX := Lib.hid h
    clear hA hE hS hac h hv ha ht
    go_enter Tryz.func22, Tryz.ntmps22
    go_wp2_with (first
      | (go_at_call 46; refine (bound_Account _ _).mono ?_; rw [HA.out]; rintro e w' ⟨rfl, hw⟩; rw [hw]; clear hw w')
      | fail)
    exact bodyPost_ret (v := .int .i64 1) (by simp [results, Tryz.results22, go_sem]) rfl ⟨rfl, VoTo.refl HX.out⟩
end Go.Proofs.YtlnjcfgihklppaaGreat
end

section
namespace Go.Proofs.YtlnjcfgihklppaaGreat
open Go.RowKit Go.Maps Go.Shelf
set_option linter.unusedVariables false
set_option linter.unusedSimpArgs false

set_option maxHeartbeats 8000000 in
set_option maxRecDepth 100000 in
theorem LvAt.Delegate {g vb N : Nat} {S : Vs} {A : Acc} {M : Cls Int} {Zn : FP} {w : World} (h : LvAt g vb N S A M Zn w) (hv : VInv S) (hM : M.length < 10000) {a t who : Int} (ha : (Lit.int .i64 a).wf = true) (ht : (Lit.int .i64 t).wf = true) (l n : Int) :
    Calls Tryz.prog 21 #[.pointer (some ⟨vb, 0, none⟩), .pointer (some ⟨g, 0, none⟩), .int .i64 a, .int .i64 t, .int .i64 who, .int .i64 l, .int .i64 n] w fun e w' => e = .returned (.int .i64 (delE S A a t who l n)) ∧ LvTo g vb N (delS S A a t who l n) A (delM S A M a t who l n) Zn w w' := by
  have hNs := h.size
  have fin : ∀ W', Below w.heap.size w W' → ∀ E : Int, E ≠ 0 → delE S A a t who l n = E → Ending.returned (.int .i64 E) = .returned (.int .i64 (delE S A a t who l n)) ∧ LvTo g vb N (delS S A a t who l n) A (delM S A M a t who l n) Zn w W' := fun W' hb E h0 hE => by
    unfold delS delM
    rw [hE, if_neg h0, if_neg h0]
    exact ⟨rfl, LvTo.of_below h hb⟩
  have FIN := Lib.hid fin
  clear fin
  by_cases hac : isAcc a
  · have HA := Lib.hid (show decide (0 ≤ a ∧ a < 10) = true from decide_eq_true hac)
    by_cases htr : 0 ≤ t ∧ t < 4
    · have HT := Lib.hid (show decide (0 ≤ t ∧ t < 4) = true from decide_eq_true htr)
      by_cases hwc : isAcc who
      · have HB := Lib.hid (show decide (0 ≤ who ∧ who < 10) = true from decide_eq_true hwc)
        by_cases hne : who ≠ a
        · have q3 : (who == a) = false := by simpa using hne
          by_cases hll : 0 ≤ l ∧ l ≤ 6
          · have HL := Lib.hid (show withinB l 0 6 = true by simp only [withinB, Bool.and_eq_true, decide_eq_true_eq]; exact hll)
            by_cases hnn : isBal n
            · have HN := Lib.hid (show withinB n 0 1073741824 = true by unfold isBal at hnn; simp only [withinB, Bool.and_eq_true, decide_eq_true_eq]; exact hnn)
              obtain ⟨F, FL, hs⟩ := Stt.start h
              have hvo := hs.vo
              have hL := hv.lens hvo
              have hbn : 0 ≤ n ∧ n ≤ 1073741824 := hnn
              have hbw : 0 ≤ who ∧ who < 10 := hwc
              obtain ⟨gv, gd, gw, gp, htb, -, hgD, -, hSD, -⟩ := hvo.tables
              have hget := hgD w (Below.refl _ _) a t ha ht
              obtain ⟨d, hd⟩ : ∃ d, d = (cget S.D a t).getD dlgS.zero := ⟨_, rfl⟩
              obtain ⟨qd, hqd⟩ : ∃ qd, qd = (cget S.D a t).isSome := ⟨_, rfl⟩
              obtain ⟨fr, hfr⟩ : ∃ fr, fr = (A a.toNat).1 := ⟨_, rfl⟩
              obtain ⟨nb, hnb⟩ : ∃ nb, nb = (ballots S a t).length := ⟨_, rfl⟩
              rw [← hd, ← hqd] at hget
              have v0 : delE S A a t who l n = (if qd = true then 5 else if 0 < nb then 9 else if fr < n then 6 else 0) := by
                unfold delE
                rw [if_neg (fun q => by rcases q with q | q | q | q | q | q; exact q hac; exact q htr; exact q hwc; exact hne q; exact q hll; exact q hnn), ← hqd, ← hnb, ← hfr]
              have hFr : ∀ W, Below w.heap.size w W → Calls Tryz.prog 50 #[.pointer (some ⟨g, 0, none⟩), .int .i64 a] W fun e w' => e = .returned (.int .i64 fr) ∧ w' = W := fun W hb => by
                have := ledger_FreeX (hs.below hb).ld a
                rw [accOf, if_pos hac, ← hfr] at this
                exact this
              have hCt : ∀ W, Below w.heap.size w W → Calls Tryz.prog 51 #[.pointer (some ⟨vb, 0, none⟩), .int .i64 a, .int .i64 t] W fun e w' => e = .returned (.int .i64 (nb : Int)) ∧ Below W.heap.size W w' := fun W hb => by
                rw [hnb]; exact (hs.below hb).vo.count (by omega) ha (fun x hx => (hv.row a x hx).1) t
              obtain ⟨c72, c73, -, -⟩ := htb w (Below.refl _ _)
              obtain ⟨S1, hS1⟩ : ∃ S1, S1 = { S with D := cput S.D a t ⟨who, l, n⟩ } := ⟨_, rfl⟩
              have hset : ∀ W, Below w.heap.size w W → Calls Tryz.prog 61 #[.pointer (some ⟨gd, 0, none⟩), .int .i64 a, .int .i64 t, .agg #[.int .i64 who, .int .i64 l, .int .i64 n]] W fun e w' => e = .returned (.tuple #[]) ∧ VoTo vb N S1 F W w' := fun W hb => by rw [hS1]; exact hSD W hb a t ⟨who, l, n⟩ (by omega) ha ht
              have htb2 : ∀ W, Below w.heap.size w W → W.cell? ⟨vb, 73, none⟩ = some (.pointer (some ⟨gd, 0, none⟩)) := fun W hb => (htb W hb).2.1
              have hlend : ∀ F' W, VoX vb N S1 F' W → Calls Tryz.prog 62 #[.pointer (some ⟨vb, 0, none⟩), .int .i64 who, .int .i64 t, .int .i64 (votesI n l), .int .i64 n] W fun e w' => e = .returned (.tuple #[]) ∧ VoTo vb N (lendS S1 who t (votesI n l) n) F' W w' := fun F' W hx => by
                rw [hS1] at hx ⊢
                exact hx.lend (show S.V.length ≤ 100000 by omega) (show S.G.length ≤ 100000 by omega) (wfS (by omega) (by omega)) ht (hv.row who) _ _
              have hvo : ∀ wx : World, Calls Tryz.prog 63 #[.int .i64 n, .int .i64 l] wx fun e w' => e = .returned (.int .i64 (votesI n l)) ∧ w' = wx := fun wx => (conv_Votes n l wx (by omega) (by omega) (by omega) (by omega)).mono fun e w' h => ⟨h.1, h.2.symm⟩
              have vS : delE S A a t who l n = 0 → delS S A a t who l n = lendS S1 who t (votesI n l) n := fun q => by unfold delS; rw [if_pos q, ← hS1]
              have vM : delE S A a t who l n = 0 → delM S A M a t who l n = raiseM M a t n := fun q => by unfold delM; rw [if_pos q]
              have HG := Lib.hid hget
              have HFr := Lib.hid hFr
              have HCt := Lib.hid hCt
              have HSET := Lib.hid hset
              have HTB := Lib.hid htb2
              have HLE := Lib.hid hlend
              have HV := Lib.hid hvo
              have HVS := Lib.hid (And.intro vS vM)
              have HST := Lib.hid hs
              have HM := Lib.hid (And.intro hM (And.intro hac (And.intro ha ht)))
              clear hget hFr hCt hset htb htb2 hlend hvo vS vM hs hM hac ha ht h hv hgD hSD hL hd hqd hfr hnb hS1 hbn hbw htr hwc hne hll hnn hNs
              cases qd with
              | true =>
                rw [if_pos rfl] at v0
                have HE1 := Lib.hid v0
                clear v0
                go_enter Tryz.func21, Tryz.ntmps21
                go_wp2_with (first
                  | (go_at_call 46; refine (bound_Account _ _).mono ?_; (first | rw [HA.out] | rw [HB.out]); rintro e w' ⟨rfl, hw⟩; rw [hw]; clear hw w')
                  | (go_at_call 42; refine (voting_isTrack _ _).mono ?_; rw [HT.out]; rintro e w' ⟨rfl, hw⟩; rw [hw]; clear hw w')
                  | (go_at_call 45; refine (cvWithin _ _ _ _).mono ?_; rw [HL.out]; rintro e w' ⟨rfl, hw⟩; rw [← hw]; clear hw w')
                  | (go_at_call 36; refine (cvBalance _ _).mono ?_; rw [HN.out]; rintro e w' ⟨rfl, hw⟩; rw [← hw]; clear hw w')
                  | (go_at_call 38; refine HG.out.mono ?_; rintro e w3 ⟨rfl, hb⟩; have K3 := Lib.hid hb; clear hb)
                  | (refine wpl_allocS (s := dlgS) rfl rfl rfl ?_)
                  | (refine wpl_storeS (s := dlgS) (t := d) (b := w3.heap.size) _ _ rfl rfl rfl rfl rfl (World.alloc_heap_new w3 _) (zeroS dlgS) ?_; rw [newS]; have K4 := Lib.hid (K3.out.alloc K3.out.size (dlgS.obj d)))
                  | fail)
                exact bodyPost_ret (v := .int .i64 5) (by simp [results, Tryz.results21, go_sem]) rfl (FIN.out _ K4.out 5 (by decide) HE1.out)
              | false =>
                rw [if_neg (by decide)] at v0
                by_cases q1 : 0 < nb
                · rw [if_pos q1] at v0
                  have HE1 := Lib.hid v0
                  have q1' : (nb : Int) > 0 := by omega
                  clear v0
                  go_enter Tryz.func21, Tryz.ntmps21
                  go_wp2_with (first
                    | (go_at_call 46; refine (bound_Account _ _).mono ?_; (first | rw [HA.out] | rw [HB.out]); rintro e w' ⟨rfl, hw⟩; rw [hw]; clear hw w')
                    | (go_at_call 42; refine (voting_isTrack _ _).mono ?_; rw [HT.out]; rintro e w' ⟨rfl, hw⟩; rw [hw]; clear hw w')
                    | (go_at_call 45; refine (cvWithin _ _ _ _).mono ?_; rw [HL.out]; rintro e w' ⟨rfl, hw⟩; rw [← hw]; clear hw w')
                    | (go_at_call 36; refine (cvBalance _ _).mono ?_; rw [HN.out]; rintro e w' ⟨rfl, hw⟩; rw [← hw]; clear hw w')
                    | (go_at_call 38; refine HG.out.mono ?_; rintro e w3 ⟨rfl, hb⟩; have K3 := Lib.hid hb; clear hb)
                    | (refine wpl_allocS (s := dlgS) rfl rfl rfl ?_)
                    | (refine wpl_storeS (s := dlgS) (t := d) (b := w3.heap.size) _ _ rfl rfl rfl rfl rfl (World.alloc_heap_new w3 _) (zeroS dlgS) ?_; rw [newS]; have K4 := Lib.hid (K3.out.alloc K3.out.size (dlgS.obj d)))
                    | (go_at_call 51; refine (HCt.out _ K4.out).mono ?_; rintro e w5 ⟨rfl, hb⟩; have K5 := Lib.hid (K4.out.trans (hb.mono K4.out.size)); clear hb)
                    | fail)
                  exact bodyPost_ret (v := .int .i64 9) (by simp [results, Tryz.results21, go_sem]) rfl (FIN.out _ K5.out 9 (by decide) HE1.out)
                · rw [if_neg q1] at v0
                  obtain rfl : nb = 0 := by omega
                  clear q1
                  by_cases q2 : fr < n
                  · rw [if_pos q2] at v0
                    have HE1 := Lib.hid v0
                    have q2' : n > fr := q2
                    clear v0
                    go_enter Tryz.func21, Tryz.ntmps21
                    go_wp2_with (first
                      | (go_at_call 46; refine (bound_Account _ _).mono ?_; (first | rw [HA.out] | rw [HB.out]); rintro e w' ⟨rfl, hw⟩; rw [hw]; clear hw w')
                      | (go_at_call 42; refine (voting_isTrack _ _).mono ?_; rw [HT.out]; rintro e w' ⟨rfl, hw⟩; rw [hw]; clear hw w')
                      | (go_at_call 45; refine (cvWithin _ _ _ _).mono ?_; rw [HL.out]; rintro e w' ⟨rfl, hw⟩; rw [← hw]; clear hw w')
                      | (go_at_call 36; refine (cvBalance _ _).mono ?_; rw [HN.out]; rintro e w' ⟨rfl, hw⟩; rw [← hw]; clear hw w')
                      | (go_at_call 38; refine HG.out.mono ?_; rintro e w3 ⟨rfl, hb⟩; have K3 := Lib.hid hb; clear hb)
                      | (refine wpl_allocS (s := dlgS) rfl rfl rfl ?_)
                      | (refine wpl_storeS (s := dlgS) (t := d) (b := w3.heap.size) _ _ rfl rfl rfl rfl rfl (World.alloc_heap_new w3 _) (zeroS dlgS) ?_; rw [newS]; have K4 := Lib.hid (K3.out.alloc K3.out.size (dlgS.obj d)))
                      | (go_at_call 51; refine (HCt.out _ K4.out).mono ?_; rintro e w5 ⟨rfl, hb⟩; have K5 := Lib.hid (K4.out.trans (hb.mono K4.out.size)); clear hb)
                      | (go_at_call 50; refine (HFr.out _ K5.out).mono ?_; rintro e wx ⟨rfl, hw⟩; rw [hw]; clear hw wx)
                      | fail)
                    exact bodyPost_ret (v := .int .i64 6) (by simp [results, Tryz.results21, go_sem]) rfl (FIN.out _ K5.out 6 (by decide) HE1.out)
                  · rw [if_neg q2] at v0
                    have HE1 := Lib.hid v0
                    have q2' : ¬ n > fr := q2
                    clear v0
                    go_enter Tryz.func21, Tryz.ntmps21
                    go_upto_region 10 with (first
                      | (go_at_call 46; refine (bound_Account _ _).mono ?_; (first | rw [HA.out] | rw [HB.out]); rintro e w' ⟨rfl, hw⟩; rw [hw]; clear hw w')
                      | (go_at_call 42; refine (voting_isTrack _ _).mono ?_; rw [HT.out]; rintro e w' ⟨rfl, hw⟩; rw [hw]; clear hw w')
                      | (go_at_call 45; refine (cvWithin _ _ _ _).mono ?_; rw [HL.out]; rintro e w' ⟨rfl, hw⟩; rw [← hw]; clear hw w')
                      | (go_at_call 36; refine (cvBalance _ _).mono ?_; rw [HN.out]; rintro e w' ⟨rfl, hw⟩; rw [← hw]; clear hw w')
                      | (go_at_call 38; refine HG.out.mono ?_; rintro e w3 ⟨rfl, hb⟩; have K3 := Lib.hid hb; clear hb)
                      | (refine wpl_allocS (s := dlgS) rfl rfl rfl ?_)
                      | (refine wpl_storeS (s := dlgS) (t := d) (b := w3.heap.size) _ _ rfl rfl rfl rfl rfl (World.alloc_heap_new w3 _) (zeroS dlgS) ?_; rw [newS]; have K4 := Lib.hid (K3.out.alloc K3.out.size (dlgS.obj d)))
                      | (go_at_call 51; refine (HCt.out _ K4.out).mono ?_; rintro e w5 ⟨rfl, hb⟩; have K5 := Lib.hid (K4.out.trans (hb.mono K4.out.size)); clear hb)
                      | (go_at_call 50; refine (HFr.out _ K5.out).mono ?_; rintro e wx ⟨rfl, hw⟩; rw [hw]; clear hw wx)
                      | fail)
                    have c5 := HTB.out _ K5.out
                    clear q2 q2' q3 c72 c73
                    go_upto_region 11 with (first
                      | (go_at_call 61; refine (HSET.out _ K5.out).mono ?_; rintro e w6 ⟨rfl, hto⟩; have H6 := Lib.hid hto; clear hto)
                      | fail)
                    obtain ⟨F6, hs6⟩ := (HST.out.below K5.out).toV H6.out
                    have Q6 := Lib.hid hs6
                    clear hs6 c5
                    go_upto_region 12 with (first
                      | (go_at_call 63; refine (HV.out _).mono ?_; rintro e wx ⟨rfl, hw⟩; rw [hw]; clear hw wx)
                      | (go_at_call 62; refine (HLE.out F6 _ Q6.out.vo).mono ?_; rintro e w7 ⟨rfl, hto⟩; have H7 := Lib.hid hto; clear hto)
                      | fail)
                    obtain ⟨F7, hs7⟩ := Q6.out.toV H7.out
                    have Q7 := Lib.hid hs7
                    clear hs7
                    go_wp2_with (first
                      | (go_at_call 56; refine (raise_X Q7.out.ld HM.out.1 HM.out.2.1 HM.out.2.2.1 HM.out.2.2.2 n).mono ?_; rintro e w8 ⟨rfl, hto⟩; have H8 := Lib.hid hto; clear hto)
                      | fail)
                    obtain ⟨F8, hs8⟩ := Q7.out.toL H8.out
                    refine bodyPost_ret (v := .int .i64 0) (by simp [results, Tryz.results21, go_sem]) rfl ⟨by rw [HE1.out], ?_⟩
                    rw [HVS.out.1 HE1.out, HVS.out.2 HE1.out]
                    exact hs8.to
            · have hE : delE S A a t who l n = 1 := by unfold delE; rw [if_pos (.inr (.inr (.inr (.inr (.inr hnn)))))]
              have HE1 := Lib.hid hE
              have HN := Lib.hid (show withinB n 0 1073741824 = false by unfold isBal at hnn; simp only [withinB]; by_cases q : 0 ≤ n <;> simp [q] <;> omega)
              clear hE h hv ha ht hM hNs hac htr hwc hne hll hnn
              go_enter Tryz.func21, Tryz.ntmps21
              go_wp2_with (first
                | (go_at_call 46; refine (bound_Account _ _).mono ?_; (first | rw [HA.out] | rw [HB.out]); rintro e w' ⟨rfl, hw⟩; rw [hw]; clear hw w')
                | (go_at_call 42; refine (voting_isTrack _ _).mono ?_; rw [HT.out]; rintro e w' ⟨rfl, hw⟩; rw [hw]; clear hw w')
                | (go_at_call 45; refine (cvWithin _ _ _ _).mono ?_; rw [HL.out]; rintro e w' ⟨rfl, hw⟩; rw [← hw]; clear hw w')
                | (go_at_call 36; refine (cvBalance _ _).mono ?_; rw [HN.out]; rintro e w' ⟨rfl, hw⟩; rw [← hw]; clear hw w')
                | fail)
              exact bodyPost_ret (v := .int .i64 1) (by simp [results, Tryz.results21, go_sem]) rfl (FIN.out _ (Below.refl _ _) 1 (by decide) HE1.out)
          · have hE : delE S A a t who l n = 1 := by unfold delE; rw [if_pos (.inr (.inr (.inr (.inr (.inl hll)))))]
            have HE1 := Lib.hid hE
            have HL := Lib.hid (show withinB l 0 6 = false by simp only [withinB]; by_cases q : 0 ≤ l <;> simp [q] <;> omega)
            clear hE h hv ha ht hM hNs hac htr hwc hne hll
            go_enter Tryz.func21, Tryz.ntmps21
            go_wp2_with (first
              | (go_at_call 46; refine (bound_Account _ _).mono ?_; (first | rw [HA.out] | rw [HB.out]); rintro e w' ⟨rfl, hw⟩; rw [hw]; clear hw w')
              | (go_at_call 42; refine (voting_isTrack _ _).mono ?_; rw [HT.out]; rintro e w' ⟨rfl, hw⟩; rw [hw]; clear hw w')
              | (go_at_call 45; refine (cvWithin _ _ _ _).mono ?_; rw [HL.out]; rintro e w' ⟨rfl, hw⟩; rw [← hw]; clear hw w')
              | fail)
            exact bodyPost_ret (v := .int .i64 1) (by simp [results, Tryz.results21, go_sem]) rfl (FIN.out _ (Below.refl _ _) 1 (by decide) HE1.out)
        · have hE : delE S A a t who l n = 1 := by unfold delE; rw [if_pos (.inr (.inr (.inr (.inl (Classical.not_not.1 hne)))))]
          have HE1 := Lib.hid hE
          have q3 : (who == a) = true := by simpa using Classical.not_not.1 hne
          clear hE h hv ha ht hM hNs hac htr hwc hne
          go_enter Tryz.func21, Tryz.ntmps21
          go_wp2_with (first
            | (go_at_call 46; refine (bound_Account _ _).mono ?_; (first | rw [HA.out] | rw [HB.out]); rintro e w' ⟨rfl, hw⟩; rw [hw]; clear hw w')
            | (go_at_call 42; refine (voting_isTrack _ _).mono ?_; rw [HT.out]; rintro e w' ⟨rfl, hw⟩; rw [hw]; clear hw w')
            | fail)
          exact bodyPost_ret (v := .int .i64 1) (by simp [results, Tryz.results21, go_sem]) rfl (FIN.out _ (Below.refl _ _) 1 (by decide) HE1.out)
      · have hE : delE S A a t who l n = 1 := by unfold delE; rw [if_pos (.inr (.inr (.inl hwc)))]
        have HE1 := Lib.hid hE
        have HB := Lib.hid (show decide (0 ≤ who ∧ who < 10) = false from decide_eq_false hwc)
        clear hE h hv ha ht hM hNs hac htr hwc
        go_enter Tryz.func21, Tryz.ntmps21
        go_wp2_with (first
          | (go_at_call 46; refine (bound_Account _ _).mono ?_; (first | rw [HA.out] | rw [HB.out]); rintro e w' ⟨rfl, hw⟩; rw [hw]; clear hw w')
          | (go_at_call 42; refine (voting_isTrack _ _).mono ?_; rw [HT.out]; rintro e w' ⟨rfl, hw⟩; rw [hw]; clear hw w')
          | fail)
        exact bodyPost_ret (v := .int .i64 1) (by simp [results, Tryz.results21, go_sem]) rfl (FIN.out _ (Below.refl _ _) 1 (by decide) HE1.out)
    · have hE : delE S A a t who l n = 1 := by unfold delE; rw [if_pos (.inr (.inl htr))]
      have HE1 := Lib.hid hE
      have HT := Lib.hid (show decide (0 ≤ t ∧ t < 4) = false from decide_eq_false htr)
      clear hE h hv ha ht hM hNs hac htr
      go_enter Tryz.func21, Tryz.ntmps21
      go_wp2_with (first
        | (go_at_call 46; refine (bound_Account _ _).mono ?_; rw [HA.out]; rintro e w' ⟨rfl, hw⟩; rw [hw]; clear hw w')
        | (go_at_call 42; refine (voting_isTrack _ _).mono ?_; rw [HT.out]; rintro e w' ⟨rfl, hw⟩; rw [hw]; clear hw w')
        | fail)
      exact bodyPost_ret (v := .int .i64 1) (by simp [results, Tryz.results21, go_sem]) rfl (FIN.out _ (Below.refl _ _) 1 (by decide) HE1.out)
  · have hE : delE S A a t who l n = 1 := by unfold delE; rw [if_pos (.inl hac)]
    have HE1 := Lib.hid hE
    have HA := Lib.hid (show decide (0 ≤ a ∧ a < 10) = false from decide_eq_false hac)
    clear hE h hv ha ht hM hNs hac
    go_enter Tryz.func21, Tryz.ntmps21
    go_wp2_with (first
      | (go_at_call 46; refine (bound_Account _ _).mono ?_; rw [HA.out]; rintro e w' ⟨rfl, hw⟩; rw [hw]; clear hw w')
      | fail)
    exact bodyPost_ret (v := .int .i64 1) (by simp [results, Tryz.results21, go_sem]) rfl (FIN.out _ (Below.refl _ _) 1 (by decide) HE1.out)
end Go.Proofs.YtlnjcfgihklppaaGreat
end

section
namespace Go.Proofs.YtlnjcfgihklppaaGreat
open Go.RowKit Go.Maps Go.Shelf
set_option linter.unusedVariables false
set_option linter.unusedSimpArgs false

set_option maxHeartbeats 8000000 in
set_option maxRecDepth 100000 in
attribute [local go_sem ↓] loadSt_V_hide loadSt_W_hide loadSt_T_hide storeT_hide in
theorem VoX.Unvote {vb N : Nat} {S : Vs} {F : FP} {w : World} (h : VoX vb N S F w) (hv : VInv S) {a r now : Int} (ha : (Lit.int .i64 a).wf = true) (hr : (Lit.int .i64 r).wf = true) :
    Calls Tryz.prog 20 #[.pointer (some ⟨vb, 0, none⟩), .int .i64 a, .int .i64 r, .int .i64 now] w fun e w' => e = .returned (.int .i64 (unvoteE S a r)) ∧ VoTo vb N (unvoteS S a r now) F w w' := by
  by_cases hac : isAcc a
  · have HA := Lib.hid (show decide (0 ≤ a ∧ a < 10) = true from decide_eq_true hac)
    have hL := hv.lens h
    obtain ⟨gv, gd, gw, gp, htb, hgV, -, -, -, -, hdV, -⟩ := h.tables
    obtain ⟨c72, -⟩ := htb w (Below.refl _ _)
    have hget := hgV w (Below.refl _ _) a r ha hr
    have hp := h.poll r
    obtain ⟨x, hx⟩ : ∃ x, x = (cget S.V a r).getD balS.zero := ⟨_, rfl⟩
    obtain ⟨q, hq⟩ : ∃ q, q = (cget S.V a r).isSome := ⟨_, rfl⟩
    rw [← hx, ← hq] at hget
    by_cases hh : plHas S.P r
    · cases q with
      | false =>
        have hE : unvoteE S a r = 4 := by unfold unvoteE; rw [if_neg (fun q => q hac), if_pos (.inr hq.symm)]
        have hS : unvoteS S a r now = S := by unfold unvoteS; rw [if_neg (by rw [hE]; decide)]
        rw [hE, hS]
        obtain ⟨k, rfl, hk, hst, hptr⟩ := plPtr_has (vb := vb) hh
        rw [hptr] at hp
        have HG := Lib.hid hget
        have HP := Lib.hid hp
        have HX := Lib.hid h
        clear hget hp h hv ha hr hac hL htb hgV hdV hx hq hh hE hS hk hst hptr
        go_enter Tryz.func20, Tryz.ntmps20
        go_wp2_with (first
          | (go_at_call 46; refine (bound_Account _ _).mono ?_; rw [HA.out]; rintro e w' ⟨rfl, hw⟩; rw [hw]; clear hw w')
          | (go_at_call 43; refine HP.out.mono ?_; rintro e w' ⟨rfl, hw⟩; rw [hw]; clear hw w')
          | (go_at_call 48; refine HG.out.mono ?_; rintro e w3 ⟨rfl, hb⟩; have K3 := Lib.hid hb; clear hb)
          | (refine wpl_allocS (s := balS) rfl rfl rfl ?_)
          | (refine wpl_storeS (s := balS) (t := x) (b := w3.heap.size) _ _ rfl rfl rfl rfl rfl (World.alloc_heap_new w3 _) (zeroS balS) ?_; rw [newS])
          | fail)
        exact bodyPost_ret (v := .int .i64 4) (by simp [results, Tryz.results20, go_sem]) rfl ⟨rfl, VoTo.of_below HX.out (K3.out.alloc K3.out.size _)⟩
      | true =>
        have hE : unvoteE S a r = 0 := by unfold unvoteE; rw [if_neg (fun q => q hac), if_neg (fun q => q.elim (fun q => q hh) (fun q => by rw [← hq] at q; cases q))]
        obtain ⟨x', hx'⟩ := Option.isSome_iff_exists.1 hq.symm
        have hxx : x = x' := by rw [hx, hx']; rfl
        obtain ⟨-, -, hok⟩ := hv.v _ (h.srt.1.get.1 hx')
        rw [← hxx] at hok
        dsimp only at hok
        obtain ⟨k, rfl, hk, hst, hptr⟩ := plPtr_has (vb := vb) hh
        rw [hptr] at hp
        rw [hE]
        have htr := hv.t k hk
        obtain ⟨tr, htr0⟩ : ∃ tr, tr = (S.P k).tr := ⟨_, rfl⟩
        obtain ⟨st, hst0⟩ : ∃ st, st = (S.P k).st := ⟨_, rfl⟩
        obtain ⟨en, hen0⟩ : ∃ en, en = (S.P k).en := ⟨_, rfl⟩
        obtain ⟨tt, htt0⟩ : ∃ tt, tt = (S.P k).t := ⟨_, rfl⟩
        obtain ⟨le, hle⟩ : ∃ le, le = gotS S a tr := ⟨_, rfl⟩
        have wtr : (Lit.int .i64 tr).wf = true := wfS (by omega) (by omega)
        obtain ⟨S1, hS1⟩ : ∃ S1, S1 = { S with V := cdel S.V a k } := ⟨_, rfl⟩
        have hdel := fun W hb => hdV W hb a k (by omega) ha hr
        rw [← hS1] at hdel
        have eNat : ((k : Int)).toNat = k := Int.toNat_natCast k
        have hW : ∀ F' w5 W, VoX vb N S1 F' w5 → Below w5.heap.size w5 W → W.cell? ⟨vb, k * 6 + 1, none⟩ = some (.int .i64 tr) ∧ W.cell? ⟨vb, k * 6 + 5, none⟩ = some (.int .i64 en) ∧ (loadSt_T (.pointer (some ⟨vb, k * 6 + 2, none⟩))).run Tryz.prog W = .ok (.agg (tlyS.f tt).toArray) W ∧ (∀ t' : Tl, (storeT (.pointer (some ⟨vb, k * 6 + 2, none⟩)) (.agg (tlyS.f t').toArray)).run Tryz.prog W = .ok () (W.setCells vb (k * 6 + 2) (tlyS.f t'))) ∧ ∀ t' : Tl, (W.setCells vb (k * 6 + 2) (tlyS.f t')).cell? ⟨vb, k * 6 + 1, none⟩ = some (.int .i64 tr) := fun F' w5 W hx5 hb => by
          obtain ⟨-, c1, c5, -, hrt, hth, -⟩ := (hx5.below hb).cells hk
          have eP : S1.P = S.P := by rw [hS1]
          rw [eP] at c1 c5 hrt
          refine ⟨by rw [htr0]; exact c1, by rw [hen0]; exact c5, by rw [htt0]; exact run_loadS (s := tlyS) hrt, fun t' => run_storeT hth t', fun t' => ?_⟩
          have := (((hx5.below hb).setTX hk t').cells hk).2.1
          have this : (W.setCells vb (k * 6 + 2) (tlyS.f t')).cell? ⟨vb, k * 6 + 1, none⟩ = some (.int .i64 (putP S1.P k ⟨(S1.P k).st, (S1.P k).tr, t'.a, t'.n, t'.s, (S1.P k).en⟩ k).tr) := this
          rw [putP_same, eP] at this
          rw [htr0]; exact this
        have hop : ∀ F' W, VoX vb N S1 F' W → Calls Tryz.prog 44 #[.pointer (some ⟨vb, k * 6, none⟩)] W fun e w' => e = .returned (.bool (st == 1)) ∧ w' = W := fun F' W hx5 => by
          have := hx5.open hk
          rw [show S1.P = S.P by rw [hS1], ← hst0] at this
          exact this
        have hwon : ∀ F' W, VoX vb N S1 F' W → Calls Tryz.prog 58 #[.pointer (some ⟨vb, k * 6, none⟩), .agg (balS.f x).toArray] W fun e w' => e = .returned (.bool (wonB st x)) ∧ Below W.heap.size W w' := fun F' W hx5 => by
          have := hx5.won hk x
          rw [show S1.P = S.P by rw [hS1], ← hst0] at this
          exact this
        have hgot : ∀ F' W, VoX vb N S1 F' W → Calls Tryz.prog 25 #[.pointer (some ⟨vb, 0, none⟩), .int .i64 a, .int .i64 tr] W fun e w' => e = .returned (.agg (wgtS.f le).toArray) ∧ Below W.heap.size W w' := fun F' W hx5 => by
          have := hx5.got ha wtr
          rw [show S1.G = S.G by rw [hS1]] at this
          rw [hle]; exact this
        have hsub : ∀ wx, Calls Tryz.prog 52 #[.agg (tlyS.f tt).toArray, .agg (tlyS.f (gainW x le)).toArray] wx fun e w' => e = .returned (.agg (tlyS.f (tt.sub (gainW x le))).toArray) ∧ Below wx.heap.size wx w' := fun wx => cSub tt (gainW x le) wx
        have HG := Lib.hid hget
        have HP := Lib.hid hp
        have HX := Lib.hid h
        have HTB := Lib.hid (show ∀ W, Below w.heap.size w W → W.cell? ⟨vb, 72, none⟩ = some (.pointer (some ⟨gv, 0, none⟩)) from fun W hb => (htb W hb).1)
        have HD := Lib.hid hdel
        have HW := Lib.hid hW
        have HO := Lib.hid hop
        have HWN := Lib.hid hwon
        have HGT := Lib.hid hgot
        have HSB := Lib.hid hsub
        have HGN := Lib.hid (cGain x le hok)
        have HK := Lib.hid hk
        have vS : unvoteS S a k now = (if st = 1 then { S1 with P := putP S1.P k ((S1.P k).withT (tt.sub (gainW x le))) } else if wonB st x = true then { S1 with Q := joinQ S1.Q a tr (wrap64 (en + periodI x.l 8)) x.a now } else S1) := by
          unfold unvoteS
          rw [hE, if_pos rfl, eNat, ← hst0, ← hx, ← htr0, ← hle, ← htt0, ← hen0, hS1]
        have hjoin : ∀ F' W, VoX vb N S1 F' W → ∀ u n : Int, Calls Tryz.prog 59 #[.pointer (some ⟨vb, 0, none⟩), .int .i64 a, .int .i64 tr, .int .i64 u, .int .i64 n, .int .i64 now] W fun e w' => e = .returned (.tuple #[]) ∧ VoTo vb N { S1 with Q := joinQ S1.Q a tr u n now } F' W w' := fun F' W hx5 u n => hx5.join (by rw [show S1.Q = S.Q by rw [hS1]]; omega) ha wtr u n now
        have hlev : wonB st x = true → 0 ≤ x.l ∧ x.l ≤ 6 := fun q => by
          unfold wonB at q
          by_cases k1 : x.k = 1
          · unfold balOk voteB shapedB at hok
            simp only [k1, if_true, Bool.and_eq_true] at hok
            exact withinB_out hok.1.1.1.1.1.1
          · rw [if_neg k1] at q; cases q
        have hper : wonB st x = true → ∀ wx : World, Calls Tryz.prog 60 #[.int .i64 x.l, .int .i64 8] wx fun e w' => e = .returned (.int .i64 (periodI x.l 8)) ∧ w' = wx := fun q wx => (conv_Period x.l 8 wx (by omega) (by omega) (hlev q).1 (hlev q).2).mono fun e w' h => ⟨h.1, h.2.symm⟩
        have HJ := Lib.hid hjoin
        have HPE := Lib.hid hper
        rw [vS]
        clear hget hp h hv ha hr hac hL htb hgV hdV hx hq hh hE hst hptr hx' hxx hok htr0 hst0 hen0 htt0 hle wtr hS1 hdel eNat hW hop hwon hgot hsub hk vS hjoin hlev hper htr
        obtain ⟨p, hp⟩ : ∃ p, p = wonB st x := ⟨_, rfl⟩
        rw [← hp] at HWN HPE ⊢
        clear hp
        by_cases q1 : st = 1
        · have q1' : (st == 1) = true := by simpa using q1
          rw [if_pos q1]
          clear q1
          go_enter Tryz.func20, Tryz.ntmps20
          go_upto_region 7 with (first
            | (go_at_call 46; refine (bound_Account _ _).mono ?_; rw [HA.out]; rintro e w' ⟨rfl, hw⟩; rw [hw]; clear hw w')
            | (go_at_call 43; refine HP.out.mono ?_; rintro e w' ⟨rfl, hw⟩; rw [hw]; clear hw w')
            | (go_at_call 48; refine HG.out.mono ?_; rintro e w3 ⟨rfl, hb⟩; have K3 := Lib.hid hb; clear hb)
            | (refine wpl_allocS (s := balS) rfl rfl rfl ?_)
            | (refine wpl_storeS (s := balS) (t := x) (b := w3.heap.size) _ _ rfl rfl rfl rfl rfl (World.alloc_heap_new w3 _) (zeroS balS) ?_; rw [newS])
            | fail)
          obtain ⟨yb, hyb⟩ : ∃ yb, yb = w3.heap.size := ⟨_, rfl⟩
          obtain ⟨w4, hw4⟩ : ∃ w4, w4 = w3.alloc (balS.obj x) := ⟨_, rfl⟩
          have hr4 : w4.rangeAt yb 0 (balS.f x) := by rw [hw4, hyb]; exact atS balS w3 x
          have hb4 : Below w.heap.size w w4 := by rw [hw4]; exact K3.out.alloc K3.out.size _
          have hl4 : yb < w4.heap.size ∧ w.heap.size ≤ yb := by rw [hw4, hyb]; exact ⟨by simp, K3.out.size⟩
          rw [← hw4, ← hyb]
          have c74 := HTB.out w4 hb4
          have H4 := Lib.hid (And.intro hr4 (And.intro hb4 hl4))
          clear hw4 hyb hr4 hb4 hl4 c72
          go_upto_region 8 with (first
            | (go_at_call 57; refine (HD.out w4 H4.out.2.1).mono ?_; rintro e w5 ⟨rfl, hto⟩; have H5 := Lib.hid hto; clear hto)
            | fail)
          obtain ⟨F5, hx5, hF5, ho5⟩ := H5.out
          obtain ⟨hr4, hb4, hl4, hl4'⟩ := H4.out
          have hnF : ∀ k, w.heap.size ≤ k → ¬ F k := fun k hk hf => by have := HX.out.lt hf; omega
          have hr5 : w5.rangeAt yb 0 (balS.f x) := rangeAt_block hr4 (ho5.block yb hl4 (hnF yb hl4') (fun h => h))
          have hl5 : yb < w5.heap.size := Nat.lt_of_lt_of_le hl4 ho5.grow.size
          have hn5 : yb ≠ vb := fun e => by have := HX.out.lt HX.out.own; omega
          have hSx : ∀ W, Below w5.heap.size w5 W → (loadSt_V (.pointer (some ⟨yb, 0, none⟩))).run Tryz.prog W = .ok (.agg (balS.f x).toArray) W := fun W hb => run_loadSt_V (rangeAt_block hr5 (hb.block yb hl5))
          have hSy : ∀ W, Below w5.heap.size w5 W → ∀ vs, (loadSt_V (.pointer (some ⟨yb, 0, none⟩))).run Tryz.prog (W.setCells vb (k * 6 + 2) vs) = .ok (.agg (balS.f x).toArray) (W.setCells vb (k * 6 + 2) vs) := fun W hb vs => run_loadSt_V (rangeAt_block hr5 ((setCells_off hn5 _ _ _).trans (hb.block yb hl5)))
          have hcl : ∀ W, Below w5.heap.size w5 W → W.cell? ⟨yb, 2, none⟩ = some (.int .i64 x.l) ∧ W.cell? ⟨yb, 3, none⟩ = some (.int .i64 x.a) := fun W hb => ⟨(rangeAt_block hr5 (hb.block yb hl5)) 2 _ rfl, (rangeAt_block hr5 (hb.block yb hl5)) 3 _ rfl⟩
          have H5x := Lib.hid (And.intro hx5 (And.intro hF5 ho5))
          have HW5 := Lib.hid (fun W hb => HW.out F5 w5 W hx5 hb)
          have HSX := Lib.hid hSx
          have HSY := Lib.hid hSy
          have HCL := Lib.hid hcl
          have K5 := Lib.hid (Below.refl w5.heap.size w5)
          clear hx5 hF5 ho5 hr4 hb4 hl4 hl4' hnF hr5 hl5 hn5 hSx hSy hcl c74
          go_upto_region 9 with (first
            | (go_at_call 44; refine (HO.out F5 w5 H5x.out.1).mono ?_; rintro e wx ⟨rfl, hw⟩; rw [hw]; clear hw wx)
            | fail)
          have SL := Lib.hid (show ∀ W, Below w5.heap.size w5 W → (loadSt_V (.pointer (some ⟨yb, 0, none⟩))).run Tryz.prog W = .ok (.agg (balS.f x).toArray) W ∧ W.cell? ⟨vb, k * 6 + 1, none⟩ = some (.int .i64 tr) from fun W hb => ⟨HSX.out W hb, (HW5.out W hb).1⟩)
          have K5d := Lib.hid (show Below w5.heap.size w5 w5.drew from (Below.refl _ w5).drew)
          have rT5 := (HW5.out _ K5d.out).2.2.1
          refine wp_region_held_drew (S := fun W => (loadSt_V (.pointer (some ⟨yb, 0, none⟩))).run Tryz.prog W = .ok (.agg (balS.f x).toArray) W ∧ W.cell? ⟨vb, k * 6 + 1, none⟩ = some (.int .i64 tr)) (by kernel_rfl) (SL.out _ K5d.out) (fun hHeld => ?_)
          refine wpAnyH_take (i := 0) (v := ?_) rfl (by kernel_rfl) (by kernel_rfl) (by kernel_rfl) (fun _ _ _ h => h) (Or.inl ⟨by kernel_rfl, ?_⟩) (by assumption) ?_
          rotate_left
          · intro w' hSw
            try dsimp only at hSw
            go_simp
            try with_reducible rfl
          try simp only [Act.put, List.getElem_toArray, List.getElem_cons_zero, List.getElem_cons_succ, List.setIfInBounds_toArray, List.set_cons_zero, List.set_cons_succ]
          refine wpAnyH_take (i := 1) (v := ?_) rfl (by kernel_rfl) (by kernel_rfl) (by kernel_rfl) (fun _ _ _ h => h) (Or.inl ⟨by kernel_rfl, ?_⟩) (by assumption) ?_
          rotate_left
          · intro w' hSw
            try dsimp only at hSw
            go_simp
            try with_reducible rfl
          try simp only [Act.put, List.getElem_toArray, List.getElem_cons_zero, List.getElem_cons_succ, List.setIfInBounds_toArray, List.set_cons_zero, List.set_cons_succ]
          refine wpAnyH_take (i := 2) (v := ?_) rfl (by kernel_rfl) (by kernel_rfl) (by kernel_rfl) (fun _ _ _ h => h) (Or.inl ⟨by kernel_rfl, ?_⟩) (by assumption) ?_
          rotate_left
          · intro w' hSw
            try dsimp only at hSw
            go_simp
            try with_reducible rfl
          try simp only [Act.put, List.getElem_toArray, List.getElem_cons_zero, List.getElem_cons_succ, List.setIfInBounds_toArray, List.set_cons_zero, List.set_cons_succ]
          refine wpAnyH_take (i := 3) (v := ?_) rfl (by kernel_rfl) (by kernel_rfl) (by kernel_rfl) (fun _ _ _ h => h) (Or.inl ⟨by kernel_rfl, ?_⟩) (by assumption) ?_
          rotate_left
          · intro w' hSw
            try dsimp only at hSw
            go_simp
            try with_reducible rfl
          try simp only [Act.put, List.getElem_toArray, List.getElem_cons_zero, List.getElem_cons_succ, List.setIfInBounds_toArray, List.set_cons_zero, List.set_cons_succ]
          refine wpAnyH_take (i := 5) (v := ?_) rfl (by kernel_rfl) (by kernel_rfl) (by kernel_rfl) (fun _ _ _ h => h) (Or.inl ⟨by kernel_rfl, ?_⟩) (by assumption) ?_
          rotate_left
          · intro w' hSw
            try dsimp only at hSw
            go_simp
            try with_reducible rfl
          try simp only [Act.put, List.getElem_toArray, List.getElem_cons_zero, List.getElem_cons_succ, List.setIfInBounds_toArray, List.set_cons_zero, List.set_cons_succ]
          refine wpAnyH_take (i := 6) (v := ?_) rfl (by kernel_rfl) (by kernel_rfl) (by kernel_rfl) (fun _ _ _ h => h) (Or.inl ⟨by kernel_rfl, ?_⟩) (by assumption) ?_
          rotate_left
          · intro w' hSw
            try dsimp only at hSw
            go_simp
            try with_reducible rfl
          try simp only [Act.put, List.getElem_toArray, List.getElem_cons_zero, List.getElem_cons_succ, List.setIfInBounds_toArray, List.set_cons_zero, List.set_cons_succ]
          refine wpAnyH_take (i := 7) (v := ?_) rfl (by kernel_rfl) (by kernel_rfl) (by kernel_rfl) (fun _ _ _ h => h) (Or.inl ⟨by kernel_rfl, ?_⟩) (by assumption) ?_
          rotate_left
          · intro w' hSw
            try dsimp only at hSw
            go_simp
            try with_reducible rfl
          try simp only [Act.put, List.getElem_toArray, List.getElem_cons_zero, List.getElem_cons_succ, List.setIfInBounds_toArray, List.set_cons_zero, List.set_cons_succ]
          refine wpAnyH_take (i := 8) (v := ?_) rfl (by kernel_rfl) (by kernel_rfl) (by kernel_rfl) (fun _ _ _ h => h) (Or.inl ⟨by kernel_rfl, ?_⟩) (by assumption) ?_
          rotate_left
          · intro w' hSw
            try dsimp only at hSw
            go_simp
            try with_reducible rfl
          try simp only [Act.put, List.getElem_toArray, List.getElem_cons_zero, List.getElem_cons_succ, List.setIfInBounds_toArray, List.set_cons_zero, List.set_cons_succ]
          refine wpAnyH_take (i := 9) (v := ?_) rfl (by kernel_rfl) (by kernel_rfl) (by kernel_rfl) (fun _ _ _ h => h) (Or.inl ⟨by kernel_rfl, ?_⟩) (by assumption) ?_
          rotate_left
          · intro w' hSw
            try dsimp only at hSw
            go_simp
            try with_reducible rfl
          try simp only [Act.put, List.getElem_toArray, List.getElem_cons_zero, List.getElem_cons_succ, List.setIfInBounds_toArray, List.set_cons_zero, List.set_cons_succ]
          refine wpAnyH_take (i := 10) (v := ?_) rfl (by kernel_rfl) (by kernel_rfl) (by kernel_rfl) (fun _ _ _ h => h) (Or.inl ⟨by kernel_rfl, ?_⟩) (by assumption) ?_
          rotate_left
          · intro w' hSw
            try dsimp only at hSw
            go_simp
            try with_reducible rfl
          try simp only [Act.put, List.getElem_toArray, List.getElem_cons_zero, List.getElem_cons_succ, List.setIfInBounds_toArray, List.set_cons_zero, List.set_cons_succ]
          refine wpAnyH_take (i := 11) (v := ?_) rfl (by kernel_rfl) (by kernel_rfl) (by kernel_rfl) (fun _ _ _ h => h) (Or.inl ⟨by kernel_rfl, ?_⟩) (by assumption) ?_
          rotate_left
          · intro w' hSw
            try dsimp only at hSw
            go_simp
            try with_reducible rfl
          try simp only [Act.put, List.getElem_toArray, List.getElem_cons_zero, List.getElem_cons_succ, List.setIfInBounds_toArray, List.set_cons_zero, List.set_cons_succ]
          refine wpAnyH_ready (rs := [4, 12]) (by kernel_rfl) (by simp) ?_
          refine AllReadyH.cons rfl (fun K hK => ?_) (AllReadyH.cons rfl (fun K hK => ?_) AllReadyH.nil)
          · rw [if_pos (by kernel_rfl)]
            go_simp
            skip
            first | refine hK.out _ _ ?_ (fun hHeld => ?_) | (go_wp2_with fail; refine hK.out _ _ ?_ (fun hHeld => ?_))
            · try dsimp only
              exact SL.out _ K5d.out
            clear hK K
            try simp only [Act.put, List.getElem_toArray, List.getElem_cons_zero, List.getElem_cons_succ, List.setIfInBounds_toArray, List.set_cons_zero, List.set_cons_succ]
            refine wpAnyH_ready (rs := [12]) (by kernel_rfl) (by simp) ?_
            refine AllReadyH.cons rfl (fun K hK => ?_) AllReadyH.nil
            rw [if_pos (by kernel_rfl)]
            go_simp
            go_at_call 25; refine (HGT.out F5 _ (H5x.out.1.below K5d.out)).mono ?_; rintro e w12 ⟨rfl, hb⟩; have K12 := Lib.hid (K5d.out.trans (hb.mono K5d.out.size)); have rT12 := (HW5.out _ K12.out).2.2.1; clear hb
            first | refine hK.out _ _ ?_ (fun hHeld => ?_) | (go_wp2_with fail; refine hK.out _ _ ?_ (fun hHeld => ?_))
            · try dsimp only
              exact SL.out _ K12.out
            clear hK K
            try simp only [Act.put, List.getElem_toArray, List.getElem_cons_zero, List.getElem_cons_succ, List.setIfInBounds_toArray, List.set_cons_zero, List.set_cons_succ]
            refine wpAnyH_ready (rs := [13]) (by kernel_rfl) (by simp) ?_
            refine AllReadyH.cons rfl (fun K hK => ?_) AllReadyH.nil
            rw [if_pos (by kernel_rfl)]
            go_simp
            go_at_call 53; refine (HGN.out _).mono ?_; rintro e w13 ⟨rfl, hb⟩; have K13 := Lib.hid (K12.out.trans (hb.mono K12.out.size)); have rT13 := (HW5.out _ K13.out).2.2.1; clear hb
            first | refine hK.out _ _ ?_ (fun hHeld => ?_) | (go_wp2_with fail; refine hK.out _ _ ?_ (fun hHeld => ?_))
            · try dsimp only
              exact SL.out _ K13.out
            clear hK K
            try simp only [Act.put, List.getElem_toArray, List.getElem_cons_zero, List.getElem_cons_succ, List.setIfInBounds_toArray, List.set_cons_zero, List.set_cons_succ]
            refine wpAnyH_ready (rs := [14]) (by kernel_rfl) (by simp) ?_
            refine AllReadyH.cons rfl (fun K hK => ?_) AllReadyH.nil
            rw [if_pos (by kernel_rfl)]
            go_simp
            go_at_call 52; refine (HSB.out _).mono ?_; rintro e w14 ⟨rfl, hb⟩; have K14 := Lib.hid (K13.out.trans (hb.mono K13.out.size)); have rS14 := (HW5.out _ K14.out).2.2.2.1 (tt.sub (gainW x le)); clear hb
            first | refine hK.out _ _ ?_ (fun hHeld => ?_) | (go_wp2_with fail; refine hK.out _ _ ?_ (fun hHeld => ?_))
            · try dsimp only
              exact SL.out _ K14.out
            clear hK K
            try simp only [Act.put, List.getElem_toArray, List.getElem_cons_zero, List.getElem_cons_succ, List.setIfInBounds_toArray, List.set_cons_zero, List.set_cons_succ]
            refine wpAnyH_take (i := 15) (v := ?_) rfl (by kernel_rfl) (by kernel_rfl) (by kernel_rfl) (fun _ _ _ h => h) (Or.inl ⟨by kernel_rfl, ?_⟩) (by assumption) ?_
            rotate_left
            · intro w' hSw
              try dsimp only at hSw
              go_simp
              try with_reducible rfl
            try simp only [Act.put, List.getElem_toArray, List.getElem_cons_zero, List.getElem_cons_succ, List.setIfInBounds_toArray, List.set_cons_zero, List.set_cons_succ]
            refine wpAnyH_take (i := 16) (v := ?_) rfl (by kernel_rfl) (by kernel_rfl) (by kernel_rfl) (fun _ _ _ h => h) (Or.inl ⟨by kernel_rfl, ?_⟩) (by assumption) ?_
            rotate_left
            · intro w' hSw
              try dsimp only at hSw
              go_simp
              try with_reducible rfl
            try simp only [Act.put, List.getElem_toArray, List.getElem_cons_zero, List.getElem_cons_succ, List.setIfInBounds_toArray, List.set_cons_zero, List.set_cons_succ]
            refine wpAnyH_ready (rs := [17]) (by kernel_rfl) (by simp) ?_
            refine AllReadyH.cons rfl (fun K hK => ?_) AllReadyH.nil
            rw [if_pos (by kernel_rfl)]
            go_simp
            skip
            first | refine hK.out _ _ ?_ (fun hHeld => ?_) | (go_wp2_with fail; refine hK.out _ _ ?_ (fun hHeld => ?_))
            · try dsimp only
              exact ⟨HSY.out _ K14.out _, (HW5.out _ K14.out).2.2.2.2 _⟩
            clear hK K
            try simp only [Act.put, List.getElem_toArray, List.getElem_cons_zero, List.getElem_cons_succ, List.setIfInBounds_toArray, List.set_cons_zero, List.set_cons_succ]
            refine wpAnyH_done (by kernel_rfl) ?_ _
            go_wp2_with fail
            exact bodyPost_ret (v := .int .i64 0) (by simp [results, Tryz.results20, go_sem]) rfl ⟨rfl, VoTo.later H4.out.2.1 (VoTo.cons H5x.out.2.1 H5x.out.2.2 (VoTo.later K14.out ((H5x.out.1.below K14.out).setT HK.out _)))⟩
          · rw [if_pos (by kernel_rfl)]
            go_simp
            go_at_call 25; refine (HGT.out F5 _ (H5x.out.1.below K5d.out)).mono ?_; rintro e w12 ⟨rfl, hb⟩; have K12 := Lib.hid (K5d.out.trans (hb.mono K5d.out.size)); have rT12 := (HW5.out _ K12.out).2.2.1; clear hb
            first | refine hK.out _ _ ?_ (fun hHeld => ?_) | (go_wp2_with fail; refine hK.out _ _ ?_ (fun hHeld => ?_))
            · try dsimp only
              exact SL.out _ K12.out
            clear hK K
            try simp only [Act.put, List.getElem_toArray, List.getElem_cons_zero, List.getElem_cons_succ, List.setIfInBounds_toArray, List.set_cons_zero, List.set_cons_succ]
            refine wpAnyH_ready (rs := [4, 13]) (by kernel_rfl) (by simp) ?_
            refine AllReadyH.cons rfl (fun K hK => ?_) (AllReadyH.cons rfl (fun K hK => ?_) AllReadyH.nil)
            · rw [if_pos (by kernel_rfl)]
              go_simp
              skip
              first | refine hK.out _ _ ?_ (fun hHeld => ?_) | (go_wp2_with fail; refine hK.out _ _ ?_ (fun hHeld => ?_))
              · try dsimp only
                exact SL.out _ K12.out
              clear hK K
              try simp only [Act.put, List.getElem_toArray, List.getElem_cons_zero, List.getElem_cons_succ, List.setIfInBounds_toArray, List.set_cons_zero, List.set_cons_succ]
              refine wpAnyH_ready (rs := [13]) (by kernel_rfl) (by simp) ?_
              refine AllReadyH.cons rfl (fun K hK => ?_) AllReadyH.nil
              rw [if_pos (by kernel_rfl)]
              go_simp
              go_at_call 53; refine (HGN.out _).mono ?_; rintro e w13 ⟨rfl, hb⟩; have K13 := Lib.hid (K12.out.trans (hb.mono K12.out.size)); have rT13 := (HW5.out _ K13.out).2.2.1; clear hb
              first | refine hK.out _ _ ?_ (fun hHeld => ?_) | (go_wp2_with fail; refine hK.out _ _ ?_ (fun hHeld => ?_))
              · try dsimp only
                exact SL.out _ K13.out
              clear hK K
              try simp only [Act.put, List.getElem_toArray, List.getElem_cons_zero, List.getElem_cons_succ, List.setIfInBounds_toArray, List.set_cons_zero, List.set_cons_succ]
              refine wpAnyH_ready (rs := [14]) (by kernel_rfl) (by simp) ?_
              refine AllReadyH.cons rfl (fun K hK => ?_) AllReadyH.nil
              rw [if_pos (by kernel_rfl)]
              go_simp
              go_at_call 52; refine (HSB.out _).mono ?_; rintro e w14 ⟨rfl, hb⟩; have K14 := Lib.hid (K13.out.trans (hb.mono K13.out.size)); have rS14 := (HW5.out _ K14.out).2.2.2.1 (tt.sub (gainW x le)); clear hb
              first | refine hK.out _ _ ?_ (fun hHeld => ?_) | (go_wp2_with fail; refine hK.out _ _ ?_ (fun hHeld => ?_))
              · try dsimp only
                exact SL.out _ K14.out
              clear hK K
              try simp only [Act.put, List.getElem_toArray, List.getElem_cons_zero, List.getElem_cons_succ, List.setIfInBounds_toArray, List.set_cons_zero, List.set_cons_succ]
              refine wpAnyH_take (i := 15) (v := ?_) rfl (by kernel_rfl) (by kernel_rfl) (by kernel_rfl) (fun _ _ _ h => h) (Or.inl ⟨by kernel_rfl, ?_⟩) (by assumption) ?_
              rotate_left
              · intro w' hSw
                try dsimp only at hSw
                go_simp
                try with_reducible rfl
              try simp only [Act.put, List.getElem_toArray, List.getElem_cons_zero, List.getElem_cons_succ, List.setIfInBounds_toArray, List.set_cons_zero, List.set_cons_succ]
              refine wpAnyH_take (i := 16) (v := ?_) rfl (by kernel_rfl) (by kernel_rfl) (by kernel_rfl) (fun _ _ _ h => h) (Or.inl ⟨by kernel_rfl, ?_⟩) (by assumption) ?_
              rotate_left
              · intro w' hSw
                try dsimp only at hSw
                go_simp
                try with_reducible rfl
              try simp only [Act.put, List.getElem_toArray, List.getElem_cons_zero, List.getElem_cons_succ, List.setIfInBounds_toArray, List.set_cons_zero, List.set_cons_succ]
              refine wpAnyH_ready (rs := [17]) (by kernel_rfl) (by simp) ?_
              refine AllReadyH.cons rfl (fun K hK => ?_) AllReadyH.nil
              rw [if_pos (by kernel_rfl)]
              go_simp
              skip
              first | refine hK.out _ _ ?_ (fun hHeld => ?_) | (go_wp2_with fail; refine hK.out _ _ ?_ (fun hHeld => ?_))
              · try dsimp only
                exact ⟨HSY.out _ K14.out _, (HW5.out _ K14.out).2.2.2.2 _⟩
              clear hK K
              try simp only [Act.put, List.getElem_toArray, List.getElem_cons_zero, List.getElem_cons_succ, List.setIfInBounds_toArray, List.set_cons_zero, List.set_cons_succ]
              refine wpAnyH_done (by kernel_rfl) ?_ _
              go_wp2_with fail
              exact bodyPost_ret (v := .int .i64 0) (by simp [results, Tryz.results20, go_sem]) rfl ⟨rfl, VoTo.later H4.out.2.1 (VoTo.cons H5x.out.2.1 H5x.out.2.2 (VoTo.later K14.out ((H5x.out.1.below K14.out).setT HK.out _)))⟩
            · rw [if_pos (by kernel_rfl)]
              go_simp
              go_at_call 53; refine (HGN.out _).mono ?_; rintro e w13 ⟨rfl, hb⟩; have K13 := Lib.hid (K12.out.trans (hb.mono K12.out.size)); have rT13 := (HW5.out _ K13.out).2.2.1; clear hb
              first | refine hK.out _ _ ?_ (fun hHeld => ?_) | (go_wp2_with fail; refine hK.out _ _ ?_ (fun hHeld => ?_))
              · try dsimp only
                exact SL.out _ K13.out
              clear hK K
              try simp only [Act.put, List.getElem_toArray, List.getElem_cons_zero, List.getElem_cons_succ, List.setIfInBounds_toArray, List.set_cons_zero, List.set_cons_succ]
              refine wpAnyH_ready (rs := [4]) (by kernel_rfl) (by simp) ?_
              refine AllReadyH.cons rfl (fun K hK => ?_) AllReadyH.nil
              rw [if_pos (by kernel_rfl)]
              go_simp
              skip
              first | refine hK.out _ _ ?_ (fun hHeld => ?_) | (go_wp2_with fail; refine hK.out _ _ ?_ (fun hHeld => ?_))
              · try dsimp only
                exact SL.out _ K13.out
              clear hK K
              try simp only [Act.put, List.getElem_toArray, List.getElem_cons_zero, List.getElem_cons_succ, List.setIfInBounds_toArray, List.set_cons_zero, List.set_cons_succ]
              refine wpAnyH_ready (rs := [14]) (by kernel_rfl) (by simp) ?_
              refine AllReadyH.cons rfl (fun K hK => ?_) AllReadyH.nil
              rw [if_pos (by kernel_rfl)]
              go_simp
              go_at_call 52; refine (HSB.out _).mono ?_; rintro e w14 ⟨rfl, hb⟩; have K14 := Lib.hid (K13.out.trans (hb.mono K13.out.size)); have rS14 := (HW5.out _ K14.out).2.2.2.1 (tt.sub (gainW x le)); clear hb
              first | refine hK.out _ _ ?_ (fun hHeld => ?_) | (go_wp2_with fail; refine hK.out _ _ ?_ (fun hHeld => ?_))
              · try dsimp only
                exact SL.out _ K14.out
              clear hK K
              try simp only [Act.put, List.getElem_toArray, List.getElem_cons_zero, List.getElem_cons_succ, List.setIfInBounds_toArray, List.set_cons_zero, List.set_cons_succ]
              refine wpAnyH_take (i := 15) (v := ?_) rfl (by kernel_rfl) (by kernel_rfl) (by kernel_rfl) (fun _ _ _ h => h) (Or.inl ⟨by kernel_rfl, ?_⟩) (by assumption) ?_
              rotate_left
              · intro w' hSw
                try dsimp only at hSw
                go_simp
                try with_reducible rfl
              try simp only [Act.put, List.getElem_toArray, List.getElem_cons_zero, List.getElem_cons_succ, List.setIfInBounds_toArray, List.set_cons_zero, List.set_cons_succ]
              refine wpAnyH_take (i := 16) (v := ?_) rfl (by kernel_rfl) (by kernel_rfl) (by kernel_rfl) (fun _ _ _ h => h) (Or.inl ⟨by kernel_rfl, ?_⟩) (by assumption) ?_
              rotate_left
              · intro w' hSw
                try dsimp only at hSw
                go_simp
                try with_reducible rfl
              try simp only [Act.put, List.getElem_toArray, List.getElem_cons_zero, List.getElem_cons_succ, List.setIfInBounds_toArray, List.set_cons_zero, List.set_cons_succ]
              refine wpAnyH_ready (rs := [17]) (by kernel_rfl) (by simp) ?_
              refine AllReadyH.cons rfl (fun K hK => ?_) AllReadyH.nil
              rw [if_pos (by kernel_rfl)]
              go_simp
              skip
              first | refine hK.out _ _ ?_ (fun hHeld => ?_) | (go_wp2_with fail; refine hK.out _ _ ?_ (fun hHeld => ?_))
              · try dsimp only
                exact ⟨HSY.out _ K14.out _, (HW5.out _ K14.out).2.2.2.2 _⟩
              clear hK K
              try simp only [Act.put, List.getElem_toArray, List.getElem_cons_zero, List.getElem_cons_succ, List.setIfInBounds_toArray, List.set_cons_zero, List.set_cons_succ]
              refine wpAnyH_done (by kernel_rfl) ?_ _
              go_wp2_with fail
              exact bodyPost_ret (v := .int .i64 0) (by simp [results, Tryz.results20, go_sem]) rfl ⟨rfl, VoTo.later H4.out.2.1 (VoTo.cons H5x.out.2.1 H5x.out.2.2 (VoTo.later K14.out ((H5x.out.1.below K14.out).setT HK.out _)))⟩
        · have q1' : (st == 1) = false := by simpa using q1
          rw [if_neg q1]
          clear q1
          cases p with
          | true =>
            rw [if_pos rfl]
            go_enter Tryz.func20, Tryz.ntmps20
            go_upto_region 7 with (first
              | (go_at_call 46; refine (bound_Account _ _).mono ?_; rw [HA.out]; rintro e w' ⟨rfl, hw⟩; rw [hw]; clear hw w')
              | (go_at_call 43; refine HP.out.mono ?_; rintro e w' ⟨rfl, hw⟩; rw [hw]; clear hw w')
              | (go_at_call 48; refine HG.out.mono ?_; rintro e w3 ⟨rfl, hb⟩; have K3 := Lib.hid hb; clear hb)
              | (refine wpl_allocS (s := balS) rfl rfl rfl ?_)
              | (refine wpl_storeS (s := balS) (t := x) (b := w3.heap.size) _ _ rfl rfl rfl rfl rfl (World.alloc_heap_new w3 _) (zeroS balS) ?_; rw [newS])
              | fail)
            obtain ⟨yb, hyb⟩ : ∃ yb, yb = w3.heap.size := ⟨_, rfl⟩
            obtain ⟨w4, hw4⟩ : ∃ w4, w4 = w3.alloc (balS.obj x) := ⟨_, rfl⟩
            have hr4 : w4.rangeAt yb 0 (balS.f x) := by rw [hw4, hyb]; exact atS balS w3 x
            have hb4 : Below w.heap.size w w4 := by rw [hw4]; exact K3.out.alloc K3.out.size _
            have hl4 : yb < w4.heap.size ∧ w.heap.size ≤ yb := by rw [hw4, hyb]; exact ⟨by simp, K3.out.size⟩
            rw [← hw4, ← hyb]
            have c74 := HTB.out w4 hb4
            have H4 := Lib.hid (And.intro hr4 (And.intro hb4 hl4))
            clear hw4 hyb hr4 hb4 hl4 c72
            go_upto_region 8 with (first
              | (go_at_call 57; refine (HD.out w4 H4.out.2.1).mono ?_; rintro e w5 ⟨rfl, hto⟩; have H5 := Lib.hid hto; clear hto)
              | fail)
            obtain ⟨F5, hx5, hF5, ho5⟩ := H5.out
            obtain ⟨hr4, hb4, hl4, hl4'⟩ := H4.out
            have hnF : ∀ k, w.heap.size ≤ k → ¬ F k := fun k hk hf => by have := HX.out.lt hf; omega
            have hr5 : w5.rangeAt yb 0 (balS.f x) := rangeAt_block hr4 (ho5.block yb hl4 (hnF yb hl4') (fun h => h))
            have hl5 : yb < w5.heap.size := Nat.lt_of_lt_of_le hl4 ho5.grow.size
            have hn5 : yb ≠ vb := fun e => by have := HX.out.lt HX.out.own; omega
            have hSx : ∀ W, Below w5.heap.size w5 W → (loadSt_V (.pointer (some ⟨yb, 0, none⟩))).run Tryz.prog W = .ok (.agg (balS.f x).toArray) W := fun W hb => run_loadSt_V (rangeAt_block hr5 (hb.block yb hl5))
            have hSy : ∀ W, Below w5.heap.size w5 W → ∀ vs, (loadSt_V (.pointer (some ⟨yb, 0, none⟩))).run Tryz.prog (W.setCells vb (k * 6 + 2) vs) = .ok (.agg (balS.f x).toArray) (W.setCells vb (k * 6 + 2) vs) := fun W hb vs => run_loadSt_V (rangeAt_block hr5 ((setCells_off hn5 _ _ _).trans (hb.block yb hl5)))
            have hcl : ∀ W, Below w5.heap.size w5 W → W.cell? ⟨yb, 2, none⟩ = some (.int .i64 x.l) ∧ W.cell? ⟨yb, 3, none⟩ = some (.int .i64 x.a) := fun W hb => ⟨(rangeAt_block hr5 (hb.block yb hl5)) 2 _ rfl, (rangeAt_block hr5 (hb.block yb hl5)) 3 _ rfl⟩
            have H5x := Lib.hid (And.intro hx5 (And.intro hF5 ho5))
            have HW5 := Lib.hid (fun W hb => HW.out F5 w5 W hx5 hb)
            have HSX := Lib.hid hSx
            have HSY := Lib.hid hSy
            have HCL := Lib.hid hcl
            have K5 := Lib.hid (Below.refl w5.heap.size w5)
            clear hx5 hF5 ho5 hr4 hb4 hl4 hl4' hnF hr5 hl5 hn5 hSx hSy hcl c74
            have lx5 := HSX.out _ K5.out
            go_upto_region 11 with (first
              | (go_at_call 44; refine (HO.out F5 w5 H5x.out.1).mono ?_; rintro e wx ⟨rfl, hw⟩; rw [hw]; clear hw wx)
              | (go_at_call 58; refine (HWN.out F5 w5 H5x.out.1).mono ?_; rintro e w6 ⟨rfl, hb⟩; have K6 := Lib.hid hb; clear hb)
              | fail)
            have K6d := Lib.hid (show Below w5.heap.size w5 w6.drew from K6.out.drew)
            obtain ⟨z1, z5, -⟩ := HW5.out _ K6d.out
            obtain ⟨y2, y3⟩ := HCL.out _ K6d.out
            clear lx5
            refine wp_region_still_tail 17 (by kernel_rfl) (by kernel_rfl) ?_
            simp only [List.take_succ_cons, List.take_zero, List.drop_succ_cons, List.drop_zero]
            change wpStill _ _ w6.drew _ _ _
            repeat still_step
            still_call (HPE.out (by trivial) w6.drew)
            repeat still_step
            refine wpStill_nil ?_
            change wpList _ _ _ _ _ w6.drew
            go_wp2_with (first
              | (go_at_call 59; refine (HJ.out F5 _ (H5x.out.1.below K6d.out) _ _).mono ?_; rintro e w7 ⟨rfl, hto⟩; have H7 := Lib.hid hto; clear hto)
              | fail)
            exact bodyPost_ret (v := .int .i64 0) (by simp [results, Tryz.results20, go_sem]) rfl ⟨rfl, VoTo.later H4.out.2.1 (VoTo.cons H5x.out.2.1 H5x.out.2.2 (VoTo.later K6d.out H7.out))⟩
          | false =>
            rw [if_neg (by decide)]
            go_enter Tryz.func20, Tryz.ntmps20
            go_upto_region 7 with (first
              | (go_at_call 46; refine (bound_Account _ _).mono ?_; rw [HA.out]; rintro e w' ⟨rfl, hw⟩; rw [hw]; clear hw w')
              | (go_at_call 43; refine HP.out.mono ?_; rintro e w' ⟨rfl, hw⟩; rw [hw]; clear hw w')
              | (go_at_call 48; refine HG.out.mono ?_; rintro e w3 ⟨rfl, hb⟩; have K3 := Lib.hid hb; clear hb)
              | (refine wpl_allocS (s := balS) rfl rfl rfl ?_)
              | (refine wpl_storeS (s := balS) (t := x) (b := w3.heap.size) _ _ rfl rfl rfl rfl rfl (World.alloc_heap_new w3 _) (zeroS balS) ?_; rw [newS])
              | fail)
            obtain ⟨yb, hyb⟩ : ∃ yb, yb = w3.heap.size := ⟨_, rfl⟩
            obtain ⟨w4, hw4⟩ : ∃ w4, w4 = w3.alloc (balS.obj x) := ⟨_, rfl⟩
            have hr4 : w4.rangeAt yb 0 (balS.f x) := by rw [hw4, hyb]; exact atS balS w3 x
            have hb4 : Below w.heap.size w w4 := by rw [hw4]; exact K3.out.alloc K3.out.size _
            have hl4 : yb < w4.heap.size ∧ w.heap.size ≤ yb := by rw [hw4, hyb]; exact ⟨by simp, K3.out.size⟩
            rw [← hw4, ← hyb]
            have c74 := HTB.out w4 hb4
            have H4 := Lib.hid (And.intro hr4 (And.intro hb4 hl4))
            clear hw4 hyb hr4 hb4 hl4 c72
            go_upto_region 8 with (first
              | (go_at_call 57; refine (HD.out w4 H4.out.2.1).mono ?_; rintro e w5 ⟨rfl, hto⟩; have H5 := Lib.hid hto; clear hto)
              | fail)
            obtain ⟨F5, hx5, hF5, ho5⟩ := H5.out
            obtain ⟨hr4, hb4, hl4, hl4'⟩ := H4.out
            have hnF : ∀ k, w.heap.size ≤ k → ¬ F k := fun k hk hf => by have := HX.out.lt hf; omega
            have hr5 : w5.rangeAt yb 0 (balS.f x) := rangeAt_block hr4 (ho5.block yb hl4 (hnF yb hl4') (fun h => h))
            have hl5 : yb < w5.heap.size := Nat.lt_of_lt_of_le hl4 ho5.grow.size
            have hn5 : yb ≠ vb := fun e => by have := HX.out.lt HX.out.own; omega
            have hSx : ∀ W, Below w5.heap.size w5 W → (loadSt_V (.pointer (some ⟨yb, 0, none⟩))).run Tryz.prog W = .ok (.agg (balS.f x).toArray) W := fun W hb => run_loadSt_V (rangeAt_block hr5 (hb.block yb hl5))
            have hSy : ∀ W, Below w5.heap.size w5 W → ∀ vs, (loadSt_V (.pointer (some ⟨yb, 0, none⟩))).run Tryz.prog (W.setCells vb (k * 6 + 2) vs) = .ok (.agg (balS.f x).toArray) (W.setCells vb (k * 6 + 2) vs) := fun W hb vs => run_loadSt_V (rangeAt_block hr5 ((setCells_off hn5 _ _ _).trans (hb.block yb hl5)))
            have hcl : ∀ W, Below w5.heap.size w5 W → W.cell? ⟨yb, 2, none⟩ = some (.int .i64 x.l) ∧ W.cell? ⟨yb, 3, none⟩ = some (.int .i64 x.a) := fun W hb => ⟨(rangeAt_block hr5 (hb.block yb hl5)) 2 _ rfl, (rangeAt_block hr5 (hb.block yb hl5)) 3 _ rfl⟩
            have H5x := Lib.hid (And.intro hx5 (And.intro hF5 ho5))
            have HW5 := Lib.hid (fun W hb => HW.out F5 w5 W hx5 hb)
            have HSX := Lib.hid hSx
            have HSY := Lib.hid hSy
            have HCL := Lib.hid hcl
            have K5 := Lib.hid (Below.refl w5.heap.size w5)
            clear hx5 hF5 ho5 hr4 hb4 hl4 hl4' hnF hr5 hl5 hn5 hSx hSy hcl c74
            have lx5 := HSX.out _ K5.out
            go_wp2_with (first
              | (go_at_call 44; refine (HO.out F5 w5 H5x.out.1).mono ?_; rintro e wx ⟨rfl, hw⟩; rw [hw]; clear hw wx)
              | (go_at_call 58; refine (HWN.out F5 w5 H5x.out.1).mono ?_; rintro e w6 ⟨rfl, hb⟩; have K6 := Lib.hid hb; clear hb)
              | fail)
            exact bodyPost_ret (v := .int .i64 0) (by simp [results, Tryz.results20, go_sem]) rfl ⟨rfl, VoTo.later H4.out.2.1 (VoTo.cons H5x.out.2.1 H5x.out.2.2 (VoTo.of_below H5x.out.1 K6.out))⟩
    · have hE : unvoteE S a r = 4 := by unfold unvoteE; rw [if_neg (fun q => q hac), if_pos (.inl hh)]
      have hS : unvoteS S a r now = S := by unfold unvoteS; rw [if_neg (by rw [hE]; decide)]
      rw [hE, hS]
      rw [plPtr_none hh] at hp
      have HG := Lib.hid hget
      have HP := Lib.hid hp
      have HX := Lib.hid h
      clear hget hp h hv ha hr hac hL htb hgV hdV hx hq hh hE hS
      go_enter Tryz.func20, Tryz.ntmps20
      go_wp2_with (first
        | (go_at_call 46; refine (bound_Account _ _).mono ?_; rw [HA.out]; rintro e w' ⟨rfl, hw⟩; rw [hw]; clear hw w')
        | (go_at_call 43; refine HP.out.mono ?_; rintro e w' ⟨rfl, hw⟩; rw [hw]; clear hw w')
        | (go_at_call 48; refine HG.out.mono ?_; rintro e w3 ⟨rfl, hb⟩; have K3 := Lib.hid hb; clear hb)
        | (refine wpl_allocS (s := balS) rfl rfl rfl ?_)
        | (refine wpl_storeS (s := balS) (t := x) (b := w3.heap.size) _ _ rfl rfl rfl rfl rfl (World.alloc_heap_new w3 _) (zeroS balS) ?_; rw [newS])
        | fail)
      exact bodyPost_ret (v := .int .i64 4) (by simp [results, Tryz.results20, go_sem]) rfl ⟨rfl, VoTo.of_below HX.out (K3.out.alloc K3.out.size _)⟩
  · have HA := Lib.hid (show decide (0 ≤ a ∧ a < 10) = false from decide_eq_false hac)
    have hE : unvoteE S a r = 1 := by unfold unvoteE; rw [if_pos hac]
    have hS : unvoteS S a r now = S := by unfold unvoteS; rw [if_neg (by rw [hE]; decide)]
    rw [hE, hS]
    have HX := Lib.hid h
    clear h hv ha hr hac hE hS
    go_enter Tryz.func20, Tryz.ntmps20
    go_wp2_with (first
      | (go_at_call 46; refine (bound_Account _ _).mono ?_; rw [HA.out]; rintro e w' ⟨rfl, hw⟩; rw [hw]; clear hw w')
      | fail)
    exact bodyPost_ret (v := .int .i64 1) (by simp [results, Tryz.results20, go_sem]) rfl ⟨rfl, VoTo.refl HX.out⟩
end Go.Proofs.YtlnjcfgihklppaaGreat
end
