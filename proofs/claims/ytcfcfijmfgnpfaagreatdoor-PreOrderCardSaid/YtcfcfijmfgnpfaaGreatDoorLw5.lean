/-
  The law PreOrder: digests are told rising. (In progress: the loop over the calls.)
-/
import Derived.Test.YtcfcfijmfgnpfaaGreatDoorStc
namespace Go.Proofs.YtcfcfijmfgnpfaaGreatDoor
open Go.RowKit Go.Maps Go.Shelf
set_option linter.unusedVariables false
set_option linter.unusedSimpArgs false

def nqH (x y : Value) : Sem Value := binOp .neq 41 x y
theorem nqH_hide (x y : Value) : binOp .neq 41 x y = nqH x y := rfl
theorem newOk_100 : newOk [0, 100, 100] := by
  refine ⟨by simp, fun k hk => ?_, by decide +kernel⟩
  match k, hk with
  | 0, _ => decide
  | 1, _ => decide
  | 2, _ => decide
/-- Noted: one more is there, and was not. -/
theorem noteP_len {A : Acc} {M : Cls Int} {P : Pm} {who : Int} {c : Cl} (hs : SrtD P) (h : noteE A M P who c = 0) : (noteP A M P who c).length = P.length + 1 ∧ P.length < 6 ∧ noteP A M P who c = dput P (dgOf c) (who, c) := by
  have hp : noteP A M P who c = dput P (dgOf c) (who, c) := by unfold noteP; rw [if_pos h]
  unfold noteE at h
  split at h
  · cases h
  · split at h
    · cases h
    · rename_i hg
      split at h
      · cases h
      · rename_i h6
        refine ⟨?_, by omega, hp⟩
        rw [hp, hs.length_put, if_neg hg]
theorem noteP_no {A : Acc} {M : Cls Int} {P : Pm} {who : Int} {c : Cl} (h : noteE A M P who c ≠ 0) : noteP A M P who c = P := by unfold noteP; rw [if_neg h]
set_option maxRecDepth 100000 in
set_option maxHeartbeats 8000000 in
attribute [local go_sem ↓] load_c ldH_hide eq_hash nqH_hide cvS_hide geS_hide in
theorem preOrder_loop (ao : Option Addr) (cap d : Nat) (l : List Cl) (w : World) (hG : Glob w) (hrd : RdCs w d ao l) (hl : ∀ c ∈ l, LenC c) :
    Calls Tryz.prog 9 #[.slice ao l.length cap] w fun e w' => e = .returned (.bool true) ∧ Below w.heap.size w w' := by
  obtain ⟨m, hm⟩ : ∃ m, m = l.length := ⟨_, rfl⟩
  rw [← hm]
  have HH := Lib.hid (And.intro hG (And.intro hrd (And.intro hl hm)))
  clear hG hrd hl hm
  by_cases h6 : 6 < m
  · have g6 : 6 < (m : Int) := by omega
    go_enter Tryz.func9, Tryz.ntmps9
    go_wp2
    exact bodyPost_ret (v := .bool true) (by simp [results, Tryz.results9, go_sem]) rfl ⟨rfl, Below.refl _ _⟩
  have g6 : ¬ 6 < (m : Int) := by omega
  obtain ⟨wz, hz⟩ : ∃ wz, wz = w.alloc (.cells #[.int .i64 0, .int .i64 100, .int .i64 100] 3) := ⟨_, rfl⟩
  have hrz : RdI wz (.slice (some ⟨w.heap.size, 0, none⟩) 3 3) [0, 100, 100] := by rw [hz]; exact RdI.lit w 3 [0, 100, 100] 3 rfl
  have hbz : Below w.heap.size w wz := by rw [hz]; exact (Below.refl _ w).alloc (Nat.le_refl _) _
  have HZ := Lib.hid (And.intro hz (And.intro hrz hbz))
  clear hz hrz hbz
  go_enter Tryz.func9, Tryz.ntmps9
  go_wp2_with (first
    | (go_at_call 11; rw [← HZ.out.1]; refine (ledger_New_ok HZ.out.2.1 (by decide) newOk_100).mono ?_; rintro e w2 ⟨g, gl, rfl, hl, hb⟩; have H2 := Lib.hid (And.intro hl hb); clear hl hb)
    | (go_at_call 13; refine (pre_New w2).mono ?_; rintro e w' ⟨rfl, hw'⟩; have hp := P8.begin HZ.out.2.2 H2.out.1 H2.out.2; rw [← hw'] at hp; obtain ⟨pb, hpb⟩ : ∃ b, b = w2.heap.size := ⟨_, rfl⟩; rw [← hpb] at hp; rw [← hpb]; have H3 := Lib.hid hp; clear hp hw' hpb)
    | fail)
  go_loopw [6, 7] (fun n i wr => ∃ (k : Nat) (A : Acc) (P : Pm), k ≤ m ∧ n = .int .i64 P.length ∧ i = .int .i64 k ∧ P.length ≤ k ∧ P8 g pb A [] P [] [] w wr) (fun _ i _ => m - (intOf i).toNat)
  case atStart => exact ⟨0, _, [], Nat.zero_le _, rfl, rfl, Nat.le_refl _, H3.out⟩
  case round =>
    obtain ⟨k, A, P, hk, rfl, rfl, hPl, hp⟩ := hrel
    obtain ⟨pl, hpl⟩ : ∃ n, n = P.length := ⟨_, rfl⟩
    rw [← hpl] at hPl ⊢
    have HP := Lib.hid (And.intro hp (And.intro hk (And.intro hPl hpl)))
    clear hp
    by_cases hlt : k < m
    · have hlt' : (k : Int) < m := by omega
      have k6 : (k : Int) ≤ 6 := by omega
      have pl6 : (pl : Int) ≤ 6 := by omega
      have hkl : k < l.length := by rw [← HH.out.2.2.2]; exact hlt
      obtain ⟨kb, ko, vs, rfl, hkb, hrg, hrd⟩ := HH.out.2.1 k hkl
      obtain ⟨c, hc⟩ : ∃ c, c = l[k] := ⟨_, rfl⟩
      rw [← hc] at hrd
      have hlc : LenC c := HH.out.2.2.1 c (by rw [hc]; exact List.getElem_mem hkl)
      obtain ⟨a4, c4, e4⟩ := hrd.cells
      obtain ⟨c1, c2, c3, c5, e5⟩ : ∃ c1 c2 c3 c5, vs = [.int .i64 c1, .int .i64 c2, .int .i64 c3, .slice a4 c5 c4] := ⟨_, _, _, _, e4⟩
      clear e4
      subst e5
      have hrgr : wr.rangeAt kb (ko + k * 4) [.int .i64 c1, .int .i64 c2, .int .i64 c3, .slice a4 c5 c4] := rangeAt_block hrg (HP.out.1.bl.block kb hkb)
      have HRG := Lib.hid (And.intro hrgr (And.intro hkb (And.intro hrg (And.intro hrd (And.intro hlc hlt)))))
      clear hkb hrg hrd hrgr hkl hc hlc hlt hk hPl hpl
      go_upto_region 13 with (first
        | (refine wpl_loadC _ rfl rfl rfl HRG.out.1 rfl ?_)
        | (go_at_call 34; refine (law_size d c _ wr (RdC.below HP.out.1.bl HRG.out.2.2.2.1) HRG.out.2.2.2.2.1).mono ?_; rintro e w4 ⟨⟨r, rfl⟩, hb⟩; have hp4 := HP.out.1.below hb; have H4 := Lib.hid (And.intro hp4 (rangeAt_block HRG.out.2.2.1 (hp4.bl.block kb HRG.out.2.1))); clear hb hp4; by_cases h100 : 100 ≤ r)
        | fail)
      · exact bodyPost_ret (v := .bool true) (by simp [results, Tryz.results9, go_sem]) rfl ⟨rfl, H4.out.1.bl⟩
      obtain ⟨who, hwho⟩ : ∃ x : Int, x = 1 + (k : Int) % 2 := ⟨_, rfl⟩
      have hwf : (Lit.int .i64 who).wf = true := by simp [Lit.wf, IntKind.min, IntKind.max, IntKind.signed, IntKind.bits]; omega
      obtain ⟨E, hE⟩ : ∃ x, x = noteE A [] P who c := ⟨_, rfl⟩
      obtain ⟨dh, hdh⟩ : ∃ x, x = noteH A [] P who c := ⟨_, rfl⟩
      obtain ⟨P', hP'⟩ : ∃ x, x = noteP A [] P who c := ⟨_, rfl⟩
      obtain ⟨A', hA'⟩ : ∃ x, x = noteA A [] P who c := ⟨_, rfl⟩
      have hnt := H4.out.1.note HH.out.1 (RdC.below H4.out.1.bl HRG.out.2.2.2.1) hwf
      rw [← hE, ← hdh, ← hP', ← hA'] at hnt
      have HNT := Lib.hid hnt
      have HE := Lib.hid (And.intro hE (And.intro hdh (And.intro hP' hwho)))
      clear hnt hE hdh hP' hA' hwf
      go_upto_region 14 with (first
        | (refine wpl_loadC _ rfl rfl rfl H4.out.2 rfl ?_)
        | (go_at_call 16; rw [← HE.out.2.2.2]; refine HNT.out.mono ?_; rintro e w5 ⟨rfl, hp⟩; have H5 := Lib.hid hp; clear hp)
        | (refine wpl_allocR (r := hshR) rfl rfl rfl ?_; intro C hC)
        | (refine wpl_storeR (r := hshR) (t := dh) (C := C) (b := w5.heap.size) _ _ rfl rfl rfl rfl rfl (World.alloc_heap_new _ _) hC ?_; rw [World.setRow_alloc_new]; obtain ⟨hb, hhb⟩ : ∃ b, b = w5.heap.size := ⟨_, rfl⟩; have hp := H5.out.hash dh; obtain ⟨w6, hw6⟩ : ∃ W, W = w5.alloc (.cells (hshR.f dh).toArray hshR.T) := ⟨_, rfl⟩; rw [show w5.alloc (.cells (Bs dh.s).toArray 41) = w6 from hw6.symm, ← hhb] at hp; rw [← hw6, ← hhb]; have H6 := Lib.hid hp; clear hp hw6 hhb)
        | fail)
      clear hwho
      by_cases h0 : E = 0
      · have hlen := noteP_len HP.out.1.srt.1 (HE.out.1.symm.trans h0)
        have hdc : dh = dgOf c := by rw [HE.out.2.1]; unfold noteH; rw [if_pos (HE.out.1.symm.trans h0)]
        have HL := Lib.hid (And.intro hlen hdc)
        clear hlen hdc
        subst h0
        go_upto_region 16 with fail
        have hu := Tryz.underlying41
        have hsz := infoHD dh
        have nqh : ∀ w, (nqH (.agg (Bs dh.s).toArray) (.agg (Bs dh.s).toArray)).run Tryz.prog w = .ok (.bool false) w := fun w => (run_neq_hash w dh.s dh.s dh.len dh.len).trans (by simp)
        have RG := guardH8
        have KY := Lib.hid (And.intro (H6.out.drew.box List.mem_cons_self) (run_loadCG (rangeAt_block HRG.out.2.2.1 (H6.out.drew.bl.block kb HRG.out.2.1)) rfl))
        go_region_held3 (fun w' => w'.rangeAt hb 0 (Bs dh.s) ∧ (loadC (.pointer (some ⟨kb, ko + k * 4, none⟩))).run Tryz.prog w' = .ok (.agg #[.int .i64 c1, .int .i64 c2, .int .i64 c3, .slice a4 c5 c4]) w') (first | exact KY.out | exact KA.out) (first
          | (go_at_call 15; refine (ref7_Sum d c _ w6.drew (RdC.below H6.out.drew.bl HRG.out.2.2.2.1)).mono ?_; rw [← HL.out.2]; rintro e wA ⟨rfl, hb'⟩; have HA := Lib.hid (H6.out.drew.below hb'); have KA := Lib.hid (And.intro (HA.out.box List.mem_cons_self) (run_loadCG (rangeAt_block HRG.out.2.2.1 (HA.out.bl.block kb HRG.out.2.1)) rfl)); clear hb')
          | fail)
        go_wp2_with fail
        go_roundw
        case rel => exact ⟨k + 1, A', P', HRG.out.2.2.2.2.2, by rw [HE.out.2.2.1, HL.out.1.1, ← HP.out.2.2.2]; go_num, by go_num, by rw [HE.out.2.2.1, HL.out.1.1]; have := HP.out.2.2.1; have := HP.out.2.2.2; omega, HA.out.less (fun b hm => by cases hm)⟩
        case measure => simp [intOf]; have := HRG.out.2.2.2.2.2; omega
      · have g0 : (E == 0) = false := by rw [beq_eq_false_iff_ne]; exact h0
        have hno := noteP_no (M := []) (show noteE A [] P who c ≠ 0 by rw [← HE.out.1]; exact h0)
        have HL := Lib.hid hno
        clear hno h0
        go_upto_region 16 with fail
        refine wp_region_noPanic ?_
        refine wp_region_held_drew (S := fun _ => True) (by kernel_rfl) trivial (fun hHeld => ?_)
        refine wpAnyH_take (i := 0) (oi := Oper.mk _ _ _ _ _ _) (v := ?_) rfl (by kernel_rfl) (by kernel_rfl) (by kernel_rfl) (fun _ _ _ h => h) (Or.inl ⟨by rfl, ?_⟩) (by assumption) ?_
        rotate_left
        · (intro w hSw; (try dsimp only at hSw); go_simp; try with_reducible rfl)
        try simp only [Act.put, List.setIfInBounds_toArray, List.set_cons_zero, List.set_cons_succ]
        refine wpAnyH_take (i := 1) (oi := Oper.mk _ _ _ _ _ _) (v := ?_) rfl (by kernel_rfl) (by kernel_rfl) (by kernel_rfl) (fun _ _ _ h => h) (Or.inl ⟨by rfl, ?_⟩) (by assumption) ?_
        rotate_left
        · (intro w hSw; (try dsimp only at hSw); go_simp; try with_reducible rfl)
        try simp only [Act.put, List.setIfInBounds_toArray, List.set_cons_zero, List.set_cons_succ]
        refine wpAnyH_take (i := 2) (oi := Oper.mk _ _ _ _ _ _) (v := ?_) rfl (by kernel_rfl) (by kernel_rfl) (by kernel_rfl) (fun _ _ _ h => h) (Or.inl ⟨by rfl, ?_⟩) (by assumption) ?_
        rotate_left
        · (intro w hSw; (try dsimp only at hSw); go_simp; try with_reducible rfl)
        try simp only [Act.put, List.setIfInBounds_toArray, List.set_cons_zero, List.set_cons_succ]
        refine wpAnyH_take (i := 3) (oi := Oper.mk _ _ _ _ _ _) (v := undef) rfl (by kernel_rfl) (by kernel_rfl) (by kernel_rfl) (fun _ _ _ h => h) (Or.inr ⟨by rfl, rfl⟩) (by assumption) ?_
        try simp only [Act.put, List.setIfInBounds_toArray, List.set_cons_zero, List.set_cons_succ]
        refine wpAnyH_take (i := 4) (oi := Oper.mk _ _ _ _ _ _) (v := undef) rfl (by kernel_rfl) (by kernel_rfl) (by kernel_rfl) (fun _ _ _ h => h) (Or.inr ⟨by rfl, rfl⟩) (by assumption) ?_
        try simp only [Act.put, List.setIfInBounds_toArray, List.set_cons_zero, List.set_cons_succ]
        refine wpAnyH_take (i := 5) (oi := Oper.mk _ _ _ _ _ _) (v := undef) rfl (by kernel_rfl) (by kernel_rfl) (by kernel_rfl) (fun _ _ _ h => h) (Or.inr ⟨by rfl, rfl⟩) (by assumption) ?_
        try simp only [Act.put, List.setIfInBounds_toArray, List.set_cons_zero, List.set_cons_succ]
        refine wpAnyH_take (i := 6) (oi := Oper.mk _ _ _ _ _ _) (v := undef) rfl (by kernel_rfl) (by kernel_rfl) (by kernel_rfl) (fun _ _ _ h => h) (Or.inr ⟨by rfl, rfl⟩) (by assumption) ?_
        try simp only [Act.put, List.setIfInBounds_toArray, List.set_cons_zero, List.set_cons_succ]
        refine wpAnyH_take (i := 7) (oi := Oper.mk _ _ _ _ _ _) (v := undef) rfl (by kernel_rfl) (by kernel_rfl) (by kernel_rfl) (fun _ _ _ h => h) (Or.inr ⟨by rfl, rfl⟩) (by assumption) ?_
        try simp only [Act.put, List.setIfInBounds_toArray, List.set_cons_zero, List.set_cons_succ]
        refine wpAnyH_take (i := 8) (oi := Oper.mk _ _ _ _ _ _) (v := undef) rfl (by kernel_rfl) (by kernel_rfl) (by kernel_rfl) (fun _ _ _ h => h) (Or.inr ⟨by rfl, rfl⟩) (by assumption) ?_
        try simp only [Act.put, List.setIfInBounds_toArray, List.set_cons_zero, List.set_cons_succ]
        refine wpAnyH_take (i := 9) (oi := Oper.mk _ _ _ _ _ _) (v := undef) rfl (by kernel_rfl) (by kernel_rfl) (by kernel_rfl) (fun _ _ _ h => h) (Or.inr ⟨by rfl, rfl⟩) (by assumption) ?_
        try simp only [Act.put, List.setIfInBounds_toArray, List.set_cons_zero, List.set_cons_succ]
        refine wpAnyH_take (i := 10) (oi := Oper.mk _ _ _ _ _ _) (v := ?_) rfl (by kernel_rfl) (by kernel_rfl) (by kernel_rfl) (fun _ _ _ h => h) (Or.inl ⟨by rfl, ?_⟩) (by assumption) ?_
        rotate_left
        · (intro w hSw; (try dsimp only at hSw); go_simp; try with_reducible rfl)
        try simp only [Act.put, List.setIfInBounds_toArray, List.set_cons_zero, List.set_cons_succ]
        refine wpAnyH_done (by kernel_rfl) ?_ _
        refine NoPanic.normal ?_
        go_wp2_with fail
        go_roundw
        case rel => exact ⟨k + 1, A', P', HRG.out.2.2.2.2.2, by rw [HE.out.2.2.1, HL.out, ← HP.out.2.2.2], by go_num, by rw [HE.out.2.2.1, HL.out, ← HP.out.2.2.2]; exact Nat.le_succ_of_le HP.out.2.2.1, H6.out.drew.less (fun b hm => by cases hm)⟩
        case measure => simp [intOf]; have := HRG.out.2.2.2.2.2; omega
    · have hnk : ¬ (k : Int) < m := by omega
      have pl6 : (pl : Int) ≤ 6 := by omega
      have htl : (toldP P).length = pl := by rw [hpl]; simp [toldP]
      have hsr : ∀ (p : Nat) (h : p + 1 < (toldP P).length), dlt (toldP P)[p].1 (toldP P)[p + 1].1 := fun p h => by
        have h1 : SrtD (toldP P) := List.pairwise_map.2 HP.out.1.srt.1
        exact List.pairwise_iff_getElem.1 h1 p (p + 1) (by omega) h (by omega)
      have HT := Lib.hid (And.intro htl hsr)
      clear hlt hk hPl hpl htl hsr
      go_wp2_with (first
        | (go_at_call 29; refine (HP.out.1.items (by rw [← HP.out.2.2.2]; omega)).mono ?_; rintro e w8 ⟨v8, rfl, ho, hp, hb⟩; obtain ⟨ao8, cp8, hv8⟩ := ho.lenOf; rw [HT.out.1] at hv8; subst hv8; have H8 := Lib.hid (And.intro ho.reads hp); clear ho hp hb)
        | fail)
      go_loopw [12] (fun i wr' => ∃ q : Nat, 1 ≤ q ∧ (q ≤ pl ∨ q = 1) ∧ i = .int .i64 q ∧ Below w8.heap.size w8 wr') (fun i _ => pl + 1 - (intOf i).toNat)
      case atStart => exact ⟨1, Nat.le_refl _, .inr rfl, rfl, Below.refl _ _⟩
      case round =>
        obtain ⟨q, hq1, hq, rfl, hb⟩ := hrel
        by_cases hlt : q < pl
        · obtain ⟨p, hp⟩ : ∃ p, q = p + 1 := ⟨q - 1, by omega⟩
          obtain ⟨b, off, rfl, r1, l1⟩ := H8.out.1.at (i := p) (by rw [HT.out.1]; omega)
          obtain ⟨b', off', e2, r2, l2⟩ := H8.out.1.at (i := q) (by rw [HT.out.1]; omega)
          obtain ⟨rfl, rfl⟩ : b = b' ∧ off = off' := by injection e2 with e2; injection e2 with e3 e4 e5; exact ⟨e3, e4⟩
          have hlp : p + 1 < (toldP P).length := by rw [HT.out.1]; omega
          have hd := HT.out.2 p hlp
          subst hp
          obtain ⟨x, hx⟩ : ∃ x, x = (toldP P)[p] := ⟨_, rfl⟩
          obtain ⟨y, hy⟩ : ∃ y, y = (toldP P)[p + 1] := ⟨_, rfl⟩
          rw [← hx, ← hy] at hd
          rw [← hx] at r1
          rw [← hy] at r2
          have pre : ∀ (z : Dg × Int) (o : Nat), w8.rangeAt b o (itOf_H z) → w8.rangeAt b o (Bs z.1.s) := fun z o h j u hj => h j u (by rw [itOf_H, List.getElem?_append_left (by rw [z.1.blen]; have := (List.getElem?_eq_some_iff.1 hj).1; rwa [z.1.blen] at this)]; exact hj)
          have t1 := fun (W : World) (h : W.heap[b]? = w8.heap[b]?) => run_cvS (d := x.1) (rangeAt_block (pre x _ r1) h)
          have t2 := fun (W : World) (h : W.heap[b]? = w8.heap[b]?) => run_cvS (d := y.1) (rangeAt_block (pre y _ r2) h)
          have hge := run_geS hd
          obtain ⟨q, hqq⟩ : ∃ q, q = p + 1 := ⟨_, rfl⟩
          rw [← hqq] at t2 ⊢
          have wsub : IntKind.i64.wrap ((q : Int) - 1) = (p : Int) := by rw [IntWalk.i64_in _ (by omega)]; omega
          have hqpl : (q : Int) < (pl : Int) := by omega
          have hppl : (p : Int) < (pl : Int) := by omega
          have hq6 : (q : Int) ≤ 6 := by omega
          have KY := Lib.hid (And.intro (t1 wr.drew (hb.block b l1)) (t2 wr.drew (hb.block b l1)))
          have HB := Lib.hid (And.intro hb (And.intro hqq hlt))
          clear hlt hq hq1 hlp hd hx hy r1 r2 pre t1 t2 l1 l2 e2 hb hqq
          go_upto_region 24 with fail
          go_region_held3 (fun w' => (cvS (.slice (some ⟨b, off + p * 37, none⟩) 32 32)).run Tryz.prog w' = .ok (.string (strN x.1.s)) w' ∧ (cvS (.slice (some ⟨b, off + q * 37, none⟩) 32 32)).run Tryz.prog w' = .ok (.string (strN y.1.s)) w') (first | exact KY.out) (fail)
          go_wp2_with fail
          go_roundw
          case rel => exact ⟨q + 1, by omega, .inl (by have := HB.out.2; omega), by go_num, HB.out.1.trans ((Below.refl _ wr).drew.mono HB.out.1.size)⟩
          case measure => simp [intOf]; have := HB.out.2; omega
        · have hnq : ¬ (q : Int) < pl := by omega
          have HB := Lib.hid hb
          clear hq1 hq hb hlt
          go_wp2_with (first
            | (go_at_call 14; refine (law8_known _ (HH.out.1.below (H8.out.2.bl.trans (HB.out.mono H8.out.2.bl.size)) HH.out.1.lt)).mono ?_; rintro e w9 ⟨rfl, hb⟩; have H9 := Lib.hid hb; clear hb)
            | fail)
          have h1 := H8.out.2.bl.trans (HB.out.mono H8.out.2.bl.size)
          exact bodyPost_ret (v := .bool true) (by simp [results, Tryz.results9, go_sem]) rfl ⟨rfl, h1.trans (H9.out.mono h1.size)⟩
theorem preOrder_walk (v : Value) (l : List Cl) (ao : Option Addr) (cap d : Nat) (w : World) (hG : Glob w) (hv : v = .slice ao l.length cap) (hrd : RdCs w d ao l) (hl : l.length ≤ maxLen ∧ ∀ c ∈ l, LenC c) :
    Calls Tryz.prog 9 #[v] w fun e w' => e = .returned (.bool true) ∧ Below w.heap.size w w' := by
  subst hv
  exact preOrder_loop ao cap d l w hG hrd hl.2
end Go.Proofs.YtcfcfijmfgnpfaaGreatDoor
