/-
  Joined texts.
-/
import Derived.Test.YtbpemdihoabbcaaGreatUC
import Derived.BigRegion
import Derived.RegionTactic
import Derived.StillTailTactics
namespace Go.Proofs.YtbpemdihoabbcaaGreat
set_option linter.unusedVariables false
set_option linter.unusedSimpArgs false
set_option maxRecDepth 100000
set_option maxHeartbeats 8000000
section
open Go.RowKit Go.Maps Go.Shelf
def loadCst (a : Value) : Sem Value := Instr.loadAt 56 a
theorem loadCst_hide (a : Value) : Instr.loadAt 56 a = loadCst a := rfl
def neCst (a b : Value) : Sem Value := binOp .neq 56 a b
theorem neCst_hide (a b : Value) : binOp .neq 56 a b = neCst a b := rfl
theorem loadCst_at {w : World} {b o : Nat} {x : Int × Bal} (h : w.rangeAt b o (castR.f x)) : (loadCst (.pointer (some ⟨b, o, none⟩))).run Tryz.prog w = .ok (.agg (castR.f x).toArray) w := run_loadR (r := castR) h
theorem neCst_same (x : Int × Bal) (w : World) : (neCst (.agg (castR.f x).toArray) (.agg (castR.f x).toArray)).run Tryz.prog w = .ok (.bool false) w := neC_same x w
def eqWgt (a b : Value) : Sem Value := binOp .eql 82 a b
theorem eqWgt_hide (a b : Value) : binOp .eql 82 a b = eqWgt a b := rfl
theorem eqWgt_same (x : Wgt) (w : World) : (eqWgt (.agg (wgtS.f x).toArray) (.agg (wgtS.f x).toArray)).run Tryz.prog w = .ok (.bool true) w := eqW_same x w
theorem rcd_local (W : World) {v : Value} (hv : v.oneCell' = true) (r : Rc) : ∃ W2, (storeRcd (.pointer (some ⟨W.heap.size, 0, none⟩)) (.agg (rcL v r).toArray)).run Tryz.prog (W.alloc (.cells #[.slice none 0 0, .bool false, .int .i64 0, .int .i64 0, .int .i64 0, .int .i64 0, .int .i64 0, .int .i64 0, .int .i64 0] 148)) = .ok () W2 ∧ W2.rangeAt W.heap.size 0 (rcL v r) ∧ Below W.heap.size W W2 ∧ W.heap.size < W2.heap.size := by
 obtain ⟨W0, hW0⟩ : ∃ W0, W0 = W.alloc (.cells #[.slice none 0 0, .bool false, .int .i64 0, .int .i64 0, .int .i64 0, .int .i64 0, .int .i64 0, .int .i64 0, .int .i64 0] 148) := ⟨_, rfl⟩
 have hB0 : Below W.heap.size W W0 := by rw [hW0]; exact (Below.refl _ W).alloc (Nat.le_refl _) _
 have hz := World.alloc_heap_new W (.cells #[.slice none 0 0, .bool false, .int .i64 0, .int .i64 0, .int .i64 0, .int .i64 0, .int .i64 0, .int .i64 0, .int .i64 0] 148)
 rw [← hW0] at hz ⊢
 have hth : W0.there W.heap.size 0 9 := fun i hi => by
  refine ⟨?_, ?_⟩
  · rw [World.cell?, hz]
    simp [hi]
  · rw [World.frozen?, hz]; simp
 have g := setCells_grow (w := W0) (b := W.heap.size) (o := 0) (vs := rcL v r)
 refine ⟨_, run_storeRcd hv hth, World.rangeAt_setCells_same W0 _ 0 (rcL v r) hth, ⟨g.os.trans hB0.os, g.tape.trans hB0.tape, g.output.trans hB0.output, by rw [setCells_size]; exact hB0.size, fun k hk => (setCells_off (by omega) _ _ _).trans (hB0.block k hk)⟩, ?_⟩
 rw [setCells_size, hW0, World.size_alloc]
 exact Nat.lt_succ_self _
section
variable {d : Bp} {now : Int} {s : Sx} {F : FP} {w w' : World}
attribute [local go_sem ↓] storeRcd_hide loadCst_hide neCst_hide eqWgt_hide loadSt_W_hide in
theorem law11_record (h : (bwM d now s s).is F w) (hs : s.Ok) (hN : d.N ≤ d.p) {a t : Int} (ha : (Lit.int .i64 a).wf = true) (ht : 0 ≤ t ∧ t < 4) : Calls Tryz.prog 42 #[.pointer (some ⟨d.p, 0, none⟩), .int .i64 a, .int .i64 t] w fun e w' => e = .returned (.bool true) ∧ Below w.heap.size w w' := by
 have hf := bw_facts h hs hN
 have hcs : (ballots s.S a t).length ≤ 12 := keys12 (ballots_srt hf.1.1 a t) (fun x hx => (hs.inv.row a x (List.mem_filter.1 hx).1).1)
 have hwt : (Lit.int .i64 t).wf = true := by
  rcases (by omega : t = 0 ∨ t = 1 ∨ t = 2 ∨ t = 3) with rfl | rfl | rfl | rfl <;> decide
 have HOF := Lib.hid (bq_of h hs.inv a ht)
 obtain ⟨r, hr⟩ : ∃ r, r = rcAt s.S a t := ⟨_, rfl⟩
 obtain ⟨cs, hcc⟩ : ∃ cs, cs = ballots s.S a t := ⟨_, rfl⟩
 have hrc : r.c = cs := by rw [hr, hcc]; rfl
 have hcast : ∀ W, Below w.heap.size w W → Calls Tryz.prog 14 #[.pointer (some ⟨d.vb, 0, none⟩), .int .i64 a, .int .i64 t] W fun e w' => ∃ v, e = .returned (.tuple #[v, .bool true]) ∧ OwnR castR W.heap.size v cs w' ∧ Below W.heap.size W w' := fun W hW => by
  rw [hcc]; exact bq_casts (bw_below h hW) hs.inv ha t (by omega)
 have hdel : ∀ W, Below w.heap.size w W → Calls Tryz.prog 16 #[.pointer (some ⟨d.vb, 0, none⟩), .int .i64 a, .int .i64 t] W fun e w' => e = .returned (.tuple #[.int .i64 r.who, .int .i64 r.l, .int .i64 r.n, .bool r.on]) ∧ Below W.heap.size W w' := fun W hW => by
  rw [hr]; exact bq_lends (bw_below h hW) ha hwt
 have hpri : ∀ W, Below w.heap.size w W → Calls Tryz.prog 17 #[.pointer (some ⟨d.vb, 0, none⟩), .int .i64 a, .int .i64 t] W fun e w' => e = .returned (.tuple #[.int .i64 r.u, .int .i64 r.p]) ∧ Below W.heap.size W w' := fun W hW => by
  rw [hr]; exact bq_prior (bw_below h hW) ha hwt
 have hgot : ∀ W, Below w.heap.size w W → Calls Tryz.prog 62 #[.pointer (some ⟨d.vb, 0, none⟩), .int .i64 a, .int .i64 t] W fun e w' => e = .returned (.agg #[.int .i64 r.g.v, .int .i64 r.g.c]) ∧ Below W.heap.size W w' := fun W hW => by
  rw [hr]; exact bq_got (bw_below h hW) ha hwt
 have hcel : ∀ W, Below w.heap.size w W → W.cell? ⟨d.p, 1, none⟩ = some (.pointer (some ⟨d.vb, 0, none⟩)) := fun W hW => (bw_cells (bw_below h hW)).2.1
 obtain ⟨-, c1, -, c3, -⟩ := bw_cells h
 have hFlt : ∀ k, F k → k < w.heap.size := fun k hk => (bwM d now s s).lt h hk
 rw [← hr] at HOF
 rw [← hcc] at hcs
 have HCA := Lib.hid hcast
 have HDE := Lib.hid hdel
 have HPR := Lib.hid hpri
 have HGO := Lib.hid hgot
 have HCE := Lib.hid hcel
 have HFL := Lib.hid hFlt
 have HRC := Lib.hid (And.intro hrc hcs)
 clear hf hwt hr hcc hrc hcast hdel hpri hgot hcel hFlt hcs h hs hN ha ht
 go_enter Tryz.func42, Tryz.ntmps42
 go_upto_region 2 with (first
  | (go_at_call 101; refine HOF.out.mono ?_; rintro e w1 ⟨⟨v, rfl, hrd, hown⟩, hb⟩; obtain ⟨ao, cap, rfl⟩ := hrd.lenOf; rw [HRC.out.1] at hrd; obtain ⟨w2, st, hra, hb2, hlt⟩ := rcd_local w1 (v := .slice ao r.c.length cap) rfl r; have B1 := Lib.hid (And.intro hb (And.intro hrd hown)); have B2 := Lib.hid (And.intro hra (And.intro hb2 hlt)); clear hb hrd hown hra hb2 hlt)
  | fail)
 obtain ⟨nb, hnb⟩ : ∃ nb, nb = w1.heap.size := ⟨_, rfl⟩
 obtain ⟨n, hn⟩ : ∃ n, n = r.c.length := ⟨_, rfl⟩
 have hra := B2.out.1
 have hrd := B1.out.2.1
 rw [← hnb] at hra
 rw [← hn] at hra
 have hcn : cs.length = n := by rw [hn, HRC.out.1]
 rw [hcn] at hrd
 rw [← hnb]
 have h12 : Below w.heap.size w w2 := B1.out.1.trans (B2.out.2.1.mono B1.out.1.size)
 have hown : ∀ b, (Value.slice ao n cap).ownBlock = some b → b < w1.heap.size := fun b hb => Nat.lt_of_lt_of_le (HFL.out b (B1.out.2.2 b (by rw [← HRC.out.1] at hcn; rw [hcn]; exact hb))) B1.out.1.size
 have hx : ∀ W, Below w2.heap.size w2 W → W.rangeAt nb 0 (rcL (.slice ao n cap) r) ∧ RdR castR W (.slice ao n cap) cs ∧ Below w.heap.size w W := fun W hW => by
  refine ⟨rangeAt_block hra (hW.block nb (by rw [hnb]; exact B2.out.2.2)), hrd.keep (Nat.le_trans B2.out.2.1.size hW.size) (fun b hb => ?_), h12.trans (hW.mono h12.size)⟩
  have h1 := hown b hb
  exact (hW.block b (Nat.lt_of_lt_of_le h1 B2.out.2.1.size)).trans (B2.out.2.1.block b h1)
 have hc : ∀ W, Below w2.heap.size w2 W → W.cell? ⟨nb, 0, none⟩ = some (.slice ao n cap) ∧ W.cell? ⟨nb, 1, none⟩ = some (.bool r.on) ∧ W.cell? ⟨nb, 2, none⟩ = some (.int .i64 r.who) ∧ W.cell? ⟨nb, 3, none⟩ = some (.int .i64 r.l) ∧ W.cell? ⟨nb, 4, none⟩ = some (.int .i64 r.n) ∧ (loadSt_W (.pointer (some ⟨nb, 5, none⟩))).run Tryz.prog W = .ok (.agg #[.int .i64 r.g.v, .int .i64 r.g.c]) W ∧ W.cell? ⟨nb, 7, none⟩ = some (.int .i64 r.u) ∧ W.cell? ⟨nb, 8, none⟩ = some (.int .i64 r.p) ∧ W.cell? ⟨d.p, 1, none⟩ = some (.pointer (some ⟨d.vb, 0, none⟩)) := fun W hW => by
  have h0 := (hx W hW).1
  have e : ∀ j u, (rcL (.slice ao n cap) r)[j]? = some u → W.cell? ⟨nb, j, none⟩ = some u := fun j u hu => by have := h0 j u hu; rwa [Nat.zero_add] at this
  refine ⟨e 0 _ rfl, e 1 _ rfl, e 2 _ rfl, e 3 _ rfl, e 4 _ rfl, loadW_at (x := r.g) (fun j u hj => ?_), e 7 _ rfl, e 8 _ rfl, HCE.out W (hx W hW).2.2⟩
  have hj2 : j < 2 := (List.getElem?_eq_some_iff.1 hj).1
  match j, hj2, hj with
  | 0, _, hj => cases hj; exact e 5 _ rfl
  | 1, _, hj => cases hj; exact e 6 _ rfl
 have HX := Lib.hid hx
 have HC := Lib.hid hc
 have HN := Lib.hid hcn
 have cp := HCE.out w2 h12
 have c9 := (hc w2 (Below.refl _ _)).1
 have H12 := Lib.hid h12
 have hn12 : (n : Int) ≤ 12 := by have := HRC.out.2; omega
 clear hnb hn hra hrd hcn h12 hown hx hc
 go_upto_region 3 with (first
  | (go_at_call 14; refine (HCA.out _ H12.out).mono ?_; rintro e w3 ⟨v2, rfl, ho, hb⟩; obtain ⟨ao2, cap2, rfl⟩ := ho.lenOf; rw [HN.out] at ho ⊢; have HO := Lib.hid ho; have B3 := Lib.hid hb; have c93 := (HC.out w3 hb).1; clear ho hb)
  | fail)
 go_wp2_with fail
 go_loopw [10] (fun i wr => ∃ j : Nat, j ≤ n ∧ i = .int .i64 j ∧ Below w2.heap.size w2 wr ∧ OwnR castR w2.heap.size (.slice ao2 n cap2) cs wr) (fun i _ => n - (intOf i).toNat)
 case atStart => exact ⟨0, by omega, rfl, B3.out, HO.out⟩
 case round =>
  obtain ⟨j, hj, rfl, hb, ho⟩ := hrel
  have HBR := Lib.hid hb
  have HOR := Lib.hid ho
  by_cases hlt : j < n
  · have hlt' : (j : Int) < n := by omega
    have hjc : j < cs.length := by rw [HN.out]; exact hlt
    obtain ⟨b2, o2, e2, h2, -⟩ := ho.reads.at hjc
    obtain ⟨b1, o1, e1, h1, -⟩ := (HX.out wr hb).2.1.at hjc
    obtain ⟨x, hx⟩ : ∃ x, x = cs[j] := ⟨_, rfl⟩
    rw [← hx] at h1 h2
    subst e1
    subst e2
    have hs : ∀ W, Below wr.heap.size wr W → W.cell? ⟨nb, 0, none⟩ = some (.slice (some ⟨b1, o1, none⟩) n cap) ∧ (loadCst (.pointer (some ⟨b1, o1 + j * 7, none⟩))).run Tryz.prog W = .ok (.agg (castR.f x).toArray) W ∧ (loadCst (.pointer (some ⟨b2, o2 + j * 7, none⟩))).run Tryz.prog W = .ok (.agg (castR.f x).toArray) W := fun W hW => by
     refine ⟨(HC.out W (hb.trans (hW.mono hb.size))).1, loadCst_at (castAt_below h1 hW), loadCst_at (castAt_below h2 hW)⟩
    have HS := Lib.hid hs
    have HJ := Lib.hid (And.intro hj hlt)
    have nes := neCst_same x
    clear hs h1 h2 hb ho hx hjc
    go_upto_region 8 with fail
    have mixed : Tryz.prog.follows .mixedOrders = true := by kernel_rfl
    first
     | go_region_held3 (fun w' => w'.cell? ⟨nb, 0, none⟩ = some (.slice (some ⟨b1, o1, none⟩) n cap) ∧ (loadCst (.pointer (some ⟨b1, o1 + j * 7, none⟩))).run Tryz.prog w' = .ok (.agg (castR.f x).toArray) w' ∧ (loadCst (.pointer (some ⟨b2, o2 + j * 7, none⟩))).run Tryz.prog w' = .ok (.agg (castR.f x).toArray) w') (first | exact HS.out _ (Below.refl _ _) | exact HS.out _ (Below.refl _ _).drew) (fail)
     | fail
    go_wp2_with fail
    go_roundw
    case rel =>
     refine ⟨j + 1, HJ.out.2, by go_num, HBR.out.trans ((Below.refl _ wr).drew.mono HBR.out.size), ?_⟩
     exact HOR.out.of (Nat.le_refl _) (fun k hk => rfl)
    case measure => have := HJ.out; simp [intOf]; omega
  · have hge : ¬ (j : Int) < n := by omega
    have cp1 := (HC.out wr hb).2.2.2.2.2.2.2.2
    have HB0 := Lib.hid (HX.out wr hb).2.2
    clear hb ho
    go_upto_region 12 with (first
     | (go_at_call 16; refine (HDE.out _ HB0.out).mono ?_; rintro e w4 ⟨rfl, hb⟩; have B4 := Lib.hid (HBR.out.trans (hb.mono HBR.out.size)); have B4w := Lib.hid (HB0.out.trans (hb.mono HB0.out.size)); have cp4 := (HC.out w4 B4.out).2.2.2.2.2.2.2.2; clear hb)
     | (go_at_call 17; refine (HPR.out _ B4w.out).mono ?_; rintro e w5 ⟨rfl, hb⟩; have B5 := Lib.hid (B4.out.trans (hb.mono B4.out.size)); have B5w := Lib.hid (B4w.out.trans (hb.mono B4w.out.size)); clear hb)
     | fail)
    have B5d := Lib.hid (B5.out.drew)
    have eqs : ∀ W, (eqWgt (.agg #[.int .i64 r.g.v, .int .i64 r.g.c]) (.agg #[.int .i64 r.g.v, .int .i64 r.g.c])).run Tryz.prog W = .ok (.bool true) W := eqWgt_same r.g
    have mixed : Tryz.prog.follows .mixedOrders = true := by kernel_rfl
    first
     | go_region_held3 (fun w' => w'.cell? ⟨nb, 0, none⟩ = some (.slice ao n cap) ∧ w'.cell? ⟨nb, 1, none⟩ = some (.bool r.on) ∧ w'.cell? ⟨nb, 2, none⟩ = some (.int .i64 r.who) ∧ w'.cell? ⟨nb, 3, none⟩ = some (.int .i64 r.l) ∧ w'.cell? ⟨nb, 4, none⟩ = some (.int .i64 r.n) ∧ (loadSt_W (.pointer (some ⟨nb, 5, none⟩))).run Tryz.prog w' = .ok (.agg #[.int .i64 r.g.v, .int .i64 r.g.c]) w' ∧ w'.cell? ⟨nb, 7, none⟩ = some (.int .i64 r.u) ∧ w'.cell? ⟨nb, 8, none⟩ = some (.int .i64 r.p) ∧ w'.cell? ⟨d.p, 1, none⟩ = some (.pointer (some ⟨d.vb, 0, none⟩))) (first | exact HC.out _ B5.out | exact HC.out _ B5d.out | exact HC.out _ B6.out) (first
      | (go_at_call 62; refine (HGO.out _ B5w.out.drew).mono ?_; rintro e w6 ⟨rfl, hb⟩; have B6 := Lib.hid (B5d.out.trans (hb.mono B5d.out.size)); have B6w := Lib.hid (B5w.out.drew.trans (hb.mono B5w.out.drew.size)); clear hb)
      | fail)
     | fail
    go_wp2_with fail
    exact bodyPost_ret (v := .bool true) (by simp [results, Tryz.results42, go_sem]) rfl ⟨rfl, B6w.out⟩
end
end
section
open Go.RowKit Go.Maps Go.Shelf
section
variable {d : Bp} {now : Int} {s : Sx} {F : FP} {w w' : World}
attribute [local go_sem ↓] neTly_hide in
theorem law11_alike (h : (bwM d now s s).is F w) (hs : s.Ok) (hN : d.N ≤ d.p) : Calls Tryz.prog 9 #[.pointer (some ⟨d.p, 0, none⟩)] w fun e w' => e = .returned (.bool true) ∧ Below w.heap.size w w' := by
 have hf := bw_facts h hs hN
 have HFR := Lib.hid (fun W (hW : Below w.heap.size w W) (x : Int) => bq_free (bw_below h hW) x)
 have HRF := Lib.hid (fun W (hW : Below w.heap.size w W) (x : Int) => bq_rfree (bw_below h hW) x)
 have HLK := Lib.hid (fun W (hW : Below w.heap.size w W) (x : Int) (hx : -1 ≤ x ∧ x ≤ 12) => bq_locked (bw_below h hW) (wf_small hx))
 have HRL := Lib.hid (fun W (hW : Below w.heap.size w W) (x : Int) => bq_rlocked (bw_below h hW) hf.2 x)
 have HRE := Lib.hid (fun W (hW : Below w.heap.size w W) (x t : Int) (hx : -1 ≤ x ∧ x ≤ 12) (ht : 0 ≤ t ∧ t < 4) => law11_record (bw_below h hW) hs hN (wf_small hx) ht)
 have HTL := Lib.hid (fun W (hW : Below w.heap.size w W) (x : Int) => bq_tally (bw_below h hW) hs hN x)
 have HRT := Lib.hid (fun W (hW : Below w.heap.size w W) (x : Int) => bq_rtally (bw_below h hW) x)
 have HCL := Lib.hid (fun W (hW : Below w.heap.size w W) => bw_cells (bw_below h hW))
 clear hf h hs hN
 go_enter Tryz.func9, Tryz.ntmps9
 go_wp2_with fail
 go_loopw [3, 4] (fun a t wr => ∃ x : Int, (-1 ≤ x ∧ x ≤ 11) ∧ a = .int .i64 x ∧ Below w.heap.size w wr) (fun a _ _ => (11 - intOf a).toNat)
 case atStart => exact ⟨-1, by omega, rfl, Below.refl _ _⟩
 case round =>
  obtain ⟨x, hx, rfl, hb⟩ := hrel
  have HB := Lib.hid hb
  have HBd := Lib.hid hb.drew
  clear hb
  have HXX := Lib.hid hx
  by_cases h10 : x ≤ 10
  · go_upto_region 4 with fail
    have mixed : Tryz.prog.follows .mixedOrders = true := by kernel_rfl
    obtain ⟨f, hfr⟩ : ∃ f, f = (accOf s.A x).1 := ⟨_, rfl⟩
    obtain ⟨lk, hlk⟩ : ∃ l, l = lockedOf s.M x := ⟨_, rfl⟩
    have HEQ := Lib.hid (And.intro hfr hlk)
    clear hfr hlk
    first
     | go_region_held3 (fun w' => w'.cell? ⟨d.p, 0, none⟩ = some (.pointer (some ⟨d.g, 0, none⟩)) ∧ w'.cell? ⟨d.p, 2, none⟩ = some (.pointer (some ⟨d.x, 0, none⟩))) (first | exact ⟨(HCL.out _ HB.out).1, (HCL.out _ HB.out).2.2.1⟩ | exact ⟨(HCL.out _ HBd.out).1, (HCL.out _ HBd.out).2.2.1⟩ | exact ⟨(HCL.out _ HB4.out).1, (HCL.out _ HB4.out).2.2.1⟩) (first
      | (go_at_call 19; refine (HFR.out _ HBd.out x).mono ?_; rw [← HEQ.out.1]; rintro e w' ⟨rfl, hw⟩; rw [hw]; clear hw w')
      | (go_at_call 40; refine (HRF.out _ HBd.out x).mono ?_; rw [← HEQ.out.1]; rintro e w' ⟨rfl, hw⟩; rw [hw]; clear hw w')
      | (go_at_call 18; refine (HLK.out _ HBd.out x ⟨HXX.out.1, Int.le_trans HXX.out.2 (by decide)⟩).mono ?_; rw [← HEQ.out.2]; rintro e w4 ⟨rfl, hb⟩; have HB4 := Lib.hid (HBd.out.trans (hb.mono HBd.out.size)); clear hb)
      | (go_at_call 41; refine (HRL.out _ HB4.out x).mono ?_; rw [← HEQ.out.2]; rintro e w' ⟨rfl, hw⟩; rw [hw]; clear hw w')
      | fail)
     | fail
    go_wp2_with fail
    go_loopw [4] (fun t wq => ∃ j : Nat, j ≤ 4 ∧ t = .int .i64 j ∧ Below w.heap.size w wq) (fun t _ => 4 - (intOf t).toNat)
    case atStart => exact ⟨0, by omega, rfl, HB4.out⟩
    case round =>
     obtain ⟨j, hj, rfl, hb⟩ := hrel
     have HBj := Lib.hid hb
     clear hb
     have HJ := Lib.hid hj
     by_cases hlt : j < 4
     · have hlt' : (j : Int) < 4 := by omega
       have HJ4 := Lib.hid (show (0 : Int) ≤ (j : Int) ∧ (j : Int) < 4 by omega)
       go_wp2_with (first
        | (go_at_call 42; refine (HRE.out _ HBj.out x j ⟨HXX.out.1, Int.le_trans HXX.out.2 (by decide)⟩ HJ4.out).mono ?_; rintro e w5 ⟨rfl, hb⟩; have HB5 := Lib.hid (HBj.out.trans (hb.mono HBj.out.size)); clear hb)
        | fail)
       go_roundw
       case rel => exact ⟨j + 1, hlt, by go_num, HB5.out⟩
       case measure => simp [intOf]; omega
     · have hge : ¬ (j : Int) < 4 := by omega
       go_wp2_with fail
       go_roundw
       case rel => exact ⟨x + 1, by omega, by go_num, HBj.out⟩
       case measure => simp [intOf]; omega
  · go_wp2_with fail
    go_loopw [5] (fun i wq => ∃ y : Int, (-1 ≤ y ∧ y ≤ 13) ∧ i = .int .i64 y ∧ Below w.heap.size w wq) (fun i _ => (13 - intOf i).toNat)
    case atStart => exact ⟨-1, by omega, rfl, HB.out⟩
    case round =>
     obtain ⟨y, hy, rfl, hb⟩ := hrel
     have HC := Lib.hid hb
     have HCd := Lib.hid hb.drew
     clear hb
     by_cases h12 : y ≤ 12
     · go_upto_region 14 with fail
       have mixed : Tryz.prog.follows .mixedOrders = true := by kernel_rfl
       obtain ⟨T, hT⟩ : ∃ T, T = tallyOf s.S y := ⟨_, rfl⟩
       have nes := neTly_same T
       have HT := Lib.hid hT
       clear hT
       first
        | go_region_held3 (fun w' => w'.cell? ⟨d.p, 1, none⟩ = some (.pointer (some ⟨d.vb, 0, none⟩)) ∧ w'.cell? ⟨d.p, 3, none⟩ = some (.pointer (some ⟨d.y, 0, none⟩))) (first | exact ⟨(HCL.out _ HC.out).2.1, (HCL.out _ HC.out).2.2.2.1⟩ | exact ⟨(HCL.out _ HCd.out).2.1, (HCL.out _ HCd.out).2.2.2.1⟩ | exact ⟨(HCL.out _ HC1.out).2.1, (HCL.out _ HC1.out).2.2.2.1⟩ | exact ⟨(HCL.out _ HC2.out).2.1, (HCL.out _ HC2.out).2.2.2.1⟩) (first
         | (go_at_call 13; refine (HTL.out _ HCd.out y).mono ?_; rw [← HT.out]; rintro e w6 ⟨rfl, hb⟩; have HC1 := Lib.hid (HCd.out.trans (hb.mono HCd.out.size)); clear hb)
         | (go_at_call 43; refine (HRT.out _ HC1.out y).mono ?_; rw [← HT.out]; rintro e w7 ⟨rfl, hb⟩; have HC2 := Lib.hid (HC1.out.trans (hb.mono HC1.out.size)); clear hb)
         | fail)
        | fail
       go_wp2_with fail
       go_roundw
       case rel => exact ⟨y + 1, by omega, by go_num, HC2.out⟩
       case measure => simp [intOf]; omega
     · go_wp2_with fail
       exact bodyPost_ret (v := .bool true) (by simp [results, Tryz.results9, go_sem]) rfl ⟨rfl, HC.out⟩
end
end
end Go.Proofs.YtbpemdihoabbcaaGreat
