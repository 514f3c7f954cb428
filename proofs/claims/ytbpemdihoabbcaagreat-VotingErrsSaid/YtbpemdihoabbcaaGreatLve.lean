/- A part. -/
import Derived.Test.YtbpemdihoabbcaaGreatLvp
namespace Go.Proofs.YtbpemdihoabbcaaGreat
set_option linter.unusedVariables false
set_option linter.unusedSimpArgs false
set_option maxRecDepth 100000
set_option maxHeartbeats 8000000
open Go.RowKit Go.Maps Go.Shelf
theorem voteAt2 {w : World} {nb : Nat} {k a r t st who lv n : Int} {x : Bal} (h : w.heap[nb]? = some (.cells #[.int .i64 k, .int .i64 a, .int .i64 r, .int .i64 t, .int .i64 st, .int .i64 who, .int .i64 lv, .int .i64 n, .int .i64 x.k, .bool x.aye, .int .i64 x.l, .int .i64 x.a, .int .i64 x.n, .int .i64 x.s] 30 (0, 0))) : (loadSt_V (.pointer (some ⟨nb, 8, none⟩))).run Tryz.prog w = .ok (.agg #[.int .i64 x.k, .bool x.aye, .int .i64 x.l, .int .i64 x.a, .int .i64 x.n, .int .i64 x.s]) w :=
 loadV_at (x := x) (fun j u hj => by
  have hj6 : j < 6 := (List.getElem?_eq_some_iff.1 hj).1
  rw [World.cell?, h]
  match j, hj6, hj with
  | 0, _, hj => cases hj; rfl
  | 1, _, hj => cases hj; rfl
  | 2, _, hj => cases hj; rfl
  | 3, _, hj => cases hj; rfl
  | 4, _, hj => cases hj; rfl
  | 5, _, hj => cases hj; rfl)
def WAfter (d : Bp) (now : Int) (s : Sx) (F : FP) (w0 w' : World) (E : Int) : Prop := ∃ s3 F3, (bwM d now s3 s).is F3 w' ∧ Below w0.heap.size w0 w' ∧ (E ≠ 0 → s3 = s)
theorem WAfter.cells {d : Bp} {now : Int} {s : Sx} {F : FP} {w0 w' : World} {E : Int} (h : WAfter d now s F w0 w' E) : (w'.cell? ⟨d.p, 0, none⟩ = some (.pointer (some ⟨d.g, 0, none⟩)) ∧ w'.cell? ⟨d.p, 1, none⟩ = some (.pointer (some ⟨d.vb, 0, none⟩)) ∧ w'.cell? ⟨d.p, 2, none⟩ = some (.pointer (some ⟨d.x, 0, none⟩)) ∧ w'.cell? ⟨d.p, 3, none⟩ = some (.pointer (some ⟨d.y, 0, none⟩)) ∧ w'.cell? ⟨d.p, 4, none⟩ = some (.int .i64 now)) ∧ Below w0.heap.size w0 w' := by
 obtain ⟨s3, F3, h1, h2, -⟩ := h
 exact ⟨bw_cells h1, h2⟩
theorem pv_werr {d : Bp} {now : Int} {s : Sx} {F : FP} {w0 w W : World} (hb : (bwM d now s s).is F w) (hs : s.Ok) (hN : d.N ≤ d.p) (h0 : Below w0.heap.size w0 w) (hF : ∀ j, F j → w0.heap.size ≤ j) (hW : Below w.heap.size w W) {E : Int} {s' : Sx} {f} {args} (hc : ∀ Zn, PvAt d.p d.g d.vb d.N s.S s.A s.M now Zn W → Calls Tryz.prog f args W fun e w' => e = .returned (.int .i64 E) ∧ PvTo d.p d.g d.vb d.N s'.S s'.A s'.M now Zn W w') (he : E ≠ 0 → s' = s) : Calls Tryz.prog f args W fun e w' => e = .returned (.int .i64 E) ∧ WAfter d now s F w0 w' E := by
 obtain ⟨Zn, hx, ht⟩ := bw_pv (bw_below hb hW) hs hN
 refine (hc Zn hx).mono ?_
 rintro e w' ⟨hr, hw⟩
 have h3 := ht s' _ hw
 obtain ⟨F3, h4, h5, -⟩ := Mem.next h3
 have hW0 : Below w0.heap.size w0 W := h0.trans (hW.mono h0.size)
 exact ⟨hr, s', F3, h4, hW0.trans (Mem.to_low h3 hW0.size hF), he⟩
section
attribute [local go_sem ↓] loadSt_V_hide in
theorem votingErrs_walk (hv : VoteAct) (v : Value) (l : List Int) (u : Value) (acts : List Ac) (w : World) (hr : RdI w v l) (hbd : ∀ n ∈ l, (Lit.int .i64 n).wf = true) (hm : l.length ≤ maxLen) (hra : RdS acR w u acts) (hma : acts.length ≤ maxLen ∧ ∀ x ∈ acts, AcWf x) (z : Ac) (hz : AcWf z) :
 Calls Tryz.prog 6 #[v, u, .agg (acF z).toArray] w fun e w' => e = .returned (.bool true) ∧ Below w.heap.size w w' := by
 obtain ⟨ao, cap, rfl⟩ := hr.lenOf
 obtain ⟨K, hK⟩ : ∃ K, K = l.length := ⟨_, rfl⟩
 rw [← hK] at hr hm ⊢
 obtain ⟨ao2, cap2, rfl, hrd⟩ := hra
 obtain ⟨hmx, hwf⟩ := hma
 have hmx' : (acts.length : Int) ≤ 9223372036854775807 := Int.le_trans (Int.ofNat_le.2 hmx) (by decide +kernel)
 obtain ⟨L, hL⟩ : ∃ L, L = acts.length := ⟨_, rfl⟩
 have HRD := Lib.hid hrd
 have HL := Lib.hid hL
 have HWF := Lib.hid hwf
 have HR := Lib.hid (And.intro hr hK)
 have HV := Lib.hid hv
 rw [← hL] at hmx' ⊢
 clear hrd hL hmx hwf hr hm hbd hK hv
 obtain ⟨k, a, r, t, st, who, lv, n, x⟩ := z
 obtain ⟨wa, wr', wt⟩ := hz
 have HWZ := Lib.hid (And.intro wa (And.intro wr' wt))
 clear wa wr' wt
 dsimp only [acF] at *
 obtain ⟨nb, hnb⟩ : ∃ nb, nb = w.heap.size := ⟨_, rfl⟩
 obtain ⟨w0, hw0⟩ : ∃ w0, w0 = w.alloc (.cells #[.int .i64 k, .int .i64 a, .int .i64 r, .int .i64 t, .int .i64 st, .int .i64 who, .int .i64 lv, .int .i64 n, .int .i64 x.k, .bool x.aye, .int .i64 x.l, .int .i64 x.a, .int .i64 x.n, .int .i64 x.s] 30) := ⟨_, rfl⟩
 have hb0 : Below w.heap.size w w0 := by rw [hw0]; exact (Below.refl _ w).alloc (Nat.le_refl _) _
 have hbx : ∀ W, Below w0.heap.size w0 W → W.heap[nb]? = some (.cells #[.int .i64 k, .int .i64 a, .int .i64 r, .int .i64 t, .int .i64 st, .int .i64 who, .int .i64 lv, .int .i64 n, .int .i64 x.k, .bool x.aye, .int .i64 x.l, .int .i64 x.a, .int .i64 x.n, .int .i64 x.s] 30 (0, 0)) := fun W hW => by
  have h1 : nb < w0.heap.size := by rw [hw0, hnb, World.size_alloc]; exact Nat.lt_succ_self _
  rw [hW.block nb h1, hw0, hnb]
  exact World.alloc_heap_new _ _
 have HB0 := Lib.hid hb0
 have HBX := Lib.hid hbx
 have HW := Lib.hid (And.intro hnb hw0)
 clear hb0 hbx hnb hw0
 go_enter Tryz.func6, Tryz.ntmps6
 go_upto_region 1 with fail
 rw [← HW.out.2, ← HW.out.1]
 by_cases c1 : (10000 : Int) < (L : Int)
 · go_wp2_with fail
   exact bodyPost_ret (v := .bool true) (by simp [results, Tryz.results6, go_sem]) rfl ⟨rfl, HB0.out⟩
 by_cases c0 : (1000 : Int) < (K : Int)
 · go_wp2_with fail
   exact bodyPost_ret (v := .bool true) (by simp [results, Tryz.results6, go_sem]) rfl ⟨rfl, HB0.out⟩
 have hbg : Calls Tryz.prog 7 #[.slice ao K cap] w0 fun e w' => ∃ d F, e = .returned (.pointer (some ⟨d.p, 0, none⟩)) ∧ (bwM d 0 (s11 l) (s11 l)).is F w' ∧ d.N = w0.heap.size ∧ w0.heap.size ≤ d.p ∧ (∀ k, F k → w0.heap.size ≤ k) ∧ Below w0.heap.size w0 w' := by
  refine (law11_beginB _ l w0 (HR.out.1.below HB0.out) (by rw [← HR.out.2]; omega)).mono ?_
  rintro e w' ⟨d, F, he, h1, h2, h3, h4, h5⟩
  exact ⟨d, F, he, h1, h2, h3, h4, h5⟩
 have HBG := Lib.hid hbg
 clear hbg
 go_upto_block 0 with (first
  | (go_at_call 7; refine HBG.out.mono ?_; rintro e w1 ⟨d, F, rfl, h1, h2, h3, h4, h5⟩; have H1 := Lib.hid (And.intro h1 (And.intro (show d.N ≤ d.p by omega) (And.intro h4 h5))); clear h1 h2 h3 h4 h5)
  | fail)
 clear HBG
 go_wp2_with fail
 go_loopw [8] (fun i wr => ∃ (q : Nat) (now : Int) (s : Sx) (F : FP), q ≤ L ∧ q ≤ 80 ∧ i = .int .i64 q ∧ (bwM d now s s).is F wr ∧ s.Ok ∧ (∀ j, F j → w0.heap.size ≤ j) ∧ Below w0.heap.size w0 wr) (fun i _ => 80 - (intOf i).toNat)
 case atStart => exact ⟨0, 0, s11 l, F, by omega, by omega, rfl, H1.out.1, s11_ok l, H1.out.2.2.1, H1.out.2.2.2⟩
 case round =>
  obtain ⟨q, now, s, F, hkL, hk1, rfl, hbw, hok, hF, hbl⟩ := hrel
  have HS := Lib.hid (And.intro hbw (And.intro hok (And.intro hF hbl)))
  clear hbw hok hF hbl
  by_cases hin : q < L ∧ q < 80
  · obtain ⟨hlt, hlt1⟩ := hin
    have hlt' : (q : Int) < L := by omega
    have hlt2 : (q : Int) < 80 := by omega
    obtain ⟨b, off, rfl, hrg, hbw⟩ := HRD.out q (by rw [← HL.out]; exact hlt)
    obtain ⟨z, hx⟩ : ∃ z, z = acts[q]'(by rw [← HL.out]; exact hlt) := ⟨_, rfl⟩
    rw [← hx] at hrg
    have hxw : AcWf z := by rw [hx]; exact HWF.out _ (List.getElem_mem _)
    have hrg2 : wr.rangeAt b (off + q * 14) (acF z) := rangeAt_block hrg ((HB0.out.trans (HS.out.2.2.2.mono HB0.out.size)).block b hbw)
    have HX := Lib.hid (And.intro hxw hrg2)
    clear hx hrg hbw hrg2 hxw hlt hlt1
    go_wp2_with (first
     | (refine wpl_loadR (r := acR) _ rfl rfl rfl HX.out.2 ?_; dsimp only [acR])
     | (go_at_call 8; refine (law11_act HV.out z HX.out.1 HS.out.1 HS.out.2.1 H1.out.2.1).mono ?_; rintro e w3 ⟨rfl, now3, s3, h3, k3⟩; have H3 := Lib.hid (And.intro h3 k3); clear h3 k3; obtain ⟨F3, h4, h5, -⟩ := Mem.next H3.out.1; have H4 := Lib.hid (And.intro h4 (And.intro (show ∀ j, F3 j → w0.heap.size ≤ j from fun j hj => (h5 j hj).elim (HS.out.2.2.1 j) (fun e => Nat.le_trans HS.out.2.2.2.size e)) (HS.out.2.2.2.trans (Mem.to_low H3.out.1 HS.out.2.2.2.size HS.out.2.2.1)))); clear h4 h5)
     | fail)
    go_roundw
    case rel => exact ⟨q + 1, now3, s3, F3, by omega, by omega, by go_num, H4.out.1, H3.out.2, H4.out.2.1, H4.out.2.2⟩
    case measure => simp [intOf]; omega
  · have hex : (¬ (q : Int) < L) ∨ ((q : Int) < L ∧ ¬ (q : Int) < 80) := by omega
    clear hin hkL hk1
    obtain ⟨wq, hwq⟩ : ∃ wq, wq = wr := ⟨_, rfl⟩
    have HS0 := Lib.hid HS.out.2.2.2
    have HCL := Lib.hid (fun W (hW : Below wr.heap.size wr W) => bw_cells (bw_below HS.out.1 hW))
    obtain ⟨wa, wr', wt⟩ := HWZ.out
    rcases hex with hq | ⟨hq1, hq2⟩
    all_goals
     have hk : k = 1 ∨ k = 2 ∨ k = 3 ∨ k = 4 ∨ k = 5 ∨ k = 6 ∨ k = 7 ∨ (k ≠ 1 ∧ k ≠ 2 ∧ k ≠ 3 ∧ k ≠ 4 ∧ k ≠ 5 ∧ k ≠ 6 ∧ k ≠ 7) := by omega
     rcases hk with rfl | rfl | rfl | rfl | rfl | rfl | rfl | ⟨e1, e2, e3, e4, e5, e6, e7⟩
     focus
      obtain ⟨E, hE⟩ : ∃ E, E = openE s.S.P r t := ⟨_, rfl⟩
      have c1 : ∀ W, Below wr.heap.size wr W → Calls Tryz.prog 20 #[.pointer (some ⟨d.vb, 0, none⟩), .int .i64 r, .int .i64 t] W fun e w' => e = .returned (.int .i64 E) ∧ WAfter d now s F w0 w' E := fun W hW =>
       pv_werr (s' := ⟨s.A, s.M, openS s.S r t⟩) HS.out.1 HS.out.2.1 H1.out.2.1 HS.out.2.2.2 HS.out.2.2.1 hW (fun Zn hx => by rw [hE]; exact hx.vOpen r t) (fun h0 => by rw [hE] at h0; show _ = s; unfold openS; rw [if_neg h0])
      have C1 := Lib.hid c1
      have q0 : wr.cell? ⟨nb, 0, none⟩ = some (.int .i64 1) := by rw [World.cell?, HBX.out _ HS.out.2.2.2]; rfl
      clear c1 hE
      go_upto_region 14 with fail
      have mixed : Tryz.prog.follows .mixedOrders = true := by kernel_rfl
      first
       | go_region_held3 (fun w' => w'.cell? ⟨d.p, 1, none⟩ = some (.pointer (some ⟨d.vb, 0, none⟩)) ∧ w'.cell? ⟨nb, 2, none⟩ = some (.int .i64 r) ∧ w'.cell? ⟨nb, 3, none⟩ = some (.int .i64 t)) (first | exact ⟨(HCL.out _ (Below.refl _ wr)).2.1, by rw [World.cell?, HBX.out _ HS.out.2.2.2]; rfl, by rw [World.cell?, HBX.out _ HS.out.2.2.2]; rfl⟩ | exact ⟨(HCL.out _ (Below.refl _ wr).drew).2.1, by rw [World.cell?, HBX.out _ HS.out.2.2.2.drew]; rfl, by rw [World.cell?, HBX.out _ HS.out.2.2.2.drew]; rfl⟩ | exact ⟨T3.out.1.2.1, by rw [World.cell?, HBX.out _ T3.out.2]; rfl, by rw [World.cell?, HBX.out _ T3.out.2]; rfl⟩) (first
        | (go_at_call 20; refine (C1.out _ (Below.refl _ wr).drew).mono ?_; rintro e w3 ⟨rfl, hs⟩; have T3 := Lib.hid hs.cells; have S3 := Lib.hid hs; clear hs)
        | fail)
       | fail
     rotate_left
     focus
      obtain ⟨E, hE⟩ : ∃ E, E = closeE s.S.P r st := ⟨_, rfl⟩
      have c1 : ∀ W, Below wr.heap.size wr W → Calls Tryz.prog 21 #[.pointer (some ⟨d.vb, 0, none⟩), .int .i64 r, .int .i64 st, .int .i64 now] W fun e w' => e = .returned (.int .i64 E) ∧ WAfter d now s F w0 w' E := fun W hW =>
       pv_werr (s' := ⟨s.A, s.M, closeS s.S r st now⟩) HS.out.1 HS.out.2.1 H1.out.2.1 HS.out.2.2.2 HS.out.2.2.1 hW (fun Zn hx => by rw [hE]; exact hx.vClose r st now) (fun h0 => by rw [hE] at h0; show _ = s; unfold closeS; rw [if_neg h0])
      have C1 := Lib.hid c1
      have q0 : wr.cell? ⟨nb, 0, none⟩ = some (.int .i64 2) := by rw [World.cell?, HBX.out _ HS.out.2.2.2]; rfl
      clear c1 hE
      go_upto_region 16 with fail
      have mixed : Tryz.prog.follows .mixedOrders = true := by kernel_rfl
      first
       | go_region_held3 (fun w' => w'.cell? ⟨d.p, 1, none⟩ = some (.pointer (some ⟨d.vb, 0, none⟩)) ∧ w'.cell? ⟨d.p, 4, none⟩ = some (.int .i64 now) ∧ w'.cell? ⟨nb, 2, none⟩ = some (.int .i64 r) ∧ w'.cell? ⟨nb, 4, none⟩ = some (.int .i64 st)) (first | exact ⟨(HCL.out _ (Below.refl _ wr)).2.1, (HCL.out _ (Below.refl _ wr)).2.2.2.2, by rw [World.cell?, HBX.out _ HS.out.2.2.2]; rfl, by rw [World.cell?, HBX.out _ HS.out.2.2.2]; rfl⟩ | exact ⟨(HCL.out _ (Below.refl _ wr).drew).2.1, (HCL.out _ (Below.refl _ wr).drew).2.2.2.2, by rw [World.cell?, HBX.out _ HS.out.2.2.2.drew]; rfl, by rw [World.cell?, HBX.out _ HS.out.2.2.2.drew]; rfl⟩ | exact ⟨T3.out.1.2.1, T3.out.1.2.2.2.2, by rw [World.cell?, HBX.out _ T3.out.2]; rfl, by rw [World.cell?, HBX.out _ T3.out.2]; rfl⟩) (first
        | (go_at_call 21; refine (C1.out _ (Below.refl _ wr).drew).mono ?_; rintro e w3 ⟨rfl, hs⟩; have T3 := Lib.hid hs.cells; have S3 := Lib.hid hs; clear hs)
        | fail)
       | fail
     rotate_left
     focus
      obtain ⟨E, hE⟩ : ∃ E, E = voteE s.S s.A a r x := ⟨_, rfl⟩
      have c1 : ∀ W, Below wr.heap.size wr W → Calls Tryz.prog 22 #[.pointer (some ⟨d.vb, 0, none⟩), .pointer (some ⟨d.g, 0, none⟩), .int .i64 a, .int .i64 r, .agg #[.int .i64 x.k, .bool x.aye, .int .i64 x.l, .int .i64 x.a, .int .i64 x.n, .int .i64 x.s]] W fun e w' => e = .returned (.int .i64 E) ∧ WAfter d now s F w0 w' E := fun W hW =>
       pv_werr (s' := ⟨s.A, voteM s.S s.A s.M a r x, voteS s.S s.A a r x⟩) HS.out.1 HS.out.2.1 H1.out.2.1 HS.out.2.2.2 HS.out.2.2.1 hW (fun Zn hx => by rw [hE]; exact hx.vVote wa wr' x) (fun h0 => by rw [hE] at h0; show _ = s; unfold voteS voteM; rw [if_neg h0, if_neg h0])
      have C1 := Lib.hid c1
      have q0 : wr.cell? ⟨nb, 0, none⟩ = some (.int .i64 3) := by rw [World.cell?, HBX.out _ HS.out.2.2.2]; rfl
      clear c1 hE
      go_upto_region 18 with fail
      have mixed : Tryz.prog.follows .mixedOrders = true := by kernel_rfl
      first
       | go_region_held3 (fun w' => w'.cell? ⟨d.p, 0, none⟩ = some (.pointer (some ⟨d.g, 0, none⟩)) ∧ w'.cell? ⟨d.p, 1, none⟩ = some (.pointer (some ⟨d.vb, 0, none⟩)) ∧ w'.cell? ⟨nb, 1, none⟩ = some (.int .i64 a) ∧ w'.cell? ⟨nb, 2, none⟩ = some (.int .i64 r) ∧ (loadSt_V (.pointer (some ⟨nb, 8, none⟩))).run Tryz.prog w' = .ok (.agg #[.int .i64 x.k, .bool x.aye, .int .i64 x.l, .int .i64 x.a, .int .i64 x.n, .int .i64 x.s]) w') (first | exact ⟨(HCL.out _ (Below.refl _ wr)).1, (HCL.out _ (Below.refl _ wr)).2.1, by rw [World.cell?, HBX.out _ HS.out.2.2.2]; rfl, by rw [World.cell?, HBX.out _ HS.out.2.2.2]; rfl, voteAt2 (HBX.out _ HS.out.2.2.2)⟩ | exact ⟨(HCL.out _ (Below.refl _ wr).drew).1, (HCL.out _ (Below.refl _ wr).drew).2.1, by rw [World.cell?, HBX.out _ HS.out.2.2.2.drew]; rfl, by rw [World.cell?, HBX.out _ HS.out.2.2.2.drew]; rfl, voteAt2 (HBX.out _ HS.out.2.2.2.drew)⟩ | exact ⟨T3.out.1.1, T3.out.1.2.1, by rw [World.cell?, HBX.out _ T3.out.2]; rfl, by rw [World.cell?, HBX.out _ T3.out.2]; rfl, voteAt2 (HBX.out _ T3.out.2)⟩) (first
        | (go_at_call 22; refine (C1.out _ (Below.refl _ wr).drew).mono ?_; rintro e w3 ⟨rfl, hs⟩; have T3 := Lib.hid hs.cells; have S3 := Lib.hid hs; clear hs)
        | fail)
       | fail
     rotate_left
     focus
      obtain ⟨E, hE⟩ : ∃ E, E = unvoteE s.S a r := ⟨_, rfl⟩
      have c1 : ∀ W, Below wr.heap.size wr W → Calls Tryz.prog 23 #[.pointer (some ⟨d.vb, 0, none⟩), .int .i64 a, .int .i64 r, .int .i64 now] W fun e w' => e = .returned (.int .i64 E) ∧ WAfter d now s F w0 w' E := fun W hW =>
       pv_werr (s' := ⟨s.A, s.M, unvoteS s.S a r now⟩) HS.out.1 HS.out.2.1 H1.out.2.1 HS.out.2.2.2 HS.out.2.2.1 hW (fun Zn hx => by rw [hE]; exact hx.vUnvote wa wr' now) (fun h0 => by rw [hE] at h0; show _ = s; unfold unvoteS; rw [if_neg h0])
      have C1 := Lib.hid c1
      have q0 : wr.cell? ⟨nb, 0, none⟩ = some (.int .i64 4) := by rw [World.cell?, HBX.out _ HS.out.2.2.2]; rfl
      clear c1 hE
      go_upto_region 20 with fail
      have mixed : Tryz.prog.follows .mixedOrders = true := by kernel_rfl
      first
       | go_region_held3 (fun w' => w'.cell? ⟨d.p, 1, none⟩ = some (.pointer (some ⟨d.vb, 0, none⟩)) ∧ w'.cell? ⟨d.p, 4, none⟩ = some (.int .i64 now) ∧ w'.cell? ⟨nb, 1, none⟩ = some (.int .i64 a) ∧ w'.cell? ⟨nb, 2, none⟩ = some (.int .i64 r)) (first | exact ⟨(HCL.out _ (Below.refl _ wr)).2.1, (HCL.out _ (Below.refl _ wr)).2.2.2.2, by rw [World.cell?, HBX.out _ HS.out.2.2.2]; rfl, by rw [World.cell?, HBX.out _ HS.out.2.2.2]; rfl⟩ | exact ⟨(HCL.out _ (Below.refl _ wr).drew).2.1, (HCL.out _ (Below.refl _ wr).drew).2.2.2.2, by rw [World.cell?, HBX.out _ HS.out.2.2.2.drew]; rfl, by rw [World.cell?, HBX.out _ HS.out.2.2.2.drew]; rfl⟩ | exact ⟨T3.out.1.2.1, T3.out.1.2.2.2.2, by rw [World.cell?, HBX.out _ T3.out.2]; rfl, by rw [World.cell?, HBX.out _ T3.out.2]; rfl⟩) (first
        | (go_at_call 23; refine (C1.out _ (Below.refl _ wr).drew).mono ?_; rintro e w3 ⟨rfl, hs⟩; have T3 := Lib.hid hs.cells; have S3 := Lib.hid hs; clear hs)
        | fail)
       | fail
     rotate_left
     focus
      obtain ⟨E, hE⟩ : ∃ E, E = delE s.S s.A a t who lv n := ⟨_, rfl⟩
      have c1 : ∀ W, Below wr.heap.size wr W → Calls Tryz.prog 24 #[.pointer (some ⟨d.vb, 0, none⟩), .pointer (some ⟨d.g, 0, none⟩), .int .i64 a, .int .i64 t, .int .i64 who, .int .i64 lv, .int .i64 n] W fun e w' => e = .returned (.int .i64 E) ∧ WAfter d now s F w0 w' E := fun W hW =>
       pv_werr (s' := ⟨s.A, delM s.S s.A s.M a t who lv n, delS s.S s.A a t who lv n⟩) HS.out.1 HS.out.2.1 H1.out.2.1 HS.out.2.2.2 HS.out.2.2.1 hW (fun Zn hx => by rw [hE]; exact hx.vDelegate wa wt lv n) (fun h0 => by rw [hE] at h0; show _ = s; unfold delS delM; rw [if_neg h0, if_neg h0])
      have C1 := Lib.hid c1
      have q0 : wr.cell? ⟨nb, 0, none⟩ = some (.int .i64 5) := by rw [World.cell?, HBX.out _ HS.out.2.2.2]; rfl
      clear c1 hE
      go_upto_region 22 with fail
      have mixed : Tryz.prog.follows .mixedOrders = true := by kernel_rfl
      first
       | go_region_held3 (fun w' => w'.cell? ⟨d.p, 0, none⟩ = some (.pointer (some ⟨d.g, 0, none⟩)) ∧ w'.cell? ⟨d.p, 1, none⟩ = some (.pointer (some ⟨d.vb, 0, none⟩)) ∧ w'.cell? ⟨nb, 1, none⟩ = some (.int .i64 a) ∧ w'.cell? ⟨nb, 3, none⟩ = some (.int .i64 t) ∧ w'.cell? ⟨nb, 5, none⟩ = some (.int .i64 who) ∧ w'.cell? ⟨nb, 6, none⟩ = some (.int .i64 lv) ∧ w'.cell? ⟨nb, 7, none⟩ = some (.int .i64 n)) (first | exact ⟨(HCL.out _ (Below.refl _ wr)).1, (HCL.out _ (Below.refl _ wr)).2.1, by rw [World.cell?, HBX.out _ HS.out.2.2.2]; rfl, by rw [World.cell?, HBX.out _ HS.out.2.2.2]; rfl, by rw [World.cell?, HBX.out _ HS.out.2.2.2]; rfl, by rw [World.cell?, HBX.out _ HS.out.2.2.2]; rfl, by rw [World.cell?, HBX.out _ HS.out.2.2.2]; rfl⟩ | exact ⟨(HCL.out _ (Below.refl _ wr).drew).1, (HCL.out _ (Below.refl _ wr).drew).2.1, by rw [World.cell?, HBX.out _ HS.out.2.2.2.drew]; rfl, by rw [World.cell?, HBX.out _ HS.out.2.2.2.drew]; rfl, by rw [World.cell?, HBX.out _ HS.out.2.2.2.drew]; rfl, by rw [World.cell?, HBX.out _ HS.out.2.2.2.drew]; rfl, by rw [World.cell?, HBX.out _ HS.out.2.2.2.drew]; rfl⟩ | exact ⟨T3.out.1.1, T3.out.1.2.1, by rw [World.cell?, HBX.out _ T3.out.2]; rfl, by rw [World.cell?, HBX.out _ T3.out.2]; rfl, by rw [World.cell?, HBX.out _ T3.out.2]; rfl, by rw [World.cell?, HBX.out _ T3.out.2]; rfl, by rw [World.cell?, HBX.out _ T3.out.2]; rfl⟩) (first
        | (go_at_call 24; refine (C1.out _ (Below.refl _ wr).drew).mono ?_; rintro e w3 ⟨rfl, hs⟩; have T3 := Lib.hid hs.cells; have S3 := Lib.hid hs; clear hs)
        | fail)
       | fail
     rotate_left
     focus
      obtain ⟨E, hE⟩ : ∃ E, E = undE s.S a t := ⟨_, rfl⟩
      have c1 : ∀ W, Below wr.heap.size wr W → Calls Tryz.prog 25 #[.pointer (some ⟨d.vb, 0, none⟩), .int .i64 a, .int .i64 t, .int .i64 now] W fun e w' => e = .returned (.int .i64 E) ∧ WAfter d now s F w0 w' E := fun W hW =>
       pv_werr (s' := ⟨s.A, s.M, undS s.S a t now⟩) HS.out.1 HS.out.2.1 H1.out.2.1 HS.out.2.2.2 HS.out.2.2.1 hW (fun Zn hx => by rw [hE]; exact hx.vUndelegate wa wt now) (fun h0 => by rw [hE] at h0; show _ = s; unfold undS; rw [if_neg h0])
      have C1 := Lib.hid c1
      have q0 : wr.cell? ⟨nb, 0, none⟩ = some (.int .i64 6) := by rw [World.cell?, HBX.out _ HS.out.2.2.2]; rfl
      clear c1 hE
      go_upto_region 24 with fail
      have mixed : Tryz.prog.follows .mixedOrders = true := by kernel_rfl
      first
       | go_region_held3 (fun w' => w'.cell? ⟨d.p, 1, none⟩ = some (.pointer (some ⟨d.vb, 0, none⟩)) ∧ w'.cell? ⟨d.p, 4, none⟩ = some (.int .i64 now) ∧ w'.cell? ⟨nb, 1, none⟩ = some (.int .i64 a) ∧ w'.cell? ⟨nb, 3, none⟩ = some (.int .i64 t)) (first | exact ⟨(HCL.out _ (Below.refl _ wr)).2.1, (HCL.out _ (Below.refl _ wr)).2.2.2.2, by rw [World.cell?, HBX.out _ HS.out.2.2.2]; rfl, by rw [World.cell?, HBX.out _ HS.out.2.2.2]; rfl⟩ | exact ⟨(HCL.out _ (Below.refl _ wr).drew).2.1, (HCL.out _ (Below.refl _ wr).drew).2.2.2.2, by rw [World.cell?, HBX.out _ HS.out.2.2.2.drew]; rfl, by rw [World.cell?, HBX.out _ HS.out.2.2.2.drew]; rfl⟩ | exact ⟨T3.out.1.2.1, T3.out.1.2.2.2.2, by rw [World.cell?, HBX.out _ T3.out.2]; rfl, by rw [World.cell?, HBX.out _ T3.out.2]; rfl⟩) (first
        | (go_at_call 25; refine (C1.out _ (Below.refl _ wr).drew).mono ?_; rintro e w3 ⟨rfl, hs⟩; have T3 := Lib.hid hs.cells; have S3 := Lib.hid hs; clear hs)
        | fail)
       | fail
     rotate_left
     focus
      obtain ⟨E, hE⟩ : ∃ E, E = unlE a t := ⟨_, rfl⟩
      have c1 : ∀ W, Below wr.heap.size wr W → Calls Tryz.prog 26 #[.pointer (some ⟨d.vb, 0, none⟩), .pointer (some ⟨d.g, 0, none⟩), .int .i64 a, .int .i64 t, .int .i64 now] W fun e w' => e = .returned (.int .i64 E) ∧ WAfter d now s F w0 w' E := fun W hW =>
       pv_werr (s' := ⟨s.A, unlM s.S s.M a t now, unlS s.S a t now⟩) HS.out.1 HS.out.2.1 H1.out.2.1 HS.out.2.2.2 HS.out.2.2.1 hW (fun Zn hx => by rw [hE]; exact hx.vUnlock wa wt now) (fun h0 => by rw [hE] at h0; show _ = s; unfold unlS unlM; rw [if_neg h0, if_neg h0])
      have C1 := Lib.hid c1
      have q0 : wr.cell? ⟨nb, 0, none⟩ = some (.int .i64 7) := by rw [World.cell?, HBX.out _ HS.out.2.2.2]; rfl
      clear c1 hE
      go_upto_region 26 with fail
      have mixed : Tryz.prog.follows .mixedOrders = true := by kernel_rfl
      first
       | go_region_held3 (fun w' => w'.cell? ⟨d.p, 0, none⟩ = some (.pointer (some ⟨d.g, 0, none⟩)) ∧ w'.cell? ⟨d.p, 1, none⟩ = some (.pointer (some ⟨d.vb, 0, none⟩)) ∧ w'.cell? ⟨d.p, 4, none⟩ = some (.int .i64 now) ∧ w'.cell? ⟨nb, 1, none⟩ = some (.int .i64 a) ∧ w'.cell? ⟨nb, 3, none⟩ = some (.int .i64 t)) (first | exact ⟨(HCL.out _ (Below.refl _ wr)).1, (HCL.out _ (Below.refl _ wr)).2.1, (HCL.out _ (Below.refl _ wr)).2.2.2.2, by rw [World.cell?, HBX.out _ HS.out.2.2.2]; rfl, by rw [World.cell?, HBX.out _ HS.out.2.2.2]; rfl⟩ | exact ⟨(HCL.out _ (Below.refl _ wr).drew).1, (HCL.out _ (Below.refl _ wr).drew).2.1, (HCL.out _ (Below.refl _ wr).drew).2.2.2.2, by rw [World.cell?, HBX.out _ HS.out.2.2.2.drew]; rfl, by rw [World.cell?, HBX.out _ HS.out.2.2.2.drew]; rfl⟩ | exact ⟨T3.out.1.1, T3.out.1.2.1, T3.out.1.2.2.2.2, by rw [World.cell?, HBX.out _ T3.out.2]; rfl, by rw [World.cell?, HBX.out _ T3.out.2]; rfl⟩) (first
        | (go_at_call 26; refine (C1.out _ (Below.refl _ wr).drew).mono ?_; rintro e w3 ⟨rfl, hs⟩; have T3 := Lib.hid hs.cells; have S3 := Lib.hid hs; clear hs)
        | fail)
       | fail
     rotate_left
     · have q0 : wr.cell? ⟨nb, 0, none⟩ = some (.int .i64 k) := by rw [World.cell?, HBX.out _ HS.out.2.2.2]; rfl
       have f1 : (k == 1) = false := by simp [e1]
       have f2 : (k == 2) = false := by simp [e2]
       have f3 : (k == 3) = false := by simp [e3]
       have f4 : (k == 4) = false := by simp [e4]
       have f5 : (k == 5) = false := by simp [e5]
       have f6 : (k == 6) = false := by simp [e6]
       have f7 : (k == 7) = false := by simp [e7]
       clear e1 e2 e3 e4 e5 e6 e7
       go_wp2_with (first
        | (go_at_call 10; refine (law11_known _).mono ?_; rintro e w5 ⟨rfl, hb⟩; have H5 := Lib.hid (HS0.out.trans (hb.mono HS0.out.size)); clear hb)
        | fail)
       exact bodyPost_ret (v := .bool true) (by simp [results, Tryz.results6, go_sem]) rfl ⟨rfl, HB0.out.trans (H5.out.mono HB0.out.size)⟩
     all_goals
      by_cases hE0 : E = 0
      · subst hE0
        obtain ⟨s3, F3, h4, hb, -⟩ := S3.out
        have HB3 := Lib.hid hb
        clear h4 hb
        go_wp2_with (first
         | (go_at_call 10; refine (law11_known _).mono ?_; rintro e w5 ⟨rfl, hb⟩; have H5 := Lib.hid (HB3.out.trans (hb.mono HB3.out.size)); clear hb)
         | fail)
        exact bodyPost_ret (v := .bool true) (by simp [results, Tryz.results6, go_sem]) rfl ⟨rfl, HB0.out.trans (H5.out.mono HB0.out.size)⟩
      · obtain ⟨s3, F3, h4, hb, h6⟩ := S3.out
        have hs3 := h6 hE0
        rw [hs3] at h4
        have HB3 := Lib.hid (And.intro h4 hb)
        have hE1 : (E == 0) = false := by simp [hE0]
        clear h4 hb h6 hs3
        go_wp2_with (first
         | (go_at_call 9; refine (law11_alike HB3.out.1 HS.out.2.1 H1.out.2.1).mono ?_; rintro e w4 ⟨rfl, hb⟩; have HB4 := Lib.hid (HB3.out.2.trans (hb.mono HB3.out.2.size)); clear hb)
         | (go_at_call 10; refine (law11_known _).mono ?_; rintro e w5 ⟨rfl, hb⟩; have H5 := Lib.hid (HB4.out.trans (hb.mono HB4.out.size)); clear hb)
         | fail)
        exact bodyPost_ret (v := .bool true) (by simp [results, Tryz.results6, go_sem]) rfl ⟨rfl, HB0.out.trans (H5.out.mono HB0.out.size)⟩
end
end Go.Proofs.YtbpemdihoabbcaaGreat
