/-
  The code's round.
-/
import Derived.Test.YtbndegkgpoemnaaDoorBlkM
import Derived.Test.YtbndegkgpoemnaaDoorBlk4
import Derived.Test.YtbndegkgpoemnaaDoorBytes
import Derived.Test.YtbndegkgpoemnaaDoorWhole
import Derived.StillTailTactics
namespace Go.Proofs.YtbndegkgpoemnaaDoor
open Go.RowKit
set_option linter.unusedVariables false
set_option linter.unusedSimpArgs false

theorem orderL_len (i : Nat) : (orderL i).length = 16 := by unfold orderL; split <;> rfl

/-- A block that holds just these bytes. -/
structure BBox (t : TypeId) (b : Nat) (l : List Nat) (w : World) : Prop where
  at_ : w.heap[b]? = some (.cells (Bs l).toArray t (0, 0))
theorem BBox.cell {t : TypeId} {b : Nat} {l : List Nat} {w : World} (h : BBox t b l w) {i : Nat} (hi : i < l.length) : w.cell? ⟨b, i, none⟩ = some (.int .u8 (gt l i : Nat)) := by
  simp [World.cell?, h.at_, Bs, hi, gt]

theorem Bs16 (x : List Nat) (h : x.length = 16) : (Bs x).toArray = #[.int .u8 (gt x 0 : Nat), .int .u8 (gt x 1 : Nat), .int .u8 (gt x 2 : Nat), .int .u8 (gt x 3 : Nat), .int .u8 (gt x 4 : Nat), .int .u8 (gt x 5 : Nat), .int .u8 (gt x 6 : Nat), .int .u8 (gt x 7 : Nat), .int .u8 (gt x 8 : Nat), .int .u8 (gt x 9 : Nat), .int .u8 (gt x 10 : Nat), .int .u8 (gt x 11 : Nat), .int .u8 (gt x 12 : Nat), .int .u8 (gt x 13 : Nat), .int .u8 (gt x 14 : Nat), .int .u8 (gt x 15 : Nat)] := by
  match x, h with
  | [a, b, c, d, e, f, g, i, j, k, l, m, n, o, p, q], _ => rfl
/-- What the two tables of the program hold. -/
structure Glob (w : World) : Prop where
  lt : 2 ≤ w.heap.size
  beg : ∃ t, w.heap[0]? = some (.cells (Ws beginL) t (0, 0))
  ord : ∀ i, i < 10 → ∀ j, j < 16 → w.cell? ⟨1, i * 16 + j, none⟩ = some (.int .u8 (gt (orderL i) j : Nat))
theorem Glob.of {w w' : World} (h : Glob w) (hs : w.heap.size ≤ w'.heap.size) (hk : ∀ k, k < 2 → w'.heap[k]? = w.heap[k]?) : Glob w' :=
  ⟨Nat.le_trans h.lt hs, h.beg.imp fun _ e => (hk 0 (by omega)).trans e, fun i hi j hj => (World.cell?_of_block (a := ⟨1, i * 16 + j, none⟩) (hk 1 (by omega))).trans (h.ord i hi j hj)⟩
theorem Glob.below {w w' : World} {N : Nat} (h : Glob w) (hb : Below N w w') (hN : 2 ≤ N) : Glob w' := h.of hb.size (fun k hk => hb.block k (by omega))
theorem Glob.grown {w w' : World} {r : Option Nat} (h : Glob w) (hb : w.grownBy w' r) (hr : ∀ k, r = some k → 2 ≤ k) : Glob w' :=
  h.of hb.size (fun k hk => hb.block k (Nat.lt_of_lt_of_le hk h.lt) (fun e => by have := hr k e.symm; omega))

theorem blake_mix' (blk a b c d x y : Nat) (l : List Nat) (w0 w1 : World) (t : TypeId) (hM : MS t blk w0 l w1) (ha : a < 16) (hb : b < 16) (hc : c < 16) (hd : d < 16) {A B C D : Int} (hA : A = (a : Int)) (hB : B = (b : Int)) (hC : C = (c : Int)) (hD : D = (d : Int)) :
    Calls Tryd.prog 85 #[.pointer (some ⟨blk, 0, none⟩), .int .i64 A, .int .i64 B, .int .i64 C, .int .i64 D, .int .u64 x, .int .u64 y] w1 fun e w' => e = .returned (.tuple #[]) ∧ MS t blk w0 (mixL l a b c d x y) w' := by
  subst hA hB hC hD; exact blake_mix blk a b c d x y l w0 w1 t hM ha hb hc hd

/-- The frame of a round. -/
structure FR (w : World) (vb mb sb : Nat) (m s v : List Nat) (wr : World) : Prop where
  vx : WBox 121 vb v wr
  mx : WBox 121 mb m wr
  sx : BBox 127 sb s wr
  vl : v.length = 16
  ne : mb ≠ vb
  ns : sb ≠ vb
  old : w.grownBy wr (some vb)
theorem WBox.keep' {t : TypeId} {b : Nat} {l : List Nat} {w w' : World} (h : WBox t b l w) (hk : w'.heap[b]? = w.heap[b]?) : WBox t b l w' := ⟨hk.trans h.at_, h.small⟩
theorem FR.upd {w wr w' : World} {vb mb sb : Nat} {m s v v' : List Nat} (f : FR w vb mb sb m s v wr) (hu : Upd vb wr w') (hv : WBox 121 vb v' w') (hl : v'.length = 16) : FR w vb mb sb m s v' w' :=
  ⟨hv, f.mx.keep' (hu.block _ f.ne), ⟨(hu.block _ f.ns).trans f.sx.at_⟩, hl, f.ne, f.ns, ⟨hu.os.trans f.old.os, hu.tape.trans f.old.tape, hu.output.trans f.old.output, by have := f.old.size; rw [hu.size]; exact this, fun k hk hr => (hu.block k (fun e => hr (by rw [e]))).trans (f.old.block k hk hr)⟩⟩
theorem FR.ms {w wr : World} {vb mb sb : Nat} {m s v : List Nat} (f : FR w vb mb sb m s v wr) : MS 121 vb wr v wr.drew := ⟨⟨f.vx.at_, f.vx.small⟩, f.vl, (Upd.refl vb wr).drew⟩

set_option maxHeartbeats 8000000 in
set_option maxRecDepth 100000 in
theorem blake_round (vb mb row : Nat) (v m : List Nat) (w : World) (hG : Glob w) (hv : WBox 121 vb v w) (hm : WBox 121 mb m w) (hvl : v.length = 16) (hml : m.length = 16) (hrow : row < 10) (hne : mb ≠ vb) :
    Calls Tryd.prog 82 #[.pointer (some ⟨vb, 0, none⟩), .pointer (some ⟨mb, 0, none⟩), .int .i64 (row : Nat)] w fun e w' => e = .returned (.tuple #[]) ∧ WBox 121 vb (roundL m (orderL row) v) w' ∧ w.grownBy w' (some vb) := by
  have HML := Lib.hid hml
  have hrow' : (row : Int) < 10 := by omega
  have hvlt := hv.lt
  have hmlt := hm.lt

  have o0 := hG.ord row hrow 0 (by decide)
  have o1 := hG.ord row hrow 1 (by decide)
  have o2 := hG.ord row hrow 2 (by decide)
  have o3 := hG.ord row hrow 3 (by decide)
  have o4 := hG.ord row hrow 4 (by decide)
  have o5 := hG.ord row hrow 5 (by decide)
  have o6 := hG.ord row hrow 6 (by decide)
  have o7 := hG.ord row hrow 7 (by decide)
  have o8 := hG.ord row hrow 8 (by decide)
  have o9 := hG.ord row hrow 9 (by decide)
  have o10 := hG.ord row hrow 10 (by decide)
  have o11 := hG.ord row hrow 11 (by decide)
  have o12 := hG.ord row hrow 12 (by decide)
  have o13 := hG.ord row hrow 13 (by decide)
  have o14 := hG.ord row hrow 14 (by decide)
  have o15 := hG.ord row hrow 15 (by decide)
  simp only [Nat.add_zero] at o0
  have HV := Lib.hid hv
  have HM := Lib.hid hm
  have HVL := Lib.hid hvl
  have HNE := Lib.hid hne
  clear hG hv hm hml hvl hrow hne
  go_enter Tryd.func82, Tryd.ntmps82
  go_wp2

  obtain ⟨wS, hwS⟩ : ∃ wS, wS = w.alloc (.cells (Bs (orderL row)).toArray 127) := ⟨_, rfl⟩
  have hlit : (Bs (orderL row)).toArray = #[.int .u8 (gt (orderL row) 0 : Nat), .int .u8 (gt (orderL row) 1 : Nat), .int .u8 (gt (orderL row) 2 : Nat), .int .u8 (gt (orderL row) 3 : Nat), .int .u8 (gt (orderL row) 4 : Nat), .int .u8 (gt (orderL row) 5 : Nat), .int .u8 (gt (orderL row) 6 : Nat), .int .u8 (gt (orderL row) 7 : Nat), .int .u8 (gt (orderL row) 8 : Nat), .int .u8 (gt (orderL row) 9 : Nat), .int .u8 (gt (orderL row) 10 : Nat), .int .u8 (gt (orderL row) 11 : Nat), .int .u8 (gt (orderL row) 12 : Nat), .int .u8 (gt (orderL row) 13 : Nat), .int .u8 (gt (orderL row) 14 : Nat), .int .u8 (gt (orderL row) 15 : Nat)] := Bs16 _ (orderL_len row)
  rw [← hlit, ← hwS]
  have hF : FR w vb mb w.heap.size m (orderL row) v wS := by
    rw [hwS]
    exact ⟨HV.out.keep' (Below.heap_alloc _ _ _ hvlt), HM.out.keep' (Below.heap_alloc _ _ _ hmlt), ⟨heap_alloc_new w _⟩, HVL.out, HNE.out, by omega, ⟨rfl, rfl, rfl, by simp, fun k hk _ => Below.heap_alloc _ _ _ hk⟩⟩
  obtain ⟨sb, hsb⟩ : ∃ sb, sb = w.heap.size := ⟨_, rfl⟩
  rw [← hsb] at hF ⊢
  have HVC := Lib.hid hF
  clear hF hlit hwS hsb o0 o1 o2 o3 o4 o5 o6 o7 o8 o9 o10 o11 o12 o13 o14 o15 hvlt hmlt
  go_loopw [12] (fun k wr' => ∃ j : Nat, j ≤ 4 ∧ k = .int .i64 j ∧ FR w vb mb sb m (orderL row) (colL m (orderL row) j v) wr') (fun k _ => 4 - (intOf k).toNat)
  case atStart => exact ⟨0, by omega, rfl, HVC.out⟩
  case round =>
    obtain ⟨j, hj, rfl, hF⟩ := hrel
    by_cases hjl : j < 4
    · have hj4 : j = 0 ∨ j = 1 ∨ j = 2 ∨ j = 3 := by omega
      rcases hj4 with rfl | rfl | rfl | rfl
      · have la := orderL_lt row 0
        have lb := orderL_lt row 1
        have hstep : colL m (orderL row) 1 v = mixL (colL m (orderL row) 0 v) 0 4 8 12 (gt m (gt (orderL row) 0)) (gt m (gt (orderL row) 1)) := rfl
        have csa := hF.sx.cell (i := 0) (by rw [orderL_len]; decide)
        have csb := hF.sx.cell (i := 1) (by rw [orderL_len]; decide)
        obtain ⟨ia, hia⟩ : ∃ ia, ia = gt (orderL row) 0 := ⟨_, rfl⟩
        obtain ⟨ib, hib⟩ : ∃ ib, ib = gt (orderL row) 1 := ⟨_, rfl⟩
        rw [← hia] at la hstep csa
        rw [← hib] at lb hstep csb
        obtain ⟨u, hu⟩ : ∃ u, u = colL m (orderL row) 0 v := ⟨_, rfl⟩
        rw [← hu] at hF hstep
        have cma := hF.mx.cell (i := ia) (by rw [HML.out]; exact la)
        have cmb := hF.mx.cell (i := ib) (by rw [HML.out]; exact lb)
        have la' : (ia : Int) < 16 := by omega
        have lb' : (ib : Int) < 16 := by omega
        have w1 : IntKind.i64.wrap 0 = 0 := by decide
        have w2 : IntKind.i64.wrap 0 = 0 := by decide
        have w3 : IntKind.i64.wrap 1 = 1 := by decide
        have HF := Lib.hid hF
        have HST := Lib.hid hstep
        clear hF hstep hu hia hib la lb
        go_wp2
        go_still_tail 25, (by kernel_rfl)
        change wpList _ _ _ _ _ wr.drew
        clear cma cmb csa csb
        go_wp2_with (first | (go_at_call 85; refine (blake_mix' vb 0 4 8 12 (gt m ia) (gt m ib) u wr wr.drew 121 HF.out.ms (by omega) (by omega) (by omega) (by omega) rfl rfl rfl rfl).mono ?_; rintro e wM ⟨rfl, hM⟩) | fail)
        refine ⟨⟨1, by omega, by go_num, ?_⟩, by simp [intOf]⟩
        rw [HST.out]
        exact HF.out.upd hM.upd hM.box hM.len
      · have la := orderL_lt row 2
        have lb := orderL_lt row 3
        have hstep : colL m (orderL row) 2 v = mixL (colL m (orderL row) 1 v) 1 5 9 13 (gt m (gt (orderL row) 2)) (gt m (gt (orderL row) 3)) := rfl
        have csa := hF.sx.cell (i := 2) (by rw [orderL_len]; decide)
        have csb := hF.sx.cell (i := 3) (by rw [orderL_len]; decide)
        obtain ⟨ia, hia⟩ : ∃ ia, ia = gt (orderL row) 2 := ⟨_, rfl⟩
        obtain ⟨ib, hib⟩ : ∃ ib, ib = gt (orderL row) 3 := ⟨_, rfl⟩
        rw [← hia] at la hstep csa
        rw [← hib] at lb hstep csb
        obtain ⟨u, hu⟩ : ∃ u, u = colL m (orderL row) 1 v := ⟨_, rfl⟩
        rw [← hu] at hF hstep
        have cma := hF.mx.cell (i := ia) (by rw [HML.out]; exact la)
        have cmb := hF.mx.cell (i := ib) (by rw [HML.out]; exact lb)
        have la' : (ia : Int) < 16 := by omega
        have lb' : (ib : Int) < 16 := by omega
        have w1 : IntKind.i64.wrap 2 = 2 := by decide
        have w2 : IntKind.i64.wrap 2 = 2 := by decide
        have w3 : IntKind.i64.wrap 3 = 3 := by decide
        have HF := Lib.hid hF
        have HST := Lib.hid hstep
        clear hF hstep hu hia hib la lb
        go_wp2
        go_still_tail 25, (by kernel_rfl)
        change wpList _ _ _ _ _ wr.drew
        clear cma cmb csa csb
        go_wp2_with (first | (go_at_call 85; refine (blake_mix' vb 1 5 9 13 (gt m ia) (gt m ib) u wr wr.drew 121 HF.out.ms (by omega) (by omega) (by omega) (by omega) rfl rfl rfl rfl).mono ?_; rintro e wM ⟨rfl, hM⟩) | fail)
        refine ⟨⟨2, by omega, by go_num, ?_⟩, by simp [intOf]⟩
        rw [HST.out]
        exact HF.out.upd hM.upd hM.box hM.len
      · have la := orderL_lt row 4
        have lb := orderL_lt row 5
        have hstep : colL m (orderL row) 3 v = mixL (colL m (orderL row) 2 v) 2 6 10 14 (gt m (gt (orderL row) 4)) (gt m (gt (orderL row) 5)) := rfl
        have csa := hF.sx.cell (i := 4) (by rw [orderL_len]; decide)
        have csb := hF.sx.cell (i := 5) (by rw [orderL_len]; decide)
        obtain ⟨ia, hia⟩ : ∃ ia, ia = gt (orderL row) 4 := ⟨_, rfl⟩
        obtain ⟨ib, hib⟩ : ∃ ib, ib = gt (orderL row) 5 := ⟨_, rfl⟩
        rw [← hia] at la hstep csa
        rw [← hib] at lb hstep csb
        obtain ⟨u, hu⟩ : ∃ u, u = colL m (orderL row) 2 v := ⟨_, rfl⟩
        rw [← hu] at hF hstep
        have cma := hF.mx.cell (i := ia) (by rw [HML.out]; exact la)
        have cmb := hF.mx.cell (i := ib) (by rw [HML.out]; exact lb)
        have la' : (ia : Int) < 16 := by omega
        have lb' : (ib : Int) < 16 := by omega
        have w1 : IntKind.i64.wrap 4 = 4 := by decide
        have w2 : IntKind.i64.wrap 4 = 4 := by decide
        have w3 : IntKind.i64.wrap 5 = 5 := by decide
        have HF := Lib.hid hF
        have HST := Lib.hid hstep
        clear hF hstep hu hia hib la lb
        go_wp2
        go_still_tail 25, (by kernel_rfl)
        change wpList _ _ _ _ _ wr.drew
        clear cma cmb csa csb
        go_wp2_with (first | (go_at_call 85; refine (blake_mix' vb 2 6 10 14 (gt m ia) (gt m ib) u wr wr.drew 121 HF.out.ms (by omega) (by omega) (by omega) (by omega) rfl rfl rfl rfl).mono ?_; rintro e wM ⟨rfl, hM⟩) | fail)
        refine ⟨⟨3, by omega, by go_num, ?_⟩, by simp [intOf]⟩
        rw [HST.out]
        exact HF.out.upd hM.upd hM.box hM.len
      · have la := orderL_lt row 6
        have lb := orderL_lt row 7
        have hstep : colL m (orderL row) 4 v = mixL (colL m (orderL row) 3 v) 3 7 11 15 (gt m (gt (orderL row) 6)) (gt m (gt (orderL row) 7)) := rfl
        have csa := hF.sx.cell (i := 6) (by rw [orderL_len]; decide)
        have csb := hF.sx.cell (i := 7) (by rw [orderL_len]; decide)
        obtain ⟨ia, hia⟩ : ∃ ia, ia = gt (orderL row) 6 := ⟨_, rfl⟩
        obtain ⟨ib, hib⟩ : ∃ ib, ib = gt (orderL row) 7 := ⟨_, rfl⟩
        rw [← hia] at la hstep csa
        rw [← hib] at lb hstep csb
        obtain ⟨u, hu⟩ : ∃ u, u = colL m (orderL row) 3 v := ⟨_, rfl⟩
        rw [← hu] at hF hstep
        have cma := hF.mx.cell (i := ia) (by rw [HML.out]; exact la)
        have cmb := hF.mx.cell (i := ib) (by rw [HML.out]; exact lb)
        have la' : (ia : Int) < 16 := by omega
        have lb' : (ib : Int) < 16 := by omega
        have w1 : IntKind.i64.wrap 6 = 6 := by decide
        have w2 : IntKind.i64.wrap 6 = 6 := by decide
        have w3 : IntKind.i64.wrap 7 = 7 := by decide
        have HF := Lib.hid hF
        have HST := Lib.hid hstep
        clear hF hstep hu hia hib la lb
        go_wp2
        go_still_tail 25, (by kernel_rfl)
        change wpList _ _ _ _ _ wr.drew
        clear cma cmb csa csb
        go_wp2_with (first | (go_at_call 85; refine (blake_mix' vb 3 7 11 15 (gt m ia) (gt m ib) u wr wr.drew 121 HF.out.ms (by omega) (by omega) (by omega) (by omega) rfl rfl rfl rfl).mono ?_; rintro e wM ⟨rfl, hM⟩) | fail)
        refine ⟨⟨4, by omega, by go_num, ?_⟩, by simp [intOf]⟩
        rw [HST.out]
        exact HF.out.upd hM.upd hM.box hM.len
    · have hj4 : j = 4 := by omega
      subst hj4
      rw [show ((4 : Nat) : Int) = 4 from rfl]
      obtain ⟨c4, hc4⟩ : ∃ c4, c4 = colL m (orderL row) 4 v := ⟨_, rfl⟩
      rw [← hc4] at hF
      have HC4 := Lib.hid hc4
      have HVD := Lib.hid hF
      clear hF hc4
      go_wp2
      go_loopw [42] (fun k wr' => ∃ j : Nat, j ≤ 4 ∧ k = .int .i64 j ∧ FR w vb mb sb m (orderL row) (diaL m (orderL row) j c4) wr') (fun k _ => 4 - (intOf k).toNat)
      case atStart => exact ⟨0, by omega, rfl, HVD.out⟩
      case round =>
        obtain ⟨j, hj, rfl, hF⟩ := hrel
        by_cases hjl : j < 4
        · have hj4 : j = 0 ∨ j = 1 ∨ j = 2 ∨ j = 3 := by omega
          rcases hj4 with rfl | rfl | rfl | rfl
          · have la := orderL_lt row 8
            have lb := orderL_lt row 9
            have hstep : diaL m (orderL row) 1 c4 = mixL (diaL m (orderL row) 0 c4) 0 5 10 15 (gt m (gt (orderL row) 8)) (gt m (gt (orderL row) 9)) := rfl
            have csa := hF.sx.cell (i := 8) (by rw [orderL_len]; decide)
            have csb := hF.sx.cell (i := 9) (by rw [orderL_len]; decide)
            obtain ⟨ia, hia⟩ : ∃ ia, ia = gt (orderL row) 8 := ⟨_, rfl⟩
            obtain ⟨ib, hib⟩ : ∃ ib, ib = gt (orderL row) 9 := ⟨_, rfl⟩
            rw [← hia] at la hstep csa
            rw [← hib] at lb hstep csb
            obtain ⟨u, hu⟩ : ∃ u, u = diaL m (orderL row) 0 c4 := ⟨_, rfl⟩
            rw [← hu] at hF hstep
            have cma := hF.mx.cell (i := ia) (by rw [HML.out]; exact la)
            have cmb := hF.mx.cell (i := ib) (by rw [HML.out]; exact lb)
            have la' : (ia : Int) < 16 := by omega
            have lb' : (ib : Int) < 16 := by omega
            have w1 : IntKind.i64.wrap 0 = 0 := by decide
            have w2 : IntKind.i64.wrap 8 = 8 := by decide
            have w3 : IntKind.i64.wrap 9 = 9 := by decide
            have HF := Lib.hid hF
            have HST := Lib.hid hstep
            clear hF hstep hu hia hib la lb
            go_wp2
            go_still_tail 32, (by kernel_rfl)
            change wpList _ _ _ _ _ wr.drew
            clear cma cmb csa csb
            go_wp2_with (first | (go_at_call 85; refine (blake_mix' vb 0 5 10 15 (gt m ia) (gt m ib) u wr wr.drew 121 HF.out.ms (by omega) (by omega) (by omega) (by omega) rfl rfl rfl rfl).mono ?_; rintro e wM ⟨rfl, hM⟩) | fail)
            refine ⟨⟨1, by omega, by go_num, ?_⟩, by simp [intOf]⟩
            rw [HST.out]
            exact HF.out.upd hM.upd hM.box hM.len
          · have la := orderL_lt row 10
            have lb := orderL_lt row 11
            have hstep : diaL m (orderL row) 2 c4 = mixL (diaL m (orderL row) 1 c4) 1 6 11 12 (gt m (gt (orderL row) 10)) (gt m (gt (orderL row) 11)) := rfl
            have csa := hF.sx.cell (i := 10) (by rw [orderL_len]; decide)
            have csb := hF.sx.cell (i := 11) (by rw [orderL_len]; decide)
            obtain ⟨ia, hia⟩ : ∃ ia, ia = gt (orderL row) 10 := ⟨_, rfl⟩
            obtain ⟨ib, hib⟩ : ∃ ib, ib = gt (orderL row) 11 := ⟨_, rfl⟩
            rw [← hia] at la hstep csa
            rw [← hib] at lb hstep csb
            obtain ⟨u, hu⟩ : ∃ u, u = diaL m (orderL row) 1 c4 := ⟨_, rfl⟩
            rw [← hu] at hF hstep
            have cma := hF.mx.cell (i := ia) (by rw [HML.out]; exact la)
            have cmb := hF.mx.cell (i := ib) (by rw [HML.out]; exact lb)
            have la' : (ia : Int) < 16 := by omega
            have lb' : (ib : Int) < 16 := by omega
            have w1 : IntKind.i64.wrap 2 = 2 := by decide
            have w2 : IntKind.i64.wrap 10 = 10 := by decide
            have w3 : IntKind.i64.wrap 11 = 11 := by decide
            have HF := Lib.hid hF
            have HST := Lib.hid hstep
            clear hF hstep hu hia hib la lb
            go_wp2
            go_still_tail 32, (by kernel_rfl)
            change wpList _ _ _ _ _ wr.drew
            clear cma cmb csa csb
            go_wp2_with (first | (go_at_call 85; refine (blake_mix' vb 1 6 11 12 (gt m ia) (gt m ib) u wr wr.drew 121 HF.out.ms (by omega) (by omega) (by omega) (by omega) rfl rfl rfl rfl).mono ?_; rintro e wM ⟨rfl, hM⟩) | fail)
            refine ⟨⟨2, by omega, by go_num, ?_⟩, by simp [intOf]⟩
            rw [HST.out]
            exact HF.out.upd hM.upd hM.box hM.len
          · have la := orderL_lt row 12
            have lb := orderL_lt row 13
            have hstep : diaL m (orderL row) 3 c4 = mixL (diaL m (orderL row) 2 c4) 2 7 8 13 (gt m (gt (orderL row) 12)) (gt m (gt (orderL row) 13)) := rfl
            have csa := hF.sx.cell (i := 12) (by rw [orderL_len]; decide)
            have csb := hF.sx.cell (i := 13) (by rw [orderL_len]; decide)
            obtain ⟨ia, hia⟩ : ∃ ia, ia = gt (orderL row) 12 := ⟨_, rfl⟩
            obtain ⟨ib, hib⟩ : ∃ ib, ib = gt (orderL row) 13 := ⟨_, rfl⟩
            rw [← hia] at la hstep csa
            rw [← hib] at lb hstep csb
            obtain ⟨u, hu⟩ : ∃ u, u = diaL m (orderL row) 2 c4 := ⟨_, rfl⟩
            rw [← hu] at hF hstep
            have cma := hF.mx.cell (i := ia) (by rw [HML.out]; exact la)
            have cmb := hF.mx.cell (i := ib) (by rw [HML.out]; exact lb)
            have la' : (ia : Int) < 16 := by omega
            have lb' : (ib : Int) < 16 := by omega
            have w1 : IntKind.i64.wrap 4 = 4 := by decide
            have w2 : IntKind.i64.wrap 12 = 12 := by decide
            have w3 : IntKind.i64.wrap 13 = 13 := by decide
            have HF := Lib.hid hF
            have HST := Lib.hid hstep
            clear hF hstep hu hia hib la lb
            go_wp2
            go_still_tail 32, (by kernel_rfl)
            change wpList _ _ _ _ _ wr.drew
            clear cma cmb csa csb
            go_wp2_with (first | (go_at_call 85; refine (blake_mix' vb 2 7 8 13 (gt m ia) (gt m ib) u wr wr.drew 121 HF.out.ms (by omega) (by omega) (by omega) (by omega) rfl rfl rfl rfl).mono ?_; rintro e wM ⟨rfl, hM⟩) | fail)
            refine ⟨⟨3, by omega, by go_num, ?_⟩, by simp [intOf]⟩
            rw [HST.out]
            exact HF.out.upd hM.upd hM.box hM.len
          · have la := orderL_lt row 14
            have lb := orderL_lt row 15
            have hstep : diaL m (orderL row) 4 c4 = mixL (diaL m (orderL row) 3 c4) 3 4 9 14 (gt m (gt (orderL row) 14)) (gt m (gt (orderL row) 15)) := rfl
            have csa := hF.sx.cell (i := 14) (by rw [orderL_len]; decide)
            have csb := hF.sx.cell (i := 15) (by rw [orderL_len]; decide)
            obtain ⟨ia, hia⟩ : ∃ ia, ia = gt (orderL row) 14 := ⟨_, rfl⟩
            obtain ⟨ib, hib⟩ : ∃ ib, ib = gt (orderL row) 15 := ⟨_, rfl⟩
            rw [← hia] at la hstep csa
            rw [← hib] at lb hstep csb
            obtain ⟨u, hu⟩ : ∃ u, u = diaL m (orderL row) 3 c4 := ⟨_, rfl⟩
            rw [← hu] at hF hstep
            have cma := hF.mx.cell (i := ia) (by rw [HML.out]; exact la)
            have cmb := hF.mx.cell (i := ib) (by rw [HML.out]; exact lb)
            have la' : (ia : Int) < 16 := by omega
            have lb' : (ib : Int) < 16 := by omega
            have w1 : IntKind.i64.wrap 6 = 6 := by decide
            have w2 : IntKind.i64.wrap 14 = 14 := by decide
            have w3 : IntKind.i64.wrap 15 = 15 := by decide
            have HF := Lib.hid hF
            have HST := Lib.hid hstep
            clear hF hstep hu hia hib la lb
            go_wp2
            go_still_tail 32, (by kernel_rfl)
            change wpList _ _ _ _ _ wr.drew
            clear cma cmb csa csb
            go_wp2_with (first | (go_at_call 85; refine (blake_mix' vb 3 4 9 14 (gt m ia) (gt m ib) u wr wr.drew 121 HF.out.ms (by omega) (by omega) (by omega) (by omega) rfl rfl rfl rfl).mono ?_; rintro e wM ⟨rfl, hM⟩) | fail)
            refine ⟨⟨4, by omega, by go_num, ?_⟩, by simp [intOf]⟩
            rw [HST.out]
            exact HF.out.upd hM.upd hM.box hM.len
        · have hj4 : j = 4 := by omega
          subst hj4
          rw [show ((4 : Nat) : Int) = 4 from rfl]
          have HF := Lib.hid hF
          clear hF
          go_wp2
          refine bodyPost_end (v := .tuple #[]) (by simp [results, Tryd.results82, go_sem]) rfl ⟨rfl, ?_, HF.out.old⟩
          have := HF.out.vx
          rw [HC4.out] at this
          exact this
end Go.Proofs.YtbndegkgpoemnaaDoor
