/-
  Joined texts.
-/
import Derived.StillTailTactics
import Derived.Laws.MakeOwn
import Derived.BigRegion
import Derived.RegionTactic
import Derived.Deep.QuietTactic
import Derived.BigQuiet
import Derived.Deep.RegionHeld3
import Derived.Test.YtbpemdihoabbcaaGreatMhk
namespace Go.Proofs.YtbpemdihoabbcaaGreat
set_option linter.unusedVariables false
set_option linter.unusedSimpArgs false
set_option maxRecDepth 100000
set_option maxHeartbeats 8000000
section
open Go.RowKit Go.Maps
structure LkB (w : World) (bo : Nat) (x : Int × Int) (v : Value) (acc : List (Int × Int)) (W : World) : Prop where
 own : OwnR lockP w.heap.size v acc W
 old : Below w.heap.size w W
 box : W.heap[bo]? = some (.cells #[.int .i64 x.1, .int .i64 x.2] 154 (0, 0))
 nbo : v.ownBlock ≠ some bo
 lo : w.heap.size ≤ bo
def upd' (vs : Nat → Value) (k : Nat) (v : Value) : Nat → Value := fun i => if i = k then v else vs i
theorem cell_ltR {w : World} {b o : Nat} {v : Value} (h : w.cell? ⟨b, o, none⟩ = some v) : b < w.heap.size := by
 cases Nat.lt_or_ge b w.heap.size with
 | inl h' => exact h'
 | inr h' => rw [World.cell?, Array.getElem?_eq_none h'] at h; cases h
section
variable {w W w4 : World} {bo : Nat} {x y : Int × Int} {v v' : Value} {acc : List (Int × Int)}
theorem LkB.lt (h : LkB w bo x v acc W) : bo < W.heap.size := (Array.getElem?_eq_some_iff.1 h.box).1
theorem LkB.range (h : LkB w bo x v acc W) : W.rangeAt bo 0 (lockP.f x) := rangeAt_whole (T := 154) h.box
theorem LkB.cells (h : LkB w bo x v acc W) : W.cell? ⟨bo, 0, none⟩ = some (.int .i64 x.1) ∧ W.cell? ⟨bo, 1, none⟩ = some (.int .i64 x.2) := ⟨by rw [World.cell?, h.box]; rfl, by rw [World.cell?, h.box]; rfl⟩
theorem LkB.lit (h : LkB w bo x v acc W) (y : Int × Int) : OwnR lockP w.heap.size v acc (W.alloc (.cells (lockP.f y).toArray 154)) := h.own.of (Nat.le_refl _) (fun k hk => Below.heap_alloc _ _ _ (h.own.block hk).2)
theorem LkB.app (h : LkB w bo x v acc W) (hO : OwnR lockP w.heap.size v' (acc ++ [y]) w4) (hg : (W.alloc (.cells (lockP.f y).toArray 154)).grownBy w4 v.ownBlock) (hat : v'.ownBlock = v.ownBlock ∨ v'.ownBlock = some (W.alloc (.cells (lockP.f y).toArray 154)).heap.size) : LkB w bo x v' (acc ++ [y]) w4 := by
 have hl := h.lt
 refine ⟨hO, Below.grown (h.old.alloc h.old.size _) hg (by have := h.old.size; rw [World.size_alloc]; omega) (fun j hj => (h.own.block hj).1), ?_, ?_, h.lo⟩
 · rw [hg.block bo (by rw [World.size_alloc]; omega) (fun e => h.nbo e.symm), Below.heap_alloc _ _ _ hl]
   exact h.box
 · rcases hat with e | e
   · rw [e]; exact h.nbo
   · rw [e]; intro q; injection q with q; rw [World.size_alloc] at q; omega
end
theorem lkAll_len (i n : Int) (l0 : Bool) (xs : List (Int × Int)) : (lkAll i n l0 xs).1.length ≤ 2 * xs.length := by
 refine snocInd (P := fun xs => (lkAll i n l0 xs).1.length ≤ 2 * xs.length) (by simp [lkAll]) (fun xs o ih => ?_) xs
 rw [lkAll_snoc]
 unfold lkStep
 split <;> split <;> simp <;> omega
section
variable {y ab : Nat} {F : FP} {A : Acc} {M : Cls Int} {w : World}
theorem lock_row (hs : SrtC M) {a b : Int} (i n : Int) (h : b ≠ a) : rowOf (lockM M a i n) b = rowOf M b := by
 unfold lockM
 split
 · rfl
 · split
   · rw [hs.row_del, if_neg h]
   · rw [hs.row_put, if_neg h]
theorem lock_srt (hs : SrtC M) (a i n : Int) : SrtC (lockM M a i n) := by
 unfold lockM
 split
 · exact hs
 · split
   · exact hs.del _ _
   · exact hs.put _ _ _
theorem lock_keys (hs : ∀ x ∈ M, isAcc x.1.1) {a : Int} (ha : isAcc a) (i n : Int) : ∀ x ∈ lockM M a i n, isAcc x.1.1 := by
 unfold lockM
 split
 · exact hs
 · split
   · exact fun x hx => hs x (mem_cdel.1 hx).1
   · intro x hx
     rcases mem_cput.1 hx with rfl | ⟨hx, -⟩
     · exact ha
     · exact hs x hx
theorem RlAt.lay (h : RlAt y ab F A M w) {k : Nat} (hk : k < 10) {i n : Int} {v : Value} {W : World} (hb : Below w.heap.size w W) (hO : OwnR lockP w.heap.size v (rowOf (lockM M k i n) k) W) : RlTo y ab F A (lockM M k i n) w (W.setCell ⟨ab, k * 3 + 2, none⟩ v) := by
 obtain ⟨vs, C, h1, h2, h3, h4, h5, h6, h7, h8, h9, h10⟩ := h
 have hyl := h8 y h5
 have hal := h8 ab h6
 have hs := hb.size
 have ho : ∀ q, q ≠ ab → (W.setCell ⟨ab, k * 3 + 2, none⟩ v).heap[q]? = W.heap[q]? := fun q hq => Below.heap_setCell _ _ _ q hq
 have hz : (W.setCell ⟨ab, k * 3 + 2, none⟩ v).heap.size = W.heap.size := by simp [World.setCell]
 have hvb : ∀ b, v.ownBlock = some b → w.heap.size ≤ b ∧ b < W.heap.size := fun b e => hO.block e
 refine ⟨fun q => F q ∨ v.ownBlock = some q, ⟨upd' vs k v, C.setIfInBounds (k * 3 + 2) v, ?_, ?_, ?_, fun j hj => ?_, .inl h5, .inl h6, h7, fun q hq => ?_, lock_keys h9 (by unfold isAcc; omega) i n, lock_srt h10 _ i n⟩, fun q hq => hq.imp id (fun e => (hvb q e).1), ⟨hb.os, hb.tape, hb.output, by omega⟩, fun q hq q1 q2 => ?_⟩
 · rw [ho y h7, hb.block y hyl]; exact h1
 · simp [World.setCell, Array.getElem?_modify, hb.block ab hal, h2]
 · obtain ⟨c1, c2⟩ := h3
   refine ⟨by simpa using c1, fun j hj => ?_⟩
   obtain ⟨d0, d1, d2⟩ := c2 j hj
   by_cases e : j = k
   · subst e
     rw [Array.getElem?_setIfInBounds_ne (by omega), Array.getElem?_setIfInBounds_ne (by omega), Array.getElem?_setIfInBounds_self_of_lt (by omega)]
     exact ⟨d0, d1, by simp [upd']⟩
   · rw [Array.getElem?_setIfInBounds_ne (by omega), Array.getElem?_setIfInBounds_ne (by omega), Array.getElem?_setIfInBounds_ne (by omega)]
     exact ⟨d0, d1, by simp [upd', e, d2]⟩
 · by_cases e : j = k
   · subst e
     simp only [upd', if_pos]
     exact ⟨hO.reads.keep (by omega) (fun b hb2 => ho b (by have := hvb b hb2; omega)), fun b hb2 => ⟨.inr hb2, by have := hvb b hb2; omega, by have := hvb b hb2; omega⟩⟩
   · simp only [upd', if_neg e]
     obtain ⟨r1, r2⟩ := h4 j hj
     rw [lock_row h10 i n (show (j : Int) ≠ k by omega)]
     exact ⟨r1.keep (by omega) (fun b hb2 => by rw [ho b (r2 b hb2).2.2]; exact hb.block b (h8 b (r2 b hb2).1)), fun b hb2 => ⟨.inl (r2 b hb2).1, (r2 b hb2).2⟩⟩
 · rcases hq with hq | hq
   · have := h8 q hq; omega
   · have := hvb q hq; omega
 · rw [ho q (fun e => q1 (e ▸ h6))]
   exact hb.block q hq
theorem ref6_Lock (h : RlAt y ab F A M w) {a : Int} (i n : Int) (hlen : (rowOf M a).length ≤ 100000) : Calls Tryz.prog 98 #[.pointer (some ⟨y, 0, none⟩), .int .i64 a, .int .i64 i, .int .i64 n] w fun e w' => e = .returned (.tuple #[]) ∧ RlTo y ab F A (lockM M a i n) w w' := by
 by_cases ha : isAcc a
 · obtain ⟨k, rfl⟩ : ∃ k : Nat, a = k := ⟨a.toNat, by have := ha.1; omega⟩
   have hk : k < 10 := by have := ha.2; omega
   have hk' : (k : Int) < 10 := ha.2
   have hI := ref6_Is (k : Int) w
   rw [decide_eq_true (show 0 ≤ (k : Int) ∧ (k : Int) < 10 from ha)] at hI
   have HI := Lib.hid hI
   obtain ⟨l0, hl0⟩ : ∃ l0, l0 = decide (n = 0 ∨ ¬ isBal n) := ⟨_, rfl⟩
   have hrow := lk_row h.srt ha i n
   rw [← hl0] at hrow
   obtain ⟨v, c, c0, c1, c2, hrd, fz⟩ := h.cells hk
   obtain ⟨ao, cap, rfl⟩ := hrd.lenOf
   obtain ⟨xs, hxs⟩ : ∃ xs, xs = rowOf M k := ⟨_, rfl⟩
   rw [← hxs] at hrd hlen c2 hrow
   obtain ⟨L, hL⟩ : ∃ L, L = xs.length := ⟨_, rfl⟩
   rw [← hL] at hlen c2 hrd
   have HRD := Lib.hid (And.intro hrd hL)
   have HROW := Lib.hid hrow
   have HH := Lib.hid (And.intro h (And.intro hk ha))
   have hlaid : (n ≤ 0 ∧ l0 = true) ∨ (¬ n ≤ 0 ∧ n > 1073741824 ∧ l0 = true) ∨ (¬ n ≤ 0 ∧ ¬ n > 1073741824 ∧ l0 = false) := by
    unfold isBal at hl0
    by_cases q1 : n ≤ 0
    · exact .inl ⟨q1, by rw [hl0]; exact decide_eq_true (by omega)⟩
    · by_cases q2 : n > 1073741824
      · exact .inr (.inl ⟨q1, q2, by rw [hl0]; exact decide_eq_true (by omega)⟩)
      · exact .inr (.inr ⟨q1, q2, by rw [hl0]; exact decide_eq_false (by omega)⟩)
   have HLD := Lib.hid hlaid
   clear hI h ha hl0 hrow hrd hxs hL hlaid c0 c1
   go_enter Tryz.func98, Tryz.ntmps98
   go_upto_region 2 with (first
    | (go_at_call 88; refine HI.out.mono ?_; rintro e w' ⟨rfl, hw⟩; rw [hw]; clear hw w')
    | fail)
   go_cut [9] (fun v wx => v = .bool l0 ∧ wx = w)
   case first =>
    rcases HLD.out with ⟨q1, q⟩ | ⟨q1, q2, q⟩ | ⟨q1, q2, q⟩
    all_goals
     have HQ := Lib.hid q
     clear q
     go_wp2_with fail
     go_meet
     exact ⟨by first | (rw [HQ.out]; done) | (rw [HQ.out]; simp <;> omega), rfl⟩
   case rest =>
    obtain ⟨rfl, hwx⟩ := hcut
    rw [hwx]
    clear hwx
    go_wp2_with fail
    go_loopw [8, 9, 10] (fun x ld ix wr => ∃ j : Nat, j ≤ L ∧ ix = .int .i64 j ∧ ld = .bool (lkAll i n l0 (xs.take j)).2 ∧ OwnR lockP w.heap.size x (lkAll i n l0 (xs.take j)).1 wr ∧ Below w.heap.size w wr) (fun _ _ ix _ => L - (intOf ix).toNat)
    case atStart => exact ⟨0, by omega, rfl, rfl, OwnR.nil _ _, Below.refl _ _⟩
    case round =>
     obtain ⟨j, hj, rfl, rfl, how, hb⟩ := hrel
     by_cases hlt : j < L
     · have g1 : (j : Int) < L := by omega
       obtain ⟨b, off, rfl, hr, hbk⟩ := HRD.out.1.at (show j < xs.length by rw [← HRD.out.2]; exact hlt)
       obtain ⟨x, hx⟩ : ∃ x, x = xs[j]'(by rw [← HRD.out.2]; exact hlt) := ⟨_, rfl⟩
       rw [← hx] at hr
       have hst : lkAll i n l0 (xs.take (j + 1)) = lkStep i n (lkAll i n l0 (xs.take j)) x := by
        rw [← lkAll_snoc, hx]
        congr 1
        exact (take_snoc (by rw [← HRD.out.2]; exact hlt)).symm
       have hln := lkAll_len i n l0 (xs.take j)
       rw [List.length_take] at hln
       have hyl : y < w.heap.size := cell_ltR c
       have hal : ab < w.heap.size := cell_ltR c2
       have d : wr.cell? ⟨y, 0, none⟩ = some (.slice (some ⟨ab, 0, none⟩) 10 10) := (World.cell?_of_block (a := ⟨y, 0, none⟩) (hb.block y hyl)).trans c
       have d2 : wr.cell? ⟨ab, k * 3 + 2, none⟩ = some (.slice (some ⟨b, off, none⟩) L cap) := (World.cell?_of_block (a := ⟨ab, k * 3 + 2, none⟩) (hb.block ab hal)).trans c2
       have HRR := Lib.hid (rangeAt_block hr (hb.block b hbk))
       obtain ⟨⟨acc, ld⟩, hacc⟩ : ∃ st, st = lkAll i n l0 (xs.take j) := ⟨_, rfl⟩
       rw [← hacc] at hst how hln ⊢
       obtain ⟨oi, on⟩ := x
       obtain ⟨xo, xc, hxo⟩ := (show OwnR lockP w.heap.size _ acc wr from how).lenOf
       subst hxo
       replace how : OwnR lockP w.heap.size (.slice xo acc.length xc) acc wr := how
       replace hln : acc.length ≤ 2 * min j xs.length := hln
       have HLEN := Lib.hid (show acc.length ≤ 500000 by omega)
       obtain ⟨bo, hbo⟩ : ∃ bo, bo = wr.heap.size := ⟨_, rfl⟩
       obtain ⟨W1, hW1⟩ : ∃ W1, W1 = wr.alloc (.cells #[.int .i64 oi, .int .i64 on] 154) := ⟨_, rfl⟩
       have hL1 : LkB w bo (oi, on) (.slice xo acc.length xc) acc W1 := by
        have hs := hb.size
        refine ⟨how.of (Nat.le_refl _) (fun q hq => ?_), ?_, ?_, fun e => ?_, by omega⟩
        · rw [hW1]; exact Below.heap_alloc _ _ _ (how.block hq).2
        · rw [hW1]; exact hb.alloc hb.size _
        · rw [hW1, hbo]; exact World.alloc_heap_new _ _
        · have := (how.block e).2; omega
       have HL1 := Lib.hid hL1
       have HST := Lib.hid hst
       have WK : IntKind.i64.wrap ((j : Int) + 1) = ((j + 1 : Nat) : Int) := by rw [IntWalk.i64_in _ (by omega)]; omega
       have HJ := Lib.hid hlt
       clear hst hln hacc how hr hx hyl hal hb hL1
       go_upto_region 7 with (first
        | (refine wpl_loadR (r := lockP) (t := (oi, on)) (b := b) (k := off + j * 2) _ rfl rfl rfl HRR.out ?_; dsimp only [lockP, lkL])
        | fail)
       rw [← hW1, ← hbo]
       clear hW1 hbo
       obtain ⟨e0, e1⟩ := HL1.out.cells
       replace e0 : W1.cell? ⟨bo, 0, none⟩ = some (.int .i64 oi) := e0
       by_cases q : oi = i
       · have f2 : (oi != i) = false := by simp [q]
         have f3 : oi ≥ i := by omega
         cases ld with
         | false =>
          have HSS := Lib.hid (show lkStep i n (acc, false) (oi, on) = (acc ++ [(i, n)], true) by unfold lkStep; rw [if_pos q, if_pos ⟨rfl, f3⟩])
          clear q
          go_wp2_with (first
           | (at_builtin; refine wpl_appR (r := lockP) (B := w.heap.size) (ub := W1.heap.size) (xs := acc) (y := (i, n)) rfl rfl rfl rfl (HL1.out.lit (i, n)) (rangeAt_whole (T := 154) (World.alloc_heap_new _ _)) (by have := HLEN.out; omega) (by have h1 := HL1.out.old.size; rw [World.size_alloc]; omega) ?_; intro v4 w4 hO hg hat hne; have HL4 := Lib.hid (LkB.app HL1.out hO hg hat); have e4 := HL4.out.cells.1; clear hO hg hat hne)
           | fail)
          go_roundw
          case rel =>
           have e := HST.out.trans HSS.out
           exact ⟨j + 1, by have := HJ.out; omega, by first | rfl | exact congrArg _ WK | go_num, by rw [e], by rw [e]; exact HL4.out.own, HL4.out.old⟩
          case measure => have := HJ.out; simp [intOf]; omega
         | true =>
          have HSS := Lib.hid (show lkStep i n (acc, true) (oi, on) = (acc, true) by unfold lkStep; rw [if_pos q, if_neg (fun x => by cases x.1)])
          clear q
          go_wp2_with fail
          go_roundw
          case rel =>
           have e := HST.out.trans HSS.out
           exact ⟨j + 1, by have := HJ.out; omega, by first | rfl | exact congrArg _ WK | go_num, by rw [e], by rw [e]; exact HL1.out.own, HL1.out.old⟩
          case measure => have := HJ.out; simp [intOf]; omega
       · have f2 : (oi != i) = true := by simpa using q
         cases ld with
         | false =>
          by_cases q2 : i ≤ oi
          · have f3 : oi ≥ i := q2
            have HSS := Lib.hid (show lkStep i n (acc, false) (oi, on) = (acc ++ [(i, n)] ++ [(oi, on)], true) by unfold lkStep; rw [if_neg q, if_pos ⟨rfl, q2⟩])
            clear q q2
            go_wp2_with (first
             | (at_builtin; refine wpl_appR (r := lockP) (B := w.heap.size) (ub := W1.heap.size) (xs := acc) (y := (i, n)) rfl rfl rfl rfl (HL1.out.lit (i, n)) (rangeAt_whole (T := 154) (World.alloc_heap_new _ _)) (by have := HLEN.out; omega) (by have h1 := HL1.out.old.size; rw [World.size_alloc]; omega) ?_; intro v4 w4 hO hg hat hne; have HL4 := Lib.hid (LkB.app HL1.out hO hg hat); have e4 := HL4.out.cells.1; clear hO hg hat hne)
             | (refine wpl_loadR (r := lockP) (t := (oi, on)) (b := bo) (k := 0) _ rfl rfl rfl HL4.out.range ?_; dsimp only [lockP, lkL])
             | (at_builtin; refine wpl_appR (r := lockP) (B := w.heap.size) (ub := w4.heap.size) (xs := (acc ++ [(i, n)])) (y := (oi, on)) rfl rfl rfl rfl (HL4.out.lit (oi, on)) (rangeAt_whole (T := 154) (World.alloc_heap_new _ _)) (by have := HLEN.out; rw [List.length_append, List.length_singleton]; omega) (by have h1 := HL4.out.old.size; rw [World.size_alloc]; omega) ?_; intro v5 w5 hO hg hat hne; have HL5 := Lib.hid (LkB.app HL4.out hO hg hat); have e5 := HL5.out.cells.1; clear hO hg hat hne)
             | fail)
            go_roundw
            case rel =>
             have e := HST.out.trans HSS.out
             exact ⟨j + 1, by have := HJ.out; omega, by first | rfl | exact congrArg _ WK | go_num, by rw [e], by rw [e]; exact HL5.out.own, HL5.out.old⟩
            case measure => have := HJ.out; simp [intOf]; omega
          · have f3 : ¬ oi ≥ i := q2
            have HSS := Lib.hid (show lkStep i n (acc, false) (oi, on) = (acc ++ [(oi, on)], false) by unfold lkStep; rw [if_neg q, if_neg (fun x => q2 x.2)])
            clear q q2
            go_wp2_with (first
             | (refine wpl_loadR (r := lockP) (t := (oi, on)) (b := bo) (k := 0) _ rfl rfl rfl HL1.out.range ?_; dsimp only [lockP, lkL])
             | (at_builtin; refine wpl_appR (r := lockP) (B := w.heap.size) (ub := W1.heap.size) (xs := acc) (y := (oi, on)) rfl rfl rfl rfl (HL1.out.lit (oi, on)) (rangeAt_whole (T := 154) (World.alloc_heap_new _ _)) (by have := HLEN.out; omega) (by have h1 := HL1.out.old.size; rw [World.size_alloc]; omega) ?_; intro v4 w4 hO hg hat hne; have HL4 := Lib.hid (LkB.app HL1.out hO hg hat); have e4 := HL4.out.cells.1; clear hO hg hat hne)
             | fail)
            go_roundw
            case rel =>
             have e := HST.out.trans HSS.out
             exact ⟨j + 1, by have := HJ.out; omega, by first | rfl | exact congrArg _ WK | go_num, by rw [e], by rw [e]; exact HL4.out.own, HL4.out.old⟩
            case measure => have := HJ.out; simp [intOf]; omega
         | true =>
          have HSS := Lib.hid (show lkStep i n (acc, true) (oi, on) = (acc ++ [(oi, on)], true) by unfold lkStep; rw [if_neg q, if_neg (fun x => by cases x.1)])
          clear q
          go_wp2_with (first
           | (refine wpl_loadR (r := lockP) (t := (oi, on)) (b := bo) (k := 0) _ rfl rfl rfl HL1.out.range ?_; dsimp only [lockP, lkL])
           | (at_builtin; refine wpl_appR (r := lockP) (B := w.heap.size) (ub := W1.heap.size) (xs := acc) (y := (oi, on)) rfl rfl rfl rfl (HL1.out.lit (oi, on)) (rangeAt_whole (T := 154) (World.alloc_heap_new _ _)) (by have := HLEN.out; omega) (by have h1 := HL1.out.old.size; rw [World.size_alloc]; omega) ?_; intro v4 w4 hO hg hat hne; have HL4 := Lib.hid (LkB.app HL1.out hO hg hat); have e4 := HL4.out.cells.1; clear hO hg hat hne)
           | fail)
          go_roundw
          case rel =>
           have e := HST.out.trans HSS.out
           exact ⟨j + 1, by have := HJ.out; omega, by first | rfl | exact congrArg _ WK | go_num, by rw [e], by rw [e]; exact HL4.out.own, HL4.out.old⟩
          case measure => have := HJ.out; simp [intOf]; omega
     · obtain rfl : j = L := by omega
       have g1 : ¬ (j : Int) < j := by omega
       have hyl : y < w.heap.size := cell_ltR c
       have hal : ab < w.heap.size := cell_ltR c2
       have htk : xs.take j = xs := by rw [HRD.out.2, List.take_length]
       rw [htk] at how
       rw [htk]
       have hln := lkAll_len i n l0 xs
       have hrow := HROW.out
       obtain ⟨⟨acc, ld⟩, hacc⟩ : ∃ st, st = lkAll i n l0 xs := ⟨_, rfl⟩
       rw [← hacc] at hrow how hln ⊢
       obtain ⟨xo, xc, hxo⟩ := (show OwnR lockP w.heap.size _ acc wr from how).lenOf
       subst hxo
       replace how : OwnR lockP w.heap.size (.slice xo acc.length xc) acc wr := how
       replace hln : acc.length ≤ 2 * xs.length := hln
       have HLEN := Lib.hid (show acc.length ≤ 500000 by have := HRD.out.2; omega)
       have d : wr.cell? ⟨y, 0, none⟩ = some (.slice (some ⟨ab, 0, none⟩) 10 10) := (World.cell?_of_block (a := ⟨y, 0, none⟩) (hb.block y hyl)).trans c
       have d2 : wr.cell? ⟨ab, k * 3 + 2, none⟩ = some (.slice ao j cap) := (World.cell?_of_block (a := ⟨ab, k * 3 + 2, none⟩) (hb.block ab hal)).trans c2
       have HFZ := Lib.hid (fun (W : World) (hW : Below w.heap.size w W) => show W.cell? ⟨y, 0, none⟩ = some (.slice (some ⟨ab, 0, none⟩) 10 10) ∧ W.cell? ⟨ab, k * 3 + 2, none⟩ = some (.slice ao j cap) ∧ W.frozen? ⟨ab, k * 3 + 2, none⟩ = false from ⟨(World.cell?_of_block (a := ⟨y, 0, none⟩) (hW.block y hyl)).trans c, (World.cell?_of_block (a := ⟨ab, k * 3 + 2, none⟩) (hW.block ab hal)).trans c2, by have := fz (k * 3 + 2); rw [World.frozen?, hW.block ab hal]; rwa [World.frozen?] at this⟩)
       have HOW := Lib.hid how
       have HBB := Lib.hid hb
       cases ld with
       | true =>
        have HR := Lib.hid (show acc = rowOf (lockM M k i n) k from hrow)
        have f1 := (HFZ.out wr hb).2.2
        clear hacc how hrow hln htk hb hyl hal
        go_wp2_with fail
        refine bodyPost_end (v := .tuple #[]) (by simp [results, Tryz.results98, go_sem]) rfl ⟨rfl, HH.out.1.lay HH.out.2.1 HBB.out (by rw [← HR.out]; exact HOW.out)⟩
       | false =>
        have HR := Lib.hid (show acc ++ [(i, n)] = rowOf (lockM M k i n) k from hrow)
        clear hacc how hrow hln htk hb hyl hal
        go_upto_region 14 with (first
         | (at_builtin; refine wpl_appR (r := lockP) (B := w.heap.size) (ub := wr.heap.size) (xs := acc) (y := (i, n)) rfl rfl rfl rfl (HOW.out.of (Nat.le_refl _) (fun q hq => Below.heap_alloc _ _ _ (HOW.out.block hq).2)) (rangeAt_whole (T := 154) (World.alloc_heap_new _ _)) (by have := HLEN.out; omega) (by have h1 := HBB.out.size; rw [World.size_alloc]; omega) ?_; intro v4 w4 hO hg hat hne; obtain ⟨ao4, cp4, hv4⟩ := hO.lenOf; subst hv4; have HO4 := Lib.hid hO; have HB4 := Lib.hid (show Below w.heap.size w w4 from Below.grown (HBB.out.alloc HBB.out.size _) hg (by have := HBB.out.size; rw [World.size_alloc]; omega) (fun q hq => (HOW.out.block hq).1)); clear hO hg hat hne)
         | fail)
        obtain ⟨x1, x2, x3⟩ := HFZ.out w4 HB4.out
        go_wp2_with fail
        refine bodyPost_end (v := .tuple #[]) (by simp [results, Tryz.results98, go_sem]) rfl ⟨rfl, HH.out.1.lay HH.out.2.1 HB4.out (by rw [← HR.out]; have h := HO4.out; rw [List.length_append, List.length_singleton] at h; exact h)⟩
 · have hI := ref6_Is a w
   rw [decide_eq_false (show ¬ (0 ≤ a ∧ a < 10) from ha)] at hI
   have HI := Lib.hid hI
   have hS : lockM M a i n = M := if_pos ha
   rw [hS]
   have HF := Lib.hid (RlTo.refl h)
   clear hI h ha hS
   go_enter Tryz.func98, Tryz.ntmps98
   go_wp2_with (first
    | (go_at_call 88; refine HI.out.mono ?_; rintro e w' ⟨rfl, hw⟩; rw [hw]; clear hw w')
    | fail)
   exact bodyPost_ret (v := .tuple #[]) (by simp [results, Tryz.results98, go_sem]) rfl ⟨rfl, HF.out⟩
end
end
section
open Go.RowKit Go.Maps
theorem run_makeZ {P : Program} (t e : TypeId) (n s by_ : Nat) (z : Value) (ht : P.underlying t = some (.slice e)) (hi : (P.info? e).map (fun i => (i.zero, i.size, i.bytes)) = some (some z, s, by_)) (hb : by_ * n ≤ 1000000) (hn : n ≤ 1000000) (w : World) :
 (Instr.makeSlice t (.int .i64 (n : Int)) (.int .i64 (n : Int))).run P w = .ok (.slice (some ⟨w.heap.size, 0, none⟩) n n) (w.alloc (.cells (madeCells z.cells (n * s)) e)) := by
 obtain ⟨i, hi0, hi1⟩ := Option.map_eq_some_iff.1 hi
 simp only [Prod.mk.injEq] at hi1
 obtain ⟨hz1, hs, hbb0⟩ := hi1
 have hbb : (i.bytes : Int) * (n : Int) ≤ 281474976710656 := by
  rw [hbb0]
  have : ((by_ * n : Nat) : Int) ≤ 281474976710656 := by omega
  rwa [Int.natCast_mul] at this
 have := run_make (P := P) w t e i z ht hi0 hz1 .i64 .i64 n n (by omega) (by omega) hbb (by omega)
 rw [← hs]
 simpa using this
theorem acNew : AcRow acc0 (fun _ => .slice none 0 0) (madeCells (Value.agg #[.int .i64 0, .int .i64 0, .slice none 0 0]).cells (10 * 3)) := by
 refine ⟨by kernel_rfl, fun k hk => ?_⟩
 rcases (by omega : k = 0 ∨ k = 1 ∨ k = 2 ∨ k = 3 ∨ k = 4 ∨ k = 5 ∨ k = 6 ∨ k = 7 ∨ k = 8 ∨ k = 9) with rfl | rfl | rfl | rfl | rfl | rfl | rfl | rfl | rfl | rfl <;> exact ⟨by kernel_rfl, by kernel_rfl, by kernel_rfl⟩
def F2 (lb ab : Nat) : FP := fun k => k = lb ∨ k = ab
structure R8 (w0 : World) (lb ab : Nat) (A : Acc) (w : World) : Prop where
 at_ : RlAt lb ab (F2 lb ab) A [] w
 ll : w0.heap.size ≤ lb
 la : w0.heap.size ≤ ab
 old : Below w0.heap.size w0 w
theorem R8.below {w0 w w' : World} {lb ab : Nat} {A : Acc} (h : R8 w0 lb ab A w) (hb : Below w.heap.size w w') : R8 w0 lb ab A w' := ⟨h.at_.below hb, h.ll, h.la, h.old.trans (hb.mono h.old.size)⟩
theorem R8.drew {w0 w : World} {lb ab : Nat} {A : Acc} (h : R8 w0 lb ab A w) : R8 w0 lb ab A w.drew := h.below (Below.refl _ w).drew
theorem R8.set {w0 w : World} {lb ab k : Nat} {A : Acc} (h : R8 w0 lb ab A w) (hk : k < 10) (x : Int) : R8 w0 lb ab (upd A k (x, (A k).2)) (w.setCell ⟨ab, k * 3, none⟩ (.int .i64 x)) := by
 refine ⟨h.at_.free hk x, h.ll, h.la, h.old.trans ⟨rfl, rfl, rfl, by simp [World.setCell], fun j hj => Below.heap_setCell _ _ _ j ?_⟩⟩
 have := h.la
 show j ≠ ab
 omega
def S8 (l : List Int) (k : Nat) (zz : Int) : Prop := zz = sumTo (accL (l.take k)) 10 ∧ (∀ j, j < k → isBal (l.getD j 0)) ∧ 0 ≤ zz ∧ zz ≤ k * 1073741824
theorem S8.zero (l : List Int) : S8 l 0 0 := ⟨by rw [List.take_zero, accL_nil]; decide, fun j hj => absurd hj (Nat.not_lt_zero j), by omega, by omega⟩
theorem S8.step {l : List Int} {k : Nat} {zz : Int} (h : S8 l k zz) (hk : k < 10) (hb : isBal (l.getD k 0)) : S8 l (k + 1) (zz + l.getD k 0) := by
 obtain ⟨h1, h2, h3, h4⟩ := h
 refine ⟨by rw [sum_accL_step l hk, ← h1], fun j hj => ?_, ?_, ?_⟩
 · by_cases e : j = k
   · rw [e]; exact hb
   · exact h2 j (by omega)
 · have := hb.1; omega
 · have := hb.2; have : ((k + 1 : Nat) : Int) = (k : Int) + 1 := by omega
   rw [this]; omega
theorem S8.done {l : List Int} {k : Nat} {zz : Int} (h : S8 l k zz) (hk : k = l.length) : zz = sumTo (accL l) 10 ∧ ∀ j, j < l.length → isBal (l.getD j 0) := by
 subst hk
 exact ⟨by rw [h.1, List.take_length], h.2.1⟩
theorem ref6_New8 (v : Value) (l : List Int) (w : World) (hr : RdI w v l) (hl : l.length ≤ 1000) : Calls Tryz.prog 28 #[v] w fun e w' => Below w.heap.size w w' ∧ ((newOk l ∧ ∃ y, e = .returned (.tuple #[.pointer (some ⟨y, 0, none⟩), .int .i64 0]) ∧ ∃ ab F, RlAt y ab F (accL l) [] w' ∧ ∀ k, F k → w.heap.size ≤ k) ∨ (¬ newOk l ∧ e = .returned (.tuple #[.pointer none, .int .i64 1]))) := by
 obtain ⟨C, hC⟩ : ∃ C, C = madeCells (Value.agg #[.int .i64 0, .int .i64 0, .slice none 0 0]).cells (10 * 3) := ⟨_, rfl⟩
 have h1 := run_makeZ (P := Tryz.prog) 132 137 10 3 40 (.agg #[.int .i64 0, .int .i64 0, .slice none 0 0]) Tryz.underlying132 (by kernel_rfl) (by decide) (by decide)
 rw [← hC] at h1
 have hC2 := acNew
 rw [← hC] at hC2
 clear hC
 have h1' : ∀ w : World, (Instr.makeSlice 132 (.int .i64 10) (.int .i64 10)).run Tryz.prog w = .ok (.slice (some ⟨w.heap.size, 0, none⟩) 10 10) (w.alloc (.cells C 137)) := h1
 clear h1
 obtain ⟨ao, cap, rfl⟩ := hr.lenOf
 obtain ⟨L, hL⟩ : ∃ L, L = l.length := ⟨_, rfl⟩
 rw [← hL] at hr hl ⊢
 have HR := Lib.hid (And.intro hr hL)
 by_cases h10 : 10 < L
 · have c0 : (10 : Int) < (L : Int) := by omega
   have hno : ¬ newOk l := fun h => by have := h.1; omega
   have HNO := Lib.hid hno
   clear hr hL h10 hno h1'
   go_enter Tryz.func28, Tryz.ntmps28
   go_wp2_with fail
   exact bodyPost_ret (v := .tuple #[.pointer none, .int .i64 1]) (by simp [results, Tryz.results28, go_sem]) rfl ⟨Below.refl _ _, .inr ⟨HNO.out, rfl⟩⟩
 clear hr hL
 have hl : L ≤ 10 := by omega
 have c0 : ¬ (10 : Int) < (L : Int) := by omega
 obtain ⟨W0, hW0⟩ : ∃ W0, W0 = (w.alloc (.cells C 137)).alloc (.cells #[.slice (some ⟨w.heap.size, 0, none⟩) 10 10] 134) := ⟨_, rfl⟩
 obtain ⟨ab, hab⟩ : ∃ ab, ab = w.heap.size := ⟨_, rfl⟩
 obtain ⟨lb, hlb⟩ : ∃ lb, lb = ab + 1 := ⟨_, rfl⟩
 have h6 : R8 w lb ab (accL (l.take 0)) W0 := by
  rw [List.take_zero, accL_nil]
  refine ⟨⟨_, C, ?_, ?_, hC2, fun k hk => ⟨.inl ⟨rfl, rfl⟩, fun b hb => by cases hb⟩, .inl rfl, .inr rfl, by omega, fun k hk => ?_, fun x hx => absurd hx (List.not_mem_nil), List.Pairwise.nil⟩, by omega, by omega, by rw [hW0]; exact ((Below.refl _ w).alloc (Nat.le_refl _) _).alloc (by simp) _⟩
  · have := World.alloc_heap_new (w.alloc (.cells C 137)) (.cells #[.slice (some ⟨w.heap.size, 0, none⟩) 10 10] 134)
    rw [World.size_alloc] at this
    rw [hW0, hlb, hab]; exact this
  · rw [hW0, hab]; exact (Below.heap_alloc _ _ _ (by simp)).trans (World.alloc_heap_new w _)
  · rw [hW0, World.size_alloc, World.size_alloc]
    rcases hk with rfl | rfl <;> omega
 have H6 := Lib.hid h6
 have HW0 := Lib.hid (And.intro hW0 (And.intro hab hlb))
 clear hW0 h6 hC2 hab hlb
 go_enter Tryz.func28, Tryz.ntmps28
 go_upto_region 4 with fail
 rw [← HW0.out.1, ← HW0.out.2.1, ← HW0.out.2.2]
 go_wp2_with fail
 go_loopw [5, 6] (fun z i wr => ∃ (k : Nat) (zz : Int), k ≤ L ∧ z = .int .i64 zz ∧ i = .int .i64 k ∧ R8 w lb ab (accL (l.take k)) wr ∧ S8 l k zz) (fun _ i _ => L - (intOf i).toNat)
 case atStart => exact ⟨0, 0, by omega, rfl, rfl, H6.out, S8.zero l⟩
 case round =>
  obtain ⟨k, zz, hk, rfl, rfl, h6, hS⟩ := hrel
  have hz0 := hS.2.2.1
  have hz1 := hS.2.2.2
  have HS8 := Lib.hid hS
  clear hS
  by_cases hlt : k < L
  · have hlt' : (k : Int) < L := by omega
    obtain ⟨a, rfl, ca⟩ := (HR.out.1.below h6.old).at (show k < l.length by rw [← HR.out.2]; exact hlt)
    obtain ⟨x, hx⟩ : ∃ x, x = l.getD k 0 := ⟨_, rfl⟩
    have hca : ∀ W, Below w.heap.size w W → W.cell? (a.add k) = some (.int .i64 x) := fun W hW => by
     obtain ⟨a', hv, ca'⟩ := (HR.out.1.below hW).at (show k < l.length by rw [← HR.out.2]; exact hlt)
     injection hv with hv
     subst hv
     rw [hx]; exact ca'
    have HCA := Lib.hid hca
    clear hca
    rw [← hx] at ca
    have h6k := h6
    have hk10 : (k : Int) < 10 := by omega
    obtain ⟨v9, cl, cc, -, -, -, cf⟩ := h6.at_.cells (show k < 10 by omega)
    replace cc : ∃ v0, wr.cell? ⟨ab, k * 3, none⟩ = some v0 := ⟨_, cc⟩
    obtain ⟨v0, cc⟩ := cc
    replace cf := cf (k * 3)
    have HX := Lib.hid h6k
    have HXX := Lib.hid hx
    clear h6 h6k hx
    by_cases hb : x < 0
    · go_wp2_with fail
      exact bodyPost_ret (v := .tuple #[.pointer none, .int .i64 1]) (by simp [results, Tryz.results28, go_sem]) rfl ⟨HX.out.old, .inr ⟨fun h => by have h1 := h.2.1 k (by rw [← HR.out.2]; exact hlt); rw [← HXX.out] at h1; unfold isBal at h1; omega, rfl⟩⟩
    · by_cases hb2 : 1073741824 < x
      · go_wp2_with fail
        exact bodyPost_ret (v := .tuple #[.pointer none, .int .i64 1]) (by simp [results, Tryz.results28, go_sem]) rfl ⟨HX.out.old, .inr ⟨fun h => by have h1 := h.2.1 k (by rw [← HR.out.2]; exact hlt); rw [← HXX.out] at h1; unfold isBal at h1; omega, rfl⟩⟩
      · go_upto_region 10 with fail
        go_still_tail 11, (by kernel_rfl)
        change wpList _ _ _ _ _ wr.drew
        have hs := HX.out.drew.set (show k < 10 by omega) x
        have ca2 := HCA.out _ hs.old
        have ca3 := HCA.out _ (HX.out.set (show k < 10 by omega) x).old
        have ca4 := HCA.out _ (HX.out.set (show k < 10 by omega) x).drew.old
        have HS2 := Lib.hid (HX.out.set (show k < 10 by omega) x).drew
        have HS := Lib.hid hs
        clear hs
        go_wp2_with fail
        go_roundw
        case rel => exact ⟨k + 1, zz + x, by omega, by go_num, by go_num, by have h1 := HS2.out; rw [HXX.out, accL_step] at h1; rw [HXX.out]; exact h1, by have h1 := HS8.out.step (by omega) (by rw [← HXX.out]; unfold isBal; omega); rw [← HXX.out] at h1; exact h1⟩
        case measure => simp [intOf]; omega
  · have hge : ¬ (k : Int) < L := by omega
    by_cases hz : 1073741824 < zz
    · go_wp2_with fail
      exact bodyPost_ret (v := .tuple #[.pointer none, .int .i64 1]) (by simp [results, Tryz.results28, go_sem]) rfl ⟨h6.old, .inr ⟨fun h => by have h1 := (HS8.out.done (by rw [← HR.out.2]; omega)).1; have h2 := h.2.2; omega, rfl⟩⟩
    · go_wp2_with fail
      exact bodyPost_ret (v := .tuple #[.pointer (some ⟨lb, 0, none⟩), .int .i64 0]) (by simp [results, Tryz.results28, go_sem]) rfl ⟨h6.old, .inl ⟨⟨by rw [← HR.out.2]; exact hl, (HS8.out.done (by rw [← HR.out.2]; omega)).2, by rw [← (HS8.out.done (by rw [← HR.out.2]; omega)).1]; omega⟩, lb, rfl, ab, F2 lb ab, by have h1 := h6.at_; rw [show k = l.length by rw [← HR.out.2]; omega, List.take_length] at h1; exact h1, fun k hk => by rcases hk with rfl | rfl; exact h6.ll; exact h6.la⟩⟩
end
section
section
variable {β : Type}
def placeN : List (Int × β) → Int → Nat
 | [], _ => 0
 | y :: l, r => if y.1 < r then placeN l r + 1 else 0
def placeB (l : List (Int × β)) (r : Int) : Bool := (sget l r).isSome
theorem placeN_le (r : Int) : ∀ l : List (Int × β), placeN l r ≤ l.length
 | [] => Nat.le_refl _
 | y :: l => by unfold placeN; split; have := placeN_le r l; simp; omega; exact Nat.zero_le _
theorem placeN_is {r : Int} : ∀ {l : List (Int × β)} {k : Nat}, (∀ j, j < k → ∃ y, l[j]? = some y ∧ y.1 < r) → (∀ y, l[k]? = some y → ¬ y.1 < r) → placeN l r = k
 | [], k, h1, h2 => by
  cases k with
  | zero => rfl
  | succ k => obtain ⟨y, hy, -⟩ := h1 0 (by omega); simp at hy
 | z :: l, k, h1, h2 => by
  unfold placeN
  cases k with
  | zero => rw [if_neg (h2 z rfl)]
  | succ k =>
   obtain ⟨y, hy, hlt⟩ := h1 0 (by omega)
   simp at hy
   subst hy
   rw [if_pos hlt]
   congr 1
   exact placeN_is (fun j hj => by obtain ⟨y, a, b⟩ := h1 (j + 1) (by omega); exact ⟨y, by simpa using a, b⟩) (fun y hy => h2 y (by simpa using hy))
theorem SrtK.tail {z : Int × β} {l : List (Int × β)} (h : SrtK (z :: l)) : SrtK l ∧ ∀ y ∈ l, z.1 < y.1 := ⟨(List.pairwise_cons.1 h).2, (List.pairwise_cons.1 h).1⟩
theorem sget_cons (z : Int × β) (l : List (Int × β)) (r : Int) : sget (z :: l) r = if z.1 = r then some z.2 else sget l r := by
 unfold sget
 rw [List.find?_cons]
 by_cases h : z.1 = r
 · simp [h]
 · have : (z.1 == r) = false := by simp [h]
   rw [this, if_neg h]
theorem place_get {r : Int} : ∀ {l : List (Int × β)}, SrtK l → ∀ v, sget l r = some v ↔ l[placeN l r]? = some (r, v)
 | [], _, v => by simp [sget, placeN]
 | z :: l, h, v => by
  obtain ⟨h1, h2⟩ := h.tail
  rw [sget_cons]
  unfold placeN
  by_cases hz : z.1 < r
  · rw [if_neg (by omega), if_pos hz, place_get h1 v]; simp
  · rw [if_neg hz]
    by_cases he : z.1 = r
    · rw [if_pos he]
      obtain ⟨a, b⟩ := z
      simp at he
      subst he
      simp
    · rw [if_neg he]
      constructor
      · intro hs
        have := h2 _ (sget_mem hs)
        simp at this
        omega
      · intro hs
        simp at hs
        rw [hs] at he
        exact absurd rfl he
theorem place_there {r : Int} {l : List (Int × β)} (h : SrtK l) : placeB l r = true ↔ ∃ y, l[placeN l r]? = some y ∧ y.1 = r := by
 unfold placeB
 constructor
 · intro hs
   obtain ⟨v, hv⟩ := Option.isSome_iff_exists.1 hs
   exact ⟨_, (place_get h v).1 hv, rfl⟩
 · rintro ⟨⟨a, b⟩, hy, rfl⟩
   rw [(place_get h b).2 hy]
   rfl
theorem sdel_all {r : Int} {l : List (Int × β)} (h : ∀ y ∈ l, y.1 ≠ r) : sdel l r = l := by
 unfold sdel
 exact List.filter_eq_self.2 (fun y hy => by simpa using h y hy)
theorem place_del {r : Int} : ∀ {l : List (Int × β)}, SrtK l → placeB l r = true → sdel l r = l.take (placeN l r) ++ l.drop (placeN l r + 1)
 | [], _, hb => by simp [placeB, sget] at hb
 | z :: l, h, hb => by
  obtain ⟨h1, h2⟩ := h.tail
  unfold placeB at hb
  rw [sget_cons] at hb
  unfold placeN
  by_cases hz : z.1 < r
  · rw [if_neg (by omega)] at hb
    rw [if_pos hz]
    have ih := place_del h1 hb
    have e : sdel (z :: l) r = z :: sdel l r := by unfold sdel; rw [List.filter_cons_of_pos (by simp; omega)]
    rw [e, ih]; simp
  · rw [if_neg hz]
    by_cases he : z.1 = r
    · have e : sdel (z :: l) r = sdel l r := by unfold sdel; rw [List.filter_cons_of_neg (by simp [he])]
      rw [e, sdel_all (fun y hy => by have := h2 y hy; omega)]; simp
    · rw [if_neg he] at hb
      obtain ⟨v, hv⟩ := Option.isSome_iff_exists.1 hb
      have := h2 _ (sget_mem hv)
      simp at this
      omega
theorem place_put {r : Int} (x : β) : ∀ {l : List (Int × β)}, SrtK l → sput l r x = l.take (placeN l r) ++ (r, x) :: l.drop (placeN l r + (if placeB l r = true then 1 else 0))
 | [], _ => by simp [sput, sdel, ins, placeN]
 | z :: l, h => by
  obtain ⟨h1, h2⟩ := h.tail
  have ih := place_put (r := r) x (l := l) h1
  unfold sput at ih ⊢
  have hpb : placeB (z :: l) r = if z.1 = r then true else placeB l r := by unfold placeB; rw [sget_cons]; split <;> rfl
  rw [hpb]
  unfold placeN
  by_cases hz : z.1 < r
  · rw [if_neg (show ¬ z.1 = r by omega), if_pos hz]
    have e : sdel (z :: l) r = z :: sdel l r := by unfold sdel; rw [List.filter_cons_of_pos (by simp; omega)]
    rw [e, ins, if_neg (by simp; omega), ih]
    rw [List.take_succ_cons, List.cons_append, Nat.add_right_comm, List.drop_succ_cons]
  · rw [if_neg hz]
    have hl : ∀ m : List (Int × β), (∀ y ∈ m, r < y.1) → ins (fun a b : Int => a < b) (r, x) m = (r, x) :: m := fun m hm => by
     cases m with
     | nil => rfl
     | cons y m => rw [ins, if_pos (hm y (by simp))]
    by_cases he : z.1 = r
    · have e : sdel (z :: l) r = sdel l r := by unfold sdel; rw [List.filter_cons_of_neg (by simp [he])]
      rw [if_pos he, e, sdel_all (fun y hy => by have := h2 y hy; omega), hl l (fun y hy => by have := h2 y hy; omega)]
      simp
    · have hall : ∀ y ∈ z :: l, r < y.1 := fun y hy => by
       rcases List.mem_cons.1 hy with e | e
       · rw [e]; omega
       · have := h2 y e; omega
      have hno : placeB l r = false := by
       unfold placeB
       cases hs : sget l r with
       | none => rfl
       | some v => have := hall _ (List.mem_cons_of_mem _ (sget_mem hs)); simp at this
      rw [if_neg he, hno, sdel_all (fun y hy => by have := hall y hy; omega), hl _ hall]
      simp
theorem sput_filter {p : Int × β → Bool} (hp : ∀ x y : Int × β, x.1 = y.1 → p x = p y) {l : List (Int × β)} (h : SrtK l) (r : Int) (x : β) : (sput l r x).filter p = if p (r, x) = true then sput (l.filter p) r x else l.filter p := by
 have hf : SrtK (l.filter p) := List.Pairwise.filter _ h
 split
 · rename_i hx
   refine SrtK.ext (List.Pairwise.filter _ (h.put r x)) (hf.put r x) (fun y => ?_)
   rw [List.mem_filter, mem_sput, mem_sput, List.mem_filter]
   constructor
   · rintro ⟨e | ⟨e1, e2⟩, e3⟩
     · exact .inl e
     · exact .inr ⟨⟨e1, e3⟩, e2⟩
   · rintro (e | ⟨⟨e1, e2⟩, e3⟩)
     · exact ⟨.inl e, by rw [e]; exact hx⟩
     · exact ⟨.inr ⟨e1, e3⟩, e2⟩
 · rename_i hx
   refine SrtK.ext (List.Pairwise.filter _ (h.put r x)) hf (fun y => ?_)
   rw [List.mem_filter, mem_sput, List.mem_filter]
   constructor
   · rintro ⟨e | ⟨e1, e2⟩, e3⟩
     · rw [e] at e3; exact absurd e3 hx
     · exact ⟨e1, e3⟩
   · rintro ⟨e1, e2⟩
     refine ⟨.inr ⟨e1, fun e => hx ?_⟩, e2⟩
     rw [← hp y (r, x) e]; exact e2
theorem sdel_filter {p : Int × β → Bool} (l : List (Int × β)) (r : Int) : (sdel l r).filter p = sdel (l.filter p) r := by
 unfold sdel
 rw [List.filter_filter, List.filter_filter]
 congr 1
 funext x
 rw [Bool.and_comm]
theorem sget_filter {p : Int × β → Bool} (hp : ∀ x y : Int × β, x.1 = y.1 → p x = p y) {l : List (Int × β)} (h : SrtK l) (r : Int) (x : β) (hx : p (r, x) = true) : sget (l.filter p) r = sget l r := by
 have hf : SrtK (l.filter p) := List.Pairwise.filter _ h
 cases hs : sget l r with
 | none =>
  rw [sget_none] at hs ⊢
  intro v hv
  exact hs v (List.mem_filter.1 hv).1
 | some v =>
  have hm := sget_mem hs
  have : (r, v) ∈ l.filter p := List.mem_filter.2 ⟨hm, by rw [hp (r, v) (r, x) rfl]; exact hx⟩
  cases hs2 : sget (l.filter p) r with
  | none => exact absurd this (sget_none.1 hs2 v)
  | some u =>
   have := hf.one (sget_mem hs2) this rfl
   simpa using this
end
end
section
open Go.RowKit Go.Maps
section
variable {n m : Nat} {f g : Nat → List Value} {C : Array Value}
def Tab (n m : Nat) (f : Nat → List Value) (C : Array Value) : Prop := C.size = n * m ∧ (∀ k, k < n → (f k).length = m) ∧ ∀ k, k < n → ∀ j u, (f k)[j]? = some u → C[k * m + j]? = some u
def updN {α : Type} (f : Nat → α) (k : Nat) (x : α) : Nat → α := fun i => if i = k then x else f i
theorem updN_same {α : Type} (f : Nat → α) (k : Nat) (x : α) : updN f k x k = x := by simp [updN]
theorem updN_other {α : Type} (f : Nat → α) {k i : Nat} (x : α) (h : i ≠ k) : updN f k x i = f i := by simp [updN, h]
theorem row_at {i j : Nat} (h : j < m) : (i * m + j) / m = i := by
 rw [Nat.mul_comm, Nat.mul_add_div (by omega), Nat.div_eq_of_lt h]; simp
theorem Tab.congr (h : Tab n m f C) (e : ∀ k, k < n → f k = g k) : Tab n m g C := ⟨h.1, fun k hk => by rw [← e k hk]; exact h.2.1 k hk, fun k hk => by rw [← e k hk]; exact h.2.2 k hk⟩
theorem Tab.set (h : Tab n m f C) {k j : Nat} (hk : k < n) (hj : j < m) (v : Value) : Tab n m (updN f k ((f k).set j v)) (C.setIfInBounds (k * m + j) v) := by
 obtain ⟨h1, h2, h3⟩ := h
 have hin : k * m + j < C.size := by
  rw [h1]
  have : (k + 1) * m ≤ n * m := Nat.mul_le_mul_right m hk
  rw [Nat.add_mul] at this
  omega
 refine ⟨by simpa using h1, fun i hi => ?_, fun i hi a u hu => ?_⟩
 · by_cases e : i = k
   · subst e; rw [updN_same, List.length_set]; exact h2 i hi
   · rw [updN_other _ _ e]; exact h2 i hi
 · by_cases e : i = k
   · subst e
     rw [updN_same] at hu
     by_cases ej : a = j
     · subst ej
       rw [Array.getElem?_setIfInBounds_self_of_lt hin]
       rw [List.getElem?_set_self (by rw [h2 i hi]; exact hj)] at hu
       exact hu
     · rw [Array.getElem?_setIfInBounds_ne (by omega)]
       rw [List.getElem?_set_ne (by omega)] at hu
       exact h3 i hi a u hu
   · rw [updN_other _ _ e] at hu
     have ha : a < m := by rw [← h2 i hi]; exact (List.getElem?_eq_some_iff.1 hu).1
     have hne : k * m + j ≠ i * m + a := fun q => e (by rw [← row_at (i := i) ha, ← q, row_at hj])
     rw [Array.getElem?_setIfInBounds_ne hne]
     exact h3 i hi a u hu
end
structure Rc where
 c : List (Int × Bal)
 on : Bool
 who : Int
 l : Int
 n : Int
 g : Wgt
 u : Int
 p : Int
def poL (p : Pl) : List Value := [.bool (decide (p.st ≠ 0)), .int .i64 p.tr, .int .i64 p.st, .int .i64 p.en, .int .i64 p.ay, .int .i64 p.na, .int .i64 p.su]
def rcL (v : Value) (r : Rc) : List Value := [v, .bool r.on, .int .i64 r.who, .int .i64 r.l, .int .i64 r.n, .int .i64 r.g.v, .int .i64 r.g.c, .int .i64 r.u, .int .i64 r.p]
def RyAt (vy pb rb : Nat) (P : Nat → Pl) (R : Nat → Rc) (F : FP) (w : World) : Prop :=
 ∃ (vs : Nat → Value) (Cp Cr : Array Value), w.heap[vy]? = some (.cells #[.slice (some ⟨pb, 0, none⟩) 12 12, .slice (some ⟨rb, 0, none⟩) 40 40] 47 (0, 0)) ∧ w.heap[pb]? = some (.cells Cp 43 (0, 0)) ∧ w.heap[rb]? = some (.cells Cr 148 (0, 0)) ∧
  Tab 12 7 (fun k => poL (P k)) Cp ∧ Tab 40 9 (fun k => rcL (vs k) (R k)) Cr ∧ (∀ k, k < 40 → RdR castR w (vs k) (R k).c ∧ ∀ b, (vs k).ownBlock = some b → F b ∧ b ≠ vy ∧ b ≠ pb ∧ b ≠ rb) ∧ F vy ∧ F pb ∧ F rb ∧ vy ≠ pb ∧ vy ≠ rb ∧ pb ≠ rb ∧ ∀ k, F k → k < w.heap.size
section
variable {vy pb rb : Nat} {P P' : Nat → Pl} {R R' : Nat → Rc} {F : FP} {w w' W : World}
def ryM (vy pb rb : Nat) (P : Nat → Pl) (R : Nat → Rc) : Mem where
 is F w := RyAt vy pb rb P R F w
 keep := by
  rintro F w w' ⟨vs, Cp, Cr, h1, h2, h3, h4, h5, h6, h7, h8, h9, h10, h11, h12, h13⟩ hg hk
  exact ⟨vs, Cp, Cr, (hk vy h7).trans h1, (hk pb h8).trans h2, (hk rb h9).trans h3, h4, h5, fun k hk' => ⟨(h6 k hk').1.keep hg.size (fun b hb => hk b ((h6 k hk').2 b hb).1), (h6 k hk').2⟩, h7, h8, h9, h10, h11, h12, fun k hk' => Nat.lt_of_lt_of_le (h13 k hk') hg.size⟩
 lt := by
  rintro F w k ⟨vs, Cp, Cr, h1, h2, h3, h4, h5, h6, h7, h8, h9, h10, h11, h12, h13⟩ hk
  exact h13 k hk
theorem RyAt.congr (h : RyAt vy pb rb P R F w) (hP : ∀ k, k < 12 → P k = P' k) (hR : ∀ k, k < 40 → R k = R' k) : RyAt vy pb rb P' R' F w := by
 obtain ⟨vs, Cp, Cr, h1, h2, h3, h4, h5, h6, h7⟩ := h
 exact ⟨vs, Cp, Cr, h1, h2, h3, h4.congr (fun k hk => by rw [hP k hk]), h5.congr (fun k hk => by rw [hR k hk]), fun k hk => by rw [← hR k hk]; exact h6 k hk, h7⟩
theorem ry_congr (h : (ryM vy pb rb P R).to F w w') (hP : ∀ k, k < 12 → P k = P' k) (hR : ∀ k, k < 40 → R k = R' k) : (ryM vy pb rb P' R').to F w w' := by
 obtain ⟨F', h1, h2⟩ := h
 exact ⟨F', RyAt.congr h1 hP hR, h2⟩
theorem RyAt.top (h : RyAt vy pb rb P R F w) : w.cell? ⟨vy, 0, none⟩ = some (.slice (some ⟨pb, 0, none⟩) 12 12) ∧ w.cell? ⟨vy, 1, none⟩ = some (.slice (some ⟨rb, 0, none⟩) 40 40) := by
 obtain ⟨vs, Cp, Cr, h1, -⟩ := h
 exact ⟨by rw [World.cell?, h1]; rfl, by rw [World.cell?, h1]; rfl⟩
theorem RyAt.pcell (h : RyAt vy pb rb P R F w) {k : Nat} (hk : k < 12) {j : Nat} {u : Value} (hu : (poL (P k))[j]? = some u) : w.cell? ⟨pb, k * 7 + j, none⟩ = some u := by
 obtain ⟨vs, Cp, Cr, h1, h2, h3, h4, -⟩ := h
 rw [World.cell?, h2]; exact h4.2.2 k hk j u hu
theorem RyAt.poll (h : RyAt vy pb rb P R F w) {k : Nat} (hk : k < 12) : w.cell? ⟨pb, k * 7, none⟩ = some (.bool (decide ((P k).st ≠ 0))) ∧ w.cell? ⟨pb, k * 7 + 1, none⟩ = some (.int .i64 (P k).tr) ∧ w.cell? ⟨pb, k * 7 + 2, none⟩ = some (.int .i64 (P k).st) ∧ w.cell? ⟨pb, k * 7 + 3, none⟩ = some (.int .i64 (P k).en) ∧ w.cell? ⟨pb, k * 7 + 4, none⟩ = some (.int .i64 (P k).ay) ∧ w.cell? ⟨pb, k * 7 + 5, none⟩ = some (.int .i64 (P k).na) ∧ w.cell? ⟨pb, k * 7 + 6, none⟩ = some (.int .i64 (P k).su) :=
 ⟨h.pcell hk (j := 0) rfl, h.pcell hk (j := 1) rfl, h.pcell hk (j := 2) rfl, h.pcell hk (j := 3) rfl, h.pcell hk (j := 4) rfl, h.pcell hk (j := 5) rfl, h.pcell hk (j := 6) rfl⟩
theorem RyAt.frozen (h : RyAt vy pb rb P R F w) (j : Nat) : w.frozen? ⟨pb, j, none⟩ = false ∧ w.frozen? ⟨rb, j, none⟩ = false := by
 obtain ⟨vs, Cp, Cr, h1, h2, h3, -⟩ := h
 exact ⟨by rw [World.frozen?, h2]; rfl, by rw [World.frozen?, h3]; rfl⟩
theorem RyAt.rec (h : RyAt vy pb rb P R F w) {k : Nat} (hk : k < 40) : ∃ v, RdR castR w v (R k).c ∧ w.cell? ⟨rb, k * 9, none⟩ = some v ∧ w.cell? ⟨rb, k * 9 + 1, none⟩ = some (.bool (R k).on) ∧ w.cell? ⟨rb, k * 9 + 2, none⟩ = some (.int .i64 (R k).who) ∧ w.cell? ⟨rb, k * 9 + 3, none⟩ = some (.int .i64 (R k).l) ∧ w.cell? ⟨rb, k * 9 + 4, none⟩ = some (.int .i64 (R k).n) ∧ w.cell? ⟨rb, k * 9 + 5, none⟩ = some (.int .i64 (R k).g.v) ∧ w.cell? ⟨rb, k * 9 + 6, none⟩ = some (.int .i64 (R k).g.c) ∧ w.cell? ⟨rb, k * 9 + 7, none⟩ = some (.int .i64 (R k).u) ∧ w.cell? ⟨rb, k * 9 + 8, none⟩ = some (.int .i64 (R k).p) := by
 obtain ⟨vs, Cp, Cr, h1, h2, h3, h4, h5, h6, -⟩ := h
 have hc : ∀ j u, (rcL (vs k) (R k))[j]? = some u → w.cell? ⟨rb, k * 9 + j, none⟩ = some u := fun j u hu => by rw [World.cell?, h3]; exact h5.2.2 k hk j u hu
 exact ⟨vs k, (h6 k hk).1, hc 0 _ rfl, hc 1 _ rfl, hc 2 _ rfl, hc 3 _ rfl, hc 4 _ rfl, hc 5 _ rfl, hc 6 _ rfl, hc 7 _ rfl, hc 8 _ rfl⟩
theorem RyAt.own (h : RyAt vy pb rb P R F w) : F vy ∧ F pb ∧ F rb ∧ vy ≠ pb ∧ vy ≠ rb ∧ pb ≠ rb := by
 obtain ⟨vs, Cp, Cr, h1, h2, h3, h4, h5, h6, h7, h8, h9, h10, h11, h12, -⟩ := h
 exact ⟨h7, h8, h9, h10, h11, h12⟩
theorem RyAt.setP (h : RyAt vy pb rb P R F w) {k j : Nat} (hk : k < 12) (hj : j < 7) {u : Value} {p' : Pl} (hu : poL p' = (poL (P k)).set j u) : RyAt vy pb rb (putP P k p') R F (w.setCell ⟨pb, k * 7 + j, none⟩ u) := by
 obtain ⟨vs, Cp, Cr, h1, h2, h3, h4, h5, h6, h7, h8, h9, h10, h11, h12, h13⟩ := h
 have ho : ∀ i, i ≠ pb → (w.setCell ⟨pb, k * 7 + j, none⟩ u).heap[i]? = w.heap[i]? := fun i hi => Below.heap_setCell _ _ _ i hi
 have hs : (w.setCell ⟨pb, k * 7 + j, none⟩ u).heap.size = w.heap.size := by simp [World.setCell]
 refine ⟨vs, Cp.setIfInBounds (k * 7 + j) u, Cr, (ho vy h10).trans h1, block_set _ h2, (ho rb (fun e => h12 e.symm)).trans h3, (h4.set hk hj u).congr (fun i hi => ?_), h5, fun i hi => ⟨(h6 i hi).1.keep (by omega) (fun b hb => ho b ((h6 i hi).2 b hb).2.2.1), (h6 i hi).2⟩, h7, h8, h9, h10, h11, h12, fun i hi => by rw [hs]; exact h13 i hi⟩
 by_cases e : i = k
 · subst e; rw [updN_same, putP_same, hu]
 · rw [updN_other _ _ e, putP_other _ _ e]
theorem RyAt.setR (h : RyAt vy pb rb P R F w) {k j : Nat} (hk : k < 40) (hj : j < 9) {u : Value} {r' : Rc} (hu : ∀ v, rcL v r' = (rcL v (R k)).set j u) (hc : r'.c = (R k).c) : RyAt vy pb rb P (updN R k r') F (w.setCell ⟨rb, k * 9 + j, none⟩ u) := by
 obtain ⟨vs, Cp, Cr, h1, h2, h3, h4, h5, h6, h7, h8, h9, h10, h11, h12, h13⟩ := h
 have ho : ∀ i, i ≠ rb → (w.setCell ⟨rb, k * 9 + j, none⟩ u).heap[i]? = w.heap[i]? := fun i hi => Below.heap_setCell _ _ _ i hi
 have hs : (w.setCell ⟨rb, k * 9 + j, none⟩ u).heap.size = w.heap.size := by simp [World.setCell]
 refine ⟨vs, Cp, Cr.setIfInBounds (k * 9 + j) u, (ho vy h11).trans h1, (ho pb h12).trans h2, block_set _ h3, h4, (h5.set hk hj u).congr (fun i hi => ?_), fun i hi => ⟨?_, (h6 i hi).2⟩, h7, h8, h9, h10, h11, h12, fun i hi => by rw [hs]; exact h13 i hi⟩
 · by_cases e : i = k
   · subst e; rw [updN_same, updN_same, hu]
   · rw [updN_other _ _ e, updN_other _ _ e]
 · have := (h6 i hi).1.keep (w' := w.setCell ⟨rb, k * 9 + j, none⟩ u) (by omega) (fun b hb => ho b ((h6 i hi).2 b hb).2.2.2)
   by_cases e : i = k
   · subst e; rw [updN_same, hc]; exact this
   · rw [updN_other _ _ e]; exact this
theorem RyAt.setC (h : RyAt vy pb rb P R F w) {k : Nat} (hk : k < 40) {v : Value} {c : List (Int × Bal)} (hr : RdR castR w v c) (hv : ∀ b, v.ownBlock = some b → b < w.heap.size ∧ b ≠ vy ∧ b ≠ pb ∧ b ≠ rb) : RyAt vy pb rb P (updN R k { R k with c := c }) (fun i => F i ∨ v.ownBlock = some i) (w.setCell ⟨rb, k * 9, none⟩ v) := by
 obtain ⟨vs, Cp, Cr, h1, h2, h3, h4, h5, h6, h7, h8, h9, h10, h11, h12, h13⟩ := h
 have ho : ∀ i, i ≠ rb → (w.setCell ⟨rb, k * 9, none⟩ v).heap[i]? = w.heap[i]? := fun i hi => Below.heap_setCell _ _ _ i hi
 have hs : (w.setCell ⟨rb, k * 9, none⟩ v).heap.size = w.heap.size := by simp [World.setCell]
 refine ⟨updN vs k v, Cp, Cr.setIfInBounds (k * 9 + 0) v, (ho vy h11).trans h1, (ho pb h12).trans h2, block_set _ h3, h4, (h5.set hk (j := 0) (by omega) v).congr (fun i hi => ?_), fun i hi => ?_, .inl h7, .inl h8, .inl h9, h10, h11, h12, fun i hi => by rw [hs]; exact hi.elim (h13 i) (fun e => (hv i e).1)⟩
 · by_cases e : i = k
   · subst e; rw [updN_same, updN_same, updN_same]; rfl
   · rw [updN_other _ _ e, updN_other _ _ e, updN_other _ _ e]
 · by_cases e : i = k
   · subst e
     rw [updN_same, updN_same]
     exact ⟨hr.keep (by omega) (fun b hb => ho b (hv b hb).2.2.2), fun b hb => ⟨.inr hb, (hv b hb).2⟩⟩
   · rw [updN_other _ _ e, updN_other _ _ e]
     exact ⟨(h6 i hi).1.keep (by omega) (fun b hb => ho b ((h6 i hi).2 b hb).2.2.2), fun b hb => ⟨.inl ((h6 i hi).2 b hb).1, ((h6 i hi).2 b hb).2⟩⟩
theorem ry_step {F' : FP} {W' : World} (h : (ryM vy pb rb P R).to F w W) (hs : ∀ F1, RyAt vy pb rb P R F1 W → ∃ F2, RyAt vy pb rb P' R' F2 W' ∧ (∀ k, F2 k → F1 k ∨ w.heap.size ≤ k) ∧ Only F1 (fun _ => False) W W') : (ryM vy pb rb P' R').to F w W' := by
 obtain ⟨F1, h1, h2, h3⟩ := h
 obtain ⟨F2, k1, k2, k3⟩ := hs F1 h1
 exact ⟨F2, k1, fun k hk => (k2 k hk).elim (h2 k) .inr, Mem.only_trans h3 k3 h2⟩
theorem only_setR {F : FP} {a : Addr} {v : Value} (h : F a.block) : Only F (fun _ => False) w (w.setCell a v) :=
 ⟨⟨rfl, rfl, rfl, by simp [World.setCell]⟩, fun k hk h1 _ => Below.heap_setCell _ _ _ k (fun e => h1 (e ▸ h))⟩
theorem ry_setP (h : (ryM vy pb rb P R).to F w W) {k j : Nat} (hk : k < 12) (hj : j < 7) {u : Value} {p' : Pl} (hu : poL p' = (poL (P k)).set j u) : (ryM vy pb rb (putP P k p') R).to F w (W.setCell ⟨pb, k * 7 + j, none⟩ u) :=
 ry_step (F' := F) h (fun F1 h1 => ⟨F1, h1.setP hk hj hu, fun k hk => .inl hk, only_setR h1.own.2.1⟩)
theorem ry_setR (h : (ryM vy pb rb P R).to F w W) {k j : Nat} (hk : k < 40) (hj : j < 9) {u : Value} {r' : Rc} (hu : ∀ v, rcL v r' = (rcL v (R k)).set j u) (hc : r'.c = (R k).c) : (ryM vy pb rb P (updN R k r')).to F w (W.setCell ⟨rb, k * 9 + j, none⟩ u) :=
 ry_step (F' := F) h (fun F1 h1 => ⟨F1, h1.setR hk hj hu hc, fun k hk => .inl hk, only_setR h1.own.2.2.1⟩)
theorem ry_setC (h : (ryM vy pb rb P R).to F w W) {k : Nat} (hk : k < 40) {v : Value} {c : List (Int × Bal)} (hr : RdR castR W v c) (hv : ∀ b, v.ownBlock = some b → w.heap.size ≤ b ∧ b < W.heap.size ∧ b ≠ vy ∧ b ≠ pb ∧ b ≠ rb) : (ryM vy pb rb P (updN R k { R k with c := c })).to F w (W.setCell ⟨rb, k * 9, none⟩ v) :=
 ry_step (F' := F) h (fun F1 h1 => ⟨_, h1.setC hk hr (fun b hb => (hv b hb).2), fun i hi => hi.imp id (fun e => (hv i e).1), only_setR h1.own.2.2.1⟩)
theorem ry_at (h : (ryM vy pb rb P R).to F w W) : ∃ F', RyAt vy pb rb P R F' W := by
 obtain ⟨F1, h1, -⟩ := h
 exact ⟨F1, h1⟩
theorem ry_below {W' : World} (h : (ryM vy pb rb P R).to F w W) (hb : Below W.heap.size W W') : (ryM vy pb rb P R).to F w W' := Mem.to_then_below h hb
theorem ry_refl (h : RyAt vy pb rb P R F w) : (ryM vy pb rb P R).to F w w := ⟨F, h, fun k hk => .inl hk, Only.refl _ _ _⟩
end
end
section
open Go.RowKit Go.Maps
section
variable {β : Type}
theorem cget_put {M : Cls β} (h : SrtC M) (a b a' b' : Int) (v : β) : cget (cput M a b v) a' b' = if a' = a ∧ b' = b then some v else cget M a' b' := by
 unfold cget
 rw [h.row_put]
 by_cases e : a' = a
 · subst e
   rw [if_pos rfl, (h.row a').get_put]
   by_cases e2 : b' = b <;> simp [e2]
 · rw [if_neg e]; simp [e]
theorem cget_del {M : Cls β} (h : SrtC M) (a b a' b' : Int) : cget (cdel M a b) a' b' = if a' = a ∧ b' = b then none else cget M a' b' := by
 unfold cget
 rw [h.row_del]
 by_cases e : a' = a
 · subst e
   rw [if_pos rfl, (h.row a').get_del]
   by_cases e2 : b' = b <;> simp [e2]
 · rw [if_neg e]; simp [e]
end
def kOf (a t : Int) : Nat := (a * 4 + t).toNat
theorem kOf_lt {a t : Int} (ha : isAcc a) (ht : 0 ≤ t ∧ t < 4) : kOf a t < 40 := by unfold kOf isAcc at *; omega
theorem kOf_cast {a t : Int} (ha : isAcc a) (ht : 0 ≤ t ∧ t < 4) : (kOf a t : Int) = a * 4 + t := by unfold kOf isAcc at *; omega
def rcAt (S : Vs) (a t : Int) : Rc := ⟨ballots S a t, (cget S.D a t).isSome, (undD S a t).to, (undD S a t).l, (undD S a t).n, gotS S a t, ((cget S.Q a t).getD ⟨0, 0⟩).v, ((cget S.Q a t).getD ⟨0, 0⟩).c⟩
def rcOf (S : Vs) (k : Nat) : Rc := rcAt S ((k / 4 : Nat) : Int) ((k % 4 : Nat) : Int)
theorem rcOf_at (S : Vs) {a t : Int} (ha : isAcc a) (ht : 0 ≤ t ∧ t < 4) : rcOf S (kOf a t) = rcAt S a t := by
 unfold rcOf
 have e1 : ((kOf a t / 4 : Nat) : Int) = a := by unfold kOf isAcc at *; omega
 have e2 : ((kOf a t % 4 : Nat) : Int) = t := by unfold kOf isAcc at *; omega
 rw [e1, e2]
theorem rcOf_split {k : Nat} (hk : k < 40) : ∃ a t : Int, isAcc a ∧ (0 ≤ t ∧ t < 4) ∧ k = kOf a t := ⟨((k / 4 : Nat) : Int), ((k % 4 : Nat) : Int), by unfold isAcc; omega, by omega, by unfold kOf; omega⟩
theorem kOf_inj {a t a' t' : Int} (ha : isAcc a) (ht : 0 ≤ t ∧ t < 4) (ha' : isAcc a') (ht' : 0 ≤ t' ∧ t' < 4) : kOf a t = kOf a' t' ↔ a = a' ∧ t = t' := by unfold kOf isAcc at *; omega
theorem updN_rec {S S' : Vs} {a t : Int} {rc : Rc} (ha : isAcc a) (ht : 0 ≤ t ∧ t < 4) (h : ∀ a' t', isAcc a' → (0 ≤ t' ∧ t' < 4) → rcAt S' a' t' = if a' = a ∧ t' = t then rc else rcAt S a' t') : ∀ k, k < 40 → updN (rcOf S) (kOf a t) rc k = rcOf S' k := by
 intro k hk
 obtain ⟨a', t', ha', ht', rfl⟩ := rcOf_split hk
 rw [rcOf_at S' ha' ht', h a' t' ha' ht']
 by_cases e : a' = a ∧ t' = t
 · rw [if_pos e, e.1, e.2, updN_same]
 · rw [if_neg e, updN_other _ _ (fun q => e ((kOf_inj ha' ht' ha ht).1 q)), rcOf_at S ha' ht']
theorem rec_same {S S' : Vs} (h : ∀ a' t', isAcc a' → (0 ≤ t' ∧ t' < 4) → rcAt S' a' t' = rcAt S a' t') : ∀ k, k < 40 → rcOf S k = rcOf S' k := by
 intro k hk
 obtain ⟨a', t', ha', ht', rfl⟩ := rcOf_split hk
 rw [rcOf_at S' ha' ht', h a' t' ha' ht', rcOf_at S ha' ht']
theorem tbal_tr {P P' : Nat → Pl} (h : ∀ k, (P' k).tr = (P k).tr) (t : Int) (l : List (Int × Bal)) : tbal P' t l = tbal P t l := by
 unfold tbal
 congr 1
 funext x
 rw [h]
theorem putP_tr {P : Nat → Pl} {k : Nat} {p : Pl} (h : p.tr = (P k).tr) (i : Nat) : (putP P k p i).tr = (P i).tr := by
 by_cases e : i = k
 · subst e; rw [putP_same, h]
 · rw [putP_other _ _ e]
theorem tbal_key (P : Nat → Pl) (t : Int) : ∀ x y : Int × Bal, x.1 = y.1 → ((P x.1.toNat).tr == t) = ((P y.1.toNat).tr == t) := fun x y h => by rw [h]
theorem ballots_srt {S : Vs} (h : SrtC S.V) (a t : Int) : SrtK (ballots S a t) := List.Pairwise.filter _ (h.row a)
theorem ballots_get {S : Vs} (h : SrtC S.V) (a r : Int) : sget (ballots S a (S.P r.toNat).tr) r = cget S.V a r :=
 sget_filter (p := fun x => (S.P x.1.toNat).tr == (S.P r.toNat).tr) (tbal_key S.P _) (h.row a) r ⟨0, false, 0, 0, 0, 0⟩ (by simp)
theorem ballots_put {S : Vs} (h : SrtC S.V) {P' : Nat → Pl} (hP : ∀ k, (P' k).tr = (S.P k).tr) (a r : Int) (x : Bal) (a' t' : Int) : ballots { S with V := cput S.V a r x, P := P' } a' t' = if a' = a ∧ t' = (S.P r.toNat).tr then sput (ballots S a t') r x else ballots S a' t' := by
 unfold ballots
 simp only
 rw [tbal_tr hP, h.row_put]
 by_cases e : a' = a
 · subst e
   rw [if_pos rfl]
   unfold tbal
   rw [sput_filter (tbal_key S.P t') (h.row a')]
   by_cases e2 : t' = (S.P r.toNat).tr
   · rw [if_pos (by simp [e2]), if_pos ⟨rfl, e2⟩]
   · rw [if_neg (by simp; exact fun q => e2 q.symm), if_neg (fun q => e2 q.2)]
 · rw [if_neg e, if_neg (fun q => e q.1)]
theorem ballots_del {S : Vs} (h : SrtC S.V) {P' : Nat → Pl} (hP : ∀ k, (P' k).tr = (S.P k).tr) (a r : Int) (a' t' : Int) : ballots { S with V := cdel S.V a r, P := P' } a' t' = if a' = a ∧ t' = (S.P r.toNat).tr then sdel (ballots S a t') r else ballots S a' t' := by
 unfold ballots
 simp only
 rw [tbal_tr hP, h.row_del]
 by_cases e : a' = a
 · subst e
   rw [if_pos rfl]
   unfold tbal
   rw [sdel_filter]
   by_cases e2 : t' = (S.P r.toNat).tr
   · rw [if_pos ⟨rfl, e2⟩]
   · rw [if_neg (fun q => e2 q.2)]
     refine sdel_all (fun y hy => fun q => ?_)
     have := (List.mem_filter.1 hy).2
     rw [q] at this
     simp at this
     exact e2 this.symm
 · rw [if_neg e, if_neg (fun q => e q.1)]
theorem Rc.eq {r s : Rc} (h1 : r.c = s.c) (h2 : r.on = s.on) (h3 : r.who = s.who) (h4 : r.l = s.l) (h5 : r.n = s.n) (h6 : r.g = s.g) (h7 : r.u = s.u) (h8 : r.p = s.p) : r = s := by
 cases r; cases s; simp_all
theorem rec_vote {S : Vs} (h : SrtC S.V) {a r : Int} (ha : isAcc a) (ht : 0 ≤ (S.P r.toNat).tr ∧ (S.P r.toNat).tr < 4) (x : Bal) {P' : Nat → Pl} (hP : ∀ k, (P' k).tr = (S.P k).tr) :
 ∀ k, k < 40 → updN (rcOf S) (kOf a (S.P r.toNat).tr) { rcOf S (kOf a (S.P r.toNat).tr) with c := sput (ballots S a (S.P r.toNat).tr) r x } k = rcOf { S with V := cput S.V a r x, P := P' } k := by
 refine updN_rec ha ht (fun a' t' ha' ht' => ?_)
 rw [rcOf_at S ha ht]
 by_cases e : a' = a ∧ t' = (S.P r.toNat).tr
 · obtain ⟨rfl, rfl⟩ := e
   rw [if_pos ⟨rfl, rfl⟩]
   exact Rc.eq (by show ballots _ _ _ = _; rw [ballots_put h hP, if_pos ⟨rfl, rfl⟩]) rfl rfl rfl rfl rfl rfl rfl
 · rw [if_neg e]
   exact Rc.eq (by show ballots _ _ _ = _; rw [ballots_put h hP, if_neg e]; rfl) rfl rfl rfl rfl rfl rfl rfl
theorem rec_unvote {S : Vs} (h : SrtC S.V) {a r : Int} (ha : isAcc a) (ht : 0 ≤ (S.P r.toNat).tr ∧ (S.P r.toNat).tr < 4) {P' : Nat → Pl} (hP : ∀ k, (P' k).tr = (S.P k).tr) :
 ∀ k, k < 40 → updN (rcOf S) (kOf a (S.P r.toNat).tr) { rcOf S (kOf a (S.P r.toNat).tr) with c := sdel (ballots S a (S.P r.toNat).tr) r } k = rcOf { S with V := cdel S.V a r, P := P' } k := by
 refine updN_rec ha ht (fun a' t' ha' ht' => ?_)
 rw [rcOf_at S ha ht]
 by_cases e : a' = a ∧ t' = (S.P r.toNat).tr
 · obtain ⟨rfl, rfl⟩ := e
   rw [if_pos ⟨rfl, rfl⟩]
   exact Rc.eq (by show ballots _ _ _ = _; rw [ballots_del h hP, if_pos ⟨rfl, rfl⟩]) rfl rfl rfl rfl rfl rfl rfl
 · rw [if_neg e]
   exact Rc.eq (by show ballots _ _ _ = _; rw [ballots_del h hP, if_neg e]; rfl) rfl rfl rfl rfl rfl rfl rfl
theorem rec_polls (S : Vs) {P' : Nat → Pl} (hP : ∀ k, (P' k).tr = (S.P k).tr) : ∀ k, k < 40 → rcOf S k = rcOf { S with P := P' } k :=
 rec_same (fun a' t' _ _ => Rc.eq (by show ballots _ _ _ = ballots _ _ _; unfold ballots; exact tbal_tr hP _ _) rfl rfl rfl rfl rfl rfl rfl)
theorem rec_prior {S : Vs} (h : SrtC S.Q) {a t : Int} (ha : isAcc a) (ht : 0 ≤ t ∧ t < 4) (q : Wgt) : ∀ k, k < 40 → updN (rcOf S) (kOf a t) { rcOf S (kOf a t) with u := q.v, p := q.c } k = rcOf { S with Q := cput S.Q a t q } k := by
 refine updN_rec ha ht (fun a' t' ha' ht' => ?_)
 rw [rcOf_at S ha ht]
 by_cases e : a' = a ∧ t' = t
 · obtain ⟨rfl, rfl⟩ := e
   rw [if_pos ⟨rfl, rfl⟩]
   have e1 : cget (cput S.Q a' t' q) a' t' = some q := by rw [cget_put h, if_pos ⟨rfl, rfl⟩]
   exact Rc.eq rfl rfl rfl rfl rfl rfl (congrArg (fun o : Option Wgt => (o.getD ⟨0, 0⟩).v) e1) (congrArg (fun o : Option Wgt => (o.getD ⟨0, 0⟩).c) e1)
 · rw [if_neg e]
   have e1 : cget (cput S.Q a t q) a' t' = cget S.Q a' t' := by rw [cget_put h, if_neg e]
   exact Rc.eq rfl rfl rfl rfl rfl rfl (congrArg (fun o : Option Wgt => (o.getD ⟨0, 0⟩).v) e1) (congrArg (fun o : Option Wgt => (o.getD ⟨0, 0⟩).c) e1)
theorem rec_noprior {S : Vs} (h : SrtC S.Q) {a t : Int} (ha : isAcc a) (ht : 0 ≤ t ∧ t < 4) : ∀ k, k < 40 → updN (rcOf S) (kOf a t) { rcOf S (kOf a t) with u := 0, p := 0 } k = rcOf { S with Q := cdel S.Q a t } k := by
 refine updN_rec ha ht (fun a' t' ha' ht' => ?_)
 rw [rcOf_at S ha ht]
 by_cases e : a' = a ∧ t' = t
 · obtain ⟨rfl, rfl⟩ := e
   rw [if_pos ⟨rfl, rfl⟩]
   have e1 : cget (cdel S.Q a' t') a' t' = none := by rw [cget_del h, if_pos ⟨rfl, rfl⟩]
   exact Rc.eq rfl rfl rfl rfl rfl rfl (congrArg (fun o : Option Wgt => (o.getD ⟨0, 0⟩).v) e1) (congrArg (fun o : Option Wgt => (o.getD ⟨0, 0⟩).c) e1)
 · rw [if_neg e]
   have e1 : cget (cdel S.Q a t) a' t' = cget S.Q a' t' := by rw [cget_del h, if_neg e]
   exact Rc.eq rfl rfl rfl rfl rfl rfl (congrArg (fun o : Option Wgt => (o.getD ⟨0, 0⟩).v) e1) (congrArg (fun o : Option Wgt => (o.getD ⟨0, 0⟩).c) e1)
theorem rec_lends {S : Vs} (h : SrtC S.D) {a t : Int} (ha : isAcc a) (ht : 0 ≤ t ∧ t < 4) (d : Dlg) : ∀ k, k < 40 → updN (rcOf S) (kOf a t) { rcOf S (kOf a t) with on := true, who := d.to, l := d.l, n := d.n } k = rcOf { S with D := cput S.D a t d } k := by
 refine updN_rec ha ht (fun a' t' ha' ht' => ?_)
 rw [rcOf_at S ha ht]
 by_cases e : a' = a ∧ t' = t
 · obtain ⟨rfl, rfl⟩ := e
   rw [if_pos ⟨rfl, rfl⟩]
   have e1 : cget (cput S.D a' t' d) a' t' = some d := by rw [cget_put h, if_pos ⟨rfl, rfl⟩]
   exact Rc.eq rfl (congrArg (fun o : Option Dlg => o.isSome) e1) (congrArg (fun o : Option Dlg => (o.getD dlgS.zero).to) e1) (congrArg (fun o : Option Dlg => (o.getD dlgS.zero).l) e1) (congrArg (fun o : Option Dlg => (o.getD dlgS.zero).n) e1) rfl rfl rfl
 · rw [if_neg e]
   have e1 : cget (cput S.D a t d) a' t' = cget S.D a' t' := by rw [cget_put h, if_neg e]
   exact Rc.eq rfl (congrArg (fun o : Option Dlg => o.isSome) e1) (congrArg (fun o : Option Dlg => (o.getD dlgS.zero).to) e1) (congrArg (fun o : Option Dlg => (o.getD dlgS.zero).l) e1) (congrArg (fun o : Option Dlg => (o.getD dlgS.zero).n) e1) rfl rfl rfl
theorem rec_lendsNo {S : Vs} (h : SrtC S.D) {a t : Int} (ha : isAcc a) (ht : 0 ≤ t ∧ t < 4) : ∀ k, k < 40 → updN (rcOf S) (kOf a t) { rcOf S (kOf a t) with on := false, who := 0, l := 0, n := 0 } k = rcOf { S with D := cdel S.D a t } k := by
 refine updN_rec ha ht (fun a' t' ha' ht' => ?_)
 rw [rcOf_at S ha ht]
 by_cases e : a' = a ∧ t' = t
 · obtain ⟨rfl, rfl⟩ := e
   rw [if_pos ⟨rfl, rfl⟩]
   have e1 : cget (cdel S.D a' t') a' t' = none := by rw [cget_del h, if_pos ⟨rfl, rfl⟩]
   exact Rc.eq rfl (congrArg (fun o : Option Dlg => o.isSome) e1) (congrArg (fun o : Option Dlg => (o.getD dlgS.zero).to) e1) (congrArg (fun o : Option Dlg => (o.getD dlgS.zero).l) e1) (congrArg (fun o : Option Dlg => (o.getD dlgS.zero).n) e1) rfl rfl rfl
 · rw [if_neg e]
   have e1 : cget (cdel S.D a t) a' t' = cget S.D a' t' := by rw [cget_del h, if_neg e]
   exact Rc.eq rfl (congrArg (fun o : Option Dlg => o.isSome) e1) (congrArg (fun o : Option Dlg => (o.getD dlgS.zero).to) e1) (congrArg (fun o : Option Dlg => (o.getD dlgS.zero).l) e1) (congrArg (fun o : Option Dlg => (o.getD dlgS.zero).n) e1) rfl rfl rfl
theorem rec_got {S : Vs} (h : SrtC S.G) {a t : Int} (ha : isAcc a) (ht : 0 ≤ t ∧ t < 4) (g : Wgt) {P' : Nat → Pl} (hP : ∀ k, (P' k).tr = (S.P k).tr) : ∀ k, k < 40 → updN (rcOf S) (kOf a t) { rcOf S (kOf a t) with g := g } k = rcOf { S with G := cput S.G a t g, P := P' } k := by
 refine updN_rec ha ht (fun a' t' ha' ht' => ?_)
 rw [rcOf_at S ha ht]
 by_cases e : a' = a ∧ t' = t
 · obtain ⟨rfl, rfl⟩ := e
   rw [if_pos ⟨rfl, rfl⟩]
   have e1 : cget (cput S.G a' t' g) a' t' = some g := by rw [cget_put h, if_pos ⟨rfl, rfl⟩]
   exact Rc.eq (by show ballots _ _ _ = ballots _ _ _; unfold ballots; exact tbal_tr hP _ _) rfl rfl rfl rfl (congrArg (fun o : Option Wgt => o.getD ⟨0, 0⟩) e1) rfl rfl
 · rw [if_neg e]
   have e1 : cget (cput S.G a t g) a' t' = cget S.G a' t' := by rw [cget_put h, if_neg e]
   exact Rc.eq (by show ballots _ _ _ = ballots _ _ _; unfold ballots; exact tbal_tr hP _ _) rfl rfl rfl rfl (congrArg (fun o : Option Wgt => o.getD ⟨0, 0⟩) e1) rfl rfl
end
section
open Go.RowKit Go.Maps
section
variable {vy pb rb : Nat} {P P' : Nat → Pl} {R R' : Nat → Rc} {F : FP} {w w' W : World}
theorem ry_rec (h : RyAt vy pb rb P R F w) {a t : Int} (ha : isAcc a) (ht : 0 ≤ t ∧ t < 4) : Calls Tryz.prog 90 #[.pointer (some ⟨vy, 0, none⟩), .int .i64 a, .int .i64 t] w fun e w' => e = .returned (.pointer (some ⟨rb, kOf a t * 9, none⟩)) ∧ w' = w := by
 obtain ⟨c0, c1⟩ := h.top
 have hk := kOf_lt ha ht
 have hc := kOf_cast ha ht
 obtain ⟨k, hkk⟩ : ∃ k, k = kOf a t := ⟨_, rfl⟩
 rw [← hkk] at hk hc ⊢
 have w1 : IntKind.i64.wrap (a * 4) = a * 4 := IntWalk.i64_in _ (by unfold isAcc at ha; omega)
 have w2 : IntKind.i64.wrap (a * 4 + t) = (k : Int) := by rw [← hc]; exact IntWalk.i64_in _ (by omega)
 have hk' : (k : Int) < 40 := by omega
 clear ha ht hc hkk c0 h
 go_enter Tryz.func90, Tryz.ntmps90
 go_wp2_with fail
 exact bodyPost_ret (v := .pointer (some ⟨rb, k * 9, none⟩)) (by simp [results, Tryz.results90, go_sem]) rfl ⟨rfl, rfl⟩
theorem ry_track (t : Int) (w : World) : Calls Tryz.prog 86 #[.int .i64 t] w fun e w' => e = .returned (.bool (decide (0 ≤ t ∧ t < 4))) ∧ w' = w := by
 by_cases h0 : 0 ≤ t
 · by_cases h1 : t < 4
   · have e : decide (0 ≤ t ∧ t < 4) = true := decide_eq_true ⟨h0, h1⟩
     rw [e]
     go_enter Tryz.func86, Tryz.ntmps86
     go_wp2_with fail
     exact bodyPost_ret (v := .bool true) (by simp [results, Tryz.results86, go_sem]) rfl ⟨rfl, rfl⟩
   · have e : decide (0 ≤ t ∧ t < 4) = false := decide_eq_false (fun q => h1 q.2)
     rw [e]
     go_enter Tryz.func86, Tryz.ntmps86
     go_wp2_with fail
     exact bodyPost_ret (v := .bool false) (by simp [results, Tryz.results86, go_sem]) rfl ⟨rfl, rfl⟩
 · have e : decide (0 ≤ t ∧ t < 4) = false := decide_eq_false (fun q => h0 q.1)
   rw [e]
   go_enter Tryz.func86, Tryz.ntmps86
   go_wp2_with fail
   exact bodyPost_ret (v := .bool false) (by simp [results, Tryz.results86, go_sem]) rfl ⟨rfl, rfl⟩
theorem ry_Has (h : RyAt vy pb rb P R F w) (r : Int) : Calls Tryz.prog 11 #[.pointer (some ⟨vy, 0, none⟩), .int .i64 r] w fun e w' => e = .returned (.bool (decide (plHas P r))) ∧ w' = w := by
 by_cases h0 : 0 ≤ r
 · by_cases h1 : r < 12
   · obtain ⟨k, rfl⟩ : ∃ k : Nat, r = k := ⟨r.toNat, by omega⟩
     have hk : k < 12 := by omega
     obtain ⟨c0, c1⟩ := h.top
     have p0 := (h.poll hk).1
     have e : decide (plHas P k) = decide ((P k).st ≠ 0) := by
      rw [decide_eq_decide]
      unfold plHas
      simp [h0, h1]
     rw [e]
     obtain ⟨b, hb⟩ : ∃ b, b = decide ((P k).st ≠ 0) := ⟨_, rfl⟩
     rw [← hb] at p0 ⊢
     clear hb e c1 h
     go_enter Tryz.func11, Tryz.ntmps11
     go_wp2_with fail
     exact bodyPost_ret (v := .bool b) (by simp [results, Tryz.results11, go_sem]) rfl ⟨rfl, rfl⟩
   · have e : decide (plHas P r) = false := decide_eq_false (fun q => h1 q.1.2)
     rw [e]
     clear h
     go_enter Tryz.func11, Tryz.ntmps11
     go_wp2_with fail
     exact bodyPost_ret (v := .bool false) (by simp [results, Tryz.results11, go_sem]) rfl ⟨rfl, rfl⟩
 · have e : decide (plHas P r) = false := decide_eq_false (fun q => h0 q.1.1)
   rw [e]
   clear h
   go_enter Tryz.func11, Tryz.ntmps11
   go_wp2_with fail
   exact bodyPost_ret (v := .bool false) (by simp [results, Tryz.results11, go_sem]) rfl ⟨rfl, rfl⟩
theorem ry_open (h : RyAt vy pb rb P R F w) {k : Nat} (hk : k < 12) : Calls Tryz.prog 87 #[.pointer (some ⟨vy, 0, none⟩), .int .i64 k] w fun e w' => e = .returned (.bool ((P k).st == 1)) ∧ w' = w := by
 obtain ⟨c0, c1⟩ := h.top
 have p0 := (h.poll hk).2.2.1
 obtain ⟨s, hs⟩ : ∃ s, s = (P k).st := ⟨_, rfl⟩
 rw [← hs] at p0 ⊢
 have hk' : (k : Int) < 12 := by omega
 clear hs c1 h
 go_enter Tryz.func87, Tryz.ntmps87
 go_wp2_with fail
 exact bodyPost_ret (v := .bool (s == 1)) (by simp [results, Tryz.results87, go_sem]) rfl ⟨rfl, rfl⟩
def storePo (a v : Value) : Sem Unit := Instr.storeAt 43 a v
theorem storePo_hide (a v : Value) : Instr.storeAt 43 a v = storePo a v := rfl
theorem run_storePo {w : World} {b k : Nat} (h : w.there b k 7) (p : Pl) : (storePo (.pointer (some ⟨b, k, none⟩)) (.agg (poL p).toArray)).run Tryz.prog w = .ok () (w.setCells b k (poL p)) :=
 run_storeAt_mid w b k 43 (poL p).toArray h (by kernel_rfl) (by simp [poL, Value.oneCell'])
end
end
section
open Go.RowKit Go.Maps
def aSets (C : Array Value) (o : Nat) : List Value → Array Value
 | [] => C
 | v :: vs => aSets (C.setIfInBounds o v) (o + 1) vs
def lSets (l : List Value) (o : Nat) : List Value → List Value
 | [] => l
 | v :: vs => lSets (l.set o v) (o + 1) vs
theorem block_sets {b : Nat} {t : TypeId} {fr : Nat × Nat} : ∀ (vs : List Value) (o : Nat) (w : World) (C : Array Value), w.heap[b]? = some (.cells C t fr) → (w.setCells b o vs).heap[b]? = some (.cells (aSets C o vs) t fr)
 | [], o, w, C, h => h
 | v :: vs, o, w, C, h => block_sets vs (o + 1) _ _ (block_set v h)
theorem updN_updN {α : Type} (f : Nat → α) (k : Nat) (x y : α) : updN (updN f k x) k y = updN f k y := by funext i; by_cases h : i = k <;> simp [updN, h]
theorem Tab.sets {n m k : Nat} (hk : k < n) : ∀ (vs : List Value) (o : Nat) (f : Nat → List Value) (C : Array Value), Tab n m f C → o + vs.length ≤ m → Tab n m (updN f k (lSets (f k) o vs)) (aSets C (k * m + o) vs)
 | [], o, f, C, h, _ => h.congr (fun i hi => by by_cases e : i = k; (subst e; rw [updN_same]; rfl); rw [updN_other _ _ e])
 | v :: vs, o, f, C, h, hl => by
  simp only [List.length_cons] at hl
  have h1 := Tab.sets hk vs (o + 1) _ _ (h.set hk (j := o) (by omega) v) (by omega)
  rw [updN_updN, updN_same] at h1
  exact h1
section
variable {vy pb rb : Nat} {P P' : Nat → Pl} {R R' : Nat → Rc} {F : FP} {w w' W : World}
theorem setCells_size (b : Nat) (vs : List Value) (o : Nat) (w : World) : (w.setCells b o vs).heap.size = w.heap.size := by
 induction vs generalizing o w with
 | nil => rfl
 | cons v vs ih => exact (ih (o + 1) _).trans (by simp [World.setCell])
theorem RyAt.setPs (h : RyAt vy pb rb P R F w) {k o : Nat} (hk : k < 12) {vs : List Value} (ho : o + vs.length ≤ 7) {p' : Pl} (hu : poL p' = lSets (poL (P k)) o vs) : RyAt vy pb rb (putP P k p') R F (w.setCells pb (k * 7 + o) vs) := by
 obtain ⟨us, Cp, Cr, h1, h2, h3, h4, h5, h6, h7, h8, h9, h10, h11, h12, h13⟩ := h
 have hof : ∀ i, i ≠ pb → (w.setCells pb (k * 7 + o) vs).heap[i]? = w.heap[i]? := fun i hi => setCells_off hi _ _ _
 have hs := setCells_size pb vs (k * 7 + o) w
 refine ⟨us, aSets Cp (k * 7 + o) vs, Cr, (hof vy h10).trans h1, block_sets _ _ _ _ h2, (hof rb (fun e => h12 e.symm)).trans h3, (Tab.sets hk vs o _ _ h4 ho).congr (fun i hi => ?_), h5, fun i hi => ⟨(h6 i hi).1.keep (by omega) (fun b hb => hof b ((h6 i hi).2 b hb).2.2.1), (h6 i hi).2⟩, h7, h8, h9, h10, h11, h12, fun i hi => by rw [hs]; exact h13 i hi⟩
 by_cases e : i = k
 · subst e; rw [updN_same, putP_same, hu]
 · rw [updN_other _ _ e, putP_other _ _ e]
theorem RyAt.setRs (h : RyAt vy pb rb P R F w) {k o : Nat} (hk : k < 40) {vs : List Value} (ho : o + vs.length ≤ 9) {r' : Rc} (hu : ∀ v, rcL v r' = lSets (rcL v (R k)) o vs) (hc : r'.c = (R k).c) : RyAt vy pb rb P (updN R k r') F (w.setCells rb (k * 9 + o) vs) := by
 obtain ⟨us, Cp, Cr, h1, h2, h3, h4, h5, h6, h7, h8, h9, h10, h11, h12, h13⟩ := h
 have hof : ∀ i, i ≠ rb → (w.setCells rb (k * 9 + o) vs).heap[i]? = w.heap[i]? := fun i hi => setCells_off hi _ _ _
 have hs := setCells_size rb vs (k * 9 + o) w
 refine ⟨us, Cp, aSets Cr (k * 9 + o) vs, (hof vy h11).trans h1, (hof pb h12).trans h2, block_sets _ _ _ _ h3, h4, (Tab.sets hk vs o _ _ h5 ho).congr (fun i hi => ?_), fun i hi => ⟨?_, (h6 i hi).2⟩, h7, h8, h9, h10, h11, h12, fun i hi => by rw [hs]; exact h13 i hi⟩
 · by_cases e : i = k
   · subst e; rw [updN_same, updN_same, hu]
   · rw [updN_other _ _ e, updN_other _ _ e]
 · have := (h6 i hi).1.keep (w' := w.setCells rb (k * 9 + o) vs) (by omega) (fun b hb => hof b ((h6 i hi).2 b hb).2.2.2)
   by_cases e : i = k
   · subst e; rw [updN_same, hc]; exact this
   · rw [updN_other _ _ e]; exact this
theorem only_setsR {F : FP} {b o : Nat} {vs : List Value} (h : F b) : Only F (fun _ => False) w (w.setCells b o vs) :=
 ⟨setCells_grow _ _ _, fun k hk h1 _ => setCells_off (b := b) (k := k) (fun e => h1 (by rw [e]; exact h)) _ _ _⟩
theorem ry_setPs (h : (ryM vy pb rb P R).to F w W) {k o : Nat} (hk : k < 12) {vs : List Value} (ho : o + vs.length ≤ 7) {p' : Pl} (hu : poL p' = lSets (poL (P k)) o vs) : (ryM vy pb rb (putP P k p') R).to F w (W.setCells pb (k * 7 + o) vs) :=
 ry_step (F' := F) h (fun F1 h1 => ⟨F1, h1.setPs hk ho hu, fun k hk => .inl hk, only_setsR h1.own.2.1⟩)
theorem ry_setRs (h : (ryM vy pb rb P R).to F w W) {k o : Nat} (hk : k < 40) {vs : List Value} (ho : o + vs.length ≤ 9) {r' : Rc} (hu : ∀ v, rcL v r' = lSets (rcL v (R k)) o vs) (hc : r'.c = (R k).c) : (ryM vy pb rb P (updN R k r')).to F w (W.setCells rb (k * 9 + o) vs) :=
 ry_step (F' := F) h (fun F1 h1 => ⟨F1, h1.setRs hk ho hu hc, fun k hk => .inl hk, only_setsR h1.own.2.2.1⟩)
theorem RyAt.pthere (h : RyAt vy pb rb P R F w) {k o n : Nat} (hk : k < 12) (hn : o + n ≤ 7) : w.there pb (k * 7 + o) n := fun i hi => by
 refine ⟨?_, (h.frozen _).1⟩
 obtain ⟨vs, Cp, Cr, h1, h2, h3, h4, -⟩ := h
 have := h4.1
 have : k * 7 + o + i < Cp.size := by omega
 simp [World.cell?, h2, this]
theorem RyAt.rthere (h : RyAt vy pb rb P R F w) {k o n : Nat} (hk : k < 40) (hn : o + n ≤ 9) : w.there rb (k * 9 + o) n := fun i hi => by
 refine ⟨?_, (h.frozen _).2⟩
 obtain ⟨vs, Cp, Cr, h1, h2, h3, h4, h5, -⟩ := h
 have := h5.1
 have : k * 9 + o + i < Cr.size := by omega
 simp [World.cell?, h3, this]
def openP (P : Nat → Pl) (r t : Int) : Nat → Pl := if openE P r t = 0 then putP P r.toNat (newPl t) else P
attribute [local go_sem ↓] storePo_hide in
theorem ry_Open (h : RyAt vy pb rb P R F w) (r t : Int) : Calls Tryz.prog 31 #[.pointer (some ⟨vy, 0, none⟩), .int .i64 r, .int .i64 t] w fun e w' => e = .returned (.int .i64 (openE P r t)) ∧ (ryM vy pb rb (openP P r t) R).to F w w' := by
 have HH := Lib.hid h
 unfold openP
 by_cases hr : 0 ≤ r ∧ r < 12
 · obtain ⟨hr0, hr1⟩ := hr
   have HT := Lib.hid (ry_track t)
   by_cases ht : 0 ≤ t ∧ t < 4
   · obtain ⟨k, rfl⟩ : ∃ k : Nat, r = k := ⟨r.toNat, by omega⟩
     have hk : k < 12 := by omega
     obtain ⟨c0, c1⟩ := h.top
     have p0 := (h.poll hk).1
     have hd : decide (0 ≤ t ∧ t < 4) = true := decide_eq_true ht
     have HD := Lib.hid hd
     by_cases hs : (P k).st = 0
     · have e : openE P k t = 0 := by unfold openE; rw [if_neg (by simp; omega), if_neg (by simpa using hs)]
       rw [if_pos e, e, Int.toNat_natCast]
       rw [show decide ((P k).st ≠ 0) = false from decide_eq_false (fun q => q hs)] at p0
       have rs := run_storePo (h.pthere (o := 0) hk (by omega)) (newPl t)
       have hto := ry_setPs (ry_refl h) (o := 0) hk (vs := poL (newPl t)) (by show 0 + 7 ≤ 7; omega) (p' := newPl t) rfl
       unfold poL newPl at rs hto
       simp only [Nat.add_zero, ne_eq, Int.reduceEq, not_false_eq_true, decide_true] at rs hto
       have HRS := Lib.hid rs
       have HTO := Lib.hid hto
       clear ht hd hs e rs hto c1 h
       have rs := HRS.out
       go_enter Tryz.func31, Tryz.ntmps31
       go_wp2_with (first
        | (go_at_call 86; refine (HT.out _).mono ?_; rw [HD.out]; rintro e w' ⟨rfl, hw⟩; rw [hw]; clear hw w')
        | fail)
       exact bodyPost_ret (v := .int .i64 0) (by simp [results, Tryz.results31, go_sem]) rfl ⟨rfl, HTO.out⟩
     · have e : openE P k t = 5 := by unfold openE; rw [if_neg (by simp; omega), if_pos (by simpa using hs)]
       rw [if_neg (by rw [e]; decide), e]
       rw [show decide ((P k).st ≠ 0) = true from decide_eq_true hs] at p0
       clear ht hd hs e c1 h
       go_enter Tryz.func31, Tryz.ntmps31
       go_wp2_with (first
        | (go_at_call 86; refine (HT.out _).mono ?_; rw [HD.out]; rintro e w' ⟨rfl, hw⟩; rw [hw]; clear hw w')
        | fail)
       exact bodyPost_ret (v := .int .i64 5) (by simp [results, Tryz.results31, go_sem]) rfl ⟨rfl, ry_refl HH.out⟩
   · have hd : decide (0 ≤ t ∧ t < 4) = false := decide_eq_false ht
     have HD := Lib.hid hd
     have e : openE P r t = 1 := by unfold openE; rw [if_pos (.inr ht)]
     rw [if_neg (by rw [e]; decide), e]
     clear ht hd e h
     go_enter Tryz.func31, Tryz.ntmps31
     go_wp2_with (first
      | (go_at_call 86; refine (HT.out _).mono ?_; rw [HD.out]; rintro e w' ⟨rfl, hw⟩; rw [hw]; clear hw w')
      | fail)
     exact bodyPost_ret (v := .int .i64 1) (by simp [results, Tryz.results31, go_sem]) rfl ⟨rfl, ry_refl HH.out⟩
 · have e : openE P r t = 1 := by unfold openE; rw [if_pos (.inl hr)]
   rw [if_neg (by rw [e]; decide), e]
   have hx : r < 0 ∨ (¬ r < 0 ∧ 12 ≤ r) := by omega
   clear e hr h
   rcases hx with hx | ⟨hx, hy⟩
   all_goals
    go_enter Tryz.func31, Tryz.ntmps31
    go_wp2_with fail
    exact bodyPost_ret (v := .int .i64 1) (by simp [results, Tryz.results31, go_sem]) rfl ⟨rfl, ry_refl HH.out⟩
def closeP (P : Nat → Pl) (r st en : Int) : Nat → Pl := if closeE P r st = 0 then putP P r.toNat ⟨st, (P r.toNat).tr, (P r.toNat).ay, (P r.toNat).na, (P r.toNat).su, en⟩ else P
theorem ry_Close (h : RyAt vy pb rb P R F w) (r st en : Int) : Calls Tryz.prog 32 #[.pointer (some ⟨vy, 0, none⟩), .int .i64 r, .int .i64 st, .int .i64 en] w fun e w' => e = .returned (.int .i64 (closeE P r st)) ∧ (ryM vy pb rb (closeP P r st en) R).to F w w' := by
 have HH := Lib.hid h
 unfold closeP
 have hhas := ry_Has h r
 by_cases hr : plHas P r
 · rw [decide_eq_true hr] at hhas
   obtain ⟨k, rfl⟩ : ∃ k : Nat, r = k := ⟨r.toNat, by have := hr.1; omega⟩
   have hk : k < 12 := by have := hr.1; omega
   have hst0 : (P k).st ≠ 0 := by simpa using hr.2
   have hop := ry_open h hk
   by_cases hs : (P k).st = 1
   · rw [show ((P k).st == 1) = true by simp [hs]] at hop
     by_cases h2 : 2 ≤ st ∧ st ≤ 6
     · have e : closeE P k st = 0 := by unfold closeE; rw [if_neg (by rw [Int.toNat_natCast]; exact fun q => q ⟨hr.1, hst0⟩), if_neg (by rw [Int.toNat_natCast]; exact fun q => q hs), if_neg (fun q => q h2)]
       rw [if_pos e, e, Int.toNat_natCast]
       obtain ⟨g1, g2⟩ := h2
       obtain ⟨c0, c1⟩ := h.top
       obtain ⟨q0, q1, q2, q3, -⟩ := h.poll hk
       have hq1 := ry_setP (ry_refl h) (j := 2) hk (by omega) (u := .int .i64 st) (p' := ⟨st, (P k).tr, (P k).ay, (P k).na, (P k).su, (P k).en⟩) (by unfold poL; rw [decide_eq_true hst0, decide_eq_true (show st ≠ 0 by omega)]; rfl)
       have hq2 := ry_setP hq1 (j := 3) hk (by omega) (u := .int .i64 en) (p' := ⟨st, (P k).tr, (P k).ay, (P k).na, (P k).su, en⟩) (by rw [putP_same]; rfl)
       rw [putP_putP] at hq2
       have f2 := (h.frozen (k * 7 + 2)).1
       have f3 := (h.frozen (k * 7 + 3)).1
       have HHAS := Lib.hid hhas
       have HOP := Lib.hid hop
       have HQ2 := Lib.hid hq2
       have hne := h.own.2.2.2.1
       have hkI : (k : Int) < 12 := by omega
       have g3 : ¬ st < 2 := by omega
       have g4 : ¬ 6 < st := by omega
       clear hr hst0 hs hhas hop hq1 hq2 e g1 g2 h q0 q1 c1
       go_enter Tryz.func32, Tryz.ntmps32
       go_upto_region 7 with (first
        | (go_at_call 11; refine HHAS.out.mono ?_; rintro e w' ⟨rfl, hw⟩; rw [hw]; clear hw w')
        | (go_at_call 87; refine HOP.out.mono ?_; rintro e w' ⟨rfl, hw⟩; rw [hw]; clear hw w')
        | fail)
       go_region
       go_wp2_with fail
       exact bodyPost_ret (v := .int .i64 0) (by simp [results, Tryz.results32, go_sem]) rfl ⟨rfl, by first | exact HQ2.out | exact ry_below HQ2.out (Below.refl _ _).drew⟩
     · have e : closeE P k st = 1 := by unfold closeE; rw [if_neg (by rw [Int.toNat_natCast]; exact fun q => q ⟨hr.1, hst0⟩), if_neg (by rw [Int.toNat_natCast]; exact fun q => q hs), if_pos h2]
       rw [if_neg (by rw [e]; decide), e]
       have hx : st < 2 ∨ (¬ st < 2 ∧ 6 < st) := by omega
       have HHAS := Lib.hid hhas
       have HOP := Lib.hid hop
       clear hr hst0 hs hhas hop e h2 h
       rcases hx with hx | ⟨hx, hy⟩
       all_goals
        go_enter Tryz.func32, Tryz.ntmps32
        go_wp2_with (first
         | (go_at_call 11; refine HHAS.out.mono ?_; rintro e w' ⟨rfl, hw⟩; rw [hw]; clear hw w')
         | (go_at_call 87; refine HOP.out.mono ?_; rintro e w' ⟨rfl, hw⟩; rw [hw]; clear hw w')
         | fail)
        exact bodyPost_ret (v := .int .i64 1) (by simp [results, Tryz.results32, go_sem]) rfl ⟨rfl, ry_refl HH.out⟩
   · rw [show ((P k).st == 1) = false by simp [hs]] at hop
     have e : closeE P k st = 9 := by unfold closeE; rw [if_neg (by rw [Int.toNat_natCast]; exact fun q => q ⟨hr.1, hst0⟩), if_pos (by rw [Int.toNat_natCast]; exact hs)]
     rw [if_neg (by rw [e]; decide), e]
     have HHAS := Lib.hid hhas
     have HOP := Lib.hid hop
     clear hr hst0 hs hhas hop e h
     go_enter Tryz.func32, Tryz.ntmps32
     go_wp2_with (first
      | (go_at_call 11; refine HHAS.out.mono ?_; rintro e w' ⟨rfl, hw⟩; rw [hw]; clear hw w')
      | (go_at_call 87; refine HOP.out.mono ?_; rintro e w' ⟨rfl, hw⟩; rw [hw]; clear hw w')
      | fail)
     exact bodyPost_ret (v := .int .i64 9) (by simp [results, Tryz.results32, go_sem]) rfl ⟨rfl, ry_refl HH.out⟩
 · rw [decide_eq_false hr] at hhas
   have e : closeE P r st = 4 := by unfold closeE; exact if_pos hr
   rw [if_neg (by rw [e]; decide), e]
   have HHAS := Lib.hid hhas
   clear hr hhas e h
   go_enter Tryz.func32, Tryz.ntmps32
   go_wp2_with (first
    | (go_at_call 11; refine HHAS.out.mono ?_; rintro e w' ⟨rfl, hw⟩; rw [hw]; clear hw w')
    | fail)
   exact bodyPost_ret (v := .int .i64 4) (by simp [results, Tryz.results32, go_sem]) rfl ⟨rfl, ry_refl HH.out⟩
end
end
section
open Go.RowKit Go.Maps
section
variable {vy pb rb : Nat} {P P' : Nat → Pl} {R R' : Nat → Rc} {F : FP} {w w' W : World}
theorem ry_place (h : RyAt vy pb rb P R F w) {k : Nat} (hk : k < 40) (hs : SrtK (R k).c) (hl : (R k).c.length ≤ 1000) (ref : Int) : Calls Tryz.prog 91 #[.pointer (some ⟨rb, k * 9, none⟩), .int .i64 ref] w fun e w' => e = .returned (.tuple #[.int .i64 (placeN (R k).c ref), .bool (placeB (R k).c ref)]) ∧ Below w.heap.size w w' := by
 obtain ⟨v, hrd, c0, -⟩ := h.rec hk
 obtain ⟨xs, hxs⟩ : ∃ xs, xs = (R k).c := ⟨_, rfl⟩
 rw [← hxs] at hrd hs hl ⊢
 obtain ⟨ao, cap, rfl⟩ := hrd.lenOf
 obtain ⟨n, hn⟩ : ∃ n, n = xs.length := ⟨_, rfl⟩
 rw [← hn] at hrd c0 hl
 have HRD := Lib.hid (And.intro hrd hn)
 have HS := Lib.hid hs
 clear hrd hn hs hxs h
 go_enter Tryz.func91, Tryz.ntmps91
 go_wp2_with fail
 go_loopw [6] (fun i wr => ∃ j : Nat, j ≤ n ∧ i = .int .i64 j ∧ wr = w ∧ ∀ i, i < j → ∃ y, xs[i]? = some y ∧ y.1 < ref) (fun i _ => n - (intOf i).toNat)
 case atStart => exact ⟨0, by omega, rfl, rfl, fun i hi => by omega⟩
 case round =>
  obtain ⟨j, hj, rfl, rfl, hpre⟩ := hrel
  have HPRE := Lib.hid hpre
  clear hpre
  by_cases hlt : j < n
  · have g1 : (j : Int) < n := by omega
    obtain ⟨b, off, rfl, hr, hb⟩ := HRD.out.1.at (show j < xs.length by rw [← HRD.out.2]; exact hlt)
    obtain ⟨x, hx⟩ : ∃ x, x = xs[j]'(by rw [← HRD.out.2]; exact hlt) := ⟨_, rfl⟩
    rw [← hx] at hr
    have hx2 : xs[j]? = some x := by rw [hx]; exact List.getElem?_eq_getElem _
    have d0 : wr.cell? ⟨b, off + j * 7, none⟩ = some (.int .i64 x.1) := hr 0 _ rfl
    obtain ⟨z, hz⟩ : ∃ z, z = x.1 := ⟨_, rfl⟩
    rw [← hz] at d0
    have HX := Lib.hid (And.intro hx2 hz)
    clear hx hr hx2 hz hb
    by_cases hlt2 : z < ref
    · go_wp2_with fail
      go_roundw
      case rel => exact ⟨j + 1, by omega, by go_num, by first | rfl | trivial, fun i hi => by
       by_cases e : i = j
       · rw [e]; exact ⟨x, HX.out.1, by rw [← HX.out.2]; exact hlt2⟩
       · exact HPRE.out i (by omega)⟩
      case measure => simp [intOf]; omega
    · have hpl : placeN xs ref = j := placeN_is HPRE.out (fun y hy => by rw [HX.out.1] at hy; injection hy with hy; rw [← hy, ← HX.out.2]; exact hlt2)
      have hpb : placeB xs ref = (z == ref) := by
       by_cases e : z = ref
       · rw [(place_there HS.out).2 ⟨x, by rw [hpl]; exact HX.out.1, by rw [← HX.out.2]; exact e⟩]; simp [e]
       · have : ¬ placeB xs ref = true := fun q => by
          obtain ⟨y, hy, he⟩ := (place_there HS.out).1 q
          rw [hpl, HX.out.1] at hy
          injection hy with hy
          exact e (by rw [HX.out.2, hy]; exact he)
         simp at this
         rw [this]; simp [e]
      obtain ⟨q, hq⟩ : ∃ q, q = (z == ref) := ⟨_, rfl⟩
      rw [← hq] at hpb
      have hq' := hq.symm
      have HPL := Lib.hid (And.intro hpl hpb)
      clear hpl hpb hq
      go_upto_region 4 with fail
      go_quiet (fail)
      go_wp2_with fail
      have hfin : Ending.returned (.tuple #[.int .i64 j, .bool q]) = Ending.returned (.tuple #[.int .i64 (placeN xs ref), .bool (placeB xs ref)]) := by rw [HPL.out.1, HPL.out.2]
      exact bodyPost_ret (v := .tuple #[.int .i64 j, .bool q]) (by simp [results, Tryz.results91, go_sem]) rfl ⟨hfin, below_dn (Below.refl _ wr) _⟩
  · obtain rfl : j = n := by omega
    have g1 : ¬ (j : Int) < j := by omega
    have hno : xs[j]? = none := List.getElem?_eq_none (by rw [← HRD.out.2]; exact Nat.le_refl _)
    have hpl : placeN xs ref = j := placeN_is HPRE.out (fun y hy => by rw [hno] at hy; cases hy)
    have hpb : placeB xs ref = false := by
     have : ¬ placeB xs ref = true := fun q => by
      obtain ⟨y, hy, he⟩ := (place_there HS.out).1 q
      rw [hpl, hno] at hy
      cases hy
     simpa using this
    have hfin : Ending.returned (.tuple #[.int .i64 j, .bool false]) = Ending.returned (.tuple #[.int .i64 (placeN xs ref), .bool (placeB xs ref)]) := by rw [hpl, hpb]
    have HFIN := Lib.hid hfin
    clear hpl hpb hno hfin
    go_upto_region 4 with fail
    go_quiet (fail)
    go_wp2_with fail
    exact bodyPost_ret (v := .tuple #[.int .i64 j, .bool false]) (by simp [results, Tryz.results91, go_sem]) rfl ⟨HFIN.out, below_dn (Below.refl _ wr) _⟩
theorem ry_won (on : Bool) (tr st en ay na su : Int) (x : Bal) (w : World) : Calls Tryz.prog 95 #[.agg #[.bool on, .int .i64 tr, .int .i64 st, .int .i64 en, .int .i64 ay, .int .i64 na, .int .i64 su], .agg #[.int .i64 x.k, .bool x.aye, .int .i64 x.l, .int .i64 x.a, .int .i64 x.n, .int .i64 x.s]] w fun e w' => e = .returned (.bool (wonB st x)) ∧ Below w.heap.size w w' := by
 obtain ⟨xk, xy, xl, xa, xn, xs⟩ := x
 unfold wonB
 dsimp only
 have hb : Below w.heap.size w ((w.alloc (.cells #[.bool on, .int .i64 tr, .int .i64 st, .int .i64 en, .int .i64 ay, .int .i64 na, .int .i64 su] 43)).alloc (.cells #[.int .i64 xk, .bool xy, .int .i64 xl, .int .i64 xa, .int .i64 xn, .int .i64 xs] 28)) := ((Below.refl _ w).alloc (Nat.le_refl _) _).alloc (by simp) _
 have HB := Lib.hid hb
 clear hb
 by_cases h1 : xk = 1
 · subst h1
   rw [if_pos rfl]
   cases xy
   · rw [if_neg (by decide)]
     by_cases h2 : st = 2
     · subst h2
       go_enter Tryz.func95, Tryz.ntmps95
       go_wp2_with fail
       exact bodyPost_ret (v := .bool false) (by simp [results, Tryz.results95, go_sem]) rfl ⟨rfl, HB.out⟩
     · have g2 : (st == 2) = false := by simp [h2]
       obtain ⟨q, hq⟩ : ∃ q, q = (st == 3) := ⟨_, rfl⟩
       rw [← hq]
       have g3 := hq.symm
       clear hq h2
       cases q
       · go_enter Tryz.func95, Tryz.ntmps95
         go_wp2_with fail
         exact bodyPost_ret (v := .bool false) (by simp [results, Tryz.results95, go_sem]) rfl ⟨rfl, HB.out⟩
       · go_enter Tryz.func95, Tryz.ntmps95
         go_wp2_with fail
         exact bodyPost_ret (v := .bool true) (by simp [results, Tryz.results95, go_sem]) rfl ⟨rfl, HB.out⟩
   · rw [if_pos rfl]
     by_cases h2 : st = 2
     · subst h2
       go_enter Tryz.func95, Tryz.ntmps95
       go_wp2_with fail
       exact bodyPost_ret (v := .bool true) (by simp [results, Tryz.results95, go_sem]) rfl ⟨rfl, HB.out⟩
     · have g2 : (st == 2) = false := by simp [h2]
       rw [g2]
       clear h2
       obtain ⟨q, hq⟩ : ∃ q, q = (st == 3) := ⟨_, rfl⟩
       have g3 := hq.symm
       clear hq
       cases q
       · go_enter Tryz.func95, Tryz.ntmps95
         go_wp2_with fail
         exact bodyPost_ret (v := .bool false) (by simp [results, Tryz.results95, go_sem]) rfl ⟨rfl, HB.out⟩
       · go_enter Tryz.func95, Tryz.ntmps95
         go_wp2_with fail
         exact bodyPost_ret (v := .bool false) (by simp [results, Tryz.results95, go_sem]) rfl ⟨rfl, HB.out⟩
 · rw [if_neg h1]
   have g1 : (xk == 1) = false := by simp [h1]
   clear h1
   go_enter Tryz.func95, Tryz.ntmps95
   go_wp2_with fail
   exact bodyPost_ret (v := .bool false) (by simp [results, Tryz.results95, go_sem]) rfl ⟨rfl, HB.out⟩
theorem ry_join (h : RyAt vy pb rb P R F w) {k : Nat} (hk : k < 40) (u n : Int) : Calls Tryz.prog 96 #[.pointer (some ⟨rb, k * 9, none⟩), .int .i64 u, .int .i64 n] w fun e w' => e = .returned (.tuple #[]) ∧ (ryM vy pb rb P (updN R k { R k with u := max (R k).u u, p := max (R k).p n })).to F w w' := by
 obtain ⟨v, hrd, -, -, -, -, -, -, -, c7, c8⟩ := h.rec hk
 have h1 := ry_setR (ry_refl h) (j := 7) hk (by omega) (u := .int .i64 (max (R k).u u)) (r' := { R k with u := max (R k).u u }) (fun v => rfl) rfl
 have h2 := ry_setR h1 (j := 8) hk (by omega) (u := .int .i64 (max (R k).p n)) (r' := { R k with u := max (R k).u u, p := max (R k).p n }) (fun v => by rw [updN_same]; rfl) (by rw [updN_same])
 rw [updN_updN] at h2
 obtain ⟨ou, hou⟩ : ∃ z, z = (R k).u := ⟨_, rfl⟩
 obtain ⟨op, hop⟩ : ∃ z, z = (R k).p := ⟨_, rfl⟩
 rw [← hou, ← hop] at h2 ⊢
 rw [← hou] at c7
 rw [← hop] at c8
 obtain ⟨m1, hm1⟩ : ∃ m, m = max ou u := ⟨_, rfl⟩
 obtain ⟨m2, hm2⟩ : ∃ m, m = max op n := ⟨_, rfl⟩
 have A1 : max ou u = m1 := hm1.symm
 have A2 : (if ou < u then u else ou) = m1 := by rw [hm1]; split <;> omega
 have B1 : max op n = m2 := hm2.symm
 have B2 : (if op < n then n else op) = m2 := by rw [hm2]; split <;> omega
 rw [A1, B1] at h2 ⊢
 have f7 := (h.frozen (k * 9 + 7)).2
 have f8 := (h.frozen (k * 9 + 8)).2
 have H2 := Lib.hid h2
 clear h1 h2 hm1 hm2 hou hop hrd h
 go_enter Tryz.func96, Tryz.ntmps96
 go_region
 go_wp2_with fail
 exact bodyPost_end (results_none rfl _ _ _) rfl ⟨rfl, by first | exact H2.out | exact ry_below H2.out (Below.refl _ _).drew⟩
end
end
section
end
end Go.Proofs.YtbpemdihoabbcaaGreat
