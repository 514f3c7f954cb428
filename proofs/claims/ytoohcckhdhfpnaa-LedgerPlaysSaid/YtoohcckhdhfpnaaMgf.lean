/-
  Joined texts.
-/
import Derived.Below
import Derived.Deep.Matrix
import Derived.Laws.MakeOwn
import Derived.BigRegion
import Derived.RegionTactic
import Derived.StillTailTactics
import Derived.TacticsInMore
import Derived.LoopNIn
import Derived.LoopIn
import Derived.Deep.QuietTactic
import Derived.BigQuiet
import Derived.Deep.DeepCutAuto
import Derived.Deep.CutBlock
import Derived.Test.YtoohcckhdhfpnaaMge

section
namespace Go.Proofs.Ytoohcckhdhfpnaa
open Go.ChangeShapes Go.WideShapes Go.ChangeAt Go.RowKit Go.Deep
set_option linter.unusedVariables false

/-- A slice of integers reads as these. -/
def RdI (w : World) (v : Value) (l : List Int) : Prop :=
  (v = .slice none 0 0 ∧ l = []) ∨ ∃ a cap, v = .slice (some a) l.length cap ∧ l.length ≤ cap ∧ ∀ i, i < l.length → w.cell? (a.add i) = some (.int .i64 (l.getD i 0))
theorem cell_blockI {w : World} {a : Addr} {v : Value} (h : w.cell? a = some v) : a.block < w.heap.size := by
  by_cases hh : a.block < w.heap.size
  · exact hh
  · simp [World.cell?, Array.getElem?_eq_none (Nat.le_of_not_lt hh)] at h
theorem RdI.below {w w' : World} {v : Value} {l : List Int} (h : RdI w v l) (hb : Below w.heap.size w w') : RdI w' v l := by
  rcases h with h | ⟨a, cap, hv, hc, hcell⟩
  · exact .inl h
  · refine .inr ⟨a, cap, hv, hc, fun i hi => ?_⟩
    have hl := cell_blockI (hcell i hi)
    rw [hb.cell hl]; exact hcell i hi
theorem RdI.lenOf {w : World} {v : Value} {l : List Int} (h : RdI w v l) : ∃ ao cap, v = .slice ao l.length cap := by
  rcases h with ⟨rfl, rfl⟩ | ⟨a, cap, rfl, -⟩
  · exact ⟨_, _, rfl⟩
  · exact ⟨_, _, rfl⟩
theorem RdI.at {w : World} {ao : Option Addr} {n cap : Nat} {l : List Int} (h : RdI w (.slice ao n cap) l) {i : Nat} (hi : i < l.length) : ∃ a, ao = some a ∧ w.cell? (a.add i) = some (.int .i64 (l.getD i 0)) := by
  rcases h with ⟨hv, rfl⟩ | ⟨a, cap', hv, hc, hcell⟩
  · simp at hi
  · injection hv with h1 h2 h3
    exact ⟨a, h1, hcell i hi⟩

section
variable {H : Type} {enc : TypeId × Value → H} {P : Program} {w : World} {base : Nat} {held : Bool}
theorem open_RdI0 {t e : TypeId} {k : IntKind} {v : Value} {d : DataW H} {p : List MemPlace} (ht : P.underlying t = some (.slice e)) (he : P.underlying e = some (.int k)) (hc : P.cellsOf e = 1)
    (h : ∃ fuel, DataW.trod enc P w base (fun _ => true) held fuel t [v] = some (d, p)) : (v = .slice none 0 0) ∨
      ∃ (a : Addr) (len cap : Nat) (zs : List Int), v = .slice (some a) len cap ∧ len ≤ cap ∧ cap ≤ maxLen ∧ zs.length = cap ∧ (∀ i, i < cap → w.cell? (a.add i) = some (.int k (zs.getD i 0))) ∧ (∀ n ∈ zs, (Lit.int k n).wf = true) := by
  obtain ⟨fuel, hf⟩ := h
  rcases open_ints ht he hc hf with ⟨hcs, -⟩ | ⟨a, len, cap, zs, hcs, hb, hl, hm, hz, -, hcell, hwz⟩
  · exact .inl (by simpa using hcs)
  · simp only [if_true] at hz
    exact .inr ⟨a, len, cap, zs, by simpa using hcs, hl, hm, hz, fun i hi => hcell i (by omega), hwz⟩
theorem cells_sliceI {v : Value} {r : Reach} {b0 : Nat} {t e : TypeId} (ht : P.underlying t = some (.slice e)) (hv : Value.okWide P w r b0 t v) : v.cells.toList = [v] := by
  unfold Value.okWide at hv
  rw [ht] at hv
  simp only [Cell.okWide, Cell.ok, ht] at hv
  cases v <;> simp [Value.cells] at hv ⊢
theorem open_RdI {t e : TypeId} {v : Value} {d : DataW H} {p : List MemPlace} {r : Reach} {b0 : Nat} (ht : P.underlying t = some (.slice e)) (he : P.underlying e = some (.int .i64)) (hc : P.cellsOf e = 1)
    (hv : Value.okWide P w r b0 t v) (h : DataW.Trod enc P w base (fun _ => true) held t v d p) : ∃ l : List Int, RdI w v l ∧ (∀ n ∈ l, (Lit.int .i64 n).wf = true) ∧ l.length ≤ maxLen := by
  obtain ⟨fuel, hf⟩ := h
  rw [cells_sliceI ht hv] at hf
  rcases open_RdI0 ht he hc ⟨fuel, hf⟩ with rfl | ⟨a, len, cap, zs, rfl, hl, hm, hz, hcell, hw⟩
  · exact ⟨[], .inl ⟨rfl, rfl⟩, by simp, by simp⟩
  · have hlen : (zs.take len).length = len := by simp; omega
    refine ⟨zs.take len, .inr ⟨a, cap, by rw [hlen], by rw [hlen]; exact hl, fun i hi => ?_⟩, fun n hn => hw n (List.mem_of_mem_take hn), by rw [hlen]; omega⟩
    rw [hlen] at hi
    rw [hcell i (by omega)]
    have hiz : i < zs.length := by omega
    simp [hiz, hi]
end
end Go.Proofs.Ytoohcckhdhfpnaa
end

section
namespace Go.Proofs.Ytoohcckhdhfpnaa
open Go.RowKit Go.Maps Go.Shelf
set_option linter.unusedVariables false
set_option linter.unusedSimpArgs false

/-- The accounts of some balances. -/
def accL (l : List Int) : Acc := fun k => (l.getD k 0, 0)
def newOk (l : List Int) : Prop := l.length ≤ 10 ∧ (∀ k, k < l.length → isBal (l.getD k 0)) ∧ sumTo (accL l) 10 ≤ 1073741824
theorem accL_nil : accL [] = acc0 := by funext k; simp [accL, acc0]
theorem take_getD {l : List Int} {k j : Nat} : (l.take k).getD j 0 = if j < k then l.getD j 0 else 0 := by
  by_cases h : j < k
  · rw [if_pos h, List.getD_eq_getElem?_getD, List.getD_eq_getElem?_getD, List.getElem?_take_of_lt h]
  · rw [if_neg h, List.getD_eq_getElem?_getD, List.getElem?_eq_none (by simp; omega)]; rfl
theorem accL_step (l : List Int) (k : Nat) : upd (accL (l.take k)) k (l.getD k 0, (accL (l.take k) k).2) = accL (l.take (k + 1)) := by
  funext j
  by_cases e : j = k
  · subst e
    rw [upd_same]
    show (l.getD j 0, (0 : Int)) = ((l.take (j + 1)).getD j 0, 0)
    rw [take_getD, if_pos (by omega)]
  · rw [upd_other _ _ e]
    show ((l.take k).getD j 0, (0 : Int)) = ((l.take (k + 1)).getD j 0, 0)
    rw [take_getD, take_getD]
    by_cases h : j < k
    · rw [if_pos h, if_pos (by omega)]
    · rw [if_neg h, if_neg (by omega)]
theorem sum_accL_step (l : List Int) {k : Nat} (hk : k < 10) : sumTo (accL (l.take (k + 1))) 10 = sumTo (accL (l.take k)) 10 + l.getD k 0 := by
  rw [← accL_step, sumTo_upd, if_pos hk]
  have : both (accL (l.take k)) k = 0 := by unfold both accL; rw [take_getD, if_neg (by omega)]; rfl
  rw [this]
  show sumTo (accL (l.take k)) 10 + (l.getD k 0 + 0 - 0) = _
  omega
theorem accL_ok {l : List Int} (h : ∀ k, k < l.length → isBal (l.getD k 0)) (hs : sumTo (accL l) 10 ≤ 1073741824) : AccOk (accL l) := by
  refine ⟨fun k => ?_, fun k => by simp [accL], hs⟩
  unfold accL
  by_cases c : k < l.length
  · exact (h k c).1
  · rw [List.getD_eq_getElem?_getD, List.getElem?_eq_none (by omega)]; simp
theorem sum_accL_mono {l : List Int} (h : ∀ k, k < l.length → isBal (l.getD k 0)) (k : Nat) : sumTo (accL (l.take k)) 10 ≤ sumTo (accL l) 10 := by
  have key : ∀ n, sumTo (accL (l.take k)) n ≤ sumTo (accL l) n := by
    intro n
    induction n with
    | zero => exact Int.le_refl _
    | succ n ih =>
      rw [sumTo, sumTo]
      have : both (accL (l.take k)) n ≤ both (accL l) n := by
        unfold both accL
        rw [take_getD]
        by_cases c : n < l.length
        · have := (h n c).1; split <;> simp only <;> omega
        · have e : l.getD n 0 = 0 := by rw [List.getD_eq_getElem?_getD, List.getElem?_eq_none (by omega)]; rfl
          rw [e]; split <;> simp
      omega
  exact key 10
theorem newOk_nil : newOk [] := ⟨by simp, fun k hk => absurd hk (Nat.not_lt_zero k), by rw [accL_nil]; decide⟩
theorem LdAt.start {N g gl : Nat} {w1 w2 : World} (ho : GrOwn codI 68 N gl [] w1) (hN : N ≤ w1.heap.size) (hg : g = w1.heap.size) (hw : w2 = w1.alloc (.cells (lcells acc0 gl).toArray 53)) : LdAt N g gl acc0 [] w2 ∧ Below N w1 w2 := by
  obtain ⟨F, h1, h2⟩ := ho
  have hB : Below w1.heap.size w1 w2 := by rw [hw]; exact (Below.refl _ w1).alloc (Nat.le_refl _) _
  refine ⟨⟨by rw [hw, hg]; exact World.alloc_heap_new _ _, ⟨F, h1.keep (Grow.of_below hB) (fun k hk => hB.block k (h1.2.2.1 k hk)), fun k hk => ⟨h2 k hk, fun e => by have := h1.2.2.1 k hk; omega⟩⟩, by omega, AccOk.zero, by simp⟩, hB.mono hN⟩
set_option maxRecDepth 100000 in
set_option maxHeartbeats 4000000 in
theorem ledger_New (v : Value) (l : List Int) (w : World) (hr : RdI w v l) (hm : l.length ≤ maxLen) : Calls Try.prog 4 #[v] w fun e w' => Below w.heap.size w w' ∧ ((newOk l ∧ ∃ g, e = .returned (.tuple #[.pointer (some ⟨g, 0, none⟩), .int .i64 0]) ∧ ∃ gl, LdAt w.heap.size g gl (accL l) [] w') ∨ (¬ newOk l ∧ e = .returned (.tuple #[.pointer none, .int .i64 1]))) := by
  obtain ⟨ao, cap, rfl⟩ := hr.lenOf
  obtain ⟨L, hL⟩ : ∃ L, L = l.length := ⟨_, rfl⟩
  rw [← hL] at hr hm ⊢
  have HR := Lib.hid (And.intro hr hL)
  clear hr hm hL
  go_enter Try.func4, Try.ntmps4
  by_cases c0 : (10 : Int) < (L : Int)
  · go_wp2_with fail
    exact bodyPost_ret (v := .tuple #[.pointer none, .int .i64 1]) (by simp [results, Try.results4, go_sem]) rfl ⟨Below.refl _ _, .inr ⟨fun h => by have := h.1; have := HR.out.2; omega, rfl⟩⟩
  have hL10 : L ≤ 10 := by omega
  go_wp2_with (first
    | (go_at_call 10; refine (grid_New_own_I w).mono ?_; rintro e w1 ⟨gl, rfl, ho1, hb1⟩; have H1 := Lib.hid (And.intro ho1 hb1); clear ho1 hb1)
    | fail)
  obtain ⟨w2, hw2⟩ : ∃ w2, w2 = w1.alloc (.cells #[.int .i64 0, .int .i64 0, .int .i64 0, .int .i64 0, .int .i64 0, .int .i64 0, .int .i64 0, .int .i64 0, .int .i64 0, .int .i64 0, .int .i64 0, .int .i64 0, .int .i64 0, .int .i64 0, .int .i64 0, .int .i64 0, .int .i64 0, .int .i64 0, .int .i64 0, .int .i64 0, .pointer (some ⟨gl, 0, none⟩)] 53) := ⟨_, rfl⟩
  obtain ⟨g, hg⟩ : ∃ g, g = w1.heap.size := ⟨_, rfl⟩
  obtain ⟨hl0, hb0⟩ := LdAt.start H1.out.1 H1.out.2.size hg (hw2.trans rfl)
  rw [← hw2, ← hg]
  have H2 := Lib.hid (And.intro hl0 (H1.out.2.trans hb0))
  clear hw2 hg hl0 hb0 H1
  go_loopw [15] (fun i wr => ∃ k : Nat, k ≤ L ∧ i = .int .i64 k ∧ (∀ j, j < k → isBal (l.getD j 0)) ∧ LdAt w.heap.size g gl (accL (l.take k)) [] wr ∧ Below w.heap.size w wr) (fun i _ => L - (intOf i).toNat)
  case atStart => exact ⟨0, by omega, rfl, fun j hj => by omega, by rw [List.take_zero, accL_nil]; exact H2.out.1, H2.out.2⟩
  case round =>
    obtain ⟨k, hk, rfl, hbs, hld, hbl⟩ := hrel
    have HS := Lib.hid (And.intro hbs (And.intro hld hbl))
    by_cases hlt : k < L
    · have hlt' : (k : Int) < L := by omega
      have hk10 : (k : Int) < 10 := by omega
      obtain ⟨a, rfl, ca⟩ := (HR.out.1.below hbl).at (show k < l.length by rw [← HR.out.2]; exact hlt)
      obtain ⟨n, hn⟩ : ∃ n, n = l.getD k 0 := ⟨_, rfl⟩
      rw [← hn] at ca
      obtain ⟨s, hs⟩ : ∃ s, s = sumTo (accL (l.take k)) 10 := ⟨_, rfl⟩
      have hs0 : 0 ≤ s ∧ s ≤ 1073741824 := by rw [hs]; exact hld.ok.part (Nat.le_refl _)
      have hiss := ledger_Issued hld
      rw [← hs] at hiss
      have HI := Lib.hid hiss
      have hs1 : sumTo (accL (l.take (k + 1))) 10 = s + n := by rw [hs, hn]; exact sum_accL_step l (by omega)
      have HN := Lib.hid (And.intro hn hs1)
      clear hiss hs hn hs1 hbs hld hbl
      by_cases hbal : isBal n
      · have hbal' := hbal
        unfold isBal at hbal'
        have hd : decide (0 ≤ n ∧ n ≤ 1073741824) = true := decide_eq_true hbal'
        obtain ⟨sn, hsn⟩ : ∃ sn, sn = s + n := ⟨_, rfl⟩
        have hn2 : IntKind.i64.wrap (s + n) = sn := by rw [hsn]; exact IntWalk.i64_in _ (by omega)
        by_cases hov : 1073741824 < sn
        · have hd2 : decide (0 ≤ sn ∧ sn ≤ 1073741824) = false := decide_eq_false (by omega)
          have hbad : ¬ newOk l := fun h => by have h1 := sum_accL_mono h.2.1 (k + 1); have h2 := HN.out.2; have h3 := h.2.2; omega
          have HD := Lib.hid (And.intro hd (And.intro hd2 hbad))
          clear hbal hbal' hd hsn hd2 hov hbad hs0
          have tok : True := trivial
          go_wp2_with (first
            | (go_at_call 11; have _t := tok; refine (bound_Balance n _).mono ?_; rw [HD.out.1]; rintro e w' ⟨rfl, hw⟩; rw [hw]; clear hw w' tok)
            | (go_at_call 12; refine HI.out.mono ?_; rintro e w3 ⟨rfl, hb⟩; have H3 := Lib.hid hb; clear hb)
            | (go_at_call 11; refine (bound_Balance sn _).mono ?_; rw [HD.out.2.1]; rintro e w' ⟨rfl, hw⟩; rw [hw]; clear hw w')
            | fail)
          exact bodyPost_ret (v := .tuple #[.pointer none, .int .i64 1]) (by simp [results, Try.results4, go_sem]) rfl ⟨HS.out.2.2.trans (H3.out.mono HS.out.2.2.size), .inr ⟨HD.out.2.2, rfl⟩⟩
        · have hd2 : decide (0 ≤ sn ∧ sn ≤ 1073741824) = true := decide_eq_true (by omega)
          have hok2 : AccOk (upd (accL (l.take k)) k (n, (accL (l.take k) k).2)) := by
            have hld := HS.out.2.1
            have h1 := HN.out.2
            rw [HN.out.1, ← accL_step] at h1
            rw [HN.out.1] at hsn hbal'
            rw [HN.out.1]
            refine ⟨fun j => ?_, fun j => ?_, by omega⟩
            · by_cases e : j = k
              · subst e; rw [upd_same]; exact hbal'.1
              · rw [upd_other _ _ e]; exact hld.ok.free j
            · by_cases e : j = k
              · subst e; rw [upd_same]; exact hld.ok.held j
              · rw [upd_other _ _ e]; exact hld.ok.held j
          have hpay : ∀ w1, LdAt w.heap.size g gl (accL (l.take k)) [] w1 → LdAt w.heap.size g gl (accL (l.take (k + 1))) [] (w1.setCell ⟨g, k * 2, none⟩ (.int .i64 n)) ∧ Below w.heap.size w1 (w1.setCell ⟨g, k * 2, none⟩ (.int .i64 n)) := fun w1 h1 => by
            have := h1.setFree (a := k) (by omega) n hok2
            refine ⟨?_, this.2⟩
            rw [← accL_step, ← HN.out.1]; exact this.1
          have HD := Lib.hid (And.intro hd (And.intro hd2 hbal))
          have HP := Lib.hid hpay
          clear hbal hbal' hd hsn hd2 hov hs0 hok2 hpay
          have tok : True := trivial
          go_wp2_with (first
            | (go_at_call 11; have _t := tok; refine (bound_Balance n _).mono ?_; rw [HD.out.1]; rintro e w' ⟨rfl, hw⟩; rw [hw]; clear hw w' tok)
            | (go_at_call 12; refine HI.out.mono ?_; rintro e w3 ⟨rfl, hb⟩; have h3 := HS.out.2.1.below hb; have hf3 := h3.frozen (k * 2); have hc3 := h3.free (k := k) (by omega); have H3 := Lib.hid (And.intro h3 (hb.mono HS.out.2.2.size)); clear hb h3)
            | (go_at_call 11; refine (bound_Balance sn _).mono ?_; rw [HD.out.2.1]; rintro e w' ⟨rfl, hw⟩; rw [hw]; clear hw w')
            | fail)
          go_roundw
          case rel =>
            refine ⟨k + 1, by omega, by go_num, fun j hj => ?_, (HP.out _ H3.out.1).1, HS.out.2.2.trans (H3.out.2.trans (HP.out _ H3.out.1).2)⟩
            by_cases e : j = k
            · subst e; rw [← HN.out.1]; exact HD.out.2.2
            · exact HS.out.1 j (by omega)
          case measure => simp [intOf]; omega
      · have hd : decide (0 ≤ n ∧ n ≤ 1073741824) = false := by unfold isBal at hbal; exact decide_eq_false hbal
        have hbad : ¬ newOk l := fun h => hbal (by rw [HN.out.1]; exact h.2.1 k (by rw [← HR.out.2]; exact hlt))
        have HD := Lib.hid (And.intro hd hbad)
        clear hbal hd hbad hs0
        go_wp2_with (first
          | (go_at_call 11; refine (bound_Balance n _).mono ?_; rw [HD.out.1]; rintro e w' ⟨rfl, hw⟩; rw [hw]; clear hw w')
          | fail)
        exact bodyPost_ret (v := .tuple #[.pointer none, .int .i64 1]) (by simp [results, Try.results4, go_sem]) rfl ⟨HS.out.2.2, .inr ⟨HD.out.2, rfl⟩⟩
    · have hge : ¬ (k : Int) < L := by omega
      have hkl : l.take k = l := List.take_of_length_le (by have := HR.out.2; omega)
      have hfin : newOk l ∧ LdAt w.heap.size g gl (accL l) [] wr := by
        rw [hkl] at hld
        exact ⟨⟨by have := HR.out.2; omega, fun j hj => hbs j (by have := HR.out.2; omega), hld.ok.all⟩, hld⟩
      have HF := Lib.hid hfin
      clear hfin hkl hbs hld hbl
      go_wp2_with fail
      exact bodyPost_ret (v := .tuple #[.pointer (some ⟨g, 0, none⟩), .int .i64 0]) (by simp [results, Try.results4, go_sem]) rfl ⟨HS.out.2.2, .inl ⟨HF.out.1, g, rfl, gl, HF.out.2⟩⟩
end Go.Proofs.Ytoohcckhdhfpnaa
end

section
namespace Go.Proofs.Ytoohcckhdhfpnaa
open Go.RowKit Go.Maps
set_option linter.unusedVariables false
set_option linter.unusedSimpArgs false

theorem run_makeZ {P : Program} (t e : TypeId) (n s by_ : Nat) (z : Value) (ht : P.underlying t = some (.slice e)) (hi : (P.info? e).map (fun i => (i.zero, i.size, i.bytes)) = some (some z, s, by_)) (hb : by_ * n ≤ 1000000) (hn : n ≤ 1000000) (w : World) :
    (Instr.makeSlice t (.int .i64 (n : Int)) (.int .i64 (n : Int))).run P w = .ok (.slice (some ⟨w.heap.size, 0, none⟩) n n) (w.alloc (.cells (madeCells z.cells (n * s)) e)) := by
  obtain ⟨i, hi0, hi1⟩ := Option.map_eq_some_iff.1 hi
  simp only [Prod.mk.injEq] at hi1
  obtain ⟨hz1, hs, hbb0⟩ := hi1
  have hbb : (i.bytes : Int) * (n : Int) ≤ 281474976710656 := by
    rw [hbb0]
    have : ((by_ * n : Nat) : Int) ≤ 281474976710656 := by omega
    rwa [Int.natCast_mul] at this
  have := run_make (P := P) w t e i z ht hi0 hz1 .i64 .i64 n n (by omega) (by omega) hbb (by omega)
  rw [← hs]
  simpa using this
/-- Ten empty accounts. -/
theorem acNew : AcRow acc0 (fun _ => .slice none 0 0) (madeCells (Value.agg #[.int .i64 0, .int .i64 0, .slice none 0 0]).cells (10 * 3)) := by
  refine ⟨by kernel_rfl, fun k hk => ?_⟩
  rcases (by omega : k = 0 ∨ k = 1 ∨ k = 2 ∨ k = 3 ∨ k = 4 ∨ k = 5 ∨ k = 6 ∨ k = 7 ∨ k = 8 ∨ k = 9) with rfl | rfl | rfl | rfl | rfl | rfl | rfl | rfl | rfl | rfl <;> exact ⟨by kernel_rfl, by kernel_rfl, by kernel_rfl⟩
def F2 (lb ab : Nat) : FP := fun k => k = lb ∨ k = ab
/-- The ledger under way: new, at lb and ab. -/
structure R8 (w0 : World) (lb ab : Nat) (A : Acc) (w : World) : Prop where
  at_ : RlAt lb ab (F2 lb ab) A [] w
  ll : w0.heap.size ≤ lb
  la : w0.heap.size ≤ ab
  old : Below w0.heap.size w0 w
theorem R8.below {w0 w w' : World} {lb ab : Nat} {A : Acc} (h : R8 w0 lb ab A w) (hb : Below w.heap.size w w') : R8 w0 lb ab A w' := ⟨h.at_.below hb, h.ll, h.la, h.old.trans (hb.mono h.old.size)⟩
theorem R8.drew {w0 w : World} {lb ab : Nat} {A : Acc} (h : R8 w0 lb ab A w) : R8 w0 lb ab A w.drew := h.below (Below.refl _ w).drew
theorem R8.set {w0 w : World} {lb ab k : Nat} {A : Acc} (h : R8 w0 lb ab A w) (hk : k < 10) (x : Int) : R8 w0 lb ab (upd A k (x, (A k).2)) (w.setCell ⟨ab, k * 3, none⟩ (.int .i64 x)) := by
  refine ⟨h.at_.free hk x, h.ll, h.la, h.old.trans ⟨rfl, rfl, rfl, by simp [World.setCell], fun j hj => Below.heap_setCell _ _ _ j ?_⟩⟩
  have := h.la
  show j ≠ ab
  omega
/-- What the first so many balances come to. -/
def S8 (l : List Int) (k : Nat) (zz : Int) : Prop := zz = sumTo (accL (l.take k)) 10 ∧ (∀ j, j < k → isBal (l.getD j 0)) ∧ 0 ≤ zz ∧ zz ≤ k * 1073741824
theorem S8.zero (l : List Int) : S8 l 0 0 := ⟨by rw [List.take_zero, accL_nil]; decide, fun j hj => absurd hj (Nat.not_lt_zero j), by omega, by omega⟩
theorem S8.step {l : List Int} {k : Nat} {zz : Int} (h : S8 l k zz) (hk : k < 10) (hb : isBal (l.getD k 0)) : S8 l (k + 1) (zz + l.getD k 0) := by
  obtain ⟨h1, h2, h3, h4⟩ := h
  refine ⟨by rw [sum_accL_step l hk, ← h1], fun j hj => ?_, ?_, ?_⟩
  · by_cases e : j = k
    · rw [e]; exact hb
    · exact h2 j (by omega)
  · have := hb.1; omega
  · have := hb.2; have : ((k + 1 : Nat) : Int) = (k : Int) + 1 := by omega
    rw [this]; omega
theorem S8.done {l : List Int} {k : Nat} {zz : Int} (h : S8 l k zz) (hk : k = l.length) : zz = sumTo (accL l) 10 ∧ ∀ j, j < l.length → isBal (l.getD j 0) := by
  subst hk
  exact ⟨by rw [h.1, List.take_length], h.2.1⟩
set_option maxRecDepth 100000 in
set_option maxHeartbeats 4000000 in
theorem ref6_New8 (v : Value) (l : List Int) (w : World) (hr : RdI w v l) (hl : l.length ≤ 1000) : Calls Try.prog 5 #[v] w fun e w' => Below w.heap.size w w' ∧ ((newOk l ∧ ∃ y, e = .returned (.tuple #[.pointer (some ⟨y, 0, none⟩), .int .i64 0]) ∧ ∃ ab F, RlAt y ab F (accL l) [] w' ∧ ∀ k, F k → w.heap.size ≤ k) ∨ (¬ newOk l ∧ e = .returned (.tuple #[.pointer none, .int .i64 1]))) := by
  obtain ⟨C, hC⟩ : ∃ C, C = madeCells (Value.agg #[.int .i64 0, .int .i64 0, .slice none 0 0]).cells (10 * 3) := ⟨_, rfl⟩
  have h1 := run_makeZ (P := Try.prog) 40 39 10 3 40 (.agg #[.int .i64 0, .int .i64 0, .slice none 0 0]) Try.underlying40 (by kernel_rfl) (by decide) (by decide)
  rw [← hC] at h1
  have hC2 := acNew
  rw [← hC] at hC2
  clear hC
  have h1' : ∀ w : World, (Instr.makeSlice 40 (.int .i64 10) (.int .i64 10)).run Try.prog w = .ok (.slice (some ⟨w.heap.size, 0, none⟩) 10 10) (w.alloc (.cells C 39)) := h1
  clear h1
  obtain ⟨ao, cap, rfl⟩ := hr.lenOf
  obtain ⟨L, hL⟩ : ∃ L, L = l.length := ⟨_, rfl⟩
  rw [← hL] at hr hl ⊢
  have HR := Lib.hid (And.intro hr hL)
  by_cases h10 : 10 < L
  · have c0 : (10 : Int) < (L : Int) := by omega
    have hno : ¬ newOk l := fun h => by have := h.1; omega
    have HNO := Lib.hid hno
    clear hr hL h10 hno h1'
    go_enter Try.func5, Try.ntmps5
    go_wp2_with fail
    exact bodyPost_ret (v := .tuple #[.pointer none, .int .i64 1]) (by simp [results, Try.results5, go_sem]) rfl ⟨Below.refl _ _, .inr ⟨HNO.out, rfl⟩⟩
  clear hr hL
  have hl : L ≤ 10 := by omega
  have c0 : ¬ (10 : Int) < (L : Int) := by omega
  obtain ⟨W0, hW0⟩ : ∃ W0, W0 = (w.alloc (.cells C 39)).alloc (.cells #[.slice (some ⟨w.heap.size, 0, none⟩) 10 10] 42) := ⟨_, rfl⟩
  obtain ⟨ab, hab⟩ : ∃ ab, ab = w.heap.size := ⟨_, rfl⟩
  obtain ⟨lb, hlb⟩ : ∃ lb, lb = ab + 1 := ⟨_, rfl⟩
  have h6 : R8 w lb ab (accL (l.take 0)) W0 := by
    rw [List.take_zero, accL_nil]
    refine ⟨⟨_, C, ?_, ?_, hC2, fun k hk => ⟨.inl ⟨rfl, rfl⟩, fun b hb => by cases hb⟩, .inl rfl, .inr rfl, by omega, fun k hk => ?_, fun x hx => absurd hx (List.not_mem_nil), List.Pairwise.nil⟩, by omega, by omega, by rw [hW0]; exact ((Below.refl _ w).alloc (Nat.le_refl _) _).alloc (by simp) _⟩
    · have := World.alloc_heap_new (w.alloc (.cells C 39)) (.cells #[.slice (some ⟨w.heap.size, 0, none⟩) 10 10] 42)
      rw [World.size_alloc] at this
      rw [hW0, hlb, hab]; exact this
    · rw [hW0, hab]; exact (Below.heap_alloc _ _ _ (by simp)).trans (World.alloc_heap_new w _)
    · rw [hW0, World.size_alloc, World.size_alloc]
      rcases hk with rfl | rfl <;> omega
  have H6 := Lib.hid h6
  have HW0 := Lib.hid (And.intro hW0 (And.intro hab hlb))
  clear hW0 h6 hC2 hab hlb
  go_enter Try.func5, Try.ntmps5
  go_upto_region 4 with fail
  rw [← HW0.out.1, ← HW0.out.2.1, ← HW0.out.2.2]
  go_wp2_with fail
  go_loopw [5, 6] (fun z i wr => ∃ (k : Nat) (zz : Int), k ≤ L ∧ z = .int .i64 zz ∧ i = .int .i64 k ∧ R8 w lb ab (accL (l.take k)) wr ∧ S8 l k zz) (fun _ i _ => L - (intOf i).toNat)
  case atStart => exact ⟨0, 0, by omega, rfl, rfl, H6.out, S8.zero l⟩
  case round =>
    obtain ⟨k, zz, hk, rfl, rfl, h6, hS⟩ := hrel
    have hz0 := hS.2.2.1
    have hz1 := hS.2.2.2
    have HS8 := Lib.hid hS
    clear hS
    by_cases hlt : k < L
    · have hlt' : (k : Int) < L := by omega
      obtain ⟨a, rfl, ca⟩ := (HR.out.1.below h6.old).at (show k < l.length by rw [← HR.out.2]; exact hlt)
      obtain ⟨x, hx⟩ : ∃ x, x = l.getD k 0 := ⟨_, rfl⟩
      have hca : ∀ W, Below w.heap.size w W → W.cell? (a.add k) = some (.int .i64 x) := fun W hW => by
        obtain ⟨a', hv, ca'⟩ := (HR.out.1.below hW).at (show k < l.length by rw [← HR.out.2]; exact hlt)
        injection hv with hv
        subst hv
        rw [hx]; exact ca'
      have HCA := Lib.hid hca
      clear hca
      rw [← hx] at ca
      have h6k := h6
      have hk10 : (k : Int) < 10 := by omega
      obtain ⟨v9, cl, cc, -, -, -, cf⟩ := h6.at_.cells (show k < 10 by omega)
      replace cc : ∃ v0, wr.cell? ⟨ab, k * 3, none⟩ = some v0 := ⟨_, cc⟩
      obtain ⟨v0, cc⟩ := cc
      replace cf := cf (k * 3)
      have HX := Lib.hid h6k
      have HXX := Lib.hid hx
      clear h6 h6k hx
      by_cases hb : x < 0
      · go_wp2_with fail
        exact bodyPost_ret (v := .tuple #[.pointer none, .int .i64 1]) (by simp [results, Try.results5, go_sem]) rfl ⟨HX.out.old, .inr ⟨fun h => by have h1 := h.2.1 k (by rw [← HR.out.2]; exact hlt); rw [← HXX.out] at h1; unfold isBal at h1; omega, rfl⟩⟩
      · by_cases hb2 : 1073741824 < x
        · go_wp2_with fail
          exact bodyPost_ret (v := .tuple #[.pointer none, .int .i64 1]) (by simp [results, Try.results5, go_sem]) rfl ⟨HX.out.old, .inr ⟨fun h => by have h1 := h.2.1 k (by rw [← HR.out.2]; exact hlt); rw [← HXX.out] at h1; unfold isBal at h1; omega, rfl⟩⟩
        · go_upto_region 10 with fail
          go_still_tail 11, (by kernel_rfl)
          change wpList _ _ _ _ _ wr.drew
          have hs := HX.out.drew.set (show k < 10 by omega) x
          have ca2 := HCA.out _ hs.old
          have ca3 := HCA.out _ (HX.out.set (show k < 10 by omega) x).old
          have ca4 := HCA.out _ (HX.out.set (show k < 10 by omega) x).drew.old
          have HS2 := Lib.hid (HX.out.set (show k < 10 by omega) x).drew
          have HS := Lib.hid hs
          clear hs
          go_wp2_with fail
          go_roundw
          case rel => exact ⟨k + 1, zz + x, by omega, by go_num, by go_num, by have h1 := HS2.out; rw [HXX.out, accL_step] at h1; rw [HXX.out]; exact h1, by have h1 := HS8.out.step (by omega) (by rw [← HXX.out]; unfold isBal; omega); rw [← HXX.out] at h1; exact h1⟩
          case measure => simp [intOf]; omega
    · have hge : ¬ (k : Int) < L := by omega
      by_cases hz : 1073741824 < zz
      · go_wp2_with fail
        exact bodyPost_ret (v := .tuple #[.pointer none, .int .i64 1]) (by simp [results, Try.results5, go_sem]) rfl ⟨h6.old, .inr ⟨fun h => by have h1 := (HS8.out.done (by rw [← HR.out.2]; omega)).1; have h2 := h.2.2; omega, rfl⟩⟩
      · go_wp2_with fail
        exact bodyPost_ret (v := .tuple #[.pointer (some ⟨lb, 0, none⟩), .int .i64 0]) (by simp [results, Try.results5, go_sem]) rfl ⟨h6.old, .inl ⟨⟨by rw [← HR.out.2]; exact hl, (HS8.out.done (by rw [← HR.out.2]; omega)).2, by rw [← (HS8.out.done (by rw [← HR.out.2]; omega)).1]; omega⟩, lb, rfl, ab, F2 lb ab, by have h1 := h6.at_; rw [show k = l.length by rw [← HR.out.2]; omega, List.take_length] at h1; exact h1, fun k hk => by rcases hk with rfl | rfl; exact h6.ll; exact h6.la⟩⟩
end Go.Proofs.Ytoohcckhdhfpnaa
end

section
namespace Go.Proofs.Ytoohcckhdhfpnaa
open Go.RowKit Go.Maps Go.Shelf
set_option linter.unusedVariables false
set_option linter.unusedSimpArgs false

theorem ledger_New_ok {v : Value} {l : List Int} {w : World} (hr : RdI w v l) (hm : l.length ≤ maxLen) (hok : newOk l) : Calls Try.prog 4 #[v] w fun e w' => ∃ g gl, e = .returned (.tuple #[.pointer (some ⟨g, 0, none⟩), .int .i64 0]) ∧ LdAt w.heap.size g gl (accL l) [] w' ∧ Below w.heap.size w w' := by
  refine (ledger_New v l w hr hm).mono ?_
  rintro e w' ⟨hb, ⟨-, g, rfl, gl, hl⟩ | ⟨hno, -⟩⟩
  · exact ⟨g, gl, rfl, hl, hb⟩
  · exact absurd hok hno
theorem ledger_New_bad {v : Value} {l : List Int} {w : World} (hr : RdI w v l) (hm : l.length ≤ maxLen) (hok : ¬ newOk l) : Calls Try.prog 4 #[v] w fun e w' => e = .returned (.tuple #[.pointer none, .int .i64 1]) ∧ Below w.heap.size w w' := by
  refine (ledger_New v l w hr hm).mono ?_
  rintro e w' ⟨hb, ⟨hyes, -⟩ | ⟨-, rfl⟩⟩
  · exact absurd hyes hok
  · exact ⟨rfl, hb⟩
/-- A slice literal's numbers. -/
theorem RdI.lit (w : World) (T : TypeId) (l : List Int) (n : Nat) (hn : l.length = n) : RdI (w.alloc (.cells (l.map (fun n => Value.int .i64 n)).toArray T)) (.slice (some ⟨w.heap.size, 0, none⟩) n n) l := by
  subst hn
  refine .inr ⟨⟨w.heap.size, 0, none⟩, _, rfl, Nat.le_refl _, fun i hi => ?_⟩
  have h := World.alloc_heap_new w (.cells (l.map (fun n => Value.int .i64 n)).toArray T)
  have e : (⟨w.heap.size, 0, none⟩ : Addr).add i = ⟨w.heap.size, i, none⟩ := by rw [Addr.add_mid]; simp
  rw [e]
  refine cell_of h ?_
  simp [hi, List.getD_eq_getElem?_getD]
def M1 : Cls Int := lockM [] 0 1 3
theorem newOk_one {n : Int} (h : isBal n) : newOk [n] := by
  refine ⟨by simp, fun k hk => ?_, ?_⟩
  · have e : k = 0 := by simpa using hk
    subst e; exact h
  · have : sumTo (accL [n]) 10 = n := by simp [sumTo, both, accL]
    rw [this]; exact h.2
theorem known1 : newOk [5] := newOk_one (by decide)
theorem known2 : transE (accL [5]) M1 0 1 3 = 7 := by decide +kernel
theorem known2a : transA (accL [5]) M1 0 1 3 = accL [5] := by unfold transA; rw [known2]; rfl
theorem known3 : transE (accL [5]) M1 0 1 2 = 0 := by decide +kernel
def A52 : Acc := transA (accL [5]) M1 0 1 2
theorem known4 : (accOf A52 0).1 = 3 := by decide +kernel
theorem known5 : sumTo A52 10 = 5 := by decide +kernel
set_option maxRecDepth 100000 in
set_option maxHeartbeats 4000000 in
theorem law_known (w : World) : Calls Try.prog 9 #[] w fun e w' => e = .returned (.bool true) ∧ Below w.heap.size w w' := by
  have hw0 : (Lit.int .i64 0).wf = true := by decide
  have hw1 : (Lit.int .i64 1).wf = true := by decide
  obtain ⟨w0, hw⟩ : ∃ w0, w0 = w.alloc (.cells #[.int .i64 5] 3) := ⟨_, rfl⟩
  have hrd : RdI w0 (.slice (some ⟨w.heap.size, 0, none⟩) 1 1) [5] := by rw [hw]; exact RdI.lit w 3 [5] 1 rfl
  have hb0 : Below w.heap.size w w0 := by rw [hw]; exact (Below.refl _ w).alloc (Nat.le_refl _) _
  have HW := Lib.hid hw
  have H0 := Lib.hid (And.intro hrd hb0)
  clear hw hrd hb0
  go_enter Try.func9, Try.ntmps9
  have tok1 : True := trivial
  go_wp2_with (first
    | (go_at_call 4; rw [← HW.out]; refine (ledger_New_ok H0.out.1 (by decide) known1).mono ?_; rintro e w1 ⟨g, gl, rfl, hl, hb⟩; have H1 := Lib.hid (And.intro hl hb); clear hl hb)
    | (go_at_call 21; refine (ledger_Lock H1.out.1 H1.out.2.size (by decide) hw0 hw1 3).mono ?_; rintro e w2 ⟨rfl, hl, hb⟩; have H2 := Lib.hid (And.intro (show LdAt w0.heap.size g gl (accL [5]) M1 w2 from hl) (H1.out.2.trans hb)); clear hl hb)
    | (go_at_call 13; have _t := tok1; refine (ledger_Transfer H2.out.1 H2.out.2.size hw0 1 3).mono ?_; rw [known2, known2a]; rintro e w3 ⟨rfl, hl, hb⟩; have H3 := Lib.hid (And.intro hl (H2.out.2.trans hb)); clear hl hb tok1)
    | (go_at_call 13; refine (ledger_Transfer H3.out.1 H3.out.2.size hw0 1 2).mono ?_; rw [known3]; rintro e w4 ⟨rfl, hl, hb⟩; have H4 := Lib.hid (And.intro (show LdAt w0.heap.size g gl A52 M1 w4 from hl) (H3.out.2.trans hb)); clear hl hb)
    | (go_at_call 27; refine (ledger_Free H4.out.1 0).mono ?_; rw [known4]; rintro e w5 ⟨rfl, hw⟩; rw [hw]; clear hw w5)
    | (go_at_call 12; refine (ledger_Issued H4.out.1).mono ?_; rw [known5]; rintro e w6 ⟨rfl, hb⟩; have H6 := Lib.hid (H4.out.2.trans (hb.mono H4.out.2.size)); clear hb)
    | fail)
  go_ret
  exact ⟨rfl, H0.out.2.trans (H6.out.mono H0.out.2.size)⟩
end Go.Proofs.Ytoohcckhdhfpnaa
end

section
namespace Go.Proofs.Ytoohcckhdhfpnaa
open Go.RowKit Go.Maps Go.Shelf
attribute [local go_sem] Oper.semAt_some
set_option linter.unusedVariables false
set_option linter.unusedSimpArgs false

theorem nil_Lock (a i n : Int) (w : World) : Calls Try.prog 21 #[.pointer none, .int .i64 a, .int .i64 i, .int .i64 n] w fun e w' => e = .returned (.tuple #[]) ∧ w' = w := by
  go_enter Try.func21, Try.ntmps21
  go_wp2_with (first | (go_at_call 36; refine (ledger_account_nil a w).mono ?_; rintro e w' ⟨rfl, hw⟩; rw [hw]; clear hw w') | fail)
  exact bodyPost_end (results_none rfl _ _ _) rfl ⟨rfl, rfl⟩
theorem nil_unhold (a n b : Int) (w : World) : Calls Try.prog 40 #[.pointer none, .int .i64 a, .int .i64 n, .int .i64 b] w fun e w' => e = .returned (.int .i64 0) ∧ w' = w := by
  go_enter Try.func40, Try.ntmps40
  go_wp2_with (first | (go_at_call 36; refine (ledger_account_nil a w).mono ?_; rintro e w' ⟨rfl, hw⟩; rw [hw]; clear hw w') | fail)
  exact bodyPost_ret (v := .int .i64 0) (by simp [results, Try.results40, go_sem]) rfl ⟨rfl, rfl⟩
theorem nil_Release (a n : Int) (w : World) : Calls Try.prog 17 #[.pointer none, .int .i64 a, .int .i64 n] w fun e w' => e = .returned (.int .i64 0) ∧ w' = w := by
  go_enter Try.func17, Try.ntmps17
  go_wp2_with (first | (go_at_call 40; refine (nil_unhold a n a w).mono ?_; rintro e w' ⟨rfl, hw⟩; rw [hw]; clear hw w') | fail)
  exact bodyPost_ret (v := .int .i64 0) (by simp [results, Try.results17, go_sem]) rfl ⟨rfl, rfl⟩
theorem nil_Slash (a n : Int) (w : World) : Calls Try.prog 19 #[.pointer none, .int .i64 a, .int .i64 n] w fun e w' => e = .returned (.int .i64 0) ∧ w' = w := by
  go_enter Try.func19, Try.ntmps19
  go_wp2_with (first | (go_at_call 40; refine (nil_unhold a n 0 w).mono ?_; rintro e w' ⟨rfl, hw⟩; rw [hw]; clear hw w') | fail)
  exact bodyPost_ret (v := .int .i64 0) (by simp [results, Try.results19, go_sem]) rfl ⟨rfl, rfl⟩
theorem nil_Issued (w : World) : Calls Try.prog 12 #[.pointer none] w fun e w' => e = .returned (.int .i64 0) ∧ w' = w := by
  go_enter Try.func12, Try.ntmps12
  go_wp2
  exact bodyPost_ret (v := .int .i64 0) (by simp [results, Try.results12, go_sem]) rfl ⟨rfl, rfl⟩
theorem nil_Transfer (a b n : Int) (w : World) : Calls Try.prog 13 #[.pointer none, .int .i64 a, .int .i64 b, .int .i64 n] w fun e w' => e = .returned (.int .i64 1) ∧ w' = w := by
  go_enter Try.func13, Try.ntmps13
  go_wp2_with (first | (go_at_call 36; refine (ledger_account_nil b w).mono ?_; rintro e w' ⟨rfl, hw⟩; rw [hw]; clear hw w') | fail)
  exact bodyPost_ret (v := .int .i64 1) (by simp [results, Try.results13, go_sem]) rfl ⟨rfl, rfl⟩
theorem nil_Mint (a n : Int) (w : World) : Calls Try.prog 23 #[.pointer none, .int .i64 a, .int .i64 n] w fun e w' => e = .returned (.int .i64 1) ∧ w' = w := by
  go_enter Try.func23, Try.ntmps23
  go_wp2_with (first | (go_at_call 36; refine (ledger_account_nil a w).mono ?_; rintro e w' ⟨rfl, hw⟩; rw [hw]; clear hw w') | fail)
  exact bodyPost_ret (v := .int .i64 1) (by simp [results, Try.results23, go_sem]) rfl ⟨rfl, rfl⟩
theorem nil_Reserve (a n : Int) (w : World) : Calls Try.prog 15 #[.pointer none, .int .i64 a, .int .i64 n] w fun e w' => e = .returned (.int .i64 1) ∧ w' = w := by
  go_enter Try.func15, Try.ntmps15
  go_wp2_with (first | (go_at_call 37; refine (ledger_spend_nil a n false w).mono ?_; rintro e w' ⟨rfl, hw⟩; rw [hw]; clear hw w') | fail)
  exact bodyPost_ret (v := .int .i64 1) (by simp [results, Try.results15, go_sem]) rfl ⟨rfl, rfl⟩
theorem nil_Burn (a n : Int) (w : World) : Calls Try.prog 25 #[.pointer none, .int .i64 a, .int .i64 n] w fun e w' => e = .returned (.int .i64 1) ∧ w' = w := by
  go_enter Try.func25, Try.ntmps25
  go_wp2_with (first | (go_at_call 37; refine (ledger_spend_nil a n false w).mono ?_; rintro e w' ⟨rfl, hw⟩; rw [hw]; clear hw w') | fail)
  exact bodyPost_ret (v := .int .i64 1) (by simp [results, Try.results25, go_sem]) rfl ⟨rfl, rfl⟩
theorem IterF.iter {P : Program} {α : Type} {n gf : Nat} {lb : Array Value} {encs : α → Array Value} {xs : List α} {G : FP} {w : World} (h : IterF P n gf lb encs xs G w) : Iter P n gf lb encs xs G w :=
  fun l B Ψ J Jx Φ0 W hg hG hΨ hΦ hJ hJx hr h0 => h l B Ψ J Jx Φ0 W hg hG (fun k hk => (hΨ k hk).1) hJ hJx hr h0
/-- Locks of any ledger whose row is told. -/
theorem locks_of (l : Value) (a : Int) (xs : List (Int × Int)) (hlen : xs.length ≤ 1000000) (w : World) (hrow : Calls Try.prog 44 #[l, .int .i64 a] w fun e w'' => ∃ f, e = .returned f ∧ Way Try.prog encs_I f xs w'' ∧ Below w.heap.size w w'') :
    Calls Try.prog 34 #[l, .int .i64 a] w fun e w' => ∃ bx v, e = .returned (.func (.func 53) #[] #[.pointer (some ⟨bx, 0, none⟩)]) ∧ Boxed w' bx 83 v ∧ OwnR pair_I (bx + 1) v xs w' ∧ w.heap.size ≤ bx ∧ Below w.heap.size w w' := by
  have HROW := Lib.hid hrow
  clear hrow
  go_enter Try.func34, Try.ntmps34
  go_wp2_with (first
    | (go_at_call 44; refine HROW.out.mono ?_; rintro e w1 ⟨f, rfl, hway, hb⟩; obtain ⟨gf, lb, rfl, hit⟩ := hway; have H1 := Lib.hid (And.intro hit hb); clear hit hb)
    | (go_at_call 45; refine (still_Now_I gf lb xs w1 H1.out.1.1 (H1.out.1.2 0).iter hlen).mono ?_; rintro e w2 ⟨v, rfl, hbx, ho, hb⟩; have H2 := Lib.hid (And.intro hbx (And.intro ho hb)); clear hbx ho hb)
    | fail)
  go_ret
  exact ⟨_, v, rfl, H2.out.1, H2.out.2.1, H1.out.2.size, H1.out.2.trans (H2.out.2.2.mono H1.out.2.size)⟩
end Go.Proofs.Ytoohcckhdhfpnaa
end

section
namespace Go.Proofs.Ytoohcckhdhfpnaa
open Go.RowKit Go.Maps Go.Shelf
attribute [local go_sem] Oper.semAt_some
set_option linter.unusedVariables false
set_option linter.unusedSimpArgs false

section
variable {P : Program} {α : Type}
theorem range_outerVI {n : Nat} {g : Operand} {ps : Array Tmp} {assign body : Code} {Q : Exit → Act → World → Prop} {a : Act} {w : World} {gf : Nat} {lb : Array Value} (hg : a.eval g = .func (.func gf) #[] lb) (eg : ∀ args w, (callFunc gf args).run P w = .ok (.enter gf args) w)
    {encs : α → Array Value} {xs : List α} {G : FP} {w0 : World} (hit : Iter P n gf lb encs xs G w0) (hg0 : Grow w0 w) (hG : ∀ k, G k → k < w0.heap.size ∧ w.heap[k]? = w0.heap[k]?) (hps : ∀ x, (encs x).size = ps.size)
    (Ψ : FP) (hΨ : ∀ k, Ψ k → k < w.heap.size ∧ ¬ G k) (I : List α → FP → World → Prop) (hI : Stab w.heap.size I) (h0 : I [] (fun _ => False) w) (up : α → Array Value → Array Value)
    (hassign : ∀ (l : Nat) (x : α) (W : World) (K : Act → World → Prop), K { tmps := up x a.tmps, defers := [] } W → assign.wpIn (Fence.wide.inRound l) n P (Exit.then K (fun _ _ _ => False)) { tmps := (ps.zip (encs x)).foldl (fun t (p, v) => t.setIfInBounds p v) a.tmps, defers := [] } W)
    (hbody : ∀ (l : Nat) (pre : List α) (x : α) (Φ : FP) (W : World), (pre ++ [x]) <+: xs → I pre Φ W → w.heap.size < l → (∀ k, Φ k → l + 1 ≤ k) → (∃ r, W.heap[l]? = some (.loop r)) → body.wpIn (Fence.wide.inRound l) n P (bodyI Ψ Φ I (fun _ _ _ _ => False) (pre ++ [x]) W) { tmps := up x a.tmps, defers := [] } W)
    (hdone : ∀ (D : Nat) (Φ : FP) (W : World), I xs Φ W → Only Ψ (fun _ => False) w W → w.heap.size ≤ D → ¬ Φ D → W.heap[D]? = some (.deferred (some [])) → Q .normal { a with defers := { target := .collected D, args := #[] } :: a.defers } W) :
    (Code.rangeFunc g ps assign body).wpIn Fence.wide (n + 2) P Q a w :=
  range_outer hg eg hit hg0 hG hps Ψ hΨ I (fun _ _ _ _ => False) hI (fun c _ _ _ h => h.elim) h0 (fun x => { tmps := up x a.tmps, defers := [] }) hassign hbody hdone (fun D Φ c pre W _ h => h.elim)
end
def NilJ (N0 : Nat) (pre : List (Int × Int)) (Φ : FP) (W : World) : Prop := (∀ k, ¬ Φ k) ∧ N0 ≤ W.heap.size
theorem NilJ.stab {N0 : Nat} : Stab N0 (NilJ N0) := by
  rintro pre Φ W ⟨h0, hs⟩
  exact ⟨fun k hk => (h0 k hk).elim, hs, fun W' hg hk => ⟨h0, Nat.le_trans hs hg.size⟩⟩
set_option maxHeartbeats 4000000 in
set_option maxRecDepth 100000 in
theorem law_locks_nil (a : Int) (w : World) : Calls Try.prog 8 #[.pointer none, .int .i64 a] w fun e w' => e = .returned (.tuple #[.slice none 0 0, .bool true]) ∧ Below w.heap.size w w' := by
  refine (callsIn_wide (n := 2)).1 ?_
  have q1 : ∀ g lb w, (binOp .eql 63 (.func g #[] lb) .nilFunc).run Try.prog w = .ok (.bool false) w := fun g lb w => by kernel_rfl
  refine callsIn_of_wp_marks Try.func8 rfl trivial ?_ rfl
  simp only [Try.ntmps8, List.size_toArray, List.length_cons, List.length_nil, Nat.reduceAdd, Nat.reduceSub, Array.replicate_succ, Array.replicate_zero, List.push_toArray, List.append_toArray, List.nil_append, List.cons_append]
  obtain ⟨w1, hw1⟩ : ∃ w1, w1 = (w.alloc (.cells #[.slice none 0 0] 35)).alloc (.cells #[.bool false] 4) := ⟨_, rfl⟩
  have hb1 : Below w.heap.size w w1 := by rw [hw1]; exact ((Below.refl _ w).alloc (Nat.le_refl _) _).alloc (by simp) _
  have x0 : Boxed w1 w.heap.size 35 (.slice none 0 0) := by rw [hw1]; exact (Boxed.new w _ _).alloc _
  have x1 : Boxed w1 (w.heap.size + 1) 4 (.bool false) := by
    have := Boxed.new (w.alloc (.cells #[.slice none 0 0] 35)) 4 (.bool false)
    rw [World.size_alloc] at this
    rw [hw1]; exact this
  have hs1 : w1.heap.size = w.heap.size + 2 := by rw [hw1]; simp
  have HW1 := Lib.hid hw1
  have H1 := Lib.hid (And.intro hb1 (And.intro x0 (And.intro x1 hs1)))
  clear hw1 hb1 x0 x1 hs1
  gi_wp2_with (first
    | (refine ⟨trivial, ?_⟩; gi_at_call 34; rw [← HW1.out]; refine (callsIn_wide.2 (locks_of (.pointer none) a [] (by simp) w1 (ledger_row_nil a w1))).mono ?_; rintro e w2 ⟨bx, v, rfl, hbx, ho, hn, hb⟩; have H2 := Lib.hid (And.intro hbx (And.intro ho (And.intro hn hb))); clear hbx ho hn hb)
    | fail)
  obtain ⟨s, hs⟩ : ∃ s, s = w.heap.size := ⟨_, rfl⟩
  obtain ⟨rb, hrb⟩ : ∃ rb, rb = s + 1 := ⟨_, rfl⟩
  obtain ⟨hb1, x0, x1, hs1⟩ := H1.out
  rw [← hs] at x0 x1 hs1 hb1 ⊢
  rw [← hrb] at x1 ⊢
  obtain ⟨hbx, ho, hn, hb2⟩ := H2.out
  obtain ⟨w3, hw3⟩ : ∃ w3, w3 = w2.alloc (.cells #[.slice none 0 0] 35) := ⟨_, rfl⟩
  obtain ⟨kb, hkb⟩ : ∃ kb, kb = w2.heap.size := ⟨_, rfl⟩
  rw [← hw3, ← hkb]
  have hb3 : Below w2.heap.size w2 w3 := by rw [hw3]; exact (Below.refl _ w2).alloc (Nat.le_refl _) _
  have hs3 : w3.heap.size = kb + 1 := by rw [hw3, hkb]; simp
  have y2 : Boxed w3 kb 35 (.slice none 0 0) := by rw [hw3, hkb]; exact Boxed.new w2 _ _
  have s12 := hb2.size
  have y0 : Boxed w3 s 35 (.slice none 0 0) := (hb3.block s (by omega)).trans ((hb2.block s (by omega)).trans x0)
  have y1 : Boxed w3 rb 4 (.bool false) := (hb3.block rb (by omega)).trans ((hb2.block rb (by omega)).trans x1)
  have hit := now1_iter_I 0 bx v [] w2 hbx ho.reads (by simp) (fun k => k = bx ∨ v.ownBlock = some k) (.inl rfl) (fun k hk => .inr hk)
  have HIT := Lib.hid hit
  have l0 : s < rb := by omega
  have l1 : rb < kb := by omega
  have hwS : s = w.heap.size := hs
  have HY := Lib.hid (And.intro y0 (And.intro y1 (And.intro y2 (And.intro hs (And.intro hb1 (And.intro hb2 (And.intro hb3 (And.intro hs1 hs3))))))))
  have hGl : ∀ k, (k = bx ∨ v.ownBlock = some k) → k < w2.heap.size := fun k hk => hk.elim (fun e => by rw [e]; exact hbx.lt) (fun e => (ho.block e).2)
  have h3l : kb < w3.heap.size := by omega
  have en := enters_now_I
  clear hs hrb hb1 x0 x1 hs1 hkb hw3 hs3 y0 y1 y2 s12 hit hwS hn
  refine range_outerVI (n := 0) (gf := 53) (lb := #[.pointer (some ⟨bx, 0, none⟩)]) (xs := []) rfl en HIT.out (Grow.of_below hb3) (fun k hk => ⟨hGl k hk, hb3.block k (hGl k hk)⟩) (fun _ => rfl)
    (fun k => False) (fun k hk => hk.elim) (NilJ w3.heap.size) NilJ.stab ⟨fun _ h => h, Nat.le_refl _⟩
    (fun x T => (((T.setIfInBounds 16 (.int .i64 x.1)).setIfInBounds 17 (.int .i64 x.2)).setIfInBounds 8 (.int .i64 x.1)).setIfInBounds 9 (.int .i64 x.2)) ?assign ?body ?done
  case assign =>
    intro l x W K hK
    simp only [encs_I]
    gi_wp2
    exact hK
  case body =>
    rintro l pre x Φ W hpx - - - -
    have := hpx.length_le
    simp at this
  case done =>
    rintro D Φ W3 ⟨hno, hsz⟩ hon hD hnD hK
    obtain ⟨y0, y1, y2, hs, hb1, hb2, hb3, hs1, hs3⟩ := HY.out
    have hk3 : ∀ k, k < w3.heap.size → W3.heap[k]? = w3.heap[k]? := fun k hk => hon.block k hk (fun h => h) (fun h => h)
    have z0 : Boxed W3 s 35 (.slice none 0 0) := (hk3 s (by omega)).trans y0
    have z1 : Boxed W3 rb 4 (.bool false) := (hk3 rb (by omega)).trans y1
    have z2 : Boxed W3 kb 35 (.slice none 0 0) := (hk3 kb (by omega)).trans y2
    have c0 := z0.cell
    have c1 := z1.cell
    have c2 := z2.cell
    have f0 := z0.frozen
    have f1 := z1.frozen
    have HD := Lib.hid (And.intro hon (And.intro hD (And.intro hK (And.intro z0 z1))))
    clear hno hsz hon hD hnD hK y0 y1 y2 hs hb1 hb2 hb3 hs1 hs3 hk3 z0 z1 z2
    gi_wp2_with fail
    obtain ⟨w5, hw5⟩ : ∃ w5, w5 = (W3.setCell ⟨s, 0, none⟩ (.slice none 0 0)).setCell ⟨rb, 0, none⟩ (.bool true) := ⟨_, rfl⟩
    rw [← hw5]
    obtain ⟨hon, hD, hK, z0, z1⟩ := HD.out
    obtain ⟨y0, y1, y2, hs, hb1, hb2, hb3, hs1, hs3⟩ := HY.out
    have ho5 : ∀ k, k ≠ s → k ≠ rb → w5.heap[k]? = W3.heap[k]? := fun k h1 h2 => by
      rw [hw5, Below.heap_setCell _ _ _ k h2, Below.heap_setCell _ _ _ k h1]
    have b0 : Boxed w5 s 35 (.slice none 0 0) := by
      rw [hw5]; exact (Below.heap_setCell _ _ _ s (by show s ≠ rb; omega)).trans (z0.set _)
    have b1 : Boxed w5 rb 4 (.bool true) := by
      rw [hw5]
      have : Boxed (W3.setCell ⟨s, 0, none⟩ (.slice none 0 0)) rb 4 (.bool false) := (Below.heap_setCell _ _ _ rb (by show rb ≠ s; omega)).trans z1
      exact this.set _
    have hg5 : Grow W3 w5 := by rw [hw5]; exact grow_set.trans grow_set
    have hs2 := hb2.size
    refine marks_leave [D] w5 (by simp) (fun d hd => ?_) (fun w' hg hk => ?_)
    · simp only [List.mem_cons, List.not_mem_nil, or_false] at hd
      subst hd; rw [ho5 _ (by omega) (by omega)]; exact hK
    · have c0' := Boxed.cell (show Boxed w' s 35 (.slice none 0 0) from (hk s (by simp; omega)).trans b0)
      have c1' := Boxed.cell (show Boxed w' rb 4 (.bool true) from (hk rb (by simp; omega)).trans b1)
      refine ⟨.tuple #[.slice none 0 0, .bool true], by simp [results, Try.results8, go_sem, c0', c1'], rfl, ?_⟩
      have hg0 : Grow w w' := (((Grow.of_below hb1).trans (Grow.of_below hb2)).trans (Grow.of_below hb3)).trans (hon.grow.trans (hg5.trans hg))
      refine ⟨hg0.os, hg0.tape, hg0.output, hg0.size, fun j hj => ?_⟩
      rw [hk j (by simp; omega), ho5 j (by omega) (by omega), hon.block j (by omega) (fun h => h) (fun h => h), hb3.block j (by omega), hb2.block j (by omega)]
      exact hb1.block j (by omega)
end Go.Proofs.Ytoohcckhdhfpnaa
end

section
namespace Go.Proofs.Ytoohcckhdhfpnaa
open Go.RowKit Go.Maps Go.Shelf
attribute [local go_sem] Oper.semAt_some
set_option linter.unusedVariables false
set_option linter.unusedSimpArgs false

set_option maxHeartbeats 4000000 in
set_option maxRecDepth 100000 in
theorem law_locksW (p : Option Addr) (a : Int) (xs : List (Int × Int)) (w : World) (hcall : ∀ w', Below w.heap.size w w' → Calls Try.prog 34 #[.pointer p, .int .i64 a] w' fun e w'' => ∃ bx v, e = .returned (.func (.func 53) #[] #[.pointer (some ⟨bx, 0, none⟩)]) ∧ Boxed w'' bx 83 v ∧ OwnR pair_I (bx + 1) v xs w'' ∧ w'.heap.size ≤ bx ∧ Below w'.heap.size w' w'') (hxl : xs.length ≤ 200) :
    Calls Try.prog 8 #[.pointer p, .int .i64 a] w fun e w' => ∃ v, e = .returned (.tuple #[v, .bool true]) ∧ OwnR lockP w.heap.size v xs w' ∧ Below w.heap.size w w' := by
  have hlen := hxl
  have HXL := Lib.hid hxl
  clear hxl
  refine (callsIn_wide (n := 2)).1 ?_
  have q1 : ∀ g lb w, (binOp .eql 63 (.func g #[] lb) .nilFunc).run Try.prog w = .ok (.bool false) w := fun g lb w => by kernel_rfl
  refine callsIn_of_wp_marks Try.func8 rfl trivial ?_ rfl
  simp only [Try.ntmps8, List.size_toArray, List.length_cons, List.length_nil, Nat.reduceAdd, Nat.reduceSub, Array.replicate_succ, Array.replicate_zero, List.push_toArray, List.append_toArray, List.nil_append, List.cons_append]
  have hb2 : Below w.heap.size w ((w.alloc (.cells #[.slice none 0 0] 35)).alloc (.cells #[.bool false] 4)) := ((Below.refl _ w).alloc (Nat.le_refl _) _).alloc (by simp) _
  have hc := hcall _ hb2
  have HC := Lib.hid (And.intro hc hb2)
  have HLN := Lib.hid hlen
  clear hcall hlen hc hb2
  gi_wp2_with (first
    | (gi_at_call 34; refine (callsIn_wide.2 HC.out.1).mono ?_; rintro e wa ⟨bx, v0, rfl, hbx, ho, hn, hba⟩; have H0 := Lib.hid (And.intro hbx (And.intro ho (And.intro hn hba))); clear hbx ho hn hba)
    | (refine ⟨trivial, ?_⟩; gi_at_call 34; refine (callsIn_wide.2 HC.out.1).mono ?_; rintro e wa ⟨bx, v0, rfl, hbx, ho, hn, hba⟩; have H0 := Lib.hid (And.intro hbx (And.intro ho (And.intro hn hba))); clear hbx ho hn hba)
    | fail)
  have hit0 := now1_iter_I 0 bx v0 xs wa H0.out.1 H0.out.2.1.reads (by have := HXL.out; omega) (fun k => k < wa.heap.size) H0.out.1.lt (fun k hk => (H0.out.2.1.block hk).2)
  have HIT := Lib.hid (And.intro hit0 (And.intro enters_now_I H0.out.2.2.2))
  clear hit0 H0
  obtain ⟨s, hs⟩ : ∃ s, s = w.heap.size := ⟨_, rfl⟩
  obtain ⟨rb, hrb⟩ : ∃ rb, rb = s + 1 := ⟨_, rfl⟩
  obtain ⟨ob, hob⟩ : ∃ ob, ob = wa.heap.size := ⟨_, rfl⟩
  obtain ⟨w1, hw1⟩ : ∃ w1, w1 = wa.alloc (.cells #[.slice none 0 0] 35) := ⟨_, rfl⟩
  rw [← hw1]
  have hBa : Below w.heap.size w wa := HC.out.2.trans (HIT.out.2.2.mono HC.out.2.size)
  have hsza : s + 2 ≤ wa.heap.size := by have := HIT.out.2.2.size; rw [World.size_alloc, World.size_alloc] at this; omega
  have hB1a : Below wa.heap.size wa w1 := by rw [hw1]; exact (Below.refl _ _).alloc (Nat.le_refl _) _
  have hB : Below w.heap.size w w1 := hBa.trans (hB1a.mono hBa.size)
  have hsz : w1.heap.size = ob + 1 := by rw [hw1, hob]; simp
  have hx0 : Boxed ((w.alloc (.cells #[.slice none 0 0] 35)).alloc (.cells #[.bool false] 4)) s 35 (.slice none 0 0) := by rw [hs]; exact (Boxed.new w _ _).alloc _
  have hx1 : Boxed ((w.alloc (.cells #[.slice none 0 0] 35)).alloc (.cells #[.bool false] 4)) rb 4 (.bool false) := by
    have := Boxed.new (w.alloc (.cells #[.slice none 0 0] 35)) 4 (.bool false)
    rw [World.size_alloc] at this
    rw [hrb, hs]; exact this
  have x0 : Boxed w1 s 35 (.slice none 0 0) := (hB1a.block s (by omega)).trans ((HIT.out.2.2.block s hx0.lt).trans hx0)
  have x1 : Boxed w1 rb 4 (.bool false) := (hB1a.block rb (by omega)).trans ((HIT.out.2.2.block rb hx1.lt).trans hx1)
  have x2 : Boxed w1 ob 35 (.slice none 0 0) := by rw [hw1, hob]; exact Boxed.new wa _ _
  rw [← hs, ← hrb, ← hob]
  have l0 : s < rb := by omega
  have l1 : rb < ob := by omega
  have l2 : ob < w1.heap.size := by omega
  have HB1 := Lib.hid (And.intro hB hB1a)
  have HS := Lib.hid (And.intro hs (And.intro hsz hob))
  have HR := Lib.hid (And.intro x0 x1)
  clear hw1 hs hrb hB hB1a hBa hsz hsza hx0 hx1 x0 x1 hob
  refine range_outerVI (n := 0) (gf := 53) (lb := #[.pointer (some ⟨bx, 0, none⟩)]) rfl HIT.out.2.1 HIT.out.1 (Grow.of_below HB1.out.2) (fun k hk => ⟨hk, HB1.out.2.block k hk⟩) (fun _ => rfl)
    (fun k => k = ob) (by rintro k rfl; exact ⟨l2, fun h => by have := HS.out.2.2; omega⟩) (ColI lockP w1.heap.size ob) (ColI.stab l2)
    ⟨_, x2, OwnR.nil _ _, fun k => ⟨fun h => h.elim, fun h => by cases h⟩, Nat.le_refl _⟩
    (fun x T => (((T.setIfInBounds 16 (.int .i64 x.1)).setIfInBounds 17 (.int .i64 x.2)).setIfInBounds 8 (.int .i64 x.1)).setIfInBounds 9 (.int .i64 x.2)) ?assign ?body ?done
  case assign =>
    intro l x W K hK
    simp only [encs_I]
    gi_wp2
    exact hK
  case body =>
    rintro l pre x Φ W hpx ⟨v1, hI⟩ hl1 hΦ -
    have hpl := hpx.length_le
    rw [List.length_append, List.length_singleton] at hpl
    have hpl2 : pre.length ≤ 199 := by have := HXL.out; omega
    obtain ⟨ao1, cap1, rfl⟩ := hI.own.lenOf
    obtain ⟨pl, hm⟩ : ∃ pl, pl = pre.length := ⟨_, rfl⟩
    rw [← hm] at hI
    have c0 := hI.bx.cell
    have hlW : ob < W.heap.size := by have := hI.sz; omega
    have hsW : w1.heap.size ≤ W.heap.size := hI.sz
    obtain ⟨xi, xn⟩ := x
    have HI := Lib.hid hI
    have HPH := Lib.hid hΦ
    have HPL := Lib.hid hpl2
    clear hI hΦ hm hpl hpl2
    gi_wp2_with (first
      | (refine wplIn_appR (r := lockP) (y := (xi, xn)) rfl rfl rfl rfl ((OwnR.of HI.out.own (Nat.le_refl _) (fun k hk => Below.heap_alloc _ _ _ (HI.out.own.block hk).2))) (rangeAt_whole (T := 44) (by exact World.alloc_heap_new _ _)) (by have := HPL.out; omega) (by have h := hsW; rw [World.size_alloc]; omega) ?_; intro v' w3 hO hg3 hat3 hne; have cB : w3.cell? ⟨ob, 0, none⟩ = some (.slice ao1 pl cap1) := (World.cell?_of_block (a := ⟨ob, 0, none⟩) ((hg3.block ob (by rw [World.size_alloc]; omega) (fun e => by have := (HI.out.own.block e.symm).1; omega)).trans (Below.heap_alloc _ _ _ hlW))).trans c0; have fB : w3.frozen? ⟨ob, 0, none⟩ = false := ((HI.out.bx.alloc _).kept hg3 (fun e => by have := (HI.out.own.block e.symm).1; omega)).frozen; obtain ⟨ao2, m2, cap2, hm2, rfl⟩ : ∃ ao m cap, m = pre.length + 1 ∧ v' = .slice ao m cap := by { obtain ⟨a, c, e⟩ := hO.lenOf; exact ⟨a, _, c, by simp, e⟩ }; have hm3 : (m2 : Int) ≤ 200 := by { have := HPL.out; omega }; have hcmp : decide ((200 : Int) < (m2 : Int)) = false := decide_eq_false (by omega); have HO := Lib.hid hO; have HG3 := Lib.hid hg3; have HAT := Lib.hid hat3; clear hO hg3 hat3 hm2 hne)
      | fail)
    exact ColC.step HI.out l2 rfl ((Below.refl _ W).alloc (Nat.le_refl _) _) HO.out HG3.out HAT.out
  case done =>
    rintro D Φ W3 ⟨v3, hC⟩ hon hD hnD hK
    obtain ⟨x0, x1⟩ := HR.out
    have hkeep : ∀ k, k < ob → W3.heap[k]? = w1.heap[k]? := fun k hk => hon.block k (by omega) (by omega) (fun h => h)
    have y0 : Boxed W3 s 35 (.slice none 0 0) := (hkeep s (by omega)).trans x0
    have y1 : Boxed W3 rb 4 (.bool false) := (hkeep rb (by omega)).trans x1
    obtain ⟨ao1, cp1, rfl⟩ := hC.own.lenOf
    obtain ⟨m1, hm1⟩ : ∃ m, m = xs.length := ⟨_, rfl⟩
    rw [← hm1] at hC
    have c0 := hC.bx.cell
    have c2 := y0.cell
    have c4 := y1.cell
    have f2 := y0.frozen
    have f4 := y1.frozen
    have hiff := hC.iff
    have hpost : ∀ W5, W5 = (W3.setCell ⟨s, 0, none⟩ (.slice ao1 m1 cp1)).setCell ⟨rb, 0, none⟩ (.bool true) →
        W5.heap[D]? = some (.deferred (some [])) ∧ OwnR lockP w.heap.size (.slice ao1 m1 cp1) xs (W5.putObj D (.deferred none)) ∧ Below w.heap.size w (W5.putObj D (.deferred none)) ∧
        (W5.putObj D (.deferred none)).cell? ⟨s, 0, none⟩ = some (.slice ao1 m1 cp1) ∧ (W5.putObj D (.deferred none)).cell? ⟨rb, 0, none⟩ = some (.bool true) := by
      intro W5 hW5
      obtain ⟨hs, hsz, hob⟩ := HS.out
      have hDl : D < W3.heap.size := (Array.getElem?_eq_some_iff.1 hK).1
      have hb : ∀ k, ob ≤ k → W5.heap[k]? = W3.heap[k]? := fun k hk => by
        rw [hW5, Below.heap_setCell _ _ _ k (by show k ≠ rb; omega), Below.heap_setCell _ _ _ k (by show k ≠ s; omega)]
      have b0 : Boxed W5 s 35 (.slice ao1 m1 cp1) := by
        rw [hW5]
        exact (Below.heap_setCell _ _ _ s (by show s ≠ rb; omega)).trans (y0.set _)
      have b2 : Boxed W5 rb 4 (.bool true) := by
        rw [hW5]
        have : Boxed (W3.setCell ⟨s, 0, none⟩ (.slice ao1 m1 cp1)) rb 4 (.bool false) := (Below.heap_setCell _ _ _ rb (by show rb ≠ s; omega)).trans y1
        exact this.set _
      have hput : ∀ k, k ≠ D → (W5.putObj D (.deferred none)).heap[k]? = W5.heap[k]? := fun k hk => put_other hk
      have hO2 := hon
      have hw2 := HB1.out.1
      refine ⟨(hb D (by omega)).trans hK, hC.own.of (by omega) (fun k hk => ?_), ⟨?_, ?_, ?_, ?_, fun k hk => ?_⟩, ((Boxed.cell (show Boxed (W5.putObj D (.deferred none)) s _ _ from (hput s (by omega)).trans b0))), ((Boxed.cell (show Boxed (W5.putObj D (.deferred none)) rb _ _ from (hput rb (by omega)).trans b2)))⟩
      · rw [hput k (fun e => hnD ((hiff D).2 (by rw [← e]; exact hk)))]; exact hb k (by have := (hC.own.block hk).1; omega)
      · rw [hW5]; exact hO2.grow.os.trans hw2.os
      · rw [hW5]; exact hO2.grow.tape.trans hw2.tape
      · rw [hW5]; exact hO2.grow.output.trans hw2.output
      · have h1 := hO2.grow.size; have h2 := hw2.size; rw [hW5]; simp [World.putObj, World.setCell]; omega
      · rw [hput k (by omega), hW5, Below.heap_setCell _ _ _ k (by show k ≠ rb; omega), Below.heap_setCell _ _ _ k (by show k ≠ s; omega), hO2.block k (by omega) (by omega) (fun h => h)]
        exact hw2.block k (by omega)
    have HP := Lib.hid hpost
    clear hpost hC hon hK hkeep y0 y1 x0 x1 hm1
    gi_wp2
    obtain ⟨W5, hW5⟩ : ∃ W5, W5 = (W3.setCell ⟨s, 0, none⟩ (.slice ao1 m1 cp1)).setCell ⟨rb, 0, none⟩ (.bool true) := ⟨_, rfl⟩
    rw [← hW5]
    obtain ⟨p1, p2, p4, p5, p7⟩ := HP.out W5 hW5
    refine ⟨by simp, .inl ⟨_, _, rfl, run_takeDeferred p1, ?_⟩⟩
    obtain ⟨W6, hW6⟩ : ∃ W6, W6 = W5.putObj D (.deferred none) := ⟨_, rfl⟩
    rw [← hW6] at p2 p4 p5 p7 ⊢
    clear hW6 hW5
    exact ⟨.tuple #[.slice ao1 m1 cp1, .bool true], by simp [results, Try.results8, go_sem, p5, p7], _, rfl, p2, p4⟩
theorem law_locks {N g gl : Nat} {A : Acc} {M : Cls Int} {w : World} (h : LdAt N g gl A M w) {a : Int} (ha : (Lit.int .i64 a).wf = true) (hl : (rowOf M a).length ≤ 200) :
    Calls Try.prog 8 #[.pointer (some ⟨g, 0, none⟩), .int .i64 a] w fun e w' => ∃ v, e = .returned (.tuple #[v, .bool true]) ∧ OwnR lockP w.heap.size v (rowOf M a) w' ∧ Below w.heap.size w w' :=
  law_locksW _ a _ w (fun w' hb => locks_of _ a _ (by omega) w' (ledger_row (h.below hb) ha)) hl
end Go.Proofs.Ytoohcckhdhfpnaa
end

section
namespace Go.Proofs.Ytoohcckhdhfpnaa
open Go.RowKit Go.Maps Go.Shelf
set_option linter.unusedVariables false
set_option linter.unusedSimpArgs false
set_option linter.constructorNameAsVariable false

theorem below_dnL {B : Nat} {a w : World} (h : Below B a w) (n : Nat) : Below B a (w.drewN n) := h.trans ⟨rfl, rfl, rfl, Nat.le_refl _, fun _ _ => rfl⟩
theorem Two.begin {g gl y ab : Nat} {F : FP} {A : Acc} {w w1 w2 : World} (h1 : LdAt w.heap.size g gl A [] w1) (hb1 : Below w.heap.size w w1) (h2 : RlAt y ab F A [] w2) (hF : ∀ k, F k → w1.heap.size ≤ k) (hb2 : Below w1.heap.size w1 w2) : Two g w.heap.size y ab (fun k => k < w.heap.size) A [] A [] w2 := by
  obtain ⟨FL, k1, k2⟩ := LdX.of h1
  refine ⟨FL, F, k1.below hb2, h2, fun k hk hf => ?_, fun k hk => ⟨?_, fun hf => ?_, fun hf => ?_⟩⟩
  · have := k1.lt hf; have := hF k hk; omega
  · have := hb1.size; have := hb2.size; omega
  · have := k2 k hf; omega
  · have := hF k hf; have := hb1.size; omega
theorem Two.alike {g N y ab : Nat} {Z : FP} {A : Acc} {M : Cls Int} {w : World} (h : Two g N y ab Z A M A M w) : Calls Try.prog 7 #[.pointer (some ⟨g, 0, none⟩), .pointer (some ⟨y, 0, none⟩)] w fun e w' => e = .returned (.bool true) ∧ Below w.heap.size w w' := by
  obtain ⟨FL, F, h1, h2, h3, h4⟩ := h
  obtain ⟨gl, h0⟩ := h1.at
  exact law_alike h0 h2 h1.srt.2.1 (rows_le (Nat.le_trans h1.srt.2.2 (by decide)))
theorem Two.locks {g N y ab : Nat} {Z : FP} {A : Acc} {M : Cls Int} {w : World} (h : Two g N y ab Z A M A M w) {k : Nat} (hk : k < 10) (hl : M.length ≤ 100) : Calls Try.prog 8 #[.pointer (some ⟨g, 0, none⟩), .int .i64 k] w fun e w' => ∃ v, e = .returned (.tuple #[v, .bool true]) ∧ OwnR lockP w.heap.size v (rowOf M k) w' ∧ Below w.heap.size w w' := by
  obtain ⟨FL, F, h1, h2, h3, h4⟩ := h
  obtain ⟨gl, h0⟩ := h1.at
  exact law_locks h0 (by have h1 : (-9223372036854775808 : Int) ≤ k ∧ (k : Int) ≤ 9223372036854775807 := by omega
                         simpa [Lit.wf, IntKind.min, IntKind.max, IntKind.signed, IntKind.bits] using h1) (Nat.le_trans (row_length M k) (by omega))
theorem Two.row {g N y ab : Nat} {Z : FP} {A A2 : Acc} {M M2 : Cls Int} {w : World} (h : Two g N y ab Z A M A2 M2 w) {k : Nat} (hk : k < 10) : ∃ v, w.cell? ⟨y, 0, none⟩ = some (.slice (some ⟨ab, 0, none⟩) 10 10) ∧ w.cell? ⟨ab, k * 3 + 2, none⟩ = some v ∧ RdR lockP w v (rowOf M2 k) := by
  obtain ⟨FL, F, h1, h2, h3, h4⟩ := h
  obtain ⟨v, c0, c1, c2, c3, c4, -⟩ := h2.cells hk
  exact ⟨v, c0, c3, c4⟩
set_option maxRecDepth 100000 in
set_option maxHeartbeats 8000000 in
theorem ledgerPlays_walk (v : Value) (l : List Int) (u : Value) (acts : List A4) (w : World) (hr : RdI w v l) (hbd : ∀ n ∈ l, (Lit.int .i64 n).wf = true) (hm : l.length ≤ maxLen) (hra : RdS actR w u acts) (hma : acts.length ≤ maxLen ∧ ∀ x ∈ acts, ActWf x) :
    Calls Try.prog 3 #[v, u] w fun e w' => e = .returned (.bool true) ∧ Below w.heap.size w w' := by
  obtain ⟨ao, cap, rfl⟩ := hr.lenOf
  obtain ⟨K, hK⟩ : ∃ K, K = l.length := ⟨_, rfl⟩
  rw [← hK] at hr hm ⊢
  obtain ⟨ao2, cap2, rfl, hrd⟩ := hra
  obtain ⟨hmx, hwf⟩ := hma
  have hmx' : (acts.length : Int) ≤ 9223372036854775807 := Int.le_trans (Int.ofNat_le.2 hmx) (by decide +kernel)
  obtain ⟨L, hL⟩ : ∃ L, L = acts.length := ⟨_, rfl⟩
  have HRD := Lib.hid hrd
  have HL := Lib.hid hL
  have HWF := Lib.hid hwf
  have HR := Lib.hid (And.intro hr (And.intro hK hm))
  rw [← hL] at hmx' ⊢
  clear hrd hL hmx hwf hr hm hbd hK
  go_enter Try.func3, Try.ntmps3
  by_cases c0 : (40 : Int) < (K : Int)
  · go_wp2_with fail
    exact bodyPost_ret (v := .bool true) (by simp [results, Try.results3, go_sem]) rfl ⟨rfl, Below.refl _ _⟩
  by_cases c1 : (10000 : Int) < (L : Int)
  · go_wp2_with fail
    exact bodyPost_ret (v := .bool true) (by simp [results, Try.results3, go_sem]) rfl ⟨rfl, Below.refl _ _⟩
  have hK40 : K ≤ 40 := by omega
  by_cases hok : newOk l
  · have HOK := Lib.hid hok
    have hn1 : Calls Try.prog 4 #[.slice ao K cap] w fun e w' => ∃ g gl, e = .returned (.tuple #[.pointer (some ⟨g, 0, none⟩), .int .i64 0]) ∧ LdAt w.heap.size g gl (accL l) [] w' ∧ Below w.heap.size w w' := ledger_New_ok HR.out.1 (by rw [← HR.out.2.1]; exact HR.out.2.2) hok
    have hn2 : ∀ w1, Below w.heap.size w w1 → Calls Try.prog 5 #[.slice ao K cap] w1 fun e w' => ∃ y, e = .returned (.tuple #[.pointer (some ⟨y, 0, none⟩), .int .i64 0]) ∧ (∃ ab F, RlAt y ab F (accL l) [] w' ∧ ∀ k, F k → w1.heap.size ≤ k) ∧ Below w1.heap.size w1 w' := fun w1 hb => by
      refine (ref6_New8 _ l w1 (HR.out.1.below hb) (by rw [← HR.out.2.1]; omega)).mono ?_
      rintro e w' ⟨hb2, ⟨-, y, he, h2⟩ | ⟨hn, -⟩⟩
      · exact ⟨y, he, h2, hb2⟩
      · exact absurd hok hn
    have HN1 := Lib.hid hn1
    have HN2 := Lib.hid hn2
    clear hn1 hn2 hok
    go_upto_block 0 with (first
      | (go_at_call 4; refine HN1.out.mono ?_; rintro e w1 ⟨g, gl, rfl, hl, hb⟩; have H1 := Lib.hid (And.intro hl hb); clear hl hb)
      | (go_at_call 5; refine (HN2.out w1 H1.out.2).mono ?_; rintro e w2 ⟨y, rfl, ⟨ab, F, hl, hF⟩, hb⟩; have H2 := Lib.hid (And.intro (Two.begin H1.out.1 H1.out.2 hl hF hb) (H1.out.2.trans (hb.mono H1.out.2.size))); clear hl hb hF)
      | fail)
    obtain ⟨A, hA⟩ : ∃ A, A = accL l := ⟨_, rfl⟩
    rw [← hA] at H2
    clear hA H1 HN1 HN2
    go_wp2_with fail
    go_loopw [9] (fun i wr => ∃ (k : Nat) (A : Acc) (M : Cls Int), k ≤ L ∧ k ≤ 100 ∧ i = .int .i64 k ∧ M.length ≤ k ∧ Two g w.heap.size y ab (fun k => k < w.heap.size) A M A M wr ∧ Below w.heap.size w wr) (fun i _ => 100 - (intOf i).toNat)
    case atStart => exact ⟨0, A, [], by omega, by omega, rfl, by simp, H2.out.1, H2.out.2⟩
    case round =>
      obtain ⟨k, B, M, hkL, hk1, rfl, hlM, htw, hbl⟩ := hrel
      clear H2
      have HS := Lib.hid (And.intro htw (And.intro hbl hlM))
      clear htw hbl hlM
      by_cases hin : k < L ∧ k < 100
      · obtain ⟨hlt, hlt1⟩ := hin
        have hlt' : (k : Int) < L := by omega
        have hlt2 : (k : Int) < 100 := by omega
        obtain ⟨b, off, rfl, hrg, hbw⟩ := HRD.out k (by rw [← HL.out]; exact hlt)
        obtain ⟨x, hx⟩ : ∃ x, x = acts[k]'(by rw [← HL.out]; exact hlt) := ⟨_, rfl⟩
        rw [← hx] at hrg
        have hxw : ActWf x := by rw [hx]; exact HWF.out _ (List.getElem_mem _)
        have hrg2 : wr.rangeAt b (off + k * 4) (ac x) := rangeAt_block hrg (HS.out.2.1.block b hbw)
        have hlm : M.length < 10000 := by have := HS.out.2.2; omega
        have HX := Lib.hid (And.intro hxw (And.intro hrg2 hlm))
        clear hx hrg hbw hrg2 hxw hlt hlt1 hlm
        go_wp2_with (first
          | (refine wpl_loadR (r := actR) _ rfl rfl rfl HX.out.2.1 ?_; dsimp only [actR, ac])
          | (go_at_call 6; refine (law_act x HX.out.1 HX.out.2.2 HS.out.1).mono ?_; rintro e w3 ⟨rfl, A3, M3, h3, k3, l3⟩; have H3 := Lib.hid (And.intro h3 (And.intro (HS.out.2.1.trans (k3.below (fun k hk => hk))) l3)); clear h3 k3 l3)
          | (go_at_call 7; refine (H3.out.1.alike).mono ?_; rintro e w4 ⟨rfl, hb⟩; have H4 := Lib.hid (And.intro (H3.out.1.below hb) (H3.out.2.1.trans (hb.mono H3.out.2.1.size))); clear hb)
          | fail)
        go_roundw
        case rel => exact ⟨k + 1, A3, M3, by omega, by omega, by go_num, by have := H3.out.2.2; have := HS.out.2.2; omega, H4.out.1, H4.out.2⟩
        case measure => simp [intOf]; omega
      · have hl100 : M.length ≤ 100 := by have := HS.out.2.2; omega
        have HM := Lib.hid hl100
        have hex : (¬ (k : Int) < L) ∨ ((k : Int) < L ∧ ¬ (k : Int) < 100) := by omega
        clear hin hkL hk1 hl100
        obtain ⟨wq, hwq⟩ : ∃ wq, wq = wr := ⟨_, rfl⟩
        subst hwq
        rcases hex with hq | ⟨hq1, hq2⟩
        all_goals
          go_wp2_with fail
          go_loopw [10] (fun i wr => ∃ a : Nat, a ≤ 10 ∧ i = .int .i64 a ∧ Two g w.heap.size y ab (fun k => k < w.heap.size) B M B M wr ∧ Below w.heap.size w wr) (fun i _ => 10 - (intOf i).toNat)
          case atStart => exact ⟨0, by omega, rfl, HS.out.1, HS.out.2.1⟩
          case round =>
            obtain ⟨a, ha, rfl, htw, hbl⟩ := hrel
            clear HS
            have HT := Lib.hid (And.intro htw hbl)
            clear htw hbl
            obtain ⟨wq2, hwq2⟩ : ∃ wq2, wq2 = wr := ⟨_, rfl⟩
            subst hwq2
            by_cases ha9 : a < 10
            · have ha9' : (a : Int) < 10 := by omega
              have HA9 := Lib.hid ha9
              obtain ⟨xs, hxs⟩ : ∃ xs, xs = rowOf M a := ⟨_, rfl⟩
              have hlx : xs.length ≤ 100 := by rw [hxs]; exact Nat.le_trans (row_length M a) HM.out
              obtain ⟨n, hn⟩ : ∃ n, n = xs.length := ⟨_, rfl⟩
              have hn100 : n ≤ 100 := by omega
              have HXS := Lib.hid (And.intro hxs hn)
              clear hxs hn hlx
              go_upto_region 16 with (first
                | (go_at_call 8; refine (HT.out.1.locks HA9.out HM.out).mono ?_; rintro e w3 ⟨vg, rfl, ho, hb⟩; have H3 := Lib.hid (And.intro ho (And.intro (HT.out.1.below hb) (HT.out.2.trans (hb.mono HT.out.2.size)))); clear ho hb)
                | fail)
              have ho := H3.out.1.reads
              obtain ⟨vy, c0, c1, hry⟩ := H3.out.2.1.row HA9.out
              rw [← HXS.out.1] at ho hry
              obtain ⟨ao3, cap3, rfl⟩ := ho.lenOf
              obtain ⟨ao4, cap4, rfl⟩ := hry.lenOf
              rw [← HXS.out.2] at ho hry c1 ⊢
              have HO := Lib.hid (And.intro ho (And.intro hry (And.intro c0 c1)))
              clear ho hry
              go_wp2_with fail
              clear c0 c1
              go_loopw [13] (fun i wr => ∃ j : Nat, j ≤ n ∧ i = .int .i64 j ∧ Below w3.heap.size w3 wr) (fun i _ => n - (intOf i).toNat)
              case atStart => exact ⟨0, by omega, rfl, Below.refl _ _⟩
              case round =>
                obtain ⟨j, hj, rfl, hb5⟩ := hrel
                have HB5 := Lib.hid hb5
                clear hb5
                by_cases hlt : j < n
                · have g1 : (j : Int) < n := by omega
                  obtain ⟨b1, o1, rfl, hr1, hb1⟩ := HO.out.1.at (show j < xs.length by rw [← HXS.out.2]; exact hlt)
                  obtain ⟨b2, o2, rfl, hr2, hb2⟩ := HO.out.2.1.at (show j < xs.length by rw [← HXS.out.2]; exact hlt)
                  obtain ⟨x, hx⟩ : ∃ x, x = xs[j]'(by rw [← HXS.out.2]; exact hlt) := ⟨_, rfl⟩
                  rw [← hx] at hr1 hr2
                  have e1 := rangeAt_block hr1 (HB5.out.block b1 hb1)
                  have e2 := rangeAt_block hr2 (HB5.out.block b2 hb2)
                  obtain ⟨xi, xn⟩ := x
                  have d1 : wr.cell? ⟨b1, o1 + j * 2, none⟩ = some (.int .i64 xi) := e1 0 _ rfl
                  have d2 : wr.cell? ⟨b1, o1 + j * 2 + 1, none⟩ = some (.int .i64 xn) := e1 1 _ rfl
                  have d3 : wr.cell? ⟨b2, o2 + j * 2, none⟩ = some (.int .i64 xi) := e2 0 _ rfl
                  have d4 : wr.cell? ⟨b2, o2 + j * 2 + 1, none⟩ = some (.int .i64 xn) := e2 1 _ rfl
                  have c0 : wr.cell? ⟨y, 0, none⟩ = some (.slice (some ⟨ab, 0, none⟩) 10 10) := (World.cell?_of_block (HB5.out.block y (cell_ltR HO.out.2.2.1))).trans HO.out.2.2.1
                  have c1 := (World.cell?_of_block (HB5.out.block ab (cell_ltR HO.out.2.2.2))).trans HO.out.2.2.2
                  clear hx hr1 hr2 e1 e2 hb1 hb2
                  go_upto_region 21 with fail
                  go_quiet (fail)
                  go_wp2_with fail
                  go_roundw
                  case rel => exact ⟨j + 1, by omega, by go_num, HB5.out.trans (by exact below_dnL (Below.refl _ wr) _)⟩
                  case measure => simp [intOf]; omega
                · obtain rfl : j = n := by omega
                  have g1 : ¬ (j : Int) < j := by omega
                  go_wp2_with fail
                  go_roundw
                  case rel => exact ⟨a + 1, by omega, by go_num, H3.out.2.1.below HB5.out, H3.out.2.2.trans (HB5.out.mono H3.out.2.2.size)⟩
                  case measure => simp [intOf]; omega
            · obtain rfl : a = 10 := by omega
              go_wp2_with (first
                | (go_at_call 9; refine (law_known _).mono ?_; rintro e w9 ⟨rfl, hb⟩; have H9 := Lib.hid (HT.out.2.trans (hb.mono HT.out.2.size)); clear hb)
                | fail)
              go_ret
              exact ⟨rfl, H9.out⟩
  · have hn1 : Calls Try.prog 4 #[.slice ao K cap] w fun e w' => e = .returned (.tuple #[.pointer none, .int .i64 1]) ∧ Below w.heap.size w w' := ledger_New_bad HR.out.1 (by rw [← HR.out.2.1]; exact HR.out.2.2) hok
    have hn2 : ∀ w1, Below w.heap.size w w1 → Calls Try.prog 5 #[.slice ao K cap] w1 fun e w' => e = .returned (.tuple #[.pointer none, .int .i64 1]) ∧ Below w1.heap.size w1 w' := fun w1 hb => by
      refine (ref6_New8 _ l w1 (HR.out.1.below hb) (by rw [← HR.out.2.1]; omega)).mono ?_
      rintro e w' ⟨hb2, ⟨hn, -⟩ | ⟨-, he⟩⟩
      · exact absurd hn hok
      · exact ⟨he, hb2⟩
    have HN1 := Lib.hid hn1
    have HN2 := Lib.hid hn2
    clear hn1 hn2 hok
    go_wp2_with (first
      | (go_at_call 4; refine HN1.out.mono ?_; rintro e w1 ⟨rfl, hb⟩; have H1 := Lib.hid hb; clear hb)
      | (go_at_call 5; refine (HN2.out w1 H1.out).mono ?_; rintro e w2 ⟨rfl, hb⟩; have H2 := Lib.hid (H1.out.trans (hb.mono H1.out.size)); clear hb)
      | fail)
    go_loopw [9] (fun i wr => i = .int .i64 0 ∧ wr = w2) (fun i _ => 0)
    case atStart => exact ⟨rfl, rfl⟩
    case round =>
      obtain ⟨rfl, rfl⟩ := hrel
      go_wp2_with fail
      go_loopw [10] (fun i wr2 => i = .int .i64 0 ∧ wr2 = wr) (fun i _ => 0)
      case atStart => exact ⟨rfl, rfl⟩
      case round =>
        obtain ⟨rfl, rfl⟩ := hrel
        go_wp2_with (first
          | (go_at_call 9; refine (law_known _).mono ?_; rintro e w9 ⟨rfl, hb⟩; have H9 := Lib.hid (H2.out.trans (hb.mono H2.out.size)); clear hb)
          | fail)
        go_ret
        exact ⟨rfl, H9.out⟩
end Go.Proofs.Ytoohcckhdhfpnaa
end
