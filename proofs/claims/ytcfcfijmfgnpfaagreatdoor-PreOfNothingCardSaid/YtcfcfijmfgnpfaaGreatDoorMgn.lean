/-
  Joined texts.
-/
import Derived.Below
import Derived.Deep.Matrix
import Derived.Test.YtcfcfijmfgnpfaaGreatDoorRows
import Derived.Lib.LaidTab
import Derived.LaidMore
import Derived.MakeChecks
import Derived.OpenShut
import Derived.FnData
import Derived.Test.YtcfcfijmfgnpfaaGreatDoorMgm

section
namespace Go.Proofs.YtcfcfijmfgnpfaaGreatDoor
open Go.ChangeShapes Go.WideShapes Go.ChangeAt Go.RowKit Go.Deep
set_option linter.unusedVariables false

/-- A slice of integers reads as these. -/
def RdI (w : World) (v : Value) (l : List Int) : Prop :=
  (v = .slice none 0 0 ∧ l = []) ∨ ∃ a cap, v = .slice (some a) l.length cap ∧ l.length ≤ cap ∧ ∀ i, i < l.length → w.cell? (a.add i) = some (.int .i64 (l.getD i 0))
theorem cell_blockI {w : World} {a : Addr} {v : Value} (h : w.cell? a = some v) : a.block < w.heap.size := by
  by_cases hh : a.block < w.heap.size
  · exact hh
  · simp [World.cell?, Array.getElem?_eq_none (Nat.le_of_not_lt hh)] at h
theorem RdI.below {w w' : World} {v : Value} {l : List Int} (h : RdI w v l) (hb : Below w.heap.size w w') : RdI w' v l := by
  rcases h with h | ⟨a, cap, hv, hc, hcell⟩
  · exact .inl h
  · refine .inr ⟨a, cap, hv, hc, fun i hi => ?_⟩
    have hl := cell_blockI (hcell i hi)
    rw [hb.cell hl]; exact hcell i hi
theorem RdI.lenOf {w : World} {v : Value} {l : List Int} (h : RdI w v l) : ∃ ao cap, v = .slice ao l.length cap := by
  rcases h with ⟨rfl, rfl⟩ | ⟨a, cap, rfl, -⟩
  · exact ⟨_, _, rfl⟩
  · exact ⟨_, _, rfl⟩
theorem RdI.at {w : World} {ao : Option Addr} {n cap : Nat} {l : List Int} (h : RdI w (.slice ao n cap) l) {i : Nat} (hi : i < l.length) : ∃ a, ao = some a ∧ w.cell? (a.add i) = some (.int .i64 (l.getD i 0)) := by
  rcases h with ⟨hv, rfl⟩ | ⟨a, cap', hv, hc, hcell⟩
  · simp at hi
  · injection hv with h1 h2 h3
    exact ⟨a, h1, hcell i hi⟩

section
variable {H : Type} {enc : TypeId × Value → H} {P : Program} {w : World} {base : Nat} {held : Bool}
theorem open_RdI0 {t e : TypeId} {k : IntKind} {v : Value} {d : DataW H} {p : List MemPlace} (ht : P.underlying t = some (.slice e)) (he : P.underlying e = some (.int k)) (hc : P.cellsOf e = 1)
    (h : ∃ fuel, DataW.trod enc P w base (fun _ => true) held fuel t [v] = some (d, p)) : (v = .slice none 0 0) ∨
      ∃ (a : Addr) (len cap : Nat) (zs : List Int), v = .slice (some a) len cap ∧ len ≤ cap ∧ cap ≤ maxLen ∧ zs.length = cap ∧ (∀ i, i < cap → w.cell? (a.add i) = some (.int k (zs.getD i 0))) ∧ (∀ n ∈ zs, (Lit.int k n).wf = true) := by
  obtain ⟨fuel, hf⟩ := h
  rcases open_ints ht he hc hf with ⟨hcs, -⟩ | ⟨a, len, cap, zs, hcs, hb, hl, hm, hz, -, hcell, hwz⟩
  · exact .inl (by simpa using hcs)
  · simp only [if_true] at hz
    exact .inr ⟨a, len, cap, zs, by simpa using hcs, hl, hm, hz, fun i hi => hcell i (by omega), hwz⟩
theorem cells_sliceI {v : Value} {r : Reach} {b0 : Nat} {t e : TypeId} (ht : P.underlying t = some (.slice e)) (hv : Value.okWide P w r b0 t v) : v.cells.toList = [v] := by
  unfold Value.okWide at hv
  rw [ht] at hv
  simp only [Cell.okWide, Cell.ok, ht] at hv
  cases v <;> simp [Value.cells] at hv ⊢
theorem open_RdI {t e : TypeId} {v : Value} {d : DataW H} {p : List MemPlace} {r : Reach} {b0 : Nat} (ht : P.underlying t = some (.slice e)) (he : P.underlying e = some (.int .i64)) (hc : P.cellsOf e = 1)
    (hv : Value.okWide P w r b0 t v) (h : DataW.Trod enc P w base (fun _ => true) held t v d p) : ∃ l : List Int, RdI w v l ∧ (∀ n ∈ l, (Lit.int .i64 n).wf = true) ∧ l.length ≤ maxLen := by
  obtain ⟨fuel, hf⟩ := h
  rw [cells_sliceI ht hv] at hf
  rcases open_RdI0 ht he hc ⟨fuel, hf⟩ with rfl | ⟨a, len, cap, zs, rfl, hl, hm, hz, hcell, hw⟩
  · exact ⟨[], .inl ⟨rfl, rfl⟩, by simp, by simp⟩
  · have hlen : (zs.take len).length = len := by simp; omega
    refine ⟨zs.take len, .inr ⟨a, cap, by rw [hlen], by rw [hlen]; exact hl, fun i hi => ?_⟩, fun n hn => hw n (List.mem_of_mem_take hn), by rw [hlen]; omega⟩
    rw [hlen] at hi
    rw [hcell i (by omega)]
    have hiz : i < zs.length := by omega
    simp [hiz, hi]
end
end Go.Proofs.YtcfcfijmfgnpfaaGreatDoor
end

section
namespace Go.Proofs.YtcfcfijmfgnpfaaGreatDoor
open Go.RowKit Go.Maps Go.Shelf
set_option linter.unusedVariables false
set_option linter.unusedSimpArgs false

/-- The accounts of some balances. -/
def accL (l : List Int) : Acc := fun k => (l.getD k 0, 0)
def newOk (l : List Int) : Prop := l.length ≤ 10 ∧ (∀ k, k < l.length → isBal (l.getD k 0)) ∧ sumTo (accL l) 10 ≤ 1073741824
theorem accL_nil : accL [] = acc0 := by funext k; simp [accL, acc0]
theorem take_getD {l : List Int} {k j : Nat} : (l.take k).getD j 0 = if j < k then l.getD j 0 else 0 := by
  by_cases h : j < k
  · rw [if_pos h, List.getD_eq_getElem?_getD, List.getD_eq_getElem?_getD, List.getElem?_take_of_lt h]
  · rw [if_neg h, List.getD_eq_getElem?_getD, List.getElem?_eq_none (by simp; omega)]; rfl
theorem accL_step (l : List Int) (k : Nat) : upd (accL (l.take k)) k (l.getD k 0, (accL (l.take k) k).2) = accL (l.take (k + 1)) := by
  funext j
  by_cases e : j = k
  · subst e
    rw [upd_same]
    show (l.getD j 0, (0 : Int)) = ((l.take (j + 1)).getD j 0, 0)
    rw [take_getD, if_pos (by omega)]
  · rw [upd_other _ _ e]
    show ((l.take k).getD j 0, (0 : Int)) = ((l.take (k + 1)).getD j 0, 0)
    rw [take_getD, take_getD]
    by_cases h : j < k
    · rw [if_pos h, if_pos (by omega)]
    · rw [if_neg h, if_neg (by omega)]
theorem sum_accL_step (l : List Int) {k : Nat} (hk : k < 10) : sumTo (accL (l.take (k + 1))) 10 = sumTo (accL (l.take k)) 10 + l.getD k 0 := by
  rw [← accL_step, sumTo_upd, if_pos hk]
  have : both (accL (l.take k)) k = 0 := by unfold both accL; rw [take_getD, if_neg (by omega)]; rfl
  rw [this]
  show sumTo (accL (l.take k)) 10 + (l.getD k 0 + 0 - 0) = _
  omega
theorem accL_ok {l : List Int} (h : ∀ k, k < l.length → isBal (l.getD k 0)) (hs : sumTo (accL l) 10 ≤ 1073741824) : AccOk (accL l) := by
  refine ⟨fun k => ?_, fun k => by simp [accL], hs⟩
  unfold accL
  by_cases c : k < l.length
  · exact (h k c).1
  · rw [List.getD_eq_getElem?_getD, List.getElem?_eq_none (by omega)]; simp
theorem sum_accL_mono {l : List Int} (h : ∀ k, k < l.length → isBal (l.getD k 0)) (k : Nat) : sumTo (accL (l.take k)) 10 ≤ sumTo (accL l) 10 := by
  have key : ∀ n, sumTo (accL (l.take k)) n ≤ sumTo (accL l) n := by
    intro n
    induction n with
    | zero => exact Int.le_refl _
    | succ n ih =>
      rw [sumTo, sumTo]
      have : both (accL (l.take k)) n ≤ both (accL l) n := by
        unfold both accL
        rw [take_getD]
        by_cases c : n < l.length
        · have := (h n c).1; split <;> simp only <;> omega
        · have e : l.getD n 0 = 0 := by rw [List.getD_eq_getElem?_getD, List.getElem?_eq_none (by omega)]; rfl
          rw [e]; split <;> simp
      omega
  exact key 10
theorem newOk_nil : newOk [] := ⟨by simp, fun k hk => absurd hk (Nat.not_lt_zero k), by rw [accL_nil]; decide⟩
theorem LdAt.start {N g gl : Nat} {w1 w2 : World} (ho : GrOwn codI 117 N gl [] w1) (hN : N ≤ w1.heap.size) (hg : g = w1.heap.size) (hw : w2 = w1.alloc (.cells (lcells acc0 gl).toArray 83)) : LdAt N g gl acc0 [] w2 ∧ Below N w1 w2 := by
  obtain ⟨F, h1, h2⟩ := ho
  have hB : Below w1.heap.size w1 w2 := by rw [hw]; exact (Below.refl _ w1).alloc (Nat.le_refl _) _
  refine ⟨⟨by rw [hw, hg]; exact World.alloc_heap_new _ _, ⟨F, h1.keep (Grow.of_below hB) (fun k hk => hB.block k (h1.2.2.1 k hk)), fun k hk => ⟨h2 k hk, fun e => by have := h1.2.2.1 k hk; omega⟩⟩, by omega, AccOk.zero, by simp⟩, hB.mono hN⟩
set_option maxRecDepth 100000 in
set_option maxHeartbeats 4000000 in
theorem ledger_New (v : Value) (l : List Int) (w : World) (hr : RdI w v l) (hm : l.length ≤ maxLen) : Calls Tryz.prog 11 #[v] w fun e w' => Below w.heap.size w w' ∧ ((newOk l ∧ ∃ g, e = .returned (.tuple #[.pointer (some ⟨g, 0, none⟩), .int .i64 0]) ∧ ∃ gl, LdAt w.heap.size g gl (accL l) [] w') ∨ (¬ newOk l ∧ e = .returned (.tuple #[.pointer none, .int .i64 1]))) := by
  obtain ⟨ao, cap, rfl⟩ := hr.lenOf
  obtain ⟨L, hL⟩ : ∃ L, L = l.length := ⟨_, rfl⟩
  rw [← hL] at hr hm ⊢
  have HR := Lib.hid (And.intro hr hL)
  clear hr hm hL
  go_enter Tryz.func11, Tryz.ntmps11
  by_cases c0 : (10 : Int) < (L : Int)
  · go_wp2_with fail
    exact bodyPost_ret (v := .tuple #[.pointer none, .int .i64 1]) (by simp [results, Tryz.results11, go_sem]) rfl ⟨Below.refl _ _, .inr ⟨fun h => by have := h.1; have := HR.out.2; omega, rfl⟩⟩
  have hL10 : L ≤ 10 := by omega
  go_wp2_with (first
    | (go_at_call 38; refine (grid_New_own_I w).mono ?_; rintro e w1 ⟨gl, rfl, ho1, hb1⟩; have H1 := Lib.hid (And.intro ho1 hb1); clear ho1 hb1)
    | fail)
  obtain ⟨w2, hw2⟩ : ∃ w2, w2 = w1.alloc (.cells #[.int .i64 0, .int .i64 0, .int .i64 0, .int .i64 0, .int .i64 0, .int .i64 0, .int .i64 0, .int .i64 0, .int .i64 0, .int .i64 0, .int .i64 0, .int .i64 0, .int .i64 0, .int .i64 0, .int .i64 0, .int .i64 0, .int .i64 0, .int .i64 0, .int .i64 0, .int .i64 0, .pointer (some ⟨gl, 0, none⟩)] 83) := ⟨_, rfl⟩
  obtain ⟨g, hg⟩ : ∃ g, g = w1.heap.size := ⟨_, rfl⟩
  obtain ⟨hl0, hb0⟩ := LdAt.start H1.out.1 H1.out.2.size hg (hw2.trans rfl)
  rw [← hw2, ← hg]
  have H2 := Lib.hid (And.intro hl0 (H1.out.2.trans hb0))
  clear hw2 hg hl0 hb0 H1
  go_loopw [15] (fun i wr => ∃ k : Nat, k ≤ L ∧ i = .int .i64 k ∧ (∀ j, j < k → isBal (l.getD j 0)) ∧ LdAt w.heap.size g gl (accL (l.take k)) [] wr ∧ Below w.heap.size w wr) (fun i _ => L - (intOf i).toNat)
  case atStart => exact ⟨0, by omega, rfl, fun j hj => by omega, by rw [List.take_zero, accL_nil]; exact H2.out.1, H2.out.2⟩
  case round =>
    obtain ⟨k, hk, rfl, hbs, hld, hbl⟩ := hrel
    have HS := Lib.hid (And.intro hbs (And.intro hld hbl))
    by_cases hlt : k < L
    · have hlt' : (k : Int) < L := by omega
      have hk10 : (k : Int) < 10 := by omega
      obtain ⟨a, rfl, ca⟩ := (HR.out.1.below hbl).at (show k < l.length by rw [← HR.out.2]; exact hlt)
      obtain ⟨n, hn⟩ : ∃ n, n = l.getD k 0 := ⟨_, rfl⟩
      rw [← hn] at ca
      obtain ⟨s, hs⟩ : ∃ s, s = sumTo (accL (l.take k)) 10 := ⟨_, rfl⟩
      have hs0 : 0 ≤ s ∧ s ≤ 1073741824 := by rw [hs]; exact hld.ok.part (Nat.le_refl _)
      have hiss := ledger_Issued hld
      rw [← hs] at hiss
      have HI := Lib.hid hiss
      have hs1 : sumTo (accL (l.take (k + 1))) 10 = s + n := by rw [hs, hn]; exact sum_accL_step l (by omega)
      have HN := Lib.hid (And.intro hn hs1)
      clear hiss hs hn hs1 hbs hld hbl
      by_cases hbal : isBal n
      · have hbal' := hbal
        unfold isBal at hbal'
        have hd : decide (0 ≤ n ∧ n ≤ 1073741824) = true := decide_eq_true hbal'
        obtain ⟨sn, hsn⟩ : ∃ sn, sn = s + n := ⟨_, rfl⟩
        have hn2 : IntKind.i64.wrap (s + n) = sn := by rw [hsn]; exact IntWalk.i64_in _ (by omega)
        by_cases hov : 1073741824 < sn
        · have hd2 : decide (0 ≤ sn ∧ sn ≤ 1073741824) = false := decide_eq_false (by omega)
          have hbad : ¬ newOk l := fun h => by have h1 := sum_accL_mono h.2.1 (k + 1); have h2 := HN.out.2; have h3 := h.2.2; omega
          have HD := Lib.hid (And.intro hd (And.intro hd2 hbad))
          clear hbal hbal' hd hsn hd2 hov hbad hs0
          have tok : True := trivial
          go_wp2_with (first
            | (go_at_call 39; have _t := tok; refine (bound_Balance n _).mono ?_; rw [HD.out.1]; rintro e w' ⟨rfl, hw⟩; rw [hw]; clear hw w' tok)
            | (go_at_call 40; refine HI.out.mono ?_; rintro e w3 ⟨rfl, hb⟩; have H3 := Lib.hid hb; clear hb)
            | (go_at_call 39; refine (bound_Balance sn _).mono ?_; rw [HD.out.2.1]; rintro e w' ⟨rfl, hw⟩; rw [hw]; clear hw w')
            | fail)
          exact bodyPost_ret (v := .tuple #[.pointer none, .int .i64 1]) (by simp [results, Tryz.results11, go_sem]) rfl ⟨HS.out.2.2.trans (H3.out.mono HS.out.2.2.size), .inr ⟨HD.out.2.2, rfl⟩⟩
        · have hd2 : decide (0 ≤ sn ∧ sn ≤ 1073741824) = true := decide_eq_true (by omega)
          have hok2 : AccOk (upd (accL (l.take k)) k (n, (accL (l.take k) k).2)) := by
            have hld := HS.out.2.1
            have h1 := HN.out.2
            rw [HN.out.1, ← accL_step] at h1
            rw [HN.out.1] at hsn hbal'
            rw [HN.out.1]
            refine ⟨fun j => ?_, fun j => ?_, by omega⟩
            · by_cases e : j = k
              · subst e; rw [upd_same]; exact hbal'.1
              · rw [upd_other _ _ e]; exact hld.ok.free j
            · by_cases e : j = k
              · subst e; rw [upd_same]; exact hld.ok.held j
              · rw [upd_other _ _ e]; exact hld.ok.held j
          have hpay : ∀ w1, LdAt w.heap.size g gl (accL (l.take k)) [] w1 → LdAt w.heap.size g gl (accL (l.take (k + 1))) [] (w1.setCell ⟨g, k * 2, none⟩ (.int .i64 n)) ∧ Below w.heap.size w1 (w1.setCell ⟨g, k * 2, none⟩ (.int .i64 n)) := fun w1 h1 => by
            have := h1.setFree (a := k) (by omega) n hok2
            refine ⟨?_, this.2⟩
            rw [← accL_step, ← HN.out.1]; exact this.1
          have HD := Lib.hid (And.intro hd (And.intro hd2 hbal))
          have HP := Lib.hid hpay
          clear hbal hbal' hd hsn hd2 hov hs0 hok2 hpay
          have tok : True := trivial
          go_wp2_with (first
            | (go_at_call 39; have _t := tok; refine (bound_Balance n _).mono ?_; rw [HD.out.1]; rintro e w' ⟨rfl, hw⟩; rw [hw]; clear hw w' tok)
            | (go_at_call 40; refine HI.out.mono ?_; rintro e w3 ⟨rfl, hb⟩; have h3 := HS.out.2.1.below hb; have hf3 := h3.frozen (k * 2); have hc3 := h3.free (k := k) (by omega); have H3 := Lib.hid (And.intro h3 (hb.mono HS.out.2.2.size)); clear hb h3)
            | (go_at_call 39; refine (bound_Balance sn _).mono ?_; rw [HD.out.2.1]; rintro e w' ⟨rfl, hw⟩; rw [hw]; clear hw w')
            | fail)
          go_roundw
          case rel =>
            refine ⟨k + 1, by omega, by go_num, fun j hj => ?_, (HP.out _ H3.out.1).1, HS.out.2.2.trans (H3.out.2.trans (HP.out _ H3.out.1).2)⟩
            by_cases e : j = k
            · subst e; rw [← HN.out.1]; exact HD.out.2.2
            · exact HS.out.1 j (by omega)
          case measure => simp [intOf]; omega
      · have hd : decide (0 ≤ n ∧ n ≤ 1073741824) = false := by unfold isBal at hbal; exact decide_eq_false hbal
        have hbad : ¬ newOk l := fun h => hbal (by rw [HN.out.1]; exact h.2.1 k (by rw [← HR.out.2]; exact hlt))
        have HD := Lib.hid (And.intro hd hbad)
        clear hbal hd hbad hs0
        go_wp2_with (first
          | (go_at_call 39; refine (bound_Balance n _).mono ?_; rw [HD.out.1]; rintro e w' ⟨rfl, hw⟩; rw [hw]; clear hw w')
          | fail)
        exact bodyPost_ret (v := .tuple #[.pointer none, .int .i64 1]) (by simp [results, Tryz.results11, go_sem]) rfl ⟨HS.out.2.2, .inr ⟨HD.out.2, rfl⟩⟩
    · have hge : ¬ (k : Int) < L := by omega
      have hkl : l.take k = l := List.take_of_length_le (by have := HR.out.2; omega)
      have hfin : newOk l ∧ LdAt w.heap.size g gl (accL l) [] wr := by
        rw [hkl] at hld
        exact ⟨⟨by have := HR.out.2; omega, fun j hj => hbs j (by have := HR.out.2; omega), hld.ok.all⟩, hld⟩
      have HF := Lib.hid hfin
      clear hfin hkl hbs hld hbl
      go_wp2_with fail
      exact bodyPost_ret (v := .tuple #[.pointer (some ⟨g, 0, none⟩), .int .i64 0]) (by simp [results, Tryz.results11, go_sem]) rfl ⟨HS.out.2.2, .inl ⟨HF.out.1, g, rfl, gl, HF.out.2⟩⟩
end Go.Proofs.YtcfcfijmfgnpfaaGreatDoor
end

section
namespace Go.Proofs.YtcfcfijmfgnpfaaGreatDoor
open Go.RowKit Go.Maps Go.Shelf
set_option linter.unusedVariables false
set_option linter.unusedSimpArgs false

theorem ledger_New_ok {v : Value} {l : List Int} {w : World} (hr : RdI w v l) (hm : l.length ≤ maxLen) (hok : newOk l) : Calls Tryz.prog 11 #[v] w fun e w' => ∃ g gl, e = .returned (.tuple #[.pointer (some ⟨g, 0, none⟩), .int .i64 0]) ∧ LdAt w.heap.size g gl (accL l) [] w' ∧ Below w.heap.size w w' := by
  refine (ledger_New v l w hr hm).mono ?_
  rintro e w' ⟨hb, ⟨-, g, rfl, gl, hl⟩ | ⟨hno, -⟩⟩
  · exact ⟨g, gl, rfl, hl, hb⟩
  · exact absurd hok hno
theorem ledger_New_bad {v : Value} {l : List Int} {w : World} (hr : RdI w v l) (hm : l.length ≤ maxLen) (hok : ¬ newOk l) : Calls Tryz.prog 11 #[v] w fun e w' => e = .returned (.tuple #[.pointer none, .int .i64 1]) ∧ Below w.heap.size w w' := by
  refine (ledger_New v l w hr hm).mono ?_
  rintro e w' ⟨hb, ⟨hyes, -⟩ | ⟨-, rfl⟩⟩
  · exact absurd hyes hok
  · exact ⟨rfl, hb⟩
/-- A slice literal's numbers. -/
theorem RdI.lit (w : World) (T : TypeId) (l : List Int) (n : Nat) (hn : l.length = n) : RdI (w.alloc (.cells (l.map (fun n => Value.int .i64 n)).toArray T)) (.slice (some ⟨w.heap.size, 0, none⟩) n n) l := by
  subst hn
  refine .inr ⟨⟨w.heap.size, 0, none⟩, _, rfl, Nat.le_refl _, fun i hi => ?_⟩
  have h := World.alloc_heap_new w (.cells (l.map (fun n => Value.int .i64 n)).toArray T)
  have e : (⟨w.heap.size, 0, none⟩ : Addr).add i = ⟨w.heap.size, i, none⟩ := by rw [Addr.add_mid]; simp
  rw [e]
  refine cell_of h ?_
  simp [hi, List.getD_eq_getElem?_getD]
def M1 : Cls Int := lockM [] 0 1 3
theorem newOk_one {n : Int} (h : isBal n) : newOk [n] := by
  refine ⟨by simp, fun k hk => ?_, ?_⟩
  · have e : k = 0 := by simpa using hk
    subst e; exact h
  · have : sumTo (accL [n]) 10 = n := by simp [sumTo, both, accL]
    rw [this]; exact h.2
theorem known1 : newOk [5] := newOk_one (by decide)
theorem known2 : transE (accL [5]) M1 0 1 3 = 7 := by decide +kernel
theorem known2a : transA (accL [5]) M1 0 1 3 = accL [5] := by unfold transA; rw [known2]; rfl
theorem known3 : transE (accL [5]) M1 0 1 2 = 0 := by decide +kernel
def A52 : Acc := transA (accL [5]) M1 0 1 2
theorem known4 : (accOf A52 0).1 = 3 := by decide +kernel
theorem known5 : sumTo A52 10 = 5 := by decide +kernel
end Go.Proofs.YtcfcfijmfgnpfaaGreatDoor
end

section
namespace Go.Proofs.YtcfcfijmfgnpfaaGreatDoor
open Go.RowKit Go.Maps
set_option linter.unusedVariables false
set_option linter.unusedSimpArgs false

abbrev Pm := List (Dg × (Int × Cl))
abbrev Um := List (Dg × Int)
/-- A ledger, a Pre, boxes. -/
def P8 (g pb : Nat) (A : Acc) (M : Cls Int) (P : Pm) (U : Um) (bs : List (Nat × List Value)) (w0 w : World) : Prop :=
  ∃ F, ((ldM g A M).star (prM pb P U)).is F w ∧ (∀ k, F k → w0.heap.size ≤ k) ∧ Below w0.heap.size w0 w ∧ ∀ b ∈ bs, w.rangeAt b.1 0 b.2 ∧ ¬ F b.1 ∧ b.1 < w.heap.size ∧ w0.heap.size ≤ b.1
section
variable {g pb : Nat} {A A' : Acc} {M M' : Cls Int} {P P' : Pm} {U U' : Um} {bs : List (Nat × List Value)} {w0 w w' : World}
theorem P8.bl (h : P8 g pb A M P U bs w0 w) : Below w0.heap.size w0 w := by obtain ⟨F, h1, h2, h3, h4⟩ := h; exact h3
theorem P8.below (h : P8 g pb A M P U bs w0 w) (hb : Below w.heap.size w w') : P8 g pb A M P U bs w0 w' := by
  obtain ⟨F, h1, h2, h3, h4⟩ := h
  exact ⟨F, Mem.below h1 hb, h2, h3.trans (hb.mono h3.size), fun b hm => by
    obtain ⟨k1, k2, k3, k4⟩ := h4 b hm
    exact ⟨rangeAt_block k1 (hb.block _ k3), k2, Nat.lt_of_lt_of_le k3 hb.size, k4⟩⟩
theorem P8.to {F : FP} (h1 : ((ldM g A M).star (prM pb P U)).is F w) (h2 : ∀ k, F k → w0.heap.size ≤ k) (h3 : Below w0.heap.size w0 w) (h4 : ∀ b ∈ bs, w.rangeAt b.1 0 b.2 ∧ ¬ F b.1 ∧ b.1 < w.heap.size ∧ w0.heap.size ≤ b.1) (ht : ((ldM g A' M').star (prM pb P' U')).to F w w') : P8 g pb A' M' P' U' bs w0 w' := by
  obtain ⟨F', k1, k2, k3⟩ := ht
  have hs := h3.size
  have k0 := k3.grow.size
  refine ⟨F', k1, fun k e => (k2 k e).elim (h2 k) (fun q => Nat.le_trans hs q), h3.trans (k3.below hs h2 (fun k q => q.elim)), fun b hm => ?_⟩
  obtain ⟨q1, q2, q3, q4⟩ := h4 b hm
  exact ⟨rangeAt_block q1 (k3.block _ q3 q2 (fun q => q)), fun e => (k2 _ e).elim q2 (fun q => by omega), Nat.lt_of_lt_of_le q3 k0, q4⟩
theorem P8.new (h : P8 g pb A M P U bs w0 w) {b : Nat} {l : List Value} (hr : w'.rangeAt b 0 l) (hb : Below w.heap.size w w') (hn : w.heap.size ≤ b) (hl : b < w'.heap.size) : P8 g pb A M P U ((b, l) :: bs) w0 w' := by
  obtain ⟨F, h1, h2, h3, h4⟩ := h
  refine ⟨F, Mem.below h1 hb, h2, h3.trans (hb.mono h3.size), fun x hm => ?_⟩
  rcases List.mem_cons.1 hm with rfl | hm
  · exact ⟨hr, fun e => by have := Mem.lt _ h1 e; omega, hl, Nat.le_trans h3.size hn⟩
  · obtain ⟨k1, k2, k3, k4⟩ := h4 x hm
    exact ⟨rangeAt_block k1 (hb.block _ k3), k2, Nat.lt_of_lt_of_le k3 hb.size, k4⟩
theorem P8.hash (h : P8 g pb A M P U bs w0 w) (d : Dg) : P8 g pb A M P U ((w.heap.size, Bs d.s) :: bs) w0 (w.alloc (.cells (Bs d.s).toArray 41)) :=
  h.new hashBox ((Below.refl _ w).alloc (Nat.le_refl _) _) (Nat.le_refl _) (by simp)
theorem P8.less {bs' : List (Nat × List Value)} (h : P8 g pb A M P U bs w0 w) (hs : ∀ b ∈ bs', b ∈ bs) : P8 g pb A M P U bs' w0 w := by
  obtain ⟨F, h1, h2, h3, h4⟩ := h
  exact ⟨F, h1, h2, h3, fun b hm => h4 b (hs b hm)⟩
theorem P8.box (h : P8 g pb A M P U bs w0 w) {b : Nat} {l : List Value} (hm : (b, l) ∈ bs) : w.rangeAt b 0 l := by obtain ⟨F, h1, h2, h3, h4⟩ := h; exact (h4 _ hm).1
theorem P8.lt (h : P8 g pb A M P U bs w0 w) {b : Nat} {l : List Value} (hm : (b, l) ∈ bs) : b < w.heap.size := by obtain ⟨F, h1, h2, h3, h4⟩ := h; exact (h4 _ hm).2.2.1
theorem P8.begin {w : World} {gl : Nat} (hb : Below w0.heap.size w0 w) (h : LdAt w.heap.size g gl A M w') (hb' : Below w.heap.size w w') : P8 g w'.heap.size A M [] [] [] w0 (w'.alloc (.cells #[.map none, .map none] 94)) := by
  obtain ⟨FL, h1, h2⟩ := LdX.of h
  have h3 : (ldM g A M).is FL w' := by
    obtain ⟨gl, F, k1, k2, k3, k4, k5, k6, k7⟩ := h1
    exact ⟨gl, F, k1, k2, fun k hk => ⟨Nat.zero_le _, (k3 k hk).2⟩, Nat.zero_le _, k5, k6, k7⟩
  have hs := hb.size
  have hs' := hb'.size
  have hal : Below w'.heap.size w' (w'.alloc (.cells #[.map none, .map none] 94)) := (Below.refl _ w').alloc (Nat.le_refl _) _
  exact ⟨_, Mem.join_new h3 hal (prM_new w') (fun k e => Nat.le_of_eq e.symm), fun k e => e.elim (fun e => Nat.le_trans hs (h2 k e)) (fun e => by omega), (hb.trans (hb'.mono hs)).trans (hal.mono (by omega)), fun b hm => by cases hm⟩
theorem P8.srt (h : P8 g pb A M P U bs w0 w) : SrtD P ∧ SrtD U := by
  obtain ⟨F, h1, -⟩ := h
  obtain ⟨B, ⟨o, o2, m, hp⟩, -⟩ := Mem.r h1
  exact ⟨hp.rel.1, hp.mu.srt⟩
theorem P8.note (h : P8 g pb A M P U bs w0 w) (hG : Glob w0) {d : Nat} {c : Cl} {v : Value} (hrd : RdC w d v c) {who : Int} (hw : (Lit.int .i64 who).wf = true) :
    Calls Tryz.prog 16 #[.pointer (some ⟨pb, 0, none⟩), .pointer (some ⟨g, 0, none⟩), .int .i64 who, v] w fun e w' => e = .returned (.tuple #[.agg (Bs (noteH A M P who c).s).toArray, .int .i64 (noteE A M P who c)]) ∧ P8 g pb (noteA A M P who c) M (noteP A M P who c) U bs w0 w' := by
  obtain ⟨F, h1, h2, h3, h4⟩ := h
  exact (pre_Note h1 (hG.below h3 hG.lt) hrd hw).mono fun e w' ⟨he, ht⟩ => ⟨he, P8.to h1 h2 h3 h4 ht⟩
theorem P8.unnote (h : P8 g pb A M P U bs w0 w) (d : Dg) (who : Int) :
    Calls Tryz.prog 18 #[.pointer (some ⟨pb, 0, none⟩), .pointer (some ⟨g, 0, none⟩), .int .i64 who, .agg (Bs d.s).toArray] w fun e w' => e = .returned (.int .i64 (unnE P U who d)) ∧ P8 g pb (unnA A P U who d) M (unnP P U who d) U bs w0 w' := by
  obtain ⟨F, h1, h2, h3, h4⟩ := h
  exact (pre_Unnote h1 d who).mono fun e w' ⟨he, ht⟩ => ⟨he, P8.to h1 h2 h3 h4 ht⟩
theorem P8.want (h : P8 g pb A M P U bs w0 w) (d : Dg) (hl : U.length ≤ 100000) (k1 : 0 ≤ wantN U d) (k2 : wantN U d ≤ 1000000) :
    Calls Tryz.prog 20 #[.pointer (some ⟨pb, 0, none⟩), .agg (Bs d.s).toArray] w fun e w' => e = .returned (.tuple #[]) ∧ P8 g pb A M P (wantU U d) bs w0 w' := by
  obtain ⟨F, h1, h2, h3, h4⟩ := h
  obtain ⟨B, hB, -, ht⟩ := Mem.r h1
  exact (pre_Want hB hl d k1 k2).mono fun e w' ⟨he, q⟩ => ⟨he, P8.to h1 h2 h3 h4 (ht _ _ q)⟩
theorem P8.unwant (h : P8 g pb A M P U bs w0 w) (d : Dg) (hl : U.length ≤ 100000) (k1 : 0 ≤ wantN U d) (k2 : wantN U d ≤ 1000000) :
    Calls Tryz.prog 22 #[.pointer (some ⟨pb, 0, none⟩), .agg (Bs d.s).toArray] w fun e w' => e = .returned (.tuple #[]) ∧ P8 g pb A M P (unwantU U d) bs w0 w' := by
  obtain ⟨F, h1, h2, h3, h4⟩ := h
  obtain ⟨B, hB, -, ht⟩ := Mem.r h1
  exact (pre_Unwant hB hl d k1 k2).mono fun e w' ⟨he, q⟩ => ⟨he, P8.to h1 h2 h3 h4 (ht _ _ q)⟩
theorem P8.wanted (h : P8 g pb A M P U bs w0 w) (d : Dg) :
    Calls Tryz.prog 26 #[.pointer (some ⟨pb, 0, none⟩), .agg (Bs d.s).toArray] w fun e w' => e = .returned (.int .i64 (wantN U d)) ∧ P8 g pb A M P U bs w0 w' ∧ Below w.heap.size w w' := by
  obtain ⟨F, h1, -⟩ := id h
  obtain ⟨B, hB, -, -⟩ := Mem.r h1
  exact (pre_Wanted hB d).mono fun e w' ⟨he, q⟩ => ⟨he, h.below q, q⟩
theorem P8.get (h : P8 g pb A M P U bs w0 w) (d : Dg) : Calls Tryz.prog 24 #[.pointer (some ⟨pb, 0, none⟩), .agg (Bs d.s).toArray] w fun e w' =>
    ((dget P d = none ∧ e = .returned (.tuple #[.agg zero4, .bool false])) ∨ ∃ q y, dget P d = some q ∧ e = .returned (.tuple #[.agg (c4 y).toArray, .bool true]) ∧ RdZ (fun b => b < w.heap.size) w' 4 (.agg (c4 y).toArray) q.2) ∧ P8 g pb A M P U bs w0 w' ∧ Below w.heap.size w w' := by
  obtain ⟨F, h1, -⟩ := id h
  obtain ⟨B, hB, -, -⟩ := Mem.r h1
  exact (pre_Get hB d).mono fun e w' ⟨he, q⟩ => ⟨he, h.below q, q⟩
theorem P8.free (h : P8 g pb A M P U bs w0 w) (a : Int) : Calls Tryz.prog 30 #[.pointer (some ⟨g, 0, none⟩), .int .i64 a] w fun e w' => e = .returned (.int .i64 (accOf A a).1) ∧ w' = w := by
  obtain ⟨F, h1, -⟩ := id h
  obtain ⟨B, hB, -, -⟩ := Mem.l h1
  exact ledger_FreeX (N := 0) hB a
theorem P8.held (h : P8 g pb A M P U bs w0 w) (a : Int) : Calls Tryz.prog 32 #[.pointer (some ⟨g, 0, none⟩), .int .i64 a] w fun e w' => e = .returned (.int .i64 (accOf A a).2) ∧ w' = w := by
  obtain ⟨F, h1, -⟩ := id h
  obtain ⟨B, hB, -, -⟩ := Mem.l h1
  exact ledger_HeldX (N := 0) hB a
/-- What is noted, told. -/
def toldP (P : Pm) : List (Dg × Int) := P.map fun x => (x.1, x.2.1)
theorem P8.all (h : P8 g pb A M P U bs w0 w) (hl : P.length ≤ 50) : Calls Tryz.prog 37 #[.pointer (some ⟨pb, 0, none⟩)] w fun e w' => ∃ bx v, e = .returned (.func (.func 72) #[] #[.pointer (some ⟨bx, 0, none⟩)]) ∧ Boxed w' bx 127 v ∧ OwnR pair_H (bx + 1) v (toldP P) w' ∧ w.heap.size ≤ bx ∧ Below w.heap.size w w' := by
  obtain ⟨F, h1, -⟩ := id h
  obtain ⟨B, ⟨o, o2, m, hp⟩, -, -⟩ := Mem.r h1
  have e : whoL m = toldP P := hp.rel.who hp.mo.srt
  have := pre_All hp.blk hp.mo (by rw [hp.rel.len hp.mo.srt]; omega)
  rwa [e] at this
theorem P8.items (h : P8 g pb A M P U bs w0 w) (hl : P.length ≤ 50) : Calls Tryz.prog 29 #[.pointer (some ⟨pb, 0, none⟩)] w fun e w' => ∃ v, e = .returned (.tuple #[v, .bool true]) ∧ OwnR itm_H w.heap.size v (toldP P) w' ∧ P8 g pb A M P U bs w0 w' ∧ Below w.heap.size w w' := by
  refine (law8_itemsW (some ⟨pb, 0, none⟩) (toldP P) w (fun W hb => (h.below hb).all hl) (by simpa [toldP] using hl)).mono ?_
  rintro e w' ⟨v, he, ho, hb⟩
  exact ⟨v, he, ho, h.below hb, hb⟩
end
theorem wantN_want {U : Um} (h : SrtD U) (d k : Dg) : wantN (wantU U d) k = if k = d then wantN U d + 1 else wantN U k := by
  have e : wantN (wantU U d) k = (dget (dput U d (wantN U d + 1)) k).getD 0 := rfl
  rw [e, h.get_put]
  by_cases e : k = d
  · rw [if_pos e, if_pos e]; rfl
  · rw [if_neg e, if_neg e]; rfl
theorem wantN_unwant {U : Um} (h : SrtD U) (d k : Dg) (h0 : 0 ≤ wantN U d) : wantN (unwantU U d) k = if k = d then max 0 (wantN U d - 1) else wantN U k := by
  unfold unwantU
  by_cases c0 : wantN U d = 0
  · rw [if_pos c0]
    by_cases e : k = d
    · rw [if_pos e, e, c0]; rfl
    · rw [if_neg e]
  · rw [if_neg c0]
    by_cases c1 : wantN U d = 1
    · rw [if_pos c1]
      have e0 : wantN (ddel U d) k = (dget (ddel U d) k).getD 0 := rfl
      rw [e0, h.get_del]
      by_cases e : k = d
      · rw [if_pos e, if_pos e, c1]; rfl
      · rw [if_neg e, if_neg e]; rfl
    · rw [if_neg c1]
      have e0 : wantN (dput U d (wantN U d - 1)) k = (dget (dput U d (wantN U d - 1)) k).getD 0 := rfl
      rw [e0, h.get_put]
      by_cases e : k = d
      · rw [if_pos e, if_pos e]; simp only [Option.getD_some]; omega
      · rw [if_neg e, if_neg e]; rfl
theorem SrtD.nil {β : Type} : SrtD ([] : List (Dg × β)) := List.Pairwise.nil
theorem rdC_leaf (w : World) (k t n : Int) : RdC w 1 (.agg #[.int .i64 k, .int .i64 t, .int .i64 n, .slice none 0 0]) ⟨k, t, n, []⟩ :=
  ⟨none, 0, rfl, fun i hi => absurd hi (Nat.not_lt_zero i)⟩
def rmk (n : Int) : Cl := ⟨1, 0, n, []⟩
def Ak : Acc := accL [0, 100]
def Ak1 : Acc := reserveA Ak [] 1 5
def Ak2 : Acc := unheld Ak1 1 5 1
theorem newOk_k : newOk [0, 100] := by
  refine ⟨by simp, fun k hk => ?_, by decide +kernel⟩
  match k, hk with
  | 0, _ => decide
  | 1, _ => decide
theorem spendE_k : spendE Ak [] 1 5 false = 0 := by decide +kernel
theorem free_k : (accOf Ak2 1).1 = 100 := by decide +kernel
theorem noteE_k : noteE Ak [] [] 1 (rmk 3) = 0 := by
  unfold noteE
  rw [if_neg (by rw [show okC 3 (rmk 3) = true from by decide +kernel]; decide), if_neg (by rw [show dget ([] : Pm) (dgOf (rmk 3)) = none from rfl]; decide), if_neg (by decide)]
  exact spendE_k
def dk : Dg := dgOf (rmk 3)
def Pk : Pm := dput [] dk (1, rmk 3)
def Uk : Um := wantU [] dk
theorem wantN_nil (d : Dg) : wantN [] d = 0 := rfl
theorem wantN_k : wantN Uk dk = 1 := by rw [Uk, wantN_want SrtD.nil, if_pos rfl, wantN_nil]; rfl
theorem get_k : dget Pk dk = some (1, rmk 3) := by rw [Pk, SrtD.nil.get_put, if_pos rfl]
theorem srtU_k : SrtD Uk := SrtD.nil.put _ _
theorem unnE_k : unnE Pk Uk 1 dk = 9 := by unfold unnE; rw [get_k]; simp [wantN_k]
theorem unnE_k2 : unnE Pk (unwantU Uk dk) 1 dk = 0 := by
  unfold unnE
  rw [get_k]
  have : wantN (unwantU Uk dk) dk = 0 := by rw [wantN_unwant srtU_k _ _ (by rw [wantN_k]; decide), if_pos rfl, wantN_k]; rfl
  simp [this]
theorem lenU_k : Uk.length ≤ 100000 := by rw [Uk, wantU, SrtD.nil.length_put]; decide
set_option maxRecDepth 100000 in
set_option maxHeartbeats 4000000 in
/-- What is wanted stays. -/
theorem law8_known (w : World) (hG : Glob w) : Calls Tryz.prog 14 #[] w fun e w' => e = .returned (.bool true) ∧ Below w.heap.size w w' := by
  have hw1 : (Lit.int .i64 1).wf = true := by decide
  obtain ⟨wz, hw⟩ : ∃ w0, w0 = w.alloc (.cells #[.int .i64 0, .int .i64 100] 3) := ⟨_, rfl⟩
  have hrd : RdI wz (.slice (some ⟨w.heap.size, 0, none⟩) 2 2) [0, 100] := by rw [hw]; exact RdI.lit w 3 [0, 100] 2 rfl
  have hb0 : Below w.heap.size w wz := by rw [hw]; exact (Below.refl _ w).alloc (Nat.le_refl _) _
  have HW := Lib.hid hw
  have H0 := Lib.hid (And.intro hrd (And.intro hb0 hG))
  clear hw hrd hb0 hG
  go_enter Tryz.func14, Tryz.ntmps14
  have tok1 : True := trivial
  go_wp2_with (first
    | (go_at_call 11; rw [← HW.out]; refine (ledger_New_ok H0.out.1 (by decide) newOk_k).mono ?_; rintro e w1 ⟨g, gl, rfl, hl, hb⟩; have H1 := Lib.hid (And.intro hl hb); clear hl hb)
    | (go_at_call 13; refine (pre_New w1).mono ?_; rintro e w' ⟨rfl, hw'⟩; have hp := P8.begin H0.out.2.1 H1.out.1 H1.out.2; rw [← hw'] at hp; obtain ⟨pb, hpb⟩ : ∃ b, b = w1.heap.size := ⟨_, rfl⟩; rw [← hpb] at hp; rw [← hpb]; have H2 := Lib.hid (show P8 g pb Ak [] [] [] [] w w' from hp); clear hp hw' hpb)
    | (go_at_call 16; refine (H2.out.note H0.out.2.2 (rdC_leaf _ 1 0 3) hw1).mono ?_; rw [show (⟨1, 0, 3, []⟩ : Cl) = rmk 3 from rfl]; unfold noteH noteA noteP; rw [noteE_k, if_pos rfl, if_pos rfl, if_pos rfl]; rintro e w3 ⟨rfl, hp⟩; rw [show dgOf (rmk 3) = dk from rfl] at hp; rw [show dgOf (rmk 3) = dk from rfl]; have H3 := Lib.hid (show P8 g pb Ak1 [] Pk [] [] w w3 from hp); clear hp)
    | (refine wpl_allocR (r := hshR) rfl rfl rfl ?_; intro C hC)
    | (refine wpl_storeR (r := hshR) (t := dk) (C := C) (b := w3.heap.size) _ _ rfl rfl rfl rfl rfl (World.alloc_heap_new _ _) hC ?_; rw [World.setRow_alloc_new]; obtain ⟨hb, hhb⟩ : ∃ b, b = w3.heap.size := ⟨_, rfl⟩; have hp := H3.out.hash dk; obtain ⟨w4, hw4⟩ : ∃ W, W = w3.alloc (.cells (hshR.f dk).toArray hshR.T) := ⟨_, rfl⟩; rw [show w3.alloc (.cells (Bs dk.s).toArray 41) = w4 from hw4.symm, ← hhb] at hp; rw [← hw4, ← hhb]; have H4 := Lib.hid hp; clear hp hw4 hhb)
    | (refine wpl_loadR (r := hshR) (t := dk) _ rfl rfl rfl (by first | exact H7.out.box List.mem_cons_self | exact H6.out.box List.mem_cons_self | exact H5.out.box List.mem_cons_self | exact H4.out.box List.mem_cons_self) ?_)
    | (go_at_call 20; refine (H4.out.want dk (by decide) (by decide) (by decide)).mono ?_; rintro e w5 ⟨rfl, hp⟩; have H5 := Lib.hid (show P8 g pb Ak1 [] Pk Uk _ w w5 from hp); clear hp)
    | (go_at_call 18; have _t := tok1; refine (H5.out.unnote dk 1).mono ?_; unfold unnA unnP; rw [unnE_k, if_neg (by decide), if_neg (by decide)]; rintro e w6 ⟨rfl, hp⟩; have H6 := Lib.hid hp; clear hp tok1)
    | (go_at_call 22; refine (H6.out.unwant dk lenU_k (by rw [wantN_k]; decide) (by rw [wantN_k]; decide)).mono ?_; rintro e w7 ⟨rfl, hp⟩; have H7 := Lib.hid hp; clear hp)
    | (go_at_call 18; refine (H7.out.unnote dk 1).mono ?_; unfold unnA unnP; rw [unnE_k2, if_pos rfl, if_pos rfl]; rintro e w8 ⟨rfl, hp⟩; have H8 := Lib.hid (show P8 g pb Ak2 [] _ _ _ w w8 from hp); clear hp)
    | (go_at_call 30; refine (H8.out.free 1).mono ?_; rw [free_k]; rintro e w' ⟨rfl, hw'⟩; rw [hw']; clear hw' w')
    | fail)
  exact bodyPost_ret (v := .bool true) (by simp [results, Tryz.results14, go_sem]) rfl ⟨rfl, H8.out.bl⟩
end Go.Proofs.YtcfcfijmfgnpfaaGreatDoor
end

section
namespace Go.Proofs.YtcfcfijmfgnpfaaGreatDoor
open Go.RowKit Go.Maps Go.Shelf
set_option linter.unusedVariables false
set_option linter.unusedSimpArgs false

set_option maxRecDepth 100000 in
set_option maxHeartbeats 2000000 in
theorem pre_Note_nil (g : Option Addr) {w : World} {d : Nat} {c : Cl} {v : Value} (hrd : RdC w d v c) (who : Int) : Calls Tryz.prog 16 #[.pointer none, .pointer g, .int .i64 who, v] w fun e w' => e = .returned (.tuple #[.agg (Bs dg0.s).toArray, .int .i64 1]) ∧ Below w.heap.size w w' := by
  obtain ⟨d', ao, cap, -, rfl, -⟩ := hrd.open
  obtain ⟨k, hk⟩ : ∃ k, k = c.k := ⟨_, rfl⟩
  obtain ⟨t, ht⟩ : ∃ t, t = c.t := ⟨_, rfl⟩
  obtain ⟨n, hn⟩ : ∃ n, n = c.n := ⟨_, rfl⟩
  obtain ⟨m, hm⟩ : ∃ m, m = c.kids.length := ⟨_, rfl⟩
  rw [← hk, ← ht, ← hn, ← hm] at hrd ⊢
  obtain ⟨cb, hcb⟩ : ∃ b, b = w.heap.size := ⟨_, rfl⟩
  obtain ⟨rb, hrb⟩ : ∃ b, b = w.heap.size + 1 := ⟨_, rfl⟩
  obtain ⟨W, hW⟩ : ∃ W, W = (w.alloc (.cells #[.int .i64 k, .int .i64 t, .int .i64 n, .slice ao m cap] 45)).alloc (.cells (Bs dg0.s).toArray 41) := ⟨_, rfl⟩
  have hB : Below w.heap.size w W := by rw [hW]; exact ((Below.refl _ w).alloc (Nat.le_refl _) _).alloc (by simp) _
  have hcr : W.rangeAt cb 0 [.int .i64 k, .int .i64 t, .int .i64 n, .slice ao m cap] := by rw [hW, hcb]; exact rangeAt_block (rangeAt_new _) (Below.heap_alloc _ _ _ (by simp))
  have hrr : W.heap[rb]? = some (.cells (Bs dg0.s).toArray 41 (0, 0)) := by rw [hW, hrb]; have q := World.alloc_heap_new (w.alloc (.cells #[.int .i64 k, .int .i64 t, .int .i64 n, .slice ao m cap] 45)) (.cells (Bs dg0.s).toArray 41); rwa [World.size_alloc] at q
  have hsW : W.heap.size = rb + 1 := by rw [hW, hrb]; simp
  have hrW : RdC W d (.agg #[.int .i64 k, .int .i64 t, .int .i64 n, .slice ao m cap]) c := RdC.below hB hrd
  have HW := Lib.hid (And.intro hW (And.intro hcb (And.intro hrb (And.intro hB hsW))))
  have HR := Lib.hid (And.intro hcr hrr)
  have HRD := Lib.hid hrW
  have hE := fun W2 (hb : Below W.heap.size W W2) => code_EncodeCallT d c _ W2 (RdC.below hb HRD.out)
  have HE := Lib.hid hE
  clear hE
  clear hk ht hn hm hcb hrb hW hB hcr hrr hsW hrW hrd
  go_enter Tryz.func16, Tryz.ntmps16
  go_upto_region 1 with fail
  rw [zero32d, ← HW.out.1, ← HW.out.2.2.1, ← HW.out.2.1]
  go_wp2_with (first
    | (refine wpl_loadC _ rfl rfl rfl HR.out.1 rfl ?_)
    | (go_at_call 43; refine (HE.out W (Below.refl _ _)).mono ?_; rintro e w1 ⟨u, er, rfl, ho, hb⟩; have hr1 := (hb.block rb (by have := HW.out.2.2.2.2; omega)).trans HR.out.2; have H1 := Lib.hid (And.intro hb hr1); clear ho hb hr1)
    | (refine wpl_storeR (r := hshR) (t := dg0) (C := (Bs dg0.s).toArray) _ _ rfl rfl rfl rfl rfl H1.out.2 (by rw [List.size_toArray, dg0.blen]; rfl) ?_)
    | fail)
  have hfin := setRow_heap w1 _ _ (Bs dg0.s).toArray _ _ H1.out.2
  exact bodyPost_ret (v := .tuple #[.agg (Bs dg0.s).toArray, .int .i64 1]) (results_cellH Tryz.results16 rfl rfl hfin) rfl ⟨rfl, setRow_below (HW.out.2.2.2.1.trans (H1.out.1.mono HW.out.2.2.2.1.size)) (by have := HW.out.2.2.1; omega)⟩
theorem pre_Wanted_nil (d : Dg) (w : World) : Calls Tryz.prog 26 #[.pointer none, .agg (Bs d.s).toArray] w fun e w' => e = .returned (.int .i64 0) ∧ Below w.heap.size w w' := by
  go_enter Tryz.func26, Tryz.ntmps26
  go_wp2
  exact bodyPost_ret (v := .int .i64 0) (by simp [results, Tryz.results26, go_sem]) rfl ⟨rfl, (Below.refl _ w).alloc (Nat.le_refl _) _⟩
theorem pre_Want_nil (d : Dg) (w : World) : Calls Tryz.prog 20 #[.pointer none, .agg (Bs d.s).toArray] w fun e w' => e = .returned (.tuple #[]) ∧ Below w.heap.size w w' := by
  go_enter Tryz.func20, Tryz.ntmps20
  go_wp2
  exact bodyPost_ret (results_none rfl _ _ _) rfl ⟨rfl, (Below.refl _ w).alloc (Nat.le_refl _) _⟩
theorem pre_Unwant_nil (d : Dg) (w : World) : Calls Tryz.prog 22 #[.pointer none, .agg (Bs d.s).toArray] w fun e w' => e = .returned (.tuple #[]) ∧ Below w.heap.size w w' := by
  obtain ⟨W, hW⟩ : ∃ W, W = w.alloc (.cells (Bs d.s).toArray 41) := ⟨_, rfl⟩
  have hb : Below w.heap.size w W := by rw [hW]; exact (Below.refl _ w).alloc (Nat.le_refl _) _
  have hbox : W.rangeAt w.heap.size 0 (Bs d.s) := by rw [hW]; exact hashBox
  have HW := Lib.hid (And.intro hW (And.intro hb hbox))
  clear hW hb hbox
  go_enter Tryz.func22, Tryz.ntmps22
  go_upto_region 1 with fail
  rw [← HW.out.1]
  go_wp2_with (first
    | (refine wpl_loadR (r := hshR) (t := d) _ rfl rfl rfl HW.out.2.2 ?_)
    | (go_at_call 26; refine (pre_Wanted_nil d W).mono ?_; rintro e w1 ⟨rfl, hb⟩; have H1 := Lib.hid hb; clear hb)
    | fail)
  exact bodyPost_end (results_none rfl _ _ _) rfl ⟨rfl, HW.out.2.1.trans (H1.out.mono HW.out.2.1.size)⟩
theorem pre_Get_nil (d : Dg) (w : World) : Calls Tryz.prog 24 #[.pointer none, .agg (Bs d.s).toArray] w fun e w' => e = .returned (.tuple #[.agg zero4, .bool false]) ∧ Below w.heap.size w w' := by
  obtain ⟨cb, hcb⟩ : ∃ b, b = w.heap.size + 1 := ⟨_, rfl⟩
  obtain ⟨W, hW⟩ : ∃ W, W = (w.alloc (.cells (Bs d.s).toArray 41)).alloc (.cells zero4 45) := ⟨_, rfl⟩
  have hB : Below w.heap.size w W := by rw [hW]; exact ((Below.refl _ w).alloc (Nat.le_refl _) _).alloc (by simp) _
  have hrs : W.heap[cb]? = some (.cells zero4 45 (0, 0)) := by rw [hW, hcb]; have q := World.alloc_heap_new (w.alloc (.cells (Bs d.s).toArray 41)) (.cells zero4 45); rwa [World.size_alloc] at q
  have HW := Lib.hid (And.intro hW (And.intro hcb (And.intro hB hrs)))
  clear hW hcb hB hrs
  go_enter Tryz.func24, Tryz.ntmps24
  go_upto_region 1 with fail
  rw [← HW.out.1, ← HW.out.2.1]
  go_wp2_with (first
    | (refine wpl_storeD (vs := zero4) _ _ rfl rfl rfl rfl HW.out.2.2.2 rfl rfl (ones4D 0 0 0 none 0 0) ?_)
    | fail)
  have hfin := setRow_heap W _ _ zero4 _ _ HW.out.2.2.2
  have hlv := run_lvC (y := (0, 0, 0, none, 0, 0)) hfin
  exact bodyPost_ret (v := .tuple #[.agg zero4, .bool false]) (results_cellT Tryz.results24 rfl rfl hlv) rfl ⟨rfl, setRow_below HW.out.2.2.1 (by have := HW.out.2.1; omega)⟩
theorem pre_Unnote_nil (g : Option Addr) (d : Dg) (who : Int) (w : World) : Calls Tryz.prog 18 #[.pointer none, .pointer g, .int .i64 who, .agg (Bs d.s).toArray] w fun e w' => e = .returned (.int .i64 1) ∧ Below w.heap.size w w' := by
  go_enter Tryz.func18, Tryz.ntmps18
  go_wp2
  exact bodyPost_ret (v := .int .i64 1) (by simp [results, Tryz.results18, go_sem]) rfl ⟨rfl, (Below.refl _ w).alloc (Nat.le_refl _) _⟩
theorem pall_iter_nil (n : Nat) (bx : Nat) (w : World) (hbx : w.cell? ⟨bx, 0, none⟩ = some (.pointer none)) (G : FP) (hGb : G bx) :
    Iter Tryz.prog n 73 #[.pointer (some ⟨bx, 0, none⟩)] encs_H [] G w := by
  intro lp B Ψ J Jx Φ0 W hgw hG hΨ hΦ0 hJ hJx hround h0
  have hc1 : W.cell? ⟨bx, 0, none⟩ = some (.pointer none) := (World.cell?_of_block (hG bx hGb).2).trans hbx
  refine callsIn_of_wp Tryz.func73 rfl trivial ?_ rfl
  simp only [Tryz.ntmps73, List.size_toArray, List.length_cons, List.length_nil, Nat.reduceAdd, Nat.reduceSub, Array.replicate_succ, Array.replicate_zero, List.push_toArray, List.append_toArray, List.nil_append, List.cons_append]
  have HH0 := Lib.hid h0
  clear hround hJ hJx hG hΨ hbx hGb h0
  gi_wp2
  refine bodyPost_ret (results_none rfl _ _ _) rfl ?_
  exact ⟨⟨_, rfl⟩, Φ0, fun j h => .inl h, Only.refl _ _ _, .inl HH0.out⟩
theorem law8_items_nil (w : World) : Calls Tryz.prog 29 #[.pointer none] w fun e w' => ∃ v, e = .returned (.tuple #[v, .bool true]) ∧ OwnR itm_H w.heap.size v [] w' ∧ Below w.heap.size w w' :=
  law8_itemsW none [] w (fun W hb => pre_AllW none [] W (by simp) (fun W' bx hb' h1 h2 hc => pall_iter_nil 0 bx W' hc _ h2)) (by simp)
end Go.Proofs.YtcfcfijmfgnpfaaGreatDoor
end

section
namespace Go.Proofs.YtcfcfijmfgnpfaaGreatDoor
open Go.ChangeShapes Go.WideShapes Go.ChangeAt Go.RowKit Go.Deep
set_option linter.unusedVariables false
set_option linter.unusedSimpArgs false

section
variable {H : Type} {enc : TypeId × Value → H} {P : Program} {w : World} {base : Nat} {spare : Nat → Bool} {held : Bool}

theorem weight_at : ∀ {ts : List TypeId} {ds : List (DataW H)}, (DataW.weightsEach P ts ds).all (fun x => decide (x ≤ reachBytes)) = true → ∀ {j : Nat} {t : TypeId} {d : DataW H}, ts[j]? = some t → ds[j]? = some d → ∀ x ∈ d.weights P t, x ≤ reachBytes
  | [], _, _, j, t, d, ht, _ => by simp at ht
  | _ :: _, [], _, j, t, d, _, hd => by simp at hd
  | t0 :: ts, d0 :: ds, h, j, t, d, ht, hd => by
    simp only [DataW.weightsEach, List.all_append, Bool.and_eq_true] at h
    cases j with
    | zero =>
      simp only [List.getElem?_cons_zero, Option.some.injEq] at ht hd
      subst ht; subst hd
      intro x hx
      exact of_decide_eq_true (List.all_eq_true.1 h.1 x hx)
    | succ j => exact weight_at h.2 (j := j) (by simpa using ht) (by simpa using hd)
theorem weight_all {e : TypeId} {x : Nat} {d : DataW H} (hx : x ∈ d.weights P e) : ∀ {l : List (DataW H)}, d ∈ l → x ∈ DataW.weightsAll P e l
  | d0 :: l, h => by
    simp only [DataW.weightsAll, List.mem_append]
    rcases List.mem_cons.1 h with rfl | h
    · exact .inl hx
    · exact .inr (weight_all hx h)
theorem weight_len {t e : TypeId} {elems sp : List (DataW H)} (ht : P.underlying t = some (.slice e)) (h : ∀ x ∈ (DataW.slice elems sp).weights P t, x ≤ reachBytes) : (elems.length + sp.length) * P.bytesOf e ≤ reachBytes ∧ ∀ d ∈ elems, ∀ x ∈ d.weights P e, x ≤ reachBytes := by
  simp only [DataW.weights, ht, List.mem_cons, List.mem_append] at h
  exact ⟨h _ (.inl rfl), fun d hd x hx => h x (.inr (.inl (weight_all hx hd)))⟩

/-- A row of bytes that comes in is no longer than memory. -/
theorem sized_B {t e : TypeId} {v : Value} {d : DataW H} {p : List MemPlace} {n : Nat} (ht : P.underlying t = some (.slice e)) (hc : P.cellsOf e = 1) (hb : P.bytesOf e = 1)
    (h : DataW.trod enc P w base spare held n t [v] = some (d, p)) (hw : ∀ x ∈ d.weights P t, x ≤ reachBytes) {ao : Option Addr} {len cap : Nat} (hv : v = .slice ao len cap) : len ≤ reachBytes := by
  rcases open_slice1 ht hc h with ⟨hcs, -⟩ | ⟨a, len', cap', m, n', V, D, Pl, hcs, hb', hl, hm, hmm, hx, -⟩
  · have : v = .slice none 0 0 := by simpa using hcs
    rw [this] at hv
    injection hv with h1 h2 h3
    omega
  · have hvv : v = .slice (some a) len' cap' := by simpa using hcs
    rw [hvv] at hv
    injection hv with h1 h2 h3
    subst h2
    simp only [Prod.mk.injEq] at hx
    rw [hx.1] at hw
    have := (weight_len ht hw).1
    rw [hb, Nat.mul_one] at this
    simp at this
    omega
theorem open_RdBz {t e : TypeId} {v : Value} {d : DataW H} {p : List MemPlace} {r : Reach} {b0 : Nat} (ht : P.underlying t = some (.slice e)) (he : P.underlying e = some (.int .u8)) (hc : P.cellsOf e = 1) (hb : P.bytesOf e = 1)
    (hv : Value.okWide P w r b0 t v) (h : DataW.Trod enc P w base (fun _ => true) held t v d p) (hw : ∀ x ∈ d.weights P t, x ≤ reachBytes) : ∃ l : List Nat, RdB w v l ∧ (∀ b ∈ l, b < 256) ∧ l.length ≤ reachBytes := by
  obtain ⟨l, h1, h2, -⟩ := open_RdB ht he hc hv h
  obtain ⟨fuel, hf⟩ := h
  rw [cells_slice ht hv] at hf
  obtain ⟨ao, cap, hvv⟩ := h1.lenOf
  exact ⟨l, h1, h2, sized_B ht hc hb hf hw hvv⟩
theorem open_RdBBz {t e q : TypeId} {v : Value} {d : DataW H} {p : List MemPlace} {r : Reach} {b0 : Nat} (ht : P.underlying t = some (.slice e)) (he : P.underlying e = some (.slice q)) (hq : P.underlying q = some (.int .u8)) (ce : P.cellsOf e = 1) (cq : P.cellsOf q = 1) (bq : P.bytesOf q = 1)
    (hv : Value.okWide P w r b0 t v) (h : DataW.Trod enc P w base (fun _ => true) held t v d p) (hw : ∀ x ∈ d.weights P t, x ≤ reachBytes) : ∃ l : List (List Nat), RdBB w v l ∧ (∀ x ∈ l, (∀ b ∈ x, b < 256) ∧ x.length ≤ reachBytes) ∧ l.length ≤ maxLen := by
  obtain ⟨fuel, hf⟩ := h
  rw [cells_slice ht hv] at hf
  rcases open_slice1 ht ce hf with ⟨hcs, -⟩ | ⟨a, len, cap, m, n, V, D, Pl, hcs, hb, hl, hm, hmm, hd, hx⟩
  · have : v = .slice none 0 0 := by simpa using hcs
    subst this
    exact ⟨[], .inl ⟨rfl, rfl⟩, by simp, by simp⟩
  · simp only [if_true] at hmm
    have hmm' := hmm.symm
    subst hmm'
    have hvv : v = .slice (some a) len cap := by simpa using hcs
    subst hvv
    simp only [Prod.mk.injEq] at hd
    rw [hd.1] at hw
    have hwe := (weight_len ht hw).2
    have each : ∀ i, i < cap → ∃ l : List Nat, RdB w (V i) l ∧ (∀ b ∈ l, b < 256) ∧ (i < len → l.length ≤ reachBytes) := by
      intro i hi
      have hsz : ∀ {ao : Option Addr} {n' c' : Nat}, V i = .slice ao n' c' → i < len → n' ≤ reachBytes := fun {ao n' c'} hV hil =>
        sized_B he cq bq (hx i hi).2 (hwe (D i) (List.mem_map.2 ⟨i, by simpa using hil, rfl⟩)) hV
      rcases open_RdIM0 he hq cq ⟨_, (hx i hi).2⟩ with h0 | ⟨a', len', cap', zs, h0, hl', hm', hz, hcell, hwz⟩
      · exact ⟨[], .inl ⟨h0, rfl⟩, by simp, by simp⟩
      · obtain ⟨l, h1, h2, h3⟩ := RdB_of hl' hm' hz hcell hwz
        exact ⟨l, by rw [h0]; exact h2, h3, fun hil => by rw [h1]; exact hsz h0 hil⟩
    obtain ⟨L, hL⟩ := choose_lt each
    have hlen : ((List.range len).map L).length = len := by simp
    refine ⟨(List.range len).map L, .inr ⟨a, cap, by rw [hlen], by rw [hlen]; exact hl, fun i hi => ?_⟩, fun x hx => ?_, by rw [hlen]; omega⟩
    · rw [hlen] at hi
      refine ⟨V i, (hx i (by omega)).1, ?_⟩
      have : ((List.range len).map L).getD i [] = L i := by simp [hi]
      rw [this]; exact (hL i (by omega)).1
    · simp only [List.mem_map, List.mem_range] at hx
      obtain ⟨i, hi, rfl⟩ := hx
      exact ⟨(hL i (by omega)).2.1, (hL i (by omega)).2.2 hi⟩
end
end Go.Proofs.YtcfcfijmfgnpfaaGreatDoor
end

section
namespace Go.Proofs.YtcfcfijmfgnpfaaGreatDoor
open Go.ChangeShapes Go.WideShapes Go.ChangeAt Go.RowKit
set_option linter.unusedVariables false
set_option linter.unusedSimpArgs false

def laid2 : List (String × DataW Unit) := [("althing/blake.beginning", Rows.laid_althing_blake_beginning), ("althing/blake.orders", Rows.laid_althing_blake_orders)]
theorem gBeg : Tryz.prog.globalNamed "althing/blake.beginning" = some 0 := by kernel_rfl
theorem gOrd : Tryz.prog.globalNamed "althing/blake.orders" = some 2 := by kernel_rfl
theorem tBeg : (Tryz.prog.globals[0]?).map (·.type) = some 140 := by kernel_rfl
theorem tOrd : (Tryz.prog.globals[2]?).map (·.type) = some 218 := by kernel_rfl
theorem begTab : (Rows.laid_althing_blake_beginning : DataW Unit) = Lib.tabData .u64 (beginL.map fun (n : Nat) => (n : Int)) := rfl
theorem ordTab : (Rows.laid_althing_blake_orders : DataW Unit) = .agg ((List.range 10).map fun i => Lib.tabData .u8 ((orderL i).map fun (n : Nat) => (n : Int))) := rfl
theorem order_len (i : Nat) : (orderL i).length = 16 := by
  unfold orderL
  split <;> rfl
theorem glob_of_laid {W : World} (h : laidMetH Tryz.prog laid2 W) : Glob W := by
  rw [MakeChecks.laidMetH_plain _ _ _ (by kernel_rfl)] at h
  obtain ⟨ps, ⟨g0, t0, cs0, f0, p0, q0, hg0, ht0, hv0, hd0, ⟨g1, t1, cs1, f1, p1, q1, hg1, ht1, hv1, hd1, hq1, hps1⟩, hps0⟩, hnd, hfz⟩ := h
  obtain rfl := Option.some.inj (gBeg.symm.trans hg0)
  obtain rfl := Option.some.inj (gOrd.symm.trans hg1)
  obtain rfl := Option.some.inj (tBeg.symm.trans ht0)
  obtain rfl := Option.some.inj (tOrd.symm.trans ht1)
  rw [begTab] at hd0
  have e0 := Lib.cells_of_tab Tryz.underlying140 Tryz.underlying139 (by kernel_rfl) (by kernel_rfl) hd0
  have hcs : cs0 = Ws beginL := by
    obtain ⟨l⟩ := cs0
    simp only at e0
    rw [e0]
    rfl
  subst hcs
  have hsz : (Ws beginL).size = 8 := rfl
  have hm0 : MemPlace.cell 0 0 ∈ ps := by
    rw [hps0, hsz]
    simp [MemPlace.row]
  obtain ⟨⟨c, t, hct⟩, -⟩ := hfz 0 0 hm0
  have hb0 : W.heap[0]? = some (.cells (Ws beginL) t (0, 0)) := by
    have h2 := hv0
    simp only [World.var?, gBeg, Option.bind_some, hct, Option.some.injEq] at h2
    rw [hct, h2]
  obtain ⟨xs, m, rfl, hx, hl, hn, hel⟩ := DataW.trod_array Tryz.underlying218 hd1
  have ce : Tryz.prog.cellsOf 217 = 16 := by kernel_rfl
  rw [ordTab] at hx
  simp only [Prod.mk.injEq, DataW.agg.injEq] at hx
  have hrow : ∀ i, i < 10 → (cs1.toList.drop (i * 16)).take 16 = (orderL i).map fun (n : Nat) => Value.int .u8 (n : Int) := by
    intro i hi
    have h1 := hel i hi
    rw [ce] at h1
    have hxi : xs[i]?.map (·.1) = some (Lib.tabData .u8 ((orderL i).map fun (n : Nat) => (n : Int))) := by
      rw [← List.getElem?_map, ← hx.1]
      simp [hi]
    obtain ⟨x, hx1, hx2⟩ := Option.map_eq_some_iff.1 hxi
    obtain ⟨y, z⟩ := x
    simp only at hx2
    subst hx2
    have := Lib.cells_of_tab Tryz.underlying217 Tryz.underlying5 (by kernel_rfl) (by kernel_rfl) (h1.trans hx1)
    rw [this]
    simp
  have hlt : 2 < W.heap.size := by
    have h2 := hv1
    simp only [World.var?, gOrd, Option.bind_some] at h2
    by_cases hh : 2 < W.heap.size
    · exact hh
    · rw [Array.getElem?_eq_none (by omega)] at h2
      cases h2
  refine ⟨hlt, ⟨t, hb0⟩, fun i hi j hj => ?_⟩
  rw [World.var?_cell gOrd hv1]
  have h3 := congrArg (fun l => l[j]?) (hrow i hi)
  simp only [List.getElem?_take, List.getElem?_drop, if_pos hj] at h3
  rw [← Array.getElem?_toList, h3]
  have := order_len i
  simp [gt, this, hj]
theorem laid_door (os : Os) (args : Array Value) : laidMetH Tryz.prog laid2 ((World.doorLaid Tryz.prog 400 os).forCall (fun _ _ => 0) ⟨#[], args, []⟩).memory :=
  laidMetH_of_parts3 (fuel := 8) (laidMet_of_run' 8 (by kernel_rfl) (by kernel_rfl)) (by kernel_rfl) (by kernel_rfl)
end Go.Proofs.YtcfcfijmfgnpfaaGreatDoor
end

section

end
