/-
  The law's pair and boxes beside it: what each act leaves.
-/
import Derived.Test.YtlnjcfgihklppaaGreatMgl
namespace Go.Proofs.YtlnjcfgihklppaaGreat
open Go.RowKit Go.Maps Go.Shelf
set_option linter.unusedVariables false
set_option linter.unusedSimpArgs false

/-- A pair in memory, made since, and boxes that its acts leave be. -/
def Pvb (p g vb N : Nat) (S : Vs) (A : Acc) (M : Cls Int) (bs : List (Nat × List Value)) (w0 w : World) : Prop := ∃ Zn, PvAt p g vb N S A M 0 Zn w ∧ Below N w0 w ∧ ∀ b ∈ bs, w.rangeAt b.1 0 b.2 ∧ ¬ Zn b.1 ∧ b.1 < w.heap.size
section
variable {p g vb N : Nat} {S S' : Vs} {A A' : Acc} {M M' : Cls Int} {bs : List (Nat × List Value)} {w0 w w' : World}
theorem Pv1.b (h : Pv1 p g vb N S A M w0 w) : Pvb p g vb N S A M [] w0 w := by
  obtain ⟨Zn, h1, h2⟩ := h
  exact ⟨Zn, h1, h2, fun b hb => (List.not_mem_nil hb).elim⟩
theorem Pvb.one (h : Pvb p g vb N S A M bs w0 w) : Pv1 p g vb N S A M w0 w := by
  obtain ⟨Zn, h1, h2, h3⟩ := h
  exact ⟨Zn, h1, h2⟩
theorem Pvb.below (h : Pvb p g vb N S A M bs w0 w) (hb : Below w.heap.size w w') : Pvb p g vb N S A M bs w0 w' := by
  obtain ⟨Zn, h1, h2, h3⟩ := h
  exact ⟨Zn, h1.below hb, h2.trans (hb.mono h1.lv.size), fun b hm => ⟨rangeAt_block (h3 b hm).1 (hb.block _ (h3 b hm).2.2), (h3 b hm).2.1, Nat.lt_of_lt_of_le (h3 b hm).2.2 hb.size⟩⟩
theorem Pvb.drew (h : Pvb p g vb N S A M bs w0 w) : Pvb p g vb N S A M bs w0 w.drew := h.below (Below.refl _ w).drew
theorem Pvb.new (h : Pvb p g vb N S A M bs w0 w) {b : Nat} {l : List Value} (hr : w'.rangeAt b 0 l) (hb : Below w.heap.size w w') (hn : w.heap.size ≤ b) (hl : b < w'.heap.size) : Pvb p g vb N S A M ((b, l) :: bs) w0 w' := by
  have h' := h.below hb
  obtain ⟨Zn, h1, h2, h3⟩ := h
  obtain ⟨Zn', k1, k2, k3⟩ := h'
  refine ⟨Zn, h1.below hb, h2.trans (hb.mono h1.lv.size), fun c hc => ?_⟩
  rcases List.mem_cons.1 hc with rfl | hc
  · exact ⟨hr, fun hz => by have := h1.lv.lt hz; omega, hl⟩
  · exact ⟨rangeAt_block (h3 c hc).1 (hb.block _ (h3 c hc).2.2), (h3 c hc).2.1, Nat.lt_of_lt_of_le (h3 c hc).2.2 hb.size⟩
theorem Pvb.tly (h : Pvb p g vb N S A M bs w0 w) (t : Tl) : Pvb p g vb N S A M ((w.heap.size, tlyS.f t) :: bs) w0 (w.alloc (tlyS.obj t)) := h.new (atS tlyS w t) ((Below.refl _ w).alloc (Nat.le_refl _) _) (Nat.le_refl _) (by simp)
theorem Pvb.loadT (h : Pvb p g vb N S A M bs w0 w) {b : Nat} {t : Tl} (hm : (b, tlyS.f t) ∈ bs) : (loadSt_T (.pointer (some ⟨b, 0, none⟩))).run Tryz.prog w = .ok (.agg #[.int .i64 t.a, .int .i64 t.n, .int .i64 t.s]) w := by
  obtain ⟨Zn, h1, h2, h3⟩ := h
  exact run_loadS (s := tlyS) (h3 _ hm).1
theorem Pvb.loadB (h : Pvb p g vb N S A M bs w0 w) {b : Nat} {t : Bal} (hm : (b, balS.f t) ∈ bs) : (loadSt_V (.pointer (some ⟨b, 0, none⟩))).run Tryz.prog w = .ok (.agg #[.int .i64 t.k, .bool t.aye, .int .i64 t.l, .int .i64 t.a, .int .i64 t.n, .int .i64 t.s]) w := by
  obtain ⟨Zn, h1, h2, h3⟩ := h
  exact run_loadS (s := balS) (h3 _ hm).1
theorem Pvb.loadW (h : Pvb p g vb N S A M bs w0 w) {b : Nat} {t : Wgt} (hm : (b, wgtS.f t) ∈ bs) : (loadSt_W (.pointer (some ⟨b, 0, none⟩))).run Tryz.prog w = .ok (.agg #[.int .i64 t.v, .int .i64 t.c]) w := by
  obtain ⟨Zn, h1, h2, h3⟩ := h
  exact run_loadS (s := wgtS) (h3 _ hm).1
theorem Pvb.to {Zn : FP} (h1 : PvAt p g vb N S A M 0 Zn w) (h2 : Below N w0 w) (h3 : ∀ b ∈ bs, w.rangeAt b.1 0 b.2 ∧ ¬ Zn b.1 ∧ b.1 < w.heap.size) (hto : PvTo p g vb N S' A' M' 0 Zn w w') : Pvb p g vb N S' A' M' bs w0 w' := by
  have hb := PvTo.below h1 hto
  obtain ⟨Z', k1, k2, k3⟩ := hto
  exact ⟨Z', k1, h2.trans hb, fun b hm => ⟨rangeAt_block (h3 b hm).1 (k3.block _ (h3 b hm).2.2 (h3 b hm).2.1 (fun h => h)), fun hz => (k2 _ hz).elim (h3 b hm).2.1 (fun e => by have := (h3 b hm).2.2; omega), Nat.lt_of_lt_of_le (h3 b hm).2.2 k3.grow.size⟩⟩
theorem Pvb.cells (h : Pvb p g vb N S A M bs w0 w) : w.cell? ⟨p, 0, none⟩ = some (.pointer (some ⟨g, 0, none⟩)) ∧ w.cell? ⟨p, 1, none⟩ = some (.pointer (some ⟨vb, 0, none⟩)) ∧ w.cell? ⟨p, 4, none⟩ = some (.int .i64 0) := h.one.cells
theorem Pvb.dcells (h : Pvb p g vb N S A M bs w0 w) : w.drew.cell? ⟨p, 0, none⟩ = some (.pointer (some ⟨g, 0, none⟩)) ∧ w.drew.cell? ⟨p, 1, none⟩ = some (.pointer (some ⟨vb, 0, none⟩)) ∧ w.drew.cell? ⟨p, 4, none⟩ = some (.int .i64 0) := h.drew.cells
theorem Pvb.bl (h : Pvb p g vb N S A M bs w0 w) : Below N w0 w := h.one.bl
theorem Pvb.vOpen (h : Pvb p g vb N S A M bs w0 w) (r t : Int) : Calls Tryz.prog 17 #[.pointer (some ⟨vb, 0, none⟩), .int .i64 r, .int .i64 t] w fun e w' => e = .returned (.int .i64 (openE S.P r t)) ∧ Pvb p g vb N (openS S r t) A M bs w0 w' := by
  obtain ⟨Zn, h1, h2, h3⟩ := h
  refine (h1.vOpen r t).mono ?_
  rintro e w' ⟨he, hto⟩
  exact ⟨he, Pvb.to h1 h2 h3 hto⟩
theorem Pvb.vClose (h : Pvb p g vb N S A M bs w0 w) (r st en : Int) : Calls Tryz.prog 18 #[.pointer (some ⟨vb, 0, none⟩), .int .i64 r, .int .i64 st, .int .i64 en] w fun e w' => e = .returned (.int .i64 (closeE S.P r st)) ∧ Pvb p g vb N (closeS S r st en) A M bs w0 w' := by
  obtain ⟨Zn, h1, h2, h3⟩ := h
  refine (h1.vClose r st en).mono ?_
  rintro e w' ⟨he, hto⟩
  exact ⟨he, Pvb.to h1 h2 h3 hto⟩
theorem Pvb.vUnvote (h : Pvb p g vb N S A M bs w0 w) {a r : Int} (ha : (Lit.int .i64 a).wf = true) (hr : (Lit.int .i64 r).wf = true) (nw : Int) : Calls Tryz.prog 20 #[.pointer (some ⟨vb, 0, none⟩), .int .i64 a, .int .i64 r, .int .i64 nw] w fun e w' => e = .returned (.int .i64 (unvoteE S a r)) ∧ Pvb p g vb N (unvoteS S a r nw) A M bs w0 w' := by
  obtain ⟨Zn, h1, h2, h3⟩ := h
  refine (h1.vUnvote ha hr nw).mono ?_
  rintro e w' ⟨he, hto⟩
  exact ⟨he, Pvb.to h1 h2 h3 hto⟩
theorem Pvb.vUndelegate (h : Pvb p g vb N S A M bs w0 w) {a t : Int} (ha : (Lit.int .i64 a).wf = true) (ht : (Lit.int .i64 t).wf = true) (nw : Int) : Calls Tryz.prog 22 #[.pointer (some ⟨vb, 0, none⟩), .int .i64 a, .int .i64 t, .int .i64 nw] w fun e w' => e = .returned (.int .i64 (undE S a t)) ∧ Pvb p g vb N (undS S a t nw) A M bs w0 w' := by
  obtain ⟨Zn, h1, h2, h3⟩ := h
  refine (h1.vUndelegate ha ht nw).mono ?_
  rintro e w' ⟨he, hto⟩
  exact ⟨he, Pvb.to h1 h2 h3 hto⟩
theorem Pvb.vVote (h : Pvb p g vb N S A M bs w0 w) {a r : Int} (ha : (Lit.int .i64 a).wf = true) (hr : (Lit.int .i64 r).wf = true) (x : Bal) : Calls Tryz.prog 19 #[.pointer (some ⟨vb, 0, none⟩), .pointer (some ⟨g, 0, none⟩), .int .i64 a, .int .i64 r, .agg #[.int .i64 x.k, .bool x.aye, .int .i64 x.l, .int .i64 x.a, .int .i64 x.n, .int .i64 x.s]] w fun e w' => e = .returned (.int .i64 (voteE S A a r x)) ∧ Pvb p g vb N (voteS S A a r x) A (voteM S A M a r x) bs w0 w' := by
  obtain ⟨Zn, h1, h2, h3⟩ := h
  refine (h1.vVote ha hr x).mono ?_
  rintro e w' ⟨he, hto⟩
  exact ⟨he, Pvb.to h1 h2 h3 hto⟩
theorem Pvb.vDelegate (h : Pvb p g vb N S A M bs w0 w) {a t who : Int} (ha : (Lit.int .i64 a).wf = true) (ht : (Lit.int .i64 t).wf = true) (l n : Int) : Calls Tryz.prog 21 #[.pointer (some ⟨vb, 0, none⟩), .pointer (some ⟨g, 0, none⟩), .int .i64 a, .int .i64 t, .int .i64 who, .int .i64 l, .int .i64 n] w fun e w' => e = .returned (.int .i64 (delE S A a t who l n)) ∧ Pvb p g vb N (delS S A a t who l n) A (delM S A M a t who l n) bs w0 w' := by
  obtain ⟨Zn, h1, h2, h3⟩ := h
  refine (h1.vDelegate ha ht l n).mono ?_
  rintro e w' ⟨he, hto⟩
  exact ⟨he, Pvb.to h1 h2 h3 hto⟩
theorem Pvb.vUnlock (h : Pvb p g vb N S A M bs w0 w) {a t : Int} (ha : (Lit.int .i64 a).wf = true) (ht : (Lit.int .i64 t).wf = true) (nw : Int) : Calls Tryz.prog 23 #[.pointer (some ⟨vb, 0, none⟩), .pointer (some ⟨g, 0, none⟩), .int .i64 a, .int .i64 t, .int .i64 nw] w fun e w' => e = .returned (.int .i64 (unlE a t)) ∧ Pvb p g vb N (unlS S a t nw) A (unlM S M a t nw) bs w0 w' := by
  obtain ⟨Zn, h1, h2, h3⟩ := h
  refine (h1.vUnlock ha ht nw).mono ?_
  rintro e w' ⟨he, hto⟩
  exact ⟨he, Pvb.to h1 h2 h3 hto⟩
theorem Pvb.vTransfer (h : Pvb p g vb N S A M bs w0 w) {a : Int} (ha : (Lit.int .i64 a).wf = true) (b n : Int) : Calls Tryz.prog 34 #[.pointer (some ⟨g, 0, none⟩), .int .i64 a, .int .i64 b, .int .i64 n] w fun e w' => e = .returned (.int .i64 (transE A M a b n)) ∧ Pvb p g vb N S (transA A M a b n) M bs w0 w' := by
  obtain ⟨Zn, h1, h2, h3⟩ := h
  refine (h1.vTransfer ha b n).mono ?_
  rintro e w' ⟨he, hto⟩
  exact ⟨he, Pvb.to h1 h2 h3 hto⟩
theorem Pvb.vTally (h : Pvb p g vb N S A M bs w0 w) (r : Int) : Calls Tryz.prog 24 #[.pointer (some ⟨vb, 0, none⟩), .int .i64 r] w fun e w' => e = .returned (.agg #[.int .i64 (tallyOf S r).a, .int .i64 (tallyOf S r).n, .int .i64 (tallyOf S r).s]) ∧ Pvb p g vb N S A M bs w0 w' := by
  have h' := h
  obtain ⟨Zn, h1, h2, h3⟩ := h
  exact (h1.vTally r).mono fun e w' ⟨he, hb⟩ => ⟨he, h'.below hb⟩
theorem Pvb.vLocked (h : Pvb p g vb N S A M bs w0 w) {a : Int} (ha : (Lit.int .i64 a).wf = true) : Calls Tryz.prog 30 #[.pointer (some ⟨g, 0, none⟩), .int .i64 a] w fun e w' => e = .returned (.int .i64 (lockedOf M a)) ∧ Pvb p g vb N S A M bs w0 w' := by
  have h' := h
  obtain ⟨Zn, h1, h2, h3⟩ := h
  exact (h1.vLocked ha).mono fun e w' ⟨he, hb⟩ => ⟨he, h'.below hb⟩
theorem Pvb.vGot (h : Pvb p g vb N S A M bs w0 w) {a b : Int} (ha : (Lit.int .i64 a).wf = true) (hb : (Lit.int .i64 b).wf = true) : Calls Tryz.prog 25 #[.pointer (some ⟨vb, 0, none⟩), .int .i64 a, .int .i64 b] w fun e w' => e = .returned (.agg #[.int .i64 (gotS S a b).v, .int .i64 (gotS S a b).c]) ∧ Pvb p g vb N S A M bs w0 w' := by
  have h' := h
  obtain ⟨Zn, h1, h2, h3⟩ := h
  exact (h1.vGot ha hb).mono fun e w' ⟨he, hb⟩ => ⟨he, h'.below hb⟩
end
/-- Tallies, told plainly. -/
theorem add_eq {a n s a' n' s' x y z : Int} (hx : x = a + a') (hy : y = n + n') (hz : z = s + s') (h1 : -9223372036854775808 ≤ x ∧ x ≤ 9223372036854775807) (h2 : -9223372036854775808 ≤ y ∧ y ≤ 9223372036854775807) (h3 : -9223372036854775808 ≤ z ∧ z ≤ 9223372036854775807) : (⟨a, n, s⟩ : Tl).add ⟨a', n', s'⟩ = ⟨x, y, z⟩ := by
  subst hx hy hz
  exact add_in h1 h2 h3
theorem sub_eq {a n s a' n' s' x y z : Int} (hx : x = a - a') (hy : y = n - n') (hz : z = s - s') (b1 : -1152921504606846976 ≤ a' ∧ a' ≤ 1152921504606846976) (b2 : -1152921504606846976 ≤ n' ∧ n' ≤ 1152921504606846976) (b3 : -1152921504606846976 ≤ s' ∧ s' ≤ 1152921504606846976) (h1 : -9223372036854775808 ≤ x ∧ x ≤ 9223372036854775807) (h2 : -9223372036854775808 ≤ y ∧ y ≤ 9223372036854775807) (h3 : -9223372036854775808 ≤ z ∧ z ≤ 9223372036854775807) : (⟨a, n, s⟩ : Tl).sub ⟨a', n', s'⟩ = ⟨x, y, z⟩ := by
  subst hx hy hz
  exact sub_in b1 b2 b3 h1 h2 h3
theorem balOk_abs {a n s : Int} (h1 : 0 ≤ a) (h2 : 0 ≤ n) (h3 : 0 ≤ s) (h : a + n + s ≤ 1073741824) : balOk ⟨3, false, 0, a, n, s⟩ = true := by
  unfold balOk
  simp [voteB, shapedB, withinB]
  omega
theorem votesI_bd {n l b : Int} (h0 : 0 ≤ n) (h1 : n ≤ b) (l0 : 0 ≤ l) (l1 : l ≤ 6) (hb : 0 ≤ b) : 0 ≤ votesI n l ∧ votesI n l ≤ b * 7 := by
  obtain ⟨v0, v1⟩ := votes_bd h0 l0
  have := mul_bd h0 h1 (show 0 ≤ l + 1 by omega) (show l + 1 ≤ 7 by omega) hb
  omega
theorem undE_0 {S : Vs} {a t : Int} {d : Dlg} (h1 : isAcc a) (h2 : 0 ≤ t ∧ t < 4) (h3 : cget S.D a t = some d) : undE S a t = 0 := by
  unfold undE
  rw [if_neg (by simp only [h1, h2]; simp), if_neg (by simp [h3])]
theorem undS_0 {S : Vs} {a t now : Int} {d : Dlg} {S' : Vs} (h : undE S a t = 0) (h3 : cget S.D a t = some d) (hl : lendS { S with D := cdel S.D a t } d.to t (wrap64 (-(votesI d.n d.l))) (wrap64 (-d.n)) = S') : undS S a t now = { S' with Q := joinQ S.Q a t (wrap64 (now + periodI d.l 8)) d.n now } := by
  have e : undD S a t = d := by unfold undD; rw [h3]; rfl
  unfold undS undS1
  rw [if_pos h, e, hl]
theorem unvE_0 {S : Vs} {a r : Int} {x : Bal} (h1 : isAcc a) (h2 : plHas S.P r) (h3 : cget S.V a r = some x) : unvoteE S a r = 0 := by
  unfold unvoteE
  rw [if_neg (by simp only [h1]; simp), if_neg (by simp [h2, h3])]
theorem relend_std {y : Bool} {l a v c v' c' : Int} {t tt : Tl} (h : ((t.sub (gainW ⟨1, y, l, a, 0, 0⟩ ⟨v, c⟩)).add (gainW ⟨1, y, l, a, 0, 0⟩ ⟨v', c'⟩)) = tt) : relend ⟨1, y, l, a, 0, 0⟩ ⟨v, c⟩ ⟨v', c'⟩ t = tt := h
theorem putP_two (P : Nat → Pl) (k : Nat) (t t' : Tl) : putP (putP P k ((P k).withT t)) k ((putP P k ((P k).withT t) k).withT t') = putP P k ((P k).withT t') := by
  rw [putP_same, putP_putP]
  rfl
theorem raise_new {M : Cls Int} {a t n : Int} (h1 : isAcc a) (h : ∀ x ∈ rowOf M a, x.1 ≠ t) (h2 : 0 < n ∧ n ≤ 1073741824) : raiseM M a t n = cput M a t n := by
  unfold raiseM lockM
  rw [if_neg (fun ⟨x, hx, he, _⟩ => h x hx he), if_neg (by simpa using h1), if_neg (by unfold isBal; omega)]
theorem raise_new0 {M : Cls Int} {a t : Int} (h1 : isAcc a) (h : ∀ x ∈ rowOf M a, x.1 ≠ t) : raiseM M a t 0 = cdel M a t := by
  unfold raiseM lockM
  rw [if_neg (fun ⟨x, hx, he, _⟩ => h x hx he), if_neg (by simpa using h1), if_pos (.inl rfl)]
theorem vwMax2 (x y : Int) : (if y > x then y else x) = max x y := by split <;> omega
theorem vw_max3 (x y z : Int) (w : World) : (Builtin.max_ #[3, 3, 3] 3 #[.int .i64 x, .int .i64 y, .int .i64 z]).run Tryz.prog w = .ok (.int .i64 (max (max x y) z)) w := by
  have h : (Builtin.max_ #[3, 3, 3] 3 #[.int .i64 x, .int .i64 y, .int .i64 z]).run Tryz.prog w = .ok (.int .i64 (if z > (if y > x then y else x) then z else (if y > x then y else x))) w := by
    simp [Builtin.max_, Builtin.max2]
  rw [h, vwMax2, vwMax2]
theorem vw_max2 (x y : Int) (w : World) : (Builtin.max_ #[3, 3] 3 #[.int .i64 x, .int .i64 y]).run Tryz.prog w = .ok (.int .i64 (max x y)) w := by
  have h : (Builtin.max_ #[3, 3] 3 #[.int .i64 x, .int .i64 y]).run Tryz.prog w = .ok (.int .i64 (if y > x then y else x)) w := by
    simp [Builtin.max_, Builtin.max2]
  rw [h, vwMax2]
theorem unvS_on {S : Vs} {a r now : Int} {x : Bal} (h : unvoteE S a r = 0) (h1 : (S.P r.toNat).st = 1) (h2 : cget S.V a r = some x) : unvoteS S a r now = { S with V := cdel S.V a r, P := putP S.P r.toNat ((S.P r.toNat).withT ((S.P r.toNat).t.sub (gainW x (gotS S a (S.P r.toNat).tr)))) } := by
  unfold unvoteS
  rw [if_pos h, if_pos h1, h2]
  rfl
end Go.Proofs.YtlnjcfgihklppaaGreat
