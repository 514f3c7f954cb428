/-
  Two pairs of the law, side by side, and boxes beside them.
-/
import Derived.Test.YtlnjcfgihklppaaGreatVtw
namespace Go.Proofs.YtlnjcfgihklppaaGreat
open Go.RowKit Go.Maps Go.Shelf
set_option linter.unusedVariables false
set_option linter.unusedSimpArgs false

/-- Two pairs in memory, apart, made since, and boxes that their acts leave be. -/
def Tw (N0 p g vb N : Nat) (S : Vs) (A : Acc) (M : Cls Int) (q g' vb' N' : Nat) (S' : Vs) (A' : Acc) (M' : Cls Int) (bs : List (Nat × List Value)) (w0 w : World) : Prop :=
  ∃ Zn Zq, PvAt p g vb N S A M 0 Zn w ∧ PvAt q g' vb' N' S' A' M' 0 Zq w ∧ (∀ k, Zn k ∨ k = p → ¬ (Zq k ∨ k = q)) ∧ (N0 ≤ N ∧ N0 ≤ N') ∧ Below N0 w0 w ∧ ∀ b ∈ bs, w.rangeAt b.1 0 b.2 ∧ ¬ Zn b.1 ∧ ¬ Zq b.1 ∧ b.1 < w.heap.size
section
variable {N0 p g vb N : Nat} {S T : Vs} {A B : Acc} {M L : Cls Int} {q g' vb' N' : Nat} {S' : Vs} {A' : Acc} {M' : Cls Int} {bs : List (Nat × List Value)} {w0 w w' : World}
theorem Tw.swap (h : Tw N0 p g vb N S A M q g' vb' N' S' A' M' bs w0 w) : Tw N0 q g' vb' N' S' A' M' p g vb N S A M bs w0 w := by
  obtain ⟨Zn, Zq, h1, h2, h3, h4, h5, h6⟩ := h
  exact ⟨Zq, Zn, h2, h1, fun k hk hk' => h3 k hk' hk, ⟨h4.2, h4.1⟩, h5, fun b hb => ⟨(h6 b hb).1, (h6 b hb).2.2.1, (h6 b hb).2.1, (h6 b hb).2.2.2⟩⟩
theorem Tw.below (h : Tw N0 p g vb N S A M q g' vb' N' S' A' M' bs w0 w) (hb : Below w.heap.size w w') : Tw N0 p g vb N S A M q g' vb' N' S' A' M' bs w0 w' := by
  obtain ⟨Zn, Zq, h1, h2, h3, h4, h5, h6⟩ := h
  exact ⟨Zn, Zq, h1.below hb, h2.below hb, h3, h4, h5.trans (hb.mono (Nat.le_trans h4.1 h1.lv.size)), fun b hm => ⟨rangeAt_block (h6 b hm).1 (hb.block _ (h6 b hm).2.2.2), (h6 b hm).2.1, (h6 b hm).2.2.1, Nat.lt_of_lt_of_le (h6 b hm).2.2.2 hb.size⟩⟩
theorem Tw.drew (h : Tw N0 p g vb N S A M q g' vb' N' S' A' M' bs w0 w) : Tw N0 p g vb N S A M q g' vb' N' S' A' M' bs w0 w.drew := h.below (Below.refl _ w).drew
theorem Tw.to {Zn Zq : FP} (h1 : PvAt p g vb N S A M 0 Zn w) (h2 : PvAt q g' vb' N' S' A' M' 0 Zq w) (h3 : ∀ k, Zn k ∨ k = p → ¬ (Zq k ∨ k = q)) (h4 : N0 ≤ N ∧ N0 ≤ N') (h5 : Below N0 w0 w) (h6 : ∀ b ∈ bs, w.rangeAt b.1 0 b.2 ∧ ¬ Zn b.1 ∧ ¬ Zq b.1 ∧ b.1 < w.heap.size) (hto : PvTo p g vb N T B L 0 Zn w w') : Tw N0 p g vb N T B L q g' vb' N' S' A' M' bs w0 w' := by
  have hb := PvTo.below h1 hto
  obtain ⟨Z', k1, k2, k3⟩ := hto
  have hql : ∀ k, Zq k ∨ k = q → k < w.heap.size := fun k hk => hk.elim (fun e => h2.lv.lt e) (fun e => e ▸ h2.lt)
  refine ⟨Z', Zq, k1, h2.keep k3.grow (fun k hk => k3.block k (hql k hk) (fun e => h3 k (.inl e) hk) (fun h => h)), fun k hk hq => ?_, h4, h5.trans (hb.mono h4.1), fun b hm => ⟨rangeAt_block (h6 b hm).1 (k3.block _ (h6 b hm).2.2.2 (h6 b hm).2.1 (fun h => h)), fun hz => (k2 _ hz).elim (h6 b hm).2.1 (fun e => by have := (h6 b hm).2.2.2; omega), (h6 b hm).2.2.1, Nat.lt_of_lt_of_le (h6 b hm).2.2.2 k3.grow.size⟩⟩
  rcases hk with hk | hk
  · exact (k2 k hk).elim (fun e => h3 k (.inl e) hq) (fun e => by have := hql k hq; omega)
  · exact h3 k (.inr hk) hq
theorem Tw.start {bs : List (Nat × List Value)} {w2 w3 : World} (h : Pvb p g vb N S A M bs w0 w) (hb : Below w.heap.size w w2) (h2 : Pv1 q g' vb' w2.heap.size S' A' M' w2 w3) : Tw N p g vb N S A M q g' vb' w2.heap.size S' A' M' bs w0 w3 := by
  have hx := h.below hb
  obtain ⟨Zn, h1, k2, h3⟩ := hx
  obtain ⟨Zq, j1, j2⟩ := h2
  have hlt : ∀ k, Zn k ∨ k = p → k < w2.heap.size := fun k hk => hk.elim (fun e => h1.lv.lt e) (fun e => e ▸ h1.lt)
  have hge : ∀ k, Zq k ∨ k = q → w2.heap.size ≤ k := fun k hk => hk.elim (fun e => j1.lv.lo e) (fun e => e ▸ j1.lo)
  refine ⟨Zn, Zq, h1.below j2, j1, fun k hk hq => by have := hlt k hk; have := hge k hq; omega, ⟨Nat.le_refl _, h1.lv.size⟩, k2.trans (j2.mono h1.lv.size), fun b hm => ?_⟩
  obtain ⟨c1, c2, c3⟩ := h3 b hm
  exact ⟨rangeAt_block c1 (j2.block _ c3), c2, fun hz => by have := hge b.1 (.inl hz); omega, Nat.lt_of_lt_of_le c3 j2.size⟩
theorem Tw.pcells (h : Tw N0 p g vb N S A M q g' vb' N' S' A' M' bs w0 w) : (w.cell? ⟨p, 0, none⟩ = some (.pointer (some ⟨g, 0, none⟩)) ∧ w.cell? ⟨p, 1, none⟩ = some (.pointer (some ⟨vb, 0, none⟩))) ∧ (w.cell? ⟨q, 0, none⟩ = some (.pointer (some ⟨g', 0, none⟩)) ∧ w.cell? ⟨q, 1, none⟩ = some (.pointer (some ⟨vb', 0, none⟩))) := by
  obtain ⟨Zn, Zq, h1, h2, h3, h4, h5, h6⟩ := h
  exact ⟨⟨h1.cells.1, h1.cells.2.1⟩, ⟨h2.cells.1, h2.cells.2.1⟩⟩
theorem Tw.bl (h : Tw N0 p g vb N S A M q g' vb' N' S' A' M' bs w0 w) : Below N0 w0 w := by
  obtain ⟨Zn, Zq, h1, h2, h3, h4, h5, h6⟩ := h
  exact h5
theorem Tw.loadB (h : Tw N0 p g vb N S A M q g' vb' N' S' A' M' bs w0 w) {b : Nat} {t : Bal} (hm : (b, balS.f t) ∈ bs) : (loadSt_V (.pointer (some ⟨b, 0, none⟩))).run Tryz.prog w = .ok (.agg #[.int .i64 t.k, .bool t.aye, .int .i64 t.l, .int .i64 t.a, .int .i64 t.n, .int .i64 t.s]) w := by
  obtain ⟨Zn, Zq, h1, h2, h3, h4, h5, h6⟩ := h
  exact run_loadS (s := balS) (h6 _ hm).1
theorem Tw.vOpen (h : Tw N0 p g vb N S A M q g' vb' N' S' A' M' bs w0 w) (r t : Int) : Calls Tryz.prog 17 #[.pointer (some ⟨vb, 0, none⟩), .int .i64 r, .int .i64 t] w fun e w' => e = .returned (.int .i64 (openE S.P r t)) ∧ Tw N0 p g vb N (openS S r t) A M q g' vb' N' S' A' M' bs w0 w' := by
  obtain ⟨Zn, Zq, h1, h2, h3, h4, h5, h6⟩ := h
  refine (h1.vOpen r t).mono ?_
  rintro e w' ⟨he, hto⟩
  exact ⟨he, Tw.to h1 h2 h3 h4 h5 h6 hto⟩
theorem Tw.vClose (h : Tw N0 p g vb N S A M q g' vb' N' S' A' M' bs w0 w) (r st en : Int) : Calls Tryz.prog 18 #[.pointer (some ⟨vb, 0, none⟩), .int .i64 r, .int .i64 st, .int .i64 en] w fun e w' => e = .returned (.int .i64 (closeE S.P r st)) ∧ Tw N0 p g vb N (closeS S r st en) A M q g' vb' N' S' A' M' bs w0 w' := by
  obtain ⟨Zn, Zq, h1, h2, h3, h4, h5, h6⟩ := h
  refine (h1.vClose r st en).mono ?_
  rintro e w' ⟨he, hto⟩
  exact ⟨he, Tw.to h1 h2 h3 h4 h5 h6 hto⟩
theorem Tw.vUnvote (h : Tw N0 p g vb N S A M q g' vb' N' S' A' M' bs w0 w) {a r : Int} (ha : (Lit.int .i64 a).wf = true) (hr : (Lit.int .i64 r).wf = true) (nw : Int) : Calls Tryz.prog 20 #[.pointer (some ⟨vb, 0, none⟩), .int .i64 a, .int .i64 r, .int .i64 nw] w fun e w' => e = .returned (.int .i64 (unvoteE S a r)) ∧ Tw N0 p g vb N (unvoteS S a r nw) A M q g' vb' N' S' A' M' bs w0 w' := by
  obtain ⟨Zn, Zq, h1, h2, h3, h4, h5, h6⟩ := h
  refine (h1.vUnvote ha hr nw).mono ?_
  rintro e w' ⟨he, hto⟩
  exact ⟨he, Tw.to h1 h2 h3 h4 h5 h6 hto⟩
theorem Tw.vUndelegate (h : Tw N0 p g vb N S A M q g' vb' N' S' A' M' bs w0 w) {a t : Int} (ha : (Lit.int .i64 a).wf = true) (ht : (Lit.int .i64 t).wf = true) (nw : Int) : Calls Tryz.prog 22 #[.pointer (some ⟨vb, 0, none⟩), .int .i64 a, .int .i64 t, .int .i64 nw] w fun e w' => e = .returned (.int .i64 (undE S a t)) ∧ Tw N0 p g vb N (undS S a t nw) A M q g' vb' N' S' A' M' bs w0 w' := by
  obtain ⟨Zn, Zq, h1, h2, h3, h4, h5, h6⟩ := h
  refine (h1.vUndelegate ha ht nw).mono ?_
  rintro e w' ⟨he, hto⟩
  exact ⟨he, Tw.to h1 h2 h3 h4 h5 h6 hto⟩
theorem Tw.vVote (h : Tw N0 p g vb N S A M q g' vb' N' S' A' M' bs w0 w) {a r : Int} (ha : (Lit.int .i64 a).wf = true) (hr : (Lit.int .i64 r).wf = true) (x : Bal) : Calls Tryz.prog 19 #[.pointer (some ⟨vb, 0, none⟩), .pointer (some ⟨g, 0, none⟩), .int .i64 a, .int .i64 r, .agg #[.int .i64 x.k, .bool x.aye, .int .i64 x.l, .int .i64 x.a, .int .i64 x.n, .int .i64 x.s]] w fun e w' => e = .returned (.int .i64 (voteE S A a r x)) ∧ Tw N0 p g vb N (voteS S A a r x) A (voteM S A M a r x) q g' vb' N' S' A' M' bs w0 w' := by
  obtain ⟨Zn, Zq, h1, h2, h3, h4, h5, h6⟩ := h
  refine (h1.vVote ha hr x).mono ?_
  rintro e w' ⟨he, hto⟩
  exact ⟨he, Tw.to h1 h2 h3 h4 h5 h6 hto⟩
theorem Tw.vDelegate (h : Tw N0 p g vb N S A M q g' vb' N' S' A' M' bs w0 w) {a t who : Int} (ha : (Lit.int .i64 a).wf = true) (ht : (Lit.int .i64 t).wf = true) (l n : Int) : Calls Tryz.prog 21 #[.pointer (some ⟨vb, 0, none⟩), .pointer (some ⟨g, 0, none⟩), .int .i64 a, .int .i64 t, .int .i64 who, .int .i64 l, .int .i64 n] w fun e w' => e = .returned (.int .i64 (delE S A a t who l n)) ∧ Tw N0 p g vb N (delS S A a t who l n) A (delM S A M a t who l n) q g' vb' N' S' A' M' bs w0 w' := by
  obtain ⟨Zn, Zq, h1, h2, h3, h4, h5, h6⟩ := h
  refine (h1.vDelegate ha ht l n).mono ?_
  rintro e w' ⟨he, hto⟩
  exact ⟨he, Tw.to h1 h2 h3 h4 h5 h6 hto⟩
theorem Tw.vUnlock (h : Tw N0 p g vb N S A M q g' vb' N' S' A' M' bs w0 w) {a t : Int} (ha : (Lit.int .i64 a).wf = true) (ht : (Lit.int .i64 t).wf = true) (nw : Int) : Calls Tryz.prog 23 #[.pointer (some ⟨vb, 0, none⟩), .pointer (some ⟨g, 0, none⟩), .int .i64 a, .int .i64 t, .int .i64 nw] w fun e w' => e = .returned (.int .i64 (unlE a t)) ∧ Tw N0 p g vb N (unlS S a t nw) A (unlM S M a t nw) q g' vb' N' S' A' M' bs w0 w' := by
  obtain ⟨Zn, Zq, h1, h2, h3, h4, h5, h6⟩ := h
  refine (h1.vUnlock ha ht nw).mono ?_
  rintro e w' ⟨he, hto⟩
  exact ⟨he, Tw.to h1 h2 h3 h4 h5 h6 hto⟩
theorem Tw.vTransfer (h : Tw N0 p g vb N S A M q g' vb' N' S' A' M' bs w0 w) {a : Int} (ha : (Lit.int .i64 a).wf = true) (b n : Int) : Calls Tryz.prog 34 #[.pointer (some ⟨g, 0, none⟩), .int .i64 a, .int .i64 b, .int .i64 n] w fun e w' => e = .returned (.int .i64 (transE A M a b n)) ∧ Tw N0 p g vb N S (transA A M a b n) M q g' vb' N' S' A' M' bs w0 w' := by
  obtain ⟨Zn, Zq, h1, h2, h3, h4, h5, h6⟩ := h
  refine (h1.vTransfer ha b n).mono ?_
  rintro e w' ⟨he, hto⟩
  exact ⟨he, Tw.to h1 h2 h3 h4 h5 h6 hto⟩
theorem Tw.vTally (h : Tw N0 p g vb N S A M q g' vb' N' S' A' M' bs w0 w) (r : Int) : Calls Tryz.prog 24 #[.pointer (some ⟨vb, 0, none⟩), .int .i64 r] w fun e w' => e = .returned (.agg #[.int .i64 (tallyOf S r).a, .int .i64 (tallyOf S r).n, .int .i64 (tallyOf S r).s]) ∧ Tw N0 p g vb N S A M q g' vb' N' S' A' M' bs w0 w' := by
  have h' := h
  obtain ⟨Zn, Zq, h1, h2, h3, h4, h5, h6⟩ := h
  exact (h1.vTally r).mono fun e w' ⟨he, hb⟩ => ⟨he, h'.below hb⟩
theorem Tw.vLocked (h : Tw N0 p g vb N S A M q g' vb' N' S' A' M' bs w0 w) {a : Int} (ha : (Lit.int .i64 a).wf = true) : Calls Tryz.prog 30 #[.pointer (some ⟨g, 0, none⟩), .int .i64 a] w fun e w' => e = .returned (.int .i64 (lockedOf M a)) ∧ Tw N0 p g vb N S A M q g' vb' N' S' A' M' bs w0 w' := by
  have h' := h
  obtain ⟨Zn, Zq, h1, h2, h3, h4, h5, h6⟩ := h
  exact (h1.vLocked ha).mono fun e w' ⟨he, hb⟩ => ⟨he, h'.below hb⟩
theorem Tw.vGot (h : Tw N0 p g vb N S A M q g' vb' N' S' A' M' bs w0 w) {a b : Int} (ha : (Lit.int .i64 a).wf = true) (hb : (Lit.int .i64 b).wf = true) : Calls Tryz.prog 25 #[.pointer (some ⟨vb, 0, none⟩), .int .i64 a, .int .i64 b] w fun e w' => e = .returned (.agg #[.int .i64 (gotS S a b).v, .int .i64 (gotS S a b).c]) ∧ Tw N0 p g vb N S A M q g' vb' N' S' A' M' bs w0 w' := by
  have h' := h
  obtain ⟨Zn, Zq, h1, h2, h3, h4, h5, h6⟩ := h
  exact (h1.vGot ha hb).mono fun e w' ⟨he, hb⟩ => ⟨he, h'.below hb⟩
theorem Tw.casts (h : Tw N0 p g vb N S A M q g' vb' N' S' A' M' bs w0 w) {a : Int} (ha : (Lit.int .i64 a).wf = true) (t : Int) (hl : (ballots S a t).length ≤ 100) :
    Calls Tryz.prog 16 #[.pointer (some ⟨vb, 0, none⟩), .int .i64 a, .int .i64 t] w fun e w' => ∃ ao cap, e = .returned (.tuple #[.slice ao (ballots S a t).length cap, .bool true]) ∧ OwnR castR w.heap.size (.slice ao (ballots S a t).length cap) (ballots S a t) w' ∧ Below w.heap.size w w' := by
  obtain ⟨Zn, Zq, h1, h2, h3, h4, h5, h6⟩ := h
  obtain ⟨F, hx, lift⟩ := h1.lv.vo
  refine (hx.casts h1.inv ha t hl).mono ?_
  rintro e w' ⟨v, rfl, ho, hb⟩
  have ho' := ho
  obtain ⟨ao, cap, rfl⟩ := ho'.lenOf
  exact ⟨ao, cap, rfl, ho, hb⟩
theorem Tw.new (h : Tw N0 p g vb N S A M q g' vb' N' S' A' M' bs w0 w) {b : Nat} {l : List Value} (hr : w'.rangeAt b 0 l) (hb : Below w.heap.size w w') (hn : w.heap.size ≤ b) (hl : b < w'.heap.size) : Tw N0 p g vb N S A M q g' vb' N' S' A' M' ((b, l) :: bs) w0 w' := by
  obtain ⟨Zn, Zq, h1, h2, h3, h4, h5, h6⟩ := h
  refine ⟨Zn, Zq, h1.below hb, h2.below hb, h3, h4, h5.trans (hb.mono (Nat.le_trans h4.1 h1.lv.size)), fun c hc => ?_⟩
  rcases List.mem_cons.1 hc with rfl | hc
  · exact ⟨hr, fun hz => by have := h1.lv.lt hz; omega, fun hz => by have := h2.lv.lt hz; omega, hl⟩
  · obtain ⟨c1, c2, c3, c4⟩ := h6 c hc
    exact ⟨rangeAt_block c1 (hb.block _ c4), c2, c3, Nat.lt_of_lt_of_le c4 hb.size⟩
theorem Tw.loadO (h : Tw N0 p g vb N S A M q g' vb' N' S' A' M' bs w0 w) {b : Nat} {t : Bal} {u : Value} (hm : (b, u :: balS.f t) ∈ bs) : (loadSt_V (.pointer (some ⟨b, 1, none⟩))).run Tryz.prog w = .ok (.agg #[.int .i64 t.k, .bool t.aye, .int .i64 t.l, .int .i64 t.a, .int .i64 t.n, .int .i64 t.s]) w := by
  obtain ⟨Zn, Zq, h1, h2, h3, h4, h5, h6⟩ := h
  have hr := (h6 _ hm).1
  refine run_loadS (s := balS) (k := 1) (fun j v hj => ?_)
  have := hr (j + 1) v (by simpa using hj)
  rwa [show 0 + (j + 1) = 1 + j by omega] at this
theorem cast_one {B : Nat} {ao : Option Addr} {cap : Nat} {y : Bal} {w : World} (h : OwnR castR B (.slice ao 1 cap) [(0, y)] w) : ∃ b, ao = some ⟨b, 0, none⟩ ∧ B ≤ b ∧ b < w.heap.size ∧ w.rangeAt b 0 (.int .i64 0 :: balS.f y) := by
  have h0 := h
  have hr := h.reads
  obtain ⟨h1, h2⟩ := h
  rcases h2 with ⟨-, hn⟩ | ⟨g, cap, cur, he, -⟩
  · simp at hn
  · injection he with e1 e2 e3
    subst e1
    obtain ⟨b, off, e, hra, hb⟩ := hr.at (i := 0) (by simp)
    injection e with e
    injection e with e1 e2 e3
    subst e1
    subst e2
    exact ⟨g, rfl, (h0.block rfl).1, hb, hra⟩
end
end Go.Proofs.YtlnjcfgihklppaaGreat
