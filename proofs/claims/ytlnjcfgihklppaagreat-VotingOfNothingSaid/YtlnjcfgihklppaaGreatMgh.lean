/-
  Joined texts.
-/
import Derived.OrdersHeld
import Derived.Deep.RegionHeld
import Derived.Test.YtlnjcfgihklppaaGreatMgg

section
namespace Go.Proofs.YtlnjcfgihklppaaGreat
open Go.RowKit
set_option linter.unusedVariables false
set_option linter.unusedSimpArgs false

abbrev w64i (n : Int) : Int := wrap64 n
def Tl.add (x y : Tl) : Tl := ⟨wrap64 (x.a + y.a), wrap64 (x.n + y.n), wrap64 (x.s + y.s)⟩
def Tl.zero : Tl := ⟨0, 0, 0⟩
def Tl.neg (x : Tl) : Tl := ⟨wrap64 (-x.a), wrap64 (-x.n), wrap64 (-x.s)⟩
def Tl.sub (x y : Tl) : Tl := x.add y.neg
def Tl.sum (x : Tl) (l : List Tl) : Tl := l.foldl Tl.add x
theorem Tl.sum_snoc (x : Tl) (l : List Tl) (y : Tl) : Tl.sum x (l ++ [y]) = (Tl.sum x l).add y := by simp [Tl.sum]
abbrev tlV (x : Tl) : Value := .agg #[.int .i64 x.a, .int .i64 x.n, .int .i64 x.s]
/-- A slice reads as these tallies. -/
def RdT (w : World) (v : Value) (l : List Tl) : Prop :=
  (v = .slice none 0 0 ∧ l = []) ∨ ∃ a cap, v = .slice (some a) l.length cap ∧ l.length ≤ cap ∧
    ∀ i (h : i < l.length), ∃ blk off, a = ⟨blk, off, none⟩ ∧ blk < w.heap.size ∧ w.cell? ⟨blk, off + i * 3, none⟩ = some (.int .i64 l[i].a) ∧ w.cell? ⟨blk, off + i * 3 + 1, none⟩ = some (.int .i64 l[i].n) ∧ w.cell? ⟨blk, off + i * 3 + 2, none⟩ = some (.int .i64 l[i].s)

theorem RdT.below {w w' : World} {v : Value} {l : List Tl} (h : RdT w v l) (hb : Below w.heap.size w w') : RdT w' v l := by
  rcases h with h | ⟨a, cap, hv, hc, hcell⟩
  · exact .inl h
  · refine .inr ⟨a, cap, hv, hc, fun i hi => ?_⟩
    obtain ⟨blk, off, rfl, hl, h1, h2, h3⟩ := hcell i hi
    exact ⟨blk, off, rfl, Nat.lt_of_lt_of_le hl hb.size, (hb.cell (p := ⟨blk, _, none⟩) hl).trans h1, (hb.cell (p := ⟨blk, _, none⟩) hl).trans h2, (hb.cell (p := ⟨blk, _, none⟩) hl).trans h3⟩
theorem RdT.lenOf {w : World} {v : Value} {l : List Tl} (h : RdT w v l) : ∃ ao cap, v = .slice ao l.length cap := by
  rcases h with ⟨rfl, rfl⟩ | ⟨a, cap, rfl, -⟩
  · exact ⟨_, _, rfl⟩
  · exact ⟨_, _, rfl⟩
/-- A box of a tally. -/
def TB (w : World) (b : Nat) (x : Tl) : Prop := w.heap[b]? = some (.cells #[.int .i64 x.a, .int .i64 x.n, .int .i64 x.s] 46 (0, 0))

theorem TB.c {w : World} {b : Nat} {x : Tl} (h : TB w b x) : w.cell? ⟨b, 0, none⟩ = some (.int .i64 x.a) ∧ w.cell? ⟨b, 1, none⟩ = some (.int .i64 x.n) ∧ w.cell? ⟨b, 2, none⟩ = some (.int .i64 x.s) := by
  refine ⟨?_, ?_, ?_⟩ <;> simp [World.cell?, show w.heap[b]? = _ from h]
theorem TB.frozen {w : World} {b : Nat} {x : Tl} (h : TB w b x) (i : Nat) : w.frozen? ⟨b, i, none⟩ = false := by simp [World.frozen?, show w.heap[b]? = _ from h]
theorem TB.lt {w : World} {b : Nat} {x : Tl} (h : TB w b x) : b < w.heap.size := (Array.getElem?_eq_some_iff.1 h).1
theorem TB.new (w : World) (x : Tl) : TB (w.alloc (.cells #[.int .i64 x.a, .int .i64 x.n, .int .i64 x.s] 46)) w.heap.size x := heap_alloc_new w _
theorem TB.newAt {w : World} {x : Tl} {b : Nat} (hb : b = w.heap.size) : TB (w.alloc (.cells #[.int .i64 x.a, .int .i64 x.n, .int .i64 x.s] 46)) b x := by subst hb; exact TB.new w x
theorem TB.keep {w w' : World} {b : Nat} {x : Tl} (h : TB w b x) {N : Nat} (hb : Below N w w') (hN : b < N) : TB w' b x := (hb.block b hN).trans h
theorem TB.alloc {w : World} {b : Nat} {x : Tl} (h : TB w b x) (o : Obj) : TB (w.alloc o) b x := (((Below.refl _ w).alloc (Nat.le_refl _) o).block b h.lt).trans h
theorem block_set {w : World} {b i : Nat} {cs : Array Value} {t : TypeId} {fr : Nat × Nat} (v : Value) (h : w.heap[b]? = some (.cells cs t fr)) : (w.setCell ⟨b, i, none⟩ v).heap[b]? = some (.cells (cs.setIfInBounds i v) t fr) := by
  obtain ⟨hlt, hk⟩ := Array.getElem?_eq_some_iff.1 h
  show (w.heap.modify b _)[b]? = _
  rw [Array.getElem?_eq_getElem (by rw [Array.size_modify]; exact hlt), Array.getElem_modify_self, hk]
  rfl
theorem block_other {w : World} {b : Nat} {a : Addr} {v : Value} {x : Obj} (h : w.heap[b]? = some x) (hne : b ≠ a.block) : (w.setCell a v).heap[b]? = some x := by
  obtain ⟨hlt, hk⟩ := Array.getElem?_eq_some_iff.1 h
  show (w.heap.modify a.block _)[b]? = _
  rw [Array.getElem?_eq_getElem (by rw [Array.size_modify]; exact hlt), Array.getElem_modify_of_ne (fun e => hne e.symm), hk]
theorem TB.set {w : World} {b : Nat} {x : Tl} (h : TB w b x) (y : Tl) : TB (((w.setCell ⟨b, 0, none⟩ (.int .i64 y.a)).setCell ⟨b, 1, none⟩ (.int .i64 y.n)).setCell ⟨b, 2, none⟩ (.int .i64 y.s)) b y :=
  block_set _ (block_set _ (block_set _ h))

/-- Cells of a tally in a slice. -/
theorem RdT.at {w : World} {ao : Option Addr} {n cap : Nat} {l : List Tl} (h : RdT w (.slice ao n cap) l) {j : Nat} (hj : j < l.length) :
    ∃ blk off, ao = some ⟨blk, off, none⟩ ∧ n = l.length ∧ n ≤ cap ∧ blk < w.heap.size ∧ w.cell? ⟨blk, off + j * 3, none⟩ = some (.int .i64 (l.getD j Tl.zero).a) ∧ w.cell? ⟨blk, off + j * 3 + 1, none⟩ = some (.int .i64 (l.getD j Tl.zero).n) ∧ w.cell? ⟨blk, off + j * 3 + 2, none⟩ = some (.int .i64 (l.getD j Tl.zero).s) := by
  rcases h with ⟨-, h⟩ | ⟨a, cap', hv, hc, hcell⟩
  · subst h; simp at hj
  · injection hv with h1 h2 h3
    subst h1 h2 h3
    obtain ⟨blk, off, rfl, hl, c1, c2, c3⟩ := hcell j hj
    have e : l.getD j Tl.zero = l[j] := by simp [hj]
    exact ⟨blk, off, rfl, rfl, hc, hl, by rw [e]; exact c1, by rw [e]; exact c2, by rw [e]; exact c3⟩

theorem Tl.take_sum {x : Tl} {l : List Tl} {j : Nat} (h : j < l.length) : Tl.sum x (l.take (j + 1)) = (Tl.sum x (l.take j)).add (l.getD j Tl.zero) := by
  have : l.take (j + 1) = l.take j ++ [l.getD j Tl.zero] := by
    rw [List.take_succ_eq_append_getElem h]; simp [h]
  rw [this, Tl.sum_snoc]

set_option maxHeartbeats 2000000 in
theorem conv_Add (x : Tl) (u : Value) (l : List Tl) (w : World) (hr : RdT w u l) (hl : l.length ≤ 100) :
    Calls Tryz.prog 54 #[tlV x, u] w fun e w' => e = .returned (tlV (Tl.sum x l)) ∧ Below w.heap.size w w' := by
  have HR := Lib.hid hr
  obtain ⟨ao, cap, rfl⟩ := hr.lenOf
  clear hr
  unfold tlV
  go_enter Tryz.func54, Tryz.ntmps54
  go_wp2
  go_loopw [9] (fun i wr => ∃ j : Nat, j ≤ l.length ∧ i = .int .i64 j ∧ TB wr w.heap.size (Tl.sum x (l.take j)) ∧ TB wr (w.heap.size + 1) Tl.zero ∧ Below w.heap.size w wr) (fun i _ => l.length - (RowKit.intOf i).toNat)
  case atStart =>
    refine ⟨0, Nat.zero_le _, rfl, (TB.new w x).alloc _, ?_, ((Below.refl _ w).alloc (Nat.le_refl _) _).alloc (by simp) _⟩
    have := TB.new (w.alloc (.cells #[.int .i64 x.a, .int .i64 x.n, .int .i64 x.s] 46)) Tl.zero
    rwa [World.size_alloc] at this
  case round =>
    obtain ⟨j, hj, rfl, ht, hz, hb⟩ := hrel
    by_cases hlt : j < l.length
    · obtain ⟨blk, off, rfl, -, hc, hbl, c1, c2, c3⟩ := HR.out.at hlt
      have hnext := Tl.take_sum (x := x) hlt
      obtain ⟨q, hq⟩ : ∃ q, q = l.getD j Tl.zero := ⟨_, rfl⟩
      obtain ⟨s, hs⟩ : ∃ s, s = Tl.sum x (l.take j) := ⟨_, rfl⟩
      rw [← hq, ← hs] at hnext
      rw [← hq] at c1 c2 c3
      rw [← hs] at ht
      have HN := Lib.hid hnext
      clear hq hs hnext
      have t1 := (hb.cell (p := ⟨blk, off + j * 3, none⟩) hbl).trans c1
      have t2 := (hb.cell (p := ⟨blk, off + j * 3 + 1, none⟩) hbl).trans c2
      have t3 := (hb.cell (p := ⟨blk, off + j * 3 + 2, none⟩) hbl).trans c3
      obtain ⟨s1, s2, s3⟩ := ht.c
      have f0 := ht.frozen 0
      have f1 := ht.frozen 1
      have f2 := ht.frozen 2
      have L1 := ht.lt
      have L2 := hz.lt
      have n1 : ¬ w.heap.size = wr.heap.size := by omega
      have n2 : ¬ blk = wr.heap.size := by omega
      have n3 : ¬ blk = w.heap.size := by omega
      have HT := Lib.hid ht
      have HZ := Lib.hid hz
      have HB := Lib.hid hb
      clear c1 c2 c3 ht hz hb
      go_wp2
      refine ⟨⟨j + 1, by omega, by go_num, ?_, ?_, ?_⟩, by simp [RowKit.intOf]; omega⟩
      · rw [HN.out]
        exact (HT.out.set (s.add q)).alloc _
      · exact TB.alloc ((block_other (block_other (block_other HZ.out (Nat.succ_ne_self _)) (Nat.succ_ne_self _)) (Nat.succ_ne_self _))) _
      · exact ((((HB.out.setCell (Nat.le_refl _) _).setCell (Nat.le_refl _) _).setCell (Nat.le_refl _) _)).alloc (by simp; omega) _
    · have hjl : j = l.length := by omega
      subst hjl
      rw [List.take_length] at ht
      obtain ⟨s1, s2, s3⟩ := ht.c
      obtain ⟨z1, z2, z3⟩ := hz.c
      have f0 := hz.frozen 0
      have f1 := hz.frozen 1
      have f2 := hz.frozen 2
      have L2 := hz.lt
      go_wp2
      refine bodyPost_ret (v := .agg #[.int .i64 (Tl.sum x l).a, .int .i64 (Tl.sum x l).n, .int .i64 (Tl.sum x l).s]) (by simp [results, Tryz.results54, go_sem, *]) rfl ⟨rfl, ?_⟩
      exact ((hb.setCell (Nat.le_succ _) _).setCell (Nat.le_succ _) _).setCell (Nat.le_succ _) _
theorem RdT.one (w : World) (a n s : Int) (t : TypeId) {b : Nat} (hb : b = w.heap.size) : RdT (w.alloc (.cells #[.int .i64 a, .int .i64 n, .int .i64 s] t)) (.slice (some ⟨b, 0, none⟩) 1 1) [⟨a, n, s⟩] := by
  subst hb
  refine .inr ⟨⟨w.heap.size, 0, none⟩, 1, rfl, Nat.le_refl _, fun i hi => ?_⟩
  have : i = 0 := by simp at hi; omega
  subst this
  exact ⟨_, _, rfl, by simp, by simp, by simp, by simp⟩

set_option maxHeartbeats 1000000 in
theorem conv_Sub (x y : Tl) (w : World) :
    Calls Tryz.prog 52 #[tlV x, tlV y] w fun e w' => e = .returned (tlV (x.add y.neg)) ∧ Below w.heap.size w w' := by
  have hz : Tl.sum x [⟨wrap64 (-y.a), wrap64 (-y.n), wrap64 (-y.s)⟩] = x.add y.neg := rfl
  have HZ := Lib.hid hz
  clear hz
  go_enter Tryz.func52, Tryz.ntmps52
  go_wp2_with (first | (go_at_call 54; (with_reducible refine (conv_Add x _ [⟨wrap64 (-y.a), wrap64 (-y.n), wrap64 (-y.s)⟩] _ (RdT.one _ _ _ _ _ (by simp)) (by simp)).mono ?_); rintro e w1 ⟨rfl, hb1⟩; rw [HZ.out]; have L3 := hb1.size; simp only [World.size_alloc] at L3 hb1; have hz := TB.keep (TB.alloc (TB.newAt (w := (w.alloc (.cells #[.int .i64 x.a, .int .i64 x.n, .int .i64 x.s] 46)).alloc (.cells #[.int .i64 y.a, .int .i64 y.n, .int .i64 y.s] 46)) (x := Tl.zero) (b := w.heap.size + 1 + 1) (by simp)) _) hb1 (by omega); obtain ⟨z1, z2, z3⟩ := hz.c; have f0 := hz.frozen 0; have f1 := hz.frozen 1; have f2 := hz.frozen 2; have H1 := Lib.hid hb1; clear hb1 hz) | fail)
  refine bodyPost_ret (v := .agg #[.int .i64 (x.add y.neg).a, .int .i64 (x.add y.neg).n, .int .i64 (x.add y.neg).s]) (by simp [results, Tryz.results52, go_sem, *]) rfl ⟨rfl, ?_⟩
  have hb : Below w.heap.size w w1 := ((((Below.refl _ w).alloc (Nat.le_refl _) _).alloc (by simp) _).alloc (by simp; omega) _).alloc (by simp; omega) _ |>.trans (H1.out.mono (by omega))
  exact ((hb.setCell (by simp; omega) _).setCell (by simp; omega) _).setCell (by simp; omega) _


/-- What a vote gains, as the machine has it. -/
def gainW (x : Bal) (g : Wgt) : Tl := if x.k = 1 then (if x.aye then ⟨wrap64 (votesI x.a x.l + g.v), 0, wrap64 (x.a + g.c)⟩ else ⟨0, wrap64 (votesI x.a x.l + g.v), 0⟩) else ⟨votesI x.a 0, votesI x.n 0, x.a + x.s⟩
/-- A vote that may be. -/
def balOk (x : Bal) : Bool := voteB x.k x.aye x.l x.a x.n x.s
set_option maxHeartbeats 1000000 in
theorem conv_Gain1W (aye : Bool) (l a n s v c : Int) (w : World) (ha : 0 ≤ a ∧ a ≤ 1073741824) (hl : 0 ≤ l ∧ l ≤ 6) :
    Calls Tryz.prog 53 #[vote 1 aye l a n s, weight v c] w fun e w' => e = .returned (tlV (gainW ⟨1, aye, l, a, n, s⟩ ⟨v, c⟩)) ∧ Below w.heap.size w w' := by
  obtain ⟨q0, q1⟩ := votes_bd ha.1 hl.1
  obtain ⟨m0, m1⟩ := mul_bd ha.1 ha.2 (show 0 ≤ l + 1 by omega) (show l + 1 ≤ 7 by omega) (by omega)
  obtain ⟨a0, a1⟩ := ha
  obtain ⟨l0, l1⟩ := hl
  cases aye
  · go_enter Tryz.func53, Tryz.ntmps53
    go_wp2_with fail
    go_quiet ((go_at_call 63; exact Calls.quiet_of_same ((conv_Votes _ _ _ (by omega) (by omega) (by omega) (by omega)).mono fun e w' h => ⟨h.1, h.2.symm⟩)))
    go_wp2
    exact bodyPost_ret (v := tlV (gainW ⟨1, false, l, a, n, s⟩ ⟨v, c⟩)) (by simp [results, Tryz.results53, go_sem, gainW]) rfl ⟨rfl, (by repeat (first | exact Below.refl _ _ | refine below_dn ?_ _ | refine Below.drew ?_ | refine below_new ?_ _ | refine Below.setCell ?_ (Nat.le_refl _) _ | refine Below.setCell ?_ (Nat.le_succ _) _ | refine Below.setCell ?_ (Nat.le_trans (Nat.le_succ _) (Nat.le_succ _)) _))⟩
  · go_enter Tryz.func53, Tryz.ntmps53
    go_wp2_with fail
    go_quiet ((go_at_call 63; exact Calls.quiet_of_same ((conv_Votes _ _ _ (by omega) (by omega) (by omega) (by omega)).mono fun e w' h => ⟨h.1, h.2.symm⟩)))
    go_wp2
    exact bodyPost_ret (v := tlV (gainW ⟨1, true, l, a, n, s⟩ ⟨v, c⟩)) (by simp [results, Tryz.results53, go_sem, gainW]) rfl ⟨rfl, (by repeat (first | exact Below.refl _ _ | refine below_dn ?_ _ | refine Below.drew ?_ | refine below_new ?_ _ | refine Below.setCell ?_ (Nat.le_refl _) _ | refine Below.setCell ?_ (Nat.le_succ _) _ | refine Below.setCell ?_ (Nat.le_trans (Nat.le_succ _) (Nat.le_succ _)) _))⟩


theorem conv_GainW (x : Bal) (g : Wgt) (w : World) (h : balOk x = true) :
    Calls Tryz.prog 53 #[balS.v x, wgtS.v g] w fun e w' => e = .returned (tlyS.v (gainW x g)) ∧ Below w.heap.size w w' := by
  obtain ⟨k, aye, l, a, n, s⟩ := x
  obtain ⟨v, c⟩ := g
  simp only [balOk, voteB, Bool.and_eq_true] at h
  obtain ⟨⟨⟨⟨h0, h1⟩, h2⟩, h3⟩, -⟩ := h
  obtain ⟨a0, a1⟩ := withinB_out h1
  obtain ⟨n0, n1⟩ := withinB_out h2
  obtain ⟨s0, s1⟩ := withinB_out h3
  by_cases k1 : k = 1
  · subst k1
    simp only [shapedB, if_true, Bool.and_eq_true] at h0
    exact conv_Gain1W aye l a n s v c w ⟨a0, a1⟩ (withinB_out h0.1.1)
  · have hk : k = 2 ∨ k = 3 := by
      by_cases k2 : k = 2
      · exact .inl k2
      · by_cases k3 : k = 3
        · exact .inr k3
        · simp [shapedB, k1, k2, k3] at h0
    refine (conv_Gain2 k hk aye l a n s v c w a0 a1 n0 n1 s0 s1).mono fun e w' ⟨he, hb⟩ => ⟨?_, hb⟩
    rw [he]
    simp [gainA, gainN, gainS, gainW, k1, tlyS, StTy.v]
theorem conv_SubW (x y : Tl) (w : World) : Calls Tryz.prog 52 #[tlyS.v x, tlyS.v y] w fun e w' => e = .returned (tlyS.v (x.sub y)) ∧ Below w.heap.size w w' := conv_Sub x y w
/-- One more tally laid on: by the list that the call makes. -/
theorem conv_AddW (x y : Tl) (u : Value) (w : World) (hr : RdT w u [y]) : Calls Tryz.prog 54 #[tlyS.v x, u] w fun e w' => e = .returned (tlyS.v (x.add y)) ∧ Below w.heap.size w w' := conv_Add x u [y] w hr (by simp)
theorem conv_CapitalW (x : Bal) (w : World) (h : balOk x = true) : Calls Tryz.prog 49 #[balS.v x] w fun e w' => e = .returned (.int .i64 (x.a + x.n + x.s)) ∧ Below w.heap.size w w' := by
  obtain ⟨k, aye, l, a, n, s⟩ := x
  simp only [balOk, voteB, Bool.and_eq_true] at h
  obtain ⟨⟨⟨⟨h0, h1⟩, h2⟩, h3⟩, -⟩ := h
  exact conv_Capital k aye l a n s w (withinB_out h1) (withinB_out h2) (withinB_out h3)
theorem conv_IsW (x : Bal) (w : World) : Calls Tryz.prog 47 #[balS.v x] w fun e w' => e = .returned (.bool (balOk x)) ∧ Below w.heap.size w w' := conv_Is x.k x.aye x.l x.a x.n x.s w
end Go.Proofs.YtlnjcfgihklppaaGreat
end

section
namespace Go.Proofs.YtlnjcfgihklppaaGreat
open Go.RowKit Go.Maps
set_option linter.unusedVariables false
set_option linter.unusedSimpArgs false

set_option maxRecDepth 100000 in
set_option maxHeartbeats 1000000 in
theorem ledger_LockG {g gl : Nat} {w : World} {R : World → Prop} {a i n : Int} (hp : w.cell? ⟨g, 20, none⟩ = some (.pointer (some ⟨gl, 0, none⟩))) (hac : isAcc a)
    (hdel : n = 0 ∨ ¬ isBal n → Calls Tryz.prog 90 #[.pointer (some ⟨gl, 0, none⟩), .int .i64 a, .int .i64 i] w fun e w' => ∃ b : Bool, e = .returned (.bool b) ∧ R w')
    (hset : ¬ (n = 0 ∨ ¬ isBal n) → Calls Tryz.prog 91 #[.pointer (some ⟨gl, 0, none⟩), .int .i64 a, .int .i64 i, .int .i64 n] w fun e w' => e = .returned (.tuple #[]) ∧ R w') :
    Calls Tryz.prog 67 #[.pointer (some ⟨g, 0, none⟩), .int .i64 a, .int .i64 i, .int .i64 n] w fun e w' => e = .returned (.tuple #[]) ∧ R w' := by
  obtain ⟨k, rfl, hk⟩ := isAcc_nat hac
  have HK := Lib.hid hk
  have hex : n = 0 ∨ (¬ n = 0 ∧ ¬ isBal n) ∨ (¬ n = 0 ∧ isBal n) := by by_cases h1 : n = 0; exact .inl h1; by_cases h2 : isBal n; exact .inr (.inr ⟨h1, h2⟩); exact .inr (.inl ⟨h1, h2⟩)
  rcases hex with hn | ⟨hn, hbal⟩ | ⟨hn, hbal⟩
  · have HD := Lib.hid (hdel (.inl hn))
    clear hac hdel hset hk
    go_enter Tryz.func67, Tryz.ntmps67
    go_wp2_with (first
      | (go_at_call 74; refine (ledger_account HK.out _).mono ?_; rintro e w' ⟨rfl, hw⟩; rw [hw]; clear hw w')
      | (go_at_call 90; refine HD.out.mono ?_; rintro e w1 ⟨b, rfl, h1⟩; have H1 := Lib.hid h1; clear h1)
      | fail)
    exact bodyPost_end (results_none rfl _ _ _) rfl ⟨rfl, H1.out⟩
  · have HD := Lib.hid (hdel (.inr hbal))
    have hd : decide (0 ≤ n ∧ n ≤ 1073741824) = false := by unfold isBal at hbal; exact decide_eq_false hbal
    have HB := Lib.hid hd
    clear hac hdel hset hk hd hbal
    go_enter Tryz.func67, Tryz.ntmps67
    go_wp2_with (first
      | (go_at_call 74; refine (ledger_account HK.out _).mono ?_; rintro e w' ⟨rfl, hw⟩; rw [hw]; clear hw w')
      | (go_at_call 36; refine (bound_Balance n _).mono ?_; rw [HB.out]; rintro e w' ⟨rfl, hw⟩; rw [hw]; clear hw w')
      | (go_at_call 90; refine HD.out.mono ?_; rintro e w1 ⟨b, rfl, h1⟩; have H1 := Lib.hid h1; clear h1)
      | fail)
    exact bodyPost_end (results_none rfl _ _ _) rfl ⟨rfl, H1.out⟩
  · have HD := Lib.hid (hset (by simp [hn, hbal]))
    have hd : decide (0 ≤ n ∧ n ≤ 1073741824) = true := by unfold isBal at hbal; exact decide_eq_true hbal
    have HB := Lib.hid hd
    clear hac hdel hset hk hd hbal
    go_enter Tryz.func67, Tryz.ntmps67
    go_wp2_with (first
      | (go_at_call 74; refine (ledger_account HK.out _).mono ?_; rintro e w' ⟨rfl, hw⟩; rw [hw]; clear hw w')
      | (go_at_call 36; refine (bound_Balance n _).mono ?_; rw [HB.out]; rintro e w' ⟨rfl, hw⟩; rw [hw]; clear hw w')
      | (go_at_call 91; refine HD.out.mono ?_; rintro e w1 ⟨rfl, h1⟩; have H1 := Lib.hid h1; clear h1)
      | fail)
    exact bodyPost_end (results_none rfl _ _ _) rfl ⟨rfl, H1.out⟩
/-- A ledger in memory, with all that it lies in. -/
def LdX (g N : Nat) (A : Acc) (M : Cls Int) (FL : FP) (w : World) : Prop :=
  ∃ gl F, w.heap[g]? = some (.cells (lcells A gl).toArray 79 (0, 0)) ∧ GrAt codI 130 gl M F w ∧ (∀ k, F k → N ≤ k ∧ k ≠ g) ∧ N ≤ g ∧ AccOk A ∧ M.length ≤ 10000 ∧ ∀ k, FL k ↔ k = g ∨ F k
/-- A ledger changed. -/
def LdTo (g N : Nat) (A : Acc) (M : Cls Int) (FL : FP) (w w' : World) : Prop := ∃ F', LdX g N A M F' w' ∧ (∀ k, F' k → FL k ∨ w.heap.size ≤ k) ∧ Only FL (fun _ => False) w w'
section
variable {g N : Nat} {A A' : Acc} {M M' : Cls Int} {FL : FP} {w w' w1 : World}
theorem LdX.at (h : LdX g N A M FL w) : ∃ gl, LdAt N g gl A M w := by
  obtain ⟨gl, F, h1, h2, h3, h4, h5, h6, h7⟩ := h
  exact ⟨gl, h1, ⟨F, h2, h3⟩, h4, h5, h6⟩
theorem LdX.of {gl : Nat} (h : LdAt N g gl A M w) : ∃ FL, LdX g N A M FL w ∧ ∀ k, FL k → N ≤ k := by
  obtain ⟨F, h1, h2⟩ := h.gr
  exact ⟨_, ⟨gl, F, h.blk, h1, h2, h.lo, h.ok, h.len, fun k => Iff.rfl⟩, fun k hk => hk.elim (fun e => by rw [e]; exact h.lo) (fun e => (h2 k e).1)⟩
theorem LdX.lt (h : LdX g N A M FL w) {k : Nat} (hk : FL k) : k < w.heap.size := by
  obtain ⟨gl, F, h1, h2, h3, h4, h5, h6, h7⟩ := h
  rcases (h7 k).1 hk with rfl | e
  · exact (Array.getElem?_eq_some_iff.1 h1).1
  · exact h2.2.2.1 k e
theorem LdX.lo (h : LdX g N A M FL w) {k : Nat} (hk : FL k) : N ≤ k := by
  obtain ⟨gl, F, h1, h2, h3, h4, h5, h6, h7⟩ := h
  rcases (h7 k).1 hk with rfl | e
  · exact h4
  · exact (h3 k e).1
theorem LdX.own (h : LdX g N A M FL w) : FL g := by
  obtain ⟨gl, F, h1, h2, h3, h4, h5, h6, h7⟩ := h
  exact (h7 g).2 (.inl rfl)
theorem LdX.keep (h : LdX g N A M FL w) (hg : Grow w w') (hk : ∀ k, FL k → w'.heap[k]? = w.heap[k]?) : LdX g N A M FL w' := by
  obtain ⟨gl, F, h1, h2, h3, h4, h5, h6, h7⟩ := h
  exact ⟨gl, F, (hk g ((h7 g).2 (.inl rfl))).trans h1, h2.keep hg (fun k hf => hk k ((h7 k).2 (.inr hf))), h3, h4, h5, h6, h7⟩
theorem LdX.below (h : LdX g N A M FL w) (hb : Below w.heap.size w w') : LdX g N A M FL w' := h.keep (Grow.of_below hb) (fun k hk => hb.block k (h.lt hk))
theorem LdX.size (h : LdX g N A M FL w) : N ≤ w.heap.size := Nat.le_of_lt (Nat.lt_of_le_of_lt (h.lo h.own) (h.lt h.own))
theorem LdX.srt (h : LdX g N A M FL w) : SrtC M ∧ AccOk A ∧ M.length ≤ 10000 := by
  obtain ⟨gl, F, h1, h2, h3, h4, h5, h6, h7⟩ := h
  exact ⟨h2.1, h5, h6⟩
theorem LdTo.of_below (h : LdX g N A M FL w) (hb : Below w.heap.size w w') : LdTo g N A M FL w w' := ⟨FL, h.below hb, fun k hk => .inl hk, Only.of_later hb⟩
theorem LdTo.later (hb : Below w.heap.size w w1) (h : LdTo g N A M FL w1 w') : LdTo g N A M FL w w' := by
  obtain ⟨F', h1, h2, h3⟩ := h
  exact ⟨F', h1, fun k hk => (h2 k hk).imp id (fun h => Nat.le_trans hb.size h), only_trans (Only.of_later hb) h3⟩
theorem ledger_LockX (h : LdX g N A M FL w) (hlen : M.length < 10000) {a i : Int} (hac : isAcc a) (ha : (Lit.int .i64 a).wf = true) (hi : (Lit.int .i64 i).wf = true) (n : Int) : Calls Tryz.prog 67 #[.pointer (some ⟨g, 0, none⟩), .int .i64 a, .int .i64 i, .int .i64 n] w fun e w' => e = .returned (.tuple #[]) ∧ LdTo g N A (lockM M a i n) FL w w' := by
  obtain ⟨gl, h0⟩ := h.at
  have hN := h.size
  obtain ⟨gl, F, h1, hF, hF2, h4, h5, h6, h7⟩ := h
  have h0 : LdAt N g gl A M w := ⟨h1, ⟨F, hF, hF2⟩, h4, h5, h6⟩
  have hM : (lockM M a i n).length ≤ 10000 := by have := lockM_len h0.srt a i n; omega
  have fin : ∀ w', GrTo codI 130 gl (lockM M a i n) F w w' → LdTo g N A (lockM M a i n) FL w w' := fun w' ht => by
    obtain ⟨F', k1, k2, k3⟩ := ht
    refine ⟨_, ⟨gl, F', (k3.block g h0.lt (fun hf => (hF2 g hf).2 rfl) (fun h => h)).trans h1, k1, fun k hk => (k2 k hk).elim (hF2 k) (fun hk => by have := h0.lt; omega), h4, h5, hM, fun k => Iff.rfl⟩, fun k hk => ?_, k3.grow, fun k hk h8 h9 => k3.block k hk (fun e => h8 ((h7 k).2 (.inr e))) h9⟩
    rcases hk with e | e
    · exact .inl ((h7 k).2 (.inl e))
    · exact (k2 k e).imp (fun e => (h7 k).2 (.inr e)) id
  refine ledger_LockG (R := fun w' => LdTo g N A (lockM M a i n) FL w w') h0.ptr hac (fun hc => ?_) (fun hc => ?_)
  · have e : lockM M a i n = cdel M a i := by unfold lockM; rw [if_neg (by simp [hac]), if_pos hc]
    rw [e] at fin ⊢
    refine (grid_Del_I hF (by omega) ha hi).mono ?_
    rintro e w' ⟨rfl, h3⟩
    exact ⟨_, rfl, fin w' h3⟩
  · have e : lockM M a i n = cput M a i n := by unfold lockM; rw [if_neg (by simp [hac]), if_neg hc]
    rw [e] at fin ⊢
    refine (grid_Set_I hF (by omega) ha hi n).mono ?_
    rintro e w' ⟨rfl, h3⟩
    exact ⟨rfl, fin w' h3⟩
/-- A change of the struct's block alone. -/
theorem LdX.off (h : LdX g N A M FL w) (h' : ∀ gl, LdAt N g gl A M w → LdAt N g gl A' M w' ∧ Below N w w' ∧ Off g w w') : LdTo g N A' M FL w w' := by
  obtain ⟨gl, F, h1, hF, hF2, h4, h5, h6, h7⟩ := h
  have h0 : LdAt N g gl A M w := ⟨h1, ⟨F, hF, hF2⟩, h4, h5, h6⟩
  obtain ⟨k1, k2, k3⟩ := h' gl h0
  refine ⟨FL, ⟨gl, F, k1.blk, hF.keep (Grow.of_below k2) (fun k hk => k3 k (hF.2.2.1 k hk) (hF2 k hk).2), hF2, h4, k1.ok, h6, h7⟩, fun k hk => .inl hk, Grow.of_below k2, fun k hk h8 h9 => k3 k hk (fun e => h8 ((h7 k).2 (.inl e)))⟩
theorem ledger_TransferX (h : LdX g N A M FL w) {a : Int} (ha : (Lit.int .i64 a).wf = true) (b n : Int) : Calls Tryz.prog 34 #[.pointer (some ⟨g, 0, none⟩), .int .i64 a, .int .i64 b, .int .i64 n] w fun e w' => e = .returned (.int .i64 (transE A M a b n)) ∧ LdTo g N (transA A M a b n) M FL w w' := by
  obtain ⟨gl, F, h1, hF, hF2, h4, h5, h6, h7⟩ := h
  have h0 : LdAt N g gl A M w := ⟨h1, ⟨F, hF, hF2⟩, h4, h5, h6⟩
  have hN : N ≤ w.heap.size := Nat.le_of_lt (Nat.lt_of_le_of_lt h4 h0.lt)
  refine (ledger_TransferF h0 hN ha b n).mono ?_
  rintro e w' ⟨he, k1, k2, k3⟩
  exact ⟨he, FL, ⟨gl, F, k1.blk, hF.keep (Grow.of_below k2) (fun k hk => k3 k (hF.2.2.1 k hk) (hF2 k hk).2), hF2, h4, k1.ok, h6, h7⟩, fun k hk => .inl hk, Grow.of_below k2, fun k hk h8 h9 => k3 k hk (fun e => h8 ((h7 k).2 (.inl e)))⟩
theorem ledger_FreeX (h : LdX g N A M FL w) (a : Int) : Calls Tryz.prog 50 #[.pointer (some ⟨g, 0, none⟩), .int .i64 a] w fun e w' => e = .returned (.int .i64 (accOf A a).1) ∧ w' = w := by
  obtain ⟨gl, h0⟩ := h.at
  exact ledger_Free h0 a
theorem ledger_LockedX (h : LdX g N A M FL w) {a : Int} (ha : (Lit.int .i64 a).wf = true) : Calls Tryz.prog 30 #[.pointer (some ⟨g, 0, none⟩), .int .i64 a] w fun e w' => e = .returned (.int .i64 (lockedOf M a)) ∧ Below w.heap.size w w' := by
  obtain ⟨gl, h0⟩ := h.at
  exact ledger_Locked h0 ha
end
/-- A ledger beside a voting, with all that both lie in. -/
def LvAt (g vb N : Nat) (S : Vs) (A : Acc) (M : Cls Int) (Zn : FP) (w : World) : Prop := ∃ F FL, VoX vb N S F w ∧ LdX g N A M FL w ∧ (∀ k, F k → ¬ FL k) ∧ ∀ k, Zn k ↔ F k ∨ FL k
/-- Both changed. -/
def LvTo (g vb N : Nat) (S : Vs) (A : Acc) (M : Cls Int) (Zn : FP) (w w' : World) : Prop := ∃ Z', LvAt g vb N S A M Z' w' ∧ (∀ k, Z' k → Zn k ∨ w.heap.size ≤ k) ∧ Only Zn (fun _ => False) w w'
theorem only_cons {F Zn : FP} {w W W' : World} (h : Only Zn (fun _ => False) w W) (h2 : ∀ k, F k → Zn k ∨ w.heap.size ≤ k) (k : Only F (fun _ => False) W W') : Only Zn (fun _ => False) w W' :=
  ⟨h.grow.trans k.grow, fun j hj h4 h5 => (k.block j (Nat.lt_of_lt_of_le hj h.grow.size) (fun e => (h2 j e).elim h4 (fun e => by omega)) (fun h => h)).trans (h.block j hj h4 (fun h => h))⟩
section
variable {g vb N : Nat} {S S' : Vs} {A A' : Acc} {M M' : Cls Int} {Zn : FP} {w w' W : World}
theorem LvAt.lt (h : LvAt g vb N S A M Zn w) {k : Nat} (hk : Zn k) : k < w.heap.size := by
  obtain ⟨F, FL, h1, h2, h3, h4⟩ := h
  exact ((h4 k).1 hk).elim h1.lt h2.lt
theorem LvAt.lo (h : LvAt g vb N S A M Zn w) {k : Nat} (hk : Zn k) : N ≤ k := by
  obtain ⟨F, FL, h1, h2, h3, h4⟩ := h
  exact ((h4 k).1 hk).elim h1.lo h2.lo
theorem LvAt.keep (h : LvAt g vb N S A M Zn w) (hg : Grow w w') (hk : ∀ k, Zn k → w'.heap[k]? = w.heap[k]?) : LvAt g vb N S A M Zn w' := by
  obtain ⟨F, FL, h1, h2, h3, h4⟩ := h
  exact ⟨F, FL, h1.keep hg (fun k hf => hk k ((h4 k).2 (.inl hf))), h2.keep hg (fun k hf => hk k ((h4 k).2 (.inr hf))), h3, h4⟩
theorem LvAt.below (h : LvAt g vb N S A M Zn w) (hb : Below w.heap.size w w') : LvAt g vb N S A M Zn w' := h.keep (Grow.of_below hb) (fun k hk => hb.block k (h.lt hk))
theorem LvAt.size (h : LvAt g vb N S A M Zn w) : N ≤ w.heap.size := by obtain ⟨F, FL, h1, h2, h3, h4⟩ := h; exact h1.size
theorem LvTo.of_below (h : LvAt g vb N S A M Zn w) (hb : Below w.heap.size w w') : LvTo g vb N S A M Zn w w' := ⟨Zn, h.below hb, fun k hk => .inl hk, Only.of_later hb⟩
theorem LvTo.refl (h : LvAt g vb N S A M Zn w) : LvTo g vb N S A M Zn w w := LvTo.of_below h (Below.refl _ _)
theorem LvTo.cons {Z1 : FP} {w1 : World} (h2 : ∀ k, Z1 k → Zn k ∨ w.heap.size ≤ k) (h3 : Only Zn (fun _ => False) w w1) (h : LvTo g vb N S A M Z1 w1 w') : LvTo g vb N S A M Zn w w' := by
  obtain ⟨Z2, k1, k2, k3⟩ := h
  have := h3.grow.size
  exact ⟨Z2, k1, fun k hk => (k2 k hk).elim (fun e => h2 k e) (fun e => .inr (by omega)), only_cons h3 h2 k3⟩
theorem LvTo.below (h : LvAt g vb N S A M Zn w) (ht : LvTo g vb N S' A' M' Zn w w') : Below N w w' := by
  obtain ⟨Z2, k1, k2, k3⟩ := ht
  exact k3.below h.size (fun k hk => h.lo hk) (fun k h => h.elim)
/-- What changes the voting alone. -/
theorem LvAt.vo (h : LvAt g vb N S A M Zn w) : ∃ F, VoX vb N S F w ∧ ∀ S' w', VoTo vb N S' F w w' → LvTo g vb N S' A M Zn w w' := by
  obtain ⟨F, FL, h1, h2, h3, h4⟩ := h
  refine ⟨F, h1, fun S' w' ⟨F', k1, k2, k3⟩ => ⟨fun k => F' k ∨ FL k, ⟨F', FL, k1, h2.keep k3.grow (fun k hk => k3.block k (h2.lt hk) (fun e => h3 k e hk) (fun h => h)), fun k hk hl => (k2 k hk).elim (fun e => h3 k e hl) (fun e => by have := h2.lt hl; omega), fun k => Iff.rfl⟩, fun k hk => ?_, k3.grow, fun k hk h5 h6 => k3.block k hk (fun e => h5 ((h4 k).2 (.inl e))) h6⟩⟩
  rcases hk with e | e
  · exact (k2 k e).imp (fun e => (h4 k).2 (.inl e)) id
  · exact .inl ((h4 k).2 (.inr e))
/-- What changes the ledger alone. -/
theorem LvAt.ld (h : LvAt g vb N S A M Zn w) : ∃ FL, LdX g N A M FL w ∧ ∀ A' M' w', LdTo g N A' M' FL w w' → LvTo g vb N S A' M' Zn w w' := by
  obtain ⟨F, FL, h1, h2, h3, h4⟩ := h
  refine ⟨FL, h2, fun A' M' w' ⟨F', k1, k2, k3⟩ => ⟨fun k => F k ∨ F' k, ⟨F, F', h1.keep k3.grow (fun k hk => k3.block k (h1.lt hk) (fun e => h3 k hk e) (fun h => h)), k1, fun k hk hl => (k2 k hl).elim (fun e => h3 k hk e) (fun e => by have := h1.lt hk; omega), fun k => Iff.rfl⟩, fun k hk => ?_, k3.grow, fun k hk h5 h6 => k3.block k hk (fun e => h5 ((h4 k).2 (.inr e))) h6⟩⟩
  rcases hk with e | e
  · exact .inl ((h4 k).2 (.inl e))
  · exact (k2 k e).imp (fun e => (h4 k).2 (.inr e)) id
end
end Go.Proofs.YtlnjcfgihklppaaGreat
end

section
namespace Go.Proofs.YtlnjcfgihklppaaGreat
open Go.RowKit Go.Maps Go.Shelf
attribute [local go_sem] Oper.semAt_some
set_option linter.unusedVariables false
set_option linter.unusedSimpArgs false

theorem IterF.iterI {P : Program} {α : Type} {n gf : Nat} {lb : Array Value} {encs : α → Array Value} {xs : List α} {G : FP} {w : World} (h : IterF P n gf lb encs xs G w) : Iter P n gf lb encs xs G w :=
  fun l B Ψ J Jx Φ0 W hg hG hΨ hΦ hJ hJx hr h0 => h l B Ψ J Jx Φ0 W hg hG (fun k hk => (hΨ k hk).1) hJ hJx hr h0
/-- Locks of any ledger whose row is told. -/
theorem locks_ofV (l : Value) (a : Int) (xs : List (Int × Int)) (hlen : xs.length ≤ 1000000) (w : World) (hrow : Calls Tryz.prog 73 #[l, .int .i64 a] w fun e w'' => ∃ f, e = .returned f ∧ Way Tryz.prog encs_I f xs w'' ∧ Below w.heap.size w w'') :
    Calls Tryz.prog 80 #[l, .int .i64 a] w fun e w' => ∃ bx v, e = .returned (.func (.func 108) #[] #[.pointer (some ⟨bx, 0, none⟩)]) ∧ Boxed w' bx 187 v ∧ OwnR pair_I (bx + 1) v xs w' ∧ w.heap.size ≤ bx ∧ Below w.heap.size w w' := by
  have HROW := Lib.hid hrow
  clear hrow
  go_enter Tryz.func80, Tryz.ntmps80
  go_wp2_with (first
    | (go_at_call 73; refine HROW.out.mono ?_; rintro e w1 ⟨f, rfl, hway, hb⟩; obtain ⟨gf, lb, rfl, hit⟩ := hway; have H1 := Lib.hid (And.intro hit hb); clear hit hb)
    | (go_at_call 98; refine (still_Now_I gf lb xs w1 H1.out.1.1 (H1.out.1.2 0).iterI hlen).mono ?_; rintro e w2 ⟨v, rfl, hbx, ho, hb⟩; have H2 := Lib.hid (And.intro hbx (And.intro ho hb)); clear hbx ho hb)
    | fail)
  go_ret
  exact ⟨_, v, rfl, H2.out.1, H2.out.2.1, H1.out.2.size, H1.out.2.trans (H2.out.2.2.mono H1.out.2.size)⟩
theorem ledger_LocksX {g N : Nat} {A : Acc} {M : Cls Int} {FL : FP} {w : World} (h : LdX g N A M FL w) {a : Int} (ha : (Lit.int .i64 a).wf = true) :
    Calls Tryz.prog 80 #[.pointer (some ⟨g, 0, none⟩), .int .i64 a] w fun e w' => ∃ bx v, e = .returned (.func (.func 108) #[] #[.pointer (some ⟨bx, 0, none⟩)]) ∧ Boxed w' bx 187 v ∧ OwnR pair_I (bx + 1) v (rowOf M a) w' ∧ w.heap.size ≤ bx ∧ Below w.heap.size w w' := by
  obtain ⟨gl, h0⟩ := h.at
  exact locks_ofV _ a _ (Nat.le_trans (row_length M a) (by have := h0.len; omega)) w (ledger_row h0 ha)
/-- A lock that is great enough. -/
def enough (t n : Int) (x : Int × Int) : Prop := x.1 = t ∧ n ≤ x.2
instance (t n : Int) (x : Int × Int) : Decidable (enough t n x) := by unfold enough; infer_instance
/-- Locks, one raised. -/
def raiseM (M : Cls Int) (a t n : Int) : Cls Int := if ∃ x ∈ rowOf M a, enough t n x then M else lockM M a t n
/-- What raise's range holds. -/
def RsI (N0 tb nb : Nat) (t n : Int) (pre : List (Int × Int)) (Φ : FP) (W : World) : Prop := (∀ k, ¬ Φ k) ∧ Boxed W tb 3 (.int .i64 t) ∧ Boxed W nb 3 (.int .i64 n) ∧ (∀ x ∈ pre, ¬ enough t n x) ∧ N0 ≤ W.heap.size
theorem RsI.stab {N0 tb nb : Nat} {t n : Int} (h1 : tb < N0) (h2 : nb < N0) : Stab N0 (RsI N0 tb nb t n) := by
  rintro pre Φ W ⟨h0, h3, h4, h5, hs⟩
  exact ⟨fun k hk => (h0 k hk).elim, hs, fun W' hg hk => ⟨h0, (hk tb (.inl h1)).trans h3, (hk nb (.inl h2)).trans h4, h5, Nat.le_trans hs hg.size⟩⟩
def RsX (N0 : Nat) (t n : Int) (c : Code) (pre : List (Int × Int)) (Φ : FP) (W : World) : Prop := (∀ k, ¬ Φ k) ∧ c = .ret ∧ (∃ x ∈ pre, enough t n x) ∧ N0 ≤ W.heap.size
theorem RsX.stab {N0 : Nat} {t n : Int} (c : Code) : Stab N0 (RsX N0 t n c) := by
  rintro pre Φ W ⟨h0, h3, h5, hs⟩
  exact ⟨fun k hk => (h0 k hk).elim, hs, fun W' hg hk => ⟨h0, h3, h5, Nat.le_trans hs hg.size⟩⟩
set_option maxHeartbeats 4000000 in
set_option maxRecDepth 100000 in
theorem raise_X {g N : Nat} {A : Acc} {M : Cls Int} {FL : FP} {w : World} (h : LdX g N A M FL w) (hlen : M.length < 10000) {a t : Int} (hac : isAcc a) (ha : (Lit.int .i64 a).wf = true) (ht : (Lit.int .i64 t).wf = true) (n : Int) :
    Calls Tryz.prog 56 #[.pointer (some ⟨g, 0, none⟩), .int .i64 a, .int .i64 t, .int .i64 n] w fun e w' => e = .returned (.tuple #[]) ∧ LdTo g N A (raiseM M a t n) FL w w' := by
  obtain ⟨tb, htb⟩ : ∃ tb, tb = w.heap.size := ⟨_, rfl⟩
  obtain ⟨w1, hw1⟩ : ∃ w1, w1 = (w.alloc (.cells #[.int .i64 t] 3)).alloc (.cells #[.int .i64 n] 3) := ⟨_, rfl⟩
  have hb1 : Below w.heap.size w w1 := by rw [hw1]; exact ((Below.refl _ w).alloc (Nat.le_refl _) _).alloc (by simp) _
  have x0 : Boxed w1 w.heap.size 3 (.int .i64 t) := by rw [hw1]; exact (Boxed.new w _ _).alloc _
  have x1 : Boxed w1 (w.heap.size + 1) 3 (.int .i64 n) := by
    have := Boxed.new (w.alloc (.cells #[.int .i64 t] 3)) 3 (.int .i64 n)
    rw [World.size_alloc] at this
    rw [hw1]; exact this
  have hs1 : w1.heap.size = w.heap.size + 2 := by rw [hw1]; simp
  have hlk := ledger_LocksX (h.below hb1) ha
  refine (callsIn_wide (n := 2)).1 ?_
  refine callsIn_of_wp_marks Tryz.func56 rfl trivial ?_ rfl
  simp only [Tryz.ntmps56, List.size_toArray, List.length_cons, List.length_nil, Nat.reduceAdd, Nat.reduceSub, Array.replicate_succ, Array.replicate_zero, List.push_toArray, List.append_toArray, List.nil_append, List.cons_append]
  have HW1 := Lib.hid hw1
  have H1 := Lib.hid (And.intro hb1 (And.intro x0 (And.intro x1 hs1)))
  have HLK := Lib.hid hlk
  have HH := Lib.hid (And.intro h (And.intro hlen (And.intro hac (And.intro ha ht))))
  clear hw1 hb1 x0 x1 hs1 hlk h hlen hac ha ht
  gi_wp2_with (first
    | (refine ⟨trivial, ?_⟩; gi_at_call 80; rw [← HW1.out]; refine (callsIn_wide.2 HLK.out).mono ?_; rintro e w2 ⟨bx, v, rfl, hbx, ho, hn, hb⟩; have H2 := Lib.hid (And.intro hbx (And.intro ho (And.intro hn hb))); clear hbx ho hn hb)
    | fail)
  obtain ⟨hb1, x0, x1, hs1⟩ := H1.out
  obtain ⟨hbx, ho, hn, hb2⟩ := H2.out
  rw [← htb] at x0 x1 ⊢
  obtain ⟨nb, hnb⟩ : ∃ nb, nb = tb + 1 := ⟨_, rfl⟩
  rw [← hnb] at x1 ⊢
  have y0 : Boxed w2 tb 3 (.int .i64 t) := (hb2.block tb (by omega)).trans x0
  have y1 : Boxed w2 nb 3 (.int .i64 n) := (hb2.block nb (by omega)).trans x1
  have s2 := hb2.size
  have hit := now1_iter_I 0 bx v (rowOf M a) w2 hbx ho.reads (Nat.le_trans (row_length M a) (by have := HH.out.2.1; omega)) (fun k => k = bx ∨ v.ownBlock = some k) (.inl rfl) (fun k hk => .inr hk)
  have hGl : ∀ k, (k = bx ∨ v.ownBlock = some k) → k < w2.heap.size := fun k hk => hk.elim (fun e => by rw [e]; exact hbx.lt) (fun e => (ho.block e).2)
  have hbW : Below w.heap.size w w2 := hb1.trans (hb2.mono hb1.size)
  have htl : tb < w2.heap.size := by omega
  have hnl : nb < w2.heap.size := by omega
  have hwl : w.heap.size ≤ w2.heap.size := hbW.size
  have HBW := Lib.hid (And.intro hbW (And.intro htb hnb))
  clear hb1 x0 x1 hs1 hbx ho hn hb2 hbW htb hnb s2
  refine range_outer (n := 0) (gf := 108) (lb := #[.pointer (some ⟨bx, 0, none⟩)]) rfl enters_now_I hit (Grow.refl w2) (fun k hk => ⟨hGl k hk, rfl⟩) (fun _ => rfl)
    (fun k => False) (fun k hk => hk.elim) (RsI w2.heap.size tb nb t n) (RsX w2.heap.size t n) (RsI.stab htl hnl) RsX.stab ⟨fun _ h => h, y0, y1, (fun x hx => by cases hx), Nat.le_refl _⟩
    (fun x => { tmps := #[.pointer (some ⟨g, 0, none⟩), .int .i64 a, .int .i64 t, .int .i64 n, undef, undef, .pointer (some ⟨tb, 0, none⟩), .pointer (some ⟨nb, 0, none⟩), .int .i64 x.1, .int .i64 x.2, .pointer (some ⟨g, 0, none⟩), .int .i64 a, .func (.func 108) #[] #[.pointer (some ⟨bx, 0, none⟩)], .int .i64 x.1, .int .i64 x.2, undef, undef, undef, undef, undef, undef, undef, undef, undef, undef, undef, undef, undef], defers := [] }) ?assign ?body ?done ?stop
  case assign =>
    intro l x W K hK
    simp only [encs_I]
    gi_wp2
    exact hK
  case body =>
    rintro l pre x Φ W hpx ⟨hno, b0, b1, hpre, hsz⟩ hl hΦ -
    have c0 := b0.cell
    have c1 := b1.cell
    obtain ⟨i, hi⟩ : ∃ i, i = x.1 := ⟨_, rfl⟩
    obtain ⟨m, hm⟩ : ∃ m, m = x.2 := ⟨_, rfl⟩
    have hen : enough t n x ↔ i = t ∧ n ≤ m := by rw [hi, hm]; exact Iff.rfl
    rw [← hi, ← hm]
    have HS := Lib.hid (And.intro hno (And.intro b0 (And.intro b1 (And.intro hpre (And.intro hsz hen)))))
    clear hi hm hno b0 b1 hpre hsz hen hit hGl hpx y0 y1
    by_cases q1 : i = t
    · have q1' : (i == t) = true := by simpa using q1
      by_cases q2 : n ≤ m
      · have HQ := Lib.hid (And.intro q1 q2)
        clear q1
        gi_wp2_with fail
        obtain ⟨hno, b0, b1, hpre, hsz, hen⟩ := HS.out
        exact ⟨Φ, fun k h => .inl h, Only.refl _ _ _, hno, rfl, ⟨x, by simp, hen.2 HQ.out⟩, hsz⟩
      · have q2' : ¬ (m ≥ n) := q2
        have HQ := Lib.hid q2
        clear q1
        gi_wp2_with fail
        obtain ⟨hno, b0, b1, hpre, hsz, hen⟩ := HS.out
        exact ⟨Φ, fun k h => .inl h, Only.refl _ _ _, hno, b0, b1, fun y hy => (List.mem_append.1 hy).elim (hpre y) (fun hy => by rw [List.mem_singleton.1 hy, hen]; exact fun h => absurd h.2 (by have := HQ.out; omega)), hsz⟩
    · have q1' : (i == t) = false := by simpa using q1
      have HQ := Lib.hid q1
      clear q1
      gi_wp2_with fail
      obtain ⟨hno, b0, b1, hpre, hsz, hen⟩ := HS.out
      exact ⟨Φ, fun k h => .inl h, Only.refl _ _ _, hno, b0, b1, fun y hy => (List.mem_append.1 hy).elim (hpre y) (fun hy => by rw [List.mem_singleton.1 hy, hen]; exact fun h => HQ.out h.1), hsz⟩
  case done =>
    rintro D Φ W3 ⟨hno, b0, b1, hpre, hsz⟩ hon hD hnD hK
    have c0 := b0.cell
    have c1 := b1.cell
    have hb3 : Below w2.heap.size w2 W3 := ⟨hon.grow.os, hon.grow.tape, hon.grow.output, hon.grow.size, fun k hk => hon.block k hk (fun h => h) (fun h => h)⟩
    have hbW : Below w.heap.size w W3 := HBW.out.1.trans (hb3.mono hwl)
    have hlock := ledger_LockX (HH.out.1.below hbW) HH.out.2.1 HH.out.2.2.1 HH.out.2.2.2.1 HH.out.2.2.2.2 n
    have hDl : D < W3.heap.size := (Array.getElem?_eq_some_iff.1 hK).1
    have eM : raiseM M a t n = lockM M a t n := if_neg (fun ⟨x, hx, he⟩ => hpre x hx he)
    have HD := Lib.hid (And.intro hbW (And.intro hD (And.intro hK (And.intro hDl eM))))
    have HLO := Lib.hid hlock
    clear hno b0 b1 hpre hsz hon hD hK hnD hit hGl hb3 hbW hlock hDl eM y0 y1
    gi_wp2_with (first
      | (refine ⟨trivial, ?_⟩; gi_at_call 67; refine (callsIn_wide.2 HLO.out).mono ?_; rintro e w4 ⟨rfl, ht⟩; have H4 := Lib.hid ht; clear ht)
      | fail)
    obtain ⟨hbW, hD, hK, hDl, eM⟩ := HD.out
    obtain ⟨F4, k1, k2, k3⟩ := H4.out
    have hFD : ∀ k, F4 k → k ≠ D := fun k hk e => (k2 k hk).elim (fun h => by have := HH.out.1.lt h; omega) (fun h => by omega)
    have hKD : w4.heap[D]? = some (.deferred (some [])) := (k3.block D hDl (fun h => by have := HH.out.1.lt h; omega) (fun h => h)).trans hK
    refine marks_leave [D] w4 (by simp) (fun d hd => ?_) (fun w' hg hk => ⟨_, results_none rfl _ _ _, rfl, ?_⟩)
    · simp only [List.mem_cons, List.not_mem_nil, or_false] at hd
      subst hd; exact hKD
    · rw [eM]
      have hs4 := k3.grow.size
      refine ⟨F4, k1.keep hg (fun k hk' => hk k (by simp; exact hFD k hk')), fun k hk' => (k2 k hk').imp id (fun h => by have := hbW.size; omega), (Grow.of_below hbW).trans (k3.grow.trans hg), fun k hk' h1 h2 => ?_⟩
      rw [hk k (by simp; omega), k3.block k (by have := hbW.size; omega) h1 (fun h => h)]
      exact hbW.block k hk'
  case stop =>
    rintro D Φ c pre W3 hpre ⟨hno, rfl, ⟨x, hx, he⟩, hsz⟩ hon hD hnD hK
    have hb3 : Below w2.heap.size w2 W3 := ⟨hon.grow.os, hon.grow.tape, hon.grow.output, hon.grow.size, fun k hk => hon.block k hk (fun h => h) (fun h => h)⟩
    have hbW : Below w.heap.size w W3 := HBW.out.1.trans (hb3.mono hwl)
    have eM : raiseM M a t n = M := if_pos ⟨x, hpre.subset hx, he⟩
    have HD := Lib.hid (And.intro hbW (And.intro hD (And.intro hK eM)))
    clear hno hpre hx he hsz hon hD hK hnD hit hGl hb3 hbW eM y0 y1
    gi_wp2_with fail
    obtain ⟨hbW, hD, hK, eM⟩ := HD.out
    refine marks_leave [D] W3 (by simp) (fun d hd => ?_) (fun w' hg hk => ⟨_, results_none rfl _ _ _, rfl, ?_⟩)
    · simp only [List.mem_cons, List.not_mem_nil, or_false] at hd
      subst hd; exact hK
    · rw [eM]
      refine LdTo.of_below HH.out.1 ⟨hg.os.trans hbW.os, hg.tape.trans hbW.tape, hg.output.trans hbW.output, Nat.le_trans hbW.size hg.size, fun k hk' => ?_⟩
      rw [hk k (by simp; omega)]
      exact hbW.block k hk'
end Go.Proofs.YtlnjcfgihklppaaGreat
end

section
namespace Go.Proofs.YtlnjcfgihklppaaGreat
open Go.RowKit
set_option linter.unusedVariables false
section
variable {P : Program} {ops : Array Oper} {md : Region.Mode} {n lp : Nat} {Q : Exit → Act → World → Prop}
theorem rowsIn_wideV {row : String} {args : Array Value} {w : World} {R : Value → World → Prop} (h : Rows P row args w R) : RowsIn Fence.wide n P row args w R :=
  fun c cs _ => let ⟨v, w', r, s⟩ := h c cs; ⟨v, w', r, stepsIn_wide.2 s⟩
theorem wpIn_of_wpR {o : Oper} (hd : ∀ c, o.op ≠ .defer c) (hQ : ¬ LetsOut Q) {a : Act} {w : World} {K : Act → World → Prop} (hh : o.wp P a w K Q) : o.wpIn (Fence.wide.inRound lp) n P a w K Q := by
  unfold Oper.wp at hh
  unfold Oper.wpIn
  refine ⟨fun f _ => trivial, ?_⟩
  have e : o.semAt (Fence.wide.inRound lp).round a.eval = execOp a.eval o := Oper.semAt_eq _ _ _ hd
  rw [e]
  generalize (execOp a.eval o).run P w = r at *
  cases r with
  | ok x w' =>
    cases x <;> simp only [Oper.upon] at hh <;> simp only [Oper.uponIn]
    case enter f args => exact ⟨fun h => by simp [Fence.wide] at h, CallsIn.inRound lp (callsIn_wide.2 hh)⟩
    case row row args => exact ⟨fun h => by simp [Fence.wide] at h, rowsIn_wideV hh⟩
    all_goals exact hh
  | halt x w' => cases x <;> simp only [Oper.upon] at hh <;> simp only [Oper.uponIn] <;> exact hh
theorem wpAnyIn_of_wpAnyR (hdf : ∀ (i : Nat) (o : Oper), ops[i]? = some o → ∀ c, o.op ≠ .defer c) (hQ : ¬ LetsOut Q) : ∀ (fuel : Nat) (listed : Array Bool) (a : Act) (w : World), wpAny P md ops Q fuel listed a w → wpAnyIn (Fence.wide.inRound lp) n P md ops Q fuel listed a w
  | 0, _, _, _, h => h
  | fuel + 1, listed, a, w, h => ⟨h.1, fun i hi => by
      have h1 := wpOp_mono (fun a' w' h' => wpAnyIn_of_wpAnyR hdf hQ fuel _ a' w' h') (h.2 i hi)
      unfold wpOp at h1
      unfold wpOpIn
      split
      · rename_i ho; simp only [ho] at h1; exact h1
      · rename_i o ho
        simp only [ho] at h1
        split
        · rename_i hw; simp only [hw, if_true] at h1; exact wpIn_of_wpR (hdf _ _ ho) hQ (h1.resolve_right (fun h => hQ h.2))
        · rename_i hw; simp only [hw] at h1; exact ⟨fun f _ => trivial, h1⟩⟩
/-- The beginning: S is shown of the world behind the draw, once, and handed on. -/
theorem wpIn_region_heldR {S : World → Prop} {id : Nat} {R : Act → World → Prop} {a : Act} {w : World} {l : List Oper} (hm : P.follows .mixedOrders = true) (hdb : l.all (fun o => match o.op with | .defer _ => false | _ => true) = true) (hS : S w.drew)
    (h : S w.drew → wpAnyH P .any l.toArray (Exit.then R (fun _ _ _ => False)) S l.toArray.size (Array.replicate l.toArray.size false) a w.drew) (hK : ∀ a w, R a w → Q .normal a w) : (Code.region id l.toArray true).wpIn (Fence.wide.inRound lp) n P Q a w := by
  have hdf : ∀ (i : Nat) (o : Oper), l.toArray[i]? = some o → ∀ c, o.op ≠ .defer c := fun i o ho c hc => by
    have hm := List.all_eq_true.1 hdb o (List.mem_of_getElem? (by simpa using ho))
    rw [hc] at hm; cases hm
  refine wpIn_mono (wpIn_region_any hm (wpAnyIn_of_wpAnyR hdf (fun ⟨a, w, h⟩ => h) _ _ _ _ (wpAny_of_held _ _ _ _ (h hS)))) (fun e a w hq => by cases e <;> first | exact hK _ _ hq | exact hq.elim)
end
end Go.Proofs.YtlnjcfgihklppaaGreat
end

section
namespace Go.Proofs.YtlnjcfgihklppaaGreat
open Go.RowKit Go.Maps Go.Shelf
attribute [local go_sem] Oper.semAt_some
set_option linter.unusedVariables false
set_option linter.unusedSimpArgs false

/-- A poll's tally, when what is lent to a voter changes. -/
def relend (x : Bal) (was is : Wgt) (t : Tl) : Tl := (t.sub (gainW x was)).add (gainW x is)
def Pl.withT (p : Pl) (t : Tl) : Pl := ⟨p.st, p.tr, t.a, t.n, t.s, p.en⟩
def lendP1 (was is : Wgt) (P : Nat → Pl) (x : Int × Bal) : Nat → Pl := if (P x.1.toNat).st = 1 then putP P x.1.toNat ((P x.1.toNat).withT (relend x.2 was is (P x.1.toNat).t)) else P
def lendP (was is : Wgt) (P : Nat → Pl) (l : List (Int × Bal)) : Nat → Pl := l.foldl (lendP1 was is) P
theorem lendP_snoc (was is : Wgt) (P : Nat → Pl) (l : List (Int × Bal)) (x : Int × Bal) : lendP was is P (l ++ [x]) = lendP1 was is (lendP was is P l) x := by simp [lendP]
theorem lendP1_same (was is : Wgt) (P : Nat → Pl) (x : Int × Bal) (k : Nat) : (lendP1 was is P x k).st = (P k).st ∧ (lendP1 was is P x k).tr = (P k).tr ∧ (lendP1 was is P x k).en = (P k).en := by
  unfold lendP1
  split
  · by_cases h : k = x.1.toNat
    · subst h; rw [putP_same]; exact ⟨rfl, rfl, rfl⟩
    · rw [putP_other _ _ h]; exact ⟨rfl, rfl, rfl⟩
  · exact ⟨rfl, rfl, rfl⟩
theorem lendP_same (was is : Wgt) : ∀ (l : List (Int × Bal)) (P : Nat → Pl) (k : Nat), (lendP was is P l k).st = (P k).st ∧ (lendP was is P l k).tr = (P k).tr ∧ (lendP was is P l k).en = (P k).en
  | [], P, k => ⟨rfl, rfl, rfl⟩
  | x :: l, P, k => by
    obtain ⟨h1, h2, h3⟩ := lendP_same was is l (lendP1 was is P x) k
    obtain ⟨k1, k2, k3⟩ := lendP1_same was is P x k
    exact ⟨h1.trans k1, h2.trans k2, h3.trans k3⟩
/-- What lending changes. -/
def lendG (S : Vs) (who t dv dc : Int) : Wgt := ⟨wrap64 (((cget S.G who t).getD ⟨0, 0⟩).v + dv), wrap64 (((cget S.G who t).getD ⟨0, 0⟩).c + dc)⟩
def lendS (S : Vs) (who t dv dc : Int) : Vs := { S with G := cput S.G who t (lendG S who t dv dc), P := lendP ((cget S.G who t).getD ⟨0, 0⟩) (lendG S who t dv dc) S.P (ballots S who t) }
/-- What the loop holds. -/
def LenI (vb N : Nat) (S1 : Vs) (F : FP) (w3 : World) (was is : Wgt) (vbx wb ib : Nat) (B0 : Nat) (pre : List (Int × Bal)) (Φ : FP) (W : World) : Prop :=
  (∀ k, ¬ Φ k) ∧ VoX vb N { S1 with P := lendP was is S1.P pre } F W ∧ Only (fun k => k = vb) (fun _ => False) w3 W ∧ W.heap[vbx]? = w3.heap[vbx]? ∧ W.heap[wb]? = w3.heap[wb]? ∧ W.heap[ib]? = w3.heap[ib]? ∧ B0 ≤ W.heap.size
theorem LenI.stab {vb N : Nat} {S1 : Vs} {F : FP} {w3 : World} {was is : Wgt} {vbx wb ib B0 : Nat} (hF : ∀ k, F k → k < B0) (h1 : vbx < B0) (h2 : wb < B0) (h3 : ib < B0) (hw : w3.heap.size ≤ B0) : Stab B0 (LenI vb N S1 F w3 was is vbx wb ib B0) := by
  rintro pre Φ W ⟨h0, hx, ho, e1, e2, e3, hs⟩
  exact ⟨fun k hk => (h0 k hk).elim, hs, fun W' hg hk => ⟨h0, hx.keep hg (fun k hf => hk k (.inl (hF k hf))), ⟨ho.grow.trans hg, fun k hk' h4 h5 => (hk k (.inl (by omega))).trans (ho.block k hk' h4 h5)⟩, (hk vbx (.inl h1)).trans e1, (hk wb (.inl h2)).trans e2, (hk ib (.inl h3)).trans e3, Nat.le_trans hs hg.size⟩⟩
def storeT (a v : Value) : Sem Unit := Instr.storeAt 46 a v
theorem storeT_hide (a v : Value) : Instr.storeAt 46 a v = storeT a v := rfl
def loadSt_T (v : Value) : Sem Value := Instr.loadAt 46 v
theorem loadSt_T_hide (v : Value) : Instr.loadAt 46 v = loadSt_T v := rfl
theorem VoX.setTX {vb N : Nat} {S : Vs} {F : FP} {w : World} (h : VoX vb N S F w) {k : Nat} (hk : k < 12) (t : Tl) : VoX vb N { S with P := putP S.P k ⟨(S.P k).st, (S.P k).tr, t.a, t.n, t.s, (S.P k).en⟩ } F (w.setCells vb (k * 6 + 2) (tlyS.f t)) := by
  obtain ⟨gv, gd, gw, gp, FV, FD, FW, FQ, h1, h2⟩ := h
  have hg := setCells_grow (b := vb) (tlyS.f t) (k * 6 + 2) w
  have ho : ∀ i, i ≠ vb → (w.setCells vb (k * 6 + 2) (tlyS.f t)).heap[i]? = w.heap[i]? := fun i hi => setCells_off hi _ _ _
  exact ⟨gv, gd, gw, gp, FV, FD, FW, FQ, ⟨h1.blk.setT hk t, h1.v.keep hg (fun i hi => ho i (fun e => h1.off.b.1 (e ▸ hi))), h1.d.keep hg (fun i hi => ho i (fun e => h1.off.b.2.1 (e ▸ hi))), h1.g.keep hg (fun i hi => ho i (fun e => h1.off.b.2.2.1 (e ▸ hi))), h1.q.keep hg (fun i hi => ho i (fun e => h1.off.b.2.2.2 (e ▸ hi))), h1.off⟩, h2⟩
theorem run_storeT {w : World} {b k : Nat} (h : w.there b k 3) (t : Tl) : (storeT (.pointer (some ⟨b, k, none⟩)) (.agg (tlyS.f t).toArray)).run Tryz.prog w = .ok () (w.setCells b k (tlyS.f t)) :=
  run_storeAt_mid w b k 46 (tlyS.f t).toArray h (by kernel_rfl) (by simp [tlyS, Value.oneCell'])
set_option maxHeartbeats 8000000 in
set_option maxRecDepth 100000 in
attribute [local go_sem ↓] loadSt_V_hide loadSt_W_hide loadSt_T_hide storeT_hide in
theorem VoX.lend {vb N : Nat} {S : Vs} {F : FP} {w : World} (h : VoX vb N S F w) (hlen : S.V.length ≤ 100000) (hlg : S.G.length ≤ 100000) {who t : Int} (ha : (Lit.int .i64 who).wf = true) (ht : (Lit.int .i64 t).wf = true) (hrf : ∀ x ∈ rowOf S.V who, (0 ≤ x.1 ∧ x.1 < 12) ∧ (S.P x.1.toNat).st ≠ 0 ∧ balOk x.2 = true) (dv dc : Int) :
    Calls Tryz.prog 62 #[.pointer (some ⟨vb, 0, none⟩), .int .i64 who, .int .i64 t, .int .i64 dv, .int .i64 dc] w fun e w' => e = .returned (.tuple #[]) ∧ VoTo vb N (lendS S who t dv dc) F w w' := by
  obtain ⟨was, hwas⟩ : ∃ was, was = (cget S.G who t).getD ⟨0, 0⟩ := ⟨_, rfl⟩
  obtain ⟨is, his⟩ : ∃ is, is = lendG S who t dv dc := ⟨_, rfl⟩
  have his2 : is = ⟨wrap64 (was.v + dv), wrap64 (was.c + dc)⟩ := by rw [his, hwas]; rfl
  have eS : lendS S who t dv dc = { S with G := cput S.G who t is, P := lendP was is S.P (ballots S who t) } := by rw [lendS, ← his, ← hwas]
  rw [eS]
  obtain ⟨xs, hxs⟩ : ∃ xs, xs = ballots S who t := ⟨_, rfl⟩
  rw [← hxs]
  have HXS := Lib.hid hxs
  obtain ⟨w1, hw1⟩ : ∃ w1, w1 = w.alloc (.cells #[.pointer (some ⟨vb, 0, none⟩)] 26) := ⟨_, rfl⟩
  have hb1 : Below w.heap.size w w1 := by rw [hw1]; exact (Below.refl _ w).alloc (Nat.le_refl _) _
  have x0 : Boxed w1 w.heap.size 26 (.pointer (some ⟨vb, 0, none⟩)) := by rw [hw1]; exact Boxed.new w _ _
  have hs1 : w1.heap.size = w.heap.size + 1 := by rw [hw1]; simp
  have hgot := (h.below hb1).got ha ht
  rw [show wgtS.zero = (⟨0, 0⟩ : Wgt) from rfl, ← hwas] at hgot
  have c0 := x0.cell
  refine (callsIn_wide (n := 3)).1 ?_
  refine callsIn_of_wp_marks Tryz.func62 rfl trivial ?_ rfl
  simp only [Tryz.ntmps62, List.size_toArray, List.length_cons, List.length_nil, Nat.reduceAdd, Nat.reduceSub, Array.replicate_succ, Array.replicate_zero, List.push_toArray, List.append_toArray, List.nil_append, List.cons_append]
  have HW1 := Lib.hid hw1
  have H1 := Lib.hid (And.intro hb1 (And.intro x0 hs1))
  have HG := Lib.hid hgot
  have HH := Lib.hid (And.intro h (And.intro hlen (And.intro hlg (And.intro ha (And.intro ht hrf)))))
  have HI := Lib.hid his2
  clear hxs his hwas his2 eS hb1 x0 hs1 hgot h hlen hlg ha ht hrf
  rw [hw1] at c0
  gi_upto_region 1 with fail
  rw [← HW1.out]
  rw [← hw1] at c0
  clear hw1
  gi_upto_region 2 with (first
    | (gi_at_call 25; refine (callsIn_wide.2 HG.out).mono ?_; rintro e w2 ⟨rfl, hb⟩; have H2 := Lib.hid hb; clear hb)
    | (refine ⟨trivial, ?_⟩; gi_at_call 25; refine (callsIn_wide.2 HG.out).mono ?_; rintro e w2 ⟨rfl, hb⟩; have H2 := Lib.hid hb; clear hb)
    | (refine wplIn_allocS (s := wgtS) rfl rfl rfl ?_)
    | (refine wplIn_storeS (s := wgtS) (t := was) (b := w2.heap.size) _ _ rfl rfl rfl rfl rfl (World.alloc_heap_new w2 _) (zeroS wgtS) ?_; rw [newS])
    | fail)
  obtain ⟨wb, hwb⟩ : ∃ wb, wb = w2.heap.size := ⟨_, rfl⟩
  obtain ⟨w3, hw3⟩ : ∃ w3, w3 = w2.alloc (wgtS.obj was) := ⟨_, rfl⟩
  have r3 : w3.rangeAt wb 0 (wgtS.f was) := by rw [hw3, hwb]; exact atS wgtS w2 was
  have d0 : w3.cell? ⟨wb, 0, none⟩ = some (.int .i64 was.v) := r3 0 _ rfl
  have d1 : w3.cell? ⟨wb, 1, none⟩ = some (.int .i64 was.c) := r3 1 _ rfl
  have hb3 : Below w2.heap.size w2 w3 := by rw [hw3]; exact (Below.refl _ w2).alloc (Nat.le_refl _) _
  have hs3 : w3.heap.size = wb + 1 := by rw [hw3, hwb]; simp
  have e1 : wrap64 (was.v + dv) = is.v := by rw [HI.out]
  have e2 : wrap64 (was.c + dc) = is.c := by rw [HI.out]
  rw [← hw3, ← hwb]
  have H3 := Lib.hid (And.intro r3 (And.intro hb3 (And.intro hs3 (And.intro hw3 hwb))))
  clear r3 hb3 hs3 hw3 hwb
  gi_upto_region 3 with (first
    | (refine wplIn_allocS (s := wgtS) rfl rfl rfl ?_)
    | (refine wplIn_storeS (s := wgtS) (t := is) (b := w3.heap.size) _ _ rfl rfl rfl rfl rfl (World.alloc_heap_new w3 _) (zeroS wgtS) ?_; rw [newS])
    | fail)
  clear e1 e2
  obtain ⟨ib, hib⟩ : ∃ ib, ib = w3.heap.size := ⟨_, rfl⟩
  obtain ⟨w4, hw4⟩ : ∃ w4, w4 = w3.alloc (wgtS.obj is) := ⟨_, rfl⟩
  rw [← hw4, ← hib]
  obtain ⟨r3, hb3, hs3, hw3, hwb⟩ := H3.out
  obtain ⟨hb1, x0, hs1⟩ := H1.out
  have hb4 : Below w3.heap.size w3 w4 := by rw [hw4]; exact (Below.refl _ w3).alloc (Nat.le_refl _) _
  have hs4 : w4.heap.size = ib + 1 := by rw [hw4, hib]; simp
  have hb12 : Below w1.heap.size w1 w2 := H2.out
  have hs12 := hb12.size
  have hb14 : Below w1.heap.size w1 w4 := hb12.trans ((hb3.trans (hb4.mono hb3.size)).mono hs12)
  have hb04 : Below w.heap.size w w4 := hb1.trans (hb14.mono hb1.size)
  have x4 : Boxed w4 w.heap.size 26 (.pointer (some ⟨vb, 0, none⟩)) := (hb14.block _ (by omega)).trans x0
  have c4 : w4.drew.cell? ⟨w.heap.size, 0, none⟩ = some (.pointer (some ⟨vb, 0, none⟩)) := x4.cell
  have r4 : w4.rangeAt wb 0 (wgtS.f was) := rangeAt_block r3 (hb4.block wb (by omega))
  have q4 : w4.rangeAt ib 0 (wgtS.f is) := by rw [hw4, hib]; exact atS wgtS w3 is
  have i0 : (loadSt_W (.pointer (some ⟨ib, 0, none⟩))).run Tryz.prog w4.drew = .ok (.agg (wgtS.f is).toArray) w4.drew := run_loadSt_W q4
  have hX4 : VoX vb N S F w4 := HH.out.1.below hb04
  obtain ⟨gv, gd, gw, gp, htb, -, -, -, -, hset, -⟩ := hX4.tables
  obtain ⟨-, -, t74, -⟩ := htb w4.drew (Below.refl _ w4).drew
  have hset4 := hset w4.drew (Below.refl _ w4).drew who t is (Nat.le_trans HH.out.2.2.1 (by omega)) HH.out.2.2.2.1 HH.out.2.2.2.2.1
  have mixed : Tryz.prog.follows .mixedOrders = true := by kernel_rfl
  have HSET := Lib.hid hset4
  have H4 := Lib.hid (And.intro hb04 (And.intro x4 (And.intro r4 (And.intro q4 (And.intro hs4 (And.intro hb14 (And.intro hs1 hs12)))))))
  have H4s := Lib.hid (show wb < ib ∧ w.heap.size < wb by omega)
  clear r3 hb3 hs3 hw3 hwb hb1 x0 hs1 hb4 hs4 hb12 hs12 hb14 hb04 x4 r4 q4 hX4 htb hset hset4 hw4 hib c0 d0 d1
  refine wpIn_region_still_tail 7 mixed (by kernel_rfl) ?_
  simp only [List.take_succ_cons, List.take_zero, List.drop_succ_cons, List.drop_zero]
  change wpStill _ _ w4.drew _ _ _
  repeat still_step
  refine wpStill_nil ?_
  change wpListIn _ _ _ _ _ _ _ w4.drew
  gi_upto_region 4 with (first
    | (gi_at_call 85; refine (callsIn_wide.2 HSET.out).mono ?_; rintro e w5 ⟨rfl, ht⟩; have H5 := Lib.hid ht; clear ht)
    | (refine ⟨trivial, ?_⟩; gi_at_call 85; refine (callsIn_wide.2 HSET.out).mono ?_; rintro e w5 ⟨rfl, ht⟩; have H5 := Lib.hid ht; clear ht)
    | fail)
  obtain ⟨F5, hX5, hF5, ho5⟩ := H5.out
  obtain ⟨hb04, x4, r4, q4, hs4, hb14, hs1, hs12⟩ := H4.out
  obtain ⟨lwi, lww⟩ := H4s.out
  have hnF : ∀ k, w.heap.size ≤ k → ¬ F k := fun k hk hf => by have := HH.out.1.lt hf; omega
  have hs5 : w4.heap.size ≤ w5.heap.size := ho5.grow.size
  have x5 : Boxed w5 w.heap.size 26 (.pointer (some ⟨vb, 0, none⟩)) := (ho5.block _ (by show w.heap.size < w4.heap.size; omega) (hnF _ (Nat.le_refl _)) (fun h => h)).trans x4
  have r5 : w5.rangeAt wb 0 (wgtS.f was) := rangeAt_block (w := w4) r4 (ho5.block wb (by show wb < w4.heap.size; omega) (hnF _ (by omega)) (fun h => h))
  have q5 : w5.rangeAt ib 0 (wgtS.f is) := rangeAt_block (w := w4) q4 (ho5.block ib (by show ib < w4.heap.size; omega) (hnF _ (by omega)) (fun h => h))
  have hbal := hX5.balWay HH.out.2.1 HH.out.2.2.2.1 (fun x hx => (HH.out.2.2.2.2.2 x hx).1) t
  have hvb : F5 vb := hX5.own
  have hvl : vb < w5.heap.size := hX5.lt hvb
  have hvw : vb < w.heap.size := HH.out.1.lt HH.out.1.own
  have c5 := x5.cell
  have HX5 := Lib.hid (And.intro hX5 (And.intro hF5 (And.intro ho5 (And.intro x5 (And.intro r5 q5)))))
  have HBAL := Lib.hid hbal
  have HL5 := Lib.hid (show w4.heap.size ≤ w5.heap.size ∧ vb < w5.heap.size ∧ vb < w.heap.size ∧ w.heap.size < wb ∧ wb < ib ∧ ib < w4.heap.size by omega)
  clear hX5 hF5 ho5 hb04 x4 r4 q4 hs4 hb14 hs1 hs12 lwi lww hnF hs5 x5 r5 q5 hbal hvb hvl hvw t74 c4 i0
  gi_wp2_with (first
    | (gi_at_call 66; refine (callsIn_wide.2 HBAL.out).mono ?_; rintro e w6 ⟨rfl, hb, hs6, hit, -⟩; have H6 := Lib.hid (And.intro hit (And.intro hb hs6)); clear hit hb hs6)
    | (refine ⟨trivial, ?_⟩; gi_at_call 66; refine (callsIn_wide.2 HBAL.out).mono ?_; rintro e w6 ⟨rfl, hb, hs6, hit, -⟩; have H6 := Lib.hid (And.intro hit (And.intro hb hs6)); clear hit hb hs6)
    | fail)
  obtain ⟨hX5, hF5, ho5, x5, r5, q5⟩ := HX5.out
  obtain ⟨l1, l2, l3, l4, l5, l6⟩ := HL5.out
  obtain ⟨hit, hb6, hs6⟩ := H6.out
  have hX6 := hX5.below hb6
  have x6 : Boxed w6 w.heap.size 26 (.pointer (some ⟨vb, 0, none⟩)) := (hb6.block _ (by omega)).trans x5
  have r6 : w6.rangeAt wb 0 (wgtS.f was) := rangeAt_block r5 (hb6.block wb (by omega))
  have q6 : w6.rangeAt ib 0 (wgtS.f is) := rangeAt_block q5 (hb6.block ib (by omega))
  have hGl : ∀ k, ((k = w5.heap.size ∨ k = w5.heap.size + 1 ∨ k = w5.heap.size + 1 + 1) ∨ F5 k) → k < w6.heap.size := fun k hk => by
    rcases hk with h | h
    · omega
    · have := hX5.lt h; omega
  have hF6 : ∀ k, F5 k → k < w6.heap.size := fun k hk => hX6.lt hk
  have hxs := HXS.out
  have hit0 : IterT Tryz.prog 1 88 #[.pointer (some ⟨w5.heap.size, 0, none⟩), .pointer (some ⟨w5.heap.size + 1, 0, none⟩), .pointer (some ⟨w5.heap.size + 1 + 1, 0, none⟩)] encs_V xs (fun k => k = w5.heap.size ∨ k = w5.heap.size + 1 ∨ k = w5.heap.size + 1 + 1) F5 (TrW vb S.P) w6 := by rw [hxs]; exact hit 0
  have hxm : ∀ x ∈ xs, (0 ≤ x.1 ∧ x.1 < 12) ∧ (S.P x.1.toNat).st ≠ 0 ∧ balOk x.2 = true := fun x hx => by
    rw [hxs] at hx
    exact HH.out.2.2.2.2.2 x (List.mem_filter.1 hx).1
  have HXM := Lib.hid (And.intro hxm hxs)
  have H6x := Lib.hid (And.intro x6 (And.intro r6 (And.intro q6 (And.intro hX6 (And.intro hF6 hb6)))))
  have HL6 := Lib.hid (show w5.heap.size + 3 = w6.heap.size by omega)
  have HIT := Lib.hid hit0
  have lv6 : vb < w6.heap.size := by omega
  have lx6 : w.heap.size < w6.heap.size := by omega
  have lw6 : wb < w6.heap.size := by omega
  have li6 : ib < w6.heap.size := by omega
  clear hxm hxs hit hit0 hX5 hF5 ho5 x5 r5 q5 hb6 hs6 x6 r6 q6 hX6 c5 l1 l2 l3 l4 l5 l6
  refine range_outerTU (n := 1) (gf := 88) rfl enters_ballots1 HIT.out (Grow.refl w6) (fun k hk => ⟨hGl k hk, rfl⟩) (fun _ => rfl)
    (fun k => k = vb) (by rintro k rfl; exact ⟨lv6, by have := HL5.out; omega⟩) (LenI vb N { S with G := cput S.G who t is } F5 w6 was is w.heap.size wb ib w6.heap.size) (fun _ _ _ _ => False) (LenI.stab hF6 lx6 lw6 li6 (Nat.le_refl _)) (fun c _ _ _ h => h.elim)
    (fun pre Φ W ⟨_, hx, _⟩ k hk => (hx.trw k hk).trans (by rw [(lendP_same was is pre S.P k).2.1])) ⟨fun _ h => h, H6x.out.2.2.2.1, Only.refl _ _ _, rfl, rfl, rfl, Nat.le_refl _⟩
    (fun x N T => (((T.setIfInBounds 40 (.int .i64 x.1)).setIfInBounds 41 (balVal x)).setIfInBounds 12 (.int .i64 x.1)).setIfInBounds 13 (.pointer (some ⟨N, 0, none⟩)))
    (fun x N W => W.heap[N]? = some (.cells #[.int .i64 x.2.k, .bool x.2.aye, .int .i64 x.2.l, .int .i64 x.2.a, .int .i64 x.2.n, .int .i64 x.2.s] 23 (0, 0))) (fun x N W W' h e => e.trans h) ?assign ?body ?done ?stop
  case stop => exact fun _ _ _ _ _ _ h => h.elim
  case assign =>
    intro l x W K hK
    simp only [encs_V]
    clear hGl hF6
    gi_wp2
    exact hK _ ((Below.refl _ W).alloc (Nat.le_refl _) _) (by simp) (World.alloc_heap_new _ _)
  case body =>
    rintro l pre x Φi Nx W' hpx ⟨hno, hx, hon, e1, e2, e3, hsz⟩ hl hΦl - hlN hNW hAt
    have hxm : x ∈ xs := hpx.subset (by simp)
    obtain ⟨⟨x0, x1⟩, hst, hok⟩ := HXM.out.1 x hxm
    obtain ⟨rf, hrf⟩ : ∃ rf : Nat, x.1 = rf := ⟨x.1.toNat, by omega⟩
    have hrl : rf < 12 := by omega
    rw [hrf, Int.toNat_natCast] at hst
    have hsn : lendP was is S.P (pre ++ [x]) = lendP1 was is (lendP was is S.P pre) x := lendP_snoc was is S.P pre x
    obtain ⟨P1, hP1⟩ : ∃ P1, P1 = lendP was is S.P pre := ⟨_, rfl⟩
    have hst1 : (P1 rf).st ≠ 0 := by rw [hP1, (lendP_same was is pre S.P rf).1]; exact hst
    rw [← hP1] at hsn
    have hx : VoX vb N { S with G := cput S.G who t is, P := P1 } F5 W' := by rw [hP1]; exact hx
    have hpoll := hx.poll rf
    have hptr : plPtr vb P1 (rf : Int) = some ⟨vb, rf * 6, none⟩ := by unfold plPtr; rw [if_pos ⟨by omega, by simpa using hst1⟩]; simp
    rw [show ({ S with G := cput S.G who t is, P := P1 } : Vs).P = P1 from rfl, hptr] at hpoll
    have hopen : Calls Tryz.prog 44 #[.pointer (some ⟨vb, rf * 6, none⟩)] W' fun e w' => e = .returned (.bool ((P1 rf).st == 1)) ∧ w' = W' := hx.open hrl
    obtain ⟨c0, -, -, -, hrt, hth, -⟩ := hx.cells hrl
    obtain ⟨tt, htt⟩ : ∃ tt, tt = (P1 rf).t := ⟨_, rfl⟩
    have hrt : W'.rangeAt vb (rf * 6 + 2) (tlyS.f tt) := by rw [htt]; exact hrt
    have cx : W'.cell? ⟨w.heap.size, 0, none⟩ = some (.pointer (some ⟨vb, 0, none⟩)) := by rw [World.cell?_of_block e1]; exact H6x.out.1.cell
    obtain ⟨xb, hxb⟩ : ∃ xb, xb = x.2 := ⟨_, rfl⟩
    have hNr : W'.rangeAt Nx 0 (balS.f xb) := by rw [hxb]; exact rangeAt_whole (T := balS.T) hAt
    have hwr : W'.rangeAt wb 0 (wgtS.f was) := rangeAt_block H6x.out.2.1 e2
    have hir : W'.rangeAt ib 0 (wgtS.f is) := rangeAt_block H6x.out.2.2.1 e3
    have hS : ∀ wx, Below W'.heap.size W' wx → (loadSt_V (.pointer (some ⟨Nx, 0, none⟩))).run Tryz.prog wx = .ok (.agg (balS.f xb).toArray) wx ∧ (loadSt_W (.pointer (some ⟨wb, 0, none⟩))).run Tryz.prog wx = .ok (.agg (wgtS.f was).toArray) wx ∧ (loadSt_W (.pointer (some ⟨ib, 0, none⟩))).run Tryz.prog wx = .ok (.agg (wgtS.f is).toArray) wx := fun wx hb =>
      ⟨run_loadSt_V (rangeAt_block hNr (hb.block Nx hNW)), run_loadSt_W (rangeAt_block hwr (hb.block wb (by omega))), run_loadSt_W (rangeAt_block hir (hb.block ib (by omega)))⟩
    have hlx := HL5.out
    have hlx6 := HL6.out
    have hS2 : ∀ wx, Below W'.heap.size W' wx → ∀ vs, (loadSt_V (.pointer (some ⟨Nx, 0, none⟩))).run Tryz.prog (wx.setCells vb (rf * 6 + 2) vs) = .ok (.agg (balS.f xb).toArray) (wx.setCells vb (rf * 6 + 2) vs) ∧ (loadSt_W (.pointer (some ⟨wb, 0, none⟩))).run Tryz.prog (wx.setCells vb (rf * 6 + 2) vs) = .ok (.agg (wgtS.f was).toArray) (wx.setCells vb (rf * 6 + 2) vs) ∧ (loadSt_W (.pointer (some ⟨ib, 0, none⟩))).run Tryz.prog (wx.setCells vb (rf * 6 + 2) vs) = .ok (.agg (wgtS.f is).toArray) (wx.setCells vb (rf * 6 + 2) vs) := fun wx hb vs =>
      ⟨run_loadSt_V (rangeAt_block hNr ((setCells_off (by omega) _ _ _).trans (hb.block Nx hNW))), run_loadSt_W (rangeAt_block hwr ((setCells_off (by omega) _ _ _).trans (hb.block wb (by omega)))), run_loadSt_W (rangeAt_block hir ((setCells_off (by omega) _ _ _).trans (hb.block ib (by omega))))⟩
    have hvb6 : vb < W'.heap.size := by omega
    have hT : ∀ wx, Below W'.heap.size W' wx → (loadSt_T (.pointer (some ⟨vb, rf * 6 + 2, none⟩))).run Tryz.prog wx = .ok (.agg (tlyS.f tt).toArray) wx ∧ ∀ t' : Tl, (storeT (.pointer (some ⟨vb, rf * 6 + 2, none⟩)) (.agg (tlyS.f t').toArray)).run Tryz.prog wx = .ok () (wx.setCells vb (rf * 6 + 2) (tlyS.f t')) := fun wx hb =>
      ⟨run_loadS (s := tlyS) (rangeAt_block hrt (hb.block vb hvb6)), fun t' => run_storeT (((hx.below hb).cells hrl).2.2.2.2.2.1) t'⟩
    have hGain1 : ∀ wx, Calls Tryz.prog 53 #[.agg (balS.f xb).toArray, .agg (wgtS.f was).toArray] wx fun e w' => e = .returned (.agg (tlyS.f (gainW xb was)).toArray) ∧ Below wx.heap.size wx w' := fun wx => conv_GainW xb was wx (by rw [hxb]; exact hok)
    have hGain2 : ∀ wx, Calls Tryz.prog 53 #[.agg (balS.f xb).toArray, .agg (wgtS.f is).toArray] wx fun e w' => e = .returned (.agg (tlyS.f (gainW xb is)).toArray) ∧ Below wx.heap.size wx w' := fun wx => conv_GainW xb is wx (by rw [hxb]; exact hok)
    have hSub : ∀ (a b : Tl) wx, Calls Tryz.prog 52 #[.agg (tlyS.f a).toArray, .agg (tlyS.f b).toArray] wx fun e w' => e = .returned (.agg (tlyS.f (a.sub b)).toArray) ∧ Below wx.heap.size wx w' := fun a b wx => conv_SubW a b wx
    have hAdd : ∀ (a b : Tl) {u : Value} {wx : World}, RdT wx u [b] → Calls Tryz.prog 54 #[.agg (tlyS.f a).toArray, u] wx fun e w' => e = .returned (.agg (tlyS.f (a.add b)).toArray) ∧ Below wx.heap.size wx w' := fun a b u wx hr => conv_AddW a b u wx hr
    have HS := Lib.hid hS
    have HS2 := Lib.hid hS2
    have HT := Lib.hid hT
    have HP := Lib.hid hpoll
    have HO := Lib.hid hopen
    have HR := Lib.hid (And.intro hno (And.intro hx (And.intro hon (And.intro e1 (And.intro e2 e3)))))
    have HRR := Lib.hid (And.intro hrl (And.intro hrf (And.intro hP1 (And.intro hsn htt))))
    have HSZ := Lib.hid hsz
    have HXB := Lib.hid hxb
    clear hno hx hon e1 e2 e3 hrl hP1 hsn htt hS hS2 hT hpoll hopen hst hst1 hptr c0 hrt hth hNr hwr hir hxm hok x0 x1 hpx hAt hlx hlx6 hxb hsz
    rw [hrf]
    clear hrf
    by_cases q : (P1 rf).st = 1
    · have q' : ((P1 rf).st == 1) = true := by simpa using q
      rw [q'] at HO
      have HQ := Lib.hid q
      clear q q'
      gi_upto_region 9 with (first
        | (gi_at_call 43; refine (CallsIn.inRound _ (callsIn_wide.2 HP.out)).mono ?_; rintro e wx ⟨rfl, hwx⟩; rw [hwx]; clear hwx wx)
        | (refine ⟨trivial, ?_⟩; gi_at_call 43; refine (CallsIn.inRound _ (callsIn_wide.2 HP.out)).mono ?_; rintro e wx ⟨rfl, hwx⟩; rw [hwx]; clear hwx wx)
        | (gi_at_call 44; refine (CallsIn.inRound _ (callsIn_wide.2 HO.out)).mono ?_; rintro e wx ⟨rfl, hwx⟩; rw [hwx]; clear hwx wx)
        | (refine ⟨trivial, ?_⟩; gi_at_call 44; refine (CallsIn.inRound _ (callsIn_wide.2 HO.out)).mono ?_; rintro e wx ⟨rfl, hwx⟩; rw [hwx]; clear hwx wx)
        | fail)
      refine wpIn_region_heldR (S := fun wx => (loadSt_V (.pointer (some ⟨Nx, 0, none⟩))).run Tryz.prog wx = .ok (.agg (balS.f xb).toArray) wx ∧ (loadSt_W (.pointer (some ⟨wb, 0, none⟩))).run Tryz.prog wx = .ok (.agg (wgtS.f was).toArray) wx ∧ (loadSt_W (.pointer (some ⟨ib, 0, none⟩))).run Tryz.prog wx = .ok (.agg (wgtS.f is).toArray) wx) (R := fun a wx => ∃ w13, Below W'.heap.size W' w13 ∧ wx = w13.setCells vb (rf * 6 + 2) (tlyS.f (relend xb was is tt))) mixed (by kernel_rfl) (HS.out _ (Below.refl _ W').drew) (fun hHeld => ?_) ?_
      · refine wpAnyH_take (i := 0) (v := ?_) rfl (by kernel_rfl) (by kernel_rfl) (by kernel_rfl) (fun _ _ _ h => h) (Or.inl ⟨by kernel_rfl, ?_⟩) (by assumption) ?_
        rotate_left
        · intro w' hSw
          try dsimp only at hSw
          go_simp
          try with_reducible rfl
        try simp only [Act.put, List.getElem_toArray, List.getElem_cons_zero, List.getElem_cons_succ, List.setIfInBounds_toArray, List.set_cons_zero, List.set_cons_succ]
        refine wpAnyH_take (i := 1) (v := ?_) rfl (by kernel_rfl) (by kernel_rfl) (by kernel_rfl) (fun _ _ _ h => h) (Or.inl ⟨by kernel_rfl, ?_⟩) (by assumption) ?_
        rotate_left
        · intro w' hSw
          try dsimp only at hSw
          go_simp
          try with_reducible rfl
        try simp only [Act.put, List.getElem_toArray, List.getElem_cons_zero, List.getElem_cons_succ, List.setIfInBounds_toArray, List.set_cons_zero, List.set_cons_succ]
        refine wpAnyH_take (i := 2) (v := ?_) rfl (by kernel_rfl) (by kernel_rfl) (by kernel_rfl) (fun _ _ _ h => h) (Or.inl ⟨by kernel_rfl, ?_⟩) (by assumption) ?_
        rotate_left
        · intro w' hSw
          try dsimp only at hSw
          go_simp
          try with_reducible rfl
        try simp only [Act.put, List.getElem_toArray, List.getElem_cons_zero, List.getElem_cons_succ, List.setIfInBounds_toArray, List.set_cons_zero, List.set_cons_succ]
        refine wpAnyH_take (i := 3) (v := ?_) rfl (by kernel_rfl) (by kernel_rfl) (by kernel_rfl) (fun _ _ _ h => h) (Or.inl ⟨by kernel_rfl, ?_⟩) (by assumption) ?_
        rotate_left
        · intro w' hSw
          try dsimp only at hSw
          go_simp
          try with_reducible rfl
        try simp only [Act.put, List.getElem_toArray, List.getElem_cons_zero, List.getElem_cons_succ, List.setIfInBounds_toArray, List.set_cons_zero, List.set_cons_succ]
        refine wpAnyH_take (i := 5) (v := ?_) rfl (by kernel_rfl) (by kernel_rfl) (by kernel_rfl) (fun _ _ _ h => h) (Or.inl ⟨by kernel_rfl, ?_⟩) (by assumption) ?_
        rotate_left
        · intro w' hSw
          try dsimp only at hSw
          go_simp
          try with_reducible rfl
        try simp only [Act.put, List.getElem_toArray, List.getElem_cons_zero, List.getElem_cons_succ, List.setIfInBounds_toArray, List.set_cons_zero, List.set_cons_succ]
        refine wpAnyH_take (i := 6) (v := ?_) rfl (by kernel_rfl) (by kernel_rfl) (by kernel_rfl) (fun _ _ _ h => h) (Or.inl ⟨by kernel_rfl, ?_⟩) (by assumption) ?_
        rotate_left
        · intro w' hSw
          try dsimp only at hSw
          go_simp
          try with_reducible rfl
        try simp only [Act.put, List.getElem_toArray, List.getElem_cons_zero, List.getElem_cons_succ, List.setIfInBounds_toArray, List.set_cons_zero, List.set_cons_succ]
        refine wpAnyH_take (i := 9) (v := ?_) rfl (by kernel_rfl) (by kernel_rfl) (by kernel_rfl) (fun _ _ _ h => h) (Or.inl ⟨by kernel_rfl, ?_⟩) (by assumption) ?_
        rotate_left
        · intro w' hSw
          try dsimp only at hSw
          go_simp
          try with_reducible rfl
        try simp only [Act.put, List.getElem_toArray, List.getElem_cons_zero, List.getElem_cons_succ, List.setIfInBounds_toArray, List.set_cons_zero, List.set_cons_succ]
        refine wpAnyH_take (i := 10) (v := ?_) rfl (by kernel_rfl) (by kernel_rfl) (by kernel_rfl) (fun _ _ _ h => h) (Or.inl ⟨by kernel_rfl, ?_⟩) (by assumption) ?_
        rotate_left
        · intro w' hSw
          try dsimp only at hSw
          go_simp
          try with_reducible rfl
        try simp only [Act.put, List.getElem_toArray, List.getElem_cons_zero, List.getElem_cons_succ, List.setIfInBounds_toArray, List.set_cons_zero, List.set_cons_succ]
        refine wpAnyH_ready (rs := [4, 7]) (by kernel_rfl) (by simp) ?_
        have hK0 := Lib.hid (show Below W'.heap.size W' W'.drew from (Below.refl _ W').drew)
        have rT0 := (HT.out _ hK0.out).1
        refine AllReadyH.cons rfl (fun K hK => ?_) (AllReadyH.cons rfl (fun K hK => ?_) AllReadyH.nil)
        · rw [if_pos (by kernel_rfl)]
          go_simp
          first | refine hK.out _ _ ?_ (fun hHeld => ?_) | (go_wp2_with fail; refine hK.out _ _ ?_ (fun hHeld => ?_))
          · try dsimp only
            exact HS.out _ hK0.out
          clear hK K
          try simp only [Act.put, List.getElem_toArray, List.getElem_cons_zero, List.getElem_cons_succ, List.setIfInBounds_toArray, List.set_cons_zero, List.set_cons_succ]
          refine wpAnyH_ready (rs := [7]) (by kernel_rfl) (by simp) ?_
          refine AllReadyH.cons rfl (fun K hK => ?_) AllReadyH.nil
          rw [if_pos (by kernel_rfl)]
          go_simp
          go_at_call 53; refine (hGain1 _).mono ?_; rintro e w7 ⟨rfl, hbx⟩; have K7 := Lib.hid (hK0.out.trans (hbx.mono hK0.out.size)); clear hbx
          first | refine hK.out _ _ ?_ (fun hHeld => ?_) | (go_wp2_with fail; refine hK.out _ _ ?_ (fun hHeld => ?_))
          · try dsimp only
            exact HS.out _ K7.out
          clear hK K
          try simp only [Act.put, List.getElem_toArray, List.getElem_cons_zero, List.getElem_cons_succ, List.setIfInBounds_toArray, List.set_cons_zero, List.set_cons_succ]
          refine wpAnyH_ready (rs := [8]) (by kernel_rfl) (by simp) ?_
          refine AllReadyH.cons rfl (fun K hK => ?_) AllReadyH.nil
          rw [if_pos (by kernel_rfl)]
          go_simp
          go_at_call 52; refine (hSub _ _ _).mono ?_; rintro e w8 ⟨rfl, hbx⟩; have K8 := Lib.hid (K7.out.trans (hbx.mono K7.out.size)); clear hbx
          first | refine hK.out _ _ ?_ (fun hHeld => ?_) | (go_wp2_with fail; refine hK.out _ _ ?_ (fun hHeld => ?_))
          · try dsimp only
            exact HS.out _ K8.out
          clear hK K
          try simp only [Act.put, List.getElem_toArray, List.getElem_cons_zero, List.getElem_cons_succ, List.setIfInBounds_toArray, List.set_cons_zero, List.set_cons_succ]
          refine wpAnyH_ready (rs := [11]) (by kernel_rfl) (by simp) ?_
          refine AllReadyH.cons rfl (fun K hK => ?_) AllReadyH.nil
          rw [if_pos (by kernel_rfl)]
          go_simp
          go_at_call 53; refine (hGain2 _).mono ?_; rintro e w11 ⟨rfl, hbx⟩; have K11 := Lib.hid (K8.out.trans (hbx.mono K8.out.size)); clear hbx
          first | refine hK.out _ _ ?_ (fun hHeld => ?_) | (go_wp2_with fail; refine hK.out _ _ ?_ (fun hHeld => ?_))
          · try dsimp only
            exact HS.out _ K11.out
          clear hK K
          try simp only [Act.put, List.getElem_toArray, List.getElem_cons_zero, List.getElem_cons_succ, List.setIfInBounds_toArray, List.set_cons_zero, List.set_cons_succ]
          refine wpAnyH_ready (rs := [12]) (by kernel_rfl) (by simp) ?_
          refine AllReadyH.cons rfl (fun K hK => ?_) AllReadyH.nil
          rw [if_pos (by kernel_rfl)]
          go_simp
          skip
          first | refine hK.out _ _ ?_ (fun hHeld => ?_) | (go_wp2_with fail; refine hK.out _ _ ?_ (fun hHeld => ?_))
          · try dsimp only
            exact HS.out _ (K11.out.alloc K11.out.size _)
          clear hK K
          try simp only [Act.put, List.getElem_toArray, List.getElem_cons_zero, List.getElem_cons_succ, List.setIfInBounds_toArray, List.set_cons_zero, List.set_cons_succ]
          refine wpAnyH_ready (rs := [13]) (by kernel_rfl) (by simp) ?_
          refine AllReadyH.cons rfl (fun K hK => ?_) AllReadyH.nil
          rw [if_pos (by kernel_rfl)]
          go_simp
          go_at_call 54; refine (hAdd _ _ (RdT.one w11 _ _ _ _ rfl)).mono ?_; rintro e w13 ⟨rfl, hbx⟩; have K13 := Lib.hid ((K11.out.alloc K11.out.size _).trans (hbx.mono (K11.out.alloc K11.out.size _).size)); have rS := (HT.out w13 K13.out).2; clear hbx
          first | refine hK.out _ _ ?_ (fun hHeld => ?_) | (go_wp2_with fail; refine hK.out _ _ ?_ (fun hHeld => ?_))
          · try dsimp only
            exact HS.out _ K13.out
          clear hK K
          try simp only [Act.put, List.getElem_toArray, List.getElem_cons_zero, List.getElem_cons_succ, List.setIfInBounds_toArray, List.set_cons_zero, List.set_cons_succ]
          refine wpAnyH_take (i := 14) (v := ?_) rfl (by kernel_rfl) (by kernel_rfl) (by kernel_rfl) (fun _ _ _ h => h) (Or.inl ⟨by kernel_rfl, ?_⟩) (by assumption) ?_
          rotate_left
          · intro w' hSw
            try dsimp only at hSw
            go_simp
            try with_reducible rfl
          try simp only [Act.put, List.getElem_toArray, List.getElem_cons_zero, List.getElem_cons_succ, List.setIfInBounds_toArray, List.set_cons_zero, List.set_cons_succ]
          refine wpAnyH_take (i := 15) (v := ?_) rfl (by kernel_rfl) (by kernel_rfl) (by kernel_rfl) (fun _ _ _ h => h) (Or.inl ⟨by kernel_rfl, ?_⟩) (by assumption) ?_
          rotate_left
          · intro w' hSw
            try dsimp only at hSw
            go_simp
            try with_reducible rfl
          try simp only [Act.put, List.getElem_toArray, List.getElem_cons_zero, List.getElem_cons_succ, List.setIfInBounds_toArray, List.set_cons_zero, List.set_cons_succ]
          refine wpAnyH_ready (rs := [16]) (by kernel_rfl) (by simp) ?_
          refine AllReadyH.cons rfl (fun K hK => ?_) AllReadyH.nil
          rw [if_pos (by kernel_rfl)]
          go_simp
          skip
          first | refine hK.out _ _ ?_ (fun hHeld => ?_) | (go_wp2_with fail; refine hK.out _ _ ?_ (fun hHeld => ?_))
          · try dsimp only
            exact HS2.out _ K13.out _
          clear hK K
          try simp only [Act.put, List.getElem_toArray, List.getElem_cons_zero, List.getElem_cons_succ, List.setIfInBounds_toArray, List.set_cons_zero, List.set_cons_succ]
          refine wpAnyH_done (by kernel_rfl) ?_ _
          exact ⟨w13, K13.out, rfl⟩
        · rw [if_pos (by kernel_rfl)]
          go_simp
          go_at_call 53; refine (hGain1 _).mono ?_; rintro e w7 ⟨rfl, hbx⟩; have K7 := Lib.hid (hK0.out.trans (hbx.mono hK0.out.size)); clear hbx
          first | refine hK.out _ _ ?_ (fun hHeld => ?_) | (go_wp2_with fail; refine hK.out _ _ ?_ (fun hHeld => ?_))
          · try dsimp only
            exact HS.out _ K7.out
          clear hK K
          try simp only [Act.put, List.getElem_toArray, List.getElem_cons_zero, List.getElem_cons_succ, List.setIfInBounds_toArray, List.set_cons_zero, List.set_cons_succ]
          have rT7 := (HT.out _ K7.out).1
          refine wpAnyH_ready (rs := [4]) (by kernel_rfl) (by simp) ?_
          refine AllReadyH.cons rfl (fun K hK => ?_) AllReadyH.nil
          rw [if_pos (by kernel_rfl)]
          go_simp
          skip
          first | refine hK.out _ _ ?_ (fun hHeld => ?_) | (go_wp2_with fail; refine hK.out _ _ ?_ (fun hHeld => ?_))
          · try dsimp only
            exact HS.out _ K7.out
          clear hK K
          try simp only [Act.put, List.getElem_toArray, List.getElem_cons_zero, List.getElem_cons_succ, List.setIfInBounds_toArray, List.set_cons_zero, List.set_cons_succ]
          refine wpAnyH_ready (rs := [8]) (by kernel_rfl) (by simp) ?_
          refine AllReadyH.cons rfl (fun K hK => ?_) AllReadyH.nil
          rw [if_pos (by kernel_rfl)]
          go_simp
          go_at_call 52; refine (hSub _ _ _).mono ?_; rintro e w8 ⟨rfl, hbx⟩; have K8 := Lib.hid (K7.out.trans (hbx.mono K7.out.size)); clear hbx
          first | refine hK.out _ _ ?_ (fun hHeld => ?_) | (go_wp2_with fail; refine hK.out _ _ ?_ (fun hHeld => ?_))
          · try dsimp only
            exact HS.out _ K8.out
          clear hK K
          try simp only [Act.put, List.getElem_toArray, List.getElem_cons_zero, List.getElem_cons_succ, List.setIfInBounds_toArray, List.set_cons_zero, List.set_cons_succ]
          refine wpAnyH_ready (rs := [11]) (by kernel_rfl) (by simp) ?_
          refine AllReadyH.cons rfl (fun K hK => ?_) AllReadyH.nil
          rw [if_pos (by kernel_rfl)]
          go_simp
          go_at_call 53; refine (hGain2 _).mono ?_; rintro e w11 ⟨rfl, hbx⟩; have K11 := Lib.hid (K8.out.trans (hbx.mono K8.out.size)); clear hbx
          first | refine hK.out _ _ ?_ (fun hHeld => ?_) | (go_wp2_with fail; refine hK.out _ _ ?_ (fun hHeld => ?_))
          · try dsimp only
            exact HS.out _ K11.out
          clear hK K
          try simp only [Act.put, List.getElem_toArray, List.getElem_cons_zero, List.getElem_cons_succ, List.setIfInBounds_toArray, List.set_cons_zero, List.set_cons_succ]
          refine wpAnyH_ready (rs := [12]) (by kernel_rfl) (by simp) ?_
          refine AllReadyH.cons rfl (fun K hK => ?_) AllReadyH.nil
          rw [if_pos (by kernel_rfl)]
          go_simp
          skip
          first | refine hK.out _ _ ?_ (fun hHeld => ?_) | (go_wp2_with fail; refine hK.out _ _ ?_ (fun hHeld => ?_))
          · try dsimp only
            exact HS.out _ (K11.out.alloc K11.out.size _)
          clear hK K
          try simp only [Act.put, List.getElem_toArray, List.getElem_cons_zero, List.getElem_cons_succ, List.setIfInBounds_toArray, List.set_cons_zero, List.set_cons_succ]
          refine wpAnyH_ready (rs := [13]) (by kernel_rfl) (by simp) ?_
          refine AllReadyH.cons rfl (fun K hK => ?_) AllReadyH.nil
          rw [if_pos (by kernel_rfl)]
          go_simp
          go_at_call 54; refine (hAdd _ _ (RdT.one w11 _ _ _ _ rfl)).mono ?_; rintro e w13 ⟨rfl, hbx⟩; have K13 := Lib.hid ((K11.out.alloc K11.out.size _).trans (hbx.mono (K11.out.alloc K11.out.size _).size)); have rS := (HT.out w13 K13.out).2; clear hbx
          first | refine hK.out _ _ ?_ (fun hHeld => ?_) | (go_wp2_with fail; refine hK.out _ _ ?_ (fun hHeld => ?_))
          · try dsimp only
            exact HS.out _ K13.out
          clear hK K
          try simp only [Act.put, List.getElem_toArray, List.getElem_cons_zero, List.getElem_cons_succ, List.setIfInBounds_toArray, List.set_cons_zero, List.set_cons_succ]
          refine wpAnyH_take (i := 14) (v := ?_) rfl (by kernel_rfl) (by kernel_rfl) (by kernel_rfl) (fun _ _ _ h => h) (Or.inl ⟨by kernel_rfl, ?_⟩) (by assumption) ?_
          rotate_left
          · intro w' hSw
            try dsimp only at hSw
            go_simp
            try with_reducible rfl
          try simp only [Act.put, List.getElem_toArray, List.getElem_cons_zero, List.getElem_cons_succ, List.setIfInBounds_toArray, List.set_cons_zero, List.set_cons_succ]
          refine wpAnyH_take (i := 15) (v := ?_) rfl (by kernel_rfl) (by kernel_rfl) (by kernel_rfl) (fun _ _ _ h => h) (Or.inl ⟨by kernel_rfl, ?_⟩) (by assumption) ?_
          rotate_left
          · intro w' hSw
            try dsimp only at hSw
            go_simp
            try with_reducible rfl
          try simp only [Act.put, List.getElem_toArray, List.getElem_cons_zero, List.getElem_cons_succ, List.setIfInBounds_toArray, List.set_cons_zero, List.set_cons_succ]
          refine wpAnyH_ready (rs := [16]) (by kernel_rfl) (by simp) ?_
          refine AllReadyH.cons rfl (fun K hK => ?_) AllReadyH.nil
          rw [if_pos (by kernel_rfl)]
          go_simp
          skip
          first | refine hK.out _ _ ?_ (fun hHeld => ?_) | (go_wp2_with fail; refine hK.out _ _ ?_ (fun hHeld => ?_))
          · try dsimp only
            exact HS2.out _ K13.out _
          clear hK K
          try simp only [Act.put, List.getElem_toArray, List.getElem_cons_zero, List.getElem_cons_succ, List.setIfInBounds_toArray, List.set_cons_zero, List.set_cons_succ]
          refine wpAnyH_done (by kernel_rfl) ?_ _
          exact ⟨w13, K13.out, rfl⟩
      rintro a wx ⟨w13, hb13, rfl⟩
      obtain ⟨hno, hx, hon, e1, e2, e3⟩ := HR.out
      obtain ⟨hrl, hrf, hP1, hsn, htt⟩ := HRR.out
      have hx13 := (hx.below hb13).setTX hrl (relend xb was is tt)
      have hsz := HSZ.out
      have l5 := HL5.out
      have l6 := HL6.out
      have eP : lendP was is S.P (pre ++ [x]) = putP P1 rf ⟨(P1 rf).st, (P1 rf).tr, (relend xb was is tt).a, (relend xb was is tt).n, (relend xb was is tt).s, (P1 rf).en⟩ := by
        rw [hsn]
        unfold lendP1
        rw [hrf, Int.toNat_natCast, if_pos HQ.out, ← htt, ← HXB.out]
        rfl
      have hg := hb13.size
      have hgr : Grow W' (w13.setCells vb (rf * 6 + 2) (tlyS.f (relend xb was is tt))) := (Grow.of_below hb13).trans (setCells_grow _ _ _)
      have hoff : ∀ k, k ≠ vb → k < W'.heap.size → (w13.setCells vb (rf * 6 + 2) (tlyS.f (relend xb was is tt))).heap[k]? = W'.heap[k]? := fun k hk hl => (setCells_off hk _ _ _).trans (hb13.block k hl)
      refine ⟨Φi, fun k h => .inl h, ⟨hgr, fun k hk h1 h2 => hoff k h1 hk⟩, hno, ?_, hon.trans (Φ' := fun _ => False) ⟨hgr, fun k hk h1 h2 => hoff k h1 hk⟩ (fun k h => h.elim), (hoff _ (by omega) (by omega)).trans e1, (hoff _ (by omega) (by omega)).trans e2, (hoff _ (by omega) (by omega)).trans e3, Nat.le_trans hsz hgr.size⟩
      rw [eP]
      exact hx13
    · have q' : ((P1 rf).st == 1) = false := by simpa using q
      rw [q'] at HO
      have HQ := Lib.hid q
      clear q q'
      gi_wp2_with (first
        | (gi_at_call 43; refine (CallsIn.inRound _ (callsIn_wide.2 HP.out)).mono ?_; rintro e wx ⟨rfl, hwx⟩; rw [hwx]; clear hwx wx)
        | (refine ⟨trivial, ?_⟩; gi_at_call 43; refine (CallsIn.inRound _ (callsIn_wide.2 HP.out)).mono ?_; rintro e wx ⟨rfl, hwx⟩; rw [hwx]; clear hwx wx)
        | (gi_at_call 44; refine (CallsIn.inRound _ (callsIn_wide.2 HO.out)).mono ?_; rintro e wx ⟨rfl, hwx⟩; rw [hwx]; clear hwx wx)
        | (refine ⟨trivial, ?_⟩; gi_at_call 44; refine (CallsIn.inRound _ (callsIn_wide.2 HO.out)).mono ?_; rintro e wx ⟨rfl, hwx⟩; rw [hwx]; clear hwx wx)
        | fail)
      obtain ⟨hno, hx, hon, e1, e2, e3⟩ := HR.out
      obtain ⟨hrl, hrf, hP1, hsn, htt⟩ := HRR.out
      have eP : lendP was is S.P (pre ++ [x]) = P1 := by
        rw [hsn]
        unfold lendP1
        rw [hrf, Int.toNat_natCast, if_neg HQ.out]
      refine ⟨Φi, fun k h => .inl h, Only.refl _ _ _, hno, ?_, hon, e1, e2, e3, HSZ.out⟩
      rw [eP]
      exact hx
  case done =>
    rintro D Φ W3 ⟨hno, hx, hon, e1, e2, e3, hsz⟩ hon2 hD hnD hK
    have HD := Lib.hid (And.intro hx (And.intro hon (And.intro hD hK)))
    clear hno hx hon e1 e2 e3 hon2 hD hK hnD hGl hF6
    gi_wp2_with fail
    obtain ⟨hx, hon, hD, hK⟩ := HD.out
    obtain ⟨hX5, hF5, ho5, -⟩ := HX5.out
    obtain ⟨hb04, -⟩ := H4.out
    obtain ⟨-, -, -, -, -, hb6⟩ := H6x.out
    have l5 := HL5.out
    have l6 := HL6.out
    have hvF : F vb := HH.out.1.own
    have ho04 : Only F (fun _ => False) w w5 := only_trans (Only.of_later hb04) (only_trans (Only.of_later (Below.refl _ w4).drew) ho5)
    have hoW : Only F (fun _ => False) w W3 := only_trans ho04 (only_trans (Only.of_later hb6) ⟨hon.grow, fun k hk h1 h2 => hon.block k hk (fun e => h1 (by rw [e]; exact hvF)) h2⟩)
    have hlD : ∀ k, F5 k → k ≠ D := fun k hk e => by have := hX5.lt hk; omega
    refine marks_leave [D] W3 (by simp) (fun d hd => ?_) (fun w' hg hk => ⟨_, results_none rfl _ _ _, rfl, ?_⟩)
    · simp only [List.mem_cons, List.not_mem_nil, or_false] at hd
      subst hd; exact hK
    · refine ⟨F5, hx.keep hg (fun k hk' => hk k (by simp; exact hlD k hk')), fun k hk' => (hF5 k hk').imp id (fun h => ?_), ⟨hoW.grow.trans hg, fun k hk' h1 h2 => (hk k (by simp; omega)).trans (hoW.block k hk' h1 h2)⟩⟩
      have h : w4.heap.size ≤ k := h
      have := hb04.size
      omega
end Go.Proofs.YtlnjcfgihklppaaGreat
end

section
namespace Go.Proofs.YtlnjcfgihklppaaGreat
open Go.RowKit Go.Maps Go.Shelf
set_option linter.unusedVariables false
set_option linter.unusedSimpArgs false

def wonB (st : Int) (x : Bal) : Bool := if x.k = 1 then (if x.aye then st == 2 else st == 3) else false
set_option maxRecDepth 100000 in
theorem VoX.won {vb N : Nat} {S : Vs} {F : FP} {w : World} (h : VoX vb N S F w) {k : Nat} (hk : k < 12) (x : Bal) :
    Calls Tryz.prog 58 #[.pointer (some ⟨vb, k * 6, none⟩), .agg (balS.f x).toArray] w fun e w' => e = .returned (.bool (wonB (S.P k).st x)) ∧ Below w.heap.size w w' := by
  obtain ⟨xk, xy, xl, xa, xn, xs⟩ := x
  obtain ⟨w1, hw1⟩ : ∃ w1, w1 = w.alloc (.cells #[.int .i64 xk, .bool xy, .int .i64 xl, .int .i64 xa, .int .i64 xn, .int .i64 xs] 23) := ⟨_, rfl⟩
  have hb1 : Below w.heap.size w w1 := by rw [hw1]; exact (Below.refl _ w).alloc (Nat.le_refl _) _
  have c0 := ((h.below hb1).cells hk).1
  have hr : w1.rangeAt w.heap.size 0 (balS.f ⟨xk, xy, xl, xa, xn, xs⟩) := by rw [hw1]; exact rangeAt_whole (T := balS.T) (World.alloc_heap_new _ _)
  have d0 : w1.cell? ⟨w.heap.size, 0, none⟩ = some (.int .i64 xk) := hr 0 _ rfl
  have d1 : w1.cell? ⟨w.heap.size, 1, none⟩ = some (.bool xy) := hr 1 _ rfl
  obtain ⟨st, hst⟩ : ∃ st, st = (S.P k).st := ⟨_, rfl⟩
  rw [← hst] at c0 ⊢
  rw [show (balS.f ⟨xk, xy, xl, xa, xn, xs⟩).toArray = #[.int .i64 xk, .bool xy, .int .i64 xl, .int .i64 xa, .int .i64 xn, .int .i64 xs] from rfl]
  have HB := Lib.hid hb1
  have HW := Lib.hid hw1
  clear hr hst h hb1
  go_enter Tryz.func58, Tryz.ntmps58
  go_upto_region 1 with fail
  rw [← HW.out]
  clear hw1
  by_cases q : xk = 1
  · have q' : (xk != 1) = false := by simp [q]
    have HQ := Lib.hid q
    clear q
    cases xy
    · go_wp2_with fail
      exact bodyPost_ret (v := .bool (st == 3)) (by simp [results, Tryz.results58, go_sem]) rfl ⟨by simp [wonB, HQ.out], HB.out⟩
    · go_wp2_with fail
      exact bodyPost_ret (v := .bool (st == 2)) (by simp [results, Tryz.results58, go_sem]) rfl ⟨by simp [wonB, HQ.out], HB.out⟩
  · have q' : (xk != 1) = true := by simpa using q
    have HQ := Lib.hid q
    clear q
    go_wp2_with fail
    exact bodyPost_ret (v := .bool false) (by simp [results, Tryz.results58, go_sem]) rfl ⟨by simp [wonB, HQ.out], HB.out⟩
/-- Open's answer. -/
def openE (P : Nat → Pl) (r t : Int) : Int := if ¬ (0 ≤ r ∧ r < 12) ∨ ¬ (0 ≤ t ∧ t < 4) then 1 else if (P r.toNat).st ≠ 0 then 5 else 0
def newPl (t : Int) : Pl := ⟨1, t, 0, 0, 0, 0⟩
def openS (S : Vs) (r t : Int) : Vs := if openE S.P r t = 0 then { S with P := putP S.P r.toNat (newPl t) } else S
def storePl (a v : Value) : Sem Unit := Instr.storeAt 86 a v
theorem storePl_hide (a v : Value) : Instr.storeAt 86 a v = storePl a v := rfl
theorem run_storePl {w : World} {b k : Nat} (h : w.there b k 6) (p : Pl) : (storePl (.pointer (some ⟨b, k, none⟩)) (.agg (plc p).toArray)).run Tryz.prog w = .ok () (w.setCells b k (plc p)) :=
  run_storeAt_mid w b k 86 (plc p).toArray h (by kernel_rfl) (by simp [plc, Value.oneCell'])
set_option maxRecDepth 100000 in
attribute [local go_sem ↓] storePl_hide in
theorem VoX.Open {vb N : Nat} {S : Vs} {F : FP} {w : World} (h : VoX vb N S F w) (r t : Int) :
    Calls Tryz.prog 17 #[.pointer (some ⟨vb, 0, none⟩), .int .i64 r, .int .i64 t] w fun e w' => e = .returned (.int .i64 (openE S.P r t)) ∧ VoTo vb N (openS S r t) F w w' := by
  have hp := h.poll r
  by_cases hr : 0 ≤ r ∧ r < 12
  · have hr' : decide (0 ≤ r ∧ r < 12) = true := decide_eq_true hr
    by_cases ht : 0 ≤ t ∧ t < 4
    · have ht' : decide (0 ≤ t ∧ t < 4) = true := decide_eq_true ht
      obtain ⟨k, rfl⟩ := Int.eq_ofNat_of_zero_le hr.1
      have hk : k < 12 := by omega
      by_cases hst : (S.P k).st = 0
      · have eP : plPtr vb S.P (k : Int) = none := by unfold plPtr; rw [if_neg (fun h => h.2 (by simpa using hst))]
        have eE : openE S.P k t = 0 := by unfold openE; rw [if_neg (fun q => q.elim (fun q => q hr) (fun q => q ht)), if_neg (by simpa using hst)]
        have eS : openS S k t = { S with P := putP S.P k (newPl t) } := by unfold openS; rw [if_pos eE]; rfl
        rw [eP] at hp
        rw [eE, eS]
        have hth := (h.cells hk).2.2.2.2.2.2
        have rs := run_storePl hth (newPl t)
        have hto := h.setP hk (newPl t)
        have hkI : (k : Int) < 12 := by omega
        have hk0 : ¬ (k : Int) < 0 := by omega
        have HR := Lib.hid hr'
        have HT := Lib.hid ht'
        have HP := Lib.hid hp
        have HTO := Lib.hid hto
        unfold plc newPl at rs
        have HRS := Lib.hid rs
        clear hr hr' ht ht' hp hth hto eP eE eS hst h
        go_enter Tryz.func17, Tryz.ntmps17
        go_wp2_with (first
          | (go_at_call 41; refine (bound_Below _ _ _).mono ?_; rw [HR.out]; rintro e w' ⟨rfl, hw⟩; rw [hw]; clear hw w')
          | (go_at_call 42; refine (voting_isTrack _ _).mono ?_; rw [HT.out]; rintro e w' ⟨rfl, hw⟩; rw [hw]; clear hw w')
          | (go_at_call 43; refine HP.out.mono ?_; rintro e w' ⟨rfl, hw⟩; rw [hw]; clear hw w')
          | fail)
        exact bodyPost_ret (v := .int .i64 0) (by simp [results, Tryz.results17, go_sem]) rfl ⟨rfl, HTO.out⟩
      · have eP : plPtr vb S.P (k : Int) = some ⟨vb, k * 6, none⟩ := by unfold plPtr; rw [if_pos ⟨hr, by simpa using hst⟩]; simp
        have eE : openE S.P k t = 5 := by unfold openE; rw [if_neg (fun q => q.elim (fun q => q hr) (fun q => q ht)), if_pos (by simpa using hst)]
        have eS : openS S k t = S := by unfold openS; rw [if_neg (by rw [eE]; decide)]
        rw [eP] at hp
        rw [eE, eS]
        have HR := Lib.hid hr'
        have HT := Lib.hid ht'
        have HP := Lib.hid hp
        have HTO := Lib.hid h
        clear hr hr' ht ht' hp eP eE eS hst h
        go_enter Tryz.func17, Tryz.ntmps17
        go_wp2_with (first
          | (go_at_call 41; refine (bound_Below _ _ _).mono ?_; rw [HR.out]; rintro e w' ⟨rfl, hw⟩; rw [hw]; clear hw w')
          | (go_at_call 42; refine (voting_isTrack _ _).mono ?_; rw [HT.out]; rintro e w' ⟨rfl, hw⟩; rw [hw]; clear hw w')
          | (go_at_call 43; refine HP.out.mono ?_; rintro e w' ⟨rfl, hw⟩; rw [hw]; clear hw w')
          | fail)
        exact bodyPost_ret (v := .int .i64 5) (by simp [results, Tryz.results17, go_sem]) rfl ⟨rfl, VoTo.refl HTO.out⟩
    · have ht' : decide (0 ≤ t ∧ t < 4) = false := decide_eq_false ht
      have eE : openE S.P r t = 1 := by unfold openE; rw [if_pos (.inr ht)]
      have eS : openS S r t = S := by unfold openS; rw [if_neg (by rw [eE]; decide)]
      rw [eE, eS]
      have HR := Lib.hid hr'
      have HT := Lib.hid ht'
      have HTO := Lib.hid h
      clear hr hr' ht ht' hp eE eS h
      go_enter Tryz.func17, Tryz.ntmps17
      go_wp2_with (first
        | (go_at_call 41; refine (bound_Below _ _ _).mono ?_; rw [HR.out]; rintro e w' ⟨rfl, hw⟩; rw [hw]; clear hw w')
        | (go_at_call 42; refine (voting_isTrack _ _).mono ?_; rw [HT.out]; rintro e w' ⟨rfl, hw⟩; rw [hw]; clear hw w')
        | fail)
      exact bodyPost_ret (v := .int .i64 1) (by simp [results, Tryz.results17, go_sem]) rfl ⟨rfl, VoTo.refl HTO.out⟩
  · have hr' : decide (0 ≤ r ∧ r < 12) = false := decide_eq_false hr
    have eE : openE S.P r t = 1 := by unfold openE; rw [if_pos (.inl hr)]
    have eS : openS S r t = S := by unfold openS; rw [if_neg (by rw [eE]; decide)]
    rw [eE, eS]
    have HR := Lib.hid hr'
    have HTO := Lib.hid h
    clear hr hr' hp eE eS h
    go_enter Tryz.func17, Tryz.ntmps17
    go_wp2_with (first
      | (go_at_call 41; refine (bound_Below _ _ _).mono ?_; rw [HR.out]; rintro e w' ⟨rfl, hw⟩; rw [hw]; clear hw w')
      | fail)
    exact bodyPost_ret (v := .int .i64 1) (by simp [results, Tryz.results17, go_sem]) rfl ⟨rfl, VoTo.refl HTO.out⟩
/-- Close's answer. -/
def closeE (P : Nat → Pl) (r st : Int) : Int := if ¬ ((0 ≤ r ∧ r < 12) ∧ (P r.toNat).st ≠ 0) then 4 else if (P r.toNat).st ≠ 1 then 9 else if ¬ (2 ≤ st ∧ st ≤ 6) then 1 else 0
def closeS (S : Vs) (r st en : Int) : Vs := if closeE S.P r st = 0 then { S with P := putP S.P r.toNat ⟨st, (S.P r.toNat).tr, (S.P r.toNat).ay, (S.P r.toNat).na, (S.P r.toNat).su, en⟩ } else S
theorem VoX.setE {vb N : Nat} {S : Vs} {F : FP} {w : World} (h : VoX vb N S F w) {k : Nat} (hk : k < 12) (st en : Int) : VoTo vb N { S with P := putP S.P k ⟨st, (S.P k).tr, (S.P k).ay, (S.P k).na, (S.P k).su, en⟩ } F w ((w.setCell ⟨vb, k * 6, none⟩ (.int .i64 st)).setCell ⟨vb, k * 6 + 5, none⟩ (.int .i64 en)) := by
  obtain ⟨gv, gd, gw, gp, FV, FD, FW, FQ, h1, h2⟩ := h
  have hg : Grow w ((w.setCell ⟨vb, k * 6, none⟩ (.int .i64 st)).setCell ⟨vb, k * 6 + 5, none⟩ (.int .i64 en)) := ⟨rfl, rfl, rfl, by simp [World.setCell]⟩
  have ho : ∀ i, i ≠ vb → ((w.setCell ⟨vb, k * 6, none⟩ (.int .i64 st)).setCell ⟨vb, k * 6 + 5, none⟩ (.int .i64 en)).heap[i]? = w.heap[i]? := fun i hi => (Below.heap_setCell _ _ _ i hi).trans (Below.heap_setCell _ _ _ i hi)
  have b1 := h1.blk.set' hk (j := 0) (by omega) (u := .int .i64 st) (p' := ⟨st, (S.P k).tr, (S.P k).ay, (S.P k).na, (S.P k).su, (S.P k).en⟩) rfl
  have b2 := b1.set' hk (j := 5) (by omega) (u := .int .i64 en) (p' := ⟨st, (S.P k).tr, (S.P k).ay, (S.P k).na, (S.P k).su, en⟩) (by rw [putP_same]; rfl)
  rw [putP_putP] at b2
  refine ⟨F, ⟨gv, gd, gw, gp, FV, FD, FW, FQ, ⟨b2, h1.v.keep hg (fun i hi => ho i (fun e => h1.off.b.1 (e ▸ hi))), h1.d.keep hg (fun i hi => ho i (fun e => h1.off.b.2.1 (e ▸ hi))), h1.g.keep hg (fun i hi => ho i (fun e => h1.off.b.2.2.1 (e ▸ hi))), h1.q.keep hg (fun i hi => ho i (fun e => h1.off.b.2.2.2 (e ▸ hi))), h1.off⟩, h2⟩, fun k hk => .inl hk, hg, fun i hi h3 h4 => ho i (fun e => h3 ((h2 i).2 (.inl e)))⟩
set_option maxRecDepth 100000 in
theorem VoX.Close {vb N : Nat} {S : Vs} {F : FP} {w : World} (h : VoX vb N S F w) (r st en : Int) :
    Calls Tryz.prog 18 #[.pointer (some ⟨vb, 0, none⟩), .int .i64 r, .int .i64 st, .int .i64 en] w fun e w' => e = .returned (.int .i64 (closeE S.P r st)) ∧ VoTo vb N (closeS S r st en) F w w' := by
  have hp := h.poll r
  by_cases hr : (0 ≤ r ∧ r < 12) ∧ (S.P r.toNat).st ≠ 0
  · obtain ⟨k, rfl⟩ := Int.eq_ofNat_of_zero_le hr.1.1
    have hk : k < 12 := by omega
    have eP : plPtr vb S.P (k : Int) = some ⟨vb, k * 6, none⟩ := by unfold plPtr; rw [if_pos hr]; simp
    rw [eP] at hp
    have ho := h.open hk
    rw [Int.toNat_natCast] at hr
    by_cases h1 : (S.P k).st = 1
    · have h1' : ((S.P k).st == 1) = true := by simpa using h1
      rw [h1'] at ho
      by_cases h2 : 2 ≤ st ∧ st ≤ 6
      · have h2' : withinB st 2 6 = true := by simpa [withinB] using h2
        have eE : closeE S.P k st = 0 := by unfold closeE; rw [Int.toNat_natCast, if_neg (fun q => q hr), if_neg (fun q => q h1), if_neg (fun q => q h2)]
        have eS : closeS S k st en = { S with P := putP S.P k ⟨st, (S.P k).tr, (S.P k).ay, (S.P k).na, (S.P k).su, en⟩ } := by unfold closeS; rw [if_pos eE]; rfl
        rw [eE, eS]
        have hto := h.setE hk st en
        obtain ⟨c0, -, c5, hfr, -⟩ := h.cells hk
        have f0 := hfr (k * 6)
        have f5 := hfr (k * 6 + 5)
        have HP := Lib.hid hp
        have HO := Lib.hid ho
        have H2 := Lib.hid h2'
        have HTO := Lib.hid hto
        clear hp ho h2 h2' hto hr h1 h1' eE eS eP h hfr
        go_enter Tryz.func18, Tryz.ntmps18
        go_wp2_with (first
          | (go_at_call 43; refine HP.out.mono ?_; rintro e w' ⟨rfl, hw⟩; rw [hw]; clear hw w')
          | (go_at_call 44; refine HO.out.mono ?_; rintro e w' ⟨rfl, hw⟩; rw [hw]; clear hw w')
          | (go_at_call 45; refine (cvWithin _ _ _ _).mono ?_; rw [H2.out]; rintro e w' ⟨rfl, hw⟩; rw [← hw]; clear hw w')
          | fail)
        exact bodyPost_ret (v := .int .i64 0) (by simp [results, Tryz.results18, go_sem]) rfl ⟨rfl, HTO.out⟩
      · have h2' : withinB st 2 6 = false := by simp only [withinB]; by_cases q : 2 ≤ st <;> simp [q] <;> omega
        have eE : closeE S.P k st = 1 := by unfold closeE; rw [Int.toNat_natCast, if_neg (fun q => q hr), if_neg (fun q => q h1), if_pos h2]
        have eS : closeS S k st en = S := by unfold closeS; rw [if_neg (by rw [eE]; decide)]
        rw [eE, eS]
        have HP := Lib.hid hp
        have HO := Lib.hid ho
        have H2 := Lib.hid h2'
        have HTO := Lib.hid h
        clear hp ho h2 h2' hr h1 h1' eE eS eP h
        go_enter Tryz.func18, Tryz.ntmps18
        go_wp2_with (first
          | (go_at_call 43; refine HP.out.mono ?_; rintro e w' ⟨rfl, hw⟩; rw [hw]; clear hw w')
          | (go_at_call 44; refine HO.out.mono ?_; rintro e w' ⟨rfl, hw⟩; rw [hw]; clear hw w')
          | (go_at_call 45; refine (cvWithin _ _ _ _).mono ?_; rw [H2.out]; rintro e w' ⟨rfl, hw⟩; rw [← hw]; clear hw w')
          | fail)
        exact bodyPost_ret (v := .int .i64 1) (by simp [results, Tryz.results18, go_sem]) rfl ⟨rfl, VoTo.refl HTO.out⟩
    · have h1' : ((S.P k).st == 1) = false := by simpa using h1
      rw [h1'] at ho
      have eE : closeE S.P k st = 9 := by unfold closeE; rw [Int.toNat_natCast, if_neg (fun q => q hr), if_pos h1]
      have eS : closeS S k st en = S := by unfold closeS; rw [if_neg (by rw [eE]; decide)]
      rw [eE, eS]
      have HP := Lib.hid hp
      have HO := Lib.hid ho
      have HTO := Lib.hid h
      clear hp ho hr h1 h1' eE eS eP h
      go_enter Tryz.func18, Tryz.ntmps18
      go_wp2_with (first
        | (go_at_call 43; refine HP.out.mono ?_; rintro e w' ⟨rfl, hw⟩; rw [hw]; clear hw w')
        | (go_at_call 44; refine HO.out.mono ?_; rintro e w' ⟨rfl, hw⟩; rw [hw]; clear hw w')
        | fail)
      exact bodyPost_ret (v := .int .i64 9) (by simp [results, Tryz.results18, go_sem]) rfl ⟨rfl, VoTo.refl HTO.out⟩
  · have eP : plPtr vb S.P r = none := by unfold plPtr; rw [if_neg hr]
    rw [eP] at hp
    have eE : closeE S.P r st = 4 := by unfold closeE; rw [if_pos hr]
    have eS : closeS S r st en = S := by unfold closeS; rw [if_neg (by rw [eE]; decide)]
    rw [eE, eS]
    have HP := Lib.hid hp
    have HTO := Lib.hid h
    clear hp hr eE eS eP h
    go_enter Tryz.func18, Tryz.ntmps18
    go_wp2_with (first
      | (go_at_call 43; refine HP.out.mono ?_; rintro e w' ⟨rfl, hw⟩; rw [hw]; clear hw w')
      | fail)
    exact bodyPost_ret (v := .int .i64 4) (by simp [results, Tryz.results18, go_sem]) rfl ⟨rfl, VoTo.refl HTO.out⟩
/-- Votes: what ballots tells now. -/
theorem VoX.Votes {vb N : Nat} {S : Vs} {F : FP} {w : World} (h : VoX vb N S F w) (hlen : S.V.length ≤ 100000) {a : Int} (ha : (Lit.int .i64 a).wf = true) (hrf : ∀ x ∈ rowOf S.V a, 0 ≤ x.1 ∧ x.1 < 12) (t : Int) :
    Calls Tryz.prog 40 #[.pointer (some ⟨vb, 0, none⟩), .int .i64 a, .int .i64 t] w fun e w' => ∃ bx v, e = .returned (.func (.func 97) #[] #[.pointer (some ⟨bx, 0, none⟩)]) ∧ Boxed w' bx 175 v ∧ OwnR pair_V (bx + 1) v (ballots S a t) w' ∧ w.heap.size ≤ bx ∧ Below w.heap.size w w' := by
  have hbal := h.balWay hlen ha hrf t
  have hll : (ballots S a t).length ≤ 1000000 := Nat.le_trans (tbal_length _ _ _) (Nat.le_trans (row_length _ _) (by omega))
  obtain ⟨xs, hxs⟩ : ∃ xs, xs = ballots S a t := ⟨_, rfl⟩
  unfold BalWay at hbal
  rw [← hxs] at hbal hll ⊢
  have HB := Lib.hid hbal
  have HL := Lib.hid (And.intro hll (show ∀ k, F k → k < w.heap.size from fun k hk => h.lt hk))
  clear hbal hll hxs h hlen ha hrf
  go_enter Tryz.func40, Tryz.ntmps40
  go_wp2_with (first
    | (go_at_call 66; refine HB.out.mono ?_; rintro e w1 ⟨rfl, hb, hs1, -, hit⟩; have H1 := Lib.hid (And.intro hit (And.intro hb hs1)); clear hit hb hs1)
    | (go_at_call 76; refine (still_Now_V _ _ xs w1 enters_ballots1 ((H1.out.1 0).later (Grow.refl _) (fun k hk => ⟨by rcases hk with h | h; (have := HL.out.2 k h; have := H1.out.2.2; omega); (have := H1.out.2.2; omega), rfl⟩) (fun k hk => by rcases hk with h | h; (have := HL.out.2 k h; have := H1.out.2.2; show k < w1.heap.size; omega); (have := H1.out.2.2; show k < w1.heap.size; omega))) HL.out.1).mono ?_; rintro e w2 ⟨v, rfl, hbx, ho, hb⟩; have H2 := Lib.hid (And.intro hbx (And.intro ho hb)); clear hbx ho hb)
    | fail)
  go_ret
  exact ⟨_, v, rfl, H2.out.1, H2.out.2.1, H1.out.2.1.size, H1.out.2.1.trans (H2.out.2.2.mono H1.out.2.1.size)⟩
end Go.Proofs.YtlnjcfgihklppaaGreat
end
