/-
  ConvBack: the walk.
-/
import Derived.Test.YtgoomkailpnjaaaTal5
import Derived.Deep.RegionHeld3
import Derived.StillTailTactics
namespace Go.Proofs.Ytgoomkailpnjaaa
open Go.RowKit
set_option linter.unusedVariables false

theorem OwnT.of {S S' : Nat} {v : Value} {l : List Tal} {w w' : World} (h : OwnT S v l w) (hS : S' ≤ S) (hk : ∀ k, v.ownBlock = some k → w'.heap[k]? = w.heap[k]?) : OwnT S' v l w' := by
  refine ⟨h.1, ?_⟩
  rcases h.2 with h | ⟨g, cap, cur, h1, h2, h3, h4⟩
  · exact .inl h
  · exact .inr ⟨g, cap, cur, h1, Nat.le_trans hS h2, (hk g (by rw [h1]; rfl)).trans h3, h4⟩

/-- A tally's box and a tally in a slice. -/
structure LB (c blk o : Nat) (s q : Tal) (w : World) : Prop where
  t : TB w c s
  b : blk < w.heap.size
  q1 : w.cell? ⟨blk, o, none⟩ = some (.int .i64 q.a)
  q2 : w.cell? ⟨blk, o + 1, none⟩ = some (.int .i64 q.n)
  q3 : w.cell? ⟨blk, o + 2, none⟩ = some (.int .i64 q.s)
theorem LB.below {c blk o : Nat} {s q : Tal} {w w' : World} (h : LB c blk o s q w) (hb : Below w.heap.size w w') : LB c blk o s q w' :=
  ⟨h.t.keep hb h.t.lt, Nat.lt_of_lt_of_le h.b hb.size, (hb.cell (p := ⟨blk, _, none⟩) h.b).trans h.q1, (hb.cell (p := ⟨blk, _, none⟩) h.b).trans h.q2, (hb.cell (p := ⟨blk, _, none⟩) h.b).trans h.q3⟩
theorem LB.drew {c blk o : Nat} {s q : Tal} {w : World} (h : LB c blk o s q w) : LB c blk o s q w.drew := ⟨h.t, h.b, h.q1, h.q2, h.q3⟩
theorem LB.all {c blk o : Nat} {s q : Tal} {w : World} (h : LB c blk o s q w) : w.cell? ⟨c, 0, none⟩ = some (.int .i64 s.a) ∧ w.cell? ⟨c, 1, none⟩ = some (.int .i64 s.n) ∧ w.cell? ⟨c, 2, none⟩ = some (.int .i64 s.s) ∧ w.frozen? ⟨c, 0, none⟩ = false ∧ w.frozen? ⟨c, 1, none⟩ = false ∧ w.frozen? ⟨c, 2, none⟩ = false ∧
    w.cell? ⟨blk, o, none⟩ = some (.int .i64 q.a) ∧ w.cell? ⟨blk, o + 1, none⟩ = some (.int .i64 q.n) ∧ w.cell? ⟨blk, o + 2, none⟩ = some (.int .i64 q.s) :=
  ⟨h.t.c.1, h.t.c.2.1, h.t.c.2.2, h.t.frozen 0, h.t.frozen 1, h.t.frozen 2, h.q1, h.q2, h.q3⟩

/-- The first loop's invariant. -/
structure BI (w : World) (c : Nat) (t : Tal) (l : List Tal) (j : Nat) (b : Value) (wr : World) : Prop where
  own : OwnT (c + 1) b (l.take j).reverse wr
  t2 : TB wr w.heap.size t
  t5 : TB wr c (Tal.sum t (l.take j))
  old : Below w.heap.size w wr
  lt : w.heap.size < c
  sm : ∀ k, k < j → smallB (l.getD k Tal.zero) = true

theorem sum_small {t : Tal} {l : List Tal} (ht : smallB t = true) {m : Nat} (hm : m ≤ l.length) (hl : m ≤ 61) (h : ∀ k, k < m → smallB (l.getD k Tal.zero) = true) : ∀ j, j ≤ m → (Tal.sum t (l.take j)).In := by
  have key : ∀ j, j ≤ m → (0 ≤ (Tal.sum t (l.take j)).a ∧ (Tal.sum t (l.take j)).a ≤ 1099511627776 * (j + 1)) ∧ (0 ≤ (Tal.sum t (l.take j)).n ∧ (Tal.sum t (l.take j)).n ≤ 1099511627776 * (j + 1)) ∧ (0 ≤ (Tal.sum t (l.take j)).s ∧ (Tal.sum t (l.take j)).s ≤ 1099511627776 * (j + 1)) := by
    intro j
    induction j with
    | zero =>
      intro _
      have := smallB_out ht
      simp only [List.take_zero]
      show (0 ≤ t.a ∧ t.a ≤ _) ∧ (0 ≤ t.n ∧ t.n ≤ _) ∧ (0 ≤ t.s ∧ t.s ≤ _)
      omega
    | succ j ih =>
      intro hj
      have i1 := ih (by omega)
      have s1 := smallB_out (h j (by omega))
      rw [Tal.take_sum (by omega)]
      simp only [Tal.add]
      omega
  intro j hj
  have := key j hj
  unfold Tal.In
  omega
theorem small_snoc {l : List Tal} {j : Nat} (h : ∀ k, k < j → smallB (l.getD k Tal.zero) = true) (hj : smallB (l.getD j Tal.zero) = true) : ∀ k, k < j + 1 → smallB (l.getD k Tal.zero) = true := by
  intro k hk
  by_cases e : k = j
  · rw [e]; exact hj
  · exact h k (by omega)
theorem OwnT.one' {w : World} {b : Nat} {x : Tal} (hb : b = w.heap.size) : OwnT b (.slice (some ⟨b, 0, none⟩) 1 1) [x] (w.alloc (.cells #[.int .i64 x.a, .int .i64 x.n, .int .i64 x.s] 33)) := by
  subst hb; exact OwnT.one w x

abbrev litT (x : Tal) : Obj := .cells #[.int .i64 x.a, .int .i64 x.n, .int .i64 x.s] 33
abbrev putT (w : World) (c : Nat) (x : Tal) : World := ((w.setCell ⟨c, 0, none⟩ (.int .i64 x.a)).setCell ⟨c, 1, none⟩ (.int .i64 x.n)).setCell ⟨c, 2, none⟩ (.int .i64 x.s)
theorem putT_size {w : World} {c : Nat} {x : Tal} : (putT w c x).heap.size = w.heap.size := by simp [putT]
theorem putT_below {N : Nat} {w0 w : World} {c : Nat} {x : Tal} (h : Below N w0 w) (hc : N ≤ c) : Below N w0 (putT w c x) := ((h.setCell hc _).setCell hc _).setCell hc _
theorem set_other {w : World} {k : Nat} {a : Addr} {v : Value} (h : k ≠ a.block) : (w.setCell a v).heap[k]? = w.heap[k]? := by
  show (w.heap.modify a.block _)[k]? = _
  rw [Array.getElem?_modify, if_neg (fun e => h e.symm)]
theorem putT_other {w : World} {c k : Nat} {x : Tal} (h : k ≠ c) : (putT w c x).heap[k]? = w.heap[k]? := by
  exact (set_other h).trans ((set_other h).trans (set_other h))

theorem BI.back {w : World} {c : Nat} {t : Tal} {l : List Tal} {j : Nat} {b : Value} {wr wB : World} {x q : Tal} (hI : BI w c t l j b wr) (hB : Below wr.heap.size wr wB) : RdT ((putT wB c x).alloc (litT q)) b (l.take j).reverse := by
  refine OwnT.reads (OwnT.of hI.own (Nat.le_refl _) (fun k hk => ?_))
  obtain ⟨h1, h2⟩ := World.ownsRow.lt hI.own k hk
  exact (Below.heap_alloc _ _ _ (by rw [putT_size]; have := hB.size; omega)).trans ((putT_other (by omega)).trans (hB.block k h2))

theorem BI.step {w : World} {c : Nat} {t : Tal} {l : List Tal} {j : Nat} {b v' : Value} {wr wB w' : World} {s q : Tal} (hI : BI w c t l j b wr) (hB : Below wr.heap.size wr wB) (hr : (l.take (j + 1)).reverse = q :: (l.take j).reverse) (hs : Tal.sum t (l.take (j + 1)) = s.add q)
    (hsm : ∀ k, k < j + 1 → smallB (l.getD k Tal.zero) = true) (hown : OwnT wB.heap.size v' ([q] ++ (l.take j).reverse) w') (hg : ((putT wB c (s.add q)).alloc (litT q)).grownBy w' (some wB.heap.size)) : BI w c t l (j + 1) v' w' := by
  have hc := hI.t5.lt
  have hsz := hB.size
  have key : ∀ k, k < wr.heap.size → w'.heap[k]? = (putT wB c (s.add q)).heap[k]? := fun k hk =>
    (hg.block k (by simp; omega) (by simp; omega)).trans (Below.heap_alloc _ _ _ (by rw [putT_size]; omega))
  have hlt := hI.lt
  refine ⟨?_, ?_, ?_, ?_, hI.lt, hsm⟩
  · rw [hr]; exact OwnT.of hown (by omega) (fun _ _ => rfl)
  · exact (key _ (by omega)).trans ((putT_other (by omega)).trans ((hB.block _ (by omega)).trans hI.t2))
  · rw [hs]
    have h5 : TB (putT wB c (s.add q)) c (s.add q) := TB.set (hI.t5.keep hB hc) _
    have k5 := key _ hc
    unfold TB at h5 ⊢
    rw [k5, h5]
  · have h1 : Below w.heap.size w (putT wB c (s.add q)) := putT_below (hI.old.trans (hB.mono hI.old.size)) (Nat.le_of_lt hlt)
    have h2 : Below w.heap.size w ((putT wB c (s.add q)).alloc (litT q)) := h1.alloc h1.size _
    exact h2.grown hg h2.size (fun k hk => by cases hk; have := hI.old.size; omega)

/-- Three tallies' boxes. -/
structure LC (d c e : Nat) (y x t : Tal) (w : World) : Prop where
  b1 : TB w d y
  b2 : TB w c x
  b3 : TB w e t
theorem LC.below {d c e : Nat} {y x t : Tal} {w w' : World} (h : LC d c e y x t w) (hb : Below w.heap.size w w') : LC d c e y x t w' := ⟨h.b1.keep hb h.b1.lt, h.b2.keep hb h.b2.lt, h.b3.keep hb h.b3.lt⟩
theorem LC.drew {d c e : Nat} {y x t : Tal} {w : World} (h : LC d c e y x t w) : LC d c e y x t w.drew := ⟨h.b1, h.b2, h.b3⟩
theorem LC.all {d c e : Nat} {y x t : Tal} {w : World} (h : LC d c e y x t w) : w.cell? ⟨d, 0, none⟩ = some (.int .i64 y.a) ∧ w.cell? ⟨d, 1, none⟩ = some (.int .i64 y.n) ∧ w.cell? ⟨d, 2, none⟩ = some (.int .i64 y.s) ∧ w.cell? ⟨c, 0, none⟩ = some (.int .i64 x.a) ∧ w.cell? ⟨c, 1, none⟩ = some (.int .i64 x.n) ∧ w.cell? ⟨c, 2, none⟩ = some (.int .i64 x.s) ∧ w.cell? ⟨e, 0, none⟩ = some (.int .i64 t.a) ∧ w.cell? ⟨e, 1, none⟩ = some (.int .i64 t.n) ∧ w.cell? ⟨e, 2, none⟩ = some (.int .i64 t.s) :=
  ⟨h.b1.c.1, h.b1.c.2.1, h.b1.c.2.2, h.b2.c.1, h.b2.c.2.1, h.b2.c.2.2, h.b3.c.1, h.b3.c.2.1, h.b3.c.2.2⟩
theorem RdT.none (w : World) : RdT w (.slice none 0 0) [] := .inl ⟨rfl, rfl⟩

theorem drop_sum {t : Tal} {l : List Tal} {j : Nat} (h : j < l.length) : (Tal.sum t (l.drop j)).add (l.getD j Tal.zero).neg = Tal.sum t (l.drop (j + 1)) := by
  have e : l.drop j = l.getD j Tal.zero :: l.drop (j + 1) := by
    rw [List.drop_eq_getElem_cons h]; simp [h]
  have e2 : Tal.sum t (l.getD j Tal.zero :: l.drop (j + 1)) = Tal.sum (t.add (l.getD j Tal.zero)) (l.drop (j + 1)) := rfl
  rw [e, e2, Tal.sum_add]
  generalize Tal.sum t (l.drop (j + 1)) = X
  obtain ⟨a, n, s⟩ := X
  simp only [Tal.add, Tal.neg, Tal.mk.injEq]
  omega
theorem drop_small {t : Tal} {l : List Tal} (ht : smallB t = true) (hl : l.length ≤ 61) (h : ∀ k, k < l.length → smallB (l.getD k Tal.zero) = true) (j : Nat) : (Tal.sum t (l.drop j)).In := by
  have := sum_small (l := l.drop j) ht (m := (l.drop j).length) (Nat.le_refl _) (by simp; omega) (fun k hk => by
    have e : (l.drop j).getD k Tal.zero = l.getD (j + k) Tal.zero := by simp
    rw [e]; exact h _ (by simp at hk; omega)) (l.drop j).length (Nat.le_refl _)
  rwa [List.take_length] at this

set_option maxHeartbeats 4000000 in
theorem convBack_walk (a : Int) (_wa : (Lit.int .i64 a).wf = true) (b : Int) (_wb : (Lit.int .i64 b).wf = true) (c : Int) (_wc : (Lit.int .i64 c).wf = true) (v : Value) (l : List Tal) (w : World) (hr : RdT w v l) (hm : l.length ≤ maxLen) :
    Calls Try.prog 5 #[.agg #[.int .i64 a, .int .i64 b, .int .i64 c], v] w fun e w' => e = .returned (.bool true) ∧ Below w.heap.size w w' := by
  obtain ⟨t, ht⟩ : ∃ t : Tal, t = ⟨a, b, c⟩ := ⟨_, rfl⟩
  have hv : Value.agg #[.int .i64 a, .int .i64 b, .int .i64 c] = talV t := by rw [ht]
  rw [hv]
  clear hv ht _wa _wb _wc
  obtain ⟨ao, cap, rfl⟩ := hr.lenOf
  by_cases h60 : (60 : Int) < (l.length : Int)
  · go_enter Try.func5, Try.ntmps5
    go_wp2
    go_ret
    exact ⟨rfl, (Below.refl _ _).alloc (Nat.le_refl _) _⟩
  by_cases hst : smallB t = true
  rotate_left
  · go_enter Try.func5, Try.ntmps5
    go_wp2_with (first | (go_at_call 30; refine (law_small _ _).mono ?_; rintro e w1 ⟨rfl, hb1⟩; rw [Bool.eq_false_iff.2 hst]; have H1 := Lib.hid hb1; clear hb1) | fail)
    go_ret
    exact ⟨rfl, ((Below.refl _ w).alloc (Nat.le_refl _) _).trans (H1.out.mono (by simp))⟩
  have HR := Lib.hid hr
  clear hr hm
  go_enter Try.func5, Try.ntmps5
  have hl : l.length ≤ 60 := by omega
  go_wp2_with (first | (go_at_call 30; refine (law_small _ _).mono ?_; rintro e w1 ⟨rfl, hb1⟩; rw [hst]; have hB := TB.keep (TB.newAt (w := w) (x := t) (b := w.heap.size) rfl) hb1 (by simp); obtain ⟨s1, s2, s3⟩ := hB.c; have L := hB.lt; have H1 := Lib.hid hb1; have HB1 := Lib.hid hB; clear hb1 hB) | fail)
  go_loopw [6, 7] (fun b' i wr => ∃ j : Nat, j ≤ l.length ∧ i = .int .i64 j ∧ BI w w1.heap.size t l j b' wr) (fun _ i _ => l.length - (intOf i).toNat)
  case atStart =>
    have hb : Below w.heap.size w w1 := ((Below.refl _ w).alloc (Nat.le_refl _) _).trans (H1.out.mono (by simp))
    exact ⟨0, Nat.zero_le _, rfl, ⟨⟨rfl, .inl ⟨rfl, rfl⟩⟩, HB1.out.alloc _, TB.new w1 t, hb.alloc (Nat.le_of_lt L) _, L, fun k hk => by omega⟩⟩
  case round =>
    obtain ⟨j, hj, rfl, hI⟩ := hrel
    by_cases hlt : j < l.length
    · obtain ⟨blk, off, rfl, -, hc, hbl, c1, c2, c3⟩ := HR.out.at hlt
      have hsum := Tal.take_sum (x := t) hlt
      have hsm : (l.take (j + 1)).reverse = l.getD j Tal.zero :: (l.take j).reverse := by
        rw [List.take_succ_eq_append_getElem hlt]; simp [hlt]
      obtain ⟨q, hq⟩ : ∃ q, q = l.getD j Tal.zero := ⟨_, rfl⟩
      obtain ⟨s, hs⟩ : ∃ s, s = Tal.sum t (l.take j) := ⟨_, rfl⟩
      have ht5 := hI.t5
      rw [← hq] at c1 c2 c3 hsum hsm
      rw [← hs] at hsum ht5
      have HSQ := Lib.hid hq
      have HS := Lib.hid hs
      have HSUM := Lib.hid hsum
      have HSM := Lib.hid hsm
      have HI := Lib.hid hI
      have hLB : LB w1.heap.size blk (off + j * 3) s q wr := ⟨ht5, Nat.lt_of_lt_of_le hbl hI.old.size, (hI.old.cell (p := ⟨blk, _, none⟩) hbl).trans c1, (hI.old.cell (p := ⟨blk, _, none⟩) hbl).trans c2, (hI.old.cell (p := ⟨blk, _, none⟩) hbl).trans c3⟩
      obtain ⟨-, -, -, -, -, -, k1, k2, k3⟩ := hLB.all
      have HLB := Lib.hid hLB
      have HBL := Lib.hid hbl
      clear hq hs hsum hsm hI ht5 hLB c1 c2 c3 s1 s2 s3 hbl
      by_cases hsq : smallB q = true
      · go_wp2_with (first | (go_at_call 30; refine (law_small _ _).mono ?_; rintro e wA ⟨rfl, hbA⟩; rw [hsq]; have BA := HLB.out.below hbA; have HA := Lib.hid hbA; clear hbA k1 k2 k3; obtain ⟨g1, g2, g3, g4, g5, g6, k1, k2, k3⟩ := BA.all) | fail)
        have hsj := small_snoc HI.out.sm (by rw [← HSQ.out]; exact hsq)
        have hIn : (s.add q).In := by
          have := sum_small hst (m := j + 1) hlt (by omega) hsj (j + 1) (Nat.le_refl _)
          rwa [HSUM.out] at this
        have HSJ := Lib.hid hsj
        have HIN := Lib.hid hIn
        have hnb : ¬ blk = w1.heap.size := by have := HBL.out; omega
        clear hsj hIn
        have BAD := BA.drew
        have HI2 := Lib.hid HI.out.own
        go_still_tail 5, (by kernel_rfl)
        change wpList _ _ _ _ _ wA.drew
        clear g1 g2 g3 g4 g5 g6 k1 k2 k3
        obtain ⟨wD, hwD⟩ : ∃ wD, wD = wA.drew := ⟨_, rfl⟩
        rw [← hwD] at BAD ⊢
        have hdA : Below wr.heap.size wr wD := by rw [hwD]; exact HA.out.trans ⟨rfl, rfl, rfl, Nat.le_refl _, fun _ _ => rfl⟩
        have HDA := Lib.hid hdA
        clear hwD hdA
        go_wp2_with (first | (go_at_call 31; (with_reducible refine (ref_AddT s q _ HIN.out).mono ?_); rintro e wB ⟨rfl, hbB⟩; have BB := BAD.below hbB; have HB := Lib.hid hbB; clear hbB; obtain ⟨g1, g2, g3, g4, g5, g6, k1, k2, k3⟩ := BB.all) | (at_builtin; refine wp_app_T rfl rfl rfl rfl (xs := [q]) (l := (l.take j).reverse) (B := wB.heap.size) (OwnT.one' (by simp)) ?rd ?len ?base ?_) | fail)
        case rd => exact BI.back (x := s.add q) HI.out (HDA.out.trans (HB.out.mono HDA.out.size))
        case len => simp; omega
        case base => simp
        intro v' w' hown hgrow
        have hN := BI.step HI.out (HDA.out.trans (HB.out.mono HDA.out.size)) HSM.out HSUM.out HSJ.out hown hgrow
        clear hown hgrow g1 g2 g3 g4 g5 g6 k1 k2 k3
        go_wp2
        exact ⟨⟨j + 1, by omega, by go_num, hN⟩, by simp [intOf]; omega⟩
      · go_wp2_with (first | (go_at_call 30; refine (law_small _ _).mono ?_; rintro e wA ⟨rfl, hbA⟩; rw [Bool.eq_false_iff.2 hsq]; have HA := Lib.hid hbA; clear hbA) | fail)
        go_ret
        exact ⟨rfl, HI.out.old.trans (HA.out.mono HI.out.old.size)⟩
    · have hjl : j = l.length := by omega
      subst hjl
      obtain ⟨hown, ht2, ht5, hold, -, hsm⟩ := hI
      rw [List.take_length] at ht5 hown
      have hin := sum_small hst (m := l.length) (Nat.le_refl _) (by omega) hsm
      have hinR : ∀ j, j ≤ l.reverse.length → (Tal.sum t (l.reverse.take j)).In := by
        refine sum_small hst (m := l.reverse.length) (Nat.le_refl _) (by simp; omega) (fun k hk => ?_)
        have hk' : k < l.length := by simpa using hk
        have := hsm (l.length - 1 - k) (by omega)
        have e : l.reverse.getD k Tal.zero = l.getD (l.length - 1 - k) Tal.zero := by
          rw [List.getD_eq_getElem?_getD, List.getElem?_reverse hk']; simp
        rw [e]; exact this
      have hrd : RdT wr (.slice ao l.length cap) l := HR.out.below hold
      have hrb : RdT wr u6 l.reverse := hown.reads
      obtain ⟨S, hS⟩ : ∃ S, S = Tal.sum t l := ⟨_, rfl⟩
      rw [← hS] at ht5
      have hSr : Tal.sum t l.reverse = S := by rw [Tal.sum_reverse, hS]
      have HS := Lib.hid hS
      have HSR := Lib.hid hSr
      have HT2 := Lib.hid ht2
      have HT5 := Lib.hid ht5
      have HOLD := Lib.hid hold
      have HSM := Lib.hid hsm
      have HIN := Lib.hid hin
      have HINR := Lib.hid hinR
      have HRD := Lib.hid hrd
      have HRB := Lib.hid hrb
      have hLt := ht2.lt
      have hLt5 := ht5.lt
      clear s1 s2 s3
      obtain ⟨s1, s2, s3⟩ := ht2.c
      clear ht2 ht5 hold hsm hin hinR hrd hrb hS hSr hown
      go_wp2_with (first | (go_at_call 32; (with_reducible refine (conv_Add t _ l _ HRD.out HIN.out (by omega)).mono ?_); rintro e wA ⟨rfl, hbA⟩; rw [← HS.out]; have HA := Lib.hid hbA; have hlA := hbA.size; clear hbA s1 s2 s3) | fail)
      obtain ⟨wC, hwC⟩ : ∃ wC, wC = wA.alloc (litT S) := ⟨_, rfl⟩
      rw [← hwC]
      have hB : LC wA.heap.size w1.heap.size w.heap.size S S t wC := by
        rw [hwC]
        exact ⟨TB.new wA S, (HT5.out.keep HA.out hLt5).alloc _, (HT2.out.keep HA.out hLt).alloc _⟩
      have hCr : Below wr.heap.size wr wC := by rw [hwC]; exact HA.out.alloc HA.out.size _
      have HCR := Lib.hid hCr
      have hszC : wr.heap.size ≤ wA.heap.size := HA.out.size
      clear hwC hCr
      have hdr : Below wr.heap.size wr wC.drew := HCR.out.trans ⟨rfl, rfl, rfl, Nat.le_refl _, fun _ _ => rfl⟩
      have HDR := Lib.hid hdr
      have HT := Lib.hid (show t.In from HIN.out 0 (Nat.zero_le _))
      have hin0 : ∀ j, j ≤ ([] : List Tal).length → (Tal.sum t (([] : List Tal).take j)).In := fun j hj => by
        have : j = 0 := by simpa using hj
        subst this; exact HT.out
      have HIN0 := Lib.hid hin0
      have hs0 : Tal.sum t [] = t := rfl
      have HS0 := Lib.hid hs0
      clear hdr hin0 hs0
      go_region_held3 (fun w' => w'.cell? ⟨wA.heap.size, 0, none⟩ = some (.int .i64 S.a) ∧ w'.cell? ⟨wA.heap.size, 1, none⟩ = some (.int .i64 S.n) ∧ w'.cell? ⟨wA.heap.size, 2, none⟩ = some (.int .i64 S.s) ∧ w'.cell? ⟨w1.heap.size, 0, none⟩ = some (.int .i64 S.a) ∧ w'.cell? ⟨w1.heap.size, 1, none⟩ = some (.int .i64 S.n) ∧ w'.cell? ⟨w1.heap.size, 2, none⟩ = some (.int .i64 S.s) ∧ w'.cell? ⟨w.heap.size, 0, none⟩ = some (.int .i64 t.a) ∧ w'.cell? ⟨w.heap.size, 1, none⟩ = some (.int .i64 t.n) ∧ w'.cell? ⟨w.heap.size, 2, none⟩ = some (.int .i64 t.s)) (first | exact hB.all | exact hB.drew.all | exact hB1.all | exact hB2.all | fail) (first | (go_at_call 32; (with_reducible refine (conv_Add t _ l.reverse _ (HRB.out.below HDR.out) HINR.out (by simp; omega)).mono ?_); rintro e wD ⟨rfl, hbD⟩; rw [HSR.out]; have hB1 := hB.drew.below hbD) | (go_at_call 32; (with_reducible refine (conv_Add t _ [] _ (RdT.none _) HIN0.out (by simp)).mono ?_); rintro e wE ⟨rfl, hbE⟩; rw [HS0.out]; have hB2 := hB1.below hbE) | fail)
      have hE : Below wr.heap.size wr wE := HDR.out.trans ((hbD.mono (HDR.out).size).trans (hbE.mono (Nat.le_trans HDR.out.size hbD.size)))
      have HE := Lib.hid (HOLD.out.trans (hE.mono (Nat.le_of_lt hLt)))
      have hwA : w.heap.size < wA.heap.size := by omega
      have hbx1 := hB2.b1
      have hbx3 := hB2.b3
      have HX1 := Lib.hid hbx1
      have HX3 := Lib.hid hbx3
      clear hE hbD hbE hB hB1 hB2 hbx1 hbx3
      go_wp2
      go_loopw [9] (fun i wr => ∃ j : Nat, j ≤ l.length ∧ i = .int .i64 j ∧ TB wr wA.heap.size (Tal.sum t (l.drop j)) ∧ TB wr w.heap.size t ∧ Below w.heap.size w wr) (fun i _ => l.length - (intOf i).toNat)
      case atStart => exact ⟨0, Nat.zero_le _, rfl, by rw [List.drop_zero, ← HS.out]; exact HX1.out, HX3.out, HE.out⟩
      case round =>
        obtain ⟨j, hj, rfl, ht8, ht2, hold⟩ := hrel
        by_cases hlt : j < l.length
        · obtain ⟨blk, off, rfl, -, hc, hbl, c1, c2, c3⟩ := HR.out.at hlt
          have hsq := HSM.out j hlt
          have hd1 := drop_small hst (by omega) HSM.out j
          have hd2 := drop_small hst (by omega) HSM.out (j + 1)
          have hds := drop_sum (t := t) hlt
          obtain ⟨q, hq⟩ : ∃ q, q = l.getD j Tal.zero := ⟨_, rfl⟩
          obtain ⟨s, hs⟩ : ∃ s, s = Tal.sum t (l.drop j) := ⟨_, rfl⟩
          rw [← hq] at c1 c2 c3 hds hsq
          rw [← hs] at hds ht8 hd1
          rw [← hds] at hd2
          have HD1 := Lib.hid hd1
          have HD2 := Lib.hid hd2
          have HDS := Lib.hid hds
          have HSQ := Lib.hid hsq
          have hLB : LB wA.heap.size blk (off + j * 3) s q wr := ⟨ht8, Nat.lt_of_lt_of_le hbl hold.size, (hold.cell (p := ⟨blk, _, none⟩) hbl).trans c1, (hold.cell (p := ⟨blk, _, none⟩) hbl).trans c2, (hold.cell (p := ⟨blk, _, none⟩) hbl).trans c3⟩
          obtain ⟨g1, g2, g3, g4, g5, g6, k1, k2, k3⟩ := hLB.all
          have HLB := Lib.hid hLB.drew
          have hL2 := ht2.lt
          have HOLD2 := Lib.hid hold
          have HT22 := Lib.hid ht2
          clear hq hs hsq hd1 hd2 hds ht8 hLB c1 c2 c3 hbl ht2 hold
          go_wp2
          go_still_tail 5, (by kernel_rfl)
          change wpList _ _ _ _ _ wr.drew
          clear g1 g2 g3 g4 g5 g6 k1 k2 k3
          go_wp2_with (first | (go_at_call 33; (with_reducible refine (conv_Sub s q _ HD1.out HSQ.out HD2.out).mono ?_); rintro e wB ⟨rfl, hbB⟩; rw [HDS.out]; have BB := HLB.out.below hbB; have HB := Lib.hid hbB; clear hbB; obtain ⟨g1, g2, g3, g4, g5, g6, k1, k2, k3⟩ := BB.all) | fail)
          have hB' : Below wr.heap.size wr wB := (⟨rfl, rfl, rfl, Nat.le_refl _, fun _ _ => rfl⟩ : Below wr.heap.size wr wr.drew).trans HB.out
          have hTB : TB wB w.heap.size t := HT22.out.keep hB' hL2
          have hBe : Below w.heap.size w wB := HOLD2.out.trans (hB'.mono (Nat.le_of_lt hL2))
          refine ⟨⟨j + 1, by omega, by go_num, TB.set BB.t _, (putT_other (x := Tal.sum t (l.drop (j + 1))) (by omega)).trans hTB, putT_below hBe (Nat.le_of_lt hwA)⟩, by simp [intOf]; omega⟩
        · have hjl : j = l.length := by omega
          subst hjl
          rw [List.drop_length] at ht8
          have ht8' : TB wr wA.heap.size t := ht8
          obtain ⟨g1, g2, g3⟩ := ht8'.c
          obtain ⟨k1, k2, k3⟩ := ht2.c
          go_wp2_with (first | (go_at_call 23; refine (known5 _).mono ?_; rintro e w' ⟨rfl, rfl⟩) | fail)
          go_ret
          exact ⟨rfl, hold⟩
end Go.Proofs.Ytgoomkailpnjaaa
