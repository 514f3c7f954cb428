/-
  VotingBack: what happens.
-/
import Derived.Test.YtlnjcfgihklppaaGreatRg5
namespace Go.Proofs.YtlnjcfgihklppaaGreat
open Go.RowKit Go.Maps Go.Shelf
set_option linter.unusedVariables false
set_option linter.unusedSimpArgs false

/-- A tally within a number's bounds. -/
def Tl.ok (t : Tl) : Prop := (-9223372036854775808 ≤ t.a ∧ t.a ≤ 9223372036854775807) ∧ (-9223372036854775808 ≤ t.n ∧ t.n ≤ 9223372036854775807) ∧ (-9223372036854775808 ≤ t.s ∧ t.s ≤ 9223372036854775807)
theorem w64_bd (n : Int) : -9223372036854775808 ≤ wrap64 n ∧ wrap64 n ≤ 9223372036854775807 := by unfold wrap64; omega
theorem w64_back {t u : Int} (h : -9223372036854775808 ≤ t ∧ t ≤ 9223372036854775807) : wrap64 (wrap64 (t + u) + wrap64 (-u)) = t := by unfold wrap64; omega
theorem w64_self (t : Int) : wrap64 (t + wrap64 (-t)) = 0 := by unfold wrap64; omega
theorem Tl.zadd {t : Tl} (h : t.ok) : (⟨0, 0, 0⟩ : Tl).add t = t := by
  obtain ⟨a, n, s⟩ := t
  obtain ⟨h1, h2, h3⟩ := h
  exact add_eq (Int.zero_add _).symm (Int.zero_add _).symm (Int.zero_add _).symm h1 h2 h3
theorem Tl.back {t : Tl} (h : t.ok) (u : Tl) : (t.add u).sub u = t := by
  obtain ⟨a, n, s⟩ := t
  obtain ⟨h1, h2, h3⟩ := h
  unfold Tl.sub Tl.add Tl.neg
  simp only [Tl.mk.injEq]
  exact ⟨w64_back h1, w64_back h2, w64_back h3⟩
theorem Tl.self (t : Tl) : t.sub t = ⟨0, 0, 0⟩ := by
  unfold Tl.sub Tl.add Tl.neg
  simp only [Tl.mk.injEq]
  exact ⟨w64_self _, w64_self _, w64_self _⟩
theorem balOk_bd {x : Bal} (h : balOk x = true) : (0 ≤ x.a ∧ x.a ≤ 1073741824) ∧ (0 ≤ x.n ∧ x.n ≤ 1073741824) ∧ (0 ≤ x.s ∧ x.s ≤ 1073741824) := by
  unfold balOk voteB at h
  simp only [Bool.and_eq_true] at h
  obtain ⟨⟨⟨⟨-, h1⟩, h2⟩, h3⟩, -⟩ := h
  exact ⟨withinB_out h1, withinB_out h2, withinB_out h3⟩
theorem gain_ok {x : Bal} (h : balOk x = true) (g : Wgt) : (gainW x g).ok := by
  obtain ⟨h1, h2, h3⟩ := balOk_bd h
  have v : ∀ k : Int, 0 ≤ k ∧ k ≤ 1073741824 → -9223372036854775808 ≤ votesI k 0 ∧ votesI k 0 ≤ 9223372036854775807 := fun k hk => by
    show _ ≤ k / 10 ∧ k / 10 ≤ _
    omega
  unfold gainW
  split
  · split
    · exact ⟨w64_bd _, show (-9223372036854775808 : Int) ≤ 0 ∧ (0 : Int) ≤ 9223372036854775807 by decide, w64_bd _⟩
    · exact ⟨show (-9223372036854775808 : Int) ≤ 0 ∧ (0 : Int) ≤ 9223372036854775807 by decide, w64_bd _, show (-9223372036854775808 : Int) ≤ 0 ∧ (0 : Int) ≤ 9223372036854775807 by decide⟩
  · refine ⟨v _ h1, v _ h2, ?_⟩
    show _ ≤ x.a + x.s ∧ x.a + x.s ≤ _
    omega
def baA : Acc := accL [0, 1048576, 1048576, 1048576]
def baS1 : Vs := openS Vs.zero 0 0
def baS2 (x : Bal) : Vs := voteS baS1 baA 1 0 x
def baS3 (x y : Bal) : Vs := voteS (baS2 x) baA 2 0 y
def baS4 (x y : Bal) : Vs := unvoteS (baS3 x y) 2 0 0
def baS5 (x y : Bal) (l n : Int) : Vs := delS (baS4 x y) baA 3 0 1 l n
def baS6 (x y : Bal) (l n : Int) : Vs := undS (baS5 x y l n) 3 0 0
def baP (t : Tl) : Nat → Pl := putP baS1.P 0 ((baS1.P 0).withT t)
theorem ba_ok {x y : Bal} {l n : Int} (hx : balOk x = true) (hy : balOk y = true) (cx : capB x ≤ 1048576) (cy : capB y ≤ 1048576) (n0 : 0 ≤ n) (n1 : n ≤ 1048576) (l0 : 0 ≤ l) (l1 : l ≤ 6) :
    (voteE baS1 baA 1 0 x = 0 ∧ voteE (baS2 x) baA 2 0 y = 0 ∧ unvoteE (baS3 x y) 2 0 = 0 ∧ delE (baS4 x y) baA 3 0 1 l n = 0 ∧ undE (baS5 x y l n) 3 0 = 0) ∧ tallyOf (baS2 x) 0 = gainW x ⟨0, 0⟩ ∧ tallyOf (baS4 x y) 0 = gainW x ⟨0, 0⟩ ∧ tallyOf (baS5 x y l n) 0 = gainW x ⟨votesI n l, n⟩ ∧ tallyOf (baS6 x y l n) 0 = gainW x ⟨0, 0⟩ ∧ gotS (baS6 x y l n) 1 0 = ⟨0, 0⟩ := by
  obtain ⟨v, hv⟩ : ∃ v, v = votesI n l := ⟨_, rfl⟩
  obtain ⟨v0, v1⟩ := votesI_bd n0 n1 l0 l1 (by omega)
  rw [← hv] at v0 v1 ⊢
  have hg : ∀ g, (gainW x g).ok := fun g => gain_ok hx g
  have e1 : voteE baS1 baA 1 0 x = 0 := voteE_0 (by decide) hx (by decide) (by decide) (by decide) cx (by decide)
  have t1 : voteT baS1 1 0 x = gainW x ⟨0, 0⟩ := by
    rw [voteT_new rfl]
    exact Tl.zadd (hg _)
  have s2 : baS2 x = ⟨baP (gainW x ⟨0, 0⟩), [((1, 0), x)], [], [], []⟩ := by
    unfold baS2
    rw [voteS_0 e1, t1]
    rfl
  have e2 : voteE (baS2 x) baA 2 0 y = 0 := by
    rw [s2]
    exact voteE_0 (by decide) hy ⟨⟨by decide, by decide⟩, show (1 : Int) ≠ 0 by decide⟩ rfl rfl cy (show 0 < 6 by decide)
  have t2 : voteT (baS2 x) 2 0 y = (gainW x ⟨0, 0⟩).add (gainW y ⟨0, 0⟩) := by
    rw [s2, voteT_new rfl]
    rfl
  have s3 : baS3 x y = ⟨baP ((gainW x ⟨0, 0⟩).add (gainW y ⟨0, 0⟩)), [((1, 0), x), ((2, 0), y)], [], [], []⟩ := by
    unfold baS3
    rw [voteS_0 e2, t2, s2]
    simp only [baP, Int.toNat_zero, putP_two]
    rfl
  have e3 : unvoteE (baS3 x y) 2 0 = 0 := by
    rw [s3]
    exact unvE_0 (x := y) (by decide) ⟨⟨by decide, by decide⟩, show (1 : Int) ≠ 0 by decide⟩ rfl
  have s4 : baS4 x y = ⟨baP (gainW x ⟨0, 0⟩), [((1, 0), x)], [], [], []⟩ := by
    unfold baS4
    rw [unvS_on (x := y) e3 (by rw [s3]; rfl) (by rw [s3]; rfl), s3]
    have ht : ((gainW x ⟨0, 0⟩).add (gainW y ⟨0, 0⟩)).sub (gainW y ⟨0, 0⟩) = gainW x ⟨0, 0⟩ := Tl.back (hg _) _
    have h0 : ((baP ((gainW x ⟨0, 0⟩).add (gainW y ⟨0, 0⟩)) (Int.toNat 0)).t.sub (gainW y (gotS ⟨baP ((gainW x ⟨0, 0⟩).add (gainW y ⟨0, 0⟩)), [((1, 0), x), ((2, 0), y)], [], [], []⟩ 2 (baP ((gainW x ⟨0, 0⟩).add (gainW y ⟨0, 0⟩)) (Int.toNat 0)).tr))) = gainW x ⟨0, 0⟩ := ht
    simp only [h0]
    simp only [baP, Int.toNat_zero, putP_two]
    rfl
  have e4 : delE (baS4 x y) baA 3 0 1 l n = 0 := by
    rw [s4]
    exact delE_0 (by decide) (by decide) (by decide) (by decide) ⟨l0, l1⟩ (by unfold isBal; omega) rfl rfl n1
  have hz : ∀ a b, relend x a b (gainW x a) = gainW x b := fun a b => by
    unfold relend
    rw [Tl.self]
    exact Tl.zadd (hg _)
  have s5 : baS5 x y l n = ⟨baP (gainW x ⟨v, n⟩), [((1, 0), x)], [((3, 0), ⟨1, l, n⟩)], [((1, 0), ⟨v, n⟩)], []⟩ := by
    unfold baS5
    rw [delS_0 e4, s4, ← hv]
    have hg := lendG_in (S := ⟨baP (gainW x ⟨0, 0⟩), [((1, 0), x)], [((3, 0), ⟨1, l, n⟩)], [], []⟩) (who := 1) (t := 0) (dv := v) (dc := n) (g := ⟨0, 0⟩) rfl (by simp only; omega) (by simp only; omega)
    simp only [Int.zero_add] at hg
    refine (lendS_one (g := ⟨0, 0⟩) (g' := ⟨v, n⟩) (r := 0) (y := x) (tt := gainW x ⟨v, n⟩) rfl rfl rfl hg (hz ⟨0, 0⟩ ⟨v, n⟩)).trans ?_
    simp only [baP, Int.toNat_zero, putP_two]
    rfl
  have e5 : undE (baS5 x y l n) 3 0 = 0 := by
    rw [s5]
    exact undE_0 (d := ⟨1, l, n⟩) (by decide) (by decide) rfl
  obtain ⟨Q6, hQ6⟩ : ∃ Q6, Q6 = joinQ ([] : Cls Wgt) 3 0 (wrap64 (0 + periodI l 8)) n 0 := ⟨_, rfl⟩
  have s6 : baS6 x y l n = ⟨baP (gainW x ⟨0, 0⟩), [((1, 0), x)], [], [((1, 0), ⟨0, 0⟩)], Q6⟩ := by
    have hg := lendG_in (S := ⟨baP (gainW x ⟨v, n⟩), [((1, 0), x)], [], [((1, 0), ⟨v, n⟩)], []⟩) (who := 1) (t := 0) (dv := -v) (dc := -n) (g := ⟨v, n⟩) rfl (by simp only; omega) (by simp only; omega)
    simp only [Int.add_right_neg] at hg
    have hl := lendS_one (g := ⟨v, n⟩) (g' := ⟨0, 0⟩) (r := 0) (y := x) (tt := gainW x ⟨0, 0⟩) rfl rfl rfl hg (hz ⟨v, n⟩ ⟨0, 0⟩)
    unfold baS6
    rw [undS_0 (d := ⟨1, l, n⟩) e5 (by rw [s5]; rfl) rfl, s5]
    simp only
    rw [← hv, w64_in (n := -v) (by omega) (by omega), w64_in (n := -n) (by omega) (by omega), ← hQ6]
    have hd : cdel [((3, 0), (⟨1, l, n⟩ : Dlg))] 3 0 = [] := rfl
    rw [hd, hl]
    simp only [baP, Int.toNat_zero, putP_two]
    rfl
  exact ⟨⟨e1, e2, e3, e4, e5⟩, by rw [s2]; rfl, by rw [s4]; rfl, by rw [s5]; rfl, by rw [s6]; rfl, by rw [s6]; rfl⟩
theorem Pvb.bal' {p g vb N : Nat} {S : Vs} {A : Acc} {M : Cls Int} {bs : List (Nat × List Value)} {w0 w : World} (h : Pvb p g vb N S A M bs w0 w) (t : Wgt) : Pvb p g vb N S A M ((w.heap.size, wgtS.f t) :: bs) w0 (w.alloc (wgtS.obj t)) := h.new (atS wgtS w t) ((Below.refl _ w).alloc (Nat.le_refl _) _) (Nat.le_refl _) (by simp)
theorem Pvb.old {p g vb N : Nat} {S : Vs} {A : Acc} {M : Cls Int} {bs : List (Nat × List Value)} {w0 w : World} (h : Pvb p g vb N S A M bs w0 w) {b : Nat} {l : List Value} (hr : w0.rangeAt b 0 l) (hb : b < N) : Pvb p g vb N S A M ((b, l) :: bs) w0 w := by
  obtain ⟨Zn, h1, h2, h3⟩ := h
  refine ⟨Zn, h1, h2, fun c hc => ?_⟩
  rcases List.mem_cons.1 hc with rfl | hc
  · exact ⟨rangeAt_block hr (h2.block _ hb), fun hz => by have := h1.lv.lo hz; omega, Nat.lt_of_lt_of_le hb h1.lv.size⟩
  · exact h3 c hc
theorem ref_gain {x : Bal} (h : balOk x = true) {v c : Int} (hv : 0 ≤ v ∧ v ≤ 1099511627776) (hc : 0 ≤ c ∧ c ≤ 1099511627776) (W : World) : Calls Tryz.prog 32 #[.agg #[.int .i64 x.k, .bool x.aye, .int .i64 x.l, .int .i64 x.a, .int .i64 x.n, .int .i64 x.s], .agg #[.int .i64 v, .int .i64 c]] W fun e w' => e = .returned (.agg #[.int .i64 (gainW x ⟨v, c⟩).a, .int .i64 (gainW x ⟨v, c⟩).n, .int .i64 (gainW x ⟨v, c⟩).s]) ∧ Below W.heap.size W w' := by
  refine (ref_Gain x.k x.aye x.l x.a x.n x.s v c W h hv hc).mono fun e w' ⟨he, hb⟩ => ⟨?_, hb⟩
  rw [he]
  obtain ⟨h1, h2, h3⟩ := balOk_bd h
  by_cases hk : x.k = 1
  · have hl : 0 ≤ x.l ∧ x.l ≤ 6 := by
      unfold balOk voteB shapedB at h
      simp only [hk, if_true, Bool.and_eq_true] at h
      exact withinB_out h.1.1.1.1.1.1
    obtain ⟨q0, q1⟩ := votesI_bd h1.1 h1.2 hl.1 hl.2 (by omega)
    unfold gainW gainA gainN gainS
    rw [if_pos hk]
    cases x.aye
    · simp only [if_pos hk, tally, Bool.false_eq_true, if_false]
      rw [w64_in (n := votesI x.a x.l + v) (by omega) (by omega)]
    · simp only [if_pos hk, tally, if_true]
      rw [w64_in (n := votesI x.a x.l + v) (by omega) (by omega), w64_in (n := x.a + c) (by omega) (by omega)]
  · unfold gainW gainA gainN gainS
    simp only [if_neg hk, tally]
theorem law_Is (z : Bal) (W : World) : Calls Tryz.prog 27 #[.agg #[.int .i64 z.k, .bool z.aye, .int .i64 z.l, .int .i64 z.a, .int .i64 z.n, .int .i64 z.s]] W fun e w' => e = .returned (.bool (balOk z)) ∧ Below W.heap.size W w' := ref_Is5 z.k z.aye z.l z.a z.n z.s W
theorem law_Cap {z : Bal} (h : balOk z = true) (W : World) : Calls Tryz.prog 28 #[.agg #[.int .i64 z.k, .bool z.aye, .int .i64 z.l, .int .i64 z.a, .int .i64 z.n, .int .i64 z.s]] W fun e w' => e = .returned (.int .i64 (capB z)) ∧ Below W.heap.size W w' := by
  obtain ⟨h1, h2, h3⟩ := balOk_bd h
  exact ref_Capital z.k z.aye z.l z.a z.n z.s W h1 h2 h3
/-- Two votes that come in, boxed. -/
theorem two_boxes (w : World) (x y : Bal) {wb : World} (hw : wb = (w.alloc (.cells #[.int .i64 x.k, .bool x.aye, .int .i64 x.l, .int .i64 x.a, .int .i64 x.n, .int .i64 x.s] 23)).alloc (.cells #[.int .i64 y.k, .bool y.aye, .int .i64 y.l, .int .i64 y.a, .int .i64 y.n, .int .i64 y.s] 23)) : Below w.heap.size w wb ∧ w.heap.size + 1 < wb.heap.size ∧ wb.rangeAt w.heap.size 0 (balS.f x) ∧ wb.rangeAt (w.heap.size + 1) 0 (balS.f y) := by
  subst hw
  have b1 : Below w.heap.size w (w.alloc (balS.obj x)) := (Below.refl _ w).alloc (Nat.le_refl _) _
  have b2 : Below (w.alloc (balS.obj x)).heap.size (w.alloc (balS.obj x)) ((w.alloc (balS.obj x)).alloc (balS.obj y)) := (Below.refl _ _).alloc (Nat.le_refl _) _
  have hs : (w.alloc (balS.obj x)).heap.size = w.heap.size + 1 := by simp
  refine ⟨b1.trans (b2.mono b1.size), by simp, ?_, ?_⟩
  · exact rangeAt_block (atS balS w x) (b2.block _ (by omega))
  · have := atS balS (w.alloc (balS.obj x)) y
    rw [hs] at this
    exact this
end Go.Proofs.YtlnjcfgihklppaaGreat
