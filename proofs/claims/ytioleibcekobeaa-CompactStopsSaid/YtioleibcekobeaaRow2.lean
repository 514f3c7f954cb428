/-
  What compact's placed tells of rows.
-/
import Derived.Test.YtioleibcekobeaaRow1
namespace Go.Proofs.Ytioleibcekobeaa
open Go.RowKit Go.Shelf
attribute [local go_sem] Oper.semAt_some
set_option linter.unusedVariables false

theorem zip_snocA {α : Type} (pre : List α) (x : α) : (pre ++ [x]).zipIdx = pre.zipIdx ++ [(x, pre.length)] := by simp [List.zipIdx_append]
theorem zip_prefixA {α : Type} {pre xs : List α} (h : pre <+: xs) : pre.zipIdx <+: xs.zipIdx := by
  obtain ⟨t, rfl⟩ := h
  rw [List.zipIdx_append]
  exact ⟨_, rfl⟩

/-- A row is handed over with its place. -/
def RowsHand : Hand (List Nat × Nat) := fun p vs β W => ∃ ao cap, vs = #[.int .i64 (p.2 : Int), .slice ao p.1.length cap] ∧ OwnB 0 (.slice ao p.1.length cap) (Bs p.1) W ∧ ∀ k, β k ↔ (Value.slice ao p.1.length cap).ownBlock = some k
theorem RowsHand.stab : HandStab RowsHand := by
  rintro x vs β W ⟨ao, cap, hv, ho, hi⟩
  exact ⟨fun k hk => (World.ownsRow.lt ho k ((hi k).1 hk)).2, fun W' hg hk => ⟨ao, cap, hv, ho.of (Nat.le_refl _) (fun k h => hk k ((hi k).2 h)), hi⟩⟩

/-- What the loop within holds. -/
def PlacedRI (Ψ Φ0 : FP) (W : World) (yv : Value) (J : List (List Nat × Nat) → FP → World → Prop) (pre : List (List Nat)) (Φ : FP) (W' : World) : Prop :=
  ∃ Φo, J pre.zipIdx Φo W' ∧ (∀ k, Φo k → Φ0 k ∨ W.heap.size + 2 ≤ k) ∧ (∀ k, Φ k ↔ Φo k ∧ W.heap.size + 2 ≤ k) ∧ Boxed W' W.heap.size 39 yv ∧ Boxed W' (W.heap.size + 1) 3 (.int .i64 (pre.length : Nat)) ∧ W.heap.size + 2 ≤ W'.heap.size

theorem PlacedRI.stab {B : Nat} {Ψ Φ0 : FP} {W : World} {yv : Value} {J : List (List Nat × Nat) → FP → World → Prop} (hJ : Stab B J) (hB : B ≤ W.heap.size) : Stab (W.heap.size + 2) (PlacedRI Ψ Φ0 W yv J) := by
  rintro pre Φ W' ⟨Φo, hj, ho, hi, hy, hc, hs⟩
  obtain ⟨h1, h2, h3⟩ := hJ _ _ _ hj
  refine ⟨fun k hk => ⟨((hi k).1 hk).2, (h1 k ((hi k).1 hk).1).2⟩, hs, fun W'' hg hk => ⟨Φo, h3 W'' hg (fun k hk' => ?_), ho, hi, (hk _ (.inl (by omega))).trans hy, (hk _ (.inl (by omega))).trans hc, Nat.le_trans hs hg.size⟩⟩
  rcases hk' with h | h
  · exact hk k (.inl (by omega))
  · by_cases hb : k < W.heap.size + 2
    · exact hk k (.inl hb)
    · exact hk k (.inr ((hi k).2 ⟨h, by omega⟩))

/-- .. where it was left. -/
def PlacedRX (Φ0 : FP) (W : World) (J : List (List Nat × Nat) → FP → World → Prop) (c : Code) (pre : List (List Nat)) (Φ : FP) (W' : World) : Prop :=
  c = .ret ∧ ∃ Φo, J pre.zipIdx Φo W' ∧ (∀ k, Φo k → Φ0 k ∨ W.heap.size + 2 ≤ k) ∧ (∀ k, Φ k ↔ Φo k ∧ W.heap.size + 2 ≤ k) ∧ W.heap.size + 2 ≤ W'.heap.size
theorem PlacedRX.stab {B : Nat} {Φ0 : FP} {W : World} {J : List (List Nat × Nat) → FP → World → Prop} (hJ : Stab B J) (hB : B ≤ W.heap.size) (c : Code) : Stab (W.heap.size + 2) (PlacedRX Φ0 W J c) := by
  rintro pre Φ W' ⟨hcc, Φo, hj, ho, hi, hs⟩
  obtain ⟨h1, h2, h3⟩ := hJ _ _ _ hj
  refine ⟨fun k hk => ⟨((hi k).1 hk).2, (h1 k ((hi k).1 hk).1).2⟩, hs, fun W'' hg hk => ⟨hcc, Φo, h3 W'' hg (fun k hk' => ?_), ho, hi, Nat.le_trans hs hg.size⟩⟩
  rcases hk' with h | h
  · exact hk k (.inl (by omega))
  · by_cases hb : k < W.heap.size + 2
    · exact hk k (.inl hb)
    · exact hk k (.inr ((hi k).2 ⟨h, by omega⟩))

theorem enters_partsR : ∀ args w, (callFunc 45 args).run Try.prog w = .ok (.enter 45 args) w := enters_of Try.func45 (by kernel_rfl) rfl

set_option maxHeartbeats 4000000 in
theorem placed_row (n : Nat) (c1 : Nat) (lb : Array Value) (xs : List (List Nat)) (w : World) (h1 : w.cell? ⟨c1, 0, none⟩ = some (.func (.func 45) #[] lb)) (G : FP) (hGc : G c1)
    (hin : IterR Try.prog (n - 1) 45 lb RowHand xs G w) (hn : 1 ≤ n) (hlen : xs.length < 1000000000) :
    IterR Try.prog n 44 #[.pointer (some ⟨c1, 0, none⟩)] RowsHand xs.zipIdx G w := by
  intro lp B Ψ J Jx Φ0 W hgw hG hΨ hΦ0 hJ hJx hround h0
  have hc1 : W.cell? ⟨c1, 0, none⟩ = some (.func (.func 45) #[] lb) := (World.cell?_of_block (hG c1 hGc).2).trans h1
  obtain ⟨hs1, hs2, hs3⟩ := hJ _ _ _ h0
  have hc1W : c1 < W.heap.size := World.block_lt_of_cell? W _ hc1
  obtain ⟨m, rfl⟩ : ∃ m, n = m + 1 := ⟨n - 1, by omega⟩
  rw [Nat.add_sub_cancel] at hin
  refine callsIn_of_wp_marks Try.func44 rfl trivial ?_ rfl
  simp only [Try.ntmps44, List.size_toArray, List.length_cons, List.length_nil, Nat.reduceAdd, Nat.reduceSub, Array.replicate_succ, Array.replicate_zero, List.push_toArray, List.append_toArray, List.nil_append, List.cons_append]
  have HRD := Lib.hid hround
  have HJ := Lib.hid hJ
  have HJX := Lib.hid hJx
  have HH0 := Lib.hid h0
  have HIN := Lib.hid hin
  have HG := Lib.hid hG
  have HPS := Lib.hid hΨ
  have HP0 := Lib.hid hΦ0
  have HS3 := Lib.hid hs3
  clear hround hJ hJx h0 hin hG hΨ hΦ0 h1 hs3 hs1
  have hc2 : ((W.alloc (.cells #[.func (.yield lp) #[] #[]] 39)).alloc (.cells #[.int .i64 0] 3)).cell? ⟨c1, 0, none⟩ = some (.func (.func 45) #[] lb) := by
    rw [World.cell?_alloc_lt _ _ _ (by simp; omega), World.cell?_alloc_lt _ _ _ hc1W]; exact hc1
  gi_wp2
  obtain ⟨W2, hW2⟩ : ∃ W2, W2 = (W.alloc (.cells #[.func (.yield lp) #[] #[]] 39)).alloc (.cells #[.int .i64 0] 3) := ⟨_, rfl⟩
  rw [← hW2]
  have hB2 : Below W.heap.size W W2 := by rw [hW2]; exact ((Below.refl _ W).alloc (Nat.le_refl _) _).alloc (by simp) _
  have hz2 : W2.heap.size = W.heap.size + 2 := by rw [hW2]; simp
  have hby : Boxed W2 W.heap.size 39 (.func (.yield lp) #[] #[]) := by rw [hW2]; exact (Boxed.new W _ _).alloc _
  have hbc : Boxed W2 (W.heap.size + 1) 3 (.int .i64 0) := by
    rw [hW2]
    have := Boxed.new (W.alloc (.cells #[.func (.yield lp) #[] #[]] 39)) 3 (.int .i64 0)
    rwa [World.size_alloc] at this
  have hf1 : ∀ k, Φ0 k → B ≤ k ∧ k < W.heap.size := (HJ.out _ _ _ HH0.out).1
  have HF1 := Lib.hid hf1
  have HB2 := Lib.hid hB2
  have hG2 : ∀ k, G k → k < w.heap.size ∧ W2.heap[k]? = w.heap[k]? := fun k hk => ⟨(HG.out k hk).1, (HB2.out.block k (Nat.lt_of_lt_of_le (HG.out k hk).1 hgw.size)).trans (HG.out k hk).2⟩
  clear hf1 hc2 hW2
  refine range_outerR (n := m) (gf := 45) (lb := lb) rfl enters_partsR RowHand.stab HIN.out (hgw.trans (Grow.of_below hB2)) hG2 (by rintro x vs β W ⟨ao, cap, rfl, -⟩; rfl)
    (fun k => Ψ k ∨ Φ0 k ∨ k = W.heap.size + 1) ?hpsi (PlacedRI Ψ Φ0 W (.func (.yield lp) #[] #[]) J) (PlacedRX Φ0 W Jx) (by rw [hz2]; exact PlacedRI.stab HJ.out hs2) (fun c => by rw [hz2]; exact PlacedRX.stab HJX.out hs2 c)
    ?h0 (fun vs => { tmps := #[.func (.yield lp) #[] #[], .pointer (some ⟨c1, 0, none⟩), .pointer (some ⟨W.heap.size, 0, none⟩), .pointer (some ⟨W.heap.size + 1, 0, none⟩), vs.getD 0 undef, .func (.func 45) #[] lb, vs.getD 0 undef, undef, undef, undef, undef, undef, undef, undef], defers := [] }) ?assign ?body ?done ?stop
  case hpsi =>
    intro k hk
    rcases hk with h | h | h
    · exact ⟨by have := (HPS.out k h).1; omega, (HPS.out k h).2⟩
    · exact ⟨by have := (HF1.out k h).2; omega, HP0.out k h⟩
    · exact ⟨by omega, fun hg => by have := (HG.out k hg).1; have := hgw.size; omega⟩
  case h0 =>
    refine ⟨Φ0, HS3.out W2 (Grow.of_below hB2) (fun k hk => hB2.block k (hk.elim (fun h => by omega) (fun h => (HF1.out k h).2))), fun k h => .inl h, fun k => ⟨fun h => h.elim, fun h => by have := (HF1.out k h.1).2; omega⟩, hby, hbc, by omega⟩
  case assign =>
    rintro l x vs β W0 W K ⟨ao, cap, rfl, -⟩ hK
    gi_wp2
    exact hK
  case body =>
    rintro l pre x vs β Φ W' hpx ⟨Φo, hj, ho, hi, hbY, hbC, hsz⟩ ⟨aor, capr, rfl, hor, hib⟩ hβ hl hΦl ⟨r, hr⟩
    have hzs : (pre ++ [x]).zipIdx = pre.zipIdx ++ [(x, pre.length)] := zip_snocA pre x
    have hzp : pre.zipIdx ++ [(x, pre.length)] <+: xs.zipIdx := by rw [← hzs]; exact zip_prefixA hpx
    have hpl : pre.length < 1000000000 := by
      have := hpx.length_le; simp at this; omega
    have hβ' : ∀ k, β k → B ≤ k ∧ ¬ Φo k ∧ ¬ G k := fun k hk => ⟨by have := (hβ k hk).1; omega, fun h => (hβ k hk).2.1 ((hi k).2 ⟨h, by have := (hβ k hk).1; omega⟩), (hβ k hk).2.2⟩
    have HO2 : Hid (∀ k, Φo k ∨ β k → Φ0 k ∨ W.heap.size + 2 ≤ k) := Lib.hid fun k hk => hk.elim (ho k) (fun h => .inr (by have := (hβ k h).1; omega))
    have HI2 : Hid (∀ k, Φo k ∨ β k → W.heap.size + 2 ≤ k → Φ k ∨ β k) := Lib.hid fun k hk h2 => hk.imp (fun h => (hi k).2 ⟨h, h2⟩) id
    obtain ⟨fn, tm, asg, bd, hyy, hR⟩ := HRD.out pre.zipIdx (x, pre.length) _ β Φo W' hzp hj ⟨aor, capr, rfl, hor, hib⟩ hβ'
    dsimp only at hyy
    clear hβ hβ' hor hib
    have HZS := Lib.hid hzs
    have hy1 := hbY.cell
    have hc3 := hbC.cell
    have HBY := Lib.hid hbY
    have HBC := Lib.hid hbC
    have HHO := Lib.hid ho
    have HHI := Lib.hid hi
    clear hzs hzp hbY hbC ho hi
    gi_wp2
    refine ⟨fun h => by simp [Fence.wide] at h, (RoundIn.inAny hR).mono ?_⟩
    rintro e W3 ⟨Φo', hn, hon, (⟨rfl, hJ'⟩ | ⟨rfl, hJ'⟩)⟩
    · have out : ∀ k, k < W.heap.size + 2 → W.heap.size ≤ k → W3.heap[k]? = W'.heap[k]? := fun k h1 h2 => hon.block k (by omega) (fun h => by have := (HPS.out k h).1; omega) (fun h => (HO2.out k h).elim (fun h => by have := (HF1.out k h).2; omega) (fun h => by omega))
      have hY3 : Boxed W3 W.heap.size 39 (.func (.yield lp) #[] #[]) := (out _ (by omega) (by omega)).trans HBY.out
      have hC3 : Boxed W3 (W.heap.size + 1) 3 (.int .i64 (pre.length : Nat)) := (out _ (by omega) (by omega)).trans HBC.out
      have hc4 := hC3.cell
      have hf4 := hC3.frozen
      have hC5 := hC3.set (.int .i64 ((pre.length : Nat) + 1))
      have hY5 := hY3.other (show W.heap.size ≠ W.heap.size + 1 by omega) (.int .i64 ((pre.length : Nat) + 1))
      have HC5 := Lib.hid hC5
      have HY5 := Lib.hid hY5
      have HOUT := Lib.hid out
      clear out hY3 hC3 hC5 hY5
      gi_wp2
      have hz3 : W'.heap.size ≤ W3.heap.size := hon.grow.size
      have hsame : ∀ (v : Value) (k : Nat), k ≠ W.heap.size + 1 → (W3.setCell ⟨W.heap.size + 1, 0, none⟩ v).heap[k]? = W3.heap[k]? := fun v k hk => Below.heap_setCell _ _ _ _ hk
      have hgr : ∀ v, Grow W3 (W3.setCell ⟨W.heap.size + 1, 0, none⟩ v) := fun v => ⟨rfl, rfl, rfl, by simp [World.setCell]⟩
      have hno : ∀ k, Φo' k → Φ0 k ∨ W.heap.size + 2 ≤ k := fun k hk => (hn k hk).elim (HO2.out k) (fun h => .inr (by omega))
      have hlo : ∀ k, k < B ∨ Φo' k → k ≠ W.heap.size + 1 := fun k hk => hk.elim (fun h => by omega) (fun h => (hno k h).elim (fun h => by have := (HF1.out k h).2; omega) (fun h => by omega))
      refine ⟨fun k => Φo' k ∧ W.heap.size + 2 ≤ k, fun k hk => (hn k hk.1).elim (fun h => .inl (HI2.out k h hk.2)) .inr, ⟨hon.grow.trans (hgr _), fun k hk h1 h2 => ?_⟩, Φo', ?_, hno, fun k => Iff.rfl, HY5.out, ?_, by simp [World.setCell]; omega⟩
      · rw [hsame _ k (fun e => h1 (.inr (.inr e)))]
        refine hon.block k hk (fun h => h1 (.inl h)) (fun h => ?_)
        rcases HO2.out k h with h' | h'
        · exact h1 (.inr (.inl h'))
        · exact h2 (HI2.out k h h')
      · rw [HZS.out]
        exact (HJ.out _ _ _ hJ').2.2 _ (hgr _) (fun k hk => hsame _ k (hlo k hk))
      · have e : (((pre ++ [x]).length : Nat) : Int) = (pre.length : Int) + 1 := by simp
        rw [e]; exact HC5.out
    · gi_wp2
      have hno : ∀ k, Φo' k → Φ0 k ∨ W.heap.size + 2 ≤ k := fun k hk => (hn k hk).elim (HO2.out k) (fun h => .inr (by have := hon.grow.size; omega))
      refine ⟨fun k => Φo' k ∧ W.heap.size + 2 ≤ k, fun k hk => (hn k hk.1).elim (fun h => .inl (HI2.out k h hk.2)) .inr, ⟨hon.grow, fun k hk h1 h2 => ?_⟩, rfl, Φo', by rw [HZS.out]; exact hJ', hno, fun k => Iff.rfl, Nat.le_trans hsz hon.grow.size⟩
      refine hon.block k hk (fun h => h1 (.inl h)) (fun h => ?_)
      rcases HO2.out k h with h' | h'
      · exact h1 (.inr (.inl h'))
      · exact h2 (HI2.out k h h')
  case done =>
    rintro D Φ W3 ⟨Φo, hj, ho, hi, hbY, hbC, hsz⟩ hon hD hnD hK
    have hz2' : W.heap.size + 2 ≤ D := by omega
    have hnDo : ¬ Φo D := fun h => hnD ((hi D).2 ⟨h, hz2'⟩)
    have hres : Leaves Ψ Φ0 W (fun Φ' W' => Φ' = Φo ∧ W' = W3.putObj D (.deferred none)) (W3.putObj D (.deferred none)) := by
      refine ⟨Φo, fun k hk => (ho k hk).imp id (fun h => by omega), ⟨((Grow.of_below HB2.out).trans hon.grow).trans (put_grow _ _ _), fun k hk h1 h2 => ?_⟩, rfl, rfl⟩
      rw [put_other (by omega), hon.block k (by omega) (fun h => h.elim h1 (fun h => h.elim h2 (fun h => by omega))) (fun h => h)]
      exact HB2.out.block k hk
    obtain ⟨Φ', e1, e2, rfl, -⟩ := hres
    gi_wp2
    refine ⟨by simp, .inl ⟨_, _, rfl, run_takeDeferred hK, ?_⟩⟩
    exact ⟨_, results_none rfl _ _ _, ⟨_, rfl⟩, Φ', e1, e2, .inl ((HJ.out _ _ _ hj).2.2 _ (put_grow _ _ _) (fun k hk => put_other (hk.elim (fun h => by omega) (fun h e => hnDo (by rw [← e]; exact h)))))⟩
  case stop =>
    rintro D Φ c pre W3 hpre ⟨rfl, Φo, hj, ho, hi, hsz⟩ hon hD hnD hK
    have hz2' : W.heap.size + 2 ≤ D := by omega
    have hnDo : ¬ Φo D := fun h => hnD ((hi D).2 ⟨h, hz2'⟩)
    have hres : Leaves Ψ Φ0 W (fun Φ' W' => Φ' = Φo ∧ W' = W3.putObj D (.deferred none)) (W3.putObj D (.deferred none)) := by
      refine ⟨Φo, fun k hk => (ho k hk).imp id (fun h => by omega), ⟨((Grow.of_below HB2.out).trans hon.grow).trans (put_grow _ _ _), fun k hk h1 h2 => ?_⟩, rfl, rfl⟩
      rw [put_other (by omega), hon.block k (by omega) (fun h => h.elim h1 (fun h => h.elim h2 (fun h => by omega))) (fun h => h)]
      exact HB2.out.block k hk
    obtain ⟨Φ', e1, e2, rfl, -⟩ := hres
    gi_wp2
    refine ⟨by simp, .inl ⟨_, _, rfl, run_takeDeferred hK, ?_⟩⟩
    exact ⟨_, results_none rfl _ _ _, ⟨_, rfl⟩, Φ', e1, e2, .inr ⟨_, zip_prefixA hpre, (HJX.out _ _ _ hj).2.2 _ (put_grow _ _ _) (fun k hk => put_other (hk.elim (fun h => by omega) (fun h e => hnDo (by rw [← e]; exact h))))⟩⟩
end Go.Proofs.Ytioleibcekobeaa
