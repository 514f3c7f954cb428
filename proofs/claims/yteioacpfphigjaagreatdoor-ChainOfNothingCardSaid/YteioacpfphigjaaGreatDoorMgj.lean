/-
  Joined texts.
-/
import Derived.Laws.Bits128
import Derived.Deep.RegionWith
import Derived.Deep.OwnRows
import Derived.Test.YteioacpfphigjaaGreatDoorMgi

section
namespace Go.Proofs.YteioacpfphigjaaGreatDoor
open Go.RowKit Go.Shelf
attribute [local go_sem] Oper.semAt_some
set_option linter.unusedVariables false

theorem zip_snocA {α : Type} (pre : List α) (x : α) : (pre ++ [x]).zipIdx = pre.zipIdx ++ [(x, pre.length)] := by simp [List.zipIdx_append]
theorem zip_prefixA {α : Type} {pre xs : List α} (h : pre <+: xs) : pre.zipIdx <+: xs.zipIdx := by
  obtain ⟨t, rfl⟩ := h
  rw [List.zipIdx_append]
  exact ⟨_, rfl⟩

/-- A row is handed over with its place. -/
def RowsHand : Hand (List Nat × Nat) := fun p vs β W => ∃ ao cap, vs = #[.int .i64 (p.2 : Int), .slice ao p.1.length cap] ∧ OwnB 0 (.slice ao p.1.length cap) (BsM p.1) W ∧ ∀ k, β k ↔ (Value.slice ao p.1.length cap).ownBlock = some k
theorem RowsHand.stab : HandStab RowsHand := by
  rintro x vs β W ⟨ao, cap, hv, ho, hi⟩
  exact ⟨fun k hk => (World.ownsRow.lt ho k ((hi k).1 hk)).2, fun W' hg hk => ⟨ao, cap, hv, ho.of (Nat.le_refl _) (fun k h => hk k ((hi k).2 h)), hi⟩⟩

/-- What the loop within holds. -/
def PlacedRI (Ψ Φ0 : FP) (W : World) (yv : Value) (J : List (List Nat × Nat) → FP → World → Prop) (pre : List (List Nat)) (Φ : FP) (W' : World) : Prop :=
  ∃ Φo, J pre.zipIdx Φo W' ∧ (∀ k, Φo k → Φ0 k ∨ W.heap.size + 2 ≤ k) ∧ (∀ k, Φ k ↔ Φo k ∧ W.heap.size + 2 ≤ k) ∧ Boxed W' W.heap.size 298 yv ∧ Boxed W' (W.heap.size + 1) 3 (.int .i64 (pre.length : Nat)) ∧ W.heap.size + 2 ≤ W'.heap.size

theorem PlacedRI.stab {B : Nat} {Ψ Φ0 : FP} {W : World} {yv : Value} {J : List (List Nat × Nat) → FP → World → Prop} (hJ : Stab B J) (hB : B ≤ W.heap.size) : Stab (W.heap.size + 2) (PlacedRI Ψ Φ0 W yv J) := by
  rintro pre Φ W' ⟨Φo, hj, ho, hi, hy, hc, hs⟩
  obtain ⟨h1, h2, h3⟩ := hJ _ _ _ hj
  refine ⟨fun k hk => ⟨((hi k).1 hk).2, (h1 k ((hi k).1 hk).1).2⟩, hs, fun W'' hg hk => ⟨Φo, h3 W'' hg (fun k hk' => ?_), ho, hi, (hk _ (.inl (by omega))).trans hy, (hk _ (.inl (by omega))).trans hc, Nat.le_trans hs hg.size⟩⟩
  rcases hk' with h | h
  · exact hk k (.inl (by omega))
  · by_cases hb : k < W.heap.size + 2
    · exact hk k (.inl hb)
    · exact hk k (.inr ((hi k).2 ⟨h, by omega⟩))

/-- .. where it was left. -/
def PlacedRX (Φ0 : FP) (W : World) (J : List (List Nat × Nat) → FP → World → Prop) (c : Code) (pre : List (List Nat)) (Φ : FP) (W' : World) : Prop :=
  c = .ret ∧ ∃ Φo, J pre.zipIdx Φo W' ∧ (∀ k, Φo k → Φ0 k ∨ W.heap.size + 2 ≤ k) ∧ (∀ k, Φ k ↔ Φo k ∧ W.heap.size + 2 ≤ k) ∧ W.heap.size + 2 ≤ W'.heap.size
theorem PlacedRX.stab {B : Nat} {Φ0 : FP} {W : World} {J : List (List Nat × Nat) → FP → World → Prop} (hJ : Stab B J) (hB : B ≤ W.heap.size) (c : Code) : Stab (W.heap.size + 2) (PlacedRX Φ0 W J c) := by
  rintro pre Φ W' ⟨hcc, Φo, hj, ho, hi, hs⟩
  obtain ⟨h1, h2, h3⟩ := hJ _ _ _ hj
  refine ⟨fun k hk => ⟨((hi k).1 hk).2, (h1 k ((hi k).1 hk).1).2⟩, hs, fun W'' hg hk => ⟨hcc, Φo, h3 W'' hg (fun k hk' => ?_), ho, hi, Nat.le_trans hs hg.size⟩⟩
  rcases hk' with h | h
  · exact hk k (.inl (by omega))
  · by_cases hb : k < W.heap.size + 2
    · exact hk k (.inl hb)
    · exact hk k (.inr ((hi k).2 ⟨h, by omega⟩))

theorem enters_partsR : ∀ args w, (callFunc 188 args).run Tryz.prog w = .ok (.enter 188 args) w := enters_of Tryz.func188 (by kernel_rfl) rfl

set_option maxHeartbeats 4000000 in
theorem placed_row (n : Nat) (c1 : Nat) (lb : Array Value) (xs : List (List Nat)) (w : World) (h1 : w.cell? ⟨c1, 0, none⟩ = some (.func (.func 188) #[] lb)) (G : FP) (hGc : G c1)
    (hin : IterR Tryz.prog (n - 1) 188 lb RowHand xs G w) (hn : 1 ≤ n) (hlen : xs.length < 1000000000) :
    IterR Tryz.prog n 187 #[.pointer (some ⟨c1, 0, none⟩)] RowsHand xs.zipIdx G w := by
  intro lp B Ψ J Jx Φ0 W hgw hG hΨ hΦ0 hJ hJx hround h0
  have hc1 : W.cell? ⟨c1, 0, none⟩ = some (.func (.func 188) #[] lb) := (World.cell?_of_block (hG c1 hGc).2).trans h1
  obtain ⟨hs1, hs2, hs3⟩ := hJ _ _ _ h0
  have hc1W : c1 < W.heap.size := World.block_lt_of_cell? W _ hc1
  obtain ⟨m, rfl⟩ : ∃ m, n = m + 1 := ⟨n - 1, by omega⟩
  rw [Nat.add_sub_cancel] at hin
  refine callsIn_of_wp_marks Tryz.func187 rfl trivial ?_ rfl
  simp only [Tryz.ntmps187, List.size_toArray, List.length_cons, List.length_nil, Nat.reduceAdd, Nat.reduceSub, Array.replicate_succ, Array.replicate_zero, List.push_toArray, List.append_toArray, List.nil_append, List.cons_append]
  have HRD := Lib.hid hround
  have HJ := Lib.hid hJ
  have HJX := Lib.hid hJx
  have HH0 := Lib.hid h0
  have HIN := Lib.hid hin
  have HG := Lib.hid hG
  have HPS := Lib.hid hΨ
  have HP0 := Lib.hid hΦ0
  have HS3 := Lib.hid hs3
  clear hround hJ hJx h0 hin hG hΨ hΦ0 h1 hs3 hs1
  have hc2 : ((W.alloc (.cells #[.func (.yield lp) #[] #[]] 298)).alloc (.cells #[.int .i64 0] 3)).cell? ⟨c1, 0, none⟩ = some (.func (.func 188) #[] lb) := by
    rw [World.cell?_alloc_lt _ _ _ (by simp; omega), World.cell?_alloc_lt _ _ _ hc1W]; exact hc1
  gi_wp2
  obtain ⟨W2, hW2⟩ : ∃ W2, W2 = (W.alloc (.cells #[.func (.yield lp) #[] #[]] 298)).alloc (.cells #[.int .i64 0] 3) := ⟨_, rfl⟩
  rw [← hW2]
  have hB2 : Below W.heap.size W W2 := by rw [hW2]; exact ((Below.refl _ W).alloc (Nat.le_refl _) _).alloc (by simp) _
  have hz2 : W2.heap.size = W.heap.size + 2 := by rw [hW2]; simp
  have hby : Boxed W2 W.heap.size 298 (.func (.yield lp) #[] #[]) := by rw [hW2]; exact (Boxed.new W _ _).alloc _
  have hbc : Boxed W2 (W.heap.size + 1) 3 (.int .i64 0) := by
    rw [hW2]
    have := Boxed.new (W.alloc (.cells #[.func (.yield lp) #[] #[]] 298)) 3 (.int .i64 0)
    rwa [World.size_alloc] at this
  have hf1 : ∀ k, Φ0 k → B ≤ k ∧ k < W.heap.size := (HJ.out _ _ _ HH0.out).1
  have HF1 := Lib.hid hf1
  have HB2 := Lib.hid hB2
  have hG2 : ∀ k, G k → k < w.heap.size ∧ W2.heap[k]? = w.heap[k]? := fun k hk => ⟨(HG.out k hk).1, (HB2.out.block k (Nat.lt_of_lt_of_le (HG.out k hk).1 hgw.size)).trans (HG.out k hk).2⟩
  clear hf1 hc2 hW2
  refine range_outerR (n := m) (gf := 188) (lb := lb) rfl enters_partsR RowHand.stab HIN.out (hgw.trans (Grow.of_below hB2)) hG2 (by rintro x vs β W ⟨ao, cap, rfl, -⟩; rfl)
    (fun k => Ψ k ∨ Φ0 k ∨ k = W.heap.size + 1) ?hpsi (PlacedRI Ψ Φ0 W (.func (.yield lp) #[] #[]) J) (PlacedRX Φ0 W Jx) (by rw [hz2]; exact PlacedRI.stab HJ.out hs2) (fun c => by rw [hz2]; exact PlacedRX.stab HJX.out hs2 c)
    ?h0 (fun vs => { tmps := #[.func (.yield lp) #[] #[], .pointer (some ⟨c1, 0, none⟩), .pointer (some ⟨W.heap.size, 0, none⟩), .pointer (some ⟨W.heap.size + 1, 0, none⟩), vs.getD 0 undef, .func (.func 188) #[] lb, vs.getD 0 undef, undef, undef, undef, undef, undef, undef, undef], defers := [] }) ?assign ?body ?done ?stop
  case hpsi =>
    intro k hk
    rcases hk with h | h | h
    · exact ⟨by have := (HPS.out k h).1; omega, (HPS.out k h).2⟩
    · exact ⟨by have := (HF1.out k h).2; omega, HP0.out k h⟩
    · exact ⟨by omega, fun hg => by have := (HG.out k hg).1; have := hgw.size; omega⟩
  case h0 =>
    refine ⟨Φ0, HS3.out W2 (Grow.of_below hB2) (fun k hk => hB2.block k (hk.elim (fun h => by omega) (fun h => (HF1.out k h).2))), fun k h => .inl h, fun k => ⟨fun h => h.elim, fun h => by have := (HF1.out k h.1).2; omega⟩, hby, hbc, by omega⟩
  case assign =>
    rintro l x vs β W0 W K ⟨ao, cap, rfl, -⟩ hK
    gi_wp2
    exact hK
  case body =>
    rintro l pre x vs β Φ W' hpx ⟨Φo, hj, ho, hi, hbY, hbC, hsz⟩ ⟨aor, capr, rfl, hor, hib⟩ hβ hl hΦl ⟨r, hr⟩
    have hzs : (pre ++ [x]).zipIdx = pre.zipIdx ++ [(x, pre.length)] := zip_snocA pre x
    have hzp : pre.zipIdx ++ [(x, pre.length)] <+: xs.zipIdx := by rw [← hzs]; exact zip_prefixA hpx
    have hpl : pre.length < 1000000000 := by
      have := hpx.length_le; simp at this; omega
    have hβ' : ∀ k, β k → B ≤ k ∧ ¬ Φo k ∧ ¬ G k := fun k hk => ⟨by have := (hβ k hk).1; omega, fun h => (hβ k hk).2.1 ((hi k).2 ⟨h, by have := (hβ k hk).1; omega⟩), (hβ k hk).2.2⟩
    have HO2 : Hid (∀ k, Φo k ∨ β k → Φ0 k ∨ W.heap.size + 2 ≤ k) := Lib.hid fun k hk => hk.elim (ho k) (fun h => .inr (by have := (hβ k h).1; omega))
    have HI2 : Hid (∀ k, Φo k ∨ β k → W.heap.size + 2 ≤ k → Φ k ∨ β k) := Lib.hid fun k hk h2 => hk.imp (fun h => (hi k).2 ⟨h, h2⟩) id
    obtain ⟨fn, tm, asg, bd, hyy, hR⟩ := HRD.out pre.zipIdx (x, pre.length) _ β Φo W' hzp hj ⟨aor, capr, rfl, hor, hib⟩ hβ'
    dsimp only at hyy
    clear hβ hβ' hor hib
    have HZS := Lib.hid hzs
    have hy1 := hbY.cell
    have hc3 := hbC.cell
    have HBY := Lib.hid hbY
    have HBC := Lib.hid hbC
    have HHO := Lib.hid ho
    have HHI := Lib.hid hi
    clear hzs hzp hbY hbC ho hi
    gi_wp2
    refine ⟨fun h => by simp [Fence.wide] at h, (RoundIn.inAnyM hR).mono ?_⟩
    rintro e W3 ⟨Φo', hn, hon, (⟨rfl, hJ'⟩ | ⟨rfl, hJ'⟩)⟩
    · have out : ∀ k, k < W.heap.size + 2 → W.heap.size ≤ k → W3.heap[k]? = W'.heap[k]? := fun k h1 h2 => hon.block k (by omega) (fun h => by have := (HPS.out k h).1; omega) (fun h => (HO2.out k h).elim (fun h => by have := (HF1.out k h).2; omega) (fun h => by omega))
      have hY3 : Boxed W3 W.heap.size 298 (.func (.yield lp) #[] #[]) := (out _ (by omega) (by omega)).trans HBY.out
      have hC3 : Boxed W3 (W.heap.size + 1) 3 (.int .i64 (pre.length : Nat)) := (out _ (by omega) (by omega)).trans HBC.out
      have hc4 := hC3.cell
      have hf4 := hC3.frozen
      have hC5 := hC3.set (.int .i64 ((pre.length : Nat) + 1))
      have hY5 := hY3.other (show W.heap.size ≠ W.heap.size + 1 by omega) (.int .i64 ((pre.length : Nat) + 1))
      have HC5 := Lib.hid hC5
      have HY5 := Lib.hid hY5
      have HOUT := Lib.hid out
      clear out hY3 hC3 hC5 hY5
      gi_wp2
      have hz3 : W'.heap.size ≤ W3.heap.size := hon.grow.size
      have hsame : ∀ (v : Value) (k : Nat), k ≠ W.heap.size + 1 → (W3.setCell ⟨W.heap.size + 1, 0, none⟩ v).heap[k]? = W3.heap[k]? := fun v k hk => Below.heap_setCell _ _ _ _ hk
      have hgr : ∀ v, Grow W3 (W3.setCell ⟨W.heap.size + 1, 0, none⟩ v) := fun v => ⟨rfl, rfl, rfl, by simp [World.setCell]⟩
      have hno : ∀ k, Φo' k → Φ0 k ∨ W.heap.size + 2 ≤ k := fun k hk => (hn k hk).elim (HO2.out k) (fun h => .inr (by omega))
      have hlo : ∀ k, k < B ∨ Φo' k → k ≠ W.heap.size + 1 := fun k hk => hk.elim (fun h => by omega) (fun h => (hno k h).elim (fun h => by have := (HF1.out k h).2; omega) (fun h => by omega))
      refine ⟨fun k => Φo' k ∧ W.heap.size + 2 ≤ k, fun k hk => (hn k hk.1).elim (fun h => .inl (HI2.out k h hk.2)) .inr, ⟨hon.grow.trans (hgr _), fun k hk h1 h2 => ?_⟩, Φo', ?_, hno, fun k => Iff.rfl, HY5.out, ?_, by simp [World.setCell]; omega⟩
      · rw [hsame _ k (fun e => h1 (.inr (.inr e)))]
        refine hon.block k hk (fun h => h1 (.inl h)) (fun h => ?_)
        rcases HO2.out k h with h' | h'
        · exact h1 (.inr (.inl h'))
        · exact h2 (HI2.out k h h')
      · rw [HZS.out]
        exact (HJ.out _ _ _ hJ').2.2 _ (hgr _) (fun k hk => hsame _ k (hlo k hk))
      · have e : (((pre ++ [x]).length : Nat) : Int) = (pre.length : Int) + 1 := by simp
        rw [e]; exact HC5.out
    · gi_wp2
      have hno : ∀ k, Φo' k → Φ0 k ∨ W.heap.size + 2 ≤ k := fun k hk => (hn k hk).elim (HO2.out k) (fun h => .inr (by have := hon.grow.size; omega))
      refine ⟨fun k => Φo' k ∧ W.heap.size + 2 ≤ k, fun k hk => (hn k hk.1).elim (fun h => .inl (HI2.out k h hk.2)) .inr, ⟨hon.grow, fun k hk h1 h2 => ?_⟩, rfl, Φo', by rw [HZS.out]; exact hJ', hno, fun k => Iff.rfl, Nat.le_trans hsz hon.grow.size⟩
      refine hon.block k hk (fun h => h1 (.inl h)) (fun h => ?_)
      rcases HO2.out k h with h' | h'
      · exact h1 (.inr (.inl h'))
      · exact h2 (HI2.out k h h')
  case done =>
    rintro D Φ W3 ⟨Φo, hj, ho, hi, hbY, hbC, hsz⟩ hon hD hnD hK
    have hz2' : W.heap.size + 2 ≤ D := by omega
    have hnDo : ¬ Φo D := fun h => hnD ((hi D).2 ⟨h, hz2'⟩)
    have hres : Leaves Ψ Φ0 W (fun Φ' W' => Φ' = Φo ∧ W' = W3.putObj D (.deferred none)) (W3.putObj D (.deferred none)) := by
      refine ⟨Φo, fun k hk => (ho k hk).imp id (fun h => by omega), ⟨((Grow.of_below HB2.out).trans hon.grow).trans (put_grow _ _ _), fun k hk h1 h2 => ?_⟩, rfl, rfl⟩
      rw [put_other (by omega), hon.block k (by omega) (fun h => h.elim h1 (fun h => h.elim h2 (fun h => by omega))) (fun h => h)]
      exact HB2.out.block k hk
    obtain ⟨Φ', e1, e2, rfl, -⟩ := hres
    gi_wp2
    refine ⟨by simp, .inl ⟨_, _, rfl, run_takeDeferred hK, ?_⟩⟩
    exact ⟨_, results_none rfl _ _ _, ⟨_, rfl⟩, Φ', e1, e2, .inl ((HJ.out _ _ _ hj).2.2 _ (put_grow _ _ _) (fun k hk => put_other (hk.elim (fun h => by omega) (fun h e => hnDo (by rw [← e]; exact h)))))⟩
  case stop =>
    rintro D Φ c pre W3 hpre ⟨rfl, Φo, hj, ho, hi, hsz⟩ hon hD hnD hK
    have hz2' : W.heap.size + 2 ≤ D := by omega
    have hnDo : ¬ Φo D := fun h => hnD ((hi D).2 ⟨h, hz2'⟩)
    have hres : Leaves Ψ Φ0 W (fun Φ' W' => Φ' = Φo ∧ W' = W3.putObj D (.deferred none)) (W3.putObj D (.deferred none)) := by
      refine ⟨Φo, fun k hk => (ho k hk).imp id (fun h => by omega), ⟨((Grow.of_below HB2.out).trans hon.grow).trans (put_grow _ _ _), fun k hk h1 h2 => ?_⟩, rfl, rfl⟩
      rw [put_other (by omega), hon.block k (by omega) (fun h => h.elim h1 (fun h => h.elim h2 (fun h => by omega))) (fun h => h)]
      exact HB2.out.block k hk
    obtain ⟨Φ', e1, e2, rfl, -⟩ := hres
    gi_wp2
    refine ⟨by simp, .inl ⟨_, _, rfl, run_takeDeferred hK, ?_⟩⟩
    exact ⟨_, results_none rfl _ _ _, ⟨_, rfl⟩, Φ', e1, e2, .inr ⟨_, zip_prefixA hpre, (HJX.out _ _ _ hj).2.2 _ (put_grow _ _ _) (fun k hk => put_other (hk.elim (fun h => by omega) (fun h e => hnDo (by rw [← e]; exact h))))⟩⟩
end Go.Proofs.YteioacpfphigjaaGreatDoor
end

section
namespace Go.Proofs.YteioacpfphigjaaGreatDoor
open Go.RowKit Go.Shelf
set_option linter.unusedVariables false

theorem cp_parts_row (ao : Option Addr) (n cap : Nat) (f : Fn) (lb : Array Value) (w : World) :
    Calls Tryz.prog 124 #[.slice ao n cap, .func f #[] lb] w fun e w' =>
      e = .returned (.func (.func 188) #[] #[.pointer (some ⟨w.heap.size, 0, none⟩), .pointer (some ⟨w.heap.size + 1, 0, none⟩)]) ∧
      w' = (w.alloc (.cells #[.slice ao n cap] 50)).alloc (.cells #[.func f #[] lb] 214) := by
  go_enter Tryz.func124, Tryz.ntmps124
  go_wp2_with fail
  go_ret
  exact ⟨rfl, rfl⟩

theorem cp_placed_row (f : Fn) (lb : Array Value) (w : World) :
    Calls Tryz.prog 123 #[.func f #[] lb] w fun e w' =>
      e = .returned (.func (.func 187) #[] #[.pointer (some ⟨w.heap.size, 0, none⟩)]) ∧
      w' = w.alloc (.cells #[.func f #[] lb] 219) := by
  go_enter Tryz.func123, Tryz.ntmps123
  go_wp2_with fail
  go_ret
  exact ⟨rfl, rfl⟩

/-- A way over places and numbers: its data lie in blocks made since w. -/
def RowsWay (l : List Nat) (w : World) (e : Ending) (w' : World) : Prop :=
  ∃ c : Nat, e = .returned (.func (.func 187) #[] #[.pointer (some ⟨c, 0, none⟩)]) ∧ Below w.heap.size w w' ∧
    ∀ n, IterR Tryz.prog (n + 1) 187 #[.pointer (some ⟨c, 0, none⟩)] RowsHand (rowsOf l).zipIdx (fun k => w.heap.size ≤ k ∧ k < w'.heap.size) w'

theorem rowsF_le : ∀ (k : Nat) (l : List Nat), (rowsF k l).length ≤ l.length
  | 0, l => by simp [rowsF]
  | k + 1, l => by
    simp only [rowsF]
    cases h : cutL l with
    | none => simp
    | some x =>
      obtain ⟨n, s⟩ := x
      have h1 := cutL_pos h
      have h2 := rowsF_le k (l.drop s)
      rw [List.length_drop] at h2
      simp only [List.length_cons]; omega
theorem rowsOf_le (l : List Nat) : (rowsOf l).length ≤ l.length := rowsF_le _ l

set_option maxHeartbeats 1000000 in
theorem compact_Rows (v : Value) (l : List Nat) (w : World) (h : RdB w v l) (hb : ∀ b ∈ l, b < 256) (hl : l.length < 1000000000) :
    Calls Tryz.prog 51 #[v] w (RowsWay l w) := by
  have HR := Lib.hid h
  have HB := Lib.hid hb
  have HL := Lib.hid hl
  obtain ⟨ao, cap, rfl⟩ := h.lenOf
  clear h hb hl
  go_enter Tryz.func51, Tryz.ntmps51
  go_wp2_with (first | (go_at_call 121; refine (bytes_Clone _ _ _ HR.out (by have := HL.out; omega)).mono ?_; rintro e w1 ⟨v1, rfl, ho1, hb1, hs1⟩; have HO1 := Lib.hid ho1; have HB1 := Lib.hid hb1; obtain ⟨ao1, cap1, rfl⟩ := ho1.reads.lenOf; clear ho1 hb1) | (go_at_call 124; refine (cp_parts_row _ _ _ _ _ _).mono ?_; rintro e w2 ⟨rfl, hw2⟩; have HW2 := Lib.hid hw2; clear hw2) | (go_at_call 123; refine (cp_placed_row _ _ _).mono ?_; rintro e w3 ⟨rfl, hw3⟩; have HW3 := Lib.hid hw3; clear hw3) | fail)
  go_ret
  have hw2 := HW2.out
  have hw3 := HW3.out
  have hz2 : w2.heap.size = w1.heap.size + 2 := by rw [hw2]; simp
  have hz3 : w3.heap.size = w1.heap.size + 3 := by rw [hw3]; simp [hz2]
  have hB12 : Below w1.heap.size w1 w2 := by rw [hw2]; exact ((Below.refl _ w1).alloc (Nat.le_refl _) _).alloc (by simp) _
  have hB23 : Below w2.heap.size w2 w3 := by rw [hw3]; exact (Below.refl _ w2).alloc (Nat.le_refl _) _
  have hB13 : Below w1.heap.size w1 w3 := hB12.trans (hB23.mono (by omega))
  refine ⟨w2.heap.size, rfl, HB1.out.trans (hB13.mono hs1), fun n => ?_⟩
  have c1 : w3.cell? ⟨w1.heap.size, 0, none⟩ = some (.slice ao1 l.length cap1) := by
    have h2 : w2.cell? ⟨w1.heap.size, 0, none⟩ = some (.slice ao1 l.length cap1) := by
      rw [hw2]; exact ((Boxed.new w1 _ _).alloc _).cell
    exact (hB23.cell (p := ⟨w1.heap.size, 0, none⟩) (by show w1.heap.size < _; omega)).trans h2
  have c2 : w3.cell? ⟨w1.heap.size + 1, 0, none⟩ = some (.func (.func 125) #[] #[]) := by
    have h2 : w2.cell? ⟨w1.heap.size + 1, 0, none⟩ = some (.func (.func 125) #[] #[]) := by
      rw [hw2]
      have := (Boxed.new (w1.alloc (.cells #[.slice ao1 l.length cap1] 50)) 214 (.func (.func 125) #[] #[])).cell
      rwa [World.size_alloc] at this
    exact (hB23.cell (p := ⟨w1.heap.size + 1, 0, none⟩) (by show w1.heap.size + 1 < _; omega)).trans h2
  have c3 : w3.cell? ⟨w2.heap.size, 0, none⟩ = some (.func (.func 188) #[] #[.pointer (some ⟨w1.heap.size, 0, none⟩), .pointer (some ⟨w1.heap.size + 1, 0, none⟩)]) := by
    rw [hw3]; exact (Boxed.new w2 _ _).cell
  refine placed_row (n + 1) w2.heap.size _ (rowsOf l) w3 c3 _ ⟨by omega, by omega⟩ ?_ (by omega) (Nat.lt_of_le_of_lt (rowsOf_le l) HL.out)
  refine parts_row _ _ _ (.slice ao1 l.length cap1) l w3 c1 c2 (HO1.out.reads.below hB13) HB.out (Nat.le_of_lt HL.out) _ ⟨by omega, by omega⟩ ⟨by omega, by omega⟩ ?_
  intro a m c he hne
  injection he with he1 he2 he3
  subst he1
  have h := HO1.out
  rcases h.2 with ⟨h1, h0⟩ | ⟨g, cap, cur, hv, hg, hh, -⟩
  · cases h1
  · injection hv with hv
    injection hv with hv
    subst hv
    have hlt := (World.ownsRow.lt h g rfl).2
    exact ⟨hg, by show g < _; omega⟩
end Go.Proofs.YteioacpfphigjaaGreatDoor
end

section
namespace Go.Proofs.YteioacpfphigjaaGreatDoor
open Go.RowKit Go.Shelf
attribute [local go_sem] Oper.semAt_some
set_option linter.unusedVariables false

theorem info24 : (Tryz.prog.info? 50).map (fun i => (i.zero, i.size, i.bytes)) = some (some (.slice none 0 0), 1, 24) := by kernel_rfl

/-- A slice of slices that is owned from B on. -/
def OwnV (B : Nat) (v : Value) (us : List Value) (w : World) : Prop := w.ownsRow B 50 1 v us.length us

theorem enters_placedR : ∀ args w, (callFunc 187 args).run Tryz.prog w = .ok (.enter 187 args) w := enters_of Tryz.func187 (by kernel_rfl) rfl
theorem run_seq2R_nil (f : Fn) (lb : Array Value) (w : World) : (binOp .eql 58 (.func f #[] lb) .nilFunc).run Tryz.prog w = .ok (.bool false) w := by kernel_rfl
attribute [local go_sem] run_seq2R_nil

/-- Each of these slices owns its row, in blocks of Φ. -/
def RowsAt (us : List Value) (xs : List (List Nat)) (Φ : FP) (W : World) : Prop :=
  us.length = xs.length ∧ ∀ (i : Nat) (x : List Nat), xs[i]? = some x → ∃ ao cap, us[i]? = some (Value.slice ao x.length cap) ∧ OwnB 0 (.slice ao x.length cap) (BsM x) W ∧ ∀ k, (Value.slice ao x.length cap).ownBlock = some k → Φ k

theorem RowsAt.nil (Φ : FP) (W : World) : RowsAt [] [] Φ W := ⟨rfl, fun i x h => by simp at h⟩
theorem RowsAt.of {us : List Value} {xs : List (List Nat)} {Φ Φ' : FP} {W W' : World} (h : RowsAt us xs Φ W) (hΦ : ∀ k, Φ k → Φ' k) (hk : ∀ u l k, OwnB 0 u (BsM l) W → u.ownBlock = some k → Φ k → W'.heap[k]? = W.heap[k]?) : RowsAt us xs Φ' W' :=
  ⟨h.1, fun i x hi => by
    obtain ⟨ao, cap, h1, h2, h3⟩ := h.2 i x hi
    exact ⟨ao, cap, h1, h2.of (Nat.le_refl _) (fun k hk' => hk _ _ k h2 hk' (h3 k hk')), fun k hk' => hΦ k (h3 k hk')⟩⟩
theorem RowsAt.snoc {us : List Value} {xs : List (List Nat)} {Φ : FP} {W : World} (h : RowsAt us xs Φ W) {ao : Option Addr} {cap : Nat} {q : List Nat} (ho : OwnB 0 (.slice ao q.length cap) (BsM q) W) (hk : ∀ k, (Value.slice ao q.length cap).ownBlock = some k → Φ k) : RowsAt (us ++ [.slice ao q.length cap]) (xs ++ [q]) Φ W := by
  refine ⟨by simp [h.1], fun i x hi => ?_⟩
  by_cases hlt : i < xs.length
  · rw [List.getElem?_append_left hlt] at hi
    obtain ⟨ao', cap', h1, h2⟩ := h.2 i x hi
    exact ⟨ao', cap', by rw [List.getElem?_append_left (by rw [h.1]; exact hlt)]; exact h1, h2⟩
  · rw [List.getElem?_append_right (by omega)] at hi
    have hie : i = xs.length := by
      have := (List.getElem?_eq_some_iff.1 hi).1
      simp at this; omega
    subst hie
    simp at hi
    subst hi
    exact ⟨ao, cap, by rw [List.getElem?_append_right (by rw [h.1]; exact Nat.le_refl _)]; simp [h.1], ho, hk⟩
/-- A row's block is no row of slices. -/
theorem own_ne {S k : Nat} {u v : Value} {l us : List Value} {W : World} (h : OwnB 0 u l W) (hk : u.ownBlock = some k) (hv : OwnV S v us W) : v.ownBlock ≠ some k := by
  intro e
  rcases h.2 with ⟨rfl, _⟩ | ⟨g, cap, cur, rfl, _, hg, _⟩
  · cases hk
  · cases hk
    rcases hv.2 with ⟨rfl, _⟩ | ⟨g', cap', cur', rfl, _, hg', _⟩
    · cases e
    · cases e
      have := hg.symm.trans hg'
      simp at this

/-- What the loop has collected. -/
def CollRI (S b : Nat) (pre : List (List Nat × Nat)) (Φ : FP) (W : World) : Prop :=
  ∃ v us, Boxed W b 51 v ∧ OwnV S v us W ∧ RowsAt us (pre.map Prod.fst) Φ W ∧ (∀ k, v.ownBlock = some k → Φ k) ∧ (∀ k, Φ k → S ≤ k ∧ k < W.heap.size) ∧ S ≤ W.heap.size

theorem OwnV.of {S S' : Nat} {v : Value} {us : List Value} {w w' : World} (h : OwnV S v us w) (hS : S' ≤ S) (hk : ∀ k, v.ownBlock = some k → w'.heap[k]? = w.heap[k]?) : OwnV S' v us w' := by
  refine ⟨h.1, ?_⟩
  rcases h.2 with h | ⟨g, cap, cur, h1, h2, h3, h4⟩
  · exact .inl h
  · exact .inr ⟨g, cap, cur, h1, Nat.le_trans hS h2, (hk g (by rw [h1]; rfl)).trans h3, h4⟩
theorem OwnV.lenOf {S : Nat} {v : Value} {us : List Value} {w : World} (h : OwnV S v us w) : ∃ ao cap, v = .slice ao us.length cap := by
  rcases h.2 with ⟨rfl, h0⟩ | ⟨g, cap, cur, rfl, -⟩
  · exact ⟨none, 0, by rw [h0]⟩
  · exact ⟨_, cap, rfl⟩

theorem CollRI.stab {S b : Nat} (hb : b < S) : Stab S (CollRI S b) := by
  rintro pre Φ W ⟨v, us, hx, ho, hr, hv, hi, hs⟩
  exact ⟨hi, hs, fun W' hg hk => ⟨v, us, (hk b (.inl hb)).trans hx, ho.of (Nat.le_refl _) (fun k h => hk k (.inr (hv k h))), hr.of (fun _ h => h) (fun u l k _ _ h => hk k (.inr h)), hv, fun k h => ⟨(hi k h).1, Nat.lt_of_lt_of_le (hi k h).2 hg.size⟩, Nat.le_trans hs hg.size⟩⟩

theorem zip_atR {xs : List (List Nat)} {pre : List (List Nat × Nat)} {x : List Nat × Nat} (h : (pre ++ [x]) <+: xs.zipIdx) : x.2 = pre.length ∧ pre.length < xs.length := by
  obtain ⟨t, h⟩ := h
  have hl := congrArg List.length h
  simp at hl
  have hx : xs.zipIdx[pre.length]? = some x := by rw [← h]; simp
  rw [List.getElem?_zipIdx] at hx
  have hlt : pre.length < xs.length := by omega
  rw [List.getElem?_eq_getElem hlt] at hx
  simp at hx
  rw [← hx]
  exact ⟨by simp, hlt⟩

theorem rows_read {S : Nat} {v : Value} {us : List Value} {xs : List (List Nat)} {Φ : FP} {W : World} (ho : OwnV S v us W) (hr : RowsAt us xs Φ W) : RdBB W v xs := by
  have ho' := ho
  rcases ho.2 with ⟨rfl, h0⟩ | ⟨g, cap, cur, rfl, hg, hh, hc, -⟩
  · exact .inl ⟨rfl, List.length_eq_zero_iff.1 (by rw [← hr.1]; exact h0)⟩
  · refine .inr ⟨⟨g, 0, none⟩, cap, by rw [hr.1], by rw [← hr.1]; exact hc, fun i hi => ?_⟩
    obtain ⟨ao, c, h1, h2, -⟩ := hr.2 i xs[i] (by simp [hi])
    refine ⟨_, World.ownsRow.cells ho' rfl i _ h1, ?_⟩
    have e : xs.getD i [] = xs[i] := by simp [hi]
    rw [e]; exact h2.reads

/-- What comes back: all rows, in new memory. -/
def RowsGot (l : List Nat) (w : World) (e : Ending) (w' : World) : Prop :=
  ∃ v, e = .returned (.tuple #[v, .bool true]) ∧ RdBB w' v (rowsOf l) ∧ Below w.heap.size w w'

end Go.Proofs.YteioacpfphigjaaGreatDoor
end

section
namespace Go.Proofs.YteioacpfphigjaaGreatDoor
open Go.RowKit
set_option linter.unusedVariables false

theorem takeL_cut {n : Nat} (k : Nat) (hk : k < sizeN n) : takeL ((numL n).take k) = none := by
  by_cases h0 : k = 0
  · subst h0; rfl
  have hs := numL_size n
  have hne : (numL n).take k ≠ [] := by
    intro e
    have := congrArg List.length e
    rw [List.length_take] at this
    simp only [List.length_nil] at this
    have := (sizeN_le n).1
    omega
  have h1 : ((numL n).take k).getD 0 0 = (numL n).getD 0 0 := by
    simp only [List.getD_eq_getElem?_getD, List.getElem?_take]
    rw [if_pos (by omega)]
  simp only [takeL, if_neg hne, h1, numL_told]
  rw [if_pos (by right; rw [List.length_take]; omega)]

end Go.Proofs.YteioacpfphigjaaGreatDoor
end

section
namespace Go.Proofs.YteioacpfphigjaaGreatDoor
open Go.RowKit Go.Shelf
set_option linter.unusedVariables false

theorem i64_and65535 (n : Int) : bits .and .i64 n 65535 = n % 65536 := by
  have h1 : (BitVec.ofInt 64 65535).toNat = 2 ^ 16 - 1 := by decide
  have key : (BitVec.ofInt 64 n &&& BitVec.ofInt 64 65535).toNat = (n % ((2 ^ 64 : Nat) : Int)).toNat % 2 ^ 16 := by
    rw [BitVec.toNat_and, BitVec.toNat_ofInt, h1, Nat.and_two_pow_sub_one_eq_mod]
  show IntKind.i64.wrap ((BitVec.ofInt 64 n &&& BitVec.ofInt 64 65535).toNat : Nat) = n % 65536
  rw [key, IntKind.wrap_i64]
  omega

/-- What reads as these bytes, cut short. -/
theorem takeL_short {n : Nat} (hn : n ≤ 4611686018427387904) (t : List Nat) (c : Nat) (hc : c < sizeN n) : takeL ((numL n ++ t).take c) = none := by
  rw [List.take_append_of_le_length (by rw [numL_size]; omega)]
  exact takeL_cut c hc
theorem cutL_short {p : List Nat} (hp : p.length ≤ 4611686018427387904) (t : List Nat) {c : Nat} (hc : c < (rowL p).length) : cutL ((rowL p ++ t).take c) = none := by
  have hl := numL_size p.length
  have hrl : (rowL p).length = sizeN p.length + p.length := by rw [rowL, List.length_append, hl]
  rw [List.take_append_of_le_length (by omega)]
  by_cases h : c < sizeN p.length
  · have ht := takeL_short hp p c h
    unfold cutL rowL
    rw [ht]
  · have e : (rowL p).take c = numL p.length ++ p.take (c - sizeN p.length) := by
      rw [rowL, List.take_append, hl, List.take_of_length_le (by rw [hl]; omega)]
    unfold cutL
    rw [e, takeL_num hp]
    simp only [List.length_append, List.length_take, hl]
    rw [if_pos (by omega)]
theorem rowsOf_row {p : List Nat} (hp : p.length ≤ 4611686018427387904) (t : List Nat) : rowsOf (rowL p ++ t) = p :: rowsOf t := by
  rw [rowsOf_some (cutL_row hp t), List.drop_left]
theorem rowsOf_rowsL (l : List (List Nat)) (h : longL l ≤ 3000) : rowsOf (rowsL l) = l := by
  induction l with
  | nil => rfl
  | cons p l ih =>
    simp only [longL] at h
    rw [rowsL, rowsOf_row (by omega), ih (by omega)]
theorem rowsOf_cut (l : List (List Nat)) (h : longL l ≤ 3000) (c : Nat) (hc : c < (rowsL l).length) : rowsOf ((rowsL l).take c) <+: l ∧ (rowsOf ((rowsL l).take c)).length < l.length := by
  induction l generalizing c with
  | nil => simp [rowsL] at hc
  | cons p l ih =>
    simp only [longL] at h
    simp only [rowsL] at hc ⊢
    by_cases hlt : c < (rowL p).length
    · rw [rowsOf_none (cutL_short (by omega) _ hlt)]
      exact ⟨⟨_, rfl⟩, by simp⟩
    · rw [List.length_append] at hc
      have e : (rowL p ++ rowsL l).take c = rowL p ++ (rowsL l).take (c - (rowL p).length) := by
        rw [List.take_append, List.take_of_length_le (by omega)]
      rw [e, rowsOf_row (by omega)]
      obtain ⟨⟨t, ht⟩, h2⟩ := ih (by omega) (c - (rowL p).length) (by omega)
      exact ⟨⟨t, by rw [List.cons_append, ht]⟩, by simp only [List.length_cons]; omega⟩
theorem rowsL_pos {l : List (List Nat)} (h : l ≠ []) : 0 < (rowsL l).length := by
  cases l with
  | nil => exact absurd rfl h
  | cons p l =>
    have := numL_size p.length
    have := sizeN_le p.length
    simp only [rowsL, rowL, List.length_append]; omega
end Go.Proofs.YteioacpfphigjaaGreatDoor
end

section
namespace Go.Proofs.YteioacpfphigjaaGreatDoor
open Go.RowKit Go.Shelf
set_option linter.unusedVariables false

end Go.Proofs.YteioacpfphigjaaGreatDoor
end

section
namespace Go.Proofs.YteioacpfphigjaaGreatDoor
open Go.RowKit Go.Shelf
set_option linter.unusedVariables false

/-- A reader at block b, with this left, which has not erred. -/
def RBox (w : World) (b : Nat) (v : Value) : Prop := w.heap[b]? = some (.cells #[v, .bool false] 97 (0, 0))

theorem RBox.cell0 {w : World} {b : Nat} {v : Value} (h : RBox w b v) : w.cell? ⟨b, 0, none⟩ = some v := by simp [World.cell?, show w.heap[b]? = _ from h]
theorem RBox.cell1 {w : World} {b : Nat} {v : Value} (h : RBox w b v) : w.cell? ⟨b, 1, none⟩ = some (.bool false) := by simp [World.cell?, show w.heap[b]? = _ from h]
theorem RBox.frozen {w : World} {b : Nat} {v : Value} (h : RBox w b v) (i : Nat) : w.frozen? ⟨b, i, none⟩ = false := by simp [World.frozen?, show w.heap[b]? = _ from h]
theorem RBox.lt {w : World} {b : Nat} {v : Value} (h : RBox w b v) : b < w.heap.size := (Array.getElem?_eq_some_iff.1 h).1
theorem RBox.set {w : World} {b : Nat} {v : Value} (v' : Value) (h : RBox w b v) : RBox (w.setCell ⟨b, 0, none⟩ v') b v' := by
  obtain ⟨hlt, hk⟩ := Array.getElem?_eq_some_iff.1 h
  show (w.heap.modify b _)[b]? = _
  rw [Array.getElem?_eq_getElem (by rw [Array.size_modify]; exact hlt), Array.getElem_modify_self, hk]
  rfl

/-- What comes back of a reader's Num. -/
def NumRead (b : Nat) (w0 : World) (l : List Nat) (n : Nat) (w : World) (e : Ending) (w' : World) : Prop :=
  e = .returned (.int .i64 (n : Nat)) ∧ Below b w w' ∧ ∃ ao cap, RBox w' b (.slice ao l.length cap) ∧ RdB w0 (.slice ao l.length cap) l

end Go.Proofs.YteioacpfphigjaaGreatDoor
end

section
namespace Go.Proofs.YteioacpfphigjaaGreatDoor
open Go.RowKit Go.Shelf
set_option linter.unusedVariables false

theorem heldN_eq (n : Int) : min (max n 0) 4611686018427387904 = (heldN n : Int) := by unfold heldN; omega
theorem numsOf_num {n : Nat} (hn : n ≤ 4611686018427387904) (t : List Nat) : numsOf (numL n ++ t) = n :: numsOf t := by
  rw [numsOf_some (takeL_num hn t), ← numL_size, List.drop_left]
theorem numsOf_numsL (l : List Int) (t : List Nat) : numsOf (numsL l ++ t) = l.map heldN ++ numsOf t := by
  induction l with
  | nil => simp [numsL]
  | cons a l ih => rw [numsL, List.append_assoc, numsOf_num (heldN_le a), ih]; rfl
theorem OwnM.at {B : Nat} {v : Value} {l : List Nat} {w : World} (h : OwnM B v l w) {i : Nat} (hi : i < l.length) :
    ∃ g cap, v = .slice (some ⟨g, 0, none⟩) l.length cap ∧ B ≤ g ∧ g < w.heap.size ∧ l.length ≤ cap ∧ w.cell? ⟨g, i, none⟩ = some (.int .i64 ((l.getD i 0 : Nat) : Int)) := by
  have h' := h
  rcases h.2 with ⟨rfl, h0⟩ | ⟨g, cap, cur, rfl, hg, hh, hc, -⟩
  · rw [h0] at hi; omega
  · have hlt := World.ownsRow.lt h' g rfl
    have := World.ownsRow.cells h' rfl i (.int .i64 ((l.getD i 0 : Nat) : Int)) (by simp [IsM, hi])
    refine ⟨g, cap, rfl, hg, hlt.2, hc, ?_⟩
    rwa [add_at, Nat.zero_add] at this
theorem RdIM.at {w : World} {v : Value} {l : List Int} (h : RdIM w v l) {i : Nat} (hi : i < l.length) :
    ∃ blk off cap, v = .slice (some ⟨blk, off, none⟩) l.length cap ∧ l.length ≤ cap ∧ blk < w.heap.size ∧ w.cell? ⟨blk, off + i, none⟩ = some (.int .i64 (l.getD i 0)) := by
  rcases h with ⟨-, rfl⟩ | ⟨⟨blk, off, spot⟩, cap, rfl, hc, hcell⟩
  · simp at hi
  · have hs : spot = none := by
      have := World.cell?_spot (hcell 0 (by omega)); simpa [Addr.add] using this
    subst hs
    have hb := cell_block (hcell i hi)
    have hx := hcell i hi
    rw [add_at] at hx
    exact ⟨blk, off, cap, rfl, hc, hb, hx⟩

end Go.Proofs.YteioacpfphigjaaGreatDoor
end

section
namespace Go.Proofs.YteioacpfphigjaaGreatDoor
open Go.RowKit Go.Shelf
attribute [local go_sem] Oper.semAt_some run_seq2_nil run_seq2R_nil
set_option linter.unusedVariables false

theorem numsOf_zeros (n : Nat) : numsOf (List.replicate n 0) = List.replicate n 0 := by
  induction n with
  | zero => rfl
  | succ n ih =>
    have h := numsOf_num (n := 0) (by omega) (List.replicate n 0)
    have e : numL 0 = [0] := by rfl
    rw [e, ih] at h
    exact h
theorem rowsOf_zeros (n : Nat) : rowsOf (List.replicate n 0) = List.replicate n [] := by
  induction n with
  | zero => rfl
  | succ n ih =>
    have h := rowsOf_row (p := []) (by simp) (List.replicate n 0)
    have e : rowL [] = [0] := by rfl
    rw [e, ih] at h
    exact h

theorem info5' : (Tryz.prog.info? 5).map (fun i => (i.zero, i.size, i.bytes)) = some (some (.int .u8 0), 1, 1) := by kernel_rfl
theorem run_make_bytes (n : Nat) (hn : n ≤ 1000) (w : World) : (Instr.makeSlice 50 (.int .i64 (n : Int)) (.int .i64 (n : Int))).run Tryz.prog w = .ok (.slice (some ⟨w.heap.size, 0, none⟩) n n) (w.alloc (.cells (madeCells #[.int .u8 0] n) 5)) :=
  run_make_row' 50 5 (.int .u8 0) 1 Tryz.underlying50 info5' rfl .i64 .i64 n (by omega) (by omega) w

theorem pre_zero {α : Type} {z : α} {n : Nat} {pre : List (α × Nat)} {q : α} {i : Nat} (h : (pre ++ [(q, i)]) <+: (List.replicate n z).zipIdx) : q = z ∧ i = pre.length ∧ pre.length < n := by
  have hm := h.map Prod.fst
  have h2 : q ∈ List.replicate n z := by
    have : (List.replicate n z).zipIdx.map Prod.fst = List.replicate n z := by simp
    rw [this] at hm
    exact hm.subset (by simp)
  obtain ⟨t, ht⟩ := h
  have hl := congrArg List.length ht
  simp at hl
  have hx : (List.replicate n z).zipIdx[pre.length]? = some (q, i) := by rw [← ht]; simp
  have hlt : pre.length < n := by omega
  rw [List.getElem?_zipIdx, List.getElem?_eq_getElem (by simpa using hlt)] at hx
  simp at hx
  exact ⟨List.eq_of_mem_replicate h2, hx.2.symm, hlt⟩

/-- What a loop that counts holds: the count, the bound. -/
def StopI {α : Type} (S b b0 s : Nat) (pre : List α) (Φ : FP) (W : World) : Prop :=
  (∀ k, ¬ Φ k) ∧ Boxed W b 3 (.int .i64 (pre.length : Nat)) ∧ Boxed W b0 3 (.int .i64 (s : Nat)) ∧ pre.length < s ∧ S ≤ W.heap.size
def StopX {α : Type} (S b b0 s id : Nat) (c : Code) (pre : List α) (Φ : FP) (W : World) : Prop :=
  c = .exit id ∧ (∀ k, ¬ Φ k) ∧ Boxed W b 3 (.int .i64 (pre.length : Nat)) ∧ Boxed W b0 3 (.int .i64 (s : Nat)) ∧ pre.length = s ∧ S ≤ W.heap.size
theorem StopI.stab {α : Type} {S b b0 s : Nat} (hb : b < S) (hb0 : b0 < S) : Stab S (StopI (α := α) S b b0 s) := by
  rintro pre Φ W ⟨h1, h2, h3, h4, h5⟩
  exact ⟨fun k hk => (h1 k hk).elim, h5, fun W' hg hk => ⟨h1, (hk b (.inl hb)).trans h2, (hk b0 (.inl hb0)).trans h3, h4, Nat.le_trans h5 hg.size⟩⟩
theorem StopX.stab {α : Type} {S b b0 s id : Nat} (hb : b < S) (hb0 : b0 < S) (c : Code) : Stab S (StopX (α := α) S b b0 s id c) := by
  rintro pre Φ W ⟨h0, h1, h2, h3, h4, h5⟩
  exact ⟨fun k hk => (h1 k hk).elim, h5, fun W' hg hk => ⟨h0, h1, (hk b (.inl hb)).trans h2, (hk b0 (.inl hb0)).trans h3, h4, Nat.le_trans h5 hg.size⟩⟩

theorem below_put {B D : Nat} {w W : World} {o : Obj} (h : Below B w W) (hD : B ≤ D) : Below B w (W.putObj D o) :=
  h.trans ⟨rfl, rfl, rfl, by simp [World.putObj], fun k hk => put_other (by omega)⟩

theorem zeros_read (W : World) (n : Nat) : RdB (W.alloc (.cells (madeCells #[.int .u8 0] n) 5)) (.slice (some ⟨W.heap.size, 0, none⟩) n n) (List.replicate n 0) := by
  refine .inr ⟨⟨W.heap.size, 0, none⟩, n, by simp, by simp, fun i hi => ?_⟩
  rw [List.length_replicate] at hi
  rw [add_at]
  have h := World.alloc_heap_new W (.cells (madeCells #[.int .u8 0] n) 5)
  simp only [World.cell?]
  rw [h]
  simp [madeCells, hi, Nat.mod_one]

end Go.Proofs.YteioacpfphigjaaGreatDoor
end

section
namespace Go.Proofs.YteioacpfphigjaaGreatDoor
open Go.RowKit Go.Maps Go.Shelf
attribute [local go_sem] Oper.semAt_some
set_option linter.unusedVariables false
set_option linter.unusedSimpArgs false

theorem script_Rows (v : Value) (l : List Nat) (w : World) (h : RdB w v l) (hb : ∀ b ∈ l, b < 256) (hl : l.length < 1000000000) :
    Calls Tryz.prog 22 #[v] w (RowsWay l w) := by
  have HC := Lib.hid (compact_Rows v l w h hb hl)
  clear h hb hl
  go_enter Tryz.func22, Tryz.ntmps22
  go_wp2_with (first
    | (go_at_call 51; refine HC.out.mono ?_; rintro e w1 ⟨c, rfl, hb1, hit⟩; have H1 := Lib.hid (And.intro hb1 hit); clear hb1 hit)
    | fail)
  exact bodyPost_ret (v := .func (.func 187) #[] #[.pointer (some ⟨c, 0, none⟩)]) (by simp [results, Tryz.results22, go_sem]) rfl ⟨c, rfl, H1.out.1, H1.out.2⟩
theorem ChAt.keepC {N c g gl vb r gb pb ab : Nat} {F : FP} {A : Acc} {ts : List Trk} {now : Int} {w w' : World} (h : ChAt N c g gl vb r gb pb ab F A ts now w) (hs : w.heap.size ≤ w'.heap.size) (hk : ∀ k, k ≤ c → w'.heap[k]? = w.heap[k]?) : ChAt N c g gl vb r gb pb ab F A ts now w' :=
  ⟨(hk c (Nat.le_refl _)).trans h.blk, (hk g (by have := h.lg.1; omega)).trans h.ld, h.re.keep hs (fun k hF _ => hk k (by have := h.fp k hF; omega)), (hk ab (by have := h.lg.2; omega)).trans h.ag, h.fp, h.lg, h.lo⟩
theorem resInfo : (Tryz.prog.info? 70).map (fun i => (i.zero, i.size, i.bytes)) = some (some (.agg #[.int .i64 0, .slice none 0 0]), 2, 32) := by kernel_rfl
/-- Blocks in which nothing happened. -/
def resF (x : Unit) : List Value := [.int .i64 0, .slice none 0 0]
def resR : RowTy Tryz.prog Unit where
  T := 70
  S := 67
  k := 2
  f := resF
  len := fun _ => rfl
  one := fun x u hu => by
    simp only [resF, List.mem_cons, List.not_mem_nil, or_false] at hu
    rcases hu with rfl | rfl <;> rfl
  pos := by decide
  small := by decide
  slice := Tryz.underlying67
  info := by
    obtain ⟨i0, hi, hz⟩ := Option.map_eq_some_iff.1 resInfo
    simp only [Prod.mk.injEq] at hz
    obtain ⟨h1, h2, h3⟩ := hz
    exact ⟨i0, _, _, hi, h1, h2, rfl, h3, by decide⟩
  row := ⟨_, Tryz.underlying70, rfl⟩
set_option maxHeartbeats 4000000 in
set_option maxRecDepth 100000 in
theorem script_run0 {N c g gl vb r gb pb ab : Nat} {F : FP} {A : Acc} {ts : List Trk} {now : Int} {w : World} (h : ChAt N c g gl vb r gb pb ab F A ts now w) (h0 : 0 ≤ now) (h1 : now < 1000000000) (ao : Option Addr) (cap : Nat) :
    Calls Tryz.prog 58 #[.pointer (some ⟨c, 0, none⟩), .slice ao 0 cap] w fun e w' => e = .returned (.agg #[.int .i64 0, .slice none 0 0]) ∧ ChAt N c g gl vb r gb pb ab F A ts (now + 1) w' ∧ Grow w w' ∧ ∀ k, k < w.heap.size → k ≠ c → w'.heap[k]? = w.heap[k]? := by
  obtain ⟨rb, hrb⟩ : ∃ rb, rb = w.heap.size := ⟨_, rfl⟩
  obtain ⟨W0, hW0⟩ : ∃ W0, W0 = w.alloc (.cells #[.int .i64 0, .slice none 0 0] 70) := ⟨_, rfl⟩
  have hb0 : Below w.heap.size w W0 := by rw [hW0]; exact (Below.refl _ w).alloc (Nat.le_refl _) _
  have hc0 := h.below hb0
  have hcl : c < w.heap.size := (Array.getElem?_eq_some_iff.1 h.blk).1
  have hr0 : W0.heap[rb]? = some (.cells #[.int .i64 0, .slice none 0 0] 70 (0, 0)) := by rw [hW0, hrb]; exact World.alloc_heap_new _ _
  have HC := Lib.hid (And.intro hc0 (And.intro h0 h1))
  have HW0 := Lib.hid hW0
  have HR := Lib.hid (And.intro hrb (And.intro hcl (And.intro hr0 hb0)))
  clear h h0 h1 hc0 hW0 hcl hr0 hb0
  go_enter Tryz.func58, Tryz.ntmps58
  go_wp2_with (first
    | (go_at_call 10; rw [← HW0.out]; refine (chain_Block0 HC.out.1 HC.out.2.1 HC.out.2.2).mono ?_; rintro e w4 ⟨rfl, hch, hb, ho⟩; obtain ⟨hrb, hcl, hr0, hb0⟩ := HR.out; have hr4 := (ho rb (by have := (Array.getElem?_eq_some_iff.1 hr0).1; omega) (by omega)).trans hr0; have H4 := Lib.hid (And.intro hch (And.intro hb ho)); have HR4 := Lib.hid hr4; rw [hrb] at hr4; have x0 : w4.cell? ⟨w.heap.size, 0, none⟩ = some (.int .i64 0) := by { rw [World.cell?, hr4]; rfl }; have x1 : w4.cell? ⟨w.heap.size, 1, none⟩ = some (.slice none 0 0) := by { rw [World.cell?, hr4]; rfl }; have y0 : w4.frozen? ⟨w.heap.size, 0, none⟩ = false := by { rw [World.frozen?, hr4]; rfl }; have y1 : w4.frozen? ⟨w.heap.size, 1, none⟩ = false := by { rw [World.frozen?, hr4]; rfl }; clear hch hb ho hrb hcl hr0 hb0 hr4)
    | fail)
  obtain ⟨hrb', hcl, hr0, hb0⟩ := HR.out
  obtain ⟨hch, hb, ho⟩ := H4.out
  have hr4 := HR4.out
  rw [hrb] at hr4
  obtain ⟨W5, hW5⟩ : ∃ W5, W5 = (w4.setCell ⟨w.heap.size, 0, none⟩ (.int .i64 0)).setCell ⟨w.heap.size, 1, none⟩ (.slice none 0 0) := ⟨_, rfl⟩
  have hother : ∀ k, k ≠ w.heap.size → W5.heap[k]? = w4.heap[k]? := fun k hk => by rw [hW5, Below.heap_setCell _ _ _ k hk, Below.heap_setCell _ _ _ k hk]
  have hr5 : W5.heap[w.heap.size]? = some (.cells #[.int .i64 0, .slice none 0 0] 70 (0, 0)) := by
    rw [hW5]; simp [World.setCell, Array.getElem?_modify, hr4]
  have hs5 : W5.heap.size = w4.heap.size := by rw [hW5]; simp [World.setCell]
  have k0 : W5.cell? ⟨w.heap.size, 0, none⟩ = some (.int .i64 0) := by rw [World.cell?, hr5]; rfl
  have k1 : W5.cell? ⟨w.heap.size, 1, none⟩ = some (.slice none 0 0) := by rw [World.cell?, hr5]; rfl
  have hgw : Grow w4 W5 := by rw [hW5]; exact ⟨rfl, rfl, rfl, by simp [World.setCell]⟩
  have hs0 := hb0.size
  rw [← hW5]
  refine bodyPost_ret (v := .agg #[.int .i64 0, .slice none 0 0]) (by simp [results, Tryz.results58, go_sem, k0, k1]) rfl ⟨rfl, hch.keepC (by omega) (fun k hk => hother k (by omega)), (Grow.of_below hb0).trans ((Grow.of_below hb).trans hgw), fun k hk hne => ?_⟩
  rw [hother k (by omega), ho k (by omega) hne]
  exact hb0.block k hk
end Go.Proofs.YteioacpfphigjaaGreatDoor
end

section
namespace Go.Proofs.YteioacpfphigjaaGreatDoor
open Go.RowKit Go.Maps Go.Shelf
attribute [local go_sem] Oper.semAt_some
set_option linter.unusedVariables false
set_option linter.unusedSimpArgs false

def appRs (args : Array Value) : Sem Value := Builtin.append_ #[67, 67] 67 args
theorem appRs_hide (args : Array Value) : Builtin.append_ #[67, 67] 67 args = appRs args := rfl
/-- What the loop over empty rows holds. -/
structure RunC (N N0 b2 b5 b6 c g gl vb r gb pb ab : Nat) (F : FP) (A : Acc) (ts : List Trk) (now : Int) (pre : List (List Nat × Nat)) (Φ : FP) (W : World) (v : Value) : Prop where
  x2 : Boxed W b2 32 (.pointer (some ⟨c, 0, none⟩))
  x5 : Boxed W b5 67 v
  own : OwnR resR N0 v (List.replicate pre.length ()) W
  iff : ∀ k, Φ k ↔ v.ownBlock = some k
  x6 : Boxed W b6 3 (.int .i64 (pre.length : Nat))
  ch : ChAt N c g gl vb r gb pb ab F A ts (now + (pre.length : Nat)) W
  sz : N0 ≤ W.heap.size
def RunI (N N0 b2 b5 b6 c g gl vb r gb pb ab : Nat) (F : FP) (A : Acc) (ts : List Trk) (now : Int) (pre : List (List Nat × Nat)) (Φ : FP) (W : World) : Prop := ∃ v, RunC N N0 b2 b5 b6 c g gl vb r gb pb ab F A ts now pre Φ W v
section
variable {N N0 b2 b5 b6 c g gl vb r gb pb ab : Nat} {F : FP} {A : Acc} {ts : List Trk} {now : Int} {pre : List (List Nat × Nat)} {Φ : FP} {W : World} {v : Value}
theorem RunI.stab (h2 : b2 < N0) (h5 : b5 < N0) (h6 : b6 < N0) (hc : c < N0) : Stab N0 (RunI N N0 b2 b5 b6 c g gl vb r gb pb ab F A ts now) := by
  rintro pre Φ W ⟨v, h⟩
  exact ⟨fun k hk => h.own.block ((h.iff k).1 hk), h.sz, fun W' hg hk => ⟨v, (hk b2 (.inl h2)).trans h.x2, (hk b5 (.inl h5)).trans h.x5, h.own.of (Nat.le_refl _) (fun k e => hk k (.inr ((h.iff k).2 e))), h.iff, (hk b6 (.inl h6)).trans h.x6, h.ch.keepC hg.size (fun k hk' => hk k (.inl (by omega))), Nat.le_trans h.sz hg.size⟩⟩
/-- Behind a block: the results' row, and what an append to it comes to. -/
theorem RunC.call (h : RunC N N0 b2 b5 b6 c g gl vb r gb pb ab F A ts now pre Φ W v) (hlen : pre.length ≤ 1000) (hc : c < b2) (h2 : b2 < b5) (h56 : b5 < b6) (h6 : b6 < N0) {w2 : World} (hg : Grow W.drew w2) (ho : ∀ k, k < W.drew.heap.size → k ≠ c → w2.heap[k]? = W.drew.heap[k]?) :
    w2.cell? ⟨b5, 0, none⟩ = some v ∧ (w2.alloc (.cells #[.int .i64 0, .slice none 0 0] 70)).cell? ⟨b5, 0, none⟩ = some v ∧
    ∃ ao2 m2 cap2 w3, (appRs #[v, .slice (some ⟨w2.heap.size, 0, none⟩) 1 1]).run Tryz.prog (w2.alloc (.cells #[.int .i64 0, .slice none 0 0] 70)) = .ok (.slice ao2 m2 cap2) w3 ∧ w3.cell? ⟨b5, 0, none⟩ = some v ∧ w3.frozen? ⟨b5, 0, none⟩ = false ∧
      OwnR resR N0 (.slice ao2 m2 cap2) (List.replicate (pre.length + 1) ()) w3 ∧ (w2.alloc (.cells #[.int .i64 0, .slice none 0 0] 70)).grownBy w3 v.ownBlock ∧ ((Value.slice ao2 m2 cap2).ownBlock = v.ownBlock ∨ (Value.slice ao2 m2 cap2).ownBlock = some (w2.heap.size + 1)) ∧ Boxed w3 b6 3 (.int .i64 (pre.length : Nat)) := by
  have hs : W.heap.size ≤ w2.heap.size := hg.size
  have x5 : Boxed w2 b5 67 v := (ho b5 h.x5.lt (by omega)).trans h.x5
  have x5' : Boxed (w2.alloc (.cells #[.int .i64 0, .slice none 0 0] 70)) b5 67 v := x5.alloc _
  have hown : OwnR resR N0 v (List.replicate pre.length ()) (w2.alloc (.cells #[.int .i64 0, .slice none 0 0] 70)) := h.own.of (Nat.le_refl _) (fun k e => by
    obtain ⟨h1, h3⟩ := h.own.block e
    rw [Below.heap_alloc _ _ _ (by omega)]
    exact ho k h3 (by omega))
  obtain ⟨v', w3, e1, e2, e3, e4, -⟩ := run_appR (r := resR) (y := ()) hown (ub := w2.heap.size) (rangeAt_whole (T := 70) (cs := resF ()) (World.alloc_heap_new _ _)) (by simp; omega) (by have := h.sz; simp; omega) 67
  have hne : some b5 ≠ v.ownBlock := fun e => by have := (h.own.block e.symm).1; omega
  have x3 : Boxed w3 b5 67 v := x5'.kept e3 hne
  obtain ⟨ao2, cap2, rfl⟩ := e2.lenOf
  have y6 : Boxed w2 b6 3 (.int .i64 (pre.length : Nat)) := (ho b6 h.x6.lt (by omega)).trans h.x6
  have y6' : Boxed (w2.alloc (.cells #[.int .i64 0, .slice none 0 0] 70)) b6 3 (.int .i64 (pre.length : Nat)) := y6.alloc _
  exact ⟨x5.cell, x5'.cell, ao2, _, cap2, w3, e1, x3.cell, x3.frozen, by rw [List.replicate_succ']; exact e2, e3, by simpa using e4, y6'.kept e3 (fun e => by have := (h.own.block e.symm).1; omega)⟩
/-- A round. -/
theorem RunC.step (h : RunC N N0 b2 b5 b6 c g gl vb r gb pb ab F A ts now pre Φ W v) (hc : c < b2) (h2 : b2 < b5) (h56 : b5 < b6) (h6 : b6 < N0) {Ψ : FP} (hΨ5 : Ψ b5) (hΨ6 : Ψ b6) (hΨc : Ψ c) {w2 w3 : World} {u : Value} (hch : ChAt N c g gl vb r gb pb ab F A ts (now + (pre.length : Nat) + 1) w2) (hg : Grow W.drew w2) (ho : ∀ k, k < W.drew.heap.size → k ≠ c → w2.heap[k]? = W.drew.heap[k]?)
    (ho3 : OwnR resR N0 u (List.replicate (pre.length + 1) ()) w3) (hg3 : (w2.alloc (.cells #[.int .i64 0, .slice none 0 0] 70)).grownBy w3 v.ownBlock) (hat : u.ownBlock = v.ownBlock ∨ u.ownBlock = some (w2.heap.size + 1)) (x6 : Boxed w3 b6 3 (.int .i64 (pre.length : Nat))) (x : List Nat × Nat) :
    Leaves Ψ Φ W (fun Φ' W' => RunI N N0 b2 b5 b6 c g gl vb r gb pb ab F A ts now (pre ++ [x]) Φ' W') ((w3.setCell ⟨b5, 0, none⟩ u).setCell ⟨b6, 0, none⟩ (.int .i64 ((pre.length : Int) + 1))) := by
  have hs : W.heap.size ≤ w2.heap.size := hg.size
  have hs3 : w2.heap.size + 1 ≤ w3.heap.size := by have := hg3.size; simpa using this
  have hN := h.sz
  have hcN : c < N0 := by omega
  have hown : ∀ k, v.ownBlock = some k → N0 ≤ k ∧ k < W.heap.size := fun k e => h.own.block e
  -- blocks that stay
  have k3 : ∀ k, k < W.heap.size → k ≠ c → v.ownBlock ≠ some k → w3.heap[k]? = W.heap[k]? := fun k hk hne hv => by
    rw [hg3.block k (by simp; omega) (fun e => hv e.symm), Below.heap_alloc _ _ _ (by omega)]
    exact ho k hk hne
  have k3c : ∀ k, k ≤ c → w3.heap[k]? = w2.heap[k]? := fun k hk => by
    rw [hg3.block k (by simp; omega) (fun e => by have := (hown k e.symm).1; omega), Below.heap_alloc _ _ _ (by omega)]
  have nv : ∀ k, k < N0 → v.ownBlock ≠ some k := fun k hk e => by have := (hown k e).1; omega
  have hx5 : Boxed w3 b5 67 v := (k3 b5 h.x5.lt (by omega) (nv b5 (by omega))).trans h.x5
  have hx2 : Boxed w3 b2 32 (.pointer (some ⟨c, 0, none⟩)) := (k3 b2 h.x2.lt (by omega) (nv b2 (by omega))).trans h.x2
  have hkeep : ∀ k, k ≠ b5 → k ≠ b6 → ((w3.setCell ⟨b5, 0, none⟩ u).setCell ⟨b6, 0, none⟩ (.int .i64 ((pre.length : Int) + 1))).heap[k]? = w3.heap[k]? := fun k h1 h2 => (Below.heap_setCell _ _ _ k h2).trans (Below.heap_setCell _ _ _ k h1)
  have hl : ((pre ++ [x]).length : Int) = (pre.length : Int) + 1 := by simp
  refine ⟨fun k => u.ownBlock = some k, fun k hk => ?_, ⟨⟨?_, ?_, ?_, ?_⟩, fun k hk h1 h2' => ?_⟩, u, ?_⟩
  · rcases hat with e | e
    · exact .inl ((h.iff k).2 (by rw [← e]; exact hk))
    · rw [hk] at e
      injection e with e
      exact .inr (by omega)
  · exact hg3.os.trans hg.os
  · exact hg3.tape.trans hg.tape
  · exact hg3.output.trans hg.output
  · simp [World.setCell]; omega
  · rw [hkeep k (fun e => h1 (by rw [e]; exact hΨ5)) (fun e => h1 (by rw [e]; exact hΨ6))]
    exact k3 k hk (fun e => h1 (by rw [e]; exact hΨc)) (fun e => h2' ((h.iff k).2 e))
  · refine ⟨(hkeep b2 (by omega) (by omega)).trans hx2, (hx5.set u).other (by omega) _, ?_, fun k => Iff.rfl, ?_, ?_, by simp [World.setCell]; omega⟩
    · have e : (pre ++ [x]).length = pre.length + 1 := by simp
      rw [e]
      exact ho3.of (Nat.le_refl _) (fun k hk => hkeep k (by have := (ho3.block hk).1; omega) (by have := (ho3.block hk).1; omega))
    · have := (x6.other (show b6 ≠ b5 by omega) u).set (.int .i64 ((pre.length : Int) + 1))
      rw [show (((pre ++ [x]).length : Nat) : Int) = (pre.length : Int) + 1 by simp]
      exact this
    · rw [show now + (((pre ++ [x]).length : Nat) : Int) = now + (pre.length : Nat) + 1 by simp; omega]
      exact (hch.keepC (by omega) k3c).keepC (by simp [World.setCell]) (fun k hk => hkeep k (by omega) (by omega))
end
end Go.Proofs.YteioacpfphigjaaGreatDoor
end

section
namespace Go.Proofs.YteioacpfphigjaaGreatDoor
open Go.RowKit Go.Maps Go.Shelf
attribute [local go_sem] Oper.semAt_some
set_option linter.unusedVariables false
set_option linter.unusedSimpArgs false

theorem RunI.drewL {N N0 b2 b5 b6 c g gl vb r gb pb ab : Nat} {F : FP} {A : Acc} {ts : List Trk} {now : Int} {pre : List (List Nat × Nat)} {Φ Ψ β : FP} {W W' : World} (h2 : b2 < N0) (h5 : b5 < N0) (h6 : b6 < N0) (hc : c < N0) (h : Leaves Ψ Φ W (fun Φ' W' => RunI N N0 b2 b5 b6 c g gl vb r gb pb ab F A ts now pre Φ' W') W') :
    Leaves Ψ (fun k => Φ k ∨ β k) W (fun Φ' W' => RunI N N0 b2 b5 b6 c g gl vb r gb pb ab F A ts now pre Φ' W') W'.drew := by
  obtain ⟨Φ', h1, h3, h4⟩ := h
  exact ⟨Φ', fun k hk => (h1 k hk).imp .inl id, ⟨⟨h3.grow.os, h3.grow.tape, h3.grow.output, h3.grow.size⟩, fun k hk g1 g2 => h3.block k hk g1 (fun h => g2 (.inl h))⟩, (RunI.stab h2 h5 h6 hc _ _ _ h4).2.2 W'.drew ⟨rfl, rfl, rfl, Nat.le_refl _⟩ (fun _ _ => rfl)⟩
/-- All orders of a region meet, also in a round. -/
theorem regionF_meet {F : Fence} {n : Nat} {P : Program} {c : Code} {K : Act → World → Prop} {Q : Exit → Act → World → Prop} {a : Act} {w : World} {R : Act → World → Prop} (h : c.wpIn F n P (Exit.then R (fun _ _ _ => False)) a w) (hK : ∀ a w, R a w → K a w) : c.wpIn F n P (Exit.then K Q) a w :=
  wpIn_mono h (fun e a w hq => by cases e <;> first | exact hK _ _ hq | exact hq.elim)
set_option maxHeartbeats 4000000 in
set_option maxRecDepth 100000 in
attribute [local go_sem ↓] appRs_hide in
theorem script_RunZ {N c g gl vb r gb pb ab : Nat} {F : FP} {A : Acc} {ts : List Trk} {now : Int} {w : World} (h : ChAt N c g gl vb r gb pb ab F A ts now w) (h0 : 0 ≤ now) (h1 : now < 1000000) {zb n : Nat} (hn : n ≤ 1000) (hr : RdB w (.slice (some ⟨zb, 0, none⟩) n n) (List.replicate n 0)) :
    Calls Tryz.prog 26 #[.pointer (some ⟨c, 0, none⟩), .slice (some ⟨zb, 0, none⟩) n n] w fun e w' => ∃ v, e = .returned v ∧ OwnR resR w.heap.size v (List.replicate n ()) w' ∧ ChAt N c g gl vb r gb pb ab F A ts (now + n) w' ∧ Grow w w' ∧ ∀ k, k < w.heap.size → k ≠ c → w'.heap[k]? = w.heap[k]? := by
  refine (callsIn_wide (n := 3)).1 ?_
  obtain ⟨W0, hW0⟩ : ∃ W0, W0 = ((w.alloc (.cells #[.pointer (some ⟨c, 0, none⟩)] 32)).alloc (.cells #[.slice none 0 0] 67)).alloc (.cells #[.int .i64 0] 3) := ⟨_, rfl⟩
  obtain ⟨b2, hb2⟩ : ∃ b2, b2 = w.heap.size := ⟨_, rfl⟩
  obtain ⟨b5, hb5⟩ : ∃ b5, b5 = b2 + 1 := ⟨_, rfl⟩
  obtain ⟨b6, hb6⟩ : ∃ b6, b6 = b5 + 1 := ⟨_, rfl⟩
  have hb0 : Below w.heap.size w W0 := by rw [hW0]; exact (((Below.refl _ w).alloc (Nat.le_refl _) _).alloc (by simp) _).alloc (by simp; omega) _
  have hsz : W0.heap.size = b6 + 1 := by rw [hW0, hb6, hb5, hb2]; simp
  have x2 : Boxed W0 b2 32 (.pointer (some ⟨c, 0, none⟩)) := by rw [hW0, hb2]; exact ((Boxed.new w _ _).alloc _).alloc _
  have x5 : Boxed W0 b5 67 (.slice none 0 0) := by
    have := Boxed.new (w.alloc (.cells #[.pointer (some ⟨c, 0, none⟩)] 32)) 67 (.slice none 0 0)
    rw [World.size_alloc] at this
    rw [hW0, hb5, hb2]; exact this.alloc _
  have x6 : Boxed W0 b6 3 (.int .i64 0) := by
    have := Boxed.new ((w.alloc (.cells #[.pointer (some ⟨c, 0, none⟩)] 32)).alloc (.cells #[.slice none 0 0] 67)) 3 (.int .i64 0)
    rw [World.size_alloc, World.size_alloc] at this
    rw [hW0, hb6, hb5, hb2]; exact this
  have hcl : c < b2 := by rw [hb2]; exact (Array.getElem?_eq_some_iff.1 h.blk).1
  have HX := Lib.hid (And.intro x2 (And.intro x5 (And.intro x6 (h.below hb0))))
  have HRD := Lib.hid (hr.below hb0)
  have HW0 := Lib.hid hW0
  have HB := Lib.hid (And.intro hb2 (And.intro hb5 hb6))
  have HB0 := Lib.hid (And.intro hb0 hsz)
  have HN := Lib.hid (And.intro h0 (And.intro h1 hn))
  have hnI : (n : Int) ≤ 1000 := by omega
  clear x2 x5 x6 h hr hb0 hsz h0 h1 hn
  refine callsIn_of_wp_marks Tryz.func26 rfl trivial ?_ rfl
  simp only [Tryz.ntmps26, List.size_toArray, List.length_cons, List.length_nil, Nat.reduceAdd, Nat.reduceSub, Array.replicate_succ, Array.replicate_zero, List.push_toArray, List.append_toArray, List.nil_append, List.cons_append]
  clear hW0 hb2 hb5 hb6
  gi_wp2_with (first
    | (gi_at_call 22; rw [← HW0.out]; refine (callsIn_wide.2 (script_Rows _ (List.replicate n 0) _ HRD.out (fun b hb => by rw [List.eq_of_mem_replicate hb]; decide) (by rw [List.length_replicate]; have := HN.out.2.2; omega))).mono ?_; rintro e w1 ⟨kb, rfl, hb1, hit⟩; have H1 := Lib.hid (And.intro hb1 hit); clear hb1 hit)
    | (refine ⟨trivial, ?_⟩; gi_at_call 22; rw [← HW0.out]; refine (callsIn_wide.2 (script_Rows _ (List.replicate n 0) _ HRD.out (fun b hb => by rw [List.eq_of_mem_replicate hb]; decide) (by rw [List.length_replicate]; have := HN.out.2.2; omega))).mono ?_; rintro e w1 ⟨kb, rfl, hb1, hit⟩; have H1 := Lib.hid (And.intro hb1 hit); clear hb1 hit)
    | fail)
  rw [← HB.out.1, ← HB.out.2.1, ← HB.out.2.2]
  obtain ⟨hb1, hit⟩ := H1.out
  have hit := hit 0
  rw [rowsOf_zeros] at hit
  obtain ⟨x2, x5, x6, hch⟩ := HX.out
  have hs0 := HB0.out.2
  have hs1 := hb1.size
  have l56 : b5 < b6 := by have := HB.out.2.2; omega
  have l25 : b2 < b5 := by have := HB.out.2.1; omega
  have y2 : Boxed w1 b2 32 (.pointer (some ⟨c, 0, none⟩)) := (hb1.block b2 x2.lt).trans x2
  have y5 : Boxed w1 b5 67 (.slice none 0 0) := (hb1.block b5 x5.lt).trans x5
  have y6 : Boxed w1 b6 3 (.int .i64 0) := (hb1.block b6 x6.lt).trans x6
  have l6 : b6 < w1.heap.size := y6.lt
  have l5N : b5 < w1.heap.size := by omega
  have hch1 := hch.below hb1
  refine range_outerR (n := 1) (gf := 187) (lb := #[.pointer (some ⟨kb, 0, none⟩)]) rfl enters_placedR RowsHand.stab hit (Grow.refl _) (fun k hk => ⟨hk.2, rfl⟩) (by rintro x vs β W ⟨ao, cap, rfl, -⟩; rfl)
    (fun k => k = b5 ∨ k = b6 ∨ k = c) (by rintro k (rfl | rfl | rfl) <;> exact ⟨by omega, fun h => by omega⟩) (RunI N w1.heap.size b2 b5 b6 c g gl vb r gb pb ab F A ts now) (fun _ _ _ _ => False) (RunI.stab (by omega) (by omega) (by omega) (by omega)) (fun _ _ _ _ h => h.elim)
    ⟨_, y2, y5, OwnR.nil _ _, (fun k => ⟨fun h => h.elim, fun h => by cases h⟩), y6, by simpa using hch1, Nat.le_refl _⟩
    (fun vs => { tmps := #[.pointer (some ⟨c, 0, none⟩), .slice (some ⟨zb, 0, none⟩) n n, .pointer (some ⟨b2, 0, none⟩), undef, .slice none 0 0, .pointer (some ⟨b5, 0, none⟩), .pointer (some ⟨b6, 0, none⟩), undef, vs.getD 1 undef, .pointer (some ⟨c, 0, none⟩), .bool false, .slice (some ⟨zb, 0, none⟩) n n, .func (.func 187) #[] #[.pointer (some ⟨kb, 0, none⟩)], vs.getD 0 undef, vs.getD 1 undef, undef, undef, undef, undef, undef, undef, undef, undef, undef, undef, undef, undef, undef, undef, undef, undef, undef, undef, undef, undef, undef, undef, undef], defers := [] }) ?assign ?body ?done ?stop
  case assign =>
    rintro l x vs β W0 W K ⟨ao, cap, rfl, -⟩ hK
    gi_wp2
    exact hK
  case stop => rintro D Φ c pre W3 hpre h; exact h.elim
  case body =>
    rintro lp pre ⟨q, i⟩ vs β Φ W hpx ⟨v, hI⟩ ⟨aor, capr, rfl, hor, hib⟩ hβ hl hΦl -
    obtain ⟨rfl, rfl, hlt⟩ := pre_zero hpx
    simp only [List.getD_eq_getElem?_getD, List.length_nil]
    have hn := HN.out.2.2
    have hm1 : pre.length ≤ 1000 := by omega
    have hchd : ChAt N c g gl vb r gb pb ab F A ts (now + (pre.length : Nat)) W.drew := hI.ch.below (Below.refl _ W).drew
    have c2 := hI.x2.cell
    have c5 := hI.x5.cell
    have hnow : 0 ≤ now + (pre.length : Nat) ∧ now + (pre.length : Nat) < 1000000000 := by have := HN.out.1; have := HN.out.2.1; omega
    have hcall := fun w2 => hI.call (w2 := w2) hm1 hcl l25 l56 l6
    obtain ⟨m, hm⟩ : ∃ m, m = pre.length := ⟨_, rfl⟩
    rw [← hm] at hm1 hchd hnow
    have HI := Lib.hid hI
    have HCH := Lib.hid hchd
    have HNOW := Lib.hid hnow
    have HCL := Lib.hid hcall
    have HM := Lib.hid hm
    have HBT := Lib.hid (And.intro hβ (And.intro hl hΦl))
    clear hI hchd hnow hcall hm hβ hl hΦl hor hib hpx hit hb1 x2 x5 x6 hch y2 y5 y6 hch1
    have mixed : Tryz.prog.follows .mixedOrders = true := by kernel_rfl
    have c2d : W.drew.cell? ⟨b2, 0, none⟩ = some (.pointer (some ⟨c, 0, none⟩)) := c2
    have c5d : W.drew.cell? ⟨b5, 0, none⟩ = some v := c5
    gi_wp2_with fail
    refine regionF_meet (R := fun a wx => ∃ ub ao2 m2 cap2 w2 w3, a = { tmps := #[.pointer (some ⟨c, 0, none⟩), .slice (some ⟨zb, 0, none⟩) n n, .pointer (some ⟨b2, 0, none⟩), undef, .slice none 0 0, .pointer (some ⟨b5, 0, none⟩), .pointer (some ⟨b6, 0, none⟩), undef, .slice aor 0 capr, .pointer (some ⟨c, 0, none⟩), .bool false, .slice (some ⟨zb, 0, none⟩) n n, .func (.func 187) #[] #[.pointer (some ⟨kb, 0, none⟩)], .int .i64 pre.length, .slice aor 0 capr, v, .pointer (some ⟨c, 0, none⟩), .slice aor 0 capr, .agg #[.int .i64 0, .slice none 0 0], .slice (some ⟨ub, 0, none⟩) 1 1, .slice ao2 m2 cap2, undef, undef, undef, undef, undef, undef, undef, undef, undef, undef, undef, undef, undef, undef, undef, undef, undef], defers := [] } ∧ wx = w3.setCell ⟨b5, 0, none⟩ (.slice ao2 m2 cap2) ∧ Boxed w3 b6 3 (.int .i64 (pre.length : Nat)) ∧ ChAt N c g gl vb r gb pb ab F A ts (now + (m : Nat) + 1) w2 ∧ Grow W.drew w2 ∧ (∀ k, k < W.drew.heap.size → k ≠ c → w2.heap[k]? = W.drew.heap[k]?) ∧ OwnR resR w1.heap.size (.slice ao2 m2 cap2) (List.replicate (pre.length + 1) ()) w3 ∧ (w2.alloc (.cells #[.int .i64 0, .slice none 0 0] 70)).grownBy w3 v.ownBlock ∧ ((Value.slice ao2 m2 cap2).ownBlock = v.ownBlock ∨ (Value.slice ao2 m2 cap2).ownBlock = some (w2.heap.size + 1))) ?hr1 ?hr2
    case hr1 =>
      gi_region_with_o (first
        | (refine ⟨trivial, ?_⟩; gi_at_call 58; refine (CallsIn.inRound lp (callsIn_wide.2 (script_run0 HCH.out HNOW.out.1 HNOW.out.2 _ _))).mono ?_; rintro e w2 ⟨rfl, hch2, hg2, ho2⟩; obtain ⟨d5, d5', ao2, m2, cap2, w3, hrun, e5, f5, ho3, hg3, hat, hx6⟩ := HCL.out w2 hg2 ho2; have HX6 := Lib.hid hx6; clear hx6; have H2 := Lib.hid (And.intro hch2 (And.intro hg2 ho2)); have H3 := Lib.hid (And.intro ho3 (And.intro hg3 hat)); clear hch2 hg2 ho2 ho3 hg3 hat)
        | (gi_at_call 58; refine (CallsIn.inRound lp (callsIn_wide.2 (script_run0 HCH.out HNOW.out.1 HNOW.out.2 _ _))).mono ?_; rintro e w2 ⟨rfl, hch2, hg2, ho2⟩; obtain ⟨d5, d5', ao2, m2, cap2, w3, hrun, e5, f5, ho3, hg3, hat, hx6⟩ := HCL.out w2 hg2 ho2; have HX6 := Lib.hid hx6; clear hx6; have H2 := Lib.hid (And.intro hch2 (And.intro hg2 ho2)); have H3 := Lib.hid (And.intro ho3 (And.intro hg3 hat)); clear hch2 hg2 ho2 ho3 hg3 hat)
        | fail)
      all_goals exact ⟨_, _, _, _, _, _, rfl, rfl, HX6.out, H2.out.1, H2.out.2.1, H2.out.2.2, H3.out⟩
    case hr2 =>
      rintro _ wx ⟨ub, ao2, m2, cap2, w2, w3, rfl, rfl, hx6, hch2, hg2, ho2, ho3, hg3, hat⟩
      have H2 := Lib.hid (And.intro hch2 (And.intro hg2 ho2))
      have H3 := Lib.hid (And.intro ho3 (And.intro hg3 hat))
      have HX6 := Lib.hid hx6
      clear hch2 hg2 ho2 ho3 hg3 hat hx6
      obtain ⟨W4, hW4⟩ : ∃ W4, W4 = w3.setCell ⟨b5, 0, none⟩ (.slice ao2 m2 cap2) := ⟨_, rfl⟩
      have x6 : Boxed W4 b6 3 (.int .i64 (m : Nat)) := by
        rw [hW4, HM.out]; exact HX6.out.other (by omega) _
      have c6 : W4.drew.cell? ⟨b6, 0, none⟩ = some (.int .i64 m) := x6.cell
      have f6 : W4.drew.frozen? ⟨b6, 0, none⟩ = false := x6.frozen
      have hz : ((sizeN (heldN 0) : Nat) : Int) = 1 := by decide
      have HZ := Lib.hid hz
      have HW4 := Lib.hid hW4
      rw [← hW4]
      clear hz hW4 x6 c2d c5d c2 c5
      gi_wp2_with fail
      gi_region_with_o (first
        | (refine ⟨trivial, ?_⟩; gi_at_call 59; refine (CallsIn.inRound lp (callsIn_wide.2 (compact_Size 0 _ (by decide)))).mono ?_; rw [HZ.out]; rintro e w' ⟨rfl, hw⟩; rw [← hw]; clear hw w')
        | (gi_at_call 59; refine (CallsIn.inRound lp (callsIn_wide.2 (compact_Size 0 _ (by decide)))).mono ?_; rw [HZ.out]; rintro e w' ⟨rfl, hw⟩; rw [← hw]; clear hw w')
        | fail)
      all_goals
        have hw : IntKind.i64.wrap ((m : Int) + IntKind.i64.wrap 1) = (pre.length : Int) + 1 := by
          rw [show IntKind.i64.wrap 1 = 1 from by decide, HM.out]; exact IntWalk.i64_in _ (by omega)
        rw [hw, HW4.out]
        refine RunI.drewL (by omega) l5N l6 (by omega) ?_
        have e := H2.out.1
        rw [HM.out] at e
        exact RunC.step (Ψ := fun k => k = b5 ∨ k = b6 ∨ k = c) HI.out hcl l25 l56 l6 (Or.inl rfl) (Or.inr (Or.inl rfl)) (Or.inr (Or.inr rfl)) e H2.out.2.1 H2.out.2.2 H3.out.1 H3.out.2.1 H3.out.2.2 HX6.out _
  case done =>
    rintro D Φ W3 ⟨v, hI⟩ hon hD hnD hK
    have hzl : (List.replicate n ([] : List Nat)).zipIdx.length = n := by simp
    have c5 := hI.x5.cell
    have c6 := hI.x6.cell
    rw [hzl] at c6
    have HI := Lib.hid hI
    have HD := Lib.hid (And.intro hon (And.intro hD (And.intro hnD hK)))
    clear hI hon hD hnD hK
    gi_wp2_with fail
    obtain ⟨hon, hD, hnD, hK⟩ := HD.out
    have hI := HI.out
    refine ⟨by simp, .inl ⟨_, _, rfl, run_takeDeferred hK, ?_⟩⟩
    have hbw := HB0.out.1.size
    have hbB := HB.out.1
    have hown := hI.own
    have hch := hI.ch
    rw [hzl] at hown hch
    refine ⟨v, by simp [results, Tryz.results26, go_sem], v, rfl, hown.of (by omega) (fun k hk => put_other (fun e => hnD ((hI.iff D).2 (by rw [← e]; exact hk)))), hch.keepC (by simp [World.putObj]) (fun k hk => put_other (by omega)), ?_, fun k hk hne => ?_⟩
    · exact (Grow.of_below HB0.out.1).trans ((Grow.of_below hb1).trans (hon.grow.trans (put_grow _ _ _)))
    · rw [put_other (by omega), hon.block k (by omega) (fun h => by rcases h with h | h | h <;> omega) (fun h => h), hb1.block k (by omega)]
      exact HB0.out.1.block k hk
end Go.Proofs.YteioacpfphigjaaGreatDoor
end

section
namespace Go.Proofs.YteioacpfphigjaaGreatDoor
open Go.RowKit Go.Maps Go.Shelf
set_option linter.unusedVariables false
set_option linter.unusedSimpArgs false

theorem chain_Ledger {c g : Nat} {w : World} (hc : w.cell? ⟨c, 0, none⟩ = some (.pointer (some ⟨g, 0, none⟩))) : Calls Tryz.prog 12 #[.pointer (some ⟨c, 0, none⟩)] w fun e w' => e = .returned (.pointer (some ⟨g, 0, none⟩)) ∧ w' = w := by
  go_enter Tryz.func12, Tryz.ntmps12
  go_wp2
  exact bodyPost_ret (v := .pointer (some ⟨g, 0, none⟩)) (by simp [results, Tryz.results12, go_sem]) rfl ⟨rfl, rfl⟩
theorem free_cell {g k : Nat} (hk : k < 10) {v : Int} {w : World} (hc : w.cell? ⟨g, k * 2, none⟩ = some (.int .i64 v)) : Calls Tryz.prog 48 #[.pointer (some ⟨g, 0, none⟩), .int .i64 k] w fun e w' => e = .returned (.int .i64 v) ∧ w' = w := by
  have HK := Lib.hid hk
  clear hk
  go_enter Tryz.func48, Tryz.ntmps48
  go_wp2_with (first | (go_at_call 68; refine (ledger_account HK.out w).mono ?_; rintro e w' ⟨rfl, rfl⟩) | fail)
  exact bodyPost_ret (v := .int .i64 v) (by simp [results, Tryz.results48, go_sem]) rfl ⟨rfl, rfl⟩
set_option maxHeartbeats 4000000 in
set_option maxRecDepth 100000 in
theorem law14_known (w : World) : Calls Tryz.prog 17 #[] w fun e w' => e = .returned (.bool true) ∧ Below w.heap.size w w' := by
  go_enter Tryz.func17, Tryz.ntmps17
  go_wp2_with (first
    | (go_at_call 46; refine (law14_thousand _).mono ?_; rintro e w1 ⟨u, rfl, ho, hb⟩; have H1 := Lib.hid (And.intro ho hb); clear ho hb)
    | (go_at_call 47; refine (law14_tracks _).mono ?_; rintro e w2 ⟨tb, rfl, hr, hl, hlt, hb⟩; have H2 := Lib.hid (And.intro hr (And.intro hlt hb)); clear hr hl hlt hb)
    | (go_at_call 23; refine (chain_New0 (OwnN.readsI H1.out.1 |>.below H2.out.2.2) H2.out.1 H2.out.2.1).mono ?_; rintro e w3 ⟨c, g, gl, vb, r, gb, pb, ab, F, rfl, hch, hb⟩; have H3 := Lib.hid (And.intro hch hb); clear hch hb)
    | (go_at_call 10; refine (chain_Block0 H3.out.1 (by decide) (by decide)).mono ?_; rintro e w4 ⟨rfl, hch, hb, -⟩; have H4 := Lib.hid (And.intro hch hb); clear hch hb)
    | (go_at_call 11; refine (chain_Now H4.out.1.cells.2.2.2.2.1).mono ?_; rintro e w5 ⟨rfl, hw⟩; rw [hw]; clear hw w5)
    | (go_at_call 12; refine (chain_Ledger H4.out.1.cells.1).mono ?_; rintro e w5 ⟨rfl, hw⟩; rw [hw]; clear hw w5)
    | (go_at_call 48; refine (free_cell (k := 1) (by decide) (v := 1000) (cell_of H4.out.1.ld rfl)).mono ?_; rintro e w5 ⟨rfl, hw⟩; rw [hw]; clear hw w5)
    | fail)
  have h1 := H1.out.2
  have h2 := h1.trans (H2.out.2.2.mono h1.size)
  have h3 := h2.trans (H3.out.2.mono h2.size)
  exact bodyPost_ret (v := .bool true) (by simp [results, Tryz.results17, go_sem]) rfl ⟨rfl, h3.trans (H4.out.2.mono h2.size)⟩
end Go.Proofs.YteioacpfphigjaaGreatDoor
end

section
namespace Go.Proofs.YteioacpfphigjaaGreatDoor
open Go.RowKit Go.Maps
set_option linter.unusedVariables false
set_option linter.unusedSimpArgs false

theorem law15_flat (a : Int) (w : World) : Calls Tryz.prog 57 #[.int .i64 a] w fun e w' => e = .returned (.agg #[.int .i64 1, .int .i64 a, .int .i64 a, .int .i64 1, .int .i64 0]) ∧ Below w.heap.size w w' := by
  go_enter Tryz.func57, Tryz.ntmps57
  go_wp2_with fail
  exact bodyPost_ret (v := .agg #[.int .i64 1, .int .i64 a, .int .i64 a, .int .i64 1, .int .i64 0]) (by simp [results, Tryz.results57, go_sem]) rfl ⟨rfl, (Below.refl _ w).alloc (Nat.le_refl _) _⟩
set_option maxRecDepth 100000 in
set_option maxHeartbeats 4000000 in
theorem law15_tracks (w : World) : Calls Tryz.prog 25 #[] w fun e w' => ∃ b, e = .returned (.slice (some ⟨b, 0, none⟩) 2 2) ∧ w'.rangeAt b 0 (trkR.all [tcA, tcB]) ∧ w.heap.size ≤ b ∧ b < w'.heap.size ∧ Below w.heap.size w w' := by
  have tok : True := trivial
  go_enter Tryz.func25, Tryz.ntmps25
  go_upto_region 2 with (first
    | (go_at_call 57; have _t := tok; refine (law15_flat _ _).mono ?_; rintro e w1 ⟨rfl, hb⟩; have H1 := Lib.hid hb; clear hb tok)
    | (go_at_call 57; refine (law15_flat _ _).mono ?_; rintro e w2 ⟨rfl, hb⟩; have H2 := Lib.hid hb; clear hb)
    | (refine wpl_allocR (r := trkR) (ty := 108) rfl rfl rfl ?_; intro C hC)
    | (refine wpl_storeR (r := trkR) (ty := 108) (t := tcA) (C := C) _ _ rfl rfl rfl rfl rfl (World.alloc_heap_new w2 _) hC ?_; rw [World.setRow_alloc_new])
    | fail)
  obtain ⟨W0, hW0⟩ : ∃ W0, W0 = w2.alloc (.cells (trkR.f tcA).toArray 108) := ⟨_, rfl⟩
  obtain ⟨ta, hta⟩ : ∃ ta, ta = w2.heap.size := ⟨_, rfl⟩
  have hb0 : Below w.heap.size w W0 := by rw [hW0]; exact ((H1.out.trans (H2.out.mono H1.out.size))).alloc (by have := H1.out.size; have := H2.out.size; omega) _
  have hl0 : ta < W0.heap.size := by rw [hW0, hta]; simp
  have hr0 : W0.rangeAt ta 0 (trkR.f tcA) := by rw [hta, hW0]; exact rangeAt_whole (T := 108) (World.alloc_heap_new _ _)
  rw [show w2.alloc (.cells (trkR.f tcA).toArray 108) = W0 from hW0.symm, ← hta]
  have HB0 := Lib.hid (And.intro hb0 hl0)
  have R0 := Lib.hid hr0
  clear hW0 hta hC hb0 hl0 hr0
  go_upto_region 3 with (first
    | (refine wpl_allocR (r := trkR) (ty := 108) rfl rfl rfl ?_; intro C hC)
    | (refine wpl_loadR (r := trkR) (t := tcA) (b := ta) (k := 0) _ rfl rfl rfl R0.out ?_)
    | (refine wpl_storeR (r := trkR) (ty := 108) (t := tcA) (C := C) _ _ rfl rfl rfl rfl rfl (World.alloc_heap_new W0 _) hC ?_; rw [World.setRow_alloc_new])
    | fail)
  obtain ⟨W1, hW1⟩ : ∃ W1, W1 = W0.alloc (.cells (trkR.f tcA).toArray 108) := ⟨_, rfl⟩
  obtain ⟨tb, htb⟩ : ∃ tb, tb = W0.heap.size := ⟨_, rfl⟩
  have h1 : W1.heap[tb]? = some (.cells (trkR.f tcA).toArray 108 (0, 0)) := by rw [hW1, htb]; exact World.alloc_heap_new _ _
  have hb1 : Below W0.heap.size W0 W1 := by rw [hW1]; exact (Below.refl _ W0).alloc (Nat.le_refl _) _
  rw [show W0.alloc (.cells (trkR.f tcA).toArray 108) = W1 from hW1.symm, ← htb]
  have froz : ∀ {b i : Nat} {l : List Value} {W : World}, W.heap[b]? = some (.cells l.toArray 108 (0, 0)) → W.frozen? ⟨b, i, none⟩ = false := fun h => by simp [World.frozen?, h]
  have cell : ∀ {b i : Nat} {l : List Value} {v : Value} {W : World}, W.heap[b]? = some (.cells l.toArray 108 (0, 0)) → l[i]? = some v → W.cell? ⟨b, i, none⟩ = some v := fun h hv => by rw [World.cell?, h]; simpa using hv
  have x0 : W1.cell? ⟨tb, 0, none⟩ = some (.int .i64 2) := cell h1 rfl
  have x1 : W1.cell? ⟨tb, 17, none⟩ = some (.int .i64 0) := cell h1 rfl
  have x2 : W1.cell? ⟨tb, 16, none⟩ = some (.int .i64 50) := cell h1 rfl
  have x3 : W1.cell? ⟨tb, 5, none⟩ = some (.int .i64 2) := cell h1 rfl
  have y0 : W1.frozen? ⟨tb, 0, none⟩ = false := froz h1
  have y1 : W1.frozen? ⟨tb, 17, none⟩ = false := froz h1
  have y2 : W1.frozen? ⟨tb, 16, none⟩ = false := froz h1
  have y3 : W1.frozen? ⟨tb, 5, none⟩ = false := froz h1
  have HW := Lib.hid (And.intro h1 (And.intro hb1 htb))
  clear h1 hb1 htb hW1 hC froz cell
  go_upto_region 4 with fail
  obtain ⟨WX, hWX⟩ : ∃ WX, WX = (((W1.setCell ⟨tb, 0, none⟩ (.int .i64 1)).setCell ⟨tb, 17, none⟩ (.int .i64 2)).setCell ⟨tb, 16, none⟩ (.int .i64 1000)).setCell ⟨tb, 5, none⟩ (.int .i64 0) := ⟨_, rfl⟩
  rw [← hWX]
  have hset : ∀ {W : World} {b i : Nat} {l : List Value} {v : Value}, W.heap[b]? = some (.cells l.toArray 108 (0, 0)) → (W.setCell ⟨b, i, none⟩ v).heap[b]? = some (.cells (l.set i v).toArray 108 (0, 0)) := fun h => by simp [World.setCell, Array.getElem?_modify, h]
  have k2 : WX.heap[tb]? = some (.cells (trkR.f tcB).toArray 108 (0, 0)) := by rw [hWX]; exact hset (hset (hset (hset HW.out.1)))
  have hbX : Below W0.heap.size W0 WX := by
    rw [hWX]
    have e := HW.out.2.2
    exact HW.out.2.1.trans ⟨rfl, rfl, rfl, by simp [World.setCell], fun k hk => by rw [Below.heap_setCell _ _ _ k (by show k ≠ tb; omega), Below.heap_setCell _ _ _ k (by show k ≠ tb; omega), Below.heap_setCell _ _ _ k (by show k ≠ tb; omega), Below.heap_setCell _ _ _ k (by show k ≠ tb; omega)]⟩
  have k1 : WX.rangeAt ta 0 (trkR.f tcA) := rangeAt_block R0.out (hbX.block ta HB0.out.2)
  have hB : Below w.heap.size w WX := HB0.out.1.trans (hbX.mono HB0.out.1.size)
  have K1 := Lib.hid k1
  have K2 := Lib.hid (rangeAt_whole k2)
  have HB := Lib.hid hB
  clear hWX hset k1 k2 hbX hB x0 x1 x2 x3 y0 y1 y2 y3
  go_wp2_with (first
    | (refine wpl_loadR (r := trkR) (t := tcA) (b := ta) (k := 0) _ rfl rfl rfl K1.out ?_)
    | (refine wpl_loadR (r := trkR) (t := tcB) (b := tb) (k := 0) _ rfl rfl rfl K2.out ?_)
    | (refine wpl_buildTc _ _ rfl rfl rfl rfl ?_)
    | fail)
  exact bodyPost_ret (v := .slice (some ⟨WX.heap.size, 0, none⟩) 2 2) (by simp [results, Tryz.results25, go_sem]) rfl ⟨WX.heap.size, rfl, rangeAt_whole (T := 108) (World.alloc_heap_new _ _), HB.out.size, by simp, HB.out.alloc HB.out.size _⟩
set_option maxRecDepth 100000 in
set_option maxHeartbeats 4000000 in
theorem law15_thousand (w : World) : Calls Tryz.prog 24 #[] w fun e w' => ∃ u, e = .returned u ∧ OwnN w.heap.size u thouL w' ∧ Below w.heap.size w w' := by
  go_enter Tryz.func24, Tryz.ntmps24
  go_wp2_with fail
  go_loopw [1, 2] (fun u i wr => ∃ k : Nat, k ≤ 10 ∧ i = .int .i64 k ∧ OwnN w.heap.size u (List.replicate k 1000) wr ∧ Below w.heap.size w wr) (fun _ i _ => 10 - (intOf i).toNat)
  case atStart => exact ⟨0, by omega, rfl, OwnN.nil _ _, Below.refl _ _⟩
  case round =>
    obtain ⟨k, hk, rfl, how, hbl⟩ := hrel
    by_cases hlt : k < 10
    · have hlt' : (k : Int) < 10 := by omega
      have HS := Lib.hid (And.intro how hbl)
      clear how hbl
      go_wp2_with (first
        | (at_builtin; refine wpl_appN (B := w.heap.size) (ub := wr.heap.size) (xs := List.replicate k 1000) (y := 1000) rfl rfl rfl rfl (HS.out.1.of (Nat.le_refl _) (fun k hk => Below.heap_alloc _ _ _ (HS.out.1.block hk).2)) (by rw [World.cell?, World.alloc_heap_new]; rfl) (by rw [List.length_replicate]; omega) (by have := HS.out.2.size; rw [World.size_alloc]; omega) ?_; intro v' w4 hO4 hg4; have HO4 := Lib.hid hO4; have HG4 := Lib.hid hg4; clear hO4 hg4)
        | fail)
      go_roundw
      case rel => exact ⟨k + 1, by omega, by go_num, by rw [List.replicate_succ']; exact HO4.out, Below.grown (HS.out.2.alloc HS.out.2.size _) HG4.out (by have := HS.out.2.size; rw [World.size_alloc]; omega) (fun j hj => (HS.out.1.block hj).1)⟩
      case measure => simp [intOf]; omega
    · have hge : ¬ (k : Int) < 10 := by omega
      have hk10 : k = 10 := by omega
      subst hk10
      have HS := Lib.hid (And.intro how hbl)
      clear how hbl hlt hk
      go_wp2_with fail
      exact bodyPost_ret (v := u1) (by simp [results, Tryz.results24, go_sem]) rfl ⟨_, rfl, HS.out⟩
end Go.Proofs.YteioacpfphigjaaGreatDoor
end

section
namespace Go.Proofs.YteioacpfphigjaaGreatDoor
open Go.RowKit Go.Maps Go.Shelf
set_option linter.unusedVariables false
set_option linter.unusedSimpArgs false

set_option maxHeartbeats 4000000 in
set_option maxRecDepth 100000 in
theorem issued_cells {g gl : Nat} {A : Acc} {w : World} (hblk : w.heap[g]? = some (.cells (lcells A gl).toArray 115 (0, 0))) (hok : AccOk A) : Calls Tryz.prog 27 #[.pointer (some ⟨g, 0, none⟩)] w fun e w' => e = .returned (.int .i64 (sumTo A 10)) ∧ Below w.heap.size w w' := by
  have hrg : w.rangeAt g 0 (accs A 10) := fun i v hv => by
    have hl := accs_len A 10
    have hi := (List.getElem?_eq_some_iff.1 hv).1
    rw [Nat.zero_add]
    refine cell_of hblk ?_
    unfold lcells
    rw [List.getElem?_append_left hi]; exact hv
  obtain ⟨cs, hcs⟩ : ∃ cs, cs = (accs A 10).toArray := ⟨_, rfl⟩
  have hix := fun (k : Nat) (hk : k < 10) (w : World) => run_acc A hk w
  rw [← hcs] at hix
  have HRG := Lib.hid hrg
  have HIX := Lib.hid hix
  have HOK := Lib.hid hok
  have HCS := Lib.hid hcs
  clear hblk hrg hix hok hcs
  go_enter Tryz.func27, Tryz.ntmps27
  go_wp2_with (first
    | (refine wpList_load_mid rfl 112 _ rfl g 0 rfl (accs A 10) _ HRG.out Tryz.underlying112 rfl (by rw [accs_len]; exact accInfo) ?_; rw [← HCS.out])
    | fail)
  have tok1 : True := trivial
  go_loopw [3, 12] (fun s i wr => ∃ k : Nat, k ≤ 10 ∧ i = .int .i64 k ∧ s = .int .i64 (sumTo A k) ∧ Below w.heap.size w wr) (fun _ i _ => 10 - (intOf i).toNat)
  case atStart => exact ⟨0, by omega, rfl, rfl, Below.refl _ w⟩
  case round =>
    obtain ⟨k, hk, rfl, rfl, hb⟩ := hrel
    have HB := Lib.hid hb
    clear hb
    by_cases hlt : k < 10
    · have hlt' : (k : Int) < 10 := by omega
      obtain ⟨p, hp⟩ : ∃ p, p = (A k).1 := ⟨_, rfl⟩
      obtain ⟨q, hq⟩ : ∃ q, q = (A k).2 := ⟨_, rfl⟩
      obtain ⟨s0, hs0⟩ : ∃ s0, s0 = sumTo A k := ⟨_, rfl⟩
      have hix := HIX.out k hlt
      rw [← hp, ← hq] at hix
      have HI := Lib.hid hix
      have hn1 : IntKind.i64.wrap (p + q) = p + q := IntWalk.i64_in _ (by have := HOK.out.one hlt; have := HOK.out.free k; have := HOK.out.held k; unfold both at *; omega)
      have hn2 : IntKind.i64.wrap (s0 + (p + q)) = s0 + (p + q) := IntWalk.i64_in _ (by have := HOK.out.one hlt; have := HOK.out.sum k; have := HOK.out.part (n := k) (by omega); unfold both at *; omega)
      have hs1 : sumTo A (k + 1) = s0 + (p + q) := by rw [sumTo, hs0, hp, hq]; rfl
      have HS1 := Lib.hid hs1
      rw [← hs0]
      clear hix hs1 hp hq hs0
      go_wp2_with (first
        | (refine wpl_index rfl _ _ _ rfl rfl rfl (HI.out _) ?_)
        | fail)
      go_roundw
      case rel => exact ⟨k + 1, by omega, by go_num, by rw [HS1.out], HB.out.trans ((Below.refl _ wr).alloc (Nat.le_refl _) _ |>.mono HB.out.size)⟩
      case measure => simp [intOf]; omega
    · have hge : ¬ (k : Int) < 10 := by omega
      obtain rfl : k = 10 := by omega
      go_wp2_with fail
      exact bodyPost_ret (v := .int .i64 (sumTo A 10)) (by simp [results, Tryz.results27, go_sem]) rfl ⟨rfl, HB.out⟩
theorem rd_one (w : World) (T : TypeId) : RdB (w.alloc (.cells #[.int .u8 0] T)) (.slice (some ⟨w.heap.size, 0, none⟩) 1 1) (List.replicate 1 0) := by
  refine .inr ⟨⟨w.heap.size, 0, none⟩, 1, rfl, by simp, fun i hi => ?_⟩
  obtain rfl : i = 0 := by simp at hi; omega
  rw [show (⟨w.heap.size, 0, none⟩ : Addr).add 0 = ⟨w.heap.size, 0, none⟩ from rfl, World.cell?, World.alloc_heap_new]; rfl
set_option maxHeartbeats 4000000 in
set_option maxRecDepth 100000 in
theorem law15_known (w : World) : Calls Tryz.prog 20 #[] w fun e w' => e = .returned (.bool true) ∧ Below w.heap.size w w' := by
  go_enter Tryz.func20, Tryz.ntmps20
  go_wp2_with (first
    | (go_at_call 24; refine (law15_thousand _).mono ?_; rintro e w1 ⟨u, rfl, ho, hb⟩; have H1 := Lib.hid (And.intro ho hb); clear ho hb)
    | (go_at_call 25; refine (law15_tracks _).mono ?_; rintro e w2 ⟨tb, rfl, hr, hl, hlt, hb⟩; have H2 := Lib.hid (And.intro hr (And.intro hlt hb)); clear hr hl hlt hb)
    | (go_at_call 23; refine (chain_New0 (OwnN.readsI H1.out.1 |>.below H2.out.2.2) H2.out.1 H2.out.2.1).mono ?_; rintro e w3 ⟨c, g, gl, vb, r, gb, pb, ab, F, rfl, hch, hb⟩; have H3 := Lib.hid (And.intro hch hb); clear hch hb)
    | (go_at_call 26; refine (script_RunZ (n := 1) (H3.out.1.below ((Below.refl _ w3).alloc (Nat.le_refl _) _)) (by decide) (by decide) (by decide) (rd_one _ _)).mono ?_; rintro e w4 ⟨v, rfl, ho, hch, hg, hoff⟩; obtain ⟨ao4, cap4, rfl⟩ := ho.lenOf; obtain ⟨b4, o4, rfl, hrng, -⟩ := ho.reads.at (i := 0) (by simp); have c0 : w4.cell? ⟨b4, o4, none⟩ = some (.int .i64 0) := (by simpa using hrng 0 _ rfl); have H4 := Lib.hid (And.intro hch (And.intro hg hoff)); clear ho hch hg hoff hrng)
    | (go_at_call 11; refine (chain_Now H4.out.1.cells.2.2.2.2.1).mono ?_; rintro e w5 ⟨rfl, hw⟩; rw [hw]; clear hw w5)
    | fail)
  have h1 := H1.out.2
  have h2 := h1.trans (H2.out.2.2.mono h1.size)
  have h3 := h2.trans (H3.out.2.mono h2.size)
  refine bodyPost_ret (v := .bool true) (by simp [results, Tryz.results20, go_sem]) rfl ⟨rfl, h3.trans ?_⟩
  obtain ⟨hch, hg, hoff⟩ := H4.out
  have hs2 := h2.size
  have hs3 := h3.size
  have hgs := hg.size
  rw [World.size_alloc] at hgs hoff
  refine ⟨hg.os, hg.tape, hg.output, by omega, fun k hk => ?_⟩
  rw [hoff k (by omega) (by have := hch.lo; omega)]
  exact Below.heap_alloc _ _ _ (by omega)
set_option maxHeartbeats 4000000 in
set_option maxRecDepth 100000 in
theorem scriptBlocks_walk (z : Int) (_w0 : (Lit.int .i64 z).wf = true) (w : World) : Calls Tryz.prog 7 #[.int .i64 z] w fun e w' => e = .returned (.bool true) ∧ Below w.heap.size w w' := by
  by_cases hz : 0 ≤ z ∧ z ≤ 200
  · obtain ⟨n, rfl⟩ : ∃ n : Nat, z = n := ⟨z.toNat, by omega⟩
    have hn : n ≤ 200 := by omega
    have d1 : decide ((n : Int) < 0) = false := by simp
    have d2 : decide ((200 : Int) < (n : Int)) = false := by simp; omega
    have hmk := fun w => run_make_bytes n (by omega) w
    have HN := Lib.hid hn
    have hnI : (n : Int) ≤ 200 := by omega
    clear hz hn _w0
    go_enter Tryz.func7, Tryz.ntmps7
    go_wp2_with (first
      | (go_at_call 24; refine (law15_thousand _).mono ?_; rintro e w1 ⟨u, rfl, ho, hb⟩; have H1 := Lib.hid (And.intro ho hb); clear ho hb)
      | (go_at_call 25; refine (law15_tracks _).mono ?_; rintro e w2 ⟨tb, rfl, hr, hl, hlt, hb⟩; have H2 := Lib.hid (And.intro hr (And.intro hlt hb)); clear hr hl hlt hb)
      | (go_at_call 23; refine (chain_New0 (OwnN.readsI H1.out.1 |>.below H2.out.2.2) H2.out.1 H2.out.2.1).mono ?_; rintro e w3 ⟨c, g, gl, vb, r, gb, pb, ab, F, rfl, hch, hb⟩; have H3 := Lib.hid (And.intro hch hb); clear hch hb)
      | (go_at_call 26; refine (script_RunZ (n := n) (H3.out.1.below ((Below.refl _ w3).alloc (Nat.le_refl _) _)) (by decide) (by decide) (by have := HN.out; omega) (zeros_read _ n)).mono ?_; rintro e w4 ⟨v, rfl, ho, hch, hg, hoff⟩; obtain ⟨ao4, cap4, rfl⟩ := ho.lenOf; have hr4 := ho.reads; have H4 := Lib.hid (And.intro hch (And.intro hg hoff)); have HR4 := Lib.hid hr4; clear ho hch hg hoff hr4)
      | fail)
    clear hmk d1 d2
    go_loopw [6] (fun i wr => ∃ k : Nat, k ≤ n ∧ i = .int .i64 k ∧ wr = w4) (fun i _ => n - (intOf i).toNat)
    case atStart => exact ⟨0, Nat.zero_le _, rfl, rfl⟩
    case round =>
      obtain ⟨k, hk, rfl, rfl⟩ := hrel
      by_cases hlt : k < n
      · have hlt' : (k : Int) < n := by omega
        obtain ⟨b4, o4, rfl, hrng, -⟩ := HR4.out.at (i := k) (by simpa using hlt)
        have c0 : wr.cell? ⟨b4, o4 + k * 2, none⟩ = some (.int .i64 0) := hrng 0 _ rfl
        have c1 : wr.cell? ⟨b4, o4 + k * 2 + 1, none⟩ = some (.slice none 0 0) := hrng 1 _ rfl
        clear hrng
        go_wp2_with fail
        go_roundw
        case rel => exact ⟨k + 1, by omega, by go_num, by first | rfl | trivial⟩
        case measure => simp [intOf]; omega
      · obtain rfl : k = n := by omega
        have c5 := H4.out.1.cells.2.2.2.2.1
        go_wp2_with (first
          | (go_at_call 11; refine (chain_Now c5).mono ?_; rintro e w5 ⟨rfl, hw⟩; rw [hw]; clear hw w5)
          | (go_at_call 12; refine (chain_Ledger H4.out.1.cells.1).mono ?_; rintro e w5 ⟨rfl, hw⟩; rw [hw]; clear hw w5)
          | (go_at_call 27; refine (issued_cells H4.out.1.ld (accL_ok thou_ok.2.1 thou_ok.2.2)).mono ?_; rw [show sumTo (accL thouL) 10 = 10000 by decide +kernel]; rintro e w5 ⟨rfl, hb⟩; have H5 := Lib.hid hb; clear hb)
          | (go_at_call 20; refine (law15_known _).mono ?_; rintro e w6 ⟨rfl, hb⟩; have H6 := Lib.hid hb; clear hb)
          | fail)
        have h1 := H1.out.2
        have h2 := h1.trans (H2.out.2.2.mono h1.size)
        have h3 := h2.trans (H3.out.2.mono h2.size)
        obtain ⟨hch, hg, hoff⟩ := H4.out
        have hs2 := h2.size
        have hs3 := h3.size
        have hgs := hg.size
        rw [World.size_alloc] at hgs hoff
        have h4 : Below w.heap.size w wr := h3.trans ⟨hg.os, hg.tape, hg.output, by omega, fun k hk => by
          rw [hoff k (by omega) (by have := hch.lo; omega)]
          exact Below.heap_alloc _ _ _ (by omega)⟩
        have h5 := h4.trans (H5.out.mono h4.size)
        exact bodyPost_ret (v := .bool true) (by simp [results, Tryz.results7, go_sem]) rfl ⟨rfl, h5.trans (H6.out.mono h5.size)⟩
  · by_cases hn : z < 0
    · have d1 : decide (z < 0) = true := decide_eq_true hn
      clear hz
      go_enter Tryz.func7, Tryz.ntmps7
      go_wp2_with fail
      exact bodyPost_ret (v := .bool true) (by simp [results, Tryz.results7, go_sem]) rfl ⟨rfl, Below.refl _ _⟩
    · have d1 : decide (z < 0) = false := decide_eq_false hn
      have d2 : decide (200 < z) = true := decide_eq_true (by omega)
      clear hz
      go_enter Tryz.func7, Tryz.ntmps7
      go_wp2_with fail
      exact bodyPost_ret (v := .bool true) (by simp [results, Tryz.results7, go_sem]) rfl ⟨rfl, Below.refl _ _⟩
end Go.Proofs.YteioacpfphigjaaGreatDoor
end
