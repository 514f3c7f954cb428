/-
  Joined texts.
-/
import Derived.Maps.OwnIn
import Derived.Maps.AppendAt
import Derived.Shelf.RegionOpen
import Derived.Great.BuildSlice
import Derived.Deep.MidRow
import Derived.StillTailTactics
import Derived.Deep.DeepCutAuto
import Derived.BigRegion
import Derived.RegionTactic
import Derived.ChangeKeysEq
import Derived.Deep.WholeRow
import Derived.Deep.RegionWith
import Derived.Deep.RegionHeld3
import Derived.Test.YtcfcfijmfgnpfaaGreatDoorChecked
import Derived.WalkKit
import Derived.WalkSpells
import Derived.WalkLawsBesides
import Derived.Lib.Hide
import Derived.Below
import Derived.IntWalk
import Derived.Laws.Bits64b
import Derived.Deep.Quiet
import Derived.Test.YtcfcfijmfgnpfaaGreatDoorMgf

section
namespace Go.Proofs.YtcfcfijmfgnpfaaGreatDoor
open Go.RowKit
attribute [local go_sem] Oper.semAt_some
set_option linter.unusedVariables false
set_option linter.unusedSimpArgs false

def IsM (l : List Int) : List Value := l.map fun x => Value.int .i64 x
/-- Numbers that the call owns. -/
def OwnM (B : Nat) (v : Value) (l : List Int) (w : World) : Prop := w.ownsRow B 3 1 v l.length (IsM l)
theorem infoIM : (Tryz.prog.info? 3).map (fun i => (i.zero, i.size, i.bytes)) = some (some (.int .i64 0), 1, 8) := by kernel_rfl
theorem OwnM.nil (w : World) (B : Nat) : OwnM B (.slice none 0 0) [] w := World.ownsRow_nil w B _ 1
theorem OwnM.lenOf {B : Nat} {v : Value} {l : List Int} {w : World} (h : OwnM B v l w) : ∃ ao cap, v = .slice ao l.length cap := by
  rcases h.2 with ⟨rfl, e⟩ | ⟨g, cap, cur, rfl, -⟩
  · exact ⟨none, 0, by rw [e]⟩
  · exact ⟨_, _, rfl⟩
theorem OwnM.block {B : Nat} {v : Value} {l : List Int} {w : World} (h : OwnM B v l w) {k : Nat} (hk : v.ownBlock = some k) : B ≤ k ∧ k < w.heap.size := World.ownsRow.lt h k hk
theorem OwnM.of {B S' : Nat} {v : Value} {l : List Int} {w w' : World} (h : OwnM B v l w) (hS : S' ≤ B) (hk : ∀ k, v.ownBlock = some k → w'.heap[k]? = w.heap[k]?) : OwnM S' v l w' := by
  obtain ⟨h1, h2⟩ := h
  refine ⟨h1, ?_⟩
  rcases h2 with h2 | ⟨g, cap, cur, rfl, hb, hg, hn, hm, hs, ht⟩
  · exact .inl h2
  · exact .inr ⟨g, cap, cur, rfl, by omega, (hk g rfl).trans hg, hn, hm, hs, ht⟩
section
variable {F : Fence} {nF : Nat} {w : World} {ops : Array Oper} {rest : List Oper} {o : Oper} {a : Act} {Q : Exit → Act → World → Prop}
theorem wplIn_appM_at {s x : Operand} {B ub : Nat} {v : Value} {xs : List Int} {y : Int} (hgd : o.guard = none) (ho : o.op = .call { callee := .builtin .append, args := #[s, x], argTypes := #[22, 22] }) (hs : a.eval s = v) (hx : a.eval x = .slice (some ⟨ub, 0, none⟩) 1 1)
    (hown : OwnM B v xs w) (hc : w.cell? ⟨ub, 0, none⟩ = some (.int .i64 y)) (hlen : xs.length ≤ 1000) (hB : B ≤ w.heap.size)
    (h : ∀ v' w', OwnM B v' (xs ++ [y]) w' → w.grownBy w' v.ownBlock → (v'.ownBlock = v.ownBlock ∨ v'.ownBlock = some w.heap.size) → wpListIn F nF Tryz.prog ops Q rest (a.put o.dst v') w') : wpListIn F nF Tryz.prog ops Q (o :: rest) a w := by
  obtain ⟨i0, hi, hz⟩ := Option.map_eq_some_iff.1 infoIM
  simp only [Prod.mk.injEq] at hz
  obtain ⟨hz0, hz1, hz2⟩ := hz
  refine wpListIn_append_own_at _ hgd s x _ ho B 3 i0 (.int .i64 0) 1 8 Tryz.underlying22 hi hz0 hz1 hz2 rfl (by decide) v _ _ hs hown ⟨ub, 0, none⟩ 1 1 [.int .i64 y] hx (by simp)
    (fun j u hj => by
      cases j with
      | zero => simp only [List.getElem?_cons_zero, Option.some.injEq] at hj; subst hj; rw [Addr.add_mid]; exact hc
      | succ j => simp at hj) (by simp [Value.oneCell']) (by unfold maxLen; omega) (by omega) hB ?_
  intro v' w' h1 h2 _ h4
  refine h v' w' ?_ h2 h4
  unfold OwnM
  rw [List.length_append]
  simpa [IsM] using h1
end
/-- What vs point at: ns, in blocks below B other than lb. -/
def Points (B lb : Nat) (vs : List Value) (ns : List Int) (w : World) : Prop := vs.length = ns.length ∧ ∀ i v, vs[i]? = some v → ∃ b o, v = .pointer (some ⟨b, o, none⟩) ∧ b < B ∧ b ≠ lb ∧ w.cell? ⟨b, o, none⟩ = some (.int .i64 (ns.getD i 0))
structure NumC (N0 lb : Nat) (vs : List Value) (ns : List Int) (pre : List Value) (Φ : FP) (W : World) (v : Value) : Prop where
  bx : Boxed W lb 22 v
  own : OwnM N0 v (ns.take pre.length) W
  iff : ∀ k, Φ k ↔ v.ownBlock = some k
  pts : Points N0 lb vs ns W
  sz : N0 ≤ W.heap.size
def NumI (N0 lb : Nat) (vs : List Value) (ns : List Int) (pre : List Value) (Φ : FP) (W : World) : Prop := ∃ v, NumC N0 lb vs ns pre Φ W v
theorem Points.of {B lb : Nat} {vs : List Value} {ns : List Int} {w w' : World} (h : Points B lb vs ns w) (hk : ∀ k, k < B → k ≠ lb → w'.heap[k]? = w.heap[k]?) : Points B lb vs ns w' :=
  ⟨h.1, fun i v hi => by
    obtain ⟨b, o, e, h1, h2, h3⟩ := h.2 i v hi
    exact ⟨b, o, e, h1, h2, (World.cell?_of_block (a := ⟨b, o, none⟩) (hk b h1 h2)).trans h3⟩⟩
theorem NumI.stab {N0 lb : Nat} {vs : List Value} {ns : List Int} (h1 : lb < N0) : Stab N0 (NumI N0 lb vs ns) := by
  rintro pre Φ W ⟨v, h⟩
  exact ⟨fun k hk => h.own.block ((h.iff k).1 hk), h.sz, fun W' hg hk => ⟨v, (hk lb (.inl h1)).trans h.bx, h.own.of (Nat.le_refl _) (fun k e => hk k (.inr ((h.iff k).2 e))), h.iff, h.pts.of (fun k k1 _ => hk k (.inl k1)), Nat.le_trans h.sz hg.size⟩⟩
def appIM (args : Array Value) : Sem Value := Builtin.append_ #[22, 22] 22 args
theorem append_hideM (args : Array Value) : Builtin.append_ #[22, 22] 22 args = appIM args := rfl
theorem run_appIM {w : World} {B ub : Nat} {v : Value} {xs : List Int} {y : Int} (hown : OwnM B v xs w) (hc : w.cell? ⟨ub, 0, none⟩ = some (.int .i64 y)) (hlen : xs.length ≤ 1000) (hB : B ≤ w.heap.size) :
    ∃ v' w', (appIM #[v, .slice (some ⟨ub, 0, none⟩) 1 1]).run Tryz.prog w = .ok v' w' ∧ OwnM B v' (xs ++ [y]) w' ∧ w.grownBy w' v.ownBlock ∧ (v'.ownBlock = v.ownBlock ∨ v'.ownBlock = some w.heap.size) := by
  obtain ⟨i0, hi, hz⟩ := Option.map_eq_some_iff.1 infoIM
  simp only [Prod.mk.injEq] at hz
  obtain ⟨hz0, hz1, hz2⟩ := hz
  obtain ⟨v', w', h1, h2, h3, -, h5⟩ := run_append_own_at (P := Tryz.prog) (w := w) B 22 22 3 i0 (.int .i64 0) 1 8 Tryz.underlying22 hi hz0 hz1 hz2 rfl (by decide) v _ _ hown ⟨ub, 0, none⟩ 1 1 [.int .i64 y] (by simp)
    (fun j u hj => by
      cases j with
      | zero => simp only [List.getElem?_cons_zero, Option.some.injEq] at hj; subst hj; rw [Addr.add_mid]; exact hc
      | succ j => simp at hj) (by simp [Value.oneCell']) (by unfold maxLen; omega) (by omega) hB
  refine ⟨v', w', h1, ?_, h3, h5⟩
  unfold OwnM
  rw [List.length_append]
  simpa [IsM] using h2
theorem enters_values : ∀ args w, (callFunc 121 args).run Tryz.prog w = .ok (.enter 121 args) w := enters_of Tryz.func121 (by kernel_rfl) rfl
attribute [local go_sem ↓] append_hideM
set_option maxHeartbeats 4000000 in
set_option maxRecDepth 100000 in
theorem code_numbers (bx b cap : Nat) (vs : List Value) (ns : List Int) (w : World) (hbx : w.cell? ⟨bx, 0, none⟩ = some (.slice (some ⟨b, 0, none⟩) vs.length cap)) (hb1 : bx < w.heap.size) (hb2 : b < w.heap.size) (hr : RowV w b vs) (hl : vs.length ≤ 900) (hp : Points w.heap.size w.heap.size vs ns w) :
    Calls Tryz.prog 83 #[.func (.func 121) #[] #[.pointer (some ⟨bx, 0, none⟩)]] w fun e w' => ∃ v', e = .returned v' ∧ OwnM w.heap.size v' ns w' ∧ Below w.heap.size w w' := by
  refine (callsIn_wide (n := 2)).1 ?_
  refine callsIn_of_wp_marks Tryz.func83 rfl trivial ?_ rfl
  simp only [Tryz.ntmps83, List.size_toArray, List.length_cons, List.length_nil, Nat.reduceAdd, Nat.reduceSub, Array.replicate_succ, Array.replicate_zero, List.push_toArray, List.append_toArray, List.nil_append, List.cons_append]
  have mixed : Tryz.prog.follows .mixedOrders = true := by kernel_rfl
  gi_wp2_with fail
  obtain ⟨w1, hw1⟩ : ∃ w1, w1 = w.alloc (.cells #[.slice none 0 0] 22) := ⟨_, rfl⟩
  rw [← hw1]
  obtain ⟨lb, hlb⟩ : ∃ lb, lb = w.heap.size := ⟨_, rfl⟩
  have hB : Below w.heap.size w w1 := by rw [hw1]; exact (Below.refl _ w).alloc (Nat.le_refl _) _
  have hsz : w1.heap.size = lb + 1 := by rw [hw1, hlb]; simp
  have x0 : Boxed w1 lb 22 (.slice none 0 0) := by rw [hw1, hlb]; exact Boxed.new w _ _
  have hp1 : Points w1.heap.size lb vs ns w1 := ⟨hp.1, fun i v hi => by
    obtain ⟨pb, po, e, h1, h2, h3⟩ := hp.2 i v hi
    exact ⟨pb, po, e, by omega, by omega, (World.cell?_of_block (a := ⟨pb, po, none⟩) (hB.block pb h1)).trans h3⟩⟩
  have hit := values_iter 0 bx b cap vs w hbx hr hl (fun k => k < w.heap.size) hb1 hb2
  have HB1 := Lib.hid hB
  have HP1 := Lib.hid hp1
  have l1 : lb < w1.heap.size := by omega
  have l2 : w.heap.size ≤ lb := by omega
  have hvl : vs.length = ns.length := hp.1
  rw [← hlb]
  have HLB := Lib.hid hlb
  clear hp1 hw1 hp hbx hr hB hsz hlb
  refine range_outer (n := 0) (gf := 121) (lb := #[.pointer (some ⟨bx, 0, none⟩)]) rfl enters_values hit (Grow.of_below HB1.out) (fun k hk => ⟨hk, HB1.out.block k hk⟩) (fun _ => rfl)
    (fun k => k = lb) (by rintro k rfl; exact ⟨l1, fun h => by omega⟩) (NumI w1.heap.size lb vs ns) (fun _ _ _ _ => False) (NumI.stab l1) (fun c _ _ _ h => h.elim)
    ⟨_, x0, OwnM.nil _ _, fun k => ⟨fun h => h.elim, fun h => by cases h⟩, HP1.out, Nat.le_refl _⟩
    (fun x => { tmps := #[.func (.func 121) #[] #[.pointer (some ⟨bx, 0, none⟩)], undef, .slice none 0 0, .pointer (some ⟨lb, 0, none⟩), x, .func (.func 121) #[] #[.pointer (some ⟨bx, 0, none⟩)], x, undef, undef, undef, undef, undef, undef, undef], defers := [] }) ?assign ?body ?done ?stop
  case assign =>
    intro l x W K hK
    gi_wp2
    exact hK
  case body =>
    rintro l pre x Φ W hpx ⟨v1, hI⟩ hl1 hΦ -
    have hlen := hpx.length_le
    simp at hlen
    have hx : vs[pre.length]? = some x := by
      have h1 := hpx.getElem (i := pre.length) (by simp)
      simp at h1
      rw [h1]; exact List.getElem?_eq_getElem _
    obtain ⟨pb, po, rfl, hpb, hpl, hcell⟩ := hI.pts.2 _ _ hx
    obtain ⟨ao1, cap1, hv1⟩ := hI.own.lenOf
    obtain ⟨m, hm⟩ : ∃ m, m = (ns.take pre.length).length := ⟨_, rfl⟩
    rw [← hm] at hv1
    subst hv1
    obtain ⟨y, hy⟩ : ∃ y, y = ns.getD pre.length 0 := ⟨_, rfl⟩
    rw [← hy] at hcell
    have c0 := hI.bx.cell
    have f0 := hI.bx.frozen
    have cP1 : (W.alloc (.cells #[.int .i64 y] 3)).cell? ⟨pb, po, none⟩ = some (.int .i64 y) := (World.cell?_of_block (a := ⟨pb, po, none⟩) (Below.heap_alloc _ _ _ (by have := hI.sz; show pb < W.heap.size; omega))).trans hcell
    have HI := Lib.hid hI
    have HX := Lib.hid hx
    have HY := Lib.hid hy
    have HPH := Lib.hid hΦ
    have HLN := Lib.hid hlen
    clear hI hx hy hΦ hm
    have hOW : OwnM w1.heap.size (.slice ao1 m cap1) (ns.take pre.length) (W.alloc (.cells #[.int .i64 y] 3)).drew := HI.out.own.of (Nat.le_refl _) (fun k hk => Below.heap_alloc _ _ _ (HI.out.own.block hk).2)
    have cU : (W.alloc (.cells #[.int .i64 y] 3)).drew.cell? ⟨W.heap.size, 0, none⟩ = some (.int .i64 y) := by
      have h : (W.alloc (.cells #[.int .i64 y] 3)).cell? ⟨W.heap.size, 0, none⟩ = some (.int .i64 y) := by rw [World.cell?, World.alloc_heap_new]; rfl
      exact h
    have hlW : lb < W.heap.size := by have := HI.out.sz; omega
    have hsW : w1.heap.size ≤ (W.alloc (.cells #[.int .i64 y] 3)).drew.heap.size := by have h := HI.out.sz; show w1.heap.size ≤ (W.alloc (.cells #[.int .i64 y] 3)).heap.size; rw [World.size_alloc]; omega
    obtain ⟨v', w3, hrun, hO, hg3, hat3⟩ := run_appIM hOW cU (by simp; omega) hsW
    have hbx : Boxed w3 lb 22 (.slice ao1 m cap1) := (hg3.block lb (by show lb < (W.alloc (.cells #[.int .i64 y] 3)).heap.size; rw [World.size_alloc]; omega) (fun e => by have := (HI.out.own.block e.symm).1; omega)).trans ((Below.heap_alloc _ _ _ hlW).trans HI.out.bx)
    obtain ⟨ao2, cap2, hv2⟩ := hO.lenOf
    obtain ⟨m2, hm2⟩ : ∃ m2, m2 = (ns.take pre.length ++ [y]).length := ⟨_, rfl⟩
    rw [← hm2] at hv2
    subst hv2
    have cB := hbx.cell
    have fB := hbx.frozen
    have c0A : (W.alloc (.cells #[.int .i64 y] 3)).cell? ⟨lb, 0, none⟩ = some (.slice ao1 m cap1) := (World.cell?_of_block (a := ⟨lb, 0, none⟩) (Below.heap_alloc _ _ _ hlW)).trans c0
    have HO := Lib.hid hO
    have HG3 := Lib.hid hg3
    have HAT3 := Lib.hid hat3
    have HBX := Lib.hid hbx
    have HM2 := Lib.hid hm2
    clear hOW cU hO hg3 hat3 hbx hsW hm2
    gi_wp2_with fail
    gi_region_with_o fail
    all_goals
      obtain ⟨W4, hW4⟩ : ∃ W4, W4 = w3.setCell ⟨lb, 0, none⟩ (.slice ao2 m2 cap2) := ⟨_, rfl⟩
      gi_wp2_with fail
      rw [← hW4]
      have hg3 := HG3.out
      have hs3 : W.heap.size + 1 ≤ w3.heap.size := by have h := hg3.size; have e : (W.alloc (.cells #[.int .i64 y] 3)).drew.heap.size = W.heap.size + 1 := World.size_alloc W _; omega
      have hkeep : ∀ k, k ≠ lb → W4.heap[k]? = w3.heap[k]? := fun k h => by rw [hW4]; exact heap_setCell_other _ _ _ _ h
      have hs4 : W4.heap.size = w3.heap.size := by rw [hW4]; simp [World.setCell]
      have hOb : ∀ k, (Value.slice ao2 m2 cap2).ownBlock = some k → w1.heap.size ≤ k ∧ k < w3.heap.size := fun k hk => HO.out.block hk
      have hold : ∀ k, k < W.heap.size → k ≠ lb → ¬ Φ k → W4.heap[k]? = W.heap[k]? := fun k hk h1 h2 => by
        rw [hkeep k h1, hg3.block k (by have e : (W.alloc (.cells #[.int .i64 y] 3)).drew.heap.size = W.heap.size + 1 := World.size_alloc W _; omega) (fun e => h2 ((HI.out.iff k).2 e.symm))]
        exact Below.heap_alloc _ _ _ hk
      have hnΦ : ∀ k, k < w1.heap.size → ¬ Φ k := fun k hk h => by have := HPH.out k h; omega
      have hsz := HI.out.sz
      have htk : ns.take (pre ++ [Value.pointer (some ⟨pb, po, none⟩)]).length = ns.take pre.length ++ [y] := by
        have hlt : pre.length < ns.length := by have := HLN.out; omega
        rw [List.length_append, List.length_singleton, List.take_succ_eq_append_getElem hlt, HY.out]
        simp [hlt]
      refine ⟨fun k => (Value.slice ao2 m2 cap2).ownBlock = some k, fun k hk => ?_, ⟨⟨?_, ?_, ?_, by omega⟩, fun k hk h1 h2 => hold k hk h1 h2⟩, .slice ao2 m2 cap2, ?_⟩
      · rcases HAT3.out with h | h
        · exact .inl ((HI.out.iff k).2 (by rw [← h]; exact hk))
        · rw [hk] at h
          injection h with h
          exact .inr (by rw [h]; have e : (W.alloc (.cells #[.int .i64 y] 3)).drew.heap.size = W.heap.size + 1 := World.size_alloc W _; omega)
      · rw [hW4]; exact hg3.os
      · rw [hW4]; exact hg3.tape
      · rw [hW4]; exact hg3.output
      · exact ⟨by rw [hW4]; exact HBX.out.set _, by rw [htk]; exact HO.out.of (Nat.le_refl _) (fun k hk => hkeep k (by have := (hOb k hk).1; omega)), fun k => Iff.rfl, HI.out.pts.of (fun k k1 k2 => hold k (by omega) k2 (hnΦ k k1)), by omega⟩
  case done =>
    rintro D Φ W3 ⟨v3, hC⟩ hon hD hnD hK
    have hown := hC.own
    rw [hvl, List.take_length] at hown
    have c3 := hC.bx.cell
    have hif := hC.iff
    have HC := Lib.hid hC
    have HOW := Lib.hid hown
    have HON := Lib.hid hon
    have HKK := Lib.hid hK
    clear hC hown hon hK
    gi_wp2
    refine ⟨by simp, .inl ⟨_, _, rfl, run_takeDeferred HKK.out, ?_⟩⟩
    refine ⟨v3, by simp [results, Tryz.results83, go_sem], v3, rfl, HOW.out.of (by omega) (fun k hk => put_other (fun e => hnD ((hif D).2 (by rw [← e]; exact hk)))), ?_⟩
    have hO2 := HON.out
    have hw2 := HB1.out
    refine ⟨hO2.grow.os.trans hw2.os, hO2.grow.tape.trans hw2.tape, hO2.grow.output.trans hw2.output, by have h1 := hO2.grow.size; have h2 := hw2.size; simp [World.putObj]; omega, fun k hk => ?_⟩
    rw [put_other (by omega), hO2.block k (by omega) (by omega) (fun h => h)]
    exact hw2.block k (by omega)
  case stop =>
    rintro D Φ c pre W3 hpre h
    exact h.elim
end Go.Proofs.YtcfcfijmfgnpfaaGreatDoor
end

section
namespace Go.Proofs.YtcfcfijmfgnpfaaGreatDoor
open Go.RowKit
set_option linter.unusedVariables false
set_option linter.unusedSimpArgs false

theorem slices_Values (ao : Option Addr) (m c : Nat) (w : World) : Calls Tryz.prog 106 #[.slice ao m c] w fun e w' => e = .returned (.func (.func 121) #[] #[.pointer (some ⟨w.heap.size, 0, none⟩)]) ∧ w' = w.alloc (.cells #[.slice ao m c] 171) := by
  go_enter Tryz.func106, Tryz.ntmps106
  go_wp2
  exact bodyPost_ret (v := .func (.func 121) #[] #[.pointer (some ⟨w.heap.size, 0, none⟩)]) (by simp [results, Tryz.results106, go_sem]) rfl ⟨rfl, rfl⟩
theorem two_box (w : World) (c : Array Value) (t t2 : TypeId) (v : Value) : ((w.alloc (.cells c t)).alloc (.cells #[v] t2)).drew.cell? ⟨w.heap.size + 1, 0, none⟩ = some v := by
  have h := World.alloc_heap_new (w.alloc (.cells c t)) (.cells #[v] t2)
  rw [World.size_alloc] at h
  show ((w.alloc (.cells c t)).alloc (.cells #[v] t2)).cell? ⟨w.heap.size + 1, 0, none⟩ = some v
  rw [World.cell?, h]; rfl
theorem two_row (w : World) (t t2 : TypeId) (v : Value) (vs : List Value) : RowV ((w.alloc (.cells vs.toArray t)).alloc (.cells #[v] t2)).drew w.heap.size vs := fun i u hi => by
  have h := World.alloc_heap_new w (.cells vs.toArray t)
  have h2 : ((w.alloc (.cells vs.toArray t)).alloc (.cells #[v] t2)).heap[w.heap.size]? = some (.cells vs.toArray t (0, 0)) := (Below.heap_alloc _ _ _ (by simp)).trans h
  show ((w.alloc (.cells vs.toArray t)).alloc (.cells #[v] t2)).cell? ⟨w.heap.size, i, none⟩ = some u
  rw [World.cell?, h2]; simpa using hi

set_option maxHeartbeats 4000000 in
set_option maxRecDepth 100000 in
theorem code_callFields (pb po : Nat) (w : World) : Calls Tryz.prog 84 #[.pointer (some ⟨pb, po, none⟩)] w fun e w' => ∃ bx b, e = .returned (.func (.func 121) #[] #[.pointer (some ⟨bx, 0, none⟩)]) ∧ Below w.heap.size w w' ∧ w'.cell? ⟨bx, 0, none⟩ = some (.slice (some ⟨b, 0, none⟩) 3 3) ∧ RowV w' b [.pointer (some ⟨pb, po, none⟩), .pointer (some ⟨pb, po + 1, none⟩), .pointer (some ⟨pb, po + 2, none⟩)] ∧ bx < w'.heap.size ∧ b < w'.heap.size := by
  go_enter Tryz.func84, Tryz.ntmps84
  go_upto_region 1 with fail
  go_still_tail 9, (by kernel_rfl)
  change wpList _ _ _ _ _ w.drew
  go_wp2_with (first
    | (go_at_call 106; refine (slices_Values _ _ _ _).mono ?_; rintro e w1 ⟨rfl, rfl⟩)
    | fail)
  refine bodyPost_ret (v := .func (.func 121) #[] #[.pointer (some ⟨w.heap.size + 1, 0, none⟩)]) (by simp [results, Tryz.results84, go_sem]) rfl ⟨w.heap.size + 1, w.heap.size, rfl, ?_, ?_, ?_, by simp, by simp; omega⟩
  · exact (((Below.refl _ w).alloc (Nat.le_refl _) _).alloc (by simp) _).drew
  · exact two_box w _ _ _ _
  · exact two_row w _ _ _ _

end Go.Proofs.YtcfcfijmfgnpfaaGreatDoor
end

section
namespace Go.Proofs.YtcfcfijmfgnpfaaGreatDoor
open Go.RowKit
set_option linter.unusedVariables false
set_option linter.unusedSimpArgs false

/-- Numbers that are only read. -/
def RdM (w : World) (v : Value) (l : List Int) : Prop := ∃ ao cap, v = .slice ao l.length cap ∧ ∀ i (hi : i < l.length), ∃ b off, ao = some ⟨b, off, none⟩ ∧ w.cell? ⟨b, off + i, none⟩ = some (.int .i64 l[i]) ∧ b < w.heap.size
theorem RdM.below {w w' : World} {v : Value} {l : List Int} (h : RdM w v l) (hb : Below w.heap.size w w') : RdM w' v l := by
  obtain ⟨ao, cap, e, h2⟩ := h
  refine ⟨ao, cap, e, fun i hi => ?_⟩
  obtain ⟨b, off, e1, e2, e3⟩ := h2 i hi
  exact ⟨b, off, e1, (World.cell?_of_block (a := ⟨b, off + i, none⟩) (hb.block b e3)).trans e2, Nat.lt_of_lt_of_le e3 hb.size⟩
theorem OwnM.reads {B : Nat} {v : Value} {l : List Int} {w : World} (h : OwnM B v l w) : RdM w v l := by
  have h0 := h
  obtain ⟨hl, h2⟩ := h
  rcases h2 with ⟨rfl, e⟩ | ⟨g, cap, cur, rfl, _, hg, _, _, hs, ht⟩
  · exact ⟨none, 0, by rw [e], fun i hi => by omega⟩
  · refine ⟨some ⟨g, 0, none⟩, cap, rfl, fun i hi => ⟨g, 0, rfl, ?_, (h0.block rfl).2⟩⟩
    rw [World.cell?, hg]
    have h1 : (IsM l)[i]? = some (.int .i64 l[i]) := by simp [IsM, hi]
    rw [← ht, List.getElem?_take_of_lt (by omega)] at h1
    simpa using h1
theorem take_eq_succ {l1 l2 : List Int} {k : Nat} (h1 : k < l1.length) (h2 : k < l2.length) (h : l1.take k = l2.take k) (e : l1[k] = l2[k]) : l1.take (k + 1) = l2.take (k + 1) := by
  rw [List.take_succ_eq_append_getElem h1, List.take_succ_eq_append_getElem h2, h, e]
end Go.Proofs.YtcfcfijmfgnpfaaGreatDoor
end

section
namespace Go.Proofs.YtcfcfijmfgnpfaaGreatDoor
open Go.RowKit
set_option linter.unusedVariables false
set_option linter.unusedSimpArgs false

/-- What a call that is no batch must keep to. -/
def leafOk (k t n : Int) (kids : Nat) : Prop := (k = 1 ∧ t = 0 ∧ (0 ≤ n ∧ n ≤ 1073741824) ∧ kids = 0) ∨ (k = 2 ∧ (0 ≤ t ∧ t < 10) ∧ (0 ≤ n ∧ n ≤ 1073741824) ∧ kids = 0) ∨ ((k = 3 ∨ k = 4) ∧ t = 0 ∧ (0 ≤ n ∧ n < 12) ∧ kids = 0)
instance (k t n : Int) (kids : Nat) : Decidable (leafOk k t n kids) := by unfold leafOk; infer_instance
set_option maxHeartbeats 8000000 in
set_option maxRecDepth 100000 in
theorem code_isCall0 (k t n dp : Int) (ao : Option Addr) (kids cap : Nat) (w : World) (h5 : k ≠ 5) :
    Calls Tryz.prog 81 #[.agg #[.int .i64 k, .int .i64 t, .int .i64 n, .slice ao kids cap], .int .i64 dp] w fun e w' => e = .returned (.bool (decide (leafOk k t n kids))) ∧ Below w.heap.size w w' := by
  obtain ⟨W, hW⟩ : ∃ W, W = (w.alloc (.cells #[.int .i64 k, .int .i64 t, .int .i64 n, .slice ao kids cap] 45)).alloc (.cells #[.int .i64 dp] 3) := ⟨_, rfl⟩
  have hB : Below w.heap.size w W := by rw [hW]; exact ((Below.refl _ w).alloc (Nat.le_refl _) _).alloc (by simp) _
  have h1 := World.alloc_heap_new w (.cells #[.int .i64 k, .int .i64 t, .int .i64 n, .slice ao kids cap] 45)
  have g1 : W.heap[w.heap.size]? = some (.cells #[.int .i64 k, .int .i64 t, .int .i64 n, .slice ao kids cap] 45 (0, 0)) := by rw [hW]; exact (Below.heap_alloc _ _ _ (by simp)).trans h1
  obtain ⟨cb, hcb⟩ : ∃ cb, cb = w.heap.size := ⟨_, rfl⟩
  obtain ⟨db, hdb⟩ : ∃ db, db = cb + 1 := ⟨_, rfl⟩
  rw [← hcb] at g1
  have a0 : W.cell? ⟨cb, 0, none⟩ = some (.int .i64 k) := by rw [World.cell?, g1]; rfl
  have a1 : W.cell? ⟨cb, 1, none⟩ = some (.int .i64 t) := by rw [World.cell?, g1]; rfl
  have a2 : W.cell? ⟨cb, 2, none⟩ = some (.int .i64 n) := by rw [World.cell?, g1]; rfl
  have a3 : W.cell? ⟨cb, 3, none⟩ = some (.slice ao kids cap) := by rw [World.cell?, g1]; rfl
  have HB := Lib.hid hB
  clear h1 g1 hB
  go_enter Tryz.func81, Tryz.ntmps81
  go_upto_region 1 with fail
  rw [← hW, ← hcb, ← hdb]
  clear hW hcb hdb
  have fin : ∀ (b : Bool), (b = true ↔ leafOk k t n kids) → b = decide (leafOk k t n kids) := fun b h => by cases b <;> simp [← h]
  have FIN := Lib.hid fin
  clear fin
  by_cases k1 : k = 1
  · have KK := Lib.hid k1
    have e1 : (k == 1) = true := by simp <;> omega
    have e2 : (k == 2) = false := by simp <;> omega
    have e3 : (k == 3) = false := by simp <;> omega
    have e4 : (k == 4) = false := by simp <;> omega
    have e5 : (k == 5) = false := by simp <;> omega
    clear h5 k1
    by_cases q1 : t = 0
    · have f1 : (t == 0) = true := by simp <;> omega
      by_cases q2 : 0 ≤ n ∧ n ≤ 1073741824
      · have f2 : decide (0 ≤ n ∧ n ≤ 1073741824) = true := by simp <;> omega
        by_cases q3 : kids = 0
        · have f3 : ((kids : Int) == 0) = true := by simp <;> omega
          have Q := Lib.hid (And.intro q1 (And.intro q2 q3))
          clear q1 q2 q3
          go_wp2_with (first
              | (go_at_call 39; refine (bound_Balance _ _).mono ?_; rintro e w' ⟨rfl, rfl⟩)
              | fail)
          exact bodyPost_ret (v := .bool true) (by simp [results, Tryz.results81, go_sem]) rfl ⟨by rw [FIN.out true (by unfold leafOk; have := Q.out; have := KK.out; simp; omega)], HB.out⟩
        · have f3 : ((kids : Int) == 0) = false := by simp <;> omega
          have Q := Lib.hid q3
          clear q1 q2 q3
          go_wp2_with (first
              | (go_at_call 39; refine (bound_Balance _ _).mono ?_; rintro e w' ⟨rfl, rfl⟩)
              | fail)
          exact bodyPost_ret (v := .bool false) (by simp [results, Tryz.results81, go_sem]) rfl ⟨by rw [FIN.out false (by unfold leafOk; have := Q.out; have := KK.out; simp; omega)], HB.out⟩
      · have f2 : decide (0 ≤ n ∧ n ≤ 1073741824) = false := by simp <;> omega
        have Q := Lib.hid q2
        clear q1 q2
        go_wp2_with (first
            | (go_at_call 39; refine (bound_Balance _ _).mono ?_; rintro e w' ⟨rfl, rfl⟩)
            | fail)
        exact bodyPost_ret (v := .bool false) (by simp [results, Tryz.results81, go_sem]) rfl ⟨by rw [FIN.out false (by unfold leafOk; have := Q.out; have := KK.out; simp; omega)], HB.out⟩
    · have f1 : (t == 0) = false := by simp <;> omega
      have Q := Lib.hid q1
      clear q1
      go_wp2_with (first
          | (go_at_call 39; refine (bound_Balance _ _).mono ?_; rintro e w' ⟨rfl, rfl⟩)
          | fail)
      exact bodyPost_ret (v := .bool false) (by simp [results, Tryz.results81, go_sem]) rfl ⟨by rw [FIN.out false (by unfold leafOk; have := Q.out; have := KK.out; simp; omega)], HB.out⟩
  by_cases k2 : k = 2
  · have KK := Lib.hid k2
    have e1 : (k == 1) = false := by simp <;> omega
    have e2 : (k == 2) = true := by simp <;> omega
    have e3 : (k == 3) = false := by simp <;> omega
    have e4 : (k == 4) = false := by simp <;> omega
    have e5 : (k == 5) = false := by simp <;> omega
    clear h5 k1 k2
    by_cases q1 : 0 ≤ t ∧ t < 10
    · have f1 : decide (0 ≤ t ∧ t < 10) = true := by simp <;> omega
      by_cases q2 : 0 ≤ n ∧ n ≤ 1073741824
      · have f2 : decide (0 ≤ n ∧ n ≤ 1073741824) = true := by simp <;> omega
        by_cases q3 : kids = 0
        · have f3 : ((kids : Int) == 0) = true := by simp <;> omega
          have Q := Lib.hid (And.intro q1 (And.intro q2 q3))
          clear q1 q2 q3
          go_wp2_with (first
              | (go_at_call 44; refine (bound_Account _ _).mono ?_; rintro e w' ⟨rfl, rfl⟩)
              | (go_at_call 39; refine (bound_Balance _ _).mono ?_; rintro e w' ⟨rfl, rfl⟩)
              | fail)
          exact bodyPost_ret (v := .bool true) (by simp [results, Tryz.results81, go_sem]) rfl ⟨by rw [FIN.out true (by unfold leafOk; have := Q.out; have := KK.out; simp; omega)], HB.out⟩
        · have f3 : ((kids : Int) == 0) = false := by simp <;> omega
          have Q := Lib.hid q3
          clear q1 q2 q3
          go_wp2_with (first
              | (go_at_call 44; refine (bound_Account _ _).mono ?_; rintro e w' ⟨rfl, rfl⟩)
              | (go_at_call 39; refine (bound_Balance _ _).mono ?_; rintro e w' ⟨rfl, rfl⟩)
              | fail)
          exact bodyPost_ret (v := .bool false) (by simp [results, Tryz.results81, go_sem]) rfl ⟨by rw [FIN.out false (by unfold leafOk; have := Q.out; have := KK.out; simp; omega)], HB.out⟩
      · have f2 : decide (0 ≤ n ∧ n ≤ 1073741824) = false := by simp <;> omega
        have Q := Lib.hid q2
        clear q1 q2
        go_wp2_with (first
            | (go_at_call 44; refine (bound_Account _ _).mono ?_; rintro e w' ⟨rfl, rfl⟩)
            | (go_at_call 39; refine (bound_Balance _ _).mono ?_; rintro e w' ⟨rfl, rfl⟩)
            | fail)
        exact bodyPost_ret (v := .bool false) (by simp [results, Tryz.results81, go_sem]) rfl ⟨by rw [FIN.out false (by unfold leafOk; have := Q.out; have := KK.out; simp; omega)], HB.out⟩
    · have f1 : decide (0 ≤ t ∧ t < 10) = false := by simp <;> omega
      have Q := Lib.hid q1
      clear q1
      go_wp2_with (first
          | (go_at_call 44; refine (bound_Account _ _).mono ?_; rintro e w' ⟨rfl, rfl⟩)
          | (go_at_call 39; refine (bound_Balance _ _).mono ?_; rintro e w' ⟨rfl, rfl⟩)
          | fail)
      exact bodyPost_ret (v := .bool false) (by simp [results, Tryz.results81, go_sem]) rfl ⟨by rw [FIN.out false (by unfold leafOk; have := Q.out; have := KK.out; simp; omega)], HB.out⟩
  by_cases k3 : k = 3
  · have KK := Lib.hid k3
    have e1 : (k == 1) = false := by simp <;> omega
    have e2 : (k == 2) = false := by simp <;> omega
    have e3 : (k == 3) = true := by simp <;> omega
    have e4 : (k == 4) = false := by simp <;> omega
    have e5 : (k == 5) = false := by simp <;> omega
    clear h5 k1 k2 k3
    by_cases q1 : t = 0
    · have f1 : (t == 0) = true := by simp <;> omega
      by_cases q2 : 0 ≤ n ∧ n < 12
      · have f2 : decide (0 ≤ n ∧ n < 12) = true := by simp <;> omega
        by_cases q3 : kids = 0
        · have f3 : ((kids : Int) == 0) = true := by simp <;> omega
          have Q := Lib.hid (And.intro q1 (And.intro q2 q3))
          clear q1 q2 q3
          go_wp2_with (first
              | (go_at_call 100; refine (code_isRef _ _).mono ?_; rintro e w' ⟨rfl, rfl⟩)
              | fail)
          exact bodyPost_ret (v := .bool true) (by simp [results, Tryz.results81, go_sem]) rfl ⟨by rw [FIN.out true (by unfold leafOk; have := Q.out; have := KK.out; simp; omega)], HB.out⟩
        · have f3 : ((kids : Int) == 0) = false := by simp <;> omega
          have Q := Lib.hid q3
          clear q1 q2 q3
          go_wp2_with (first
              | (go_at_call 100; refine (code_isRef _ _).mono ?_; rintro e w' ⟨rfl, rfl⟩)
              | fail)
          exact bodyPost_ret (v := .bool false) (by simp [results, Tryz.results81, go_sem]) rfl ⟨by rw [FIN.out false (by unfold leafOk; have := Q.out; have := KK.out; simp; omega)], HB.out⟩
      · have f2 : decide (0 ≤ n ∧ n < 12) = false := by simp <;> omega
        have Q := Lib.hid q2
        clear q1 q2
        go_wp2_with (first
            | (go_at_call 100; refine (code_isRef _ _).mono ?_; rintro e w' ⟨rfl, rfl⟩)
            | fail)
        exact bodyPost_ret (v := .bool false) (by simp [results, Tryz.results81, go_sem]) rfl ⟨by rw [FIN.out false (by unfold leafOk; have := Q.out; have := KK.out; simp; omega)], HB.out⟩
    · have f1 : (t == 0) = false := by simp <;> omega
      have Q := Lib.hid q1
      clear q1
      go_wp2_with (first
          | (go_at_call 100; refine (code_isRef _ _).mono ?_; rintro e w' ⟨rfl, rfl⟩)
          | fail)
      exact bodyPost_ret (v := .bool false) (by simp [results, Tryz.results81, go_sem]) rfl ⟨by rw [FIN.out false (by unfold leafOk; have := Q.out; have := KK.out; simp; omega)], HB.out⟩
  by_cases k4 : k = 4
  · have KK := Lib.hid k4
    have e1 : (k == 1) = false := by simp <;> omega
    have e2 : (k == 2) = false := by simp <;> omega
    have e3 : (k == 3) = false := by simp <;> omega
    have e4 : (k == 4) = true := by simp <;> omega
    have e5 : (k == 5) = false := by simp <;> omega
    clear h5 k1 k2 k3 k4
    by_cases q1 : t = 0
    · have f1 : (t == 0) = true := by simp <;> omega
      by_cases q2 : 0 ≤ n ∧ n < 12
      · have f2 : decide (0 ≤ n ∧ n < 12) = true := by simp <;> omega
        by_cases q3 : kids = 0
        · have f3 : ((kids : Int) == 0) = true := by simp <;> omega
          have Q := Lib.hid (And.intro q1 (And.intro q2 q3))
          clear q1 q2 q3
          go_wp2_with (first
              | (go_at_call 100; refine (code_isRef _ _).mono ?_; rintro e w' ⟨rfl, rfl⟩)
              | fail)
          exact bodyPost_ret (v := .bool true) (by simp [results, Tryz.results81, go_sem]) rfl ⟨by rw [FIN.out true (by unfold leafOk; have := Q.out; have := KK.out; simp; omega)], HB.out⟩
        · have f3 : ((kids : Int) == 0) = false := by simp <;> omega
          have Q := Lib.hid q3
          clear q1 q2 q3
          go_wp2_with (first
              | (go_at_call 100; refine (code_isRef _ _).mono ?_; rintro e w' ⟨rfl, rfl⟩)
              | fail)
          exact bodyPost_ret (v := .bool false) (by simp [results, Tryz.results81, go_sem]) rfl ⟨by rw [FIN.out false (by unfold leafOk; have := Q.out; have := KK.out; simp; omega)], HB.out⟩
      · have f2 : decide (0 ≤ n ∧ n < 12) = false := by simp <;> omega
        have Q := Lib.hid q2
        clear q1 q2
        go_wp2_with (first
            | (go_at_call 100; refine (code_isRef _ _).mono ?_; rintro e w' ⟨rfl, rfl⟩)
            | fail)
        exact bodyPost_ret (v := .bool false) (by simp [results, Tryz.results81, go_sem]) rfl ⟨by rw [FIN.out false (by unfold leafOk; have := Q.out; have := KK.out; simp; omega)], HB.out⟩
    · have f1 : (t == 0) = false := by simp <;> omega
      have Q := Lib.hid q1
      clear q1
      go_wp2_with (first
          | (go_at_call 100; refine (code_isRef _ _).mono ?_; rintro e w' ⟨rfl, rfl⟩)
          | fail)
      exact bodyPost_ret (v := .bool false) (by simp [results, Tryz.results81, go_sem]) rfl ⟨by rw [FIN.out false (by unfold leafOk; have := Q.out; have := KK.out; simp; omega)], HB.out⟩
  have KK := Lib.hid (And.intro k1 (And.intro k2 (And.intro k3 k4)))
  have e1 : (k == 1) = false := by simp <;> omega
  have e2 : (k == 2) = false := by simp <;> omega
  have e3 : (k == 3) = false := by simp <;> omega
  have e4 : (k == 4) = false := by simp <;> omega
  have e5 : (k == 5) = false := by simp <;> omega
  clear h5 k1 k2 k3 k4
  go_wp2_with (first
      | fail)
  exact bodyPost_ret (v := .bool false) (by simp [results, Tryz.results81, go_sem]) rfl ⟨by rw [FIN.out false (by unfold leafOk; have := KK.out; simp; omega)], HB.out⟩
end Go.Proofs.YtcfcfijmfgnpfaaGreatDoor
end

section
namespace Go.Proofs.YtcfcfijmfgnpfaaGreatDoor
open Go.RowKit
set_option linter.unusedVariables false
set_option linter.unusedSimpArgs false

theorem points3 {w : World} {cb : Nat} {k t n : Int} (h : cb < w.heap.size) (a0 : w.cell? ⟨cb, 0, none⟩ = some (.int .i64 k)) (a1 : w.cell? ⟨cb, 1, none⟩ = some (.int .i64 t)) (a2 : w.cell? ⟨cb, 2, none⟩ = some (.int .i64 n)) :
    Points w.heap.size w.heap.size [.pointer (some ⟨cb, 0, none⟩), .pointer (some ⟨cb, 0 + 1, none⟩), .pointer (some ⟨cb, 0 + 2, none⟩)] [k, t, n] w := by
  refine ⟨rfl, fun i v hi => ?_⟩
  match i, hi with
  | 0, hi => simp at hi; subst hi; exact ⟨cb, 0, rfl, h, by omega, a0⟩
  | 1, hi => simp at hi; subst hi; exact ⟨cb, 1, rfl, h, by omega, a1⟩
  | 2, hi => simp at hi; subst hi; exact ⟨cb, 2, rfl, h, by omega, a2⟩
  | i + 3, hi => simp at hi
theorem cell_of_below {w w' : World} {b o : Nat} {v : Value} (hb : Below w.heap.size w w') (h : w.cell? ⟨b, o, none⟩ = some v) (hl : b < w.heap.size) : w'.cell? ⟨b, o, none⟩ = some v := (World.cell?_of_block (a := ⟨b, o, none⟩) (hb.block b hl)).trans h
end Go.Proofs.YtcfcfijmfgnpfaaGreatDoor
end

section
namespace Go.Proofs.YtcfcfijmfgnpfaaGreatDoor
open Go.RowKit
set_option linter.unusedVariables false
set_option linter.unusedSimpArgs false

/-- A vote. -/
structure Vt where
  kind : Int
  aye : Bool
  level : Int
  a : Int
  n : Int
  s : Int
def voteEq (a b : Vt) : Bool := decide (a.kind = b.kind) && (decide (a.aye = b.aye) && (decide (a.level = b.level) && (decide (a.a = b.a) && (decide (a.n = b.n) && decide (a.s = b.s)))))
def vtc (v : Vt) : List Value := [.int .i64 v.kind, .bool v.aye, .int .i64 v.level, .int .i64 v.a, .int .i64 v.n, .int .i64 v.s]
/-- An extrinsic: its places, its call's as they are. -/
structure Ex where
  hd : List Int
  h7 : hd.length = 7
  sum : List Nat
  h32 : sum.length = 32
  vote : Vt
  ck : Int
  ct : Int
  cn : Int
  ca : Option Addr
  cc : Nat
  m : Nat
def callc (e : Ex) : List Value := [.int .i64 e.ck, .int .i64 e.ct, .int .i64 e.cn, .slice e.ca e.m e.cc]
def ec (e : Ex) : List Value := IsM e.hd ++ (Bs e.sum ++ (vtc e.vote ++ callc e))
theorem ec_len (e : Ex) : (ec e).length = 49 := by simp [ec, IsM, Bs, vtc, callc, e.h7, e.h32]
theorem eqItems_two (w : World) (d : Nat) (a b : List Nat) : ∀ is : List Nat, (∀ i ∈ is, i < a.length ∧ i < b.length) →
    (Op.eqItems (d + 1) 5 1 (Bs a).toArray (Bs b).toArray is).run Tryz.prog w = .ok (is.all fun i => a.getD i 0 == b.getD i 0) w
  | [], _ => by simp [Op.eqItems]
  | i :: is, h => by
    obtain ⟨ha, hb⟩ := h i (by simp)
    have he : Tryz.prog.plainKey 5 = true := by kernel_rfl
    have p1 := run_part_plain (P := Tryz.prog) w (e := 5) he (xs := (Bs a).toArray) (off := i) (v := .int .u8 (a.getD i 0 : Nat)) (by simp [Bs, ha])
    have p2 := run_part_plain (P := Tryz.prog) w (e := 5) he (xs := (Bs b).toArray) (off := i) (v := .int .u8 (b.getD i 0 : Nat)) (by simp [Bs, hb])
    simp only [Op.eqItems, Nat.mul_one, Sem.run_bind, p1, p2, Result.andThen_ok, run_equalIn_int w d 5 .u8 .u8 _ _ Tryz.underlying5]
    by_cases e : a.getD i 0 = b.getD i 0
    · have e1 : ((a.getD i 0 : Int) == (b.getD i 0 : Int)) = true := by rw [e]; simp
      have e2 : (a.getD i 0 == b.getD i 0) = true := by rw [e]; simp
      rw [e1]
      simp only [List.all_cons, e2, Bool.true_and, Bool.not_true, Bool.false_eq_true, if_false]
      exact eqItems_two w d a b is fun j hj => h j (by simp [hj])
    · have e1 : ((a.getD i 0 : Int) == (b.getD i 0 : Int)) = false := by simp only [beq_eq_false_iff_ne, ne_eq]; omega
      have e2 : (a.getD i 0 == b.getD i 0) = false := by simpa using e
      rw [e1]
      simp only [List.all_cons, e2, Bool.false_and, Bool.not_false, if_true, Sem.run_pure]
theorem all_eq32 (a b : List Nat) (ha : a.length = 32) (hb : b.length = 32) : ((List.range 32).all fun i => a.getD i 0 == b.getD i 0) = decide (a = b) := by
  by_cases e : a = b
  · subst e; simp
  · rw [decide_eq_false e]
    cases h : (List.range 32).all fun i => a.getD i 0 == b.getD i 0 with
    | false => rfl
    | true =>
      refine absurd (List.ext_getElem (by rw [ha, hb]) fun i h1 h2 => ?_) e
      rw [List.all_eq_true] at h
      have := h i (by simp; omega)
      simpa [h1, h2] using this
def eqHash (x y : Value) : Sem Value := binOp .eql 41 x y
theorem eq_hash (x y : Value) : binOp .eql 41 x y = eqHash x y := rfl
theorem run_eqHash (w : World) (a b : List Nat) (ha : a.length = 32) (hb : b.length = 32) : (eqHash (.agg (Bs a).toArray) (.agg (Bs b).toArray)).run Tryz.prog w = .ok (.bool (decide (a = b))) w := by
  unfold eqHash
  rw [run_eql_struct, show (10000 : Nat) = 9998 + 1 + 1 from rfl, run_equalIn_array (i := (Tryz.prog.info? 5).getD default) w (9998 + 1) (e := 5) (n := 32) _ _ Tryz.underlying41 (by kernel_rfl)]
  rw [show Tryz.prog.cellsOf 5 = 1 from by kernel_rfl, eqItems_two w 9998 a b _ (by simp; omega), all_eq32 a b ha hb]
  rfl
def extEq (a b : Ex) : Bool := decide (a.hd = b.hd) && (decide (a.sum = b.sum) && (voteEq a.vote b.vote && (decide ([a.ck, a.ct, a.cn] = [b.ck, b.ct, b.cn]) && decide (a.m = 0))))
def loadH (v : Value) : Sem Value := Instr.loadAt 41 v
theorem load_h (v : Value) : Instr.loadAt 41 v = loadH v := rfl
def loadC (v : Value) : Sem Value := Instr.loadAt 45 v
theorem load_c (v : Value) : Instr.loadAt 45 v = loadC v := rfl
theorem rangeAt_sub {w : World} {b : Nat} {t : TypeId} {A M C L : List Value} (h : w.heap[b]? = some (.cells L.toArray t (0, 0))) (e : L = A ++ (M ++ C)) {k : Nat} (hk : A.length = k) : w.rangeAt b k M := fun j u hj => by
  have hjl := (List.getElem?_eq_some_iff.1 hj).1
  rw [World.cell?, h]
  simp only [List.getElem?_toArray, e]
  rw [List.getElem?_append_right (by omega), show k + j - A.length = j by omega, List.getElem?_append_left hjl]
  simpa using hj
section
variable {w : World} {b : Nat} {e : Ex}
end
end Go.Proofs.YtcfcfijmfgnpfaaGreatDoor
end

section
namespace Go.Proofs.YtcfcfijmfgnpfaaGreatDoor
open Go.RowKit
set_option linter.unusedVariables false
set_option linter.unusedSimpArgs false

end Go.Proofs.YtcfcfijmfgnpfaaGreatDoor
end

section
namespace Go.Proofs.YtcfcfijmfgnpfaaGreatDoor
open Go.RowKit
set_option linter.unusedVariables false
set_option linter.unusedSimpArgs false

def exWith (e : Ex) (hd : List Int) (h : hd.length = 7) : Ex := ⟨hd, h, e.sum, e.h32, e.vote, e.ck, e.ct, e.cn, e.ca, e.cc, e.m⟩
def exZero : Ex := ⟨[0, 0, 0, 0, 0, 0, 0], rfl, List.replicate 32 0, by simp, ⟨0, false, 0, 0, 0, 0⟩, 0, 0, 0, none, 0, 0⟩
theorem ec_one (e : Ex) : ∀ u ∈ ec e, u.oneCell' = true := by
  intro u hu
  simp only [ec, IsM, Bs, vtc, callc, List.mem_append, List.mem_map, List.mem_cons, List.not_mem_nil, or_false] at hu
  rcases hu with ⟨x, -, rfl⟩ | ⟨x, -, rfl⟩ | (rfl | rfl | rfl | rfl | rfl | rfl) | (rfl | rfl | rfl | rfl) <;> rfl
theorem ec_set {e : Ex} {i : Nat} {x : Int} (hi : i < 7) : (ec e).toArray.setIfInBounds i (.int .i64 x) = (ec (exWith e (e.hd.set i x) (by simp [e.h7]))).toArray := by
  have hl : i < e.hd.length := by rw [e.h7]; exact hi
  apply Array.ext'
  simp only [Array.toList_setIfInBounds, ec, exWith, IsM]
  rw [List.set_append_left _ _ (by simpa using hl), List.map_set]
  rfl
end Go.Proofs.YtcfcfijmfgnpfaaGreatDoor
end

section
namespace Go.Proofs.YtcfcfijmfgnpfaaGreatDoor
open Go.RowKit
set_option linter.unusedVariables false
set_option linter.unusedSimpArgs false

end Go.Proofs.YtcfcfijmfgnpfaaGreatDoor
end

section
namespace Go.Proofs.YtcfcfijmfgnpfaaGreatDoor
open Go.RowKit
set_option linter.unusedVariables false
set_option linter.unusedSimpArgs false

end Go.Proofs.YtcfcfijmfgnpfaaGreatDoor
end

section
namespace Go.Proofs.YtcfcfijmfgnpfaaGreatDoor
open Go.RowKit
set_option linter.unusedVariables false
set_option linter.unusedSimpArgs false

theorem run_loadC0 {w : World} {b : Nat} {k t n : Int} {ao : Option Addr} {kids cap : Nat} (h : w.heap[b]? = some (.cells #[.int .i64 k, .int .i64 t, .int .i64 n, .slice ao kids cap] 45 (0, 0))) : (loadC (.pointer (some ⟨b, 0, none⟩))).run Tryz.prog w = .ok (.agg #[.int .i64 k, .int .i64 t, .int .i64 n, .slice ao kids cap]) w :=
  run_loadAt_mid w b 0 45 [.int .i64 k, .int .i64 t, .int .i64 n, .slice ao kids cap] _ (rangeAt_sub (A := []) (C := []) (L := [.int .i64 k, .int .i64 t, .int .i64 n, .slice ao kids cap]) h (by simp) rfl) Tryz.underlying45 rfl (by kernel_rfl)
attribute [local go_sem ↓] load_c
set_option maxHeartbeats 4000000 in
set_option maxRecDepth 100000 in
theorem code_IsCall0 (k t n : Int) (ao : Option Addr) (kids cap : Nat) (w : World) (h5 : k ≠ 5) :
    Calls Tryz.prog 60 #[.agg #[.int .i64 k, .int .i64 t, .int .i64 n, .slice ao kids cap]] w fun e w' => e = .returned (.bool (decide (leafOk k t n kids))) ∧ Below w.heap.size w w' := by
  go_enter Tryz.func60, Tryz.ntmps60
  have h1 := World.alloc_heap_new w (.cells #[.int .i64 k, .int .i64 t, .int .i64 n, .slice ao kids cap] 45)
  obtain ⟨W, hW⟩ : ∃ W, W = w.alloc (.cells #[.int .i64 k, .int .i64 t, .int .i64 n, .slice ao kids cap] 45) := ⟨_, rfl⟩
  have hB : Below w.heap.size w W := by rw [hW]; exact (Below.refl _ w).alloc (Nat.le_refl _) _
  rw [← hW] at h1
  go_upto_region 1 with fail
  rw [← hW]
  have LC := run_loadC0 h1
  have HB := Lib.hid hB
  clear h1 hW hB
  go_wp2_with (first | (go_at_call 81; refine (code_isCall0 k t n 3 ao kids cap _ h5).mono ?_; rintro e w1 ⟨rfl, hb⟩; have HB1 := Lib.hid hb; clear hb) | fail)
  exact bodyPost_ret (v := .bool (decide (leafOk k t n kids))) (by simp [results, Tryz.results60, go_sem]) rfl ⟨rfl, HB.out.trans (HB1.out.mono HB.out.size)⟩
end Go.Proofs.YtcfcfijmfgnpfaaGreatDoor
end

section
namespace Go.Proofs.YtcfcfijmfgnpfaaGreatDoor
open Go.RowKit
set_option linter.unusedVariables false
set_option linter.unusedSimpArgs false

theorem OwnM.readsI {B : Nat} {v : Value} {l : List Int} {w : World} (h : OwnM B v l w) : RdIM w v l := by
  have h' := h
  obtain ⟨h1, h2⟩ := h
  rcases h2 with ⟨rfl, h0⟩ | ⟨g, cap, cur, rfl, hg, hh, hc, hr⟩
  · exact .inl ⟨rfl, List.length_eq_zero_iff.1 h0⟩
  · refine .inr ⟨⟨g, 0, none⟩, cap, rfl, hc, fun i hi => ?_⟩
    exact World.ownsRow.cells h' rfl i _ (by simp [IsM, hi])
theorem pointsC {w : World} {b : Nat} {k t n : Int} {v : Value} (h : w.heap[b]? = some (.cells #[.int .i64 k, .int .i64 t, .int .i64 n, v] 45 (0, 0))) :
    Points w.heap.size w.heap.size [.pointer (some ⟨b, 0, none⟩), .pointer (some ⟨b, 0 + 1, none⟩), .pointer (some ⟨b, 0 + 2, none⟩)] [k, t, n] w := by
  have hb : b < w.heap.size := (Array.getElem?_eq_some_iff.1 h).1
  refine ⟨rfl, fun i v hi => ?_⟩
  match i, hi with
  | 0, hi => simp at hi; subst hi; exact ⟨b, 0, rfl, hb, by omega, by rw [World.cell?, h]; rfl⟩
  | 1, hi => simp at hi; subst hi; exact ⟨b, 1, rfl, hb, by omega, by rw [World.cell?, h]; rfl⟩
  | 2, hi => simp at hi; subst hi; exact ⟨b, 2, rfl, hb, by omega, by rw [World.cell?, h]; rfl⟩
  | i + 3, hi => simp at hi
theorem box_cell (W : World) : (W.alloc (.cells #[.int .i64 0] 3)).cell? ⟨W.heap.size, 0, none⟩ = some (.int .i64 0) := by
  rw [World.cell?, World.alloc_heap_new]; rfl
theorem OwnB.ofC {S S' : Nat} {v : Value} {l : List Value} {w w' : World} (h : OwnB S v l w) (hS : S' ≤ S) (hk : ∀ k, v.ownBlock = some k → w'.heap[k]? = w.heap[k]?) : OwnB S' v l w' := by
  refine ⟨h.1, ?_⟩
  rcases h.2 with h | ⟨g, cap, cur, h1, h2, h3, h4⟩
  · exact .inl h
  · exact .inr ⟨g, cap, cur, h1, Nat.le_trans hS h2, (hk g (by rw [h1]; rfl)).trans h3, h4⟩
theorem lt_alloc {w : World} {o : Obj} {x : Nat} (h : x < w.heap.size) : x < (w.alloc o).heap.size := by simp; omega
theorem rowV_alloc {w : World} {o : Obj} {b : Nat} {vs : List Value} (h : RowV w b vs) (hb : b < w.heap.size) : RowV (w.alloc o) b vs := fun i v hi => (World.cell?_of_block (a := ⟨b, i, none⟩) (Below.heap_alloc _ _ _ hb)).trans (h i v hi)
theorem numbers_at {x1 y1 cb : Nat} {k t n : Int} {v : Value} {w : World} (hx : w.cell? ⟨x1, 0, none⟩ = some (.slice (some ⟨y1, 0, none⟩) 3 3)) (l1 : x1 < w.heap.size) (l2 : y1 < w.heap.size) (hr : RowV w y1 [.pointer (some ⟨cb, 0, none⟩), .pointer (some ⟨cb, 0 + 1, none⟩), .pointer (some ⟨cb, 0 + 2, none⟩)]) (hc : w.heap[cb]? = some (.cells #[.int .i64 k, .int .i64 t, .int .i64 n, v] 45 (0, 0))) :
    Calls Tryz.prog 83 #[.func (.func 121) #[] #[.pointer (some ⟨x1, 0, none⟩)]] w fun e w' => ∃ v', e = .returned v' ∧ OwnM w.heap.size v' [k, t, n] w' ∧ Below w.heap.size w w' :=
  code_numbers x1 y1 3 [.pointer (some ⟨cb, 0, none⟩), .pointer (some ⟨cb, 0 + 1, none⟩), .pointer (some ⟨cb, 0 + 2, none⟩)] [k, t, n] w hx l1 l2 hr (by simp) (pointsC hc)
theorem numbers_alloc {x1 y1 cb : Nat} {k t n : Int} {v : Value} {w : World} {o : Obj} (hx : w.cell? ⟨x1, 0, none⟩ = some (.slice (some ⟨y1, 0, none⟩) 3 3)) (l1 : x1 < w.heap.size) (l2 : y1 < w.heap.size) (hr : RowV w y1 [.pointer (some ⟨cb, 0, none⟩), .pointer (some ⟨cb, 0 + 1, none⟩), .pointer (some ⟨cb, 0 + 2, none⟩)]) (hc : w.heap[cb]? = some (.cells #[.int .i64 k, .int .i64 t, .int .i64 n, v] 45 (0, 0))) :
    Calls Tryz.prog 83 #[.func (.func 121) #[] #[.pointer (some ⟨x1, 0, none⟩)]] (w.alloc o) fun e w' => ∃ v', e = .returned v' ∧ OwnM (w.alloc o).heap.size v' [k, t, n] w' ∧ Below (w.alloc o).heap.size (w.alloc o) w' :=
  numbers_at ((World.cell?_of_block (a := ⟨x1, 0, none⟩) (Below.heap_alloc _ _ _ l1)).trans hx) (lt_alloc l1) (lt_alloc l2) (rowV_alloc hr l2) ((Below.heap_alloc _ _ _ (Array.getElem?_eq_some_iff.1 hc).1).trans hc)
theorem app_old {N ub : Nat} {v2 : Value} {l : List Int} {a w2 : World} {A : Nat} (ho : OwnM N v2 l w2) (hc : w2.cell? ⟨ub, 0, none⟩ = some (.int .i64 0)) (hl : l.length ≤ 1000) (hN : N ≤ w2.heap.size) (hb : Below A a w2) (hA : A ≤ N) :
    ∃ v5 w5, (appIM #[v2, .slice (some ⟨ub, 0, none⟩) 1 1]).run Tryz.prog w2 = .ok v5 w5 ∧ OwnM N v5 (l ++ [0]) w5 ∧ Below A a w5 := by
  obtain ⟨v5, w5, h1, h2, h3, -⟩ := run_appIM ho hc hl hN
  exact ⟨v5, w5, h1, h2, hb.grown h3 (by omega) (fun k hk => Nat.le_trans hA (ho.block hk).1)⟩
theorem app_new {N : Nat} {v2 : Value} {l : List Int} {a w2 : World} {A : Nat} (ho : OwnM N v2 l w2) (hl : l.length ≤ 1000) (hN : N ≤ w2.heap.size) (hb : Below A a w2) (hA : A ≤ N) :
    ∃ v5 w5, (appIM #[v2, .slice (some ⟨w2.heap.size, 0, none⟩) 1 1]).run Tryz.prog (w2.alloc (.cells #[.int .i64 0] 3)) = .ok v5 w5 ∧ OwnM N v5 (l ++ [0]) w5 ∧ Below A a w5 :=
  app_old (ho.of (Nat.le_refl _) (fun k hk => Below.heap_alloc _ _ _ (ho.block hk).2)) (box_cell w2) hl (by simp; omega) (hb.alloc (by omega) _) hA
end Go.Proofs.YtcfcfijmfgnpfaaGreatDoor
end

section
namespace Go.Proofs.YtcfcfijmfgnpfaaGreatDoor
open Go.RowKit
set_option linter.unusedVariables false
set_option linter.unusedSimpArgs false

theorem box_cellM (W : World) (m : Int) : (W.alloc (.cells #[.int .i64 m] 3)).cell? ⟨W.heap.size, 0, none⟩ = some (.int .i64 m) := by
  rw [World.cell?, World.alloc_heap_new]; rfl
theorem box_cellD (W : World) (m : Int) : (W.alloc (.cells #[.int .i64 m] 3)).drew.cell? ⟨W.heap.size, 0, none⟩ = some (.int .i64 m) := box_cellM W m
theorem box_lt (W : World) (o : Obj) : W.heap.size < (W.alloc o).drew.heap.size := by show W.heap.size < (W.alloc o).heap.size; simp
theorem app_oldM {N ub : Nat} {v2 : Value} {l : List Int} {m : Int} {a w2 : World} {A : Nat} (ho : OwnM N v2 l w2) (hc : w2.cell? ⟨ub, 0, none⟩ = some (.int .i64 m)) (hl : l.length ≤ 1000) (hN : N ≤ w2.heap.size) (hb : Below A a w2) (hA : A ≤ N) :
    ∃ v5 w5, (appIM #[v2, .slice (some ⟨ub, 0, none⟩) 1 1]).run Tryz.prog w2 = .ok v5 w5 ∧ OwnM N v5 (l ++ [m]) w5 ∧ Below A a w5 := by
  obtain ⟨v5, w5, h1, h2, h3, -⟩ := run_appIM ho hc hl hN
  exact ⟨v5, w5, h1, h2, hb.grown h3 (by omega) (fun k hk => Nat.le_trans hA (ho.block hk).1)⟩
theorem app_newM {N : Nat} {v2 : Value} {l : List Int} {m : Int} {a w2 : World} {A : Nat} (ho : OwnM N v2 l w2) (hl : l.length ≤ 1000) (hN : N ≤ w2.heap.size) (hb : Below A a w2) (hA : A ≤ N) :
    ∃ v5 w5, (appIM #[v2, .slice (some ⟨w2.heap.size, 0, none⟩) 1 1]).run Tryz.prog (w2.alloc (.cells #[.int .i64 m] 3)) = .ok v5 w5 ∧ OwnM N v5 (l ++ [m]) w5 ∧ Below A a w5 :=
  app_oldM (ho.of (Nat.le_refl _) (fun k hk => Below.heap_alloc _ _ _ (ho.block hk).2)) (box_cellM w2 m) hl (by simp; omega) (hb.alloc (by omega) _) hA
theorem app_midM {v2 : Value} {l : List Int} {m : Int} {a w1 w2 : World} {A : Nat} (hq : Below (w1.alloc (.cells #[.int .i64 m] 3)).heap.size (w1.alloc (.cells #[.int .i64 m] 3)) w2) (ho : OwnM (w1.alloc (.cells #[.int .i64 m] 3)).heap.size v2 l w2) (hl : l.length ≤ 1000) (hb : Below A a w2) (hA : A ≤ w1.heap.size) :
    ∃ v5 w5, (appIM #[v2, .slice (some ⟨w1.heap.size, 0, none⟩) 1 1]).run Tryz.prog w2 = .ok v5 w5 ∧ OwnM A v5 (l ++ [m]) w5 ∧ Below A a w5 := by
  obtain ⟨v5, w5, h1, h2, h3⟩ := app_oldM ho ((World.cell?_of_block (a := ⟨w1.heap.size, 0, none⟩) (hq.block w1.heap.size (by simp))).trans (box_cellM w1 m)) hl hq.size hb (by simp; omega)
  exact ⟨v5, w5, h1, h2.of (by simp; omega) (fun _ _ => rfl), h3⟩
theorem own3 {B : Nat} {v : Value} {k t n : Int} {w : World} (h : OwnM B v [k, t, n] w) : ∃ ao cap, v = .slice ao 3 cap := h.lenOf
theorem reads4 {B : Nat} {v : Value} {k t n m : Int} {w : World} (h : OwnM B v ([k, t, n] ++ [m]) w) : RdIM w v [k, t, n, m] := h.readsI
theorem put4 {v : Value} {k t n m : Int} {w : World} (h : RdIM w v [k, t, n, m]) : Calls Tryz.prog 82 #[.slice none 0 0, v] w (OwnRet w.heap.size (Bs (numsL [k, t, n, m])) w) :=
  compact_Put _ v [] [k, t, n, m] w (.inl ⟨rfl, rfl⟩) h (by simp) (by simp)
theorem sizeC : (Tryz.prog.info? 45).map (·.size) = some 4 := by kernel_rfl
theorem wpl_loadC {w : World} {ops : Array Oper} {rest : List Oper} {o : Oper} {a : Act} {Q : Exit → Act → World → Prop} {b k : Nat} {vs : List Value} (x : Operand) (hgd : o.guard = none) (ho : o.op = .load 45 x) (hx : a.eval x = .pointer (some ⟨b, k, none⟩)) (hr : w.rangeAt b k vs) (hl : vs.length = 4)
    (h : wpList Tryz.prog ops Q rest (a.put o.dst (.agg vs.toArray)) w) : wpList Tryz.prog ops Q (o :: rest) a w :=
  wpList_load_mid hgd 45 x ho b k hx vs _ hr Tryz.underlying45 rfl (by rw [hl]; exact sizeC) h
theorem rangeAt_new {w : World} {T : TypeId} (cs : List Value) : (w.alloc (.cells cs.toArray T)).rangeAt w.heap.size 0 cs := fun j u hj => by
  have h := World.alloc_heap_new w (.cells cs.toArray T)
  rw [Nat.zero_add, World.cell?, h]; simpa using hj
theorem rdBB_oneC {w : World} {v : Value} {x : List Nat} {T : TypeId} (h : RdB w v x) : RdBB (w.alloc (.cells #[v] T)) (.slice (some ⟨w.heap.size, 0, none⟩) 1 1) [x] := by
  refine .inr ⟨⟨w.heap.size, 0, none⟩, 1, rfl, Nat.le_refl _, fun i hi => ?_⟩
  obtain rfl : i = 0 := by simpa using hi
  refine ⟨v, ?_, h.below ((Below.refl _ w).alloc (Nat.le_refl _) _)⟩
  show (w.alloc (.cells #[v] T)).cell? ⟨w.heap.size, 0 + 0, none⟩ = some v
  rw [World.cell?, World.alloc_heap_new]; rfl
attribute [local go_sem ↓] append_hideM
set_option maxHeartbeats 4000000 in
set_option maxRecDepth 100000 in
theorem code_lay (d : Nat) : ∀ (c : Cl) (v : Value) (w : World), (layT c).length ≤ 100000 → RdC w d v c → Calls Tryz.prog 61 #[v] w (OwnRet w.heap.size (Bs (layT c)) w) := by
  induction d with
  | zero => intro c v w _ h; exact h.elim
  | succ d ih =>
  intro c v w hlen hrd
  obtain ⟨d', ao, cap, hd, rfl, hkids⟩ := hrd.open
  obtain rfl : d' = d := by omega
  rw [layT_eq] at hlen ⊢
  obtain ⟨k, hk⟩ : ∃ k, k = c.k := ⟨_, rfl⟩
  obtain ⟨t, ht⟩ : ∃ t, t = c.t := ⟨_, rfl⟩
  obtain ⟨n, hn⟩ : ∃ n, n = c.n := ⟨_, rfl⟩
  obtain ⟨l, hl⟩ : ∃ l, l = c.kids := ⟨_, rfl⟩
  rw [← hk, ← ht, ← hn, ← hl] at hlen ⊢
  rw [← hl] at hkids
  obtain ⟨m, hm⟩ : ∃ m, m = l.length := ⟨_, rfl⟩
  rw [← hm] at hlen ⊢
  have hml : m ≤ 100000 := by have := kids_len l; rw [List.length_append] at hlen; omega
  have HKD := Lib.hid hkids
  have HM := Lib.hid hm
  have HLEN := Lib.hid hlen
  have IH := Lib.hid ih
  clear hk ht hn hl hrd hkids hm hlen ih hd
  go_enter Tryz.func61, Tryz.ntmps61
  obtain ⟨W, hW⟩ : ∃ W, W = w.alloc (.cells #[.int .i64 k, .int .i64 t, .int .i64 n, .slice ao m cap] 45) := ⟨_, rfl⟩
  have h1 := World.alloc_heap_new w (.cells #[.int .i64 k, .int .i64 t, .int .i64 n, .slice ao m cap] 45)
  rw [← hW] at h1
  have hs : W.heap.size = w.heap.size + 1 := by rw [hW]; simp
  have hB : Below w.heap.size w W := by rw [hW]; exact (Below.refl _ w).alloc (Nat.le_refl _) _
  obtain ⟨cb, hcb⟩ : ∃ cb, cb = w.heap.size := ⟨_, rfl⟩
  rw [← hcb] at h1
  have hc3 : W.cell? ⟨cb, 3, none⟩ = some (.slice ao m cap) := by rw [World.cell?, h1]; rfl
  go_upto_region 1 with fail
  rw [← hW, ← hcb]
  have HB := Lib.hid hB
  have HCB := Lib.hid hcb
  go_cut [3] (fun v wx => OwnB W.heap.size v (Bs (numsL [k, t, n, m])) wx ∧ Below W.heap.size W wx)
  case first =>
    have dw : W.drew.heap = W.heap := rfl
    have H1 := Lib.hid h1
    have LCB := Lib.hid (show cb < W.heap.size from (Array.getElem?_eq_some_iff.1 h1).1)
    have BD := Lib.hid (Below.refl W.heap.size W).drew
    have BA := Lib.hid (((Below.refl W.heap.size W).alloc (Nat.le_refl _) (.cells #[.int .i64 (m : Int)] 3)).drew)
    have HC3 := Lib.hid hc3
    clear hW hcb h1 dw hs hB hc3
    go_region_held3 (fun wc => wc.cell? ⟨cb, 3, none⟩ = some (.slice ao m cap)) (first | exact HC3.out | exact (World.cell?_of_block (a := ⟨cb, 3, none⟩) (B6.out.block cb LCB.out)).trans HC3.out | exact (World.cell?_of_block (a := ⟨cb, 3, none⟩) (B1.out.block cb LCB.out)).trans HC3.out | exact (World.cell?_of_block (a := ⟨cb, 3, none⟩) ((B1.out.alloc B1.out.size _).block cb LCB.out)).trans HC3.out | exact (World.cell?_of_block (a := ⟨cb, 3, none⟩) (B2.out.block cb LCB.out)).trans HC3.out | exact (World.cell?_of_block (a := ⟨cb, 3, none⟩) ((B2.out.alloc B2.out.size _).block cb LCB.out)).trans HC3.out | exact (World.cell?_of_block (a := ⟨cb, 3, none⟩) (B5.out.block cb LCB.out)).trans HC3.out | exact (World.cell?_of_block (a := ⟨cb, 3, none⟩) ((B5.out.alloc B5.out.size _).block cb LCB.out)).trans HC3.out | exact (World.cell?_of_block (a := ⟨cb, 3, none⟩) (BD.out.block cb LCB.out)).trans HC3.out | exact (World.cell?_of_block (a := ⟨cb, 3, none⟩) ((BD.out.alloc BD.out.size _).block cb LCB.out)).trans HC3.out | exact (World.cell?_of_block (a := ⟨cb, 3, none⟩) (BA.out.block cb LCB.out)).trans HC3.out | exact (World.cell?_of_block (a := ⟨cb, 3, none⟩) ((BA.out.alloc BA.out.size _).block cb LCB.out)).trans HC3.out) (first
      | (go_at_call 84; with_reducible refine (code_callFields cb 0 W.drew).mono ?_; rintro e w1 ⟨x1, y1, rfl, hb, hx, hr, l1, l2⟩; have B1 := Lib.hid (BD.out.trans (hb.mono BD.out.size)); have X1 := Lib.hid hx; have R1 := Lib.hid hr; have L1 := Lib.hid l1; have M1 := Lib.hid l2; clear hb hx hr l1 l2; have G1 := Lib.hid ((B1.out.block cb LCB.out).trans H1.out))
      | (go_at_call 84; with_reducible refine (code_callFields cb 0 (W.alloc (.cells #[.int .i64 (m : Int)] 3)).drew).mono ?_; rintro e w1 ⟨x1, y1, rfl, hb, hx, hr, l1, l2⟩; have B1 := Lib.hid (BA.out.trans (hb.mono BA.out.size)); have XB := Lib.hid ((World.cell?_of_block (a := ⟨W.heap.size, 0, none⟩) (hb.block W.heap.size (box_lt W _))).trans (box_cellD W m)); have SZ1 := Lib.hid (show W.heap.size < w1.heap.size from Nat.lt_of_lt_of_le (box_lt W _) hb.size); have X1 := Lib.hid hx; have R1 := Lib.hid hr; have L1 := Lib.hid l1; have M1 := Lib.hid l2; clear hb hx hr l1 l2; have G1 := Lib.hid ((B1.out.block cb LCB.out).trans H1.out))
      | (go_at_call 83; with_reducible refine (numbers_alloc X1.out L1.out M1.out R1.out G1.out).mono ?_; rintro e w2 ⟨v2, rfl, ho, hb⟩; obtain ⟨ao2, cap2, rfl⟩ := own3 ho; have B2 := Lib.hid ((B1.out.alloc B1.out.size _).trans (hb.mono (B1.out.alloc B1.out.size _).size)); obtain ⟨v5, w5, E5, o5, b5⟩ := app_midM hb ho (by simp) B2.out B1.out.size; have O5 := Lib.hid o5; have B5 := Lib.hid b5; clear o5 b5 hb ho)
      | (go_at_call 83; revert XB; intro XB; with_reducible refine (numbers_at X1.out L1.out M1.out R1.out G1.out).mono ?_; rintro e w2 ⟨v2, rfl, ho, hb⟩; obtain ⟨ao2, cap2, rfl⟩ := own3 ho; have B2 := Lib.hid (B1.out.trans (hb.mono B1.out.size)); obtain ⟨v5, w5, E5, o5, b5⟩ := app_oldM ho ((World.cell?_of_block (a := ⟨W.heap.size, 0, none⟩) (hb.block W.heap.size SZ1.out)).trans XB.out) (by simp) hb.size B2.out B1.out.size; have O5 := Lib.hid o5; have B5 := Lib.hid b5; clear o5 b5 hb ho)
      | (go_at_call 83; with_reducible refine (numbers_at X1.out L1.out M1.out R1.out G1.out).mono ?_; rintro e w2 ⟨v2, rfl, ho, hb⟩; obtain ⟨ao2, cap2, rfl⟩ := own3 ho; have B2 := Lib.hid (B1.out.trans (hb.mono B1.out.size)); obtain ⟨v5, w5, E5, o5, b5⟩ := app_newM (m := m) ho (by simp) hb.size B2.out B1.out.size; have O5 := Lib.hid o5; have B5 := Lib.hid b5; clear o5 b5 hb ho)
      | (go_at_call 82; refine (put4 (reads4 O5.out)).mono ?_; rintro e w6 ⟨v6, rfl, ho6, hb6, -⟩; have O6 := Lib.hid (OwnB.ofC ho6 B5.out.size (fun _ _ => rfl)); have B6 := Lib.hid (B5.out.trans (hb6.mono B5.out.size)); clear ho6 hb6)
      | fail)
    all_goals go_wp2_with fail
    all_goals go_meet
    all_goals exact ⟨O6.out, B6.out⟩
  case rest =>
    obtain ⟨ho0, hb0⟩ := hcut
    have HR0 := Lib.hid (And.intro ho0 hb0)
    have hc3' : wc.cell? ⟨cb, 3, none⟩ = some (.slice ao m cap) := (World.cell?_of_block (a := ⟨cb, 3, none⟩) (hb0.block cb (Array.getElem?_eq_some_iff.1 h1).1)).trans hc3
    clear ho0 hb0 hc3 h1 hs hB hW hcb
    go_wp2_with fail
    go_loopw [3, 5, 17] (fun b p i wr => ∃ j : Nat, j ≤ m ∧ i = .int .i64 j ∧ OwnB W.heap.size b (Bs (numsL [k, t, n, m] ++ laysT (l.take j))) wr ∧ Below W.heap.size W wr) (fun _ _ i _ => m - (intOf i).toNat)
    case atStart => exact ⟨0, by omega, rfl, by rw [List.take_zero]; simpa [laysT] using HR0.out.1, HR0.out.2⟩
    case round =>
      obtain ⟨j, hj, rfl, ho, hb⟩ := hrel
      have HR := Lib.hid (And.intro ho hb)
      have HRB := Lib.hid ho.reads
      clear ho hb HR0 hc3'
      by_cases hlt : j < m
      · have hlt' : (j : Int) < m := by omega
        have hjl : j < l.length := by rw [← HM.out]; exact hlt
        obtain ⟨kb, ko, vs, rfl, hkb, hrg, hrd⟩ := HKD.out j hjl
        obtain ⟨kd, hkd⟩ : ∃ kd, kd = l[j] := ⟨_, rfl⟩
        rw [← hkd] at hrd
        have hW2 := HR.out.2
        have hrg2 : wr.rangeAt kb (ko + j * 4) vs := rangeAt_keep hrg ((hW2.block kb (by have := HB.out.size; omega)).trans (HB.out.block kb hkb))
        have hrd2 : RdC wr d' (.agg vs.toArray) kd := RdC.below (hW2.mono HB.out.size |> HB.out.trans) hrd
        obtain ⟨a4, c4, e4⟩ := hrd.cells
        obtain ⟨c1, c2, c3, c5, e5⟩ : ∃ c1 c2 c3 c5, vs = [.int .i64 c1, .int .i64 c2, .int .i64 c3, .slice a4 c5 c4] := ⟨_, _, _, _, e4⟩
        clear e4
        subst e5
        have hLK : (layT kd).length ≤ (laysT l).length := by rw [hkd]; exact layT_kid hjl
        have hLT := laysT_length l j
        have hLE := HLEN.out
        rw [List.length_append] at hLE
        have htk : laysT (l.take (j + 1)) = laysT (l.take j) ++ rowL (layT kd) := by rw [laysT_take l hjl, hkd]
        obtain ⟨W3, hW3⟩ : ∃ W3, W3 = wr.alloc (.cells #[.int .i64 c1, .int .i64 c2, .int .i64 c3, .slice a4 c5 c4] 45) := ⟨_, rfl⟩
        have hb3 : Below wr.heap.size wr W3 := by rw [hW3]; exact (Below.refl _ wr).alloc (Nat.le_refl _) _
        have hrg3 : W3.rangeAt wr.heap.size 0 [.int .i64 c1, .int .i64 c2, .int .i64 c3, .slice a4 c5 c4] := by rw [hW3]; exact rangeAt_new _
        have hcall := IH.out kd _ W3 (by omega) (RdC.below hb3 hrd2)
        have hrow : (numsL [k, t, n, m] ++ laysT (l.take j)).length + bulkL [layT kd] ≤ 1000000000 := by rw [List.length_append]; simp only [bulkL]; omega
        have hRow : numsL [k, t, n, m] ++ laysT (l.take j) ++ rowsL [layT kd] = numsL [k, t, n, m] ++ laysT (l.take (j + 1)) := by rw [htk]; simp [rowsL, List.append_assoc]
        have HRG := Lib.hid hrg2
        have HRG3 := Lib.hid hrg3
        have HC := Lib.hid hcall
        have HW3 := Lib.hid hW3
        have H3 := Lib.hid (hW2.trans (hb3.mono hW2.size))
        have HROW := Lib.hid hrow
        have HROWE := Lib.hid hRow
        have HB3 := Lib.hid hb3
        clear hkb hrg hrd hkd hW2 hrg2 hrd2 hLK hLT hLE htk hb3 hrg3 hcall hrow hRow hW3 hlt hjl
        go_upto_region 5 with (first
          | (refine wpl_loadC _ rfl rfl rfl HRG.out rfl ?_)
          | fail)
        rw [← HW3.out]
        go_wp2_with (first
          | (refine wpl_loadC _ rfl rfl rfl HRG3.out rfl ?_)
          | (go_at_call 61; refine HC.out.mono ?_; rintro e w4 ⟨v4, rfl, ho4, hb4, hs4⟩; obtain ⟨a6, c6, hv6⟩ := ho4.reads.lenOf; obtain ⟨z, hz⟩ : ∃ z, z = (layT kd).length := ⟨_, rfl⟩; rw [← hz] at hv6; subst hv6; have HO4 := Lib.hid (rdBB_oneC (T := 75) ho4.reads); have HB4 := Lib.hid (H3.out.trans (hb4.mono H3.out.size)); have HU4 := Lib.hid (((HRB.out.below HB3.out).below hb4).below (w' := w4.alloc (.cells #[.slice a6 z c6] 75)) ((Below.refl _ w4).alloc (Nat.le_refl _) _)); clear hz ho4 hb4 hs4)
          | (go_at_call 85; refine (compact_Row u3 _ _ [layT kd] _ HU4.out HO4.out HROW.out (by simp [maxLen])).mono ?_; rw [HROWE.out]; rintro e w5 ⟨v5, rfl, ho5, hb5, hs5⟩; have HO5 := Lib.hid (OwnB.ofC ho5 (Nat.le_trans HB4.out.size (by simp)) (fun _ _ => rfl)); have HB5 := Lib.hid ((HB4.out.alloc HB4.out.size _).trans (hb5.mono (HB4.out.alloc HB4.out.size _).size)); clear ho5 hb5 hs5)
          | fail)
        go_roundw
        case rel => exact ⟨j + 1, by omega, by go_num, HO5.out, HB5.out⟩
        case measure => simp [intOf]; omega
      · obtain rfl : j = m := by omega
        have hge : ¬ (j : Int) < j := by omega
        have htk : l.take j = l := List.take_of_length_le (by rw [← HM.out]; exact Nat.le_refl _)
        have HTK := Lib.hid htk
        clear hlt htk hj
        go_wp2_with fail
        go_ret
        have ho := HR.out.1
        rw [HTK.out] at ho
        exact ⟨u3, rfl, ho.ofC HB.out.size (fun _ _ => rfl), HB.out.trans (HR.out.2.mono HB.out.size), Nat.le_trans HB.out.size HR.out.2.size⟩
end Go.Proofs.YtcfcfijmfgnpfaaGreatDoor
end

section
namespace Go.Proofs.YtcfcfijmfgnpfaaGreatDoor
open Go.RowKit
set_option linter.unusedVariables false
set_option linter.unusedSimpArgs false

/-- What a batch's head must keep to. -/
def headOk (c : Cl) : Bool := c.k == 5 && c.t == 0 && c.n == 0 && decide (1 ≤ c.kids.length ∧ c.kids.length ≤ 4)
/-- May a call be, with so many batches within one another? -/
def okC : Nat → Cl → Bool
  | 0, c => decide (leafOk c.k c.t c.n c.kids.length)
  | dp + 1, c => decide (leafOk c.k c.t c.n c.kids.length) || (headOk c && c.kids.all (okC dp))
theorem leafOk_5 {t n : Int} {m : Nat} : ¬ leafOk 5 t n m := by unfold leafOk; omega
def IsC (dp : Nat) : Prop := ∀ (d : Nat) (c : Cl) (v : Value) (w : World), RdC w d v c → Calls Tryz.prog 81 #[v, .int .i64 dp] w fun e w' => e = .returned (.bool (okC dp c)) ∧ Below w.heap.size w w'
set_option maxRecDepth 100000 in
theorem code_isCall1 {dp : Nat} (hp : dp ≤ 100) (h : IsC dp) (d : Nat) (c : Cl) (v : Value) (w : World) (db : Nat) (hrd : RdC w d v c) (hc : w.cell? ⟨db, 0, none⟩ = some (.int .i64 ((dp : Int) + 1))) :
    Calls Tryz.prog 102 #[v, .pointer (some ⟨db, 0, none⟩)] w fun e w' => e = .returned (.bool (!okC dp c)) ∧ Below w.heap.size w w' := by
  have hlt := World.block_lt_of_cell? w _ hc
  obtain ⟨d', ao, cap, -, rfl, -⟩ := hrd.open
  obtain ⟨k, hk⟩ : ∃ k, k = c.k := ⟨_, rfl⟩
  obtain ⟨t, ht⟩ : ∃ t, t = c.t := ⟨_, rfl⟩
  obtain ⟨n, hn⟩ : ∃ n, n = c.n := ⟨_, rfl⟩
  obtain ⟨m, hm⟩ : ∃ m, m = c.kids.length := ⟨_, rfl⟩
  rw [← hk, ← ht, ← hn, ← hm] at hrd ⊢
  obtain ⟨W, hW⟩ : ∃ W, W = w.alloc (.cells #[.int .i64 k, .int .i64 t, .int .i64 n, .slice ao m cap] 45) := ⟨_, rfl⟩
  have hB : Below w.heap.size w W := by rw [hW]; exact (Below.refl _ w).alloc (Nat.le_refl _) _
  have hrg : W.rangeAt w.heap.size 0 [.int .i64 k, .int .i64 t, .int .i64 n, .slice ao m cap] := by rw [hW]; exact rangeAt_new _
  have hcW : W.cell? ⟨db, 0, none⟩ = some (.int .i64 ((dp : Int) + 1)) := (World.cell?_of_block (a := ⟨db, 0, none⟩) (hB.block db hlt)).trans hc
  have hcall := h d c _ W (RdC.below hB hrd)
  have hn1 : IntKind.i64.wrap ((dp : Int) + 1 - 1) = dp := by rw [IntWalk.i64_in _ (by omega)]; omega
  have HW := Lib.hid hW
  have HC := Lib.hid hcall
  have HB := Lib.hid hB
  have HRG := Lib.hid hrg
  clear hk ht hn hm hW hB hrg hcall h hrd hc hlt
  go_enter Tryz.func102, Tryz.ntmps102
  go_upto_region 1 with fail
  rw [← HW.out]
  go_wp2_with (first
    | (refine wpl_loadC _ rfl rfl rfl HRG.out rfl ?_)
    | (go_at_call 81; refine HC.out.mono ?_; rintro e w1 ⟨rfl, hb⟩; have H1 := Lib.hid (HB.out.trans (hb.mono HB.out.size)); clear hb)
    | fail)
  exact bodyPost_ret (v := .bool (!okC dp c)) (by simp [results, Tryz.results102, go_sem]) rfl ⟨rfl, H1.out⟩
theorem all_take {l : List Cl} {p : Cl → Bool} {j : Nat} (h : j < l.length) : (l.take (j + 1)).all p = ((l.take j).all p && p l[j]) := by
  rw [List.take_succ_eq_append_getElem h, List.all_append]; simp
theorem all_of_take {l : List Cl} {p : Cl → Bool} {j : Nat} (h : j < l.length) (hp : p l[j] = false) : l.all p = false := by
  rw [Bool.eq_false_iff]
  intro hall
  rw [List.all_eq_true] at hall
  rw [hall _ (List.getElem_mem h)] at hp
  cases hp
set_option maxRecDepth 100000 in
set_option maxHeartbeats 1000000 in
theorem slices_IndexC {dp : Nat} (hp : dp ≤ 100) (h : IsC dp) (d : Nat) (l : List Cl) (ao : Option Addr) (cap : Nat) (w : World) (db : Nat) (hl : l.length ≤ 100) (hrd : RdCs w d ao l) (hc : w.cell? ⟨db, 0, none⟩ = some (.int .i64 ((dp : Int) + 1))) :
    Calls Tryz.prog 118 #[.slice ao l.length cap, .func (.func 102) #[] #[.pointer (some ⟨db, 0, none⟩)]] w fun e w' => (∃ r : Int, e = .returned (.int .i64 r) ∧ decide (0 ≤ r) = !(l.all (okC dp))) ∧ Below w.heap.size w w' := by
  have hlt := World.block_lt_of_cell? w _ hc
  obtain ⟨m, hm⟩ : ∃ m, m = l.length := ⟨_, rfl⟩
  rw [← hm] at hl ⊢
  have HM := Lib.hid hm
  have HRD := Lib.hid hrd
  have HC := Lib.hid hc
  have HLT := Lib.hid hlt
  have HH := Lib.hid h
  clear hm hrd hc hlt h
  go_enter Tryz.func118, Tryz.ntmps118
  go_wp2_with fail
  go_loopw [5, 8] (fun p i wr => ∃ j : Nat, j ≤ m ∧ i = .int .i64 j ∧ (l.take j).all (okC dp) = true ∧ Below w.heap.size w wr) (fun _ i _ => m - (intOf i).toNat)
  case atStart => exact ⟨0, by omega, rfl, rfl, Below.refl _ _⟩
  case round =>
    obtain ⟨j, hj, rfl, hall, hb⟩ := hrel
    have HB := Lib.hid (And.intro hall hb)
    by_cases hlt : j < m
    · have hlt' : (j : Int) < m := by omega
      have hjl : j < l.length := by rw [← HM.out]; exact hlt
      obtain ⟨kb, ko, vs, rfl, hkb, hrg, hrd⟩ := HRD.out j hjl
      have hrg2 : wr.rangeAt kb (ko + j * 4) vs := rangeAt_keep hrg (hb.block kb hkb)
      have hrd2 : RdC wr d (.agg vs.toArray) l[j] := RdC.below hb hrd
      have hat := all_take (p := okC dp) hjl
      have hof := all_of_take (p := okC dp) hjl
      have hc2 : wr.cell? ⟨db, 0, none⟩ = some (.int .i64 ((dp : Int) + 1)) := (World.cell?_of_block (a := ⟨db, 0, none⟩) (hb.block db HLT.out)).trans HC.out
      have hcall := code_isCall1 hp HH.out d l[j] _ wr db hrd2 hc2
      obtain ⟨a4, c4, e4⟩ := hrd2.cells
      obtain ⟨c1, c2, c3, c5, e5⟩ : ∃ c1 c2 c3 c5, vs = [.int .i64 c1, .int .i64 c2, .int .i64 c3, .slice a4 c5 c4] := ⟨_, _, _, _, e4⟩
      clear e4
      subst e5
      obtain ⟨q, hq⟩ : ∃ q, q = okC dp l[j] := ⟨_, rfl⟩
      rw [← hq] at hcall hat hof
      have HCA := Lib.hid hcall
      have HRG := Lib.hid hrg2
      have HA := Lib.hid hat
      have HO := Lib.hid hof
      clear hkb hrg hrd hrg2 hrd2 hat hof hc2 hcall hq hall hb hjl
      cases q
      · go_wp2_with (first
          | (refine wpl_loadC _ rfl rfl rfl HRG.out rfl ?_)
          | (go_at_call 102; refine HCA.out.mono ?_; rintro e w1 ⟨rfl, hb⟩; have H1 := Lib.hid (HB.out.2.trans (hb.mono HB.out.2.size)); clear hb)
          | fail)
        exact bodyPost_ret (v := .int .i64 j) (by simp [results, Tryz.results118, go_sem]) rfl ⟨⟨j, rfl, by rw [HO.out trivial]; simp⟩, H1.out⟩
      · go_wp2_with (first
          | (refine wpl_loadC _ rfl rfl rfl HRG.out rfl ?_)
          | (go_at_call 102; refine HCA.out.mono ?_; rintro e w1 ⟨rfl, hb⟩; have H1 := Lib.hid (HB.out.2.trans (hb.mono HB.out.2.size)); clear hb)
          | fail)
        go_roundw
        case rel => exact ⟨j + 1, by omega, by go_num, by rw [HA.out, HB.out.1]; rfl, H1.out⟩
        case measure => simp [intOf]; omega
    · obtain rfl : j = m := by omega
      have hge : ¬ (j : Int) < j := by omega
      have htk : l.take j = l := List.take_of_length_le (by rw [← HM.out]; exact Nat.le_refl _)
      rw [htk] at hall
      have HA := Lib.hid hall
      clear hlt htk hj hall hb
      go_wp2_with fail
      exact bodyPost_ret (v := .int .i64 (-1)) (by simp [results, Tryz.results118, go_sem]) rfl ⟨⟨-1, rfl, by rw [HA.out]; rfl⟩, HB.out.2⟩
set_option maxRecDepth 100000 in
theorem slices_ContainsC {dp : Nat} (hp : dp ≤ 100) (h : IsC dp) (d : Nat) (l : List Cl) (ao : Option Addr) (m cap : Nat) (w : World) (db : Nat) (hm : m = l.length) (hl : m ≤ 100) (hrd : RdCs w d ao l) (hc : w.cell? ⟨db, 0, none⟩ = some (.int .i64 ((dp : Int) + 1))) :
    Calls Tryz.prog 101 #[.slice ao m cap, .func (.func 102) #[] #[.pointer (some ⟨db, 0, none⟩)]] w fun e w' => e = .returned (.bool (!(l.all (okC dp)))) ∧ Below w.heap.size w w' := by
  subst hm
  have HC := Lib.hid (slices_IndexC hp h d l ao cap w db hl hrd hc)
  clear hrd hc h
  go_enter Tryz.func101, Tryz.ntmps101
  go_wp2_with (first
    | (go_at_call 118; refine HC.out.mono ?_; rintro e w1 ⟨⟨r, rfl, hr⟩, hb⟩; have H1 := Lib.hid (And.intro hr hb); clear hr hb)
    | fail)
  exact bodyPost_ret (v := .bool (decide (0 ≤ r))) (by simp [results, Tryz.results101, go_sem]) rfl ⟨by rw [H1.out.1], H1.out.2⟩
theorem okC_5 {dp : Nat} {c : Cl} (h : c.k = 5) : okC dp c = (match dp with | 0 => false | dp + 1 => headOk c && c.kids.all (okC dp)) := by
  cases dp with
  | zero => simp [okC, h, leafOk_5]
  | succ dp => simp [okC, h, leafOk_5]
theorem okC_n5 {dp : Nat} {c : Cl} (h : c.k ≠ 5) : okC dp c = decide (leafOk c.k c.t c.n c.kids.length) := by
  cases dp with
  | zero => rfl
  | succ dp => simp [okC, headOk, h]
set_option maxRecDepth 100000 in
set_option maxHeartbeats 4000000 in
theorem code_isCall5 (t n dp : Int) (ao : Option Addr) (m cap : Nat) (allb : Bool) (w : World)
    (hC : 0 < dp → m ≤ 4 → ∀ W db, Below w.heap.size w W → W.cell? ⟨db, 0, none⟩ = some (.int .i64 dp) → Calls Tryz.prog 101 #[.slice ao m cap, .func (.func 102) #[] #[.pointer (some ⟨db, 0, none⟩)]] W fun e w' => e = .returned (.bool (!allb)) ∧ Below W.heap.size W w') :
    Calls Tryz.prog 81 #[.agg #[.int .i64 5, .int .i64 t, .int .i64 n, .slice ao m cap], .int .i64 dp] w fun e w' => e = .returned (.bool (t == 0 && n == 0 && decide (1 ≤ m ∧ m ≤ 4) && decide (0 < dp) && allb)) ∧ Below w.heap.size w w' := by
  obtain ⟨r, hr⟩ : ∃ r, r = (t == 0 && n == 0 && decide (1 ≤ m ∧ m ≤ 4) && decide (0 < dp) && allb) := ⟨_, rfl⟩
  rw [← hr]
  have HR := Lib.hid hr
  clear hr
  obtain ⟨W, hW⟩ : ∃ W, W = (w.alloc (.cells #[.int .i64 5, .int .i64 t, .int .i64 n, .slice ao m cap] 45)).alloc (.cells #[.int .i64 dp] 3) := ⟨_, rfl⟩
  have hB : Below w.heap.size w W := by rw [hW]; exact ((Below.refl _ w).alloc (Nat.le_refl _) _).alloc (by simp) _
  have h1 := World.alloc_heap_new w (.cells #[.int .i64 5, .int .i64 t, .int .i64 n, .slice ao m cap] 45)
  have g1 : W.heap[w.heap.size]? = some (.cells #[.int .i64 5, .int .i64 t, .int .i64 n, .slice ao m cap] 45 (0, 0)) := by rw [hW]; exact (Below.heap_alloc _ _ _ (by simp)).trans h1
  obtain ⟨cb, hcb⟩ : ∃ cb, cb = w.heap.size := ⟨_, rfl⟩
  obtain ⟨db, hdb⟩ : ∃ db, db = cb + 1 := ⟨_, rfl⟩
  have g2 : W.heap[db]? = some (.cells #[.int .i64 dp] 3 (0, 0)) := by
    have h2 := World.alloc_heap_new (w.alloc (.cells #[.int .i64 5, .int .i64 t, .int .i64 n, .slice ao m cap] 45)) (.cells #[.int .i64 dp] 3)
    rw [World.size_alloc] at h2
    rw [hW, hdb, hcb]; exact h2
  rw [← hcb] at g1
  have a0 : W.cell? ⟨cb, 0, none⟩ = some (.int .i64 5) := by rw [World.cell?, g1]; rfl
  have a1 : W.cell? ⟨cb, 1, none⟩ = some (.int .i64 t) := by rw [World.cell?, g1]; rfl
  have a2 : W.cell? ⟨cb, 2, none⟩ = some (.int .i64 n) := by rw [World.cell?, g1]; rfl
  have a3 : W.cell? ⟨cb, 3, none⟩ = some (.slice ao m cap) := by rw [World.cell?, g1]; rfl
  have b0 : W.cell? ⟨db, 0, none⟩ = some (.int .i64 dp) := by rw [World.cell?, g2]; rfl
  have HB := Lib.hid hB
  have HC := Lib.hid hC
  have HB0 := Lib.hid b0
  clear h1 g1 g2 hB hC
  go_enter Tryz.func81, Tryz.ntmps81
  go_upto_region 1 with fail
  rw [← hW, ← hcb, ← hdb]
  clear hW hcb hdb
  by_cases q1 : t = 0
  · have f1 : (t == 0) = true := by simp [q1]
    clear q1
    by_cases q2 : n = 0
    · have f2 : (n == 0) = true := by simp [q2]
      clear q2
      by_cases q3 : 1 ≤ m ∧ m ≤ 4
      · have f3 : decide ((1 : Int) ≤ (m : Int) ∧ (m : Int) ≤ 4) = true := decide_eq_true (by omega)
        have G3 := Lib.hid (show decide (1 ≤ m ∧ m ≤ 4) = true from decide_eq_true q3)
        have Q3 := Lib.hid q3
        clear q3
        by_cases q4 : 0 < dp
        · have f4 : decide (0 < dp) = true := decide_eq_true q4
          have HCC := Lib.hid (HC.out q4 Q3.out.2 W db HB.out HB0.out)
          clear q4
          go_wp2_with (first
            | (go_at_call 57; refine (bound_Within _ _ _ _).mono ?_; rintro e w' ⟨rfl, rfl⟩)
            | (go_at_call 101; refine HCC.out.mono ?_; rintro e w1 ⟨rfl, hb⟩; have H1 := Lib.hid (HB.out.trans (hb.mono HB.out.size)); clear hb)
            | fail)
          exact bodyPost_ret (v := .bool allb) (by simp [results, Tryz.results81, go_sem]) rfl ⟨by rw [HR.out, f1, f2, G3.out, f4]; simp, H1.out⟩
        · have f4 : decide (0 < dp) = false := decide_eq_false q4
          clear q4
          go_wp2_with (first
            | (go_at_call 57; refine (bound_Within _ _ _ _).mono ?_; rintro e w' ⟨rfl, rfl⟩)
            | fail)
          exact bodyPost_ret (v := .bool false) (by simp [results, Tryz.results81, go_sem]) rfl ⟨by rw [HR.out, f4]; simp, HB.out⟩
      · have f3 : decide ((1 : Int) ≤ (m : Int) ∧ (m : Int) ≤ 4) = false := decide_eq_false (by omega)
        have G3 := Lib.hid (show decide (1 ≤ m ∧ m ≤ 4) = false from decide_eq_false q3)
        clear q3
        go_wp2_with (first
          | (go_at_call 57; refine (bound_Within _ _ _ _).mono ?_; rintro e w' ⟨rfl, rfl⟩)
          | fail)
        exact bodyPost_ret (v := .bool false) (by simp [results, Tryz.results81, go_sem]) rfl ⟨by rw [HR.out, G3.out]; simp, HB.out⟩
    · have f2 : (n == 0) = false := by simp [q2]
      clear q2
      go_wp2_with fail
      exact bodyPost_ret (v := .bool false) (by simp [results, Tryz.results81, go_sem]) rfl ⟨by rw [HR.out, f2]; simp, HB.out⟩
  · have f1 : (t == 0) = false := by simp [q1]
    clear q1
    go_wp2_with fail
    exact bodyPost_ret (v := .bool false) (by simp [results, Tryz.results81, go_sem]) rfl ⟨by rw [HR.out, f1]; simp, HB.out⟩
theorem code_isCall : ∀ dp : Nat, dp ≤ 100 → IsC dp := by
  intro dp
  induction dp with
  | zero =>
    intro _ d c v w hrd
    obtain ⟨d', ao, cap, -, rfl, hkids⟩ := hrd.open
    by_cases h5 : c.k = 5
    · rw [okC_5 h5, h5]
      refine (code_isCall5 c.t c.n 0 ao c.kids.length cap true w (fun h => absurd h (by decide))).mono ?_
      rintro e w' ⟨he, hb⟩
      exact ⟨by rw [he]; simp, hb⟩
    · rw [okC_n5 h5]
      exact code_isCall0 c.k c.t c.n _ ao c.kids.length cap w h5
  | succ dp ih =>
    intro hp d c v w hrd
    obtain ⟨d', ao, cap, -, rfl, hkids⟩ := hrd.open
    by_cases h5 : c.k = 5
    · rw [okC_5 h5, h5]
      refine (code_isCall5 c.t c.n ((dp + 1 : Nat) : Int) ao c.kids.length cap (c.kids.all (okC dp)) w (fun h0 hm W db hb hc => ?_)).mono ?_
      · exact slices_ContainsC (by omega) (ih (by omega)) d' c.kids ao _ cap W db rfl (by omega) (RdCs.below hkids hb) (by rw [hc]; norm_cast)
      · rintro e w' ⟨he, hb⟩
        refine ⟨?_, hb⟩
        rw [he]
        have h0 : decide ((0 : Int) < ((dp + 1 : Nat) : Int)) = true := decide_eq_true (by omega)
        rw [h0]
        simp [headOk, h5]
    · rw [okC_n5 h5]
      exact code_isCall0 c.k c.t c.n _ ao c.kids.length cap w h5
end Go.Proofs.YtcfcfijmfgnpfaaGreatDoor
end

section
namespace Go.Proofs.YtcfcfijmfgnpfaaGreatDoor
open Go.RowKit
set_option linter.unusedVariables false
set_option linter.unusedSimpArgs false

def bnd : Nat → Nat
  | 0 => 36
  | d + 1 => 72 + 4 * bnd d
theorem leaf_kids {c : Cl} (h : leafOk c.k c.t c.n c.kids.length) : c.kids = [] := by
  unfold leafOk at h
  exact List.eq_nil_of_length_eq_zero (by omega)
theorem bnd_lo : ∀ d, 36 ≤ bnd d
  | 0 => Nat.le_refl _
  | d + 1 => by rw [bnd]; omega
theorem okC_len : ∀ (dp : Nat) (c : Cl), okC dp c = true → (layT c).length ≤ bnd dp := by
  intro dp
  induction dp with
  | zero =>
    intro c h
    have hk := leaf_kids (of_decide_eq_true h)
    rw [layT_eq, hk]
    have := numsL_length [c.k, c.t, c.n, ([] : List Cl).length]
    rw [List.length_append]
    simp only [laysT, List.length_nil, List.length_cons] at this ⊢
    simp only [bnd]
    omega
  | succ dp ih =>
    intro c h
    unfold okC at h
    rw [Bool.or_eq_true] at h
    have hn := numsL_length [c.k, c.t, c.n, c.kids.length]
    simp only [List.length_cons, List.length_nil] at hn
    have hb := bnd_lo dp
    rw [layT_eq, List.length_append, bnd]
    rcases h with h | h
    · have hk := leaf_kids (of_decide_eq_true h)
      have : (laysT c.kids).length = 0 := by rw [hk]; rfl
      omega
    · rw [Bool.and_eq_true] at h
      obtain ⟨h1, h2⟩ := h
      have h4 : c.kids.length ≤ 4 := by unfold headOk at h1; simp at h1; omega
      rw [List.all_eq_true] at h2
      have key : ∀ l : List Cl, (∀ x ∈ l, okC dp x = true) → (laysT l).length ≤ l.length * (9 + bnd dp) := by
        intro l hl
        induction l with
        | nil => simp [laysT]
        | cons x l ihl =>
          rw [laysT, List.length_append, List.length_cons, Nat.add_mul]
          have h3 := rowL_length (layT x)
          have h5 := ih x (hl x List.mem_cons_self)
          have h6 := ihl (fun y hy => hl y (List.mem_cons_of_mem _ hy))
          omega
      have h7 := key c.kids h2
      have h8 : c.kids.length * (9 + bnd dp) ≤ 4 * (9 + bnd dp) := Nat.mul_le_mul_right _ h4
      omega
theorem okC3_len {c : Cl} (h : okC 3 c = true) : (layT c).length ≤ 3816 := okC_len 3 c h
set_option maxRecDepth 100000 in
theorem code_IsCall (d : Nat) (c : Cl) (v : Value) (w : World) (hrd : RdC w d v c) : Calls Tryz.prog 60 #[v] w fun e w' => e = .returned (.bool (okC 3 c)) ∧ Below w.heap.size w w' := by
  obtain ⟨d', ao, cap, -, rfl, -⟩ := hrd.open
  obtain ⟨k, hk⟩ : ∃ k, k = c.k := ⟨_, rfl⟩
  obtain ⟨t, ht⟩ : ∃ t, t = c.t := ⟨_, rfl⟩
  obtain ⟨n, hn⟩ : ∃ n, n = c.n := ⟨_, rfl⟩
  obtain ⟨m, hm⟩ : ∃ m, m = c.kids.length := ⟨_, rfl⟩
  rw [← hk, ← ht, ← hn, ← hm] at hrd ⊢
  obtain ⟨W, hW⟩ : ∃ W, W = w.alloc (.cells #[.int .i64 k, .int .i64 t, .int .i64 n, .slice ao m cap] 45) := ⟨_, rfl⟩
  have hB : Below w.heap.size w W := by rw [hW]; exact (Below.refl _ w).alloc (Nat.le_refl _) _
  have hrg : W.rangeAt w.heap.size 0 [.int .i64 k, .int .i64 t, .int .i64 n, .slice ao m cap] := by rw [hW]; exact rangeAt_new _
  have hcall := code_isCall 3 (by omega) d c _ W (RdC.below hB hrd)
  have HW := Lib.hid hW
  have HC := Lib.hid hcall
  have HB := Lib.hid hB
  have HRG := Lib.hid hrg
  clear hk ht hn hm hW hB hrg hcall hrd
  go_enter Tryz.func60, Tryz.ntmps60
  go_upto_region 1 with fail
  rw [← HW.out]
  go_wp2_with (first
    | (refine wpl_loadC _ rfl rfl rfl HRG.out rfl ?_)
    | (go_at_call 81; refine HC.out.mono ?_; rintro e w1 ⟨rfl, hb⟩; have H1 := Lib.hid (HB.out.trans (hb.mono HB.out.size)); clear hb)
    | fail)
  exact bodyPost_ret (v := .bool (okC 3 c)) (by simp [results, Tryz.results60, go_sem]) rfl ⟨rfl, H1.out⟩
set_option maxRecDepth 100000 in
set_option maxHeartbeats 1000000 in
theorem code_EncodeCall (d : Nat) (c : Cl) (v : Value) (w : World) (hrd : RdC w d v c) : Calls Tryz.prog 43 #[v] w fun e w' => ∃ u, e = .returned (.tuple #[u, .int .i64 (if okC 3 c then 0 else 1)]) ∧ OwnB w.heap.size u (Bs (if okC 3 c then layT c else [])) w' ∧ Below w.heap.size w w' := by
  obtain ⟨d', ao, cap, -, rfl, -⟩ := hrd.open
  obtain ⟨k, hk⟩ : ∃ k, k = c.k := ⟨_, rfl⟩
  obtain ⟨t, ht⟩ : ∃ t, t = c.t := ⟨_, rfl⟩
  obtain ⟨n, hn⟩ : ∃ n, n = c.n := ⟨_, rfl⟩
  obtain ⟨m, hm⟩ : ∃ m, m = c.kids.length := ⟨_, rfl⟩
  rw [← hk, ← ht, ← hn, ← hm] at hrd ⊢
  obtain ⟨W, hW⟩ : ∃ W, W = w.alloc (.cells #[.int .i64 k, .int .i64 t, .int .i64 n, .slice ao m cap] 45) := ⟨_, rfl⟩
  have hB : Below w.heap.size w W := by rw [hW]; exact (Below.refl _ w).alloc (Nat.le_refl _) _
  have hrg : W.rangeAt w.heap.size 0 [.int .i64 k, .int .i64 t, .int .i64 n, .slice ao m cap] := by rw [hW]; exact rangeAt_new _
  have hrd3 := RdC.below hB hrd
  have hcall := code_IsCall d c _ W hrd3
  have hlay := fun W2 (hb : Below W.heap.size W W2) (hl : (layT c).length ≤ 100000) => code_lay d c _ W2 hl (RdC.below hb hrd3)
  have hrg2 := fun W2 (hb : Below W.heap.size W W2) => rangeAt_keep hrg (hb.block w.heap.size (by rw [hW]; simp))
  have hlen := fun h => okC3_len (c := c) h
  obtain ⟨q, hq⟩ : ∃ q, q = okC 3 c := ⟨_, rfl⟩
  rw [← hq] at hcall hlen ⊢
  have HW := Lib.hid hW
  have HC := Lib.hid hcall
  have HL := Lib.hid hlay
  have HLE := Lib.hid hlen
  have HB := Lib.hid hB
  have HRG := Lib.hid hrg
  have HRG2 := Lib.hid hrg2
  clear hk ht hn hm hW hB hrg hcall hrd hrd3 hlay hrg2 hlen hq
  go_enter Tryz.func43, Tryz.ntmps43
  go_upto_region 1 with fail
  rw [← HW.out]
  have tok : True := trivial
  cases q
  · go_wp2_with (first
      | (refine wpl_loadC _ rfl rfl rfl HRG.out rfl ?_)
      | (go_at_call 60; refine HC.out.mono ?_; rintro e w1 ⟨rfl, hb⟩; have H1 := Lib.hid (HB.out.trans (hb.mono HB.out.size)); clear hb)
      | fail)
    exact bodyPost_ret (v := .tuple #[.slice none 0 0, .int .i64 1]) (by simp [results, Tryz.results43, go_sem]) rfl ⟨_, rfl, World.ownsRow_nil _ _ _ _, H1.out⟩
  · go_wp2_with (first
      | (have _t := tok; refine wpl_loadC _ rfl rfl rfl HRG.out rfl ?_; clear tok)
      | (go_at_call 60; refine HC.out.mono ?_; rintro e w1 ⟨rfl, hb⟩; have H1 := Lib.hid hb; clear hb)
      | (refine wpl_loadC _ rfl rfl rfl (HRG2.out _ H1.out) rfl ?_)
      | (go_at_call 61; refine (HL.out _ H1.out (Nat.le_trans (HLE.out (by simp)) (by omega))).mono ?_; rintro e w2 ⟨u, rfl, ho, hb, hs⟩; have H2 := Lib.hid (And.intro (OwnB.ofC ho (Nat.le_trans HB.out.size H1.out.size) (fun _ _ => rfl)) (HB.out.trans ((H1.out.trans (hb.mono H1.out.size)).mono HB.out.size))); clear ho hb hs)
      | fail)
    exact bodyPost_ret (v := .tuple #[u, .int .i64 0]) (by simp [results, Tryz.results43, go_sem]) rfl ⟨u, rfl, H2.out.1, H2.out.2⟩
end Go.Proofs.YtcfcfijmfgnpfaaGreatDoor
end

section
namespace Go.Proofs.YtcfcfijmfgnpfaaGreatDoor
open Go.RowKit
set_option linter.unusedVariables false
set_option linter.unusedSimpArgs false

set_option maxRecDepth 100000 in
set_option maxHeartbeats 4000000 in
theorem law_size (d : Nat) : ∀ (c : Cl) (v : Value) (w : World), RdC w d v c → LenC c → Calls Tryz.prog 34 #[v] w fun e w' => (∃ r : Int, e = .returned (.int .i64 r)) ∧ Below w.heap.size w w' := by
  induction d with
  | zero => intro c v w h; exact h.elim
  | succ d ih =>
  intro c v w hrd hlen
  obtain ⟨d', ao, cap, hd, rfl, hkids⟩ := hrd.open
  obtain rfl : d' = d := by omega
  obtain ⟨hl1, hl2⟩ := (lenC_iff c).1 hlen
  obtain ⟨k, hk⟩ : ∃ k, k = c.k := ⟨_, rfl⟩
  obtain ⟨t, ht⟩ : ∃ t, t = c.t := ⟨_, rfl⟩
  obtain ⟨n, hn⟩ : ∃ n, n = c.n := ⟨_, rfl⟩
  obtain ⟨l, hl⟩ : ∃ l, l = c.kids := ⟨_, rfl⟩
  rw [← hk, ← ht, ← hn, ← hl]
  rw [← hl] at hkids hl1 hl2
  obtain ⟨m, hm⟩ : ∃ m, m = l.length := ⟨_, rfl⟩
  rw [← hm] at hl1 ⊢
  have hmI : (m : Int) ≤ 9223372036854775807 := Int.le_trans (Int.ofNat_le.2 hl1) (by decide +kernel)
  obtain ⟨W, hW⟩ : ∃ W, W = w.alloc (.cells #[.int .i64 k, .int .i64 t, .int .i64 n, .slice ao m cap] 45) := ⟨_, rfl⟩
  have hB : Below w.heap.size w W := by rw [hW]; exact (Below.refl _ w).alloc (Nat.le_refl _) _
  have g1 := World.alloc_heap_new w (.cells #[.int .i64 k, .int .i64 t, .int .i64 n, .slice ao m cap] 45)
  rw [← hW] at g1
  obtain ⟨cb, hcb⟩ : ∃ cb, cb = w.heap.size := ⟨_, rfl⟩
  rw [← hcb] at g1
  have a3 : W.cell? ⟨cb, 3, none⟩ = some (.slice ao m cap) := by rw [World.cell?, g1]; rfl
  have HRD := Lib.hid (RdCs.below hkids hB)
  have HB := Lib.hid hB
  have HM := Lib.hid (And.intro hm hl2)
  have IH := Lib.hid ih
  have HCB := Lib.hid (show cb < W.heap.size by rw [hW, hcb]; simp)
  clear hk ht hn hl hrd hlen hkids hl1 hl2 hm g1 hB ih hd
  go_enter Tryz.func34, Tryz.ntmps34
  go_upto_region 1 with fail
  rw [← hW, ← hcb]
  clear hW hcb
  go_wp2_with fail
  go_loopw [3, 4] (fun r i wr => ∃ (q : Int) (j : Nat), j ≤ m ∧ r = .int .i64 q ∧ i = .int .i64 j ∧ Below W.heap.size W wr) (fun _ i _ => m - (intOf i).toNat)
  case atStart => exact ⟨_, 0, by omega, rfl, rfl, Below.refl _ _⟩
  case round =>
    obtain ⟨q, j, hj, rfl, rfl, hb⟩ := hrel
    have HBW := Lib.hid hb
    have b3 : wr.cell? ⟨cb, 3, none⟩ = some (.slice ao m cap) := (World.cell?_of_block (a := ⟨cb, 3, none⟩) (hb.block cb HCB.out)).trans a3
    clear a3
    by_cases hin : j < m ∧ q < 300
    · obtain ⟨hlt, hq⟩ := hin
      have hlt' : (j : Int) < m := by omega
      have hjl : j < l.length := by rw [← HM.out.1]; exact hlt
      obtain ⟨kb, ko, vs, rfl, hkb, hrg, hrd⟩ := HRD.out j hjl
      have hrg2 : wr.rangeAt kb (ko + j * 4) vs := rangeAt_keep hrg (hb.block kb hkb)
      have hrd2 : RdC wr d' (.agg vs.toArray) l[j] := RdC.below hb hrd
      have hcall := IH.out l[j] _ wr hrd2 (HM.out.2 _ (List.getElem_mem hjl))
      obtain ⟨a4, c4, e4⟩ := hrd2.cells
      obtain ⟨c1, c2, c3, c5, e5⟩ : ∃ c1 c2 c3 c5, vs = [.int .i64 c1, .int .i64 c2, .int .i64 c3, .slice a4 c5 c4] := ⟨_, _, _, _, e4⟩
      clear e4
      subst e5
      have HCA := Lib.hid hcall
      have HRG := Lib.hid hrg2
      clear hkb hrg hrd hrg2 hrd2 hcall hb hjl
      go_wp2_with (first
        | (refine wpl_loadC _ rfl rfl rfl HRG.out rfl ?_)
        | (go_at_call 34; refine HCA.out.mono ?_; rintro e w1 ⟨⟨r, rfl⟩, hb⟩; have H1 := Lib.hid (HBW.out.trans (hb.mono HBW.out.size)); clear hb)
        | fail)
      go_roundw
      case rel => exact ⟨_, j + 1, by omega, rfl, by go_num, H1.out⟩
      case measure => simp [intOf]; omega
    · have hex : (¬ (j : Int) < m) ∨ ((j : Int) < m ∧ ¬ q < 300) := by omega
      clear hin hb hj
      rcases hex with h1 | ⟨h1, h2⟩
      all_goals go_wp2_with fail
      all_goals exact bodyPost_ret (v := .int .i64 q) (by simp [results, Tryz.results34, go_sem]) rfl ⟨⟨_, rfl⟩, HB.out.trans (HBW.out.mono HB.out.size)⟩
end Go.Proofs.YtcfcfijmfgnpfaaGreatDoor
end

section
namespace Go.Proofs.YtcfcfijmfgnpfaaGreatDoor
open Go.RowKit
set_option linter.unusedVariables false
set_option linter.unusedSimpArgs false

def exHd (l : List Int) (h : l.length = 7) : Ex := exWith exZero l h
theorem extEq_zero (a b c d e f g : Int) (l : List Int) (h : l.length = 7) (h0 : l = [0, 0, 0, 0, 0, 0, 0]) : extEq (exWith (exHd [a, b, c, d, e, f, g] rfl) l h) exZero = true := by subst h0; rfl
theorem rdC0 {k t n : Int} {w : World} : RdC w 1 (.agg #[.int .i64 k, .int .i64 t, .int .i64 n, .slice none 0 0]) (.mk k t n []) :=
  ⟨none, 0, rfl, fun i hi => absurd hi (Nat.not_lt_zero i)⟩
theorem known_ok : okC 3 (.mk 1 0 3 []) = true := by decide +kernel
theorem known_lay : layT (.mk 1 0 3 []) = [4, 0, 12, 0] := by decide +kernel
theorem known_enc (w : World) : Calls Tryz.prog 43 #[.agg #[.int .i64 1, .int .i64 0, .int .i64 3, .slice none 0 0]] w fun e w' => ∃ u, e = .returned (.tuple #[u, .int .i64 0]) ∧ OwnB w.heap.size u (Bs [4, 0, 12, 0]) w' ∧ Below w.heap.size w w' := by
  have h := code_EncodeCall 1 (.mk 1 0 3 []) _ w rdC0
  have e1 : (if okC 3 (.mk 1 0 3 []) then (0 : Int) else 1) = 0 := by rw [known_ok]; rfl
  have e2 : (if okC 3 (.mk 1 0 3 []) then layT (.mk 1 0 3 []) else []) = [4, 0, 12, 0] := by rw [known_ok, known_lay]; rfl
  rw [e1, e2] at h
  exact h
end Go.Proofs.YtcfcfijmfgnpfaaGreatDoor
end

section
namespace Go.Proofs.YtcfcfijmfgnpfaaGreatDoor
open Go.RowKit
set_option linter.unusedVariables false

/-- x turned to the right by n. -/
def rot (x n : Nat) : Nat := (x / 2 ^ n) ||| (x * 2 ^ (64 - n) % 18446744073709551616)

theorem rot_lt {x n : Nat} (hx : x < 18446744073709551616) : rot x n < 18446744073709551616 := by
  unfold rot
  exact Nat.or_lt_two_pow (n := 64) (Nat.lt_of_le_of_lt (Nat.div_le_self _ _) hx) (Nat.mod_lt _ (by decide))

theorem or_rot (x a b : Nat) (hx : x < 18446744073709551616) : bits .or .u64 ((x : Int) / (a : Int)) (IntKind.u64.wrap ((x : Int) * (b : Int))) = ((x / a ||| x * b % 18446744073709551616 : Nat) : Int) := by
  have h2 : IntKind.u64.wrap ((x : Int) * (b : Int)) = ((x * b % 18446744073709551616 : Nat) : Int) := by
    rw [IntKind.wrap_u64, ← Int.natCast_mul]; omega
  rw [h2, ← Int.natCast_ediv]
  exact bits_or_u64_nat _ _ (Nat.lt_of_le_of_lt (Nat.div_le_self _ _) hx) (Nat.mod_lt _ (by decide))
theorem or_rot' (x a b : Nat) (hx : x < 18446744073709551616) : bits .or .u64 (IntKind.u64.wrap ((x : Int) * (b : Int))) ((x : Int) / (a : Int)) = ((x / a ||| x * b % 18446744073709551616 : Nat) : Int) := by
  have h2 : IntKind.u64.wrap ((x : Int) * (b : Int)) = ((x * b % 18446744073709551616 : Nat) : Int) := by
    rw [IntKind.wrap_u64, ← Int.natCast_mul]; omega
  rw [h2, ← Int.natCast_ediv, Nat.or_comm]
  exact bits_or_u64_nat _ _ (Nat.mod_lt _ (by decide)) (Nat.lt_of_le_of_lt (Nat.div_le_self _ _) hx)
theorem ret_u64 {a b : Int} (h : a = b) : Ending.returned (.int .u64 a) = .returned (.int .u64 b) := by rw [h]

theorem ref_turned (x n : Nat) (w : World) (hx : x < 18446744073709551616) (hn : n = 32 ∨ n = 24 ∨ n = 16 ∨ n = 63) :
    Calls Tryz.prog 117 #[.int .u64 (x : Nat), .int .u64 (n : Nat)] w fun e w' => e = .returned (.int .u64 (rot x n : Nat)) ∧ w = w' := by
  rcases hn with rfl | rfl | rfl | rfl
  all_goals
    go_enter Tryz.func117, Tryz.ntmps117
    go_wp2
    go_ret
    exact ⟨ret_u64 (or_rot x _ _ hx), rfl⟩

theorem lib_rotate (x n : Nat) (m : Int) (w : World) (hx : x < 18446744073709551616) (hn : (n = 32 ∧ m = -32) ∨ (n = 24 ∧ m = -24) ∨ (n = 16 ∧ m = -16) ∨ (n = 63 ∧ m = -63)) :
    Calls Tryz.prog 150 #[.int .u64 (x : Nat), .int .i64 m] w fun e w' => e = .returned (.int .u64 (rot x n : Nat)) ∧ w = w' := by
  have e1 : IntKind.u64.wrap (-32) = 18446744073709551584 := by decide
  have e2 : IntKind.u64.wrap (-24) = 18446744073709551592 := by decide
  have e3 : IntKind.u64.wrap (-16) = 18446744073709551600 := by decide
  have e4 : IntKind.u64.wrap (-63) = 18446744073709551553 := by decide
  have b1 : bits .and .u64 18446744073709551584 63 = 32 := by decide
  have b2 : bits .and .u64 18446744073709551592 63 = 40 := by decide
  have b3 : bits .and .u64 18446744073709551600 63 = 48 := by decide
  have b4 : bits .and .u64 18446744073709551553 63 = 1 := by decide
  rcases hn with ⟨rfl, rfl⟩ | ⟨rfl, rfl⟩ | ⟨rfl, rfl⟩ | ⟨rfl, rfl⟩
  all_goals
    go_enter Tryz.func150, Tryz.ntmps150
    go_wp2
    go_ret
    exact ⟨ret_u64 (or_rot' x _ _ hx), rfl⟩
end Go.Proofs.YtcfcfijmfgnpfaaGreatDoor
end

section
namespace Go.Proofs.YtcfcfijmfgnpfaaGreatDoor
open Go.RowKit
set_option linter.unusedVariables false

/-- Words in a block: so many numbers below 2^64. -/
def Ws (l : List Nat) : Array Value := (l.map fun (n : Nat) => Value.int .u64 (n : Int)).toArray
/-- The word at a place. -/
def gt (l : List Nat) (i : Nat) : Nat := l.getD i 0
def Small (l : List Nat) : Prop := ∀ i, gt l i < 18446744073709551616
/-- A block that holds just these words. -/
structure WBox (t : TypeId) (b : Nat) (l : List Nat) (w : World) : Prop where
  at_ : w.heap[b]? = some (.cells (Ws l) t (0, 0))
  small : Small l
theorem Small.set {l : List Nat} (h : Small l) (i : Nat) {x : Nat} (hx : x < 18446744073709551616) : Small (l.set i x) := by
  intro j
  have := h j
  simp only [gt, List.getD_eq_getElem?_getD, List.getElem?_set] at this ⊢
  split
  · split
    · simpa using hx
    · simp
  · exact this
theorem WBox.lt {t : TypeId} {b : Nat} {l : List Nat} {w : World} (h : WBox t b l w) : b < w.heap.size := (Array.getElem?_eq_some_iff.1 h.at_).1
theorem WBox.cell {t : TypeId} {b : Nat} {l : List Nat} {w : World} (h : WBox t b l w) {i : Nat} (hi : i < l.length) : w.cell? ⟨b, i, none⟩ = some (.int .u64 (gt l i : Nat)) := by
  simp [World.cell?, h.at_, Ws, hi, gt]
theorem WBox.frozen {t : TypeId} {b : Nat} {l : List Nat} {w : World} (h : WBox t b l w) (i : Nat) : w.frozen? ⟨b, i, none⟩ = false := by simp [World.frozen?, h.at_]
theorem set_blockM {w : World} {b i : Nat} {cs : Array Value} {t : TypeId} {fr : Nat × Nat} (v : Value) (h : w.heap[b]? = some (.cells cs t fr)) : (w.setCell ⟨b, i, none⟩ v).heap[b]? = some (.cells (cs.setIfInBounds i v) t fr) := by
  obtain ⟨hlt, hk⟩ := Array.getElem?_eq_some_iff.1 h
  show (w.heap.modify b _)[b]? = _
  rw [Array.getElem?_eq_getElem (by rw [Array.size_modify]; exact hlt), Array.getElem_modify_self, hk]
  rfl
theorem set_other {w : World} {k : Nat} {a : Addr} {v : Value} (h : k ≠ a.block) : (w.setCell a v).heap[k]? = w.heap[k]? := by
  show (w.heap.modify a.block _)[k]? = _
  rw [Array.getElem?_modify, if_neg (fun e => h e.symm)]
theorem WBox.set {t : TypeId} {b : Nat} {l : List Nat} {w : World} (h : WBox t b l w) (i : Nat) {x : Nat} (hx : x < 18446744073709551616) : WBox t b (l.set i x) (w.setCell ⟨b, i, none⟩ (.int .u64 (x : Nat))) := by
  refine ⟨(set_blockM _ h.at_).trans ?_, h.small.set i hx⟩
  simp [Ws, List.map_set]

/-- Only block b may have changed; no block is new. -/
structure Upd (b : Nat) (w w' : World) : Prop where
  os : w'.os = w.os
  tape : w'.tape = w.tape
  output : w'.output = w.output
  size : w'.heap.size = w.heap.size
  block : ∀ k, k ≠ b → w'.heap[k]? = w.heap[k]?
theorem Upd.refl (b : Nat) (w : World) : Upd b w w := ⟨rfl, rfl, rfl, rfl, fun _ _ => rfl⟩
theorem Upd.trans {b : Nat} {x y z : World} (h : Upd b x y) (k : Upd b y z) : Upd b x z := ⟨k.os.trans h.os, k.tape.trans h.tape, k.output.trans h.output, k.size.trans h.size, fun i hi => (k.block i hi).trans (h.block i hi)⟩
theorem Upd.set {b : Nat} {x y : World} (h : Upd b x y) (i : Nat) (v : Value) : Upd b x (y.setCell ⟨b, i, none⟩ v) := h.trans ⟨rfl, rfl, rfl, by simp, fun k hk => set_other hk⟩
theorem Upd.drew {b : Nat} {x y : World} (h : Upd b x y) : Upd b x y.drew := ⟨h.os, h.tape, h.output, h.size, h.block⟩
theorem Upd.below {b N : Nat} {x y : World} (h : Upd b x y) (hb : N ≤ b) : Below N x y := ⟨h.os, h.tape, h.output, Nat.le_of_eq h.size.symm, fun k hk => h.block k (by omega)⟩

/-- One number of the four is summed up, or turned. -/
def addS (v : List Nat) (a b x : Nat) : List Nat := v.set a ((gt v a + gt v b + x) % 18446744073709551616)
def rotS (v : List Nat) (d a n : Nat) : List Nat := v.set d (rot (gt v d ^^^ gt v a) n)
def mixL (v : List Nat) (a b c d x y : Nat) : List Nat :=
  rotS (addS (rotS (addS (rotS (addS (rotS (addS v a b x) d a 32) c d 0) b c 24) a b y) d a 16) c d 0) b c 63
theorem addS_len (v : List Nat) (a b x : Nat) : (addS v a b x).length = v.length := by simp [addS]
theorem rotS_len (v : List Nat) (d a n : Nat) : (rotS v d a n).length = v.length := by simp [rotS]

/-- What is known at a step: the words, and that only their block has turned. -/
structure MS (t : TypeId) (b : Nat) (w0 : World) (l : List Nat) (w : World) : Prop where
  box : WBox t b l w
  len : l.length = 16
  upd : Upd b w0 w
theorem MS.addS {t : TypeId} {b : Nat} {w0 w : World} {l : List Nat} (h : MS t b w0 l w) (i j x : Nat) {v : Int} (hv : v = ((gt l i + gt l j + x) % 18446744073709551616 : Nat)) : MS t b w0 (addS l i j x) (w.setCell ⟨b, i, none⟩ (.int .u64 v)).drew := by
  subst hv
  have k := h.box.set i (x := (gt l i + gt l j + x) % 18446744073709551616) (Nat.mod_lt _ (by decide))
  exact ⟨⟨k.at_, k.small⟩, by rw [addS_len]; exact h.len, (h.upd.set _ _).drew⟩
theorem MS.rotS {t : TypeId} {b : Nat} {w0 w : World} {l : List Nat} (h : MS t b w0 l w) (i j n : Nat) : MS t b w0 (rotS l i j n) (w.setCell ⟨b, i, none⟩ (.int .u64 (rot (gt l i ^^^ gt l j) n : Nat))).drew := by
  have k := h.box.set i (x := rot (gt l i ^^^ gt l j) n) (rot_lt (Nat.xor_lt_two_pow (n := 64) (h.box.small i) (h.box.small j)))
  exact ⟨⟨k.at_, k.small⟩, by rw [rotS_len]; exact h.len, (h.upd.set _ _).drew⟩
theorem MS.facts {t : TypeId} {b : Nat} {w0 w : World} {l : List Nat} (h : MS t b w0 l w) (i j : Nat) (hi : i < 16) (hj : j < 16) :
    w.cell? ⟨b, i, none⟩ = some (.int .u64 (gt l i : Nat)) ∧ w.cell? ⟨b, j, none⟩ = some (.int .u64 (gt l j : Nat)) ∧ w.frozen? ⟨b, i, none⟩ = false ∧ bits .xor .u64 (gt l i : Nat) (gt l j : Nat) = ((gt l i ^^^ gt l j : Nat) : Int) ∧ gt l i ^^^ gt l j < 18446744073709551616 :=
  ⟨h.box.cell (by rw [h.len]; exact hi), h.box.cell (by rw [h.len]; exact hj), h.box.frozen i, bits_xor_u64_nat _ _ (h.box.small i) (h.box.small j), Nat.xor_lt_two_pow (n := 64) (h.box.small i) (h.box.small j)⟩
theorem add3_l (p q x : Nat) : IntKind.u64.wrap (IntKind.u64.wrap ((p : Int) + (q : Int)) + (x : Int)) = ((p + q + x) % 18446744073709551616 : Nat) := by
  simp only [IntKind.wrap_u64]; omega
theorem add3_r (p q x : Nat) : IntKind.u64.wrap ((p : Int) + IntKind.u64.wrap ((q : Int) + (x : Int))) = ((p + q + x) % 18446744073709551616 : Nat) := by
  simp only [IntKind.wrap_u64]; omega
theorem add2 (p q : Nat) : IntKind.u64.wrap ((p : Int) + (q : Int)) = ((p + q + 0) % 18446744073709551616 : Nat) := by
  simp only [IntKind.wrap_u64]; omega

theorem ref_turned_still {P Q : Int} (x n : Nat) (w : World) (hP : P = (x : Int)) (hQ : Q = (n : Int)) (hx : x < 18446744073709551616) (hn : n = 32 ∨ n = 24 ∨ n = 16 ∨ n = 63) :
    Calls Tryz.prog 117 #[.int .u64 P, .int .u64 Q] w fun e w' => e = .returned (.int .u64 (rot x n : Nat)) ∧ w' = w := by
  subst hP hQ; exact (ref_turned x n w hx hn).mono fun e w' h => ⟨h.1, h.2.symm⟩
theorem lib_rotate_still {P : Int} (x n : Nat) (m : Int) (w : World) (hP : P = (x : Int)) (hx : x < 18446744073709551616) (hn : (n = 32 ∧ m = -32) ∨ (n = 24 ∧ m = -24) ∨ (n = 16 ∧ m = -16) ∨ (n = 63 ∧ m = -63)) :
    Calls Tryz.prog 150 #[.int .u64 P, .int .i64 m] w fun e w' => e = .returned (.int .u64 (rot x n : Nat)) ∧ w' = w := by
  subst hP; exact (lib_rotate x n m w hx hn).mono fun e w' h => ⟨h.1, h.2.symm⟩
end Go.Proofs.YtcfcfijmfgnpfaaGreatDoor
end
