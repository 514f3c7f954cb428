/-
  numbers: what pointers point at, as a row of one's own.
-/
import Derived.Test.YtbndegkgpoemnaaVal1
import Derived.Maps.OwnIn
import Derived.Maps.AppendAt
import Derived.Shelf.RegionOpen
import Derived.Great.BuildSlice
import Derived.Deep.MidRow
namespace Go.Proofs.Ytbndegkgpoemnaa
open Go.RowKit
attribute [local go_sem] Oper.semAt_some
set_option linter.unusedVariables false
set_option linter.unusedSimpArgs false

def Is (l : List Int) : List Value := l.map fun x => Value.int .i64 x
/-- Numbers that the call owns. -/
def OwnN (B : Nat) (v : Value) (l : List Int) (w : World) : Prop := w.ownsRow B 3 1 v l.length (Is l)
theorem infoI : (Try.prog.info? 3).map (fun i => (i.zero, i.size, i.bytes)) = some (some (.int .i64 0), 1, 8) := by kernel_rfl
theorem OwnN.nil (w : World) (B : Nat) : OwnN B (.slice none 0 0) [] w := World.ownsRow_nil w B _ 1
theorem OwnN.lenOf {B : Nat} {v : Value} {l : List Int} {w : World} (h : OwnN B v l w) : ∃ ao cap, v = .slice ao l.length cap := by
  rcases h.2 with ⟨rfl, e⟩ | ⟨g, cap, cur, rfl, -⟩
  · exact ⟨none, 0, by rw [e]⟩
  · exact ⟨_, _, rfl⟩
theorem OwnN.block {B : Nat} {v : Value} {l : List Int} {w : World} (h : OwnN B v l w) {k : Nat} (hk : v.ownBlock = some k) : B ≤ k ∧ k < w.heap.size := World.ownsRow.lt h k hk
theorem OwnN.of {B S' : Nat} {v : Value} {l : List Int} {w w' : World} (h : OwnN B v l w) (hS : S' ≤ B) (hk : ∀ k, v.ownBlock = some k → w'.heap[k]? = w.heap[k]?) : OwnN S' v l w' := by
  obtain ⟨h1, h2⟩ := h
  refine ⟨h1, ?_⟩
  rcases h2 with h2 | ⟨g, cap, cur, rfl, hb, hg, hn, hm, hs, ht⟩
  · exact .inl h2
  · exact .inr ⟨g, cap, cur, rfl, by omega, (hk g rfl).trans hg, hn, hm, hs, ht⟩
section
variable {F : Fence} {nF : Nat} {w : World} {ops : Array Oper} {rest : List Oper} {o : Oper} {a : Act} {Q : Exit → Act → World → Prop}
theorem wplIn_appN_at {s x : Operand} {B ub : Nat} {v : Value} {xs : List Int} {y : Int} (hgd : o.guard = none) (ho : o.op = .call { callee := .builtin .append, args := #[s, x], argTypes := #[60, 60] }) (hs : a.eval s = v) (hx : a.eval x = .slice (some ⟨ub, 0, none⟩) 1 1)
    (hown : OwnN B v xs w) (hc : w.cell? ⟨ub, 0, none⟩ = some (.int .i64 y)) (hlen : xs.length ≤ 1000) (hB : B ≤ w.heap.size)
    (h : ∀ v' w', OwnN B v' (xs ++ [y]) w' → w.grownBy w' v.ownBlock → (v'.ownBlock = v.ownBlock ∨ v'.ownBlock = some w.heap.size) → wpListIn F nF Try.prog ops Q rest (a.put o.dst v') w') : wpListIn F nF Try.prog ops Q (o :: rest) a w := by
  obtain ⟨i0, hi, hz⟩ := Option.map_eq_some_iff.1 infoI
  simp only [Prod.mk.injEq] at hz
  obtain ⟨hz0, hz1, hz2⟩ := hz
  refine wpListIn_append_own_at _ hgd s x _ ho B 3 i0 (.int .i64 0) 1 8 Try.underlying60 hi hz0 hz1 hz2 rfl (by decide) v _ _ hs hown ⟨ub, 0, none⟩ 1 1 [.int .i64 y] hx (by simp)
    (fun j u hj => by
      cases j with
      | zero => simp only [List.getElem?_cons_zero, Option.some.injEq] at hj; subst hj; rw [Addr.add_mid]; exact hc
      | succ j => simp at hj) (by simp [Value.oneCell']) (by unfold maxLen; omega) (by omega) hB ?_
  intro v' w' h1 h2 _ h4
  refine h v' w' ?_ h2 h4
  unfold OwnN
  rw [List.length_append]
  simpa [Is] using h1
end
/-- What vs point at: ns, in blocks below B other than lb. -/
def Points (B lb : Nat) (vs : List Value) (ns : List Int) (w : World) : Prop := vs.length = ns.length ∧ ∀ i v, vs[i]? = some v → ∃ b o, v = .pointer (some ⟨b, o, none⟩) ∧ b < B ∧ b ≠ lb ∧ w.cell? ⟨b, o, none⟩ = some (.int .i64 (ns.getD i 0))
structure NumC (N0 lb : Nat) (vs : List Value) (ns : List Int) (pre : List Value) (Φ : FP) (W : World) (v : Value) : Prop where
  bx : Boxed W lb 60 v
  own : OwnN N0 v (ns.take pre.length) W
  iff : ∀ k, Φ k ↔ v.ownBlock = some k
  pts : Points N0 lb vs ns W
  sz : N0 ≤ W.heap.size
def NumI (N0 lb : Nat) (vs : List Value) (ns : List Int) (pre : List Value) (Φ : FP) (W : World) : Prop := ∃ v, NumC N0 lb vs ns pre Φ W v
theorem Points.of {B lb : Nat} {vs : List Value} {ns : List Int} {w w' : World} (h : Points B lb vs ns w) (hk : ∀ k, k < B → k ≠ lb → w'.heap[k]? = w.heap[k]?) : Points B lb vs ns w' :=
  ⟨h.1, fun i v hi => by
    obtain ⟨b, o, e, h1, h2, h3⟩ := h.2 i v hi
    exact ⟨b, o, e, h1, h2, (World.cell?_of_block (a := ⟨b, o, none⟩) (hk b h1 h2)).trans h3⟩⟩
theorem NumI.stab {N0 lb : Nat} {vs : List Value} {ns : List Int} (h1 : lb < N0) : Stab N0 (NumI N0 lb vs ns) := by
  rintro pre Φ W ⟨v, h⟩
  exact ⟨fun k hk => h.own.block ((h.iff k).1 hk), h.sz, fun W' hg hk => ⟨v, (hk lb (.inl h1)).trans h.bx, h.own.of (Nat.le_refl _) (fun k e => hk k (.inr ((h.iff k).2 e))), h.iff, h.pts.of (fun k k1 _ => hk k (.inl k1)), Nat.le_trans h.sz hg.size⟩⟩
def appI (args : Array Value) : Sem Value := Builtin.append_ #[60, 60] 60 args
theorem append_hide (args : Array Value) : Builtin.append_ #[60, 60] 60 args = appI args := rfl
theorem run_appI {w : World} {B ub : Nat} {v : Value} {xs : List Int} {y : Int} (hown : OwnN B v xs w) (hc : w.cell? ⟨ub, 0, none⟩ = some (.int .i64 y)) (hlen : xs.length ≤ 1000) (hB : B ≤ w.heap.size) :
    ∃ v' w', (appI #[v, .slice (some ⟨ub, 0, none⟩) 1 1]).run Try.prog w = .ok v' w' ∧ OwnN B v' (xs ++ [y]) w' ∧ w.grownBy w' v.ownBlock ∧ (v'.ownBlock = v.ownBlock ∨ v'.ownBlock = some w.heap.size) := by
  obtain ⟨i0, hi, hz⟩ := Option.map_eq_some_iff.1 infoI
  simp only [Prod.mk.injEq] at hz
  obtain ⟨hz0, hz1, hz2⟩ := hz
  obtain ⟨v', w', h1, h2, h3, -, h5⟩ := run_append_own_at (P := Try.prog) (w := w) B 60 60 3 i0 (.int .i64 0) 1 8 Try.underlying60 hi hz0 hz1 hz2 rfl (by decide) v _ _ hown ⟨ub, 0, none⟩ 1 1 [.int .i64 y] (by simp)
    (fun j u hj => by
      cases j with
      | zero => simp only [List.getElem?_cons_zero, Option.some.injEq] at hj; subst hj; rw [Addr.add_mid]; exact hc
      | succ j => simp at hj) (by simp [Value.oneCell']) (by unfold maxLen; omega) (by omega) hB
  refine ⟨v', w', h1, ?_, h3, h5⟩
  unfold OwnN
  rw [List.length_append]
  simpa [Is] using h2
theorem enters_values : ∀ args w, (callFunc 76 args).run Try.prog w = .ok (.enter 76 args) w := enters_of Try.func76 (by kernel_rfl) rfl
attribute [local go_sem ↓] append_hide
set_option maxHeartbeats 4000000 in
set_option maxRecDepth 100000 in
theorem code_numbers (bx b cap : Nat) (vs : List Value) (ns : List Int) (w : World) (hbx : w.cell? ⟨bx, 0, none⟩ = some (.slice (some ⟨b, 0, none⟩) vs.length cap)) (hb1 : bx < w.heap.size) (hb2 : b < w.heap.size) (hr : RowV w b vs) (hl : vs.length ≤ 900) (hp : Points w.heap.size w.heap.size vs ns w) :
    Calls Try.prog 28 #[.func (.func 76) #[] #[.pointer (some ⟨bx, 0, none⟩)]] w fun e w' => ∃ v', e = .returned v' ∧ OwnN w.heap.size v' ns w' ∧ Below w.heap.size w w' := by
  refine (callsIn_wide (n := 2)).1 ?_
  refine callsIn_of_wp_marks Try.func28 rfl trivial ?_ rfl
  simp only [Try.ntmps28, List.size_toArray, List.length_cons, List.length_nil, Nat.reduceAdd, Nat.reduceSub, Array.replicate_succ, Array.replicate_zero, List.push_toArray, List.append_toArray, List.nil_append, List.cons_append]
  have mixed : Try.prog.follows .mixedOrders = true := by kernel_rfl
  gi_wp2_with fail
  obtain ⟨w1, hw1⟩ : ∃ w1, w1 = w.alloc (.cells #[.slice none 0 0] 60) := ⟨_, rfl⟩
  rw [← hw1]
  obtain ⟨lb, hlb⟩ : ∃ lb, lb = w.heap.size := ⟨_, rfl⟩
  have hB : Below w.heap.size w w1 := by rw [hw1]; exact (Below.refl _ w).alloc (Nat.le_refl _) _
  have hsz : w1.heap.size = lb + 1 := by rw [hw1, hlb]; simp
  have x0 : Boxed w1 lb 60 (.slice none 0 0) := by rw [hw1, hlb]; exact Boxed.new w _ _
  have hp1 : Points w1.heap.size lb vs ns w1 := ⟨hp.1, fun i v hi => by
    obtain ⟨pb, po, e, h1, h2, h3⟩ := hp.2 i v hi
    exact ⟨pb, po, e, by omega, by omega, (World.cell?_of_block (a := ⟨pb, po, none⟩) (hB.block pb h1)).trans h3⟩⟩
  have hit := values_iter 0 bx b cap vs w hbx hr hl (fun k => k < w.heap.size) hb1 hb2
  have HB1 := Lib.hid hB
  have HP1 := Lib.hid hp1
  have l1 : lb < w1.heap.size := by omega
  have l2 : w.heap.size ≤ lb := by omega
  have hvl : vs.length = ns.length := hp.1
  rw [← hlb]
  have HLB := Lib.hid hlb
  clear hp1 hw1 hp hbx hr hB hsz hlb
  refine range_outer (n := 0) (gf := 76) (lb := #[.pointer (some ⟨bx, 0, none⟩)]) rfl enters_values hit (Grow.of_below HB1.out) (fun k hk => ⟨hk, HB1.out.block k hk⟩) (fun _ => rfl)
    (fun k => k = lb) (by rintro k rfl; exact ⟨l1, fun h => by omega⟩) (NumI w1.heap.size lb vs ns) (fun _ _ _ _ => False) (NumI.stab l1) (fun c _ _ _ h => h.elim)
    ⟨_, x0, OwnN.nil _ _, fun k => ⟨fun h => h.elim, fun h => by cases h⟩, HP1.out, Nat.le_refl _⟩
    (fun x => { tmps := #[.func (.func 76) #[] #[.pointer (some ⟨bx, 0, none⟩)], undef, .slice none 0 0, .pointer (some ⟨lb, 0, none⟩), x, .func (.func 76) #[] #[.pointer (some ⟨bx, 0, none⟩)], x, undef, undef, undef, undef, undef, undef, undef], defers := [] }) ?assign ?body ?done ?stop
  case assign =>
    intro l x W K hK
    gi_wp2
    exact hK
  case body =>
    rintro l pre x Φ W hpx ⟨v1, hI⟩ hl1 hΦ -
    have hlen := hpx.length_le
    simp at hlen
    have hx : vs[pre.length]? = some x := by
      have h1 := hpx.getElem (i := pre.length) (by simp)
      simp at h1
      rw [h1]; exact List.getElem?_eq_getElem _
    obtain ⟨pb, po, rfl, hpb, hpl, hcell⟩ := hI.pts.2 _ _ hx
    obtain ⟨ao1, cap1, hv1⟩ := hI.own.lenOf
    obtain ⟨m, hm⟩ : ∃ m, m = (ns.take pre.length).length := ⟨_, rfl⟩
    rw [← hm] at hv1
    subst hv1
    obtain ⟨y, hy⟩ : ∃ y, y = ns.getD pre.length 0 := ⟨_, rfl⟩
    rw [← hy] at hcell
    have c0 := hI.bx.cell
    have f0 := hI.bx.frozen
    have cP1 : (W.alloc (.cells #[.int .i64 y] 3)).cell? ⟨pb, po, none⟩ = some (.int .i64 y) := (World.cell?_of_block (a := ⟨pb, po, none⟩) (Below.heap_alloc _ _ _ (by have := hI.sz; show pb < W.heap.size; omega))).trans hcell
    have HI := Lib.hid hI
    have HX := Lib.hid hx
    have HY := Lib.hid hy
    have HPH := Lib.hid hΦ
    have HLN := Lib.hid hlen
    clear hI hx hy hΦ hm
    have hOW : OwnN w1.heap.size (.slice ao1 m cap1) (ns.take pre.length) (W.alloc (.cells #[.int .i64 y] 3)).drew := HI.out.own.of (Nat.le_refl _) (fun k hk => Below.heap_alloc _ _ _ (HI.out.own.block hk).2)
    have cU : (W.alloc (.cells #[.int .i64 y] 3)).drew.cell? ⟨W.heap.size, 0, none⟩ = some (.int .i64 y) := by
      have h : (W.alloc (.cells #[.int .i64 y] 3)).cell? ⟨W.heap.size, 0, none⟩ = some (.int .i64 y) := by rw [World.cell?, World.alloc_heap_new]; rfl
      exact h
    have hlW : lb < W.heap.size := by have := HI.out.sz; omega
    have hsW : w1.heap.size ≤ (W.alloc (.cells #[.int .i64 y] 3)).drew.heap.size := by have h := HI.out.sz; show w1.heap.size ≤ (W.alloc (.cells #[.int .i64 y] 3)).heap.size; rw [World.size_alloc]; omega
    obtain ⟨v', w3, hrun, hO, hg3, hat3⟩ := run_appI hOW cU (by simp; omega) hsW
    have hbx : Boxed w3 lb 60 (.slice ao1 m cap1) := (hg3.block lb (by show lb < (W.alloc (.cells #[.int .i64 y] 3)).heap.size; rw [World.size_alloc]; omega) (fun e => by have := (HI.out.own.block e.symm).1; omega)).trans ((Below.heap_alloc _ _ _ hlW).trans HI.out.bx)
    obtain ⟨ao2, cap2, hv2⟩ := hO.lenOf
    obtain ⟨m2, hm2⟩ : ∃ m2, m2 = (ns.take pre.length ++ [y]).length := ⟨_, rfl⟩
    rw [← hm2] at hv2
    subst hv2
    have cB := hbx.cell
    have fB := hbx.frozen
    have c0A : (W.alloc (.cells #[.int .i64 y] 3)).cell? ⟨lb, 0, none⟩ = some (.slice ao1 m cap1) := (World.cell?_of_block (a := ⟨lb, 0, none⟩) (Below.heap_alloc _ _ _ hlW)).trans c0
    have HO := Lib.hid hO
    have HG3 := Lib.hid hg3
    have HAT3 := Lib.hid hat3
    have HBX := Lib.hid hbx
    have HM2 := Lib.hid hm2
    clear hOW cU hO hg3 hat3 hbx hsW hm2
    gi_wp2_with fail
    gi_region_with_o fail
    all_goals
      obtain ⟨W4, hW4⟩ : ∃ W4, W4 = w3.setCell ⟨lb, 0, none⟩ (.slice ao2 m2 cap2) := ⟨_, rfl⟩
      gi_wp2_with fail
      rw [← hW4]
      have hg3 := HG3.out
      have hs3 : W.heap.size + 1 ≤ w3.heap.size := by have h := hg3.size; have e : (W.alloc (.cells #[.int .i64 y] 3)).drew.heap.size = W.heap.size + 1 := World.size_alloc W _; omega
      have hkeep : ∀ k, k ≠ lb → W4.heap[k]? = w3.heap[k]? := fun k h => by rw [hW4]; exact heap_setCell_other _ _ _ _ h
      have hs4 : W4.heap.size = w3.heap.size := by rw [hW4]; simp [World.setCell]
      have hOb : ∀ k, (Value.slice ao2 m2 cap2).ownBlock = some k → w1.heap.size ≤ k ∧ k < w3.heap.size := fun k hk => HO.out.block hk
      have hold : ∀ k, k < W.heap.size → k ≠ lb → ¬ Φ k → W4.heap[k]? = W.heap[k]? := fun k hk h1 h2 => by
        rw [hkeep k h1, hg3.block k (by have e : (W.alloc (.cells #[.int .i64 y] 3)).drew.heap.size = W.heap.size + 1 := World.size_alloc W _; omega) (fun e => h2 ((HI.out.iff k).2 e.symm))]
        exact Below.heap_alloc _ _ _ hk
      have hnΦ : ∀ k, k < w1.heap.size → ¬ Φ k := fun k hk h => by have := HPH.out k h; omega
      have hsz := HI.out.sz
      have htk : ns.take (pre ++ [Value.pointer (some ⟨pb, po, none⟩)]).length = ns.take pre.length ++ [y] := by
        have hlt : pre.length < ns.length := by have := HLN.out; omega
        rw [List.length_append, List.length_singleton, List.take_succ_eq_append_getElem hlt, HY.out]
        simp [hlt]
      refine ⟨fun k => (Value.slice ao2 m2 cap2).ownBlock = some k, fun k hk => ?_, ⟨⟨?_, ?_, ?_, by omega⟩, fun k hk h1 h2 => hold k hk h1 h2⟩, .slice ao2 m2 cap2, ?_⟩
      · rcases HAT3.out with h | h
        · exact .inl ((HI.out.iff k).2 (by rw [← h]; exact hk))
        · rw [hk] at h
          injection h with h
          exact .inr (by rw [h]; have e : (W.alloc (.cells #[.int .i64 y] 3)).drew.heap.size = W.heap.size + 1 := World.size_alloc W _; omega)
      · rw [hW4]; exact hg3.os
      · rw [hW4]; exact hg3.tape
      · rw [hW4]; exact hg3.output
      · exact ⟨by rw [hW4]; exact HBX.out.set _, by rw [htk]; exact HO.out.of (Nat.le_refl _) (fun k hk => hkeep k (by have := (hOb k hk).1; omega)), fun k => Iff.rfl, HI.out.pts.of (fun k k1 k2 => hold k (by omega) k2 (hnΦ k k1)), by omega⟩
  case done =>
    rintro D Φ W3 ⟨v3, hC⟩ hon hD hnD hK
    have hown := hC.own
    rw [hvl, List.take_length] at hown
    have c3 := hC.bx.cell
    have hif := hC.iff
    have HC := Lib.hid hC
    have HOW := Lib.hid hown
    have HON := Lib.hid hon
    have HKK := Lib.hid hK
    clear hC hown hon hK
    gi_wp2
    refine ⟨by simp, .inl ⟨_, _, rfl, run_takeDeferred HKK.out, ?_⟩⟩
    refine ⟨v3, by simp [results, Try.results28, go_sem], v3, rfl, HOW.out.of (by omega) (fun k hk => put_other (fun e => hnD ((hif D).2 (by rw [← e]; exact hk)))), ?_⟩
    have hO2 := HON.out
    have hw2 := HB1.out
    refine ⟨hO2.grow.os.trans hw2.os, hO2.grow.tape.trans hw2.tape, hO2.grow.output.trans hw2.output, by have h1 := hO2.grow.size; have h2 := hw2.size; simp [World.putObj]; omega, fun k hk => ?_⟩
    rw [put_other (by omega), hO2.block k (by omega) (by omega) (fun h => h)]
    exact hw2.block k (by omega)
  case stop =>
    rintro D Φ c pre W3 hpre h
    exact h.elim
end Go.Proofs.Ytbndegkgpoemnaa
