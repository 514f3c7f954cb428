/-
  still's Now and Begun.
-/
import Derived.Test.YtfgkaookgfghoaaGreatIterAI
import Derived.Test.YtfgkaookgfghoaaGreatRowTy
import Derived.Test.YtfgkaookgfghoaaGreatGrL
import Derived.Shelf.Abstract
import Derived.Shelf.RegionOpen
import Derived.TacticsInMore
import Derived.LoopNIn
import Derived.LoopIn
namespace Go.Proofs.YtfgkaookgfghoaaGreat
open Go.RowKit Go.Shelf
attribute [local go_sem] Oper.semAt_some
set_option linter.unusedVariables false
set_option linter.unusedSimpArgs false

/-- What a loop that collects holds: its row in a box. -/
structure ColC {P : Program} {α : Type} (r : RowTy P α) (N0 lb : Nat) (pre : List α) (Φ : FP) (W : World) (v : Value) : Prop where
  bx : Boxed W lb r.S v
  own : OwnR r N0 v pre W
  iff : ∀ k, Φ k ↔ v.ownBlock = some k
  sz : N0 ≤ W.heap.size
def ColI {P : Program} {α : Type} (r : RowTy P α) (N0 lb : Nat) (pre : List α) (Φ : FP) (W : World) : Prop := ∃ v, ColC r N0 lb pre Φ W v
theorem ColI.stab {P : Program} {α : Type} {r : RowTy P α} {N0 lb : Nat} (h1 : lb < N0) : Stab N0 (ColI r N0 lb) := by
  rintro pre Φ W ⟨v, h⟩
  exact ⟨fun k hk => h.own.block ((h.iff k).1 hk), h.sz, fun W' hg hk => ⟨v, (hk lb (.inl h1)).trans h.bx, h.own.of (Nat.le_refl _) (fun k e => hk k (.inr ((h.iff k).2 e))), h.iff, Nat.le_trans h.sz hg.size⟩⟩
/-- One more was collected: appended, stored. -/
theorem ColC.step {P : Program} {α : Type} {r : RowTy P α} {N0 lb : Nat} {pre : List α} {x : α} {Φ Ψ : FP} {W V w3 : World} {v v' : Value} (h : ColC r N0 lb pre Φ W v) (hlb : lb < N0) (hΨ : Ψ lb) (hV : Below W.heap.size W V) (ho : OwnR r N0 v' (pre ++ [x]) w3) (hg : V.grownBy w3 v.ownBlock) (hat : v'.ownBlock = v.ownBlock ∨ v'.ownBlock = some V.heap.size) :
    Leaves Ψ Φ W (fun Φ' W' => ColI r N0 lb (pre ++ [x]) Φ' W') (w3.setCell ⟨lb, 0, none⟩ v') := by
  have hsz := h.sz
  have hVs := hV.size
  have hgs := hg.size
  have hb3 : Boxed w3 lb r.S v := (hg.block lb (by omega) (fun e => by have := (h.own.block e.symm).1; omega)).trans ((hV.block lb (by omega)).trans h.bx)
  have hkeep : ∀ k, k ≠ lb → (w3.setCell ⟨lb, 0, none⟩ v').heap[k]? = w3.heap[k]? := fun k hk => Below.heap_setCell _ _ _ k hk
  refine ⟨fun k => v'.ownBlock = some k, fun k hk => ?_, ⟨⟨hg.os.trans hV.os, hg.tape.trans hV.tape, hg.output.trans hV.output, by simp [World.setCell]; omega⟩, fun k hk h1 h2 => ?_⟩, v', hb3.set _, ho.of (Nat.le_refl _) (fun k hk => hkeep k (by have := (ho.block hk).1; omega)), fun k => Iff.rfl, by simp [World.setCell]; omega⟩
  · rcases hat with e | e
    · exact .inl ((h.iff k).2 (by rw [← e]; exact hk))
    · rw [hk] at e
      injection e with e
      exact .inr (by omega)
  · rw [hkeep k (fun e => h1 (by rw [e]; exact hΨ)), hg.block k (by omega) (fun e => h2 ((h.iff k).2 e.symm))]
    exact hV.block k hk

def prOf_I (x : Int × Int) : List Value := [.int .i64 x.1, .int .i64 x.2]
theorem pairInfo_I : (Tryz.prog.info? 197).map (fun i => (i.zero, i.size, i.bytes)) = some (some (.agg #[.int .i64 0, .int .i64 0]), 2, 16) := by kernel_rfl
def pair_I : RowTy Tryz.prog (Int × Int) where
  T := 197
  S := 195
  k := 2
  f := prOf_I
  len := fun _ => rfl
  one := fun x u hu => by
    simp only [prOf_I, List.mem_cons, List.not_mem_nil, or_false] at hu
    rcases hu with rfl | rfl <;> rfl
  pos := by decide
  small := by decide
  slice := Tryz.underlying195
  info := by
    obtain ⟨i0, hi, hz⟩ := Option.map_eq_some_iff.1 pairInfo_I
    simp only [Prod.mk.injEq] at hz
    obtain ⟨h1, h2, h3⟩ := hz
    exact ⟨i0, _, _, hi, h1, h2, rfl, h3, by decide⟩
  row := ⟨_, Tryz.underlying197, rfl⟩
def encs_I (x : Int × Int) : Array Value := #[.int .i64 x.1, .int .i64 x.2]
set_option maxHeartbeats 4000000 in
set_option maxRecDepth 100000 in
theorem still_Now_I {m : Nat} (gf : Nat) (lbx : Array Value) (xs : List (Int × Int)) (w : World) (eg : ∀ args w, (callFunc gf args).run Tryz.prog w = .ok (.enter gf args) w) (hit : Iter Tryz.prog m gf lbx encs_I xs (fun k => k < w.heap.size) w) (hlen : xs.length ≤ 1000000) :
    Calls Tryz.prog 90 #[.func (.func gf) #[] lbx] w fun e w' => ∃ v, e = .returned (.func (.func 93) #[] #[.pointer (some ⟨w.heap.size, 0, none⟩)]) ∧ Boxed w' w.heap.size 195 v ∧ OwnR pair_I (w.heap.size + 1) v xs w' ∧ Below w.heap.size w w' := by
  refine (callsIn_wide (n := m + 2)).1 ?_
  refine callsIn_of_wp_marks Tryz.func90 rfl trivial ?_ rfl
  simp only [Tryz.ntmps90, List.size_toArray, List.length_cons, List.length_nil, Nat.reduceAdd, Nat.reduceSub, Array.replicate_succ, Array.replicate_zero, List.push_toArray, List.append_toArray, List.nil_append, List.cons_append]
  gi_wp2_with fail
  obtain ⟨w1, hw1⟩ : ∃ w1, w1 = w.alloc (.cells #[.slice none 0 0] 195) := ⟨_, rfl⟩
  rw [← hw1]
  obtain ⟨lb, hlb⟩ : ∃ lb, lb = w.heap.size := ⟨_, rfl⟩
  have hB : Below w.heap.size w w1 := by rw [hw1]; exact (Below.refl _ w).alloc (Nat.le_refl _) _
  have hsz : w1.heap.size = lb + 1 := by rw [hw1, hlb]; simp
  have x0 : Boxed w1 lb 195 (.slice none 0 0) := by rw [hw1, hlb]; exact Boxed.new w _ _
  have HB1 := Lib.hid hB
  have HIT := Lib.hid hit
  have HSZ := Lib.hid hsz
  have l1 : lb < w1.heap.size := by omega
  have l2 : w.heap.size ≤ lb := by omega
  have HEG := Lib.hid eg
  rw [← hlb]
  have HLB := Lib.hid hlb
  have HLN := Lib.hid hlen
  clear hw1 hit hB hsz hlb eg hlen
  refine range_outer (n := m) (gf := gf) (lb := lbx) rfl HEG.out HIT.out (Grow.of_below HB1.out) (fun k hk => ⟨hk, HB1.out.block k hk⟩) (fun _ => rfl)
    (fun k => k = lb) (by rintro k rfl; exact ⟨l1, fun h => by omega⟩) (ColI pair_I w1.heap.size lb) (fun _ _ _ _ => False) (ColI.stab l1) (fun c _ _ _ h => h.elim)
    ⟨_, x0, OwnR.nil _ _, fun k => ⟨fun h => h.elim, fun h => by cases h⟩, Nat.le_refl _⟩
    (fun x => { tmps := #[.func (.func gf) #[] lbx, undef, .nilFunc, .pointer (some ⟨lb, 0, none⟩), .int .i64 x.1, .int .i64 x.2, .func (.func gf) #[] lbx, .int .i64 x.1, .int .i64 x.2, undef, undef, undef, undef, undef, undef, undef], defers := [] }) ?assign ?body ?done ?stop
  case assign =>
    intro l x W K hK
    simp only [encs_I]
    gi_wp2
    exact hK
  case body =>
    rintro l pre x Φ W hpx ⟨v1, hI⟩ hl1 hΦ -
    have hpl := hpx.length_le
    rw [List.length_append, List.length_singleton] at hpl
    have hpl2 : pre.length ≤ 1000000 := by have := HLN.out; omega
    obtain ⟨ao1, cap1, rfl⟩ := hI.own.lenOf
    obtain ⟨pl, hm⟩ : ∃ pl, pl = pre.length := ⟨_, rfl⟩
    rw [← hm] at hI
    have c0 := hI.bx.cell
    have hlW : lb < W.heap.size := by have := hI.sz; omega
    have HI := Lib.hid hI
    have HPH := Lib.hid hΦ
    have HM := Lib.hid hm
    have HPL := Lib.hid hpl2
    have hsW : w1.heap.size ≤ W.heap.size := hI.sz

    clear hI hΦ hm hpl hpl2
    gi_wp2_with (first

      | (refine wplIn_appR (r := pair_I) (y := x) rfl rfl rfl rfl ((OwnR.of HI.out.own (Nat.le_refl _) (fun k hk => Below.heap_alloc _ _ _ (HI.out.own.block hk).2))) (rangeAt_whole (T := 197) (by exact World.alloc_heap_new _ _)) HPL.out (by have h := hsW; rw [World.size_alloc]; omega) ?_; intro v' w3 hO hg3 hat3 hne; have cB : w3.cell? ⟨lb, 0, none⟩ = some (.slice ao1 pl cap1) := (World.cell?_of_block (a := ⟨lb, 0, none⟩) ((hg3.block lb (by rw [World.size_alloc]; omega) (fun e => by have := (HI.out.own.block e.symm).1; omega)).trans (Below.heap_alloc _ _ _ hlW))).trans c0; have fB : w3.frozen? ⟨lb, 0, none⟩ = false := ((HI.out.bx.alloc _).kept hg3 (fun e => by have := (HI.out.own.block e.symm).1; omega)).frozen; obtain ⟨ao2, cap2, rfl⟩ := hO.lenOf; obtain ⟨m2, hm2⟩ : ∃ m2, m2 = (pre ++ [x]).length := ⟨_, rfl⟩; rw [← hm2] at hO hat3; rw [← hm2]; have HO := Lib.hid hO; have HG3 := Lib.hid hg3; have HAT := Lib.hid hat3; clear hO hg3 hat3 hm2 hne)
      | fail)
    exact ColC.step HI.out l1 rfl ((Below.refl _ W).alloc (Nat.le_refl _) _) HO.out HG3.out HAT.out
  case done =>
    rintro D Φ W3 ⟨v3, hC⟩ hon hD hnD hK
    have hiff := hC.iff
    have HC := Lib.hid hC
    have HON := Lib.hid hon
    have HKK := Lib.hid hK
    clear hC hon hK
    gi_wp2
    refine ⟨by simp, .inl ⟨_, _, rfl, run_takeDeferred HKK.out, ?_⟩⟩
    have hC := HC.out
    have hO2 := HON.out
    have hw2 := HB1.out
    have hsz := HSZ.out
    have hlb := HLB.out
    subst hlb
    refine ⟨_, by simp [results, Tryz.results90, go_sem] <;> rfl, v3, rfl, (put_other (by omega)).trans hC.bx, hC.own.of (by omega) (fun k hk => put_other (fun e => hnD ((hiff D).2 (by rw [← e]; exact hk)))), ?_⟩
    refine ⟨hO2.grow.os.trans hw2.os, hO2.grow.tape.trans hw2.tape, hO2.grow.output.trans hw2.output, by have h1 := hO2.grow.size; have h2 := hw2.size; simp [World.putObj]; omega, fun k hk => ?_⟩
    rw [put_other (by omega), hO2.block k (by omega) (by omega) (fun h => h)]
    exact hw2.block k (by omega)
  case stop =>
    rintro D Φ c pre W3 hpre h
    exact h.elim

def prOf_P (x : (Int × Int) × Int) : List Value := [.int .i64 x.1.1, .int .i64 x.1.2, .int .i64 x.2]
def encs_P (x : (Int × Int) × Int) : Array Value := #[.agg #[.int .i64 x.1.1, .int .i64 x.1.2], .int .i64 x.2]
end Go.Proofs.YtfgkaookgfghoaaGreat
