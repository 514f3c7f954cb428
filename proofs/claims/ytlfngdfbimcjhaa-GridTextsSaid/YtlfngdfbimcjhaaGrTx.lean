/-
  A grid of texts beside a map of texts by the first number; a slice of texts opened.
-/
import Derived.Test.YtlfngdfbimcjhaaGrT
import Derived.Test.YtlfngdfbimcjhaaOpI
import Derived.BigFrame
namespace Go.Proofs.Ytlfngdfbimcjhaa
open Go.ChangeShapes Go.WideShapes Go.ChangeAt Go.RowKit Go.Deep Go.Maps
set_option linter.unusedVariables false
set_option linter.unusedSimpArgs false

/-- A slice of texts reads as these. -/
def RdStr (w : World) (v : Value) (l : List ByteArray) : Prop :=
  ∃ ao cap, v = .slice ao l.length cap ∧ ∀ i (hi : i < l.length), ∃ a : Addr, ao = some a ∧ w.cell? (a.add i) = some (.string l[i])
theorem RdStr.below {w w' : World} {v : Value} {l : List ByteArray} (h : RdStr w v l) (hb : Below w.heap.size w w') : RdStr w' v l := by
  obtain ⟨ao, cap, e, h2⟩ := h
  refine ⟨ao, cap, e, fun i hi => ?_⟩
  obtain ⟨a, e1, e2⟩ := h2 i hi
  exact ⟨a, e1, by rw [hb.cell (cell_blockI e2)]; exact e2⟩
section
variable {H : Type} {enc : TypeId × Value → H} {P : Program} {w : World} {base : Nat} {held : Bool}
theorem trod_string {t : TypeId} {fuel : Nat} {cs : List Value} {x : DataW H × List MemPlace} {spare : Nat → Bool} (ht : P.underlying t = some .string) (h : DataW.trod enc P w base spare held fuel t cs = some x) : ∃ s : ByteArray, cs = [.string s] ∧ s.size ≤ maxLen := by
  cases fuel with
  | zero => simp [DataW.trod] at h
  | succ n =>
    unfold DataW.trod at h
    rw [ht] at h
    split at h <;> simp_all
    all_goals (split at h <;> simp_all)
theorem open_strs {t e : TypeId} {v : Value} {d : DataW H} {p : List MemPlace} {r : Reach} {b0 : Nat} (ht : P.underlying t = some (.slice e)) (he : P.underlying e = some .string) (hc : P.cellsOf e = 1)
    (hv : Value.okWide P w r b0 t v) (h : DataW.Trod enc P w base (fun _ => true) held t v d p) : ∃ l : List ByteArray, RdStr w v l ∧ (∀ s ∈ l, s.size ≤ maxLen) ∧ l.length ≤ maxLen := by
  obtain ⟨fuel, hf⟩ := h
  rw [cells_sliceI ht hv] at hf
  rcases open_slice ht hf with ⟨h0, -⟩ | ⟨a, len, cap, m, k, D, Pl, hcs, hb, hle, hm, hmm, -, hx⟩
  · have e0 : v = .slice none 0 0 := by simpa using h0
    exact ⟨[], ⟨none, 0, e0, fun i hi => absurd hi (Nat.not_lt_zero i)⟩, fun s hs => absurd hs List.not_mem_nil, Nat.zero_le _⟩
  · simp only [if_true] at hmm
    subst hmm
    rw [hc] at hx
    obtain ⟨S, hS⟩ := choose_lt (α := ByteArray) (p := fun i s => w.cell? (a.add i) = some (.string s) ∧ s.size ≤ maxLen) (fun i hi => by
      obtain ⟨cs', h1, h2⟩ := hx i hi
      obtain ⟨s, rfl, hs⟩ := trod_string he h2
      obtain ⟨_, hlen, hcell⟩ := World.cells?_some h1
      refine ⟨s, ?_, hs⟩
      have := hcell 0 (by simp)
      rw [add_add] at this
      simpa using this)
    have hlen : ((List.range len).map S).length = len := by simp
    refine ⟨(List.range len).map S, ⟨some a, m, ?_, fun i hi => ?_⟩, fun s hs => ?_, by rw [hlen]; omega⟩
    · rw [hlen]; simpa using hcs
    · rw [hlen] at hi
      exact ⟨a, rfl, by rw [(hS i (by omega)).1]; simp⟩
    · obtain ⟨i, hi, rfl⟩ := List.mem_map.1 hs
      exact (hS i (by have := List.mem_range.1 hi; omega)).2
end

theorem wpl_lookG {P : Program} {w : World} {ops : Array Oper} {rest : List Oper} {o : Oper} {a : Act} {Q : Exit → Act → World → Prop} (hg : Region.wanted o (yielded ops a.tmps) = true) (m x : Operand) (t : TypeId) (c : Bool) (hop : o.op = Op.lookup t m x c) {mv kv r : Value} (hm : a.eval m = mv) (hx : a.eval x = kv) (hr : (Instr.lookup t mv kv c).run P w = .ok r w)
    (h : wpList P ops Q rest (a.put o.dst r) w) : wpList P ops Q (o :: rest) a w := by
  refine BigFrame.wpList_want hg fun K hK => ?_
  unfold Oper.wp
  simp [execOp, hop, hm, hx, hr, Result.andThen]
  exact hK _ _ h
/-- The second number. -/
def n7 (a : Int) : Int := IntKind.i64.wrap ((BitVec.ofInt 64 (IntKind.i64.wrap (0 - a)) &&& BitVec.ofInt 64 7).toNat)
theorem n7_bounds (a : Int) : 0 ≤ n7 a ∧ n7 a ≤ 7 := by
  unfold n7
  obtain ⟨x, hx⟩ : ∃ x, x = (BitVec.ofInt 64 (IntKind.i64.wrap (0 - a)) &&& BitVec.ofInt 64 7).toNat := ⟨_, rfl⟩
  have h7 : x ≤ 7 := by
    rw [hx, BitVec.toNat_and]
    exact Nat.le_trans Nat.and_le_right (by decide)
  rw [← hx]
  have : IntKind.i64.wrap (x : Int) = x := IntWalk.i64_in _ (by omega)
  rw [this]
  omega
theorem bits_n7 (a : Int) : bits .and .i64 (IntKind.i64.wrap (-a)) 7 = n7 a := by
  unfold n7
  rw [show (0 : Int) - a = -a by omega]
  rfl
theorem n7_wf (a : Int) : (Lit.int .i64 (n7 a)).wf = true := by
  have := n7_bounds a
  have h1 : (-9223372036854775808 : Int) ≤ n7 a ∧ n7 a ≤ 9223372036854775807 := by omega
  simpa [Lit.wf, IntKind.min, IntKind.max, IntKind.signed, IntKind.bits] using h1
/-- A table whose second number is told by the first, and a row of the same. -/
structure Tx (M : Cls ByteArray) (W : List (Int × ByteArray)) : Prop where
  srt : SrtC M
  srtW : SrtK W
  fn : ∀ x ∈ M, x.1.2 = n7 x.1.1
  len : M.length = W.length
  get : ∀ a, cget M a (n7 a) = sget W a
theorem Tx.nil : Tx [] [] := ⟨List.Pairwise.nil, List.Pairwise.nil, fun x hx => absurd hx List.not_mem_nil, rfl, fun a => rfl⟩
theorem Tx.put {M : Cls ByteArray} {W : List (Int × ByteArray)} (h : Tx M W) (a : Int) (v : ByteArray) : Tx (cput M a (n7 a) v) (sput W a v) := by
  refine ⟨h.srt.put _ _ _, h.srtW.put _ _, fun x hx => ?_, ?_, fun c => ?_⟩
  · rcases mem_cput.1 hx with rfl | ⟨hm, -⟩
    · rfl
    · exact h.fn x hm
  · rw [h.srt.length_put, h.srtW.length_put, h.get, h.len]
  · rw [cget, h.srt.row_put, h.srtW.get_put]
    by_cases e : c = a
    · subst e
      rw [if_pos rfl, if_pos rfl, (h.srt.row c).get_put, if_pos rfl]
    · rw [if_neg e, if_neg e]
      exact h.get c
theorem Tx.no {M : Cls ByteArray} {W : List (Int × ByteArray)} (h : Tx M W) : cget M 1 (-1) = none := by
  cases e : cget M 1 (-1) with
  | none => rfl
  | some v =>
    have h1 := h.fn _ (h.srt.get.1 e)
    have h2 := n7_bounds 1
    simp only at h1
    omega
theorem Tx.some_put {W : List (Int × ByteArray)} (h : SrtK W) {a c : Int} {v : ByteArray} (hc : (sget W c).isSome = true ∨ c = a) : (sget (sput W a v) c).isSome = true := by
  rw [h.get_put]
  split
  · rfl
  · rcases hc with hc | rfl
    · exact hc
    · contradiction
/-- Both in memory, of the call's own. -/
structure TxAt (N g b : Nat) (M : Cls ByteArray) (W : List (Int × ByteArray)) (w : World) : Prop where
  tx : Tx M W
  gr : ∃ F, GrAt codS 79 g M F w ∧ ∀ k, F k → N ≤ k ∧ k ≠ b
  mp : MapAt codS b W w
  lo : N ≤ b
section
variable {N g b : Nat} {M : Cls ByteArray} {W : List (Int × ByteArray)} {w w' : World}
theorem TxAt.below (h : TxAt N g b M W w) (hb : Below w.heap.size w w') : TxAt N g b M W w' := by
  obtain ⟨F, h1, h2⟩ := h.gr
  exact ⟨h.tx, ⟨F, h1.keep (Grow.of_below hb) (fun k hk => hb.block k (h1.2.2.1 k hk)), h2⟩, h.mp.block (hb.block b h.mp.lt), h.lo⟩
theorem TxAt.start {w0 : World} (hg : g = w0.heap.size) (hb : b = w0.heap.size + 1) (hN : N ≤ w0.heap.size) (hw : w = (w0.alloc (.cells #[.map none, .map none, .int .i64 0] 79)).alloc (.map #[] 0)) : TxAt N g b [] [] w ∧ Below N w0 w := by
  obtain ⟨w1, hw1⟩ : ∃ w1, w1 = w0.alloc (.cells #[.map none, .map none, .int .i64 0] 79) := ⟨_, rfl⟩
  have hs : w1.heap.size = w0.heap.size + 1 := by rw [hw1]; simp
  have h1 : GrAt codS 79 g [] (fun k => k = g) w1 := by rw [hw1, hg]; exact GrAt.new_S w0
  have hB : Below w1.heap.size w1 w := by rw [hw, ← hw1]; exact (Below.refl _ w1).alloc (Nat.le_refl _) _
  have hm : MapAt codS b [] w := by rw [hw, ← hw1, hb, ← hs]; exact MapAt.made codS w1
  refine ⟨⟨Tx.nil, ⟨_, h1.keep (Grow.of_below hB) (fun k hk => hB.block k (h1.2.2.1 k hk)), fun k hk => by omega⟩, hm, by omega⟩, ?_⟩
  have h0 : Below N w0 w1 := by rw [hw1]; exact (Below.refl _ w0).alloc hN _
  exact h0.trans (hB.mono (by omega))
theorem TxAt.store {a : Int} (ha : (Lit.int .i64 a).wf = true) (v : ByteArray) (hx : Tx M W) (hg : ∃ F, GrAt codS 79 g (cput M a (n7 a) v) F w ∧ ∀ k, F k → N ≤ k ∧ k ≠ b) (hm : MapAt codS b W w) (hlo : N ≤ b) (hlen : W.length ≤ 1000000) :
    ∃ w', (Instr.mapUpdate 56 (.map (some b)) (.int .i64 a) (.string v)).run Try.prog w = .ok () w' ∧ TxAt N g b (cput M a (n7 a) v) (sput W a v) w' ∧ Below N w w' := by
  obtain ⟨w', hr, hm', ⟨g1, g2, g3, g4, g5⟩, hsz⟩ := hm.store (t := 56) (e := 9) Try.underlying56 (by unfold maxLen; omega) ha v
  obtain ⟨F, f1, f2⟩ := hg
  refine ⟨w', hr, ⟨hx.put a v, ⟨F, f1.keep ⟨g1, g2, g3, g4⟩ (fun k hk => g5 k (f1.2.2.1 k hk) (fun e => (f2 k hk).2 (Option.some.inj e))), f2⟩, hm', hlo⟩, ?_⟩
  refine ⟨g1, g2, g3, g4, fun k hk => ?_⟩
  by_cases hkw : k < w.heap.size
  · exact g5 k hkw (fun e => by have := Option.some.inj e; omega)
  · rw [Array.getElem?_eq_none (by omega), Array.getElem?_eq_none (by omega)]
theorem TxAt.store_drew {a : Int} (ha : (Lit.int .i64 a).wf = true) (v : ByteArray) (hx : Tx M W) (hg : ∃ F, GrAt codS 79 g (cput M a (n7 a) v) F w ∧ ∀ k, F k → N ≤ k ∧ k ≠ b) (hm : MapAt codS b W w) (hlo : N ≤ b) (hlen : W.length ≤ 1000000) :
    ∃ w', (Instr.mapUpdate 56 (.map (some b)) (.int .i64 a) (.string v)).run Try.prog w.drew = .ok () w' ∧ TxAt N g b (cput M a (n7 a) v) (sput W a v) w' ∧ Below N w w' := by
  have hd : Below w.heap.size w w.drew := (Below.refl _ w).drew
  obtain ⟨F, f1, f2⟩ := hg
  obtain ⟨w', h1, h2, h3⟩ := TxAt.store (w := w.drew) ha v hx ⟨F, f1.keep (Grow.of_below hd) (fun k hk => hd.block k (f1.2.2.1 k hk)), f2⟩ (hm.block (hd.block b hm.lt)) hlo hlen
  exact ⟨w', h1, h2, h3.os, h3.tape, h3.output, h3.size, h3.block⟩
theorem TxAt.look (h : TxAt N g b M W w) {a : Int} (ha : (Lit.int .i64 a).wf = true) {s : ByteArray} (hs : sget W a = some s) :
    (Instr.lookup 56 (.map (some b)) (.int .i64 a) false).run Try.prog w = .ok (.string s) w := by
  have := h.mp.look (t := 56) (e := 9) (z0 := ByteArray.empty) Try.underlying56 (Try.zeroValue9 w) ha
  rw [hs] at this
  exact this
theorem TxAt.len (h : TxAt N g b M W w) (ty : TypeId) : (Builtin.len_ #[56] ty #[.map (some b)]).run Try.prog w = .ok (.int .i64 M.length) w := by
  rw [h.tx.len]
  exact h.mp.len (t := 56) (e := 9) Try.underlying56 ty
theorem grid_Get_Tx (h : TxAt N g b M W w) {a : Int} (ha : (Lit.int .i64 a).wf = true) {s : ByteArray} (hs : sget W a = some s) :
    Calls Try.prog 25 #[.pointer (some ⟨g, 0, none⟩), .int .i64 a, .int .i64 (n7 a)] w fun e w' => e = .returned (.tuple #[.string s, .bool true]) ∧ w' = w := by
  obtain ⟨F, h1, h2⟩ := h.gr
  refine (grid_Get_S h1 ha (n7_wf a)).mono ?_
  rintro e w' ⟨rfl, rfl⟩
  rw [h.tx.get, hs]
  exact ⟨rfl, rfl⟩
theorem grid_Get_no (h : TxAt N g b M W w) :
    Calls Try.prog 25 #[.pointer (some ⟨g, 0, none⟩), .int .i64 1, .int .i64 (-1)] w fun e w' => e = .returned (.tuple #[.string ByteArray.empty, .bool false]) ∧ w' = w := by
  obtain ⟨F, h1, h2⟩ := h.gr
  refine (grid_Get_S h1 (by decide) (by decide)).mono ?_
  rintro e w' ⟨rfl, rfl⟩
  rw [h.tx.no]
  exact ⟨rfl, rfl⟩
theorem grid_Len_Tx (h : TxAt N g b M W w) :
    Calls Try.prog 26 #[.pointer (some ⟨g, 0, none⟩)] w fun e w' => e = .returned (.int .i64 M.length) ∧ w' = w := by
  obtain ⟨F, h1, h2⟩ := h.gr
  exact grid_Len_S h1
/-- A text written in both. -/
theorem grid_Set_Tx (h : TxAt N g b M W w) (hN : N ≤ w.heap.size) (hlen : M.length ≤ 1000000) {a : Int} (ha : (Lit.int .i64 a).wf = true) (v : ByteArray) :
    Calls Try.prog 24 #[.pointer (some ⟨g, 0, none⟩), .int .i64 a, .int .i64 (n7 a), .string v] w fun e w' => e = .returned (.tuple #[]) ∧ Below N w w' ∧
      (∃ F, GrAt codS 79 g (cput M a (n7 a) v) F w' ∧ ∀ k, F k → N ≤ k ∧ k ≠ b) ∧ MapAt codS b W w' := by
  obtain ⟨F, h1, h2⟩ := h.gr
  refine (grid_Set_S h1 hlen ha (n7_wf a) v).mono ?_
  rintro e w' ⟨rfl, F1, c1, c2, c3⟩
  exact ⟨rfl, c3.below hN (fun k hk => (h2 k hk).1) (fun k h => h.elim), ⟨F1, c1, fun k hk => (c2 k hk).elim (h2 k) (fun hk => by have := h.mp.lt; omega)⟩, h.mp.block (c3.block b h.mp.lt (fun hf => (h2 b hf).2 rfl) (fun h => h))⟩
end
end Go.Proofs.Ytlfngdfbimcjhaa
