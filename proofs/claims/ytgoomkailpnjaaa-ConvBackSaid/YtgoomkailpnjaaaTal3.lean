/-
  The sum of tallies: the code's.
-/
import Derived.Test.YtgoomkailpnjaaaTal2
namespace Go.Proofs.Ytgoomkailpnjaaa
open Go.RowKit
set_option linter.unusedVariables false

/-- A box of a tally. -/
def TB (w : World) (b : Nat) (x : Tal) : Prop := w.heap[b]? = some (.cells #[.int .i64 x.a, .int .i64 x.n, .int .i64 x.s] 33 (0, 0))

theorem TB.c {w : World} {b : Nat} {x : Tal} (h : TB w b x) : w.cell? ⟨b, 0, none⟩ = some (.int .i64 x.a) ∧ w.cell? ⟨b, 1, none⟩ = some (.int .i64 x.n) ∧ w.cell? ⟨b, 2, none⟩ = some (.int .i64 x.s) := by
  refine ⟨?_, ?_, ?_⟩ <;> simp [World.cell?, show w.heap[b]? = _ from h]
theorem TB.frozen {w : World} {b : Nat} {x : Tal} (h : TB w b x) (i : Nat) : w.frozen? ⟨b, i, none⟩ = false := by simp [World.frozen?, show w.heap[b]? = _ from h]
theorem TB.lt {w : World} {b : Nat} {x : Tal} (h : TB w b x) : b < w.heap.size := (Array.getElem?_eq_some_iff.1 h).1
theorem TB.new (w : World) (x : Tal) : TB (w.alloc (.cells #[.int .i64 x.a, .int .i64 x.n, .int .i64 x.s] 33)) w.heap.size x := heap_alloc_new w _
theorem TB.newAt {w : World} {x : Tal} {b : Nat} (hb : b = w.heap.size) : TB (w.alloc (.cells #[.int .i64 x.a, .int .i64 x.n, .int .i64 x.s] 33)) b x := by subst hb; exact TB.new w x
theorem TB.keep {w w' : World} {b : Nat} {x : Tal} (h : TB w b x) {N : Nat} (hb : Below N w w') (hN : b < N) : TB w' b x := (hb.block b hN).trans h
theorem TB.alloc {w : World} {b : Nat} {x : Tal} (h : TB w b x) (o : Obj) : TB (w.alloc o) b x := (((Below.refl _ w).alloc (Nat.le_refl _) o).block b h.lt).trans h
theorem block_set {w : World} {b i : Nat} {cs : Array Value} {t : TypeId} {fr : Nat × Nat} (v : Value) (h : w.heap[b]? = some (.cells cs t fr)) : (w.setCell ⟨b, i, none⟩ v).heap[b]? = some (.cells (cs.setIfInBounds i v) t fr) := by
  obtain ⟨hlt, hk⟩ := Array.getElem?_eq_some_iff.1 h
  show (w.heap.modify b _)[b]? = _
  rw [Array.getElem?_eq_getElem (by rw [Array.size_modify]; exact hlt), Array.getElem_modify_self, hk]
  rfl
theorem block_other {w : World} {b : Nat} {a : Addr} {v : Value} {x : Obj} (h : w.heap[b]? = some x) (hne : b ≠ a.block) : (w.setCell a v).heap[b]? = some x := by
  obtain ⟨hlt, hk⟩ := Array.getElem?_eq_some_iff.1 h
  show (w.heap.modify a.block _)[b]? = _
  rw [Array.getElem?_eq_getElem (by rw [Array.size_modify]; exact hlt), Array.getElem_modify_of_ne (fun e => hne e.symm), hk]
theorem TB.set {w : World} {b : Nat} {x : Tal} (h : TB w b x) (y : Tal) : TB (((w.setCell ⟨b, 0, none⟩ (.int .i64 y.a)).setCell ⟨b, 1, none⟩ (.int .i64 y.n)).setCell ⟨b, 2, none⟩ (.int .i64 y.s)) b y :=
  block_set _ (block_set _ (block_set _ h))

/-- Cells of a tally in a slice. -/
theorem RdT.at {w : World} {ao : Option Addr} {n cap : Nat} {l : List Tal} (h : RdT w (.slice ao n cap) l) {j : Nat} (hj : j < l.length) :
    ∃ blk off, ao = some ⟨blk, off, none⟩ ∧ n = l.length ∧ n ≤ cap ∧ blk < w.heap.size ∧ w.cell? ⟨blk, off + j * 3, none⟩ = some (.int .i64 (l.getD j Tal.zero).a) ∧ w.cell? ⟨blk, off + j * 3 + 1, none⟩ = some (.int .i64 (l.getD j Tal.zero).n) ∧ w.cell? ⟨blk, off + j * 3 + 2, none⟩ = some (.int .i64 (l.getD j Tal.zero).s) := by
  rcases h with ⟨-, h⟩ | ⟨a, cap', hv, hc, hcell⟩
  · subst h; simp at hj
  · injection hv with h1 h2 h3
    subst h1 h2 h3
    obtain ⟨blk, off, rfl, hl, c1, c2, c3⟩ := hcell j hj
    have e : l.getD j Tal.zero = l[j] := by simp [hj]
    exact ⟨blk, off, rfl, rfl, hc, hl, by rw [e]; exact c1, by rw [e]; exact c2, by rw [e]; exact c3⟩

theorem Tal.take_sum {x : Tal} {l : List Tal} {j : Nat} (h : j < l.length) : Tal.sum x (l.take (j + 1)) = (Tal.sum x (l.take j)).add (l.getD j Tal.zero) := by
  have : l.take (j + 1) = l.take j ++ [l.getD j Tal.zero] := by
    rw [List.take_succ_eq_append_getElem h]; simp [h]
  rw [this, Tal.sum_snoc]

set_option maxHeartbeats 2000000 in
theorem conv_Add (x : Tal) (u : Value) (l : List Tal) (w : World) (hr : RdT w u l) (hin : ∀ j, j ≤ l.length → (Tal.sum x (l.take j)).In) (hl : l.length ≤ 100) :
    Calls Try.prog 32 #[talV x, u] w fun e w' => e = .returned (talV (Tal.sum x l)) ∧ Below w.heap.size w w' := by
  have HR := Lib.hid hr
  have HI := Lib.hid hin
  obtain ⟨ao, cap, rfl⟩ := hr.lenOf
  clear hr hin
  unfold talV
  go_enter Try.func32, Try.ntmps32
  go_wp2
  go_loopw [9] (fun i wr => ∃ j : Nat, j ≤ l.length ∧ i = .int .i64 j ∧ TB wr w.heap.size (Tal.sum x (l.take j)) ∧ TB wr (w.heap.size + 1) Tal.zero ∧ Below w.heap.size w wr) (fun i _ => l.length - (intOf i).toNat)
  case atStart =>
    refine ⟨0, Nat.zero_le _, rfl, (TB.new w x).alloc _, ?_, ((Below.refl _ w).alloc (Nat.le_refl _) _).alloc (by simp) _⟩
    have := TB.new (w.alloc (.cells #[.int .i64 x.a, .int .i64 x.n, .int .i64 x.s] 33)) Tal.zero
    rwa [World.size_alloc] at this
  case round =>
    obtain ⟨j, hj, rfl, ht, hz, hb⟩ := hrel
    by_cases hlt : j < l.length
    · obtain ⟨blk, off, rfl, -, hc, hbl, c1, c2, c3⟩ := HR.out.at hlt
      have hnext := Tal.take_sum (x := x) hlt
      have hI := HI.out (j + 1) hlt
      obtain ⟨q, hq⟩ : ∃ q, q = l.getD j Tal.zero := ⟨_, rfl⟩
      obtain ⟨s, hs⟩ : ∃ s, s = Tal.sum x (l.take j) := ⟨_, rfl⟩
      rw [← hq, ← hs] at hnext
      rw [← hq] at c1 c2 c3
      rw [← hs] at ht
      rw [hnext] at hI
      obtain ⟨⟨a1, a2⟩, ⟨b1, b2⟩, ⟨d1, d2⟩⟩ := hI
      simp only [Tal.add] at a1 a2 b1 b2 d1 d2
      have HN := Lib.hid hnext
      clear hq hs hnext
      have t1 := (hb.cell (p := ⟨blk, off + j * 3, none⟩) hbl).trans c1
      have t2 := (hb.cell (p := ⟨blk, off + j * 3 + 1, none⟩) hbl).trans c2
      have t3 := (hb.cell (p := ⟨blk, off + j * 3 + 2, none⟩) hbl).trans c3
      obtain ⟨s1, s2, s3⟩ := ht.c
      have f0 := ht.frozen 0
      have f1 := ht.frozen 1
      have f2 := ht.frozen 2
      have L1 := ht.lt
      have L2 := hz.lt
      have n1 : ¬ w.heap.size = wr.heap.size := by omega
      have n2 : ¬ blk = wr.heap.size := by omega
      have n3 : ¬ blk = w.heap.size := by omega
      have HT := Lib.hid ht
      have HZ := Lib.hid hz
      have HB := Lib.hid hb
      clear c1 c2 c3 ht hz hb
      go_wp2
      refine ⟨⟨j + 1, by omega, by go_num, ?_, ?_, ?_⟩, by simp [intOf]; omega⟩
      · rw [HN.out]
        exact (HT.out.set (s.add q)).alloc _
      · exact TB.alloc ((block_other (block_other (block_other HZ.out (Nat.succ_ne_self _)) (Nat.succ_ne_self _)) (Nat.succ_ne_self _))) _
      · exact ((((HB.out.setCell (Nat.le_refl _) _).setCell (Nat.le_refl _) _).setCell (Nat.le_refl _) _)).alloc (by simp; omega) _
    · have hjl : j = l.length := by omega
      subst hjl
      rw [List.take_length] at ht
      obtain ⟨s1, s2, s3⟩ := ht.c
      obtain ⟨z1, z2, z3⟩ := hz.c
      have f0 := hz.frozen 0
      have f1 := hz.frozen 1
      have f2 := hz.frozen 2
      have L2 := hz.lt
      go_wp2
      refine bodyPost_ret (v := .agg #[.int .i64 (Tal.sum x l).a, .int .i64 (Tal.sum x l).n, .int .i64 (Tal.sum x l).s]) (by simp [results, Try.results32, go_sem, *]) rfl ⟨rfl, ?_⟩
      exact ((hb.setCell (Nat.le_succ _) _).setCell (Nat.le_succ _) _).setCell (Nat.le_succ _) _
end Go.Proofs.Ytgoomkailpnjaaa
