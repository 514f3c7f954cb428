/-
  The law ActNests, walked.
-/
import Derived.Test.YtfgkaookgfghoaaGreatAcC

section
namespace Go.Proofs.YtfgkaookgfghoaaGreat
open Go.RowKit Go.Maps Go.Shelf
set_option linter.unusedVariables false
set_option linter.unusedSimpArgs false

/-- Two batches and a row, of the call's own. -/
structure Lay (w2 : World) (b8 b9 : Nat) (k8 k9 kr : List Lf) (u8 u9 ur : Value) (w : World) : Prop where
  c8 : w.heap[b8]? = some (.cells #[.int .i64 5, .int .i64 0, .int .i64 0, u8] 40 (0, 0))
  c9 : w.heap[b9]? = some (.cells #[.int .i64 5, .int .i64 0, .int .i64 0, u9] 40 (0, 0))
  o8 : OwnR callR (b9 + 1) u8 k8 w
  o9 : OwnR callR (b9 + 1) u9 k9 w
  or_ : OwnR callR (b9 + 1) ur kr w
  d89 : ∀ k, u8.ownBlock = some k → u9.ownBlock ≠ some k
  d8r : ∀ k, u8.ownBlock = some k → ur.ownBlock ≠ some k
  d9r : ∀ k, u9.ownBlock = some k → ur.ownBlock ≠ some k
  old : Below w2.heap.size w2 w
  lo : w2.heap.size ≤ b8
  lt : b8 < b9
section
variable {w2 w w3 : World} {b8 b9 : Nat} {k8 k9 kr : List Lf} {u8 u9 ur u' : Value} {y : Lf}
theorem Lay.lt9 (h : Lay w2 b8 b9 k8 k9 kr u8 u9 ur w) : b9 < w.heap.size := (Array.getElem?_eq_some_iff.1 h.c9).1
theorem Lay.below {w' : World} (h : Lay w2 b8 b9 k8 k9 kr u8 u9 ur w) (hb : Below w.heap.size w w') : Lay w2 b8 b9 k8 k9 kr u8 u9 ur w' :=
  ⟨(hb.block b8 (Nat.lt_trans h.lt h.lt9)).trans h.c8, (hb.block b9 h.lt9).trans h.c9, h.o8.of (Nat.le_refl _) (fun k hk => hb.block k (h.o8.block hk).2), h.o9.of (Nat.le_refl _) (fun k hk => hb.block k (h.o9.block hk).2), h.or_.of (Nat.le_refl _) (fun k hk => hb.block k (h.or_.block hk).2), h.d89, h.d8r, h.d9r, h.old.trans (hb.mono h.old.size), h.lo, h.lt⟩
theorem cellsC {w : World} {b : Nat} {u : Value} (h : w.heap[b]? = some (.cells #[.int .i64 5, .int .i64 0, .int .i64 0, u] 40 (0, 0))) : w.cell? ⟨b, 0, none⟩ = some (.int .i64 5) ∧ w.cell? ⟨b, 1, none⟩ = some (.int .i64 0) ∧ w.cell? ⟨b, 2, none⟩ = some (.int .i64 0) ∧ w.cell? ⟨b, 3, none⟩ = some u ∧ w.frozen? ⟨b, 3, none⟩ = false :=
  ⟨by rw [World.cell?, h]; rfl, by rw [World.cell?, h]; rfl, by rw [World.cell?, h]; rfl, by rw [World.cell?, h]; rfl, by simp [World.frozen?, h]⟩
theorem setC3 {w : World} {b : Nat} {u u' : Value} (h : w.heap[b]? = some (.cells #[.int .i64 5, .int .i64 0, .int .i64 0, u] 40 (0, 0))) : (w.setCell ⟨b, 3, none⟩ u').heap[b]? = some (.cells #[.int .i64 5, .int .i64 0, .int .i64 0, u'] 40 (0, 0)) := by
  simp [World.setCell, Array.getElem?_modify, h]
/-- What an append to one of the rows leaves. -/
theorem Lay.apart {u : Value} (h : Lay w2 b8 b9 k8 k9 kr u8 u9 ur w) (hu : ∀ k, u.ownBlock = some k → b9 + 1 ≤ k) (hg : w.grownBy w3 u.ownBlock) : (∀ k, k < b9 + 1 → w3.heap[k]? = w.heap[k]?) ∧ Below w2.heap.size w2 w3 := by
  have h9 := h.lt9
  refine ⟨fun k hk => hg.block k (by omega) (fun e => by have := hu k e.symm; omega), Below.grown h.old hg h.old.size (fun k hk => by have := hu k hk; have := h.lo; have := h.lt; omega)⟩
theorem Lay.step8 (h : Lay w2 b8 b9 k8 k9 kr u8 u9 ur w) (hg : w.grownBy w3 u8.ownBlock) (ho : OwnR callR (b9 + 1) u' (k8 ++ [y]) w3) (hat : u'.ownBlock = u8.ownBlock ∨ u'.ownBlock = some w.heap.size) :
    (w3.cell? ⟨b8, 3, none⟩ = some u8 ∧ w3.frozen? ⟨b8, 3, none⟩ = false) ∧ Lay w2 b8 b9 (k8 ++ [y]) k9 kr u' u9 ur (w3.setCell ⟨b8, 3, none⟩ u') := by
  obtain ⟨a1, a2⟩ := h.apart (fun k hk => (h.o8.block hk).1) hg
  have e8 := (a1 b8 (by have := h.lt; omega)).trans h.c8
  have e9 := (a1 b9 (by omega)).trans h.c9
  have hs : ∀ k, k ≠ b8 → (w3.setCell ⟨b8, 3, none⟩ u').heap[k]? = w3.heap[k]? := fun k hk => Below.heap_setCell _ _ _ k hk
  have hlt := h.lt
  refine ⟨⟨(cellsC e8).2.2.2.1, (cellsC e8).2.2.2.2⟩, setC3 e8, (hs b9 (by omega)).trans e9, ho.of (Nat.le_refl _) (fun k hk => hs k (by have := (ho.block hk).1; omega)),
    h.o9.of (Nat.le_refl _) (fun k hk => (hs k (by have := (h.o9.block hk).1; omega)).trans (hg.block k (h.o9.block hk).2 (fun e => h.d89 k e.symm hk))),
    h.or_.of (Nat.le_refl _) (fun k hk => (hs k (by have := (h.or_.block hk).1; omega)).trans (hg.block k (h.or_.block hk).2 (fun e => h.d8r k e.symm hk))), ?_, ?_, h.d9r, a2.trans ⟨rfl, rfl, rfl, by simp [World.setCell], fun k hk => hs k (by have := h.lo; omega)⟩, h.lo, h.lt⟩
  · intro k hk e
    rcases hat with e1 | e1
    · exact h.d89 k (e1.symm.trans hk) e
    · rw [hk] at e1; injection e1 with e1; have := (h.o9.block e).2; omega
  · intro k hk e
    rcases hat with e1 | e1
    · exact h.d8r k (e1.symm.trans hk) e
    · rw [hk] at e1; injection e1 with e1; have := (h.or_.block e).2; omega
theorem Lay.step9 (h : Lay w2 b8 b9 k8 k9 kr u8 u9 ur w) (hg : w.grownBy w3 u9.ownBlock) (ho : OwnR callR (b9 + 1) u' (k9 ++ [y]) w3) (hat : u'.ownBlock = u9.ownBlock ∨ u'.ownBlock = some w.heap.size) :
    (w3.cell? ⟨b9, 3, none⟩ = some u9 ∧ w3.frozen? ⟨b9, 3, none⟩ = false) ∧ Lay w2 b8 b9 k8 (k9 ++ [y]) kr u8 u' ur (w3.setCell ⟨b9, 3, none⟩ u') := by
  obtain ⟨a1, a2⟩ := h.apart (fun k hk => (h.o9.block hk).1) hg
  have e8 := (a1 b8 (by have := h.lt; omega)).trans h.c8
  have e9 := (a1 b9 (by omega)).trans h.c9
  have hs : ∀ k, k ≠ b9 → (w3.setCell ⟨b9, 3, none⟩ u').heap[k]? = w3.heap[k]? := fun k hk => Below.heap_setCell _ _ _ k hk
  have hlt := h.lt
  refine ⟨⟨(cellsC e9).2.2.2.1, (cellsC e9).2.2.2.2⟩, (hs b8 (by omega)).trans e8, setC3 e9,
    h.o8.of (Nat.le_refl _) (fun k hk => (hs k (by have := (h.o8.block hk).1; omega)).trans (hg.block k (h.o8.block hk).2 (fun e => h.d89 k hk e.symm))),
    ho.of (Nat.le_refl _) (fun k hk => hs k (by have := (ho.block hk).1; omega)),
    h.or_.of (Nat.le_refl _) (fun k hk => (hs k (by have := (h.or_.block hk).1; omega)).trans (hg.block k (h.or_.block hk).2 (fun e => h.d9r k e.symm hk))), ?_, h.d8r, ?_, a2.trans ⟨rfl, rfl, rfl, by simp [World.setCell], fun k hk => hs k (by have := h.lo; omega)⟩, h.lo, h.lt⟩
  · intro k hk e
    rcases hat with e1 | e1
    · exact h.d89 k hk (e1.symm.trans e)
    · rw [e] at e1; injection e1 with e1; have := (h.o8.block hk).2; omega
  · intro k hk e
    rcases hat with e1 | e1
    · exact h.d9r k (e1.symm.trans hk) e
    · rw [hk] at e1; injection e1 with e1; have := (h.or_.block e).2; omega
theorem Lay.stepr (h : Lay w2 b8 b9 k8 k9 kr u8 u9 ur w) (hg : w.grownBy w3 ur.ownBlock) (ho : OwnR callR (b9 + 1) u' (kr ++ [y]) w3) (hat : u'.ownBlock = ur.ownBlock ∨ u'.ownBlock = some w.heap.size) :
    Lay w2 b8 b9 k8 k9 (kr ++ [y]) u8 u9 u' w3 := by
  obtain ⟨a1, a2⟩ := h.apart (fun k hk => (h.or_.block hk).1) hg
  refine ⟨(a1 b8 (by have := h.lt; omega)).trans h.c8, (a1 b9 (by omega)).trans h.c9,
    h.o8.of (Nat.le_refl _) (fun k hk => hg.block k (h.o8.block hk).2 (fun e => h.d8r k hk e.symm)),
    h.o9.of (Nat.le_refl _) (fun k hk => hg.block k (h.o9.block hk).2 (fun e => h.d9r k hk e.symm)), ho, h.d89, ?_, ?_, a2, h.lo, h.lt⟩
  · intro k hk e
    rcases hat with e1 | e1
    · exact h.d8r k hk (e1.symm.trans e)
    · rw [e] at e1; injection e1 with e1; have := (h.o8.block hk).2; omega
  · intro k hk e
    rcases hat with e1 | e1
    · exact h.d9r k hk (e1.symm.trans e)
    · rw [e] at e1; injection e1 with e1; have := (h.o9.block hk).2; omega
end
theorem Lay.start (w2 : World) : Lay w2 w2.heap.size (w2.heap.size + 1) [] [] [] (.slice none 0 0) (.slice none 0 0) (.slice none 0 0) ((w2.alloc (.cells #[.int .i64 5, .int .i64 0, .int .i64 0, .slice none 0 0] 40)).alloc (.cells #[.int .i64 5, .int .i64 0, .int .i64 0, .slice none 0 0] 40)) := by
  have hs : (w2.alloc (.cells #[.int .i64 5, .int .i64 0, .int .i64 0, .slice none 0 0] 40)).heap.size = w2.heap.size + 1 := World.size_alloc ..
  refine ⟨(Below.heap_alloc _ _ _ (by omega)).trans (World.alloc_heap_new _ _), by rw [← hs]; exact World.alloc_heap_new _ _, OwnR.nil _ _, OwnR.nil _ _, OwnR.nil _ _, fun k hk => (by cases hk), fun k hk => (by cases hk), fun k hk => (by cases hk), ((Below.refl _ _).alloc (Nat.le_refl _) _).alloc (by omega) _, Nat.le_refl _, by omega⟩
section
variable {w2 V w3 : World} {b8 b9 cb : Nat} {k8 k9 kr : List Lf} {u8 u9 ur u' : Value} {y : Lf} {o o2 : Obj}
theorem Lay.alloc (h : Lay w2 b8 b9 k8 k9 kr u8 u9 ur V) (o : Obj) : Lay w2 b8 b9 k8 k9 kr u8 u9 ur (V.alloc o) := h.below ((Below.refl _ _).alloc (Nat.le_refl _) o)
/-- What an append to one of the rows leaves of the new call. -/
theorem Lay.put8 (h : Lay w2 b8 b9 k8 k9 kr u8 u9 ur V) (hcb : V.heap[cb]? = some o2) (hlo : b9 < cb) (hne : ∀ k, u8.ownBlock = some k → k < cb) (hg : (V.alloc o).grownBy w3 u8.ownBlock) (ho : OwnR callR (b9 + 1) u' (k8 ++ [y]) w3) (hat : u'.ownBlock = u8.ownBlock ∨ u'.ownBlock = some (V.alloc o).heap.size) :
    (w3.cell? ⟨b8, 3, none⟩ = some u8 ∧ w3.frozen? ⟨b8, 3, none⟩ = false) ∧ Lay w2 b8 b9 (k8 ++ [y]) k9 kr u' u9 ur (w3.setCell ⟨b8, 3, none⟩ u') ∧ (w3.setCell ⟨b8, 3, none⟩ u').heap[cb]? = some o2 := by
  obtain ⟨h1, h2⟩ := (h.alloc o).step8 hg ho hat
  have hc := (Array.getElem?_eq_some_iff.1 hcb).1
  exact ⟨h1, h2, by rw [Below.heap_setCell _ _ _ cb (by have := h.lt; show cb ≠ b8; omega), hg.block cb (by rw [World.size_alloc]; omega) (fun e => by have := hne cb e.symm; omega), Below.heap_alloc _ _ _ hc]; exact hcb⟩
theorem Lay.put9 (h : Lay w2 b8 b9 k8 k9 kr u8 u9 ur V) (hcb : V.heap[cb]? = some o2) (hlo : b9 < cb) (hne : ∀ k, u9.ownBlock = some k → k < cb) (hg : (V.alloc o).grownBy w3 u9.ownBlock) (ho : OwnR callR (b9 + 1) u' (k9 ++ [y]) w3) (hat : u'.ownBlock = u9.ownBlock ∨ u'.ownBlock = some (V.alloc o).heap.size) :
    (w3.cell? ⟨b9, 3, none⟩ = some u9 ∧ w3.frozen? ⟨b9, 3, none⟩ = false) ∧ Lay w2 b8 b9 k8 (k9 ++ [y]) kr u8 u' ur (w3.setCell ⟨b9, 3, none⟩ u') ∧ (w3.setCell ⟨b9, 3, none⟩ u').heap[cb]? = some o2 := by
  obtain ⟨h1, h2⟩ := (h.alloc o).step9 hg ho hat
  have hc := (Array.getElem?_eq_some_iff.1 hcb).1
  exact ⟨h1, h2, by rw [Below.heap_setCell _ _ _ cb (by show cb ≠ b9; omega), hg.block cb (by rw [World.size_alloc]; omega) (fun e => by have := hne cb e.symm; omega), Below.heap_alloc _ _ _ hc]; exact hcb⟩
end
theorem cells4 {w : World} {b : Nat} {x0 x1 x2 x3 : Value} {T : Nat} (h : w.heap[b]? = some (.cells #[x0, x1, x2, x3] T (0, 0))) : w.cell? ⟨b, 0, none⟩ = some x0 ∧ w.cell? ⟨b, 1, none⟩ = some x1 ∧ w.cell? ⟨b, 2, none⟩ = some x2 ∧ w.cell? ⟨b, 3, none⟩ = some x3 :=
  ⟨by rw [World.cell?, h]; rfl, by rw [World.cell?, h]; rfl, by rw [World.cell?, h]; rfl, by rw [World.cell?, h]; rfl⟩
/-- A leaf of the law's. -/
def LfS (y : Lf) : Prop := ∃ j z, y = lf 2 j z ∧ 1 ≤ j ∧ j ≤ 3 ∧ 0 ≤ z ∧ z ≤ 7
def LfR (y : Lf) : Prop := ∃ z, y = lf 1 0 z ∧ 0 ≤ z ∧ z ≤ 7
theorem nest_do {A : Acc} {y : Lf} (h : LfS y ∨ LfR y) (hA : 7 ≤ (A 0).1) : doE A [] (tk3 1) y = 0 ∧ (A 0).1 - 7 ≤ (doA A [] (tk3 1) y 0).1 := by
  rcases h with ⟨j, z, rfl, h1, h3, h0, h7⟩ | ⟨z, rfl, -⟩
  · have c : ¬ (tk3 1).cap < z := by show ¬ (50 : Int) < z; omega
    have e0 : transE A [] 0 j z = 0 := by
      rw [transE, if_pos (by unfold isAcc; omega)]
      unfold spendE
      rw [if_neg (by have : isBal z := (by unfold isBal; omega); simp [this, show isAcc 0 by decide]), show (0 : Int).toNat = 0 from rfl, lockNil, if_neg (by omega), if_neg (by omega)]
    have e1 : spnE A [] (tk3 1) (lf 2 j z) = 0 := by unfold spnE; rw [if_neg (show ¬ (tk3 1).cap < (lf 2 j z).2.2.1 from c)]; exact e0
    refine ⟨e1, ?_⟩
    have e2 : doA A [] (tk3 1) (lf 2 j z) = giveA (spendA A 0 z) j.toNat z := by
      show spnA _ _ _ _ = _
      unfold spnA
      rw [if_neg (show ¬ (tk3 1).cap < (lf 2 j z).2.2.1 from c)]
      show transA _ _ _ j z = _
      unfold transA
      rw [if_pos e0]
    rw [e2]
    unfold giveA
    rw [upd_other _ _ (by omega), spendA, show (0 : Int).toNat = 0 from rfl, upd_same]
    simp only; omega
  · exact ⟨rfl, by show (A 0).1 - 7 ≤ (A 0).1; omega⟩
theorem nest_ok : ∀ (ks : List Lf) (A : Acc), (∀ y ∈ ks, LfS y ∨ LfR y) → 7 * ks.length ≤ (A 0).1 → fOk [] (tk3 1) A ks
  | [], _, _, _ => trivial
  | y :: ks, A, h, hl => by
    rw [List.length_cons] at hl
    obtain ⟨e1, e2⟩ := nest_do (A := A) (h y (by simp)) (by omega)
    exact ⟨e1, nest_ok ks _ (fun z hz => h z (List.mem_cons_of_mem _ hz)) (by omega)⟩
theorem leafCl {y : Lf} (h : LfS y ∨ LfR y) (G : FP) (w : World) (d : Nat) (dp : Nat) : RdC w (d + 1) (.agg (lfL y).toArray) (.mk y.1 y.2.1 y.2.2.1 []) ∧ okC dp (.mk y.1 y.2.1 y.2.2.1 []) = true ∧ Sg G w (d + 1) y [y] ∧ (y.1 = 1 ∨ y.1 = 2) := by
  rcases h with ⟨j, z, rfl, h1, h3, h0, h7⟩ | ⟨z, rfl, h0, h7⟩
  · exact ⟨lf_rd w d 2 j z, lf_ok (a := 2) (b := j) (c := z) (.inr (.inl ⟨rfl, ⟨by omega, by omega⟩, ⟨by omega, by omega⟩, rfl⟩)) (by decide) dp, lf_sg G w d (by decide), .inr rfl⟩
  · exact ⟨lf_rd w d 1 0 z, lf_ok (a := 1) (b := 0) (c := z) (.inl ⟨rfl, rfl, ⟨by omega, by omega⟩, rfl⟩) (by decide) dp, lf_sg G w d (by decide), .inl rfl⟩
theorem flatC (k8 : List Lf) (k9 : List Lf) : (k8.map (fun y => [y]) ++ [k9]).flatten = k8 ++ k9 := by
  rw [List.flatten_append, flat1]; simp
/-- The outer batch. -/
theorem nest_mk {w : World} {r8 r9 c8 c9 : Nat} {k8 k9 : List Lf} (h8 : ∀ y ∈ k8, LfS y) (h9 : ∀ y ∈ k9, LfR y) (hl8 : k8.length ≤ 3) (hl9 : 1 ≤ k9.length) (hl94 : k9.length ≤ 4)
    (hr9 : w.rangeAt r9 0 (callR.all k9)) (hb9 : r9 < w.heap.size) (hr8 : w.rangeAt r8 0 (callR.all (k8 ++ [bt r9 k9.length c9]))) (hb8 : r8 < w.heap.size) :
    ∃ c, RdC w 3 (.agg (lfL (bt r8 (k8.length + 1) c8)).toArray) c ∧ okC 3 c = true ∧ Sg (fun j => j = r8 ∨ j = r9) w 3 (bt r8 (k8.length + 1) c8) (k8 ++ k9) := by
  have hin := bt_mk (cap := c9) (d := 1) (dc := 1) (dp := 1) (G := fun j => j = r8 ∨ j = r9) (cs := k9.map (fun y => Cl.mk y.1 y.2.1 y.2.2.1 [])) (yss := k9.map (fun y => [y])) hr9 hb9 (by simp) (by simp) hl9 hl94 (fun i hi => by
    have := leafCl (.inr (h9 _ (List.getElem_mem hi))) (fun j => j = r8 ∨ j = r9) w 0 1
    rw [List.getElem_map, List.getElem_map]
    exact ⟨this.1, this.2.1, this.2.2.1⟩) (.inr rfl)
  rw [flat1] at hin
  have hout := bt_mk (cap := c8) (d := 2) (dc := 2) (dp := 2) (G := fun j => j = r8 ∨ j = r9) (cs := k8.map (fun y => Cl.mk y.1 y.2.1 y.2.2.1 []) ++ [.mk 5 0 0 (k9.map (fun y => Cl.mk y.1 y.2.1 y.2.2.1 []))]) (yss := k8.map (fun y => [y]) ++ [k9]) hr8 hb8 (by simp) (by simp) (by simp) (by simp; omega) (fun i hi => by
    by_cases hlt : i < k8.length
    · have := leafCl (.inl (h8 _ (List.getElem_mem hlt))) (fun j => j = r8 ∨ j = r9) w 1 2
      rw [List.getElem_append_left hlt, List.getElem_append_left (by simpa using hlt), List.getElem_append_left (by simpa using hlt), List.getElem_map, List.getElem_map]
      exact ⟨this.1, this.2.1, this.2.2.1⟩
    · have hi' : i = k8.length := by simp at hi; omega
      subst hi'
      rw [List.getElem_append_right (Nat.le_refl _), List.getElem_append_right (by simp), List.getElem_append_right (by simp)]
      simpa using hin) (.inl rfl)
  rw [flatC] at hout
  have e : (k8 ++ [bt r9 k9.length c9]).length = k8.length + 1 := by simp
  rw [e] at hout
  exact ⟨_, hout⟩
end Go.Proofs.YtfgkaookgfghoaaGreat
end

section
namespace Go.Proofs.YtfgkaookgfghoaaGreat
open Go.RowKit Go.Maps Go.Shelf
set_option linter.unusedVariables false
set_option linter.unusedSimpArgs false

/-- What lies in the law's memory is none of another ledger's. -/
theorem PrAt.away {N p g gl vb r g0 gl0 : Nat} {F : FP} {A A0 : Acc} {w w' : World} (h : PrAt N p g gl vb r F A w) (hN : g0 < N) (hb : w.heap[g0]? = some (.cells (lcells A0 gl0).toArray 86 (0, 0))) (h0 : (A0 0).1 = 100) (ho : Off g0 w w') (hg : Grow w w') :
    PrAt N p g gl vb r (fun k => F k ∧ k ≠ g0) A w' := by
  obtain ⟨px, py, pz, hp⟩ := h.pr
  have hgb := ho g h.ld.lt (by have := h.ld.lo; omega)
  refine ⟨⟨px, py, pz, (ho p (Array.getElem?_eq_some_iff.1 hp).1 (by have := h.lo; omega)).trans hp⟩, h.ld.swap hg (fun k hk hN' _ _ => ho k hk (by omega)) (hgb.trans h.ld.blk) h.ld.ok, ?_, fun k hk => ⟨(h.fg k hk.1).1, Nat.lt_of_lt_of_le (h.fg k hk.1).2 hg.size⟩, h.ne, h.lo⟩
  obtain ⟨tb, cap, gp, h1, h2, h3, h4, h5, h6⟩ := h.re
  have hr : r ≠ g0 := by
    intro e
    rw [e, hb] at h1
    injection h1 with h1
    injection h1 with a b c
    exact absurd b (by decide)
  have ht : tb ≠ g0 := by
    intro e
    have e1 := h2 0 (.int .i64 1) (by kernel_rfl)
    have e2 := cell_of hb (lcells_acc (A := A0) (gl := gl0) (k := 0) (by decide)).1
    rw [e] at e1
    have e3 : (Value.int .i64 1) = .int .i64 (A0 0).1 := Option.some.inj (e1.symm.trans e2)
    injection e3 with e3 e4
    omega
  exact ⟨tb, cap, gp, (ho r (Array.getElem?_eq_some_iff.1 h1).1 hr).trans h1, rangeAt_block h2 (ho tb h5 ht), ⟨h3, hr⟩, ⟨h4, ht⟩, Nat.lt_of_lt_of_le h5 hg.size, h6⟩
theorem free_blk {g gl : Nat} {A : Acc} {w : World} (hb : w.heap[g]? = some (.cells (lcells A gl).toArray 86 (0, 0))) {k : Nat} (hk : k < 10) : Calls Tryz.prog 7 #[.pointer (some ⟨g, 0, none⟩), .int .i64 k] w fun e w' => e = .returned (.int .i64 (A k).1) ∧ w' = w := by
  have hc := cell_of hb (lcells_acc (A := A) (gl := gl) hk).1
  obtain ⟨v, hv⟩ : ∃ v, v = (A k).1 := ⟨_, rfl⟩
  rw [← hv] at hc ⊢
  clear hv hb
  have HK := Lib.hid hk
  clear hk
  go_enter Tryz.func7, Tryz.ntmps7
  go_wp2_with (first | (go_at_call 19; refine (ledger_account HK.out w).mono ?_; rintro e w' ⟨rfl, rfl⟩) | fail)
  exact bodyPost_ret (v := .int .i64 v) (by simp [results, Tryz.results7, go_sem]) rfl ⟨rfl, rfl⟩
theorem free_b1 {g gl : Nat} {A : Acc} {w : World} (hb : w.heap[g]? = some (.cells (lcells A gl).toArray 86 (0, 0))) : Calls Tryz.prog 7 #[.pointer (some ⟨g, 0, none⟩), .int .i64 1] w fun e w' => e = .returned (.int .i64 (A 1).1) ∧ w' = w := free_blk hb (k := 1) (by decide)
theorem free_b0 {g gl : Nat} {A : Acc} {w : World} (hb : w.heap[g]? = some (.cells (lcells A gl).toArray 86 (0, 0))) : Calls Tryz.prog 7 #[.pointer (some ⟨g, 0, none⟩), .int .i64 0] w fun e w' => e = .returned (.int .i64 (A 0).1) ∧ w' = w := free_blk hb (k := 0) (by decide)
def neqEv (a b : Value) : Sem Value := binOp .neq 43 a b
theorem neq_ev (a b : Value) : binOp .neq 43 a b = neqEv a b := rfl
theorem run_neqEv (w : World) (x : Ev) : (neqEv (.agg (evL x).toArray) (.agg (evL x).toArray)).run Tryz.prog w = .ok (.bool false) w := by
  have hI : Tryz.prog.plainKey 3 = true := by kernel_rfl
  have pI := fun (x : Ev) (o : Nat) (v : Int) (h : (evL x).toArray[o]? = some (.int .i64 v)) => run_part_plain (P := Tryz.prog) w (e := 3) hI (xs := (evL x).toArray) h
  have q0 := fun x : Ev => pI x 0 x.1 (by simp [evL])
  have q1 := fun x : Ev => pI x 1 x.2.1 (by simp [evL])
  have q2 := fun x : Ev => pI x 2 x.2.2 (by simp [evL])
  have eI := fun x y => run_equalIn_int w 9998 3 .i64 .i64 x y Tryz.underlying3
  have hf : Tryz.prog.underlying 43 = some (.struct (Tryz.prog.fieldsOf 43)) := by kernel_rfl
  unfold neqEv
  rw [run_neq_struct, show (10000 : Nat) = 9999 + 1 from rfl, run_equalIn_struct w 9999 43 _ _ hf (by kernel_rfl)]
  obtain ⟨a0, a1, a2⟩ := x
  simp [Program.fieldsOf, Tryz.underlying43, Op.eqFields, q0, q1, q2, eI, Result.andThen]
/-- A row of one's own, in memory. -/
theorem ownE {B : Nat} {ao : Option Addr} {n cap : Nat} {ks : List Ev} {w : World} (h : OwnR evR B (.slice ao n cap) ks w) (h1 : 1 ≤ ks.length) : ∃ b, ao = some ⟨b, 0, none⟩ ∧ B ≤ b ∧ b < w.heap.size ∧ w.rangeAt b 0 (evR.all ks) := by
  have h0 := h
  rcases h.2 with ⟨-, h2⟩ | ⟨g, c', cur, e, hb, hg, -⟩
  · rw [h2] at h1; exact absurd h1 (by decide)
  · injection e with e1 e2 e3
    subst e1
    refine ⟨g, rfl, hb, (h0.block rfl).2, ?_⟩
    rcases h0.reads with ⟨e, -⟩ | ⟨b', o', c'', e, -, -, hr⟩
    · cases e
    · injection e with e1 e2 e3
      injection e1 with e1
      injection e1 with e4 e5
      subst e4 e5
      exact hr
theorem ev_at {w : World} {b : Nat} {ks : List Ev} (hr : w.rangeAt b 0 (evR.all ks)) {i : Nat} (hi : i < ks.length) : w.rangeAt b (i * 3) (evL ks[i]) := fun j u hj => by
  have hj3 : j < 3 := by have := (List.getElem?_eq_some_iff.1 hj).1; simpa [evL] using this
  have := hr (i * 3 + j) u (by rw [show i * 3 + j = i * evR.k + j from rfl, evR.all_at hi hj3]; exact hj)
  rwa [Nat.zero_add] at this
end Go.Proofs.YtfgkaookgfghoaaGreat
end

section
namespace Go.Proofs.YtfgkaookgfghoaaGreat
open Go.RowKit Go.Maps Go.Shelf
set_option linter.unusedVariables false
set_option linter.unusedSimpArgs false

structure Two (w w5 : World) (N p g gl vb r : Nat) (F : FP) (A : Acc) (V : List Ev) (s : Value) (wr : World) : Prop where
  own : OwnR evR w5.heap.size s V wr
  pr : PrAt N p g gl vb r F A wr
  off : Off g w5 wr
  old : Below w.heap.size w wr
  gr : Grow w5 wr
section
variable {w w5 wr w6 w7 : World} {N p g gl vb r : Nat} {F : FP} {A A5 A' : Acc} {V V1 : List Ev} {s s' : Value}
theorem Two.start (h : PrAt N p g gl vb r F A w5) (hb : Below w.heap.size w w5) : Two w w5 N p g gl vb r F A [] (.slice none 0 0) w5 :=
  ⟨OwnR.nil _ _, h, fun _ _ _ => rfl, hb, Grow.refl _⟩
theorem Two.own6 (h : Two w w5 N p g gl vb r F A V s wr) (hg5 : g < w5.heap.size) (hof : Off g wr.drew w6) : OwnR evR w5.heap.size s V w6 :=
  h.own.of (Nat.le_refl _) (fun k hk => hof k (h.own.block hk).2 (by have := (h.own.block hk).1; omega))
theorem Two.step (h : Two w w5 N p g gl vb r F A V s wr) (h5 : PrAt N p g gl vb r F A5 w5) (hN : w.heap.size ≤ N) (hw5 : w.heap.size ≤ w5.heap.size) (hp : PrAt N p g gl vb r F A' w6) (hb : Below N wr.drew w6) (hof : Off g wr.drew w6) (ho : OwnR evR w5.heap.size s' (V ++ V1) w7) (hg : w6.grownBy w7 s.ownBlock) :
    Two w w5 N p g gl vb r F A' (V ++ V1) s' w7 := by
  have hg5 := h5.ld.lt
  have hb6 : Below w.heap.size w w6 := h.old.drew.trans (hb.mono hN)
  have hb7 : Below w.heap.size w w7 := Below.grown hb6 hg hb6.size (fun k hk => Nat.le_trans hw5 (h.own.block hk).1)
  have hgr6 : Grow w5 w6 := h.gr.trans ((Grow.of_below (Below.refl w.heap.size wr).drew).trans (Grow.of_below hb))
  have hs : ∀ k, k < w5.heap.size → w7.heap[k]? = w6.heap[k]? := fun k hk => hg.block k (Nat.lt_of_lt_of_le hk hgr6.size) (fun e => by have := (h.own.block e.symm).1; omega)
  have hoff : Off g w5 w7 := fun k hk hn => (hs k hk).trans ((hof k (Nat.lt_of_lt_of_le hk h.gr.size) hn).trans (h.off k hk hn))
  have hgr7 : Grow w5 w7 := hgr6.trans ⟨hg.os, hg.tape, hg.output, hg.size⟩
  have hld : LdAt N g gl A' [] w7 := h5.ld.swap hgr7 (fun k hk _ _ hn => hoff k hk hn) ((hs g hg5).trans hp.ld.blk) hp.ld.ok
  exact ⟨ho, h5.ledger hld hoff hgr7.size, hoff, hb7, hgr7⟩
end
end Go.Proofs.YtfgkaookgfghoaaGreat
end

section
namespace Go.Proofs.YtfgkaookgfghoaaGreat
open Go.RowKit Go.Maps Go.Shelf
set_option linter.unusedVariables false
set_option linter.unusedSimpArgs false

attribute [local go_sem ↓] neq_ev
set_option maxRecDepth 100000 in
set_option maxHeartbeats 16000000 in
theorem actNests_walk (v u : Value) (l m : List Int) (w : World) (hr : RdI w v l) (hru : RdI w u m) (hb : ∀ n ∈ l, (Lit.int .i64 n).wf = true) (hb2 : ∀ n ∈ m, (Lit.int .i64 n).wf = true) (hm : l.length ≤ maxLen) (hm2 : m.length ≤ maxLen) :
    Calls Tryz.prog 5 #[v, u] w fun e w' => e = .returned (.bool true) ∧ Below w.heap.size w w' := by
  clear hb hb2
  obtain ⟨ao, cap, rfl⟩ := hr.lenOf
  obtain ⟨ao2, cap2, rfl⟩ := hru.lenOf
  obtain ⟨L, hL⟩ : ∃ L, L = l.length := ⟨_, rfl⟩
  obtain ⟨M, hM⟩ : ∃ M, M = m.length := ⟨_, rfl⟩
  rw [← hL] at hr hm ⊢
  rw [← hM] at hru hm2 ⊢
  have hmx : (L : Int) ≤ 9223372036854775807 := by unfold maxLen at hm; omega
  have hmx2 : (M : Int) ≤ 9223372036854775807 := by unfold maxLen at hm2; omega
  by_cases hbad : (L : Int) < 1 ∨ 3 < (L : Int) ∨ (M : Int) < 1 ∨ 4 < (M : Int)
  · have hex : (L : Int) < 1 ∨ (¬ (L : Int) < 1 ∧ 3 < (L : Int)) ∨ (¬ (L : Int) < 1 ∧ ¬ 3 < (L : Int) ∧ (M : Int) < 1) ∨ (¬ (L : Int) < 1 ∧ ¬ 3 < (L : Int) ∧ ¬ (M : Int) < 1 ∧ 4 < (M : Int)) := by omega
    clear hbad hr hL hru hM
    go_enter Tryz.func5, Tryz.ntmps5
    rcases hex with a | ⟨a, b⟩ | ⟨a, b, c⟩ | ⟨a, b, c, d⟩
    all_goals go_wp2_with fail
    all_goals exact bodyPost_ret (v := .bool true) (by simp [results, Tryz.results5, go_sem]) rfl ⟨rfl, Below.refl _ _⟩
  have g1 : ¬ (L : Int) < 1 := by omega
  have g2 : ¬ 3 < (L : Int) := by omega
  have g3 : ¬ (M : Int) < 1 := by omega
  have g4 : ¬ 4 < (M : Int) := by omega
  have hL3 : L ≤ 3 := by omega
  have hL1 : 1 ≤ L := by omega
  have hM4 : M ≤ 4 := by omega
  have hM1 : 1 ≤ M := by omega
  have HR := Lib.hid (And.intro hr hL)
  have HU := Lib.hid (And.intro hru hM)
  clear hr hL hru hM hbad hm hm2
  go_enter Tryz.func5, Tryz.ntmps5
  go_upto_region 7 with (first
    | (go_at_call 6; refine (law_begin _ [] w (.inl ⟨rfl, rfl⟩) (by decide) (by simp)).mono ?_; rintro e w1 ⟨p, g, gl, vb, r, F, rfl, hp, hb⟩; have H1 := Lib.hid (And.intro hp hb); clear hp hb)
    | (go_at_call 6; refine (law_begin _ [] w1 (.inl ⟨rfl, rfl⟩) (by decide) (by simp)).mono ?_; rintro e w2 ⟨p2, g_2, gl2, vb2, r2, F2, rfl, hp, hb⟩; have H2 := Lib.hid (And.intro hp hb); clear hp hb)
    | fail)
  obtain ⟨b8, hb8⟩ : ∃ b8, b8 = w2.heap.size := ⟨_, rfl⟩
  obtain ⟨b9, hb9⟩ : ∃ b9, b9 = w2.heap.size + 1 := ⟨_, rfl⟩
  obtain ⟨V, hV⟩ : ∃ V, V = (w2.alloc (.cells #[.int .i64 5, .int .i64 0, .int .i64 0, .slice none 0 0] 40)).alloc (.cells #[.int .i64 5, .int .i64 0, .int .i64 0, .slice none 0 0] 40) := ⟨_, rfl⟩
  have hst := Lay.start w2
  rw [← hV, ← hb9, ← hb8] at hst
  have HST := Lib.hid hst
  have HV := Lib.hid (And.intro hV (And.intro hb8 hb9))
  have hww2 : Below w.heap.size w w2 := H1.out.2.trans (H2.out.2.mono H1.out.2.size)
  have HWW := Lib.hid hww2
  clear hst hV hb8 hb9 hww2
  go_upto_region 8 with fail
  rw [show (w2.alloc (.cells #[.int .i64 5, .int .i64 0, .int .i64 0, .slice none 0 0] 40)).alloc (.cells #[.int .i64 5, .int .i64 0, .int .i64 0, .slice none 0 0] 40) = V from HV.out.1.symm, ← HV.out.2.2, ← HV.out.2.1]
  go_wp2_with fail
  go_loopw [7, 10] (fun s i wr => ∃ (k : Nat) (ks : List Lf) (u8 : Value), k ≤ L ∧ i = .int .i64 k ∧ ks.length = k ∧ (∀ y ∈ ks, LfS y) ∧ Lay w2 b8 b9 ks [] ks u8 (.slice none 0 0) s wr) (fun _ i _ => L - (intOf i).toNat)
  case atStart => exact ⟨0, [], _, by omega, rfl, rfl, by simp, HST.out⟩
  case round =>
    obtain ⟨k, ks, u8, hk, rfl, hkl, hks, hla⟩ := hrel
    obtain ⟨ro, rc, hu⟩ := hla.or_.lenOf
    rw [hkl] at hu
    subst hu
    obtain ⟨uo, uc, hu⟩ := hla.o8.lenOf
    rw [hkl] at hu
    subst hu
    by_cases hlt : k < L
    · have hlt' : (k : Int) < L := by omega
      obtain ⟨a, rfl, ca⟩ := (HR.out.1.below (HWW.out.trans (hla.old.mono HWW.out.size))).at (show k < l.length by rw [← HR.out.2]; exact hlt)
      obtain ⟨x, hx⟩ : ∃ x, x = l.getD k 0 := ⟨_, rfl⟩
      rw [← hx] at ca
      obtain ⟨z, hz, hz0, hz7⟩ := and7 x
      have hadd : IntKind.i64.wrap (1 + (k : Int)) = 1 + k := IntWalk.i64_in _ (by omega)
      obtain ⟨y, hy⟩ : ∃ y : Lf, y = lf 2 (1 + k) z := ⟨_, rfl⟩
      have hyS : LfS y := ⟨_, _, hy, by omega, by omega, hz0, hz7⟩
      have HK := Lib.hid (And.intro hks (And.intro hla (And.intro hyS hkl)))
      have HY := Lib.hid hy
      clear hx hks hla hkl hyS hy
      go_upto_region 12 with fail
      obtain ⟨cb, hcb⟩ : ∃ cb, cb = wr.heap.size := ⟨_, rfl⟩
      obtain ⟨V1, hV1⟩ : ∃ V1, V1 = wr.alloc (.cells #[.int .i64 2, .int .i64 (1 + k), .int .i64 z, .slice none 0 0] 40) := ⟨_, rfl⟩
      have hla1 : Lay w2 b8 b9 ks [] ks (.slice uo k uc) (.slice none 0 0) (.slice ro k rc) V1 := by rw [hV1]; exact HK.out.2.1.alloc _
      have hb1 : V1.heap[cb]? = some (.cells #[.int .i64 2, .int .i64 (1 + k), .int .i64 z, .slice none 0 0] 40 (0, 0)) := by rw [hV1, hcb]; exact World.alloc_heap_new _ _
      have hlo : b9 < cb := by rw [hcb]; exact HK.out.2.1.lt9
      have hb8c : b8 ≠ cb := by have := hla1.lt; omega
      have hn8 : ∀ j, (Value.slice uo k uc).ownBlock = some j → j < cb := fun j hj => by rw [hcb]; exact (HK.out.2.1.o8.block hj).2
      have hnr : ∀ j, (Value.slice ro k rc).ownBlock = some j → j < cb := fun j hj => by rw [hcb]; exact (HK.out.2.1.or_.block hj).2
      have hbV : b8 < V1.heap.size := by have := hla1.lt9; have := hla1.lt; omega
      have HL1 := Lib.hid (And.intro hla1 (And.intro hb1 (And.intro hlo (And.intro hn8 hnr))))
      obtain ⟨d0, d1, d2, d3⟩ := cells4 hb1
      obtain ⟨c0, c1, c2, c3, cf⟩ := cellsC hla1.c8
      rw [← hV1, ← hcb]
      clear hV1 hcb hla1 hb1 hlo hn8 hnr c0 c1 c2 ca hadd
      go_upto_region 13 with (first
        | (at_builtin; refine wpl_appR (r := callR) (y := y) (v := .slice uo k uc) rfl rfl rfl rfl (HL1.out.1.alloc _).o8 (by rw [HY.out]; exact rangeAt_whole (T := 40) (by exact World.alloc_heap_new _ _)) (by have := HK.out.2.2.2; omega) (by have := HL1.out.1.lt9; rw [World.size_alloc]; omega) ?_; intro u' w3 hO hg3 hat hne; obtain ⟨⟨x3, xf⟩, x4, x5⟩ := HL1.out.1.put8 HL1.out.2.1 HL1.out.2.2.1 HL1.out.2.2.2.1 hg3 hO hat; obtain ⟨uo', uc', rfl⟩ := hO.lenOf; obtain ⟨m', hm'⟩ : ∃ m', m' = (ks ++ [y]).length := ⟨_, rfl⟩; rw [← hm'] at x4 x5; rw [← hm']; have HS := Lib.hid (And.intro x4 x5); clear x4 x5 hO hg3 hat hne hm')
        | fail)
      obtain ⟨W5, hW5⟩ : ∃ W5, W5 = w3.setCell ⟨b8, 3, none⟩ (.slice uo' m' uc') := ⟨_, rfl⟩
      rw [← hW5]
      obtain ⟨hla5, hb5⟩ := HS.out
      rw [← hW5] at hla5 hb5
      obtain ⟨d0, d1, d2, d3⟩ := cells4 hb5
      have HS5 := Lib.hid hla5
      clear hW5 hla5 hb5 x3 xf
      go_wp2_with (first
        | (at_builtin; refine wpl_appR (r := callR) (y := y) (v := .slice ro k rc) rfl rfl rfl rfl (HS5.out.alloc _).or_ (by rw [HY.out]; exact rangeAt_whole (T := 40) (by exact World.alloc_heap_new _ _)) (by have := HK.out.2.2.2; omega) (by have := HS5.out.lt9; rw [World.size_alloc]; omega) ?_; intro u7 w7 hO hg3 hat hne; have HS7 := Lib.hid ((HS5.out.alloc _).stepr hg3 hO hat); clear hO hg3 hat hne)
        | fail)
      go_roundw
      case rel => exact ⟨k + 1, ks ++ [y], _, by omega, by go_num, by rw [List.length_append, HK.out.2.2.2]; rfl, fun z hz => (List.mem_append.1 hz).elim (HK.out.1 z) (fun h => by rw [List.mem_singleton.1 h]; exact HK.out.2.2.1), HS7.out⟩
      case measure => simp [intOf]; omega
    · have hge : ¬ (k : Int) < L := by omega
      have hkL : k = L := by omega
      subst hkL
      obtain ⟨k8, hk8⟩ : ∃ k8, k8 = ks := ⟨_, rfl⟩
      rw [← hk8] at hkl hks hla
      have HK8 := Lib.hid (And.intro hkl hks)
      have hla0 : Lay w2 b8 b9 k8 [] (k8 ++ []) (.slice uo k uc) (.slice none 0 0) (.slice ro k rc) wr := by rw [List.append_nil]; exact hla
      have HL0 := Lib.hid hla0
      clear hkl hks hla hla0 hk8 hlt hk
      go_upto_region 14 with fail
      go_wp2_with fail
      go_loopw [7, 12] (fun s i wr => ∃ (j : Nat) (ks : List Lf) (u9 : Value), j ≤ M ∧ i = .int .i64 j ∧ ks.length = j ∧ (∀ y ∈ ks, LfR y) ∧ Lay w2 b8 b9 k8 ks (k8 ++ ks) (.slice uo k uc) u9 s wr) (fun _ i _ => M - (intOf i).toNat)
      case atStart => exact ⟨0, [], _, by omega, rfl, rfl, by simp, HL0.out⟩
      case round =>
        obtain ⟨j, ks, u9, hj, rfl, hkl, hks, hla⟩ := hrel
        obtain ⟨ro, rc, hu⟩ := hla.or_.lenOf
        rw [List.length_append, hkl, HK8.out.1] at hu
        subst hu
        obtain ⟨uo9, uc9, hu⟩ := hla.o9.lenOf
        rw [hkl] at hu
        subst hu
        by_cases hlt : j < M
        · have hlt' : (j : Int) < M := by omega
          obtain ⟨a, rfl, ca⟩ := (HU.out.1.below (HWW.out.trans (hla.old.mono HWW.out.size))).at (show j < m.length by rw [← HU.out.2]; exact hlt)
          obtain ⟨x, hx⟩ : ∃ x, x = m.getD j 0 := ⟨_, rfl⟩
          rw [← hx] at ca
          obtain ⟨z, hz, hz0, hz7⟩ := and7 x
          obtain ⟨y, hy⟩ : ∃ y : Lf, y = lf 1 0 z := ⟨_, rfl⟩
          have hyS : LfR y := ⟨_, hy, hz0, hz7⟩
          have HK := Lib.hid (And.intro hks (And.intro hla (And.intro hyS hkl)))
          have HY := Lib.hid hy
          clear hx hks hla hkl hyS hy
          go_upto_region 18 with fail
          obtain ⟨cb, hcb⟩ : ∃ cb, cb = wr.heap.size := ⟨_, rfl⟩
          obtain ⟨V1, hV1⟩ : ∃ V1, V1 = wr.alloc (.cells #[.int .i64 1, .int .i64 0, .int .i64 z, .slice none 0 0] 40) := ⟨_, rfl⟩
          have hla1 : Lay w2 b8 b9 k8 ks (k8 ++ ks) (.slice uo k uc) (.slice uo9 j uc9) (.slice ro (k + j) rc) V1 := by rw [hV1]; exact HK.out.2.1.alloc _
          have hb1 : V1.heap[cb]? = some (.cells #[.int .i64 1, .int .i64 0, .int .i64 z, .slice none 0 0] 40 (0, 0)) := by rw [hV1, hcb]; exact World.alloc_heap_new _ _
          have hlo : b9 < cb := by rw [hcb]; exact HK.out.2.1.lt9
          have hb9c : b9 ≠ cb := by omega
          have hn9 : ∀ i, (Value.slice uo9 j uc9).ownBlock = some i → i < cb := fun i hi => by rw [hcb]; exact (HK.out.2.1.o9.block hi).2
          have hbV : b9 < V1.heap.size := hla1.lt9
          have HL1 := Lib.hid (And.intro hla1 (And.intro hb1 (And.intro hlo hn9)))
          obtain ⟨d0, d1, d2, d3⟩ := cells4 hb1
          obtain ⟨c0, c1, c2, c3, cf⟩ := cellsC hla1.c9
          rw [← hV1, ← hcb]
          clear hV1 hcb hla1 hb1 hlo hn9 c0 c1 c2 ca
          go_upto_region 19 with (first
            | (at_builtin; refine wpl_appR (r := callR) (y := y) (v := .slice uo9 j uc9) rfl rfl rfl rfl (HL1.out.1.alloc _).o9 (by rw [HY.out]; exact rangeAt_whole (T := 40) (by exact World.alloc_heap_new _ _)) (by have := HK.out.2.2.2; omega) (by have := HL1.out.1.lt9; rw [World.size_alloc]; omega) ?_; intro u' w3 hO hg3 hat hne; obtain ⟨⟨x3, xf⟩, x4, x5⟩ := HL1.out.1.put9 HL1.out.2.1 HL1.out.2.2.1 HL1.out.2.2.2 hg3 hO hat; obtain ⟨uo', uc', rfl⟩ := hO.lenOf; obtain ⟨m', hm'⟩ : ∃ m', m' = (ks ++ [y]).length := ⟨_, rfl⟩; rw [← hm'] at x4 x5; rw [← hm']; have HS := Lib.hid (And.intro x4 x5); clear x4 x5 hO hg3 hat hne hm')
            | fail)
          obtain ⟨W5, hW5⟩ : ∃ W5, W5 = w3.setCell ⟨b9, 3, none⟩ (.slice uo' m' uc') := ⟨_, rfl⟩
          rw [← hW5]
          obtain ⟨hla5, hb5⟩ := HS.out
          rw [← hW5] at hla5 hb5
          obtain ⟨d0, d1, d2, d3⟩ := cells4 hb5
          have HS5 := Lib.hid hla5
          clear hW5 hla5 hb5 x3 xf
          go_wp2_with (first
            | (at_builtin; refine wpl_appR (r := callR) (y := y) (v := .slice ro (k + j) rc) rfl rfl rfl rfl (HS5.out.alloc _).or_ (by rw [HY.out]; exact rangeAt_whole (T := 40) (by exact World.alloc_heap_new _ _)) (by have := HK.out.2.2.2; have := HK8.out.1; rw [List.length_append]; omega) (by have := HS5.out.lt9; rw [World.size_alloc]; omega) ?_; intro u7 w7 hO hg3 hat hne; have HS7 := Lib.hid ((HS5.out.alloc _).stepr hg3 hO hat); clear hO hg3 hat hne)
            | fail)
          go_roundw
          case rel => exact ⟨j + 1, ks ++ [y], _, by omega, by go_num, by rw [List.length_append, HK.out.2.2.2]; rfl, fun z hz => (List.mem_append.1 hz).elim (HK.out.1 z) (fun h => by rw [List.mem_singleton.1 h]; exact HK.out.2.2.1), by rw [← List.append_assoc]; exact HS7.out⟩
          case measure => simp [intOf]; omega
        · have hge : ¬ (j : Int) < M := by omega
          have hjM : j = M := by omega
          subst hjM
          obtain ⟨k9, hk9⟩ : ∃ k9, k9 = ks := ⟨_, rfl⟩
          rw [← hk9] at hkl hks hla
          obtain ⟨r9, rfl, -, hr9lt, hr9⟩ := ownC hla.o9 (by omega)
          have HK9 := Lib.hid (And.intro hkl (And.intro hks (And.intro hr9lt hr9)))
          have HL9 := Lib.hid hla
          obtain ⟨e0, e1, e2, e3, ef⟩ := cellsC hla.c9
          obtain ⟨c0, c1, c2, c3, cf⟩ := cellsC hla.c8
          have hlt9 := hla.lt9
          have hlt8 := hla.lt
          clear hkl hks hla hk9 hlt hj hr9 hr9lt c0 c1 c2
          go_upto_region 20 with fail
          go_upto_region 21 with (first
            | (at_builtin; refine wpl_appR (r := callR) (y := bt r9 j uc9) (v := .slice uo k uc) rfl rfl rfl rfl (HL9.out.alloc _).o8 (rangeAt_whole (T := 40) (by exact World.alloc_heap_new _ _)) (by have := HK8.out.1; omega) (by have := HL9.out.lt9; rw [World.size_alloc]; omega) ?_; intro u' w3 hO hg3 hat hne; obtain ⟨⟨x3, xf⟩, x4⟩ := (HL9.out.alloc _).step8 hg3 hO hat; obtain ⟨uo', uc', rfl⟩ := hO.lenOf; have hm' : (k8 ++ [bt r9 j uc9]).length = k + 1 := (by rw [List.length_append, HK8.out.1]; rfl); rw [hm'] at x4; rw [hm']; have HS := Lib.hid (And.intro hg3 x4); clear x4 hO hg3 hat hne hm')
            | fail)
          obtain ⟨W, hW⟩ : ∃ W, W = w3.setCell ⟨b8, 3, none⟩ (.slice uo' (k + 1) uc') := ⟨_, rfl⟩
          rw [← hW]
          have hla := HS.out.2
          rw [← hW] at hla
          obtain ⟨r8, rfl, h8lo, hr8lt, hr8⟩ := ownC hla.o8 (by simp)
          obtain ⟨r9', e9, h9lo, hr9lt, hr9⟩ := ownC hla.o9 (by have := HK9.out.1; omega)
          obtain rfl : r9 = r9' := by simpa using e9
          obtain ⟨rr, rfl, hrlo, hrrlt, hrr⟩ := ownC hla.or_ (by rw [List.length_append]; have := HK9.out.1; omega)
          rw [← HK9.out.1] at hr8
          obtain ⟨tc, m1, m2, m3⟩ := nest_mk (c8 := uc') (c9 := uc9) HK8.out.2 HK9.out.2.1 (by have := HK8.out.1; omega) (by have := HK9.out.1; omega) (by have := HK9.out.1; omega) hr9 hr9lt hr8 hr8lt
          rw [HK8.out.1] at m1 m3
          obtain ⟨xs, hxs⟩ : ∃ xs, xs = k8 ++ k9 := ⟨_, rfl⟩
          obtain ⟨n, hn⟩ : ∃ n, n = k + j := ⟨_, rfl⟩
          have hxl : xs.length = n := by rw [hxs, hn, List.length_append, HK8.out.1, HK9.out.1]
          have hall : ∀ y ∈ xs, LfS y ∨ LfR y := fun y hy => by
            rw [hxs] at hy
            exact (List.mem_append.1 hy).elim (fun h => .inl (HK8.out.2 y h)) (fun h => .inr (HK9.out.2.1 y h))
          rw [← hxs] at m3 hrr
          have hn7 : n ≤ 7 := by omega
          have hA0 : (accL (bal3 []) 0).1 = 100 := by rw [bal_nil (by decide)]
          have hok := nest_ok xs (accL (bal3 [])) hall (by rw [hA0, hxl]; omega)
          have hpr : PrAt w.heap.size p g gl vb r F (accL (bal3 [])) W := (H1.out.1.below H2.out.2).below hla.old
          have hpr2 : PrAt w1.heap.size p2 g_2 gl2 vb2 r2 F2 (accL (bal3 [])) W := H2.out.1.below hla.old
          have hbw : Below w.heap.size w W := HWW.out.trans (hla.old.mono HWW.out.size)
          have hg1 : g < w1.heap.size := H1.out.1.ld.lt
          have hp1 : p < w1.heap.size := by obtain ⟨px, py, pz, hp⟩ := H1.out.1.pr; exact (Array.getElem?_eq_some_iff.1 hp).1
          have hw12 : w1.heap.size ≤ w2.heap.size := H2.out.2.size
          have hlo8 := hla.lo
          have hgb8 : b8 ≠ g := by omega
          have hb8W : b8 < W.heap.size := by have := hla.lt; have := hla.lt9; omega
          obtain ⟨k0, k1, k2⟩ := hpr.cells
          have hbd1 : Below W.heap.size W W.drew := (Below.refl _ W).drew
          have hdo := Do_any (hpr.below hbd1) (hbw.trans (hbd1.mono hbw.size)).size (k := 1) (by decide) 3 (RdC.below hbd1 m1) m2 (Sg.keep (fun i hi => hi) (fun i hi => by rcases hi with rfl | rfl <;> exact hbd1.block _ (by assumption)) m3) (fun i hi => by rcases hi with rfl | rfl <;> exact ⟨by assumption, by omega⟩) (fun y hy => (leafCl (hall y hy) (fun _ => False) W 0 1).2.2.2) (by omega)
          obtain ⟨c0, c1, c2, c3, -⟩ := cellsC hla.c8
          have hce : ∀ W' : World, Off g W.drew W' → W'.cell? ⟨b8, 0, none⟩ = some (.int .i64 5) ∧ W'.cell? ⟨b8, 1, none⟩ = some (.int .i64 0) ∧ W'.cell? ⟨b8, 2, none⟩ = some (.int .i64 0) ∧ W'.cell? ⟨b8, 3, none⟩ = some (.slice (some ⟨r8, 0, none⟩) (k + 1) uc') := fun W' ho => by
            have e : W'.heap[b8]? = W.heap[b8]? := ho b8 hb8W hgb8
            exact ⟨(World.cell?_of_block (a := ⟨b8, 0, none⟩) e).trans c0, (World.cell?_of_block (a := ⟨b8, 1, none⟩) e).trans c1, (World.cell?_of_block (a := ⟨b8, 2, none⟩) e).trans c2, (World.cell?_of_block (a := ⟨b8, 3, none⟩) e).trans c3⟩
          obtain ⟨Va, hVa⟩ : ∃ Va, Va = fV [] (tk3 1) ((1 : Nat) : Int) (accL (bal3 [])) xs := ⟨_, rfl⟩
          obtain ⟨m, hm⟩ : ∃ m, m = Va.length := ⟨_, rfl⟩
          have HCE := Lib.hid hce
          have HDO := Lib.hid hdo
          have HP := Lib.hid (And.intro hpr (And.intro hpr2 hbw))
          have HC := Lib.hid (And.intro c0 (And.intro c1 (And.intro c2 c3)))
          have HX := Lib.hid (And.intro hxl (And.intro hall (And.intro hok (And.intro hn7 (And.intro hVa hm)))))
          have HB := Lib.hid (And.intro hrlo (And.intro hrrlt (And.intro hrr (And.intro hg1 (And.intro hp1 (And.intro hw12 (And.intro hla.lo hla.lt)))))))
          rw [← hn]
          clear hW hla h8lo hr8lt hr8 e9 h9lo hr9lt hr9 hrlo hrrlt hrr m1 m2 m3 hxs hn hxl hall hok hpr hpr2 hbw hg1 hp1 hw12 hlo8 hgb8 hb8W hbd1 hdo hce hVa hm c0 c1 c2 c3 hn7 hA0 x3 xf e0 e1 e2 e3 ef hlt9 hlt8 cf
          go_region_held3 (fun w' => w'.cell? ⟨p, 0, none⟩ = some (.pointer (some ⟨g, 0, none⟩)) ∧ w'.cell? ⟨p, 1, none⟩ = some (.pointer (some ⟨vb, 0, none⟩)) ∧ w'.cell? ⟨p, 2, none⟩ = some (.pointer (some ⟨r, 0, none⟩)) ∧ w'.cell? ⟨b8, 0, none⟩ = some (.int .i64 5) ∧ w'.cell? ⟨b8, 1, none⟩ = some (.int .i64 0) ∧ w'.cell? ⟨b8, 2, none⟩ = some (.int .i64 0) ∧ w'.cell? ⟨b8, 3, none⟩ = some (.slice (some ⟨r8, 0, none⟩) (k + 1) uc')) (first | exact ⟨k0, k1, k2, HC.out⟩ | exact ⟨H5.out.2.1.cells.1, H5.out.2.1.cells.2.1, H5.out.2.1.cells.2.2, HCE.out _ H5.out.2.2.2⟩) (first
            | (go_at_call 8; refine HDO.out.mono ?_; rintro e w5 ⟨ue, E, pre, rfl, hpre, ho, hp, hb, hof, hcase⟩; obtain ⟨hpe, rfl⟩ := end_ok hpre hcase HX.out.2.2.1; rw [hpe] at ho hp; rw [← HX.out.2.2.2.2.1] at ho; obtain ⟨ao5, ac5, rfl⟩ := ho.lenOf; rw [← HX.out.2.2.2.2.2] at ho; rw [← HX.out.2.2.2.2.2]; have H5 := Lib.hid (And.intro ho (And.intro hp (And.intro hb hof))); clear hpre ho hp hb hof hcase hpe)
            | fail)
          have hbd1 : Below W.heap.size W W.drew := (Below.refl _ W).drew
          have hgn : g < w1.heap.size := HB.out.2.2.2.1
          have hgl2 : w1.heap.size ≤ g_2 := H2.out.1.ld.lo
          have hq5 := (HP.out.2.1.below hbd1).away hgn (HP.out.1.below hbd1).ld.blk (by rw [bal_nil (by decide)]) H5.out.2.2.2 (Grow.of_below H5.out.2.2.1)
          have hbw5 : Below w.heap.size w w5 := HP.out.2.2.trans ((hbd1.mono HP.out.2.2.size).trans H5.out.2.2.1)
          have hgs := Grow.of_below H5.out.2.2.1
          have hrr5 : w5.rangeAt rr 0 (callR.all xs) := rangeAt_block HB.out.2.2.1 (H5.out.2.2.2 rr HB.out.2.1 (by have := HB.out.1; have := HB.out.2.2.2.2.2.1; have := HB.out.2.2.2.2.2.2.1; have := HB.out.2.2.2.2.2.2.2; omega))
          have hrl5 : rr < w5.heap.size := Nat.lt_of_lt_of_le HB.out.2.1 hgs.size
          have hg25 : g_2 < W.heap.size := HP.out.2.1.ld.lt
          have hrg2 : rr ≠ g_2 := by have := H2.out.1.ld.lt; have := HB.out.1; have := HB.out.2.2.2.2.2.2.1; have := HB.out.2.2.2.2.2.2.2; omega
          have HQ := Lib.hid (And.intro hq5 (And.intro hbw5 (And.intro hrr5 (And.intro hrl5 hrg2))))
          have HG := Lib.hid (And.intro hgn (And.intro hgl2 (And.intro hg25 hgs)))
          have HST2 := Lib.hid (Two.start hq5 hbw5)
          have hn7 : (n : Int) ≤ 7 := by have := HX.out.2.2.2.1; omega
          clear hbd1 hgn hgl2 hq5 hbw5 hgs hrr5 hrl5 hg25 hrg2 k0 k1 k2
          go_upto_region 23 with fail
          go_wp2_with fail
          go_loopw [16, 17] (fun s i wr => ∃ (q : Nat), q ≤ n ∧ i = .int .i64 q ∧ Two w w5 w1.heap.size p2 g_2 gl2 vb2 r2 (fun k => F2 k ∧ k ≠ g) (fA [] (tk3 1) (accL (bal3 [])) (xs.take q)) (fV [] (tk3 1) ((1 : Nat) : Int) (accL (bal3 [])) (xs.take q)) s wr) (fun _ i _ => n - (intOf i).toNat)
          case atStart => exact ⟨0, by omega, rfl, HST2.out⟩
          case round =>
            obtain ⟨q, hq, rfl, htw⟩ := hrel
            by_cases hlt : q < n
            · have hlt' : (q : Int) < n := by omega
              have hqx : q < xs.length := by rw [HX.out.1]; exact hlt
              obtain ⟨x, hx⟩ : ∃ x, x = xs[q] := ⟨_, rfl⟩
              have hxS : LfS x ∨ LfR x := by rw [hx]; exact HX.out.2.1 _ (List.getElem_mem hqx)
              have htk : xs.take (q + 1) = xs.take q ++ [x] := by rw [hx]; exact List.take_succ_eq_append_getElem hqx
              obtain ⟨A1, hA1⟩ : ∃ A1, A1 = fA [] (tk3 1) (accL (bal3 [])) (xs.take q) := ⟨_, rfl⟩
              obtain ⟨V1, hV1⟩ : ∃ V1, V1 = fV [] (tk3 1) ((1 : Nat) : Int) (accL (bal3 [])) (xs.take q) := ⟨_, rfl⟩
              rw [← hA1, ← hV1] at htw
              have hdo0 : doE A1 [] (tk3 1) x = 0 := by
                have h1 := HX.out.2.2.1
                rw [← List.take_append_drop (q + 1) xs, fOk_append, htk, fOk_snoc, ← hA1] at h1
                exact h1.1.2
              have hfo : fOk [] (tk3 1) A1 [x] := ⟨hdo0, trivial⟩
              have hVl : V1.length ≤ 7 := by have := fV_len [] (tk3 1) ((1 : Nat) : Int) (accL (bal3 [])) (xs.take q); rw [← hV1, List.length_take] at this; omega
              have hVl2 := fV_len [] (tk3 1) ((1 : Nat) : Int) A1 [x]
              obtain ⟨l1, l2, l3, l4⟩ := leafCl hxS (fun _ => False) wr.drew 0 3
              have hbd : Below wr.heap.size wr wr.drew := (Below.refl _ wr).drew
              have hN2 : w1.heap.size ≤ wr.heap.size := by have := htw.gr.size; have := HQ.out.1.ld.lt; have := HG.out.2.1; omega
              have hdo := Do_any (htw.pr.below hbd) hN2 (k := 1) (by decide) 3 l1 l2 l3 (fun k hk => hk.elim) (fun y hy => by rw [List.mem_singleton.1 hy]; exact l4) (by simp)
              have hrow := row_at (rangeAt_block HQ.out.2.2.1 (htw.off rr HQ.out.2.2.2.1 HQ.out.2.2.2.2)) hqx
              rw [← hx] at hrow
              have hoffr : ∀ W' : World, Off g_2 wr.drew W' → ∀ (j : Nat) (u : Value), (lfL x)[j]? = some u → W'.cell? ⟨rr, q * 4 + j, none⟩ = some u := fun W' ho j u hj => by
                have e : W'.heap[rr]? = wr.heap[rr]? := ho rr (Nat.lt_of_lt_of_le HQ.out.2.2.2.1 htw.gr.size) HQ.out.2.2.2.2
                have := hrow j u hj
                rw [Nat.zero_add] at this
                exact (World.cell?_of_block (a := ⟨rr, q * 4 + j, none⟩) e).trans this
              obtain ⟨a1, a2, a3, ab, am, ac⟩ := x
              have hcel : ∀ W' : World, Off g_2 wr.drew W' → W'.cell? ⟨rr, q * 4, none⟩ = some (.int .i64 a1) ∧ W'.cell? ⟨rr, q * 4 + 1, none⟩ = some (.int .i64 a2) ∧ W'.cell? ⟨rr, q * 4 + 2, none⟩ = some (.int .i64 a3) ∧ W'.cell? ⟨rr, q * 4 + 3, none⟩ = some (.slice ab am ac) := fun W' ho => ⟨hoffr W' ho 0 _ rfl, hoffr W' ho 1 _ rfl, hoffr W' ho 2 _ rfl, hoffr W' ho 3 _ rfl⟩
              obtain ⟨c0, c1, c2, c3⟩ := hcel wr (fun _ _ _ => rfl)
              obtain ⟨k0, k1, k2⟩ := htw.pr.cells
              obtain ⟨so, sc, hs⟩ := htw.own.lenOf
              subst hs
              obtain ⟨vl, hvl⟩ : ∃ vl, vl = V1.length := ⟨_, rfl⟩
              rw [← hvl] at htw ⊢
              have hkk : fA [] (tk3 1) A1 [(a1, a2, a3, ab, am, ac)] = fA [] (tk3 1) (accL (bal3 [])) (xs.take (q + 1)) ∧ V1 ++ fV [] (tk3 1) ((1 : Nat) : Int) A1 [(a1, a2, a3, ab, am, ac)] = fV [] (tk3 1) ((1 : Nat) : Int) (accL (bal3 [])) (xs.take (q + 1)) := by
                rw [htk, fA_snoc, fV_snoc, ← hA1, ← hV1]
                exact ⟨rfl, by simp [fV]⟩
              have HCC := Lib.hid (And.intro c0 (And.intro c1 (And.intro c2 c3)))
              have HCEL := Lib.hid hcel
              have HDO2 := Lib.hid hdo
              have HTW := Lib.hid htw
              have HV2 := Lib.hid (And.intro hfo (And.intro hVl (And.intro hVl2 (And.intro hkk hvl))))
              clear hqx hx hxS htk hA1 hV1 hdo0 hfo hVl hVl2 l1 l2 l3 l4 hbd hN2 hdo hrow hoffr hcel htw hkk hvl
              go_upto_region 26 with fail
              go_region_held3 (fun w' => w'.cell? ⟨p2, 0, none⟩ = some (.pointer (some ⟨g_2, 0, none⟩)) ∧ w'.cell? ⟨p2, 1, none⟩ = some (.pointer (some ⟨vb2, 0, none⟩)) ∧ w'.cell? ⟨p2, 2, none⟩ = some (.pointer (some ⟨r2, 0, none⟩)) ∧ w'.cell? ⟨rr, q * 4, none⟩ = some (.int .i64 a1) ∧ w'.cell? ⟨rr, q * 4 + 1, none⟩ = some (.int .i64 a2) ∧ w'.cell? ⟨rr, q * 4 + 2, none⟩ = some (.int .i64 a3) ∧ w'.cell? ⟨rr, q * 4 + 3, none⟩ = some (.slice ab am ac)) (first | exact ⟨k0, k1, k2, HCC.out⟩ | exact ⟨H6.out.2.1.cells.1, H6.out.2.1.cells.2.1, H6.out.2.1.cells.2.2, HCEL.out _ H6.out.2.2.2⟩) (first
                | (go_at_call 8; refine HDO2.out.mono ?_; rintro e w6 ⟨ue, E, pre, rfl, hpre, ho, hp, hb, hof, hcase⟩; obtain ⟨hpe, rfl⟩ := end_ok hpre hcase HV2.out.1; rw [hpe] at ho hp; obtain ⟨ao6, ac6, rfl⟩ := ho.lenOf; obtain ⟨ml, hml⟩ : ∃ ml, ml = (fV [] (tk3 1) ((1 : Nat) : Int) A1 [(a1, a2, a3, ab, am, ac)]).length := ⟨_, rfl⟩; rw [← hml] at ho; rw [← hml]; have H6 := Lib.hid (And.intro ho (And.intro hp (And.intro hb hof))); clear hpre ho hp hb hof hcase hpe hml)
                | fail)
              go_upto_region 27 with fail
              clear k0 k1 k2 c0 c1 c2 c3
              have t1 := HTW.out.own6 HQ.out.1.ld.lt H6.out.2.2.2
              have t2 : RdR evR w6 (.slice ao6 ml ac6) (fV [] (tk3 1) ((1 : Nat) : Int) A1 [(a1, a2, a3, ab, am, ac)]) := H6.out.1.reads
              have t3 : V1.length + (fV [] (tk3 1) ((1 : Nat) : Int) A1 [(a1, a2, a3, ab, am, ac)]).length ≤ 1000000 := by have := HV2.out.2.1; have := HV2.out.2.2.1; simp only [List.length_singleton] at this; omega
              have t4 : w5.heap.size ≤ w6.heap.size := Nat.le_trans HTW.out.gr.size H6.out.2.2.1.size
              have T1 := Lib.hid (And.intro t1 (And.intro t2 (And.intro t3 t4)))
              clear t1 t2 t3 t4
              go_wp2_with (first
                | (at_builtin; refine wpl_appsR (r := evR) (u := .slice ao6 ml ac6) (v := .slice so vl sc) (xs := V1) (ys := fV [] (tk3 1) ((1 : Nat) : Int) A1 [(a1, a2, a3, ab, am, ac)]) rfl rfl rfl rfl T1.out.1 T1.out.2.1 T1.out.2.2.1 T1.out.2.2.2 ?_; intro u7 w7 hO hg3 hat; have HS7 := Lib.hid (HTW.out.step HQ.out.1 (Below.size (H1.out.2)) HQ.out.2.1.size H6.out.2.1 H6.out.2.2.1 H6.out.2.2.2 hO hg3); clear hO hg3 hat)
                | fail)
              go_roundw
              case rel => exact ⟨q + 1, by omega, by go_num, by rw [← HV2.out.2.2.2.1.1, ← HV2.out.2.2.2.1.2]; exact HS7.out⟩
              case measure => simp [intOf]; omega
            · have hge : ¬ (q : Int) < n := by omega
              have hqn : q = n := by omega
              have htk : xs.take q = xs := List.take_of_length_le (by rw [HX.out.1]; omega)
              rw [htk, ← HX.out.2.2.2.2.1] at htw
              obtain ⟨A1, hA1⟩ : ∃ A1, A1 = fA [] (tk3 1) (accL (bal3 [])) xs := ⟨_, rfl⟩
              rw [← hA1] at htw
              obtain ⟨so, sc, hs⟩ := htw.own.lenOf
              subst hs
              rw [← HX.out.2.2.2.2.2] at htw ⊢
              have hpb : wr.heap[g]? = some (.cells (lcells A1 gl).toArray 86 (0, 0)) := by
                have h1 := H5.out.2.1.ld
                rw [← hA1] at h1
                exact (htw.off g h1.lt (by have := HG.out.1; have := HG.out.2.1; omega)).trans h1.blk
              have hqb : wr.heap[g_2]? = some (.cells (lcells A1 gl2).toArray 86 (0, 0)) := htw.pr.ld.blk
              have hpc : wr.cell? ⟨p, 0, none⟩ = some (.pointer (some ⟨g, 0, none⟩)) := by
                have hp1 := HB.out.2.2.2.2.1
                have := HG.out.1
                have := HG.out.2.1
                have := H2.out.1.ld.lt
                have := HB.out.2.2.2.2.2.1
                exact (World.cell?_of_block (a := ⟨p, 0, none⟩) (htw.off p (by have := HQ.out.1.ld.lt; omega) (by omega))).trans H5.out.2.1.cells.1
              have hqc := htw.pr.cells.1
              have hmA : OwnR evR W.drew.heap.size (.slice ao5 m ac5) Va wr := H5.out.1.of (Nat.le_refl _) (fun k hk => htw.off k (H5.out.1.block hk).2 (by have h1 := (H5.out.1.block hk).1; have h2 := HG.out.2.2.1; have h3 : W.drew.heap.size = W.heap.size := rfl; omega))
              have hmB := htw.own
              have hm7 : (m : Int) ≤ 7 := by have h1 := fV_len [] (tk3 1) ((1 : Nat) : Int) (accL (bal3 [])) xs; rw [← HX.out.2.2.2.2.1, ← HX.out.2.2.2.2.2, HX.out.1] at h1; have := HX.out.2.2.2.1; omega
              have HM := Lib.hid (And.intro hmA (And.intro hmB HX.out.2.2.2.2.2))
              have HF := Lib.hid (And.intro hpb (And.intro hqb htw.old))
              have hkn := law_known wr
              have HKN := Lib.hid hkn
              clear hlt hq hqn htk htw hA1 hpb hqb hmA hmB hkn
              go_upto_region 32 with fail
              go_wp2_with fail
              go_loopw [20] (fun i wz => ∃ t : Nat, t ≤ m ∧ i = .int .i64 t ∧ Below wr.heap.size wr wz) (fun i _ => m - (intOf i).toNat)
              case atStart => exact ⟨0, by omega, rfl, Below.refl _ _⟩
              case round =>
                obtain ⟨t, ht, rfl, hbz⟩ := hrel
                by_cases htm : t < m
                · have htm' : (t : Int) < m := by omega
                  have hl1 : 1 ≤ Va.length := by rw [← HM.out.2.2]; omega
                  have htl : t < Va.length := by rw [← HM.out.2.2]; exact htm
                  obtain ⟨ab, rfl, -, hal, hab⟩ := ownE HM.out.1 hl1
                  obtain ⟨bb, rfl, -, hbl, hbb⟩ := ownE HM.out.2.1 hl1
                  obtain ⟨x, hx⟩ : ∃ x, x = Va[t] := ⟨_, rfl⟩
                  have ha := ev_at (rangeAt_block hab (hbz.block ab hal)) htl
                  have hb := ev_at (rangeAt_block hbb (hbz.block bb hbl)) htl
                  rw [← hx] at ha hb
                  have heq := fun w => run_neqEv w x
                  obtain ⟨x0, x1, x2⟩ := x
                  simp only [evL] at heq
                  have HCA := Lib.hid (show wr.cell? ⟨ab, t * 3, none⟩ = some (.int .i64 x0) ∧ wr.cell? ⟨ab, t * 3 + 1, none⟩ = some (.int .i64 x1) ∧ wr.cell? ⟨ab, t * 3 + 2, none⟩ = some (.int .i64 x2) ∧ wr.cell? ⟨bb, t * 3, none⟩ = some (.int .i64 x0) ∧ wr.cell? ⟨bb, t * 3 + 1, none⟩ = some (.int .i64 x1) ∧ wr.cell? ⟨bb, t * 3 + 2, none⟩ = some (.int .i64 x2) from ⟨ha 0 _ rfl, ha 1 _ rfl, ha 2 _ rfl, hb 0 _ rfl, hb 1 _ rfl, hb 2 _ rfl⟩)
                  have HBZ := Lib.hid hbz
                  have HT := Lib.hid htm
                  clear ha hb hab hbb hx htl hl1 hal hbl hbz
                  go_upto_region 35 with fail
                  go_region_held3 (fun w' => w'.cell? ⟨ab, t * 3, none⟩ = some (.int .i64 x0) ∧ w'.cell? ⟨ab, t * 3 + 1, none⟩ = some (.int .i64 x1) ∧ w'.cell? ⟨ab, t * 3 + 2, none⟩ = some (.int .i64 x2) ∧ w'.cell? ⟨bb, t * 3, none⟩ = some (.int .i64 x0) ∧ w'.cell? ⟨bb, t * 3 + 1, none⟩ = some (.int .i64 x1) ∧ w'.cell? ⟨bb, t * 3 + 2, none⟩ = some (.int .i64 x2)) (first | exact HCA.out) (fail)
                  go_wp2_with fail
                  go_roundw
                  case rel => exact ⟨t + 1, HT.out, by go_num, HBZ.out.drew⟩
                  case measure => have := HT.out; simp [intOf]; omega
                · have htm' : ¬ (t : Int) < m := by omega
                  clear ht htm
                  obtain ⟨v1, hv1⟩ : ∃ v1, v1 = (A1 1).1 := ⟨_, rfl⟩
                  obtain ⟨v0, hv0⟩ : ∃ v0, v0 = (A1 0).1 := ⟨_, rfl⟩
                  have hbz2 := hbz.drew
                  have f1 := free_b1 ((hbz2.block g (Array.getElem?_eq_some_iff.1 HF.out.1).1).trans HF.out.1)
                  have f0 := free_b0 ((hbz2.block g (Array.getElem?_eq_some_iff.1 HF.out.1).1).trans HF.out.1)
                  have f3 := free_b1 ((hbz2.block g_2 (Array.getElem?_eq_some_iff.1 HF.out.2.1).1).trans HF.out.2.1)
                  have f2 := free_b0 ((hbz2.block g_2 (Array.getElem?_eq_some_iff.1 HF.out.2.1).1).trans HF.out.2.1)
                  rw [← hv1] at f1 f3
                  rw [← hv0] at f0 f2
                  have HFF := Lib.hid (And.intro f1 (And.intro f0 (And.intro f3 f2)))
                  have hc1 : wr.cell? ⟨p, 0, none⟩ = some (.pointer (some ⟨g, 0, none⟩)) := (hbz.cell (World.block_lt_of_cell? _ _ hpc)).trans hpc
                  have hc2 : wr.cell? ⟨p2, 0, none⟩ = some (.pointer (some ⟨g_2, 0, none⟩)) := (hbz.cell (World.block_lt_of_cell? _ _ hqc)).trans hqc
                  have hbw2 : Below w.heap.size w wr.drew := HF.out.2.2.trans (hbz2.mono HF.out.2.2.size)
                  have hkn := law_known wr.drew
                  have HKN := Lib.hid hkn
                  have HBW := Lib.hid hbw2
                  clear f1 f0 f3 f2 hv1 hv0 hbz hbz2 hkn hbw2 hpc hqc
                  go_upto_region 37 with fail
                  go_region_held3 (fun w' => w'.cell? ⟨p, 0, none⟩ = some (.pointer (some ⟨g, 0, none⟩)) ∧ w'.cell? ⟨p2, 0, none⟩ = some (.pointer (some ⟨g_2, 0, none⟩))) (first | exact ⟨hc1, hc2⟩ | exact H9.out.2) (first
                    | (go_at_call 7; with_reducible refine HFF.out.1.mono ?_; rintro e w' ⟨rfl, hw'⟩; rw [hw']; clear hw' w')
                    | (go_at_call 7; with_reducible refine HFF.out.2.1.mono ?_; rintro e w' ⟨rfl, hw'⟩; rw [hw']; clear hw' w')
                    | (go_at_call 7; with_reducible refine HFF.out.2.2.1.mono ?_; rintro e w' ⟨rfl, hw'⟩; rw [hw']; clear hw' w')
                    | (go_at_call 7; with_reducible refine HFF.out.2.2.2.mono ?_; rintro e w' ⟨rfl, hw'⟩; rw [hw']; clear hw' w')
                    | (go_at_call 9; refine HKN.out.mono ?_; rintro e w9 ⟨rfl, hb⟩; have H9 := Lib.hid (And.intro (HBW.out.trans (hb.mono HBW.out.size)) (And.intro ((hb.cell (World.block_lt_of_cell? _ _ hc1)).trans hc1) ((hb.cell (World.block_lt_of_cell? _ _ hc2)).trans hc2))); clear hb)
                    | fail)
                  go_wp2_with fail
                  exact bodyPost_ret (v := .bool true) (by simp [results, Tryz.results5, go_sem]) rfl ⟨rfl, H9.out.1⟩
end Go.Proofs.YtfgkaookgfghoaaGreat
end
