/-
  Joined texts.
-/
import Derived.WideKeyEntry
import Derived.Deep.RegionHeld3
import Derived.Deep.RegionLaw
import Derived.Laws.OwnMore
import Derived.Deep.MidRow
import Derived.Laws.Rows
import Derived.Test.YtcfcfijmfgnpfaaGreatDoorMgk

section
namespace Go.Proofs.YtcfcfijmfgnpfaaGreatDoor
open Go.RowKit Go.Maps Go.Shelf
set_option linter.unusedVariables false
set_option linter.unusedSimpArgs false

set_option maxRecDepth 100000 in
set_option maxHeartbeats 4000000 in
theorem ledger_unholdF {N g gl : Nat} {A : Acc} {M : Cls Int} {w : World} (h : LdAt N g gl A M w) {a b : Int} (hb : isAcc b) (n : Int) :
    Calls Tryz.prog 67 #[.pointer (some ⟨g, 0, none⟩), .int .i64 a, .int .i64 n, .int .i64 b] w fun e w' => e = .returned (.int .i64 (heldM A a n)) ∧ LdAt N g gl (unheld A a n b) M w' ∧ Below N w w' ∧ Off g w w' := by
  by_cases hac : isAcc a
  · have hm0 : heldM A a n = min (max n 0) (A a.toNat).2 := by rw [heldM, if_pos hac]
    have hu0 : unheld A a n b = giveA (takeA A a.toNat (heldM A a n)) b.toNat (heldM A a n) := by rw [unheld, if_pos hac]
    obtain ⟨m, hm⟩ : ∃ m, m = heldM A a n := ⟨_, rfl⟩
    rw [hu0, ← hm]
    rw [← hm] at hm0
    clear hm hu0
    obtain ⟨k, rfl, hk⟩ := isAcc_nat hac
    obtain ⟨j, rfl, hj⟩ := isAcc_nat hb
    rw [Int.toNat_natCast] at hm0 ⊢
    rw [Int.toNat_natCast]
    have h0 : 0 ≤ (A k).2 := h.ok.held k
    have hmn : 0 ≤ m ∧ m ≤ (A k).2 := by omega
    obtain ⟨ok1, sm1⟩ := takeA_ok h.ok hk hmn.1 hmn.2
    have ok2 := giveA_ok ok1 hj hmn.1 (by rw [sm1]; have := h.ok.all; omega)
    have hh := h.held hk
    have hf := h.frozen (k * 2 + 1)
    obtain ⟨u, hu⟩ : ∃ u, u = (A k).2 := ⟨_, rfl⟩
    have hu1 : u ≤ 1073741824 := by have := h.ok.one hk; have := h.ok.free k; unfold both at *; omega
    obtain ⟨w1, hw1⟩ : ∃ w1, w1 = w.setCell ⟨g, k * 2 + 1, none⟩ (.int .i64 (u - m)) := ⟨_, rfl⟩
    have p1 := h.setHeld hk (u - m) (by rw [hu]; exact ok1)
    rw [← hw1] at p1
    have p1' : LdAt N g gl (takeA A k m) M w1 := by unfold takeA; rw [← hu]; exact p1.1
    have hfr := p1'.free hj
    obtain ⟨f, hff⟩ : ∃ f, f = (takeA A k m j).1 := ⟨_, rfl⟩
    have hf0 : 0 ≤ f := by rw [hff]; exact ok1.free j
    have hf1 : f ≤ 1073741824 := by have := ok1.one hj; have := ok1.held j; unfold both at *; omega
    have p2 := p1'.setFree hj (f + m) (by rw [hff]; exact ok2)
    have hfz := p1'.frozen (j * 2)
    have hn1 : IntKind.i64.wrap (u - m) = u - m := IntWalk.i64_in _ (by omega)
    have hn2 : IntKind.i64.wrap (f + m) = f + m := IntWalk.i64_in _ (by omega)
    have hmm : min (max n 0) u = m := by rw [hu]; exact hm0.symm
    rw [← hu] at hh
    rw [← hff] at hfr
    have hend : LdAt N g gl (giveA (takeA A k m) j m) M (w1.setCell ⟨g, j * 2, none⟩ (.int .i64 (f + m))) ∧ Below N w (w1.setCell ⟨g, j * 2, none⟩ (.int .i64 (f + m))) ∧ Off g w (w1.setCell ⟨g, j * 2, none⟩ (.int .i64 (f + m))) := ⟨by unfold giveA; rw [← hff]; exact p2.1, p1.2.trans p2.2, (show Off g w w1 by rw [hw1]; exact Off.set).trans (by rw [hw1]; simp [World.setCell]) Off.set⟩
    have HE := Lib.hid hend
    have HK := Lib.hid (And.intro hk hj)
    have HW1 := Lib.hid hw1
    have HFR := Lib.hid (And.intro hfr hfz)
    clear h hac hb hm0 hk hj h0 hmn ok1 sm1 ok2 hu p1 p1' hff p2 hend hw1 hfr hfz
    go_enter Tryz.func67, Tryz.ntmps67
    go_upto_region 6 with (first
      | (go_at_call 53; refine (ledger_account HK.out.1 _).mono ?_; rintro e w' ⟨rfl, hw⟩; rw [hw]; clear hw w')
      | fail)
    rw [← HW1.out]
    obtain ⟨hfr, hfz⟩ := HFR.out
    clear hf hh
    go_wp2_with (first
      | (go_at_call 53; refine (ledger_account HK.out.2 _).mono ?_; rintro e w' ⟨rfl, hw⟩; rw [hw]; clear hw w')
      | fail)
    go_ret
    exact ⟨rfl, HE.out⟩
  · have e1 : heldM A a n = 0 := by rw [heldM, if_neg hac]
    have e2 : unheld A a n b = A := by rw [unheld, if_neg hac]
    have HH := Lib.hid (And.intro h hac)
    rw [e1, e2]
    clear h hb hac e1 e2
    go_enter Tryz.func67, Tryz.ntmps67
    go_wp2_with (first
      | (go_at_call 53; refine (ledger_account_no HH.out.2 _).mono ?_; rintro e w' ⟨rfl, hw⟩; rw [hw]; clear hw w')
      | fail)
    exact bodyPost_ret (v := .int .i64 0) (by simp [results, Tryz.results67, go_sem]) rfl ⟨rfl, HH.out.1, Below.refl _ _, Off.refl _ _⟩
section
variable {N g gl : Nat} {A : Acc} {M : Cls Int} {w : World}
set_option maxRecDepth 100000 in
theorem ledger_ReleaseF (h : LdAt N g gl A M w) (a n : Int) : Calls Tryz.prog 50 #[.pointer (some ⟨g, 0, none⟩), .int .i64 a, .int .i64 n] w fun e w' => e = .returned (.int .i64 (heldM A a n)) ∧ LdAt N g gl (unheld A a n a) M w' ∧ Below N w w' ∧ Off g w w' := by
  have hu : Calls Tryz.prog 67 #[.pointer (some ⟨g, 0, none⟩), .int .i64 a, .int .i64 n, .int .i64 a] w fun e w' => e = .returned (.int .i64 (heldM A a n)) ∧ LdAt N g gl (unheld A a n a) M w' ∧ Below N w w' ∧ Off g w w' := by
    by_cases ha : isAcc a
    · exact ledger_unholdF h ha n
    · have e1 : heldM A a n = 0 := by rw [heldM, if_neg ha]
      have HH := Lib.hid (And.intro h ha)
      rw [e1, unheld_noacc ha]
      clear h ha e1
      go_enter Tryz.func67, Tryz.ntmps67
      go_wp2_with (first
        | (go_at_call 53; refine (ledger_account_no HH.out.2 _).mono ?_; rintro e w' ⟨rfl, hw⟩; rw [hw]; clear hw w')
        | fail)
      exact bodyPost_ret (v := .int .i64 0) (by simp [results, Tryz.results67, go_sem]) rfl ⟨rfl, HH.out.1, Below.refl _ _, Off.refl _ _⟩
  have HH := Lib.hid hu
  clear h hu
  go_enter Tryz.func50, Tryz.ntmps50
  go_wp2_with (first | (go_at_call 67; refine HH.out.mono ?_; rintro e w1 ⟨rfl, h1⟩; have H1 := Lib.hid h1; clear h1) | fail)
  go_ret
  exact ⟨rfl, H1.out⟩
end
section
variable {g N : Nat} {A : Acc} {M : Cls Int} {FL : FP} {w w' : World}
theorem LdX.toF (h : LdX g N A M FL w) {A' : Acc} {E : Int} {e : Ending} {w' : World} {gl : Nat} (hg : w.cell? ⟨g, 20, none⟩ = some (.pointer (some ⟨gl, 0, none⟩))) (h' : e = .returned (.int .i64 E) ∧ LdAt N g gl A' M w' ∧ Below N w w' ∧ Off g w w') : e = .returned (.int .i64 E) ∧ LdTo g N A' M FL w w' := by
  obtain ⟨gl', F, h1, hF, hF2, h4, h5, h6, h7⟩ := h
  have h0 : LdAt N g gl' A M w := ⟨h1, ⟨F, hF, hF2⟩, h4, h5, h6⟩
  obtain rfl : gl' = gl := by have := h0.ptr; rw [hg] at this; injection this with q; injection q with q; injection q with q; injection q with q; exact q.symm
  obtain ⟨he, k1, k2, k3⟩ := h'
  exact ⟨he, FL, ⟨gl', F, k1.blk, hF.keep (Grow.of_below k2) (fun k hk => k3 k (hF.2.2.1 k hk) (hF2 k hk).2), hF2, h4, k1.ok, h6, h7⟩, fun k hk => .inl hk, Grow.of_below k2, fun k hk h8 h9 => k3 k hk (fun e => h8 ((h7 k).2 (.inl e)))⟩
theorem ledger_ReserveX (h : LdX g N A M FL w) {a : Int} (ha : (Lit.int .i64 a).wf = true) (n : Int) : Calls Tryz.prog 46 #[.pointer (some ⟨g, 0, none⟩), .int .i64 a, .int .i64 n] w fun e w' => e = .returned (.int .i64 (spendE A M a n false)) ∧ LdTo g N (reserveA A M a n) M FL w w' := by
  obtain ⟨gl, h0⟩ := h.at
  exact (ledger_ReserveF h0 h.size ha n).mono fun e w' h' => h.toF h0.ptr h'
theorem ledger_ReleaseX (h : LdX g N A M FL w) (a n : Int) : Calls Tryz.prog 50 #[.pointer (some ⟨g, 0, none⟩), .int .i64 a, .int .i64 n] w fun e w' => e = .returned (.int .i64 (heldM A a n)) ∧ LdTo g N (unheld A a n a) M FL w w' := by
  obtain ⟨gl, h0⟩ := h.at
  exact (ledger_ReleaseF h0 a n).mono fun e w' h' => h.toF h0.ptr h'
theorem ledger_IssuedX (h : LdX g N A M FL w) : Calls Tryz.prog 40 #[.pointer (some ⟨g, 0, none⟩)] w fun e w' => e = .returned (.int .i64 (sumTo A 10)) ∧ Below w.heap.size w w' := by
  obtain ⟨gl, h0⟩ := h.at
  exact ledger_Issued h0
theorem ledger_HeldX (h : LdX g N A M FL w) (a : Int) : Calls Tryz.prog 32 #[.pointer (some ⟨g, 0, none⟩), .int .i64 a] w fun e w' => e = .returned (.int .i64 (accOf A a).2) ∧ w' = w := by
  obtain ⟨gl, h0⟩ := h.at
  exact ledger_Held h0 a
end
end Go.Proofs.YtcfcfijmfgnpfaaGreatDoor
end

section
namespace Go.Proofs.YtcfcfijmfgnpfaaGreatDoor
open Go.RowKit
set_option linter.unusedVariables false
set_option linter.unusedSimpArgs false

/-- What may lie in the blocks of F, and depends on these alone. -/
structure Mem where
  is : FP → World → Prop
  keep : ∀ {F w w'}, is F w → Grow w w' → (∀ k, F k → w'.heap[k]? = w.heap[k]?) → is F w'
  lt : ∀ {F w k}, is F w → F k → k < w.heap.size
/-- From w to w' it has become m; nothing else was written. -/
def Mem.to (m : Mem) (F : FP) (w w' : World) : Prop := ∃ F', m.is F' w' ∧ (∀ k, F' k → F k ∨ w.heap.size ≤ k) ∧ Only F (fun _ => False) w w'
section
variable {m n m' n' : Mem} {F G : FP} {w w' w1 : World}
theorem Mem.below (h : m.is F w) (hb : Below w.heap.size w w') : m.is F w' := m.keep h (Grow.of_below hb) (fun k hk => hb.block k (m.lt h hk))
theorem Mem.to_below (h : m.is F w) (hb : Below w.heap.size w w') : m.to F w w' := ⟨F, m.below h hb, fun k hk => .inl hk, Only.of_later hb⟩
theorem Mem.only_trans {Ψ Ψ' : FP} {A B C : World} (h : Only Ψ (fun _ => False) A B) (k : Only Ψ' (fun _ => False) B C) (hΨ : ∀ j, Ψ' j → Ψ j ∨ A.heap.size ≤ j) : Only Ψ (fun _ => False) A C :=
  ⟨h.grow.trans k.grow, fun j hj h1 h2 => (k.block j (Nat.lt_of_lt_of_le hj h.grow.size) (fun q => (hΨ j q).elim h1 (fun e => by omega)) h2).trans (h.block j hj h1 h2)⟩
theorem Mem.to_then (h : ∃ F', m.is F' w1 ∧ (∀ k, F' k → F k ∨ w.heap.size ≤ k) ∧ Only F (fun _ => False) w w1 ∧ m'.to F' w1 w') : m'.to F w w' := by
  obtain ⟨F1, h1, h2, h3, F2, k1, k2, k3⟩ := h
  refine ⟨F2, k1, fun k hk => ?_, Mem.only_trans h3 k3 h2⟩
  rcases k2 k hk with e | e
  · exact h2 k e
  · exact .inr (Nat.le_trans h3.grow.size e)
/-- Then nothing but new blocks. -/
theorem Mem.to_then_below (h : m.to F w w1) (hb : Below w1.heap.size w1 w') : m.to F w w' := by
  obtain ⟨F1, h1, h2, h3⟩ := h
  exact ⟨F1, m.below h1 hb, h2, Mem.only_trans h3 (Ψ' := fun _ => False) (Only.of_later hb) (fun _ q => q.elim)⟩
/-- New blocks first. -/
theorem Mem.to_later (hb : Below w.heap.size w w1) (h : m.to F w1 w') : m.to F w w' := by
  obtain ⟨F1, h1, h2, h3⟩ := h
  refine ⟨F1, h1, fun k hk => (h2 k hk).imp id (fun e => Nat.le_trans hb.size e), ⟨(Grow.of_below hb).trans h3.grow, fun j hj k1 k2 => (h3.block j (Nat.lt_of_lt_of_le hj hb.size) k1 k2).trans (hb.block j hj)⟩⟩
/-- Two things, apart. -/
def Mem.star (m n : Mem) : Mem where
  is F w := ∃ A B : FP, m.is A w ∧ n.is B w ∧ (∀ k, A k → ¬ B k) ∧ ∀ k, F k ↔ A k ∨ B k
  keep := by
    rintro F w w' ⟨A, B, h1, h2, h3, h4⟩ hg hk
    exact ⟨A, B, m.keep h1 hg (fun k q => hk k ((h4 k).2 (.inl q))), n.keep h2 hg (fun k q => hk k ((h4 k).2 (.inr q))), h3, h4⟩
  lt := by
    rintro F w k ⟨A, B, h1, h2, h3, h4⟩ hk
    exact ((h4 k).1 hk).elim (m.lt h1) (n.lt h2)
theorem Mem.l (h : (m.star n).is F w) : ∃ A, m.is A w ∧ (∀ k, A k → F k) ∧ ∀ m' w', Mem.to m' A w w' → Mem.to (m'.star n) F w w' := by
  obtain ⟨A, B, h1, h2, h3, h4⟩ := h
  refine ⟨A, h1, fun k q => (h4 k).2 (.inl q), fun m' w' ht => ?_⟩
  obtain ⟨A', k1, k2, k3⟩ := ht
  refine ⟨fun k => A' k ∨ B k, ⟨A', B, k1, n.keep h2 k3.grow (fun k q => k3.block k (n.lt h2 q) (fun p => h3 k p q) (fun p => p)), fun k q p => ?_, fun k => Iff.rfl⟩, fun k q => ?_, k3.grow, fun j hj p1 p2 => k3.block j hj (fun p => p1 ((h4 j).2 (.inl p))) p2⟩
  · rcases k2 k q with e | e
    · exact h3 k e p
    · have := n.lt h2 p; omega
  · rcases q with q | q
    · exact (k2 k q).imp (fun e => (h4 k).2 (.inl e)) id
    · exact .inl ((h4 k).2 (.inr q))
theorem Mem.comm (h : (m.star n).is F w) : (n.star m).is F w := by
  obtain ⟨A, B, h1, h2, h3, h4⟩ := h
  exact ⟨B, A, h2, h1, fun k p q => h3 k q p, fun k => (h4 k).trans Or.comm⟩
theorem Mem.to_comm (h : (m.star n).to F w w') : (n.star m).to F w w' := by
  obtain ⟨A, h1, h2, h3⟩ := h
  exact ⟨A, Mem.comm h1, h2, h3⟩
theorem Mem.r (h : (m.star n).is F w) : ∃ B, n.is B w ∧ (∀ k, B k → F k) ∧ ∀ n' w', Mem.to n' B w w' → Mem.to (m.star n') F w w' := by
  obtain ⟨B, h1, h2, h3⟩ := Mem.l (Mem.comm h)
  exact ⟨B, h1, h2, fun n' w' ht => Mem.to_comm (h3 n' w' ht)⟩
/-- Put beside. -/
theorem Mem.join {A B : FP} (h1 : m.is A w) (h2 : n.is B w) (h3 : ∀ k, A k → ¬ B k) : (m.star n).is (fun k => A k ∨ B k) w := ⟨A, B, h1, h2, h3, fun k => Iff.rfl⟩
/-- What is new lies beside what was there. -/
theorem Mem.join_new {A B : FP} (h1 : m.is A w) (hb : Below w.heap.size w w') (h2 : n.is B w') (hB : ∀ k, B k → w.heap.size ≤ k) : (m.star n).is (fun k => A k ∨ B k) w' :=
  Mem.join (m.below h1 hb) h2 (fun k p q => by have := m.lt h1 p; have := hB k q; omega)
/-- What a block holds. -/
def Mem.one (b : Nat) (o : Obj) : Mem where
  is F w := (∀ k, F k ↔ k = b) ∧ w.heap[b]? = some o
  keep := by
    rintro F w w' ⟨h1, h2⟩ hg hk
    exact ⟨h1, (hk b ((h1 b).2 rfl)).trans h2⟩
  lt := by
    rintro F w k ⟨h1, h2⟩ hk
    rw [(h1 k).1 hk]
    exact (Array.getElem?_eq_some_iff.1 h2).1
theorem Mem.one_new (w : World) (o : Obj) : (Mem.one w.heap.size o).is (fun k => k = w.heap.size) (w.alloc o) := ⟨fun k => Iff.rfl, World.alloc_heap_new _ _⟩
/-- What is kept of a world: the blocks of Z. -/
def Mem.stay (w0 : World) (Z : FP) : Mem where
  is F w := (∀ k, F k ↔ Z k) ∧ ∀ k, Z k → k < w.heap.size ∧ w.heap[k]? = w0.heap[k]?
  keep := by
    rintro F w w' ⟨h1, h2⟩ hg hk
    exact ⟨h1, fun k hz => ⟨Nat.lt_of_lt_of_le (h2 k hz).1 hg.size, (hk k ((h1 k).2 hz)).trans (h2 k hz).2⟩⟩
  lt := by
    rintro F w k ⟨h1, h2⟩ hk
    exact (h2 k ((h1 k).1 hk)).1
theorem Mem.to_low {N : Nat} (h : m.to F w w') (hN : N ≤ w.heap.size) (hF : ∀ k, F k → N ≤ k) : Below N w w' := by
  obtain ⟨A, h1, h2, h3⟩ := h
  exact h3.below hN hF (fun k q => q.elim)
theorem Mem.to_keeps (h : m.to F w w') {k : Nat} (hk : k < w.heap.size) (hF : ¬ F k) : w'.heap[k]? = w.heap[k]? := by
  obtain ⟨A, h1, h2, h3⟩ := h
  exact h3.block k hk hF (fun q => q)
end
end Go.Proofs.YtcfcfijmfgnpfaaGreatDoor
end

section
namespace Go.Proofs.YtcfcfijmfgnpfaaGreatDoor
open Go.RowKit Go.Maps
set_option linter.unusedVariables false
set_option linter.unusedSimpArgs false

/-- A ledger in memory. -/
def ldM (g : Nat) (A : Acc) (M : Cls Int) : Mem where
  is F w := LdX g 0 A M F w
  keep h hg hk := h.keep hg hk
  lt h hk := h.lt hk
theorem outL_lt (h : List Nat) : ∀ x ∈ outL h, x < 256 := by
  intro x hx
  unfold outL at hx
  obtain ⟨i, -, rfl⟩ := List.mem_map.1 hx
  exact Nat.mod_lt _ (by decide)
/-- A call's digest. -/
def dgOf (c : Cl) : Dg := ⟨keyedL [] (sumT c), outL_len _, outL_lt _⟩
theorem numL_pos (n : Nat) : 0 < (numL n).length := by
  unfold numL
  split
  · simp [lowL_length]
  · split
    · simp [lowL_length]
    · split
      · simp [lowL_length]
      · simp
theorem layT_pos (c : Cl) : 0 < (layT c).length := by
  obtain ⟨k, t, n, l⟩ := c
  rw [layT, List.length_append]
  have h : 0 < (numsL [k, t, n, (l.length : Int)]).length := by
    rw [numsL, List.length_append]
    have := numL_pos (heldN k)
    omega
  omega
/-- A block of bytes. -/
def U8At (w : World) (k : Nat) : Prop := ∃ x, w.cell? ⟨k, 0, none⟩ = some (.int .u8 x)
theorem U8At.noMap {w : World} {k : Nat} (h : U8At w k) {es : Array MapEntry} {clock : Nat} (e : w.heap[k]? = some (.map es clock)) : False := by
  obtain ⟨x, hx⟩ := h
  rw [World.cell?, e] at hx; cases hx
/-- What is noted at a digest lies there. -/
structure NtOk (F : FP) (w : World) (x : Nt) (q : Int × Cl) : Prop where
  who : x.who = q.1
  ok : okC 3 q.2 = true
  at_ : ∃ g, x.b = some g ∧ F g ∧ RdB w x.v (layT q.2)
theorem NtOk.cells {F : FP} {w : World} {x : Nt} {q : Int × Cl} (h : NtOk F w x q) : ∃ g, x.b = some g ∧ F g ∧ g < w.heap.size ∧ U8At w g ∧ ∀ w', w'.heap[g]? = w.heap[g]? → RdB w' x.v (layT q.2) := by
  obtain ⟨g, hb, hF, hr⟩ := h.at_
  have hp := layT_pos q.2
  have hr0 := hr
  rcases hr with ⟨-, e⟩ | ⟨a, cap, hv, hc, hcell⟩
  · rw [e] at hp; simp at hp
  · unfold Nt.v at hv
    rw [hb] at hv
    simp only [Option.map_some, Value.slice.injEq, Option.some.injEq] at hv
    obtain ⟨rfl, hn, hcp⟩ := hv
    have hadd : ∀ i, (⟨g, 0, none⟩ : Addr).add i = ⟨g, i, none⟩ := fun i => by simp [Addr.add]; omega
    have h0 := hcell 0 hp
    have hlt : g < w.heap.size := by
      have := cell_block h0
      exact this
    rw [hadd] at h0
    refine ⟨g, hb, hF, hlt, ⟨_, h0⟩, fun w' hk => ?_⟩
    · rcases hr0 with h | ⟨a, cap', hv, hc, hcell'⟩
      · exact .inl h
      · refine .inr ⟨a, cap', hv, hc, fun i hi => ?_⟩
        unfold Nt.v at hv
        rw [hb] at hv
        simp only [Option.map_some, Value.slice.injEq, Option.some.injEq] at hv
        obtain ⟨rfl, -, -⟩ := hv
        have := hcell' i hi
        rw [hadd] at this ⊢
        exact (World.cell?_of_block (a := ⟨g, i, none⟩) hk).trans this
theorem NtOk.keep {F F' : FP} {w w' : World} {x : Nt} {q : Int × Cl} (h : NtOk F w x q) (hF : ∀ k, F k → k < w.heap.size → U8At w k → F' k ∧ w'.heap[k]? = w.heap[k]?) : NtOk F' w' x q := by
  obtain ⟨g, h1, h2, h3, h4, h5⟩ := h.cells
  obtain ⟨h6, h7⟩ := hF g h2 h3 h4
  exact ⟨h.who, h.ok, g, h1, h6, h5 w' h7⟩
def NtRel (F : FP) (w : World) (m : List (Dg × Nt)) (P : List (Dg × (Int × Cl))) : Prop :=
  SrtD P ∧ ∀ d, (dget m d = none ↔ dget P d = none) ∧ ∀ x q, dget m d = some x → dget P d = some q → NtOk F w x q
theorem NtRel.keep {F F' : FP} {w w' : World} {m : List (Dg × Nt)} {P : List (Dg × (Int × Cl))} (h : NtRel F w m P) (hF : ∀ k, F k → k < w.heap.size → U8At w k → F' k ∧ w'.heap[k]? = w.heap[k]?) : NtRel F' w' m P :=
  ⟨h.1, fun d => ⟨(h.2 d).1, fun x q hx hq => ((h.2 d).2 x q hx hq).keep hF⟩⟩
theorem NtRel.who {F : FP} {w : World} {m : List (Dg × Nt)} {P : List (Dg × (Int × Cl))} (hs : SrtD m) (h : NtRel F w m P) : whoL m = P.map fun x => (x.1, x.2.1) := by
  have s1 : SrtD (whoL m) := List.pairwise_map.2 hs
  have s2 : SrtD (P.map fun x => (x.1, x.2.1)) := List.pairwise_map.2 h.1
  refine s1.ext s2 (fun y => ?_)
  unfold whoL
  simp only [List.mem_map]
  constructor
  · rintro ⟨x, hx, rfl⟩
    have h1 := hs.get.2 (show (x.1, x.2) ∈ m from hx)
    cases hq : dget P x.1 with
    | none => rw [(h.2 x.1).1.2 hq] at h1; cases h1
    | some q => exact ⟨(x.1, q), dget_mem hq, by rw [((h.2 x.1).2 _ _ h1 hq).who]⟩
  · rintro ⟨x, hx, rfl⟩
    have h1 := h.1.get.2 (show (x.1, x.2) ∈ P from hx)
    cases hq : dget m x.1 with
    | none => rw [(h.2 x.1).1.1 hq] at h1; cases h1
    | some q => exact ⟨(x.1, q), dget_mem hq, by rw [((h.2 x.1).2 _ _ hq h1).who]⟩
theorem NtRel.len {F : FP} {w : World} {m : List (Dg × Nt)} {P : List (Dg × (Int × Cl))} (hs : SrtD m) (h : NtRel F w m P) : m.length = P.length := by
  have := congrArg List.length (h.who hs)
  simpa [whoL] using this
/-- What is noted, and what is wanted. -/
structure PrAt (pb : Nat) (P : List (Dg × (Int × Cl))) (U : List (Dg × Int)) (F : FP) (o o2 : Option Nat) (m : List (Dg × Nt)) (w : World) : Prop where
  blk : w.heap[pb]? = some (.cells #[.map o, .map o2] 94 (0, 0))
  mo : MapO codNt o m w
  mu : MapO codI o2 U w
  rel : NtRel F w m P
  fo : ∀ b, o = some b → F b
  fu : ∀ b, o2 = some b → F b
  ne : ∀ b, o = some b → o2 ≠ some b
  own : F pb
  lt : ∀ k, F k → k < w.heap.size
section
variable {pb : Nat} {P : List (Dg × (Int × Cl))} {U : List (Dg × Int)} {F : FP} {o o2 : Option Nat} {m : List (Dg × Nt)} {w w' : World}
theorem PrAt.keep (h : PrAt pb P U F o o2 m w) (hs : w.heap.size ≤ w'.heap.size) (hk : ∀ k, F k → w'.heap[k]? = w.heap[k]?) : PrAt pb P U F o o2 m w' :=
  ⟨(hk pb h.own).trans h.blk, h.mo.keep (fun b e => hk b (h.fo b e)), h.mu.keep (fun b e => hk b (h.fu b e)), h.rel.keep (fun k hF _ _ => ⟨hF, hk k hF⟩), h.fo, h.fu, h.ne, h.own, fun k hF => Nat.lt_of_lt_of_le (h.lt k hF) hs⟩
theorem PrAt.c0 (h : PrAt pb P U F o o2 m w) : w.cell? ⟨pb, 0, none⟩ = some (.map o) := by rw [World.cell?, h.blk]; rfl
theorem PrAt.c1 (h : PrAt pb P U F o o2 m w) : w.cell? ⟨pb, 1, none⟩ = some (.map o2) := by rw [World.cell?, h.blk]; rfl
theorem PrAt.fz (h : PrAt pb P U F o o2 m w) (i : Nat) : w.frozen? ⟨pb, i, none⟩ = false := by simp [World.frozen?, h.blk]
theorem MapO.notCells {β : Type} {c : Cod β} {o : Option Nat} {l : List (Dg × β)} (h : MapO c o l w) {b : Nat} (e : o = some b) : ∃ es clock, w.heap[b]? = some (.map es clock) := by
  rcases h with ⟨rfl, -⟩ | ⟨b', e', h⟩
  · cases e
  · rw [e'] at e; cases e; exact h.isMap
theorem PrAt.pbNe (h : PrAt pb P U F o o2 m w) : (∀ b, o = some b → b ≠ pb) ∧ (∀ b, o2 = some b → b ≠ pb) := by
  constructor
  · intro b e q
    obtain ⟨es, clock, hh⟩ := h.mo.notCells e
    rw [q, h.blk] at hh; cases hh
  · intro b e q
    obtain ⟨es, clock, hh⟩ := h.mu.notCells e
    rw [q, h.blk] at hh; cases hh
end
def prM (pb : Nat) (P : List (Dg × (Int × Cl))) (U : List (Dg × Int)) : Mem where
  is F w := ∃ o o2 m, PrAt pb P U F o o2 m w
  keep := by
    rintro F w w' ⟨o, o2, m, h⟩ hg hk
    exact ⟨o, o2, m, h.keep hg.size hk⟩
  lt := by
    rintro F w k ⟨o, o2, m, h⟩ hk
    exact h.lt k hk
/-- The wanted map written. -/
theorem PrAt.setU {pb : Nat} {P : List (Dg × (Int × Cl))} {U U' : List (Dg × Int)} {F : FP} {o o2 : Option Nat} {m : List (Dg × Nt)} {w w' : World} {b : Nat} (h : PrAt pb P U F o o2 m w) (hb : o2 = some b) (hm : MapD codI b U' w') (hg : w.grownBy w' (some b)) : (prM pb P U').to F w w' := by
  have hbne := h.pbNe.2 b hb
  refine ⟨F, ⟨o, o2, m, ⟨(hg.block pb (h.lt pb h.own) (fun e => by cases e; exact hbne rfl)).trans h.blk, h.mo.keep (fun b' e => hg.block b' (h.mo.lt e) (fun q => by cases q; exact h.ne b e hb)), .inr ⟨b, hb, hm⟩, h.rel.keep (fun k hF hk hn => ⟨hF, hg.block k hk (fun q => by cases q; obtain ⟨es, cl, hh⟩ := h.mu.notCells hb; exact (hn.noMap hh).elim)⟩), h.fo, h.fu, h.ne, h.own, fun k hF => Nat.lt_of_lt_of_le (h.lt k hF) hg.size⟩⟩, fun k hF => .inl hF, ⟨⟨hg.os, hg.tape, hg.output, hg.size⟩, fun k hk h1 _ => hg.block k hk (fun q => by cases q; exact h1 (h.fu b hb))⟩⟩
/-- The notes' map written, nothing new noted. -/
theorem PrAt.setM {pb : Nat} {P P' : List (Dg × (Int × Cl))} {U : List (Dg × Int)} {F : FP} {o o2 : Option Nat} {m m' : List (Dg × Nt)} {w w' : World} {b : Nat} (h : PrAt pb P U F o o2 m w) (hb : o = some b) (hm : MapD codNt b m' w') (hr : NtRel F w m' P') (hg : w.grownBy w' (some b)) : (prM pb P' U).to F w w' := by
  have hbne := h.pbNe.1 b hb
  refine ⟨F, ⟨o, o2, m', ⟨(hg.block pb (h.lt pb h.own) (fun e => by cases e; exact hbne rfl)).trans h.blk, .inr ⟨b, hb, hm⟩, h.mu.keep (fun b' e => hg.block b' (h.mu.lt e) (fun q => by cases q; exact h.ne b hb e)), hr.keep (fun k hF hk hn => ⟨hF, hg.block k hk (fun q => by cases q; obtain ⟨es, cl, hh⟩ := h.mo.notCells hb; exact (hn.noMap hh).elim)⟩), h.fo, h.fu, h.ne, h.own, fun k hF => Nat.lt_of_lt_of_le (h.lt k hF) hg.size⟩⟩, fun k hF => .inl hF, ⟨⟨hg.os, hg.tape, hg.output, hg.size⟩, fun k hk h1 _ => hg.block k hk (fun q => by cases q; exact h1 (h.fo b hb))⟩⟩
/-- An entry made ready: what stood there is still found, or what is nothing; then it is written. -/
theorem MapD.entry {β : Type} {c : Cod β} {b : Nat} {m : List (Dg × β)} {w : World} {t e : TypeId} {z0 : β} (h : MapD c b m w) (ht : Tryz.prog.underlying t = some (.map 41 e)) (hz : ∀ w, (zeroValue e).run Tryz.prog w = .ok (c.enc z0) w) (hn : m.length < maxLen) (k : Dg) :
    ∃ (v0 : Value) (st : Nat) (w1 : World), (Instr.mapEntry t (.map (some b)) (dv k)).run Tryz.prog w = .ok (.tuple #[v0, .int .i64 st]) w1 ∧ w.grownBy w1 (some b) ∧ w1.heap.size = w.heap.size ∧
      (Instr.lookup t (.map (some b)) (dv k) false).run Tryz.prog w1 = .ok (c.enc ((dget m k).getD z0)) w1 ∧
      ∀ v, ∃ w2, (Instr.entryStore t (.map (some b)) (.int .i64 st) (c.enc v)).run Tryz.prog w1 = .ok () w2 ∧ MapD c b (dput m k v) w2 ∧ w.grownBy w2 (some b) ∧ w2.heap.size = w.heap.size := by
  have hst := fun v => h.store ht hn k v
  have hlk := h.look ht (hz w) k
  have hh := h
  obtain ⟨n, D, ho, h1, h2⟩ := h.own
  obtain ⟨es, clock, hb, Fi, hs, rfl⟩ := ho
  obtain ⟨v0, st, es1, clock1, hr1, hv, hr2⟩ := Go.WideElems.entry_then_store lawH ht hz hb Fi (keyD k)
  have hlt : b < w.heap.size := (Array.getElem?_eq_some_iff.1 hb).1
  have hg : ∀ es' cl', w.grownBy (Go.ChangeMaps.setBlock w b (.map es' cl')) (some b) := fun es' cl' => ⟨rfl, rfl, rfl, by simp [Go.ChangeMaps.setBlock], fun j hj hne => by
    simp only [Go.ChangeMaps.setBlock]
    rw [Array.getElem?_setIfInBounds_ne]
    intro q; exact hne (by rw [q])⟩
  have hl1 : (Instr.lookup t (.map (some b)) (dv k) false).run Tryz.prog (Go.ChangeMaps.setBlock w b (.map es1 clock1)) = .ok (c.enc ((dget m k).getD z0)) (Go.ChangeMaps.setBlock w b (.map es1 clock1)) := by
    rcases keyedH.find w (keyD k) es.toList Fi.keys with ⟨q1, q2⟩ | ⟨j, e0, q1, q2, q3⟩
    · have e1 : (Instr.lookup t (.map (some b)) (dv k) false).run Tryz.prog w = .ok (c.enc z0) w := by simp [Instr.lookup, run_underlying ht, MapKept.run_getObj_map hb, keyedH.check w _ (keyD k), q1, hz, Result.andThen]
      rw [e1] at hlk
      have ez : c.enc z0 = c.enc ((dget m k).getD z0) := by simpa using hlk
      obtain ⟨w', p1, p2, p3, p4⟩ := hst z0
      have e2 : (Instr.mapEntry t (.map (some b)) (dv k)).run Tryz.prog w = .ok (.tuple #[c.enc z0, goInt clock]) (Go.ChangeMaps.setBlock w b (.map (es.push ⟨dv k, c.enc z0, clock⟩) (clock + 1))) := by
        simp [Instr.mapEntry, run_underlying ht, MapKept.run_getObj_map hb, keyedH.check w false (keyD k), q1, hz, MapKept.run_setObj_map _ hb, Result.andThen, Go.ChangeMaps.setBlock]
      have e3 : (Instr.mapUpdate t (.map (some b)) (dv k) (c.enc z0)).run Tryz.prog w = .ok () (Go.ChangeMaps.setBlock w b (.map (es.push ⟨dv k, c.enc z0, clock⟩) (clock + 1))) := by
        simp [Instr.mapUpdate, run_underlying ht, MapKept.run_getObj_map hb, keyedH.check w false (keyD k), q1, MapKept.run_setObj_map _ hb, Result.andThen, Go.ChangeMaps.setBlock]
      rw [e2] at hr1
      have ew : Go.ChangeMaps.setBlock w b (.map (es.push ⟨dv k, c.enc z0, clock⟩) (clock + 1)) = Go.ChangeMaps.setBlock w b (.map es1 clock1) := by injection hr1
      rw [e3] at p1
      have ep : Go.ChangeMaps.setBlock w b (.map (es.push ⟨dv k, c.enc z0, clock⟩) (clock + 1)) = w' := by injection p1
      have hl := p2.look ht (hz w') k
      rw [hh.srt.get_put, if_pos rfl, Option.getD_some, ez] at hl
      rw [← ew, ep]
      exact hl
    · have hj : es[j]? = some e0 := by simpa using q2
      have hsame : es.modify j (fun e => { e with key := dv k }) = es := by
        apply Array.ext'
        rw [Array.toList_modify, Go.ChangeMaps.modify_eq_set _ _ _ _ q2]
        have : ({ e0 with key := dv k } : MapEntry) = e0 := by rw [← q3]
        rw [this]
        exact Go.WideElems.set_self _ _ _ q2
      have e2 : (Instr.mapEntry t (.map (some b)) (dv k)).run Tryz.prog w = .ok (.tuple #[e0.val, goInt e0.born]) (Go.ChangeMaps.setBlock w b (.map es clock)) := by
        simp [Instr.mapEntry, run_underlying ht, MapKept.run_getObj_map hb, keyedH.check w false (keyD k), q1, hj, q3, keyedH.stays w (keyD k), hsame, MapKept.run_setObj_map _ hb, Result.andThen, Go.ChangeMaps.setBlock]
      rw [e2] at hr1
      have ew : Go.ChangeMaps.setBlock w b (.map es clock) = Go.ChangeMaps.setBlock w b (.map es1 clock1) := by injection hr1
      rw [← ew]
      exact (hh.block (w' := Go.ChangeMaps.setBlock w b (.map es clock)) (by rw [Go.ChangeMaps.heap_setBlock_same hb, hb])).look ht (hz _) k
  refine ⟨v0, st, _, hr1, hg _ _, by simp [Go.ChangeMaps.setBlock], hl1, fun v => ?_⟩
  obtain ⟨es', cl', e1, e2⟩ := hr2 _ (c.enc v) (Go.ChangeMaps.heap_setBlock_same hb _)
  obtain ⟨w', q1, q2, q3, q4⟩ := hst v
  rw [e2] at q1
  have : w' = Go.ChangeMaps.setBlock w b (.map es' cl') := by cases q1; rfl
  have hss : Go.ChangeMaps.setBlock (Go.ChangeMaps.setBlock w b (.map es1 clock1)) b (.map es' cl') = Go.ChangeMaps.setBlock w b (.map es' cl') := by simp [Go.ChangeMaps.setBlock]
  refine ⟨_, e1, ?_, ?_, ?_⟩
  · rw [hss, ← this]; exact q2
  · rw [hss, ← this]; exact q3
  · rw [hss, ← this]; exact q4
end Go.Proofs.YtcfcfijmfgnpfaaGreatDoor
end

section
namespace Go.Proofs.YtcfcfijmfgnpfaaGreatDoor
open Go.RowKit Go.Maps
set_option linter.unusedVariables false
set_option linter.unusedSimpArgs false

def wantN (U : List (Dg × Int)) (d : Dg) : Int := (dget U d).getD 0
theorem pre_New (w : World) : Calls Tryz.prog 13 #[] w fun e w' => e = .returned (.pointer (some ⟨w.heap.size, 0, none⟩)) ∧ w' = w.alloc (.cells #[.map none, .map none] 94) := by
  go_enter Tryz.func13, Tryz.ntmps13
  go_wp2
  go_ret
  exact ⟨rfl, rfl⟩
theorem prM_new (w : World) : (prM w.heap.size [] []).is (fun k => k = w.heap.size) (w.alloc (.cells #[.map none, .map none] 94)) :=
  ⟨none, none, [], ⟨World.alloc_heap_new _ _, .inl ⟨rfl, rfl⟩, .inl ⟨rfl, rfl⟩, ⟨List.Pairwise.nil, fun d => ⟨by simp [dget], fun x q h => by simp [dget] at h⟩⟩, (fun b e => by cases e), (fun b e => by cases e), (fun b e => by cases e), rfl, (fun k hk => by subst hk; simp)⟩⟩
theorem infoHD (d : Dg) : (Tryz.prog.info? 41).map (·.size) = some (Bs d.s).length := by rw [d.blen]; kernel_rfl
theorem hash_lt {w : World} {b : Nat} {d : Dg} (h : w.rangeAt b 0 (Bs d.s)) : b < w.heap.size := by
  have q := h 0 _ (show (Bs d.s)[0]? = some _ from List.getElem?_eq_getElem (by rw [d.blen]; decide))
  by_cases e : b < w.heap.size
  · exact e
  · rw [World.cell?, Array.getElem?_eq_none (by show w.heap.size ≤ b; omega)] at q
    cases q
theorem hash_noMap {w : World} {b : Nat} {d : Dg} (h : w.rangeAt b 0 (Bs d.s)) {es : Array MapEntry} {cl : Nat} (e : w.heap[b]? = some (.map es cl)) : False := by
  have q := h 0 _ (show (Bs d.s)[0]? = some _ from List.getElem?_eq_getElem (by rw [d.blen]; decide))
  rw [World.cell?] at q
  simp only [e] at q
  cases q
theorem hashBox {w : World} {d : Dg} : (w.alloc (.cells (Bs d.s).toArray 41)).rangeAt w.heap.size 0 (Bs d.s) := rangeAt_whole (T := hshR.T) (World.alloc_heap_new _ _)
set_option maxRecDepth 100000 in
set_option maxHeartbeats 2000000 in
theorem pre_Wanted {pb : Nat} {P : List (Dg × (Int × Cl))} {U : List (Dg × Int)} {F : FP} {w : World} (h : (prM pb P U).is F w) (d : Dg) : Calls Tryz.prog 26 #[.pointer (some ⟨pb, 0, none⟩), .agg (Bs d.s).toArray] w fun e w' => e = .returned (.int .i64 (wantN U d)) ∧ Below w.heap.size w w' := by
  obtain ⟨o, o2, m, hp⟩ := h
  obtain ⟨W, hW⟩ : ∃ W, W = w.alloc (.cells (Bs d.s).toArray 41) := ⟨_, rfl⟩
  have hb : Below w.heap.size w W := by rw [hW]; exact (Below.refl _ w).alloc (Nat.le_refl _) _
  have hpW : PrAt pb P U F o o2 m W := hp.keep hb.size (fun k hk => hb.block k (hp.lt k hk))
  have hbox : W.rangeAt w.heap.size 0 (Bs d.s) := by rw [hW]; exact hashBox
  have c1 : W.drew.cell? ⟨pb, 1, none⟩ = some (.map o2) := hpW.c1
  have hrg : W.drew.rangeAt w.heap.size 0 (Bs d.s) := hbox
  have lk : (Instr.lookup 92 (.map o2) (dv d) false).run Tryz.prog W.drew = .ok (codI.enc (wantN U d)) W.drew := (MapO.keep (w' := W.drew) hpW.mu (fun b _ => rfl)).look Tryz.underlying92 zIn d
  obtain ⟨r, hr⟩ : ∃ r, r = wantN U d := ⟨_, rfl⟩
  rw [← hr] at lk ⊢
  have lk : (Instr.lookup 92 (.map o2) (.agg (Bs d.s).toArray) false).run Tryz.prog W.drew = .ok (.int .i64 r) W.drew := lk
  have HW := Lib.hid (And.intro hW hb)
  clear hp hpW hbox hr hb hW
  go_enter Tryz.func26, Tryz.ntmps26
  go_upto_region 3 with fail
  rw [← HW.out.1]
  have K := Lib.hid (And.intro c1 (And.intro hrg lk))
  have hu := Tryz.underlying41
  have hsz := infoHD d
  clear c1 hrg lk
  first | go_region_held3 (fun w' => w'.cell? ⟨pb, 1, none⟩ = some (.map o2) ∧ w'.rangeAt w.heap.size 0 (Bs d.s) ∧ (Instr.lookup 92 (.map o2) (.agg (Bs d.s).toArray) false).run Tryz.prog w' = .ok (.int .i64 r) w') (first | exact K.out) (fail) | fail
  go_wp2_with fail
  go_ret
  exact ⟨rfl, HW.out.2.trans ((Below.refl _ W).drew.mono HW.out.2.size)⟩
def wantU (U : List (Dg × Int)) (d : Dg) : List (Dg × Int) := dput U d (wantN U d + 1)
theorem nilU_eq0 (w : World) : (binOp .eql 92 (.map none) (.map none)).run Tryz.prog w = .ok (.bool true) w := by kernel_rfl
theorem nilM_eq0 (w : World) : (binOp .eql 91 (.map none) (.map none)).run Tryz.prog w = .ok (.bool true) w := by kernel_rfl
theorem nilU_eq (b : Nat) (w : World) : (binOp .eql 92 (.map (some b)) (.map none)).run Tryz.prog w = .ok (.bool false) w := by kernel_rfl
theorem nilM_eq (b : Nat) (w : World) : (binOp .eql 91 (.map (some b)) (.map none)).run Tryz.prog w = .ok (.bool false) w := by kernel_rfl
/-- What the last step of Want comes to. -/
theorem want_step {pb b : Nat} {P : List (Dg × (Int × Cl))} {U : List (Dg × Int)} {F : FP} {o o2 : Option Nat} {m : List (Dg × Nt)} {W : World} (hp : PrAt pb P U F o o2 m W) (hb : o2 = some b) (hl : U.length ≤ 100000) (d : Dg) :
    ∃ (v0 : Value) (st : Nat) (w1 : World), (Instr.mapEntry 92 (.map (some b)) (.agg (Bs d.s).toArray)).run Tryz.prog W = .ok (.tuple #[v0, .int .i64 st]) w1 ∧ W.grownBy w1 (some b) ∧ (∀ k, k ≠ b → w1.heap[k]? = W.heap[k]?) ∧
      (Instr.lookup 92 (.map (some b)) (.agg (Bs d.s).toArray) false).run Tryz.prog W = .ok (.int .i64 (wantN U d)) W ∧
      (Instr.lookup 92 (.map (some b)) (.agg (Bs d.s).toArray) false).run Tryz.prog w1 = .ok (.int .i64 (wantN U d)) w1 ∧
      ∀ v : Int, ∃ w2, (Instr.entryStore 92 (.map (some b)) (.int .i64 st) (.int .i64 v)).run Tryz.prog w1 = .ok () w2 ∧ (∀ k, k ≠ b → w2.heap[k]? = W.heap[k]?) ∧ (prM pb P (dput U d v)).to F W w2 := by
  have hm : MapD codI b U W := by
    rcases hp.mu with ⟨e, -⟩ | ⟨b', e, h⟩
    · rw [e] at hb; cases hb
    · rw [e] at hb; cases hb; exact h
  obtain ⟨v0, st, w1, e1, e2, e3, e4, e5⟩ := hm.entry Tryz.underlying92 zIn (by unfold maxLen; omega) d
  refine ⟨v0, st, w1, e1, e2, fun k hk => ?_, hm.look Tryz.underlying92 (zIn W) d, e4, fun v => ?_⟩
  · by_cases hs : k < W.heap.size
    · exact e2.block k hs (fun q => by cases q; exact hk rfl)
    · rw [Array.getElem?_eq_none (by omega), Array.getElem?_eq_none (by omega)]
  · obtain ⟨w2, q1, q2, q3, q4⟩ := e5 v
    refine ⟨w2, q1, fun k hk => ?_, hp.setU hb q2 q3⟩
    by_cases hs : k < W.heap.size
    · exact q3.block k hs (fun q => by cases q; exact hk rfl)
    · rw [Array.getElem?_eq_none (by omega), Array.getElem?_eq_none (by omega)]
/-- The wanted map is made. -/
theorem PrAt.makeU {pb : Nat} {P : List (Dg × (Int × Cl))} {U : List (Dg × Int)} {F : FP} {o : Option Nat} {m : List (Dg × Nt)} {W : World} (hp : PrAt pb P U F o none m W) :
    U = [] ∧ PrAt pb P U (fun k => F k ∨ k = W.heap.size) o (some W.heap.size) m ((W.alloc (.map #[] 0)).setCell ⟨pb, 1, none⟩ (.map (some W.heap.size))) := by
  have hU : U = [] := by
    rcases hp.mu with ⟨-, e⟩ | ⟨b', e, h⟩
    · exact e
    · cases e
  subst hU
  obtain ⟨V, hV⟩ : ∃ V, V = (W.alloc (.map #[] 0)).setCell ⟨pb, 1, none⟩ (.map (some W.heap.size)) := ⟨_, rfl⟩
  rw [← hV]
  have hpl : pb < W.heap.size := hp.lt pb hp.own
  have hk : ∀ k, k ≠ pb → V.heap[k]? = (W.alloc (.map #[] 0)).heap[k]? := fun k hk => by rw [hV]; exact Below.heap_setCell _ _ _ k hk
  have hk2 : ∀ k, k ≠ pb → k < W.heap.size → V.heap[k]? = W.heap[k]? := fun k h1 h2 => (hk k h1).trans (Below.heap_alloc _ _ _ h2)
  have hVs : V.heap.size = W.heap.size + 1 := by rw [hV]; simp [World.setCell]
  have hnew : V.heap[W.heap.size]? = some (.map #[] 0) := (hk _ (by omega)).trans (World.alloc_heap_new _ _)
  have hpb : V.heap[pb]? = some (.cells #[.map o, .map (some W.heap.size)] 94 (0, 0)) := by
    rw [hV]
    exact setCell_at (l := [.map o, .map none]) ((Below.heap_alloc _ _ _ hpl).trans hp.blk)
  refine ⟨rfl, hpb, hp.mo.keep (fun b e => hk2 b (hp.pbNe.1 b e) (hp.mo.lt e)), .inr ⟨_, rfl, (MapD.made codI W).block (w' := V) (by rw [hnew, World.alloc_heap_new])⟩, hp.rel.keep (fun k hF h1 h2 => ⟨.inl hF, ?_⟩), fun b e => .inl (hp.fo b e), fun b e => by cases e; exact .inr rfl, fun b e q => ?_, .inl hp.own, fun k h => ?_⟩
  · by_cases e : k = pb
    · subst e
      obtain ⟨x, hx⟩ := h2
      rw [hp.c0] at hx; cases hx
    · exact hk2 k e h1
  · cases q
    have := hp.mo.lt e; omega
  · rcases h with h | h
    · have := hp.lt k h; omega
    · omega
set_option maxRecDepth 100000 in
set_option maxHeartbeats 2000000 in
theorem pre_Want {pb : Nat} {P : List (Dg × (Int × Cl))} {U : List (Dg × Int)} {F : FP} {w : World} (h : (prM pb P U).is F w) (hl : U.length ≤ 100000) (d : Dg) (h1 : 0 ≤ wantN U d) (h2 : wantN U d ≤ 1000000) : Calls Tryz.prog 20 #[.pointer (some ⟨pb, 0, none⟩), .agg (Bs d.s).toArray] w fun e w' => e = .returned (.tuple #[]) ∧ (prM pb P (wantU U d)).to F w w' := by
  obtain ⟨o, o2, m, hp⟩ := h
  obtain ⟨W, hW⟩ : ∃ W, W = w.alloc (.cells (Bs d.s).toArray 41) := ⟨_, rfl⟩
  have hb : Below w.heap.size w W := by rw [hW]; exact (Below.refl _ w).alloc (Nat.le_refl _) _
  have hpW : PrAt pb P U F o o2 m W := hp.keep hb.size (fun k hk => hb.block k (hp.lt k hk))
  have hbox : W.rangeAt w.heap.size 0 (Bs d.s) := by rw [hW]; exact hashBox
  have hhs : w.heap.size < W.heap.size := by rw [hW]; simp
  have hpl : pb < w.heap.size := hp.lt pb hp.own
  have hu := Tryz.underlying41
  have hsz := infoHD d
  obtain ⟨n, hn⟩ : ∃ n, n = wantN U d := ⟨_, rfl⟩
  have wr : IntKind.i64.wrap (n + 1) = n + 1 := IntWalk.i64_in _ (by omega)
  have c1 := hpW.c1
  cases o2 with
  | none =>
    obtain ⟨hU, hpV⟩ := hpW.makeU
    subst hU
    obtain ⟨b, hbe⟩ : ∃ b, b = W.heap.size := ⟨_, rfl⟩
    obtain ⟨V, hV⟩ : ∃ V, V = (W.alloc (.map #[] 0)).setCell ⟨pb, 1, none⟩ (.map (some b)) := ⟨_, rfl⟩
    rw [← hbe, ← hV] at hpV
    have hbh : b ≠ w.heap.size := by omega
    have hkV : ∀ k, k ≠ pb → k < W.heap.size → V.heap[k]? = W.heap[k]? := fun k q1 q2 => by
      rw [hV, Below.heap_setCell _ _ _ k q1]; exact Below.heap_alloc _ _ _ q2
    have hbox : V.rangeAt w.heap.size 0 (Bs d.s) := rangeAt_block hbox (hkV _ (by omega) hhs)
    have hto : ∀ w' U', (prM pb P U').to (fun k => F k ∨ k = b) V w' → (prM pb P U').to F w w' := fun w' U' ⟨F', a1, a2, a3⟩ => by
      have hs0 : W.heap.size ≤ V.heap.size := by rw [hV]; simp [World.setCell]
      refine ⟨F', a1, fun k hk => ?_, ⟨⟨?_, ?_, ?_, ?_⟩, fun k hk p1 p2 => ?_⟩⟩
      · rcases a2 k hk with (e | e) | e
        · exact .inl e
        · exact .inr (by omega)
        · exact .inr (by omega)
      · rw [a3.grow.os, hV]; exact hb.os
      · rw [a3.grow.tape, hV]; exact hb.tape
      · rw [a3.grow.output, hV]; exact hb.output
      · have := a3.grow.size; have := hb.size; omega
      · rw [a3.block k (by omega) (fun q => q.elim p1 (fun e => by omega)) (fun q => q), hkV k (fun e => p1 (by rw [e]; exact hp.own)) (by omega)]
        exact hb.block k hk
    have fz : (W.alloc (.map #[] 0)).frozen? ⟨pb, 1, none⟩ = false := by
      have q : (W.alloc (.map #[] 0)).heap[pb]? = W.heap[pb]? := Below.heap_alloc _ _ _ (by omega)
      simp [World.frozen?, q, hpW.blk]
    have cz : (W.alloc (.map #[] 0)).cell? ⟨pb, 1, none⟩ = some (.map none) := (World.cell?_of_block (a := ⟨pb, 1, none⟩) (Below.heap_alloc W _ _ (by show pb < W.heap.size; omega))).trans c1
    have hmm := @run_makeMap Tryz.prog
    have nb := nilU_eq0 W
    obtain ⟨v0, st, w1, e1, e2, e3, e4, e5, e6⟩ := want_step (W := V.drew) (hpV.keep (w' := V.drew) (Nat.le_refl _) (fun _ _ => rfl)) rfl hl d
    rw [← hn] at e4 e5
    obtain ⟨w2, q1, q3, q2⟩ := e6 (n + 1)
    have hbb : b ≠ pb := hpV.pbNe.2 b rfl
    have k1 : w1.cell? ⟨pb, 1, none⟩ = some (.map (some b)) := (World.cell?_of_block (a := ⟨pb, 1, none⟩) (e3 pb (Ne.symm hbb))).trans hpV.c1
    have k2 : w1.rangeAt w.heap.size 0 (Bs d.s) := rangeAt_block (w := V.drew) hbox (e3 _ (Ne.symm hbh))
    have k3 : w2.cell? ⟨pb, 1, none⟩ = some (.map (some b)) := (World.cell?_of_block (a := ⟨pb, 1, none⟩) (q3 pb (Ne.symm hbb))).trans hpV.c1
    have k4 : w2.rangeAt w.heap.size 0 (Bs d.s) := rangeAt_block (w := V.drew) hbox (q3 _ (Ne.symm hbh))
    have KA := Lib.hid (And.intro (show V.drew.cell? ⟨pb, 1, none⟩ = some (.map (some b)) from hpV.c1) (show V.drew.rangeAt w.heap.size 0 (Bs d.s) from hbox))
    have KB := Lib.hid (And.intro k1 k2)
    have KC := Lib.hid (And.intro k3 k4)
    have HQ := Lib.hid q2
    have HH := Lib.hid (And.intro hb hn)
    have HW := Lib.hid (And.intro hW (And.intro hbe hV))
    have HTO := Lib.hid hto
    clear hp hpW hpV hbox hhs hpl hn hb hW e2 e3 e6 hbb hbh k1 k2 k3 k4 q2 q3 hl hto hkV hbe hV
    go_enter Tryz.func20, Tryz.ntmps20
    go_upto_region 1 with fail
    rw [← HW.out.1]
    go_upto_region 4 with fail
    rw [← HW.out.2.1, ← HW.out.2.2]
    go_region_held3 (fun w' => w'.cell? ⟨pb, 1, none⟩ = some (.map (some b)) ∧ w'.rangeAt w.heap.size 0 (Bs d.s)) (first | exact KA.out | exact KB.out | exact KC.out) (fail)
    all_goals
      refine bodyPost_end (results_none rfl _ _ _) rfl ⟨rfl, ?_⟩
      unfold wantU
      rw [← HH.out.2]
      exact HTO.out _ _ (Mem.to_later (Below.refl _ V).drew HQ.out)
  | some b =>
    have hbh : b ≠ w.heap.size := by have := hp.mu.lt rfl; omega
    have nb := nilU_eq b W
    obtain ⟨v0, st, w1, e1, e2, e3, e4, e5, e6⟩ := want_step (W := W.drew) (hpW.keep (w' := W.drew) (Nat.le_refl _) (fun _ _ => rfl)) rfl hl d
    rw [← hn] at e4 e5
    obtain ⟨w2, q1, q3, q2⟩ := e6 (n + 1)
    have hbb : b ≠ pb := hpW.pbNe.2 b rfl
    have k1 : w1.cell? ⟨pb, 1, none⟩ = some (.map (some b)) := (World.cell?_of_block (a := ⟨pb, 1, none⟩) (e3 pb (Ne.symm hbb))).trans hpW.c1
    have k2 : w1.rangeAt w.heap.size 0 (Bs d.s) := rangeAt_block (w := W.drew) hbox (e3 _ (Ne.symm hbh))
    have k3 : w2.cell? ⟨pb, 1, none⟩ = some (.map (some b)) := (World.cell?_of_block (a := ⟨pb, 1, none⟩) (q3 pb (Ne.symm hbb))).trans hpW.c1
    have k4 : w2.rangeAt w.heap.size 0 (Bs d.s) := rangeAt_block (w := W.drew) hbox (q3 _ (Ne.symm hbh))
    have KA := Lib.hid (And.intro (show W.drew.cell? ⟨pb, 1, none⟩ = some (.map (some b)) from hpW.c1) (show W.drew.rangeAt w.heap.size 0 (Bs d.s) from hbox))
    have KB := Lib.hid (And.intro k1 k2)
    have KC := Lib.hid (And.intro k3 k4)
    have HQ := Lib.hid q2
    have HH := Lib.hid (And.intro hb hn)
    have HW := Lib.hid hW
    clear hp hpW hbox hhs hpl hn hb hW e2 e3 e6 hbb hbh k1 k2 k3 k4 q2 q3 hl
    go_enter Tryz.func20, Tryz.ntmps20
    go_upto_region 1 with fail
    rw [← HW.out]
    go_upto_region 4 with fail
    go_region_held3 (fun w' => w'.cell? ⟨pb, 1, none⟩ = some (.map (some b)) ∧ w'.rangeAt w.heap.size 0 (Bs d.s)) (first | exact KA.out | exact KB.out | exact KC.out) (fail)
    all_goals
      refine bodyPost_end (results_none rfl _ _ _) rfl ⟨rfl, ?_⟩
      unfold wantU
      rw [← HH.out.2]
      exact Mem.to_later HH.out.1 (Mem.to_later (Below.refl _ W).drew HQ.out)
def unwantU (U : List (Dg × Int)) (d : Dg) : List (Dg × Int) := if wantN U d = 0 then U else if wantN U d = 1 then ddel U d else dput U d (wantN U d - 1)
set_option maxRecDepth 100000 in
set_option maxHeartbeats 2000000 in
theorem pre_Unwant {pb : Nat} {P : List (Dg × (Int × Cl))} {U : List (Dg × Int)} {F : FP} {w : World} (h : (prM pb P U).is F w) (hl : U.length ≤ 100000) (d : Dg) (h1 : 0 ≤ wantN U d) (h2 : wantN U d ≤ 1000000) : Calls Tryz.prog 22 #[.pointer (some ⟨pb, 0, none⟩), .agg (Bs d.s).toArray] w fun e w' => e = .returned (.tuple #[]) ∧ (prM pb P (unwantU U d)).to F w w' := by
  have h0 := h
  obtain ⟨W0, hW0⟩ : ∃ W, W = w.alloc (.cells (Bs d.s).toArray 41) := ⟨_, rfl⟩
  have hb0 : Below w.heap.size w W0 := by rw [hW0]; exact (Below.refl _ w).alloc (Nat.le_refl _) _
  have hbox0 : W0.rangeAt w.heap.size 0 (Bs d.s) := by rw [hW0]; exact hashBox
  have hhs : w.heap.size < W0.heap.size := by rw [hW0]; simp
  have hwt := pre_Wanted (Mem.below h hb0) d
  obtain ⟨n, hn⟩ : ∃ n, n = wantN U d := ⟨_, rfl⟩
  rw [← hn] at hwt
  have hu := Tryz.underlying41
  have hsz := infoHD d
  have HWT := Lib.hid hwt
  have HB0 := Lib.hid (And.intro hb0 (And.intro hbox0 (And.intro hhs hW0)))
  have c0 := hbox0
  have hlh : (Instr.loadAt 41 (.pointer (some ⟨w.heap.size, 0, none⟩))).run Tryz.prog W0 = .ok (.agg (Bs d.s).toArray) W0 := run_loadR (r := hshR) (t := d) hbox0
  have hex : n = 0 ∨ n = 1 ∨ (2 ≤ n ∧ n ≤ 1000000) := by omega
  clear hwt hb0 hbox0 hhs hW0
  rcases hex with rfl | rfl | hn2
  · have HN := Lib.hid hn
    have HH := Lib.hid h
    clear h h0 hl h1 h2 hn
    go_enter Tryz.func22, Tryz.ntmps22
    go_upto_region 1 with fail
    rw [← HB0.out.2.2.2]
    go_wp2_with (first
      | (refine wpl_loadR (r := hshR) (t := d) _ rfl rfl rfl c0 ?_)
      | (go_at_call 26; refine HWT.out.mono ?_; rintro e w1 ⟨rfl, hb⟩; have H1 := Lib.hid hb; clear hb)
      | fail)
    refine bodyPost_end (results_none rfl _ _ _) rfl ⟨rfl, ?_⟩
    unfold unwantU
    rw [← HN.out, if_pos rfl]
    exact Mem.to_below HH.out (HB0.out.1.trans (H1.out.mono HB0.out.1.size))
  · have HN := Lib.hid hn
    have HH := Lib.hid h
    clear h h0 hl h1 h2 hn
    go_enter Tryz.func22, Tryz.ntmps22
    go_upto_region 1 with fail
    rw [← HB0.out.2.2.2]
    go_upto_region 5 with (first
      | (refine wpl_loadR (r := hshR) (t := d) _ rfl rfl rfl c0 ?_)
      | (go_at_call 26; refine HWT.out.mono ?_; rintro e w1 ⟨rfl, hb⟩; have H1 := Lib.hid hb; clear hb)
      | fail)
    have hbw : Below w.heap.size w w1 := HB0.out.1.trans (H1.out.mono HB0.out.1.size)
    obtain ⟨o, o2, m, hp⟩ := Mem.below HH.out hbw
    obtain ⟨b, rfl⟩ : ∃ b, o2 = some b := by
      rcases hp.mu with ⟨-, e⟩ | ⟨b, e, -⟩
      · have := HN.out; rw [e] at this; simp [wantN, dget] at this
      · exact ⟨b, e⟩
    have hm : MapD codI b U w1.drew := by
      rcases hp.mu with ⟨e, -⟩ | ⟨b', e, q⟩
      · cases e
      · cases e; exact q.block (w' := w1.drew) rfl
    have hbox : w1.drew.rangeAt w.heap.size 0 (Bs d.s) := rangeAt_block (w := W0) HB0.out.2.1 (H1.out.block _ HB0.out.2.2.1)
    obtain ⟨w2, e1, e2, e3, e4⟩ := hm.drop Tryz.underlying92 d 0
    have e1 : (Builtin.delete_ #[92, 41] 0 #[.map (some b), .agg (Bs d.s).toArray]).run Tryz.prog w1.drew = .ok (.tuple #[]) w2 := e1
    have hbb : b ≠ pb := hp.pbNe.2 b rfl
    have hbh : b ≠ w.heap.size := by
      intro q
      obtain ⟨es, cl, hh⟩ := hp.mu.notCells rfl
      exact hash_noMap hbox (by rw [← q]; exact hh)
    have k1 : w1.drew.cell? ⟨pb, 1, none⟩ = some (.map (some b)) := hp.c1
    have KA := Lib.hid (And.intro k1 hbox)
    have KC := Lib.hid (And.intro ((World.cell?_of_block (a := ⟨pb, 1, none⟩) (e3.block pb (hp.lt pb hp.own) (fun q => by cases q; exact hbb rfl))).trans k1) (rangeAt_block hbox (e3.block _ (by have := hbw.size; have := HB0.out.2.2.1; have := H1.out.size; show w.heap.size < w1.heap.size; omega) (fun q => by cases q; exact hbh rfl))))
    have HQ := Lib.hid (hp.setU (w' := w2) rfl e2 ⟨e3.os, e3.tape, e3.output, e3.size, e3.block⟩)
    have HBW := Lib.hid hbw
    clear hp hm hbox e2 e3 e4 hbb hbh k1 hbw
    go_region_held3 (fun w' => w'.cell? ⟨pb, 1, none⟩ = some (.map (some b)) ∧ w'.rangeAt w.heap.size 0 (Bs d.s)) (first | exact KA.out | exact KC.out) (fail)
    all_goals
      try go_wp2_with fail
      refine bodyPost_end (results_none rfl _ _ _) rfl ⟨rfl, ?_⟩
      unfold unwantU
      rw [← HN.out, if_neg (by decide), if_pos rfl]
      exact Mem.to_later HBW.out HQ.out
  · have HN := Lib.hid hn
    have HH := Lib.hid h
    have wr : IntKind.i64.wrap (n - 1) = n - 1 := IntWalk.i64_in _ (by omega)
    have g0 : (n == 0) = false := by rw [beq_eq_false_iff_ne]; omega
    have g1 : (n == 1) = false := by rw [beq_eq_false_iff_ne]; omega
    clear h h0 h1 h2 hn
    go_enter Tryz.func22, Tryz.ntmps22
    go_upto_region 1 with fail
    rw [← HB0.out.2.2.2]
    go_upto_region 2 with (first
      | (refine wpl_loadR (r := hshR) (t := d) _ rfl rfl rfl c0 ?_)
      | (go_at_call 26; refine HWT.out.mono ?_; rintro e wq ⟨rfl, hb⟩; have H1 := Lib.hid hb; clear hb)
      | fail)
    have hbw : Below w.heap.size w wq := HB0.out.1.trans (H1.out.mono HB0.out.1.size)
    obtain ⟨o, o2, m, hpW⟩ := Mem.below HH.out hbw
    have hn := HN.out
    obtain ⟨b, rfl⟩ : ∃ b, o2 = some b := by
      rcases hpW.mu with ⟨-, e⟩ | ⟨b, e, -⟩
      · rw [e] at hn; simp [wantN, dget] at hn; omega
      · exact ⟨b, e⟩
    have hbox : wq.rangeAt w.heap.size 0 (Bs d.s) := rangeAt_block (w := W0) HB0.out.2.1 (H1.out.block _ HB0.out.2.2.1)
    have hbh : b ≠ w.heap.size := by
      intro q
      obtain ⟨es, cl, hh⟩ := hpW.mu.notCells rfl
      exact hash_noMap hbox (by rw [← q]; exact hh)
    have hb := hbw
    obtain ⟨v0, st, w1, e1, e2, e3, e4, e5, e6⟩ := want_step (W := wq.drew) (hpW.keep (w' := wq.drew) (Nat.le_refl _) (fun _ _ => rfl)) rfl hl d
    rw [← hn] at e4 e5
    obtain ⟨w2, q1, q3, q2⟩ := e6 (n - 1)
    have hbb : b ≠ pb := hpW.pbNe.2 b rfl
    have k1 : w1.cell? ⟨pb, 1, none⟩ = some (.map (some b)) := (World.cell?_of_block (a := ⟨pb, 1, none⟩) (e3 pb (Ne.symm hbb))).trans hpW.c1
    have k2 : w1.rangeAt w.heap.size 0 (Bs d.s) := rangeAt_block (w := wq.drew) hbox (e3 _ (Ne.symm hbh))
    have k3 : w2.cell? ⟨pb, 1, none⟩ = some (.map (some b)) := (World.cell?_of_block (a := ⟨pb, 1, none⟩) (q3 pb (Ne.symm hbb))).trans hpW.c1
    have k4 : w2.rangeAt w.heap.size 0 (Bs d.s) := rangeAt_block (w := wq.drew) hbox (q3 _ (Ne.symm hbh))
    have KA := Lib.hid (And.intro (show wq.drew.cell? ⟨pb, 1, none⟩ = some (.map (some b)) from hpW.c1) (show wq.drew.rangeAt w.heap.size 0 (Bs d.s) from hbox))
    have KB := Lib.hid (And.intro k1 k2)
    have KC := Lib.hid (And.intro k3 k4)
    have HQ := Lib.hid q2
    have HH := Lib.hid (And.intro hb hn)
    clear hpW hbox hn hb hbw e2 e3 e6 hbb hbh k1 k2 k3 k4 q2 q3 hl
    go_region_held3 (fun w' => w'.cell? ⟨pb, 1, none⟩ = some (.map (some b)) ∧ w'.rangeAt w.heap.size 0 (Bs d.s)) (first | exact KA.out | exact KB.out | exact KC.out) (fail)
    all_goals
      try go_wp2_with fail
      refine bodyPost_end (results_none rfl _ _ _) rfl ⟨rfl, ?_⟩
      unfold unwantU
      rw [← HH.out.2, if_neg (by omega), if_neg (by omega)]
      exact Mem.to_later HH.out.1 (Mem.to_later (Below.refl _ wq).drew HQ.out)
end Go.Proofs.YtcfcfijmfgnpfaaGreatDoor
end

section
namespace Go.Proofs.YtcfcfijmfgnpfaaGreatDoor
open Go.RowKit Go.Maps
set_option linter.unusedVariables false
set_option linter.unusedSimpArgs false

theorem dec_ok (v : Value) (c : Cl) (w : World) (hr : RdB w v (layT c)) (hok : okC 3 c = true) :
    Calls Tryz.prog 52 #[v] w fun x w' => ∃ y1 y2 y3 y4 y5 y6, x = .returned (.tuple #[.agg #[.int .i64 y1, .int .i64 y2, .int .i64 y3, .slice y4 y5 y6], .int .i64 0]) ∧ RdZ (fun b => b < w.heap.size) w' 4 (.agg (c4 (y1, y2, y3, y4, y5, y6)).toArray) c ∧ Below w.heap.size w w' :=
  (code_DecodeCallOk v (layT c) c w hr ⟨layT_lt c, by have := okC3_len hok; omega⟩ hok rfl).mono fun x w' ⟨⟨y1, y2, y3, y4, y5, y6⟩, h⟩ => ⟨y1, y2, y3, y4, y5, y6, h⟩
/-- What a look at the notes finds. -/
theorem PrAt.note_look {pb : Nat} {P : List (Dg × (Int × Cl))} {U : List (Dg × Int)} {F : FP} {o o2 : Option Nat} {m : List (Dg × Nt)} {w : World} (h : PrAt pb P U F o o2 m w) (d : Dg) :
    ∃ x : Nt, (∀ w', (∀ b, o = some b → w'.heap[b]? = w.heap[b]?) → (Instr.lookup 91 (.map o) (.agg (Bs d.s).toArray) true).run Tryz.prog w' = .ok (.tuple #[.agg #[.int .i64 x.who, x.v], .bool (dget P d).isSome]) w') ∧ (∀ q, dget P d = some q → dget m d = some x ∧ NtOk F w x q) ∧ (dget P d = none → x = nt0) := by
  have hl := fun w' (hk : ∀ b, o = some b → w'.heap[b]? = w.heap[b]?) => (h.mo.keep (w' := w') hk).look_ok Tryz.underlying91 zNt d
  have hs : (dget m d).isSome = (dget P d).isSome := by
    cases e : dget m d with
    | none => rw [((h.rel.2 d).1.1 e)]; rfl
    | some x =>
      cases e2 : dget P d with
      | none => rw [(h.rel.2 d).1.2 e2] at e; cases e
      | some q => rfl
  refine ⟨(dget m d).getD nt0, fun w' hk => by rw [← hs]; exact hl w' hk, fun q hq => ?_, fun hq => by rw [(h.rel.2 d).1.2 hq]; rfl⟩
  cases e : dget m d with
  | none => rw [(h.rel.2 d).1.1 e] at hq; cases hq
  | some x => exact ⟨rfl, (h.rel.2 d).2 x q e hq⟩
theorem wp_meetF {P : Program} {c : Code} {K : Act → World → Prop} {Q : Exit → Act → World → Prop} {a fr : Act} {w : World} {S : World → Prop} (h : c.wp P (Exit.then (fun a w => a = fr ∧ S w) (fun _ _ _ => False)) a w) (hK : ∀ w, S w → K fr w) : c.wp P (Exit.then K Q) a w :=
  (wpIn_wide (n := 0)).1 (region_meet h (fun a w ⟨e, hs⟩ => by rw [e]; exact hK w hs))
/-- The world behind a look at the notes: what was found in a place of its own. -/
def Found (W : World) (x : Nt) (wc : World) : Prop := wc.heap[W.heap.size]? = some (.cells #[.int .i64 x.who, x.v] 101 (0, 0)) ∧ Below W.heap.size W wc
theorem found_of (W : World) (x : Nt) : Found W x (W.alloc (.cells #[.int .i64 x.who, x.v] 101)).drew :=
  ⟨World.alloc_heap_new W _, ((Below.refl _ W).alloc (Nat.le_refl _) _).drew⟩
set_option maxRecDepth 100000 in
set_option maxHeartbeats 2000000 in
theorem pre_Get {pb : Nat} {P : List (Dg × (Int × Cl))} {U : List (Dg × Int)} {F : FP} {w : World} (h : (prM pb P U).is F w) (d : Dg) : Calls Tryz.prog 24 #[.pointer (some ⟨pb, 0, none⟩), .agg (Bs d.s).toArray] w fun e w' =>
    ((dget P d = none ∧ e = .returned (.tuple #[.agg zero4, .bool false])) ∨ ∃ q y, dget P d = some q ∧ e = .returned (.tuple #[.agg (c4 y).toArray, .bool true]) ∧ RdZ (fun b => b < w.heap.size) w' 4 (.agg (c4 y).toArray) q.2) ∧ Below w.heap.size w w' := by
  obtain ⟨o, o2, m, hp⟩ := h
  obtain ⟨hb, hhb⟩ : ∃ b, b = w.heap.size := ⟨_, rfl⟩
  obtain ⟨cb, hcb⟩ : ∃ b, b = w.heap.size + 1 := ⟨_, rfl⟩
  obtain ⟨W, hW⟩ : ∃ W, W = (w.alloc (.cells (Bs d.s).toArray 41)).alloc (.cells zero4 45) := ⟨_, rfl⟩
  have hB : Below w.heap.size w W := by rw [hW]; exact ((Below.refl _ w).alloc (Nat.le_refl _) _).alloc (by simp) _
  have hpW : PrAt pb P U F o o2 m W := hp.keep hB.size (fun k hk => hB.block k (hp.lt k hk))
  have hbox : W.rangeAt hb 0 (Bs d.s) := by rw [hW, hhb]; exact rangeAt_block hashBox (Below.heap_alloc _ _ _ (by simp))
  have hrs : W.heap[cb]? = some (.cells zero4 45 (0, 0)) := by rw [hW, hcb]; have q := World.alloc_heap_new (w.alloc (.cells (Bs d.s).toArray 41)) (.cells zero4 45); rwa [World.size_alloc] at q
  have hsz1 : W.heap.size = cb + 1 := by rw [hW, hcb]; simp
  obtain ⟨x, hlk, hx1, hx2⟩ := hpW.note_look d
  obtain ⟨bo, hbo⟩ : ∃ b, b = (dget P d).isSome := ⟨_, rfl⟩
  obtain ⟨xw, hxw⟩ : ∃ b, b = x.who := ⟨_, rfl⟩
  obtain ⟨ao, xn, xc, hxv⟩ : ∃ ao n c, x.v = .slice ao n c := ⟨_, _, _, rfl⟩
  rw [← hbo, ← hxw, hxv] at hlk
  have hkeep : ∀ V : World, (∀ k, k < W.heap.size → V.heap[k]? = W.heap[k]?) → V.cell? ⟨pb, 0, none⟩ = some (.map o) ∧ V.rangeAt hb 0 (Bs d.s) ∧ (Instr.lookup 91 (.map o) (.agg (Bs d.s).toArray) true).run Tryz.prog V = .ok (.tuple #[.agg #[.int .i64 xw, .slice ao xn xc], .bool bo]) V := fun V hV =>
    ⟨(World.cell?_of_block (a := ⟨pb, 0, none⟩) (hV pb (hpW.lt pb hpW.own))).trans hpW.c0, rangeAt_block hbox (hV hb (by omega)), hlk V (fun b e => hV b (hpW.mo.lt e))⟩
  have hfin : ∀ wc, Found W x wc → ∀ q, dget P d = some q → RdB wc x.v (layT q.2) ∧ okC 3 q.2 = true := fun wc hf q hq => by
    obtain ⟨-, hno⟩ := hx1 q hq
    obtain ⟨g, h1, h2, h3, h4, h5⟩ := hno.cells
    exact ⟨h5 wc (hf.2.block g h3), hno.ok⟩
  have hfo := found_of W x
  rw [← hxw, hxv] at hfo
  have HFO := Lib.hid hfo
  have HK := Lib.hid hkeep
  have hu := Tryz.underlying41
  have hsz := infoHD d
  have HW := Lib.hid (And.intro hW (And.intro hhb (And.intro hcb hB)))
  have HRS := Lib.hid (And.intro hrs hsz1)
  have HF := Lib.hid hfin
  have HX := Lib.hid (And.intro hxw (And.intro hxv hbo))
  clear hW hhb hcb hB hpW hbox hrs hsz1 hlk hx1 hx2 hkeep hp hfin hxw hxv hbo hfo
  go_enter Tryz.func24, Tryz.ntmps24
  go_upto_region 1 with fail
  rw [← HW.out.1, ← HW.out.2.2.1, ← HW.out.2.1]
  go_upto_region 3 with fail
  apply wp_meetF (S := fun wc => Found W x wc)
  case h =>
    go_region_held3 (fun w' => w'.cell? ⟨pb, 0, none⟩ = some (.map o) ∧ w'.rangeAt hb 0 (Bs d.s) ∧ (Instr.lookup 91 (.map o) (.agg (Bs d.s).toArray) true).run Tryz.prog w' = .ok (.tuple #[.agg #[.int .i64 xw, .slice ao xn xc], .bool bo]) w') (first | exact HK.out _ (fun k hk => rfl) | exact HK.out _ (fun k hk => Below.heap_alloc _ _ _ hk)) (fail)
    all_goals exact ⟨rfl, HFO.out⟩
  intro wc hfc
  have hcs : wc.heap[cb]? = some (.cells zero4 45 (0, 0)) := (hfc.2.block cb (by have := HRS.out.2; omega)).trans HRS.out.1
  have hbw : Below w.heap.size w wc := HW.out.2.2.2.trans (hfc.2.mono HW.out.2.2.2.size)
  obtain ⟨nb, hnb⟩ : ∃ b, b = W.heap.size := ⟨_, rfl⟩
  have hnt : wc.heap[nb]? = some (.cells #[.int .i64 xw, .slice ao xn xc] 101 (0, 0)) := by rw [hnb, HX.out.1, ← HX.out.2.1]; exact hfc.1
  have n1 : wc.cell? ⟨nb, 1, none⟩ = some (.slice ao xn xc) := by rw [World.cell?, hnt]; rfl
  rw [← hnb]
  have hr := HF.out wc hfc
  have HR := Lib.hid hr
  have HCS := Lib.hid (And.intro hcs (And.intro hbw hnb))
  have hbob : bo = true ∨ bo = false := by cases bo <;> simp
  have HB0 := HX.out.2.2
  clear hr hcs hbw hnt hfc hnb
  rcases hbob with rfl | rfl
  · obtain ⟨q, hq⟩ : ∃ q, dget P d = some q := Option.isSome_iff_exists.1 HB0.symm
    obtain ⟨r1, r2⟩ := HR.out q hq
    rw [HX.out.2.1] at r1
    have hd := dec_ok _ q.2 wc r1 r2
    have HD := Lib.hid hd
    have HQ := Lib.hid hq
    clear hd r1 r2 hq HB0
    go_wp2_with (first
      | (go_at_call 52; refine HD.out.mono ?_; rintro e w5 ⟨y1, y2, y3, y4, y5, y6, rfl, hz, hb5⟩; have hc5 := (hb5.block cb (Array.getElem?_eq_some_iff.1 HCS.out.1).1).trans HCS.out.1; have hc6 := (Below.heap_alloc w5 (.cells #[.int .i64 y1, .int .i64 y2, .int .i64 y3, .slice y4 y5 y6] 45) cb (Array.getElem?_eq_some_iff.1 hc5).1).trans hc5; have H5 := Lib.hid (And.intro hz (And.intro hb5 hc6)); clear hz hb5 hc5 hc6)
      | (refine wpl_storeD (vs := #[.int .i64 y1, .int .i64 y2, .int .i64 y3, .slice y4 y5 y6]) _ _ rfl rfl rfl rfl H5.out.2.2 rfl rfl (ones4D y1 y2 y3 _ _ _) ?_)
      | fail)
    have hfin := setRow_heap _ _ _ #[.int .i64 y1, .int .i64 y2, .int .i64 y3, .slice y4 y5 y6] _ _ H5.out.2.2
    have hlv := run_lvC (y := (y1, y2, y3, y4, y5, y6)) hfin
    have hcl : cb < wc.heap.size := (Array.getElem?_eq_some_iff.1 HCS.out.1).1
    have hcw : w.heap.size ≤ cb := by have := HW.out.2.2.1; omega
    have hws := HCS.out.2.1.size
    have h5s := H5.out.2.1.size
    have ho : ∀ k, k ≠ cb → k < w5.heap.size → ((w5.alloc (.cells #[.int .i64 y1, .int .i64 y2, .int .i64 y3, .slice y4 y5 y6] 45)).setRow cb #[.int .i64 y1, .int .i64 y2, .int .i64 y3, .slice y4 y5 y6]).heap[k]? = w5.heap[k]? := fun k h1 h2 => (setRow_other _ _ _ _ h1).trans (Below.heap_alloc _ _ _ h2)
    exact bodyPost_ret (v := .tuple #[.agg #[.int .i64 y1, .int .i64 y2, .int .i64 y3, .slice y4 y5 y6], .bool true]) (results_cellT Tryz.results24 rfl rfl hlv) rfl ⟨.inr ⟨q, (y1, y2, y3, y4, y5, y6), HQ.out, rfl, RdZ.keep (by simp) (fun x _ hx => by have h1 : x < w.heap.size := hx; show x < wc.heap.size; omega) (fun x h1 h2 => ho x (fun e => h2 (by show x < wc.heap.size; omega)) h1) H5.out.1⟩, setRow_below ((HCS.out.2.1.trans (H5.out.2.1.mono hws)).alloc (by omega) _) hcw⟩
  · have hq : dget P d = none := by cases e : dget P d with
      | none => rfl
      | some q => rw [e] at HB0; cases HB0
    have HQ := Lib.hid hq
    clear hq HB0
    go_wp2_with (first
      | (refine wpl_storeD (vs := zero4) _ _ rfl rfl rfl rfl HCS.out.1 rfl rfl (ones4D 0 0 0 none 0 0) ?_)
      | fail)
    have hfin := setRow_heap wc _ _ zero4 _ _ HCS.out.1
    have hlv := run_lvC (y := (0, 0, 0, none, 0, 0)) hfin
    exact bodyPost_ret (v := .tuple #[.agg zero4, .bool false]) (results_cellT Tryz.results24 rfl rfl hlv) rfl ⟨.inl ⟨HQ.out, rfl⟩, setRow_below HCS.out.2.1 (by have := HW.out.2.2.1; omega)⟩
end Go.Proofs.YtcfcfijmfgnpfaaGreatDoor
end

section
namespace Go.Proofs.YtcfcfijmfgnpfaaGreatDoor
open Go.RowKit Go.Maps
set_option linter.unusedVariables false
set_option linter.unusedSimpArgs false

def unnE (P : List (Dg × (Int × Cl))) (U : List (Dg × Int)) (who : Int) (d : Dg) : Int := match dget P d with
  | none => 4
  | some q => if q.1 ≠ who then 8 else if wantN U d > 0 then 9 else 0
def unnP (P : List (Dg × (Int × Cl))) (U : List (Dg × Int)) (who : Int) (d : Dg) : List (Dg × (Int × Cl)) := if unnE P U who d = 0 then ddel P d else P
def unnA (A : Acc) (P : List (Dg × (Int × Cl))) (U : List (Dg × Int)) (who : Int) (d : Dg) : Acc := if unnE P U who d = 0 then unheld A who 5 who else A
set_option maxRecDepth 100000 in
set_option maxHeartbeats 2000000 in
theorem pre_Unnote_none {pb g : Nat} {A : Acc} {M : Cls Int} {P : List (Dg × (Int × Cl))} {U : List (Dg × Int)} {F : FP} {w : World} (h : ((ldM g A M).star (prM pb P U)).is F w) (d : Dg) (who : Int) (hd : dget P d = none) : Calls Tryz.prog 18 #[.pointer (some ⟨pb, 0, none⟩), .pointer (some ⟨g, 0, none⟩), .int .i64 who, .agg (Bs d.s).toArray] w fun e w' => e = .returned (.int .i64 4) ∧ Below w.heap.size w w' := by
  obtain ⟨W, hW⟩ : ∃ W, W = w.alloc (.cells (Bs d.s).toArray 41) := ⟨_, rfl⟩
  obtain ⟨hb, hhb⟩ : ∃ b, b = w.heap.size := ⟨_, rfl⟩
  have hB : Below w.heap.size w W := by rw [hW]; exact (Below.refl _ w).alloc (Nat.le_refl _) _
  have hSW := Mem.below h hB
  have hpr := hSW
  obtain ⟨B0, hpW0, hBF, -⟩ := Mem.r hpr
  obtain ⟨o, o2, m, hpW⟩ := hpW0
  have hbox : W.rangeAt hb 0 (Bs d.s) := by rw [hW, hhb]; exact hashBox
  have hhl : hb < W.heap.size := by rw [hW, hhb]; simp
  obtain ⟨x, hlk, hx1, hx2⟩ := hpW.note_look d
  obtain ⟨bo, hbo⟩ : ∃ b, b = (dget P d).isSome := ⟨_, rfl⟩
  obtain ⟨xw, hxw⟩ : ∃ b, b = x.who := ⟨_, rfl⟩
  obtain ⟨ao, xn, xc, hxv⟩ : ∃ ao n c, x.v = .slice ao n c := ⟨_, _, _, rfl⟩
  rw [← hbo, ← hxw, hxv] at hlk
  have hkeep : ∀ V : World, (∀ k, k < W.heap.size → V.heap[k]? = W.heap[k]?) → V.cell? ⟨pb, 0, none⟩ = some (.map o) ∧ V.rangeAt hb 0 (Bs d.s) ∧ (Instr.lookup 91 (.map o) (.agg (Bs d.s).toArray) true).run Tryz.prog V = .ok (.tuple #[.agg #[.int .i64 xw, .slice ao xn xc], .bool bo]) V := fun V hV =>
    ⟨(World.cell?_of_block (a := ⟨pb, 0, none⟩) (hV pb (hpW.lt pb hpW.own))).trans hpW.c0, rangeAt_block hbox (hV hb hhl), hlk V (fun b e => hV b (hpW.mo.lt e))⟩
  have hfo := found_of W x
  rw [← hxw, hxv] at hfo
  have HFO := Lib.hid hfo
  have HK := Lib.hid hkeep
  have hu := Tryz.underlying41
  have hsz := infoHD d
  have HW := Lib.hid (And.intro hW (And.intro hhb (And.intro hB hhl)))
  have HX := Lib.hid (And.intro hxw (And.intro hxv hbo))
  have HS := Lib.hid hSW
  have HBX := Lib.hid hbox
  have hq0 : ∀ q, dget P d = some q → xw = q.1 := fun q hq => by rw [hxw]; exact (hx1 q hq).2.who
  have HQ0 := Lib.hid hq0
  clear hW hhb hB hpW hbox hlk hx1 hx2 hkeep hxw hxv hbo hfo hSW hpr hBF hhl hq0
  go_enter Tryz.func18, Tryz.ntmps18
  go_upto_region 1 with fail
  rw [← HW.out.1, ← HW.out.2.1]
  go_upto_region 3 with fail
  apply wp_meetF (S := fun wc => Found W x wc)
  case h =>
    go_region_held3 (fun w' => w'.cell? ⟨pb, 0, none⟩ = some (.map o) ∧ w'.rangeAt hb 0 (Bs d.s) ∧ (Instr.lookup 91 (.map o) (.agg (Bs d.s).toArray) true).run Tryz.prog w' = .ok (.tuple #[.agg #[.int .i64 xw, .slice ao xn xc], .bool bo]) w') (first | exact HK.out _ (fun k hk => rfl) | exact HK.out _ (fun k hk => Below.heap_alloc _ _ _ hk)) (fail)
    all_goals exact ⟨rfl, HFO.out⟩
  intro wc hfc
  have hbw : Below w.heap.size w wc := HW.out.2.2.1.trans (hfc.2.mono HW.out.2.2.1.size)
  obtain ⟨nb, hnb⟩ : ∃ b, b = W.heap.size := ⟨_, rfl⟩
  have hnt : wc.heap[nb]? = some (.cells #[.int .i64 xw, .slice ao xn xc] 101 (0, 0)) := by rw [hnb, HX.out.1, ← HX.out.2.1]; exact hfc.1
  have n0 : wc.cell? ⟨nb, 0, none⟩ = some (.int .i64 xw) := by rw [World.cell?, hnt]; rfl
  have hS := Mem.below HS.out hfc.2
  have hbx : wc.rangeAt hb 0 (Bs d.s) := rangeAt_block HBX.out (hfc.2.block hb HW.out.2.2.2)
  rw [← hnb]
  have HC := Lib.hid (And.intro hbw (And.intro hS hbx))
  have BO := Lib.hid HX.out.2.2
  clear hbw hnt hfc hnb hS hbx
  obtain rfl : bo = false := by rw [BO.out, hd]; rfl
  clear BO hd h
  go_wp2_with fail
  exact bodyPost_ret (v := .int .i64 4) (by simp [results, Tryz.results18, go_sem]) rfl ⟨rfl, HC.out.1⟩
set_option maxRecDepth 100000 in
set_option maxHeartbeats 2000000 in
theorem pre_Unnote_other {pb g : Nat} {A : Acc} {M : Cls Int} {P : List (Dg × (Int × Cl))} {U : List (Dg × Int)} {F : FP} {w : World} (h : ((ldM g A M).star (prM pb P U)).is F w) (d : Dg) (who : Int) {q : Int × Cl} (hd : dget P d = some q) (hw : q.1 ≠ who) : Calls Tryz.prog 18 #[.pointer (some ⟨pb, 0, none⟩), .pointer (some ⟨g, 0, none⟩), .int .i64 who, .agg (Bs d.s).toArray] w fun e w' => e = .returned (.int .i64 8) ∧ Below w.heap.size w w' := by
  obtain ⟨W, hW⟩ : ∃ W, W = w.alloc (.cells (Bs d.s).toArray 41) := ⟨_, rfl⟩
  obtain ⟨hb, hhb⟩ : ∃ b, b = w.heap.size := ⟨_, rfl⟩
  have hB : Below w.heap.size w W := by rw [hW]; exact (Below.refl _ w).alloc (Nat.le_refl _) _
  have hSW := Mem.below h hB
  have hpr := hSW
  obtain ⟨B0, hpW0, hBF, -⟩ := Mem.r hpr
  obtain ⟨o, o2, m, hpW⟩ := hpW0
  have hbox : W.rangeAt hb 0 (Bs d.s) := by rw [hW, hhb]; exact hashBox
  have hhl : hb < W.heap.size := by rw [hW, hhb]; simp
  obtain ⟨x, hlk, hx1, hx2⟩ := hpW.note_look d
  obtain ⟨bo, hbo⟩ : ∃ b, b = (dget P d).isSome := ⟨_, rfl⟩
  obtain ⟨xw, hxw⟩ : ∃ b, b = x.who := ⟨_, rfl⟩
  obtain ⟨ao, xn, xc, hxv⟩ : ∃ ao n c, x.v = .slice ao n c := ⟨_, _, _, rfl⟩
  rw [← hbo, ← hxw, hxv] at hlk
  have hkeep : ∀ V : World, (∀ k, k < W.heap.size → V.heap[k]? = W.heap[k]?) → V.cell? ⟨pb, 0, none⟩ = some (.map o) ∧ V.rangeAt hb 0 (Bs d.s) ∧ (Instr.lookup 91 (.map o) (.agg (Bs d.s).toArray) true).run Tryz.prog V = .ok (.tuple #[.agg #[.int .i64 xw, .slice ao xn xc], .bool bo]) V := fun V hV =>
    ⟨(World.cell?_of_block (a := ⟨pb, 0, none⟩) (hV pb (hpW.lt pb hpW.own))).trans hpW.c0, rangeAt_block hbox (hV hb hhl), hlk V (fun b e => hV b (hpW.mo.lt e))⟩
  have hfo := found_of W x
  rw [← hxw, hxv] at hfo
  have HFO := Lib.hid hfo
  have HK := Lib.hid hkeep
  have hu := Tryz.underlying41
  have hsz := infoHD d
  have HW := Lib.hid (And.intro hW (And.intro hhb (And.intro hB hhl)))
  have HX := Lib.hid (And.intro hxw (And.intro hxv hbo))
  have HS := Lib.hid hSW
  have HBX := Lib.hid hbox
  have hq0 : ∀ q, dget P d = some q → xw = q.1 := fun q hq => by rw [hxw]; exact (hx1 q hq).2.who
  have HQ0 := Lib.hid hq0
  clear hW hhb hB hpW hbox hlk hx1 hx2 hkeep hxw hxv hbo hfo hSW hpr hBF hhl hq0
  go_enter Tryz.func18, Tryz.ntmps18
  go_upto_region 1 with fail
  rw [← HW.out.1, ← HW.out.2.1]
  go_upto_region 3 with fail
  apply wp_meetF (S := fun wc => Found W x wc)
  case h =>
    go_region_held3 (fun w' => w'.cell? ⟨pb, 0, none⟩ = some (.map o) ∧ w'.rangeAt hb 0 (Bs d.s) ∧ (Instr.lookup 91 (.map o) (.agg (Bs d.s).toArray) true).run Tryz.prog w' = .ok (.tuple #[.agg #[.int .i64 xw, .slice ao xn xc], .bool bo]) w') (first | exact HK.out _ (fun k hk => rfl) | exact HK.out _ (fun k hk => Below.heap_alloc _ _ _ hk)) (fail)
    all_goals exact ⟨rfl, HFO.out⟩
  intro wc hfc
  have hbw : Below w.heap.size w wc := HW.out.2.2.1.trans (hfc.2.mono HW.out.2.2.1.size)
  obtain ⟨nb, hnb⟩ : ∃ b, b = W.heap.size := ⟨_, rfl⟩
  have hnt : wc.heap[nb]? = some (.cells #[.int .i64 xw, .slice ao xn xc] 101 (0, 0)) := by rw [hnb, HX.out.1, ← HX.out.2.1]; exact hfc.1
  have n0 : wc.cell? ⟨nb, 0, none⟩ = some (.int .i64 xw) := by rw [World.cell?, hnt]; rfl
  have hS := Mem.below HS.out hfc.2
  have hbx : wc.rangeAt hb 0 (Bs d.s) := rangeAt_block HBX.out (hfc.2.block hb HW.out.2.2.2)
  rw [← hnb]
  have HC := Lib.hid (And.intro hbw (And.intro hS hbx))
  have BO := Lib.hid HX.out.2.2
  clear hbw hnt hfc hnb hS hbx
  obtain rfl : bo = true := by rw [BO.out, hd]; rfl
  clear BO
  have g1 : (xw != who) = true := by rw [HQ0.out q hd]; simpa using hw
  clear hd h hw
  go_wp2_with fail
  exact bodyPost_ret (v := .int .i64 8) (by simp [results, Tryz.results18, go_sem]) rfl ⟨rfl, HC.out.1⟩
set_option maxRecDepth 100000 in
set_option maxHeartbeats 2000000 in
theorem pre_Unnote_wanted {pb g : Nat} {A : Acc} {M : Cls Int} {P : List (Dg × (Int × Cl))} {U : List (Dg × Int)} {F : FP} {w : World} (h : ((ldM g A M).star (prM pb P U)).is F w) (d : Dg) (who : Int) {q : Int × Cl} (hd : dget P d = some q) (hw : q.1 = who) (hn : wantN U d > 0) : Calls Tryz.prog 18 #[.pointer (some ⟨pb, 0, none⟩), .pointer (some ⟨g, 0, none⟩), .int .i64 who, .agg (Bs d.s).toArray] w fun e w' => e = .returned (.int .i64 9) ∧ Below w.heap.size w w' := by
  obtain ⟨W, hW⟩ : ∃ W, W = w.alloc (.cells (Bs d.s).toArray 41) := ⟨_, rfl⟩
  obtain ⟨hb, hhb⟩ : ∃ b, b = w.heap.size := ⟨_, rfl⟩
  have hB : Below w.heap.size w W := by rw [hW]; exact (Below.refl _ w).alloc (Nat.le_refl _) _
  have hSW := Mem.below h hB
  have hpr := hSW
  obtain ⟨B0, hpW0, hBF, -⟩ := Mem.r hpr
  obtain ⟨o, o2, m, hpW⟩ := hpW0
  have hbox : W.rangeAt hb 0 (Bs d.s) := by rw [hW, hhb]; exact hashBox
  have hhl : hb < W.heap.size := by rw [hW, hhb]; simp
  obtain ⟨x, hlk, hx1, hx2⟩ := hpW.note_look d
  obtain ⟨bo, hbo⟩ : ∃ b, b = (dget P d).isSome := ⟨_, rfl⟩
  obtain ⟨xw, hxw⟩ : ∃ b, b = x.who := ⟨_, rfl⟩
  obtain ⟨ao, xn, xc, hxv⟩ : ∃ ao n c, x.v = .slice ao n c := ⟨_, _, _, rfl⟩
  rw [← hbo, ← hxw, hxv] at hlk
  have hkeep : ∀ V : World, (∀ k, k < W.heap.size → V.heap[k]? = W.heap[k]?) → V.cell? ⟨pb, 0, none⟩ = some (.map o) ∧ V.rangeAt hb 0 (Bs d.s) ∧ (Instr.lookup 91 (.map o) (.agg (Bs d.s).toArray) true).run Tryz.prog V = .ok (.tuple #[.agg #[.int .i64 xw, .slice ao xn xc], .bool bo]) V := fun V hV =>
    ⟨(World.cell?_of_block (a := ⟨pb, 0, none⟩) (hV pb (hpW.lt pb hpW.own))).trans hpW.c0, rangeAt_block hbox (hV hb hhl), hlk V (fun b e => hV b (hpW.mo.lt e))⟩
  have hfo := found_of W x
  rw [← hxw, hxv] at hfo
  have HFO := Lib.hid hfo
  have HK := Lib.hid hkeep
  have hu := Tryz.underlying41
  have hsz := infoHD d
  have HW := Lib.hid (And.intro hW (And.intro hhb (And.intro hB hhl)))
  have HX := Lib.hid (And.intro hxw (And.intro hxv hbo))
  have HS := Lib.hid hSW
  have HBX := Lib.hid hbox
  have hq0 : ∀ q, dget P d = some q → xw = q.1 := fun q hq => by rw [hxw]; exact (hx1 q hq).2.who
  have HQ0 := Lib.hid hq0
  clear hW hhb hB hpW hbox hlk hx1 hx2 hkeep hxw hxv hbo hfo hSW hpr hBF hhl hq0
  go_enter Tryz.func18, Tryz.ntmps18
  go_upto_region 1 with fail
  rw [← HW.out.1, ← HW.out.2.1]
  go_upto_region 3 with fail
  apply wp_meetF (S := fun wc => Found W x wc)
  case h =>
    go_region_held3 (fun w' => w'.cell? ⟨pb, 0, none⟩ = some (.map o) ∧ w'.rangeAt hb 0 (Bs d.s) ∧ (Instr.lookup 91 (.map o) (.agg (Bs d.s).toArray) true).run Tryz.prog w' = .ok (.tuple #[.agg #[.int .i64 xw, .slice ao xn xc], .bool bo]) w') (first | exact HK.out _ (fun k hk => rfl) | exact HK.out _ (fun k hk => Below.heap_alloc _ _ _ hk)) (fail)
    all_goals exact ⟨rfl, HFO.out⟩
  intro wc hfc
  have hbw : Below w.heap.size w wc := HW.out.2.2.1.trans (hfc.2.mono HW.out.2.2.1.size)
  obtain ⟨nb, hnb⟩ : ∃ b, b = W.heap.size := ⟨_, rfl⟩
  have hnt : wc.heap[nb]? = some (.cells #[.int .i64 xw, .slice ao xn xc] 101 (0, 0)) := by rw [hnb, HX.out.1, ← HX.out.2.1]; exact hfc.1
  have n0 : wc.cell? ⟨nb, 0, none⟩ = some (.int .i64 xw) := by rw [World.cell?, hnt]; rfl
  have hS := Mem.below HS.out hfc.2
  have hbx : wc.rangeAt hb 0 (Bs d.s) := rangeAt_block HBX.out (hfc.2.block hb HW.out.2.2.2)
  rw [← hnb]
  have HC := Lib.hid (And.intro hbw (And.intro hS hbx))
  have BO := Lib.hid HX.out.2.2
  clear hbw hnt hfc hnb hS hbx
  obtain rfl : bo = true := by rw [BO.out, hd]; rfl
  clear BO
  have g1 : (xw != who) = false := by rw [HQ0.out q hd]; simpa using hw
  obtain ⟨B1, hp1, -, -⟩ := Mem.r HC.out.2.1
  have hwt := pre_Wanted hp1 d
  obtain ⟨n, hne⟩ : ∃ n, n = wantN U d := ⟨_, rfl⟩
  rw [← hne] at hwt hn
  have g2 : 0 < n := hn
  have HWT := Lib.hid hwt
  have hbx := HC.out.2.2
  have HBX2 := Lib.hid hbx
  clear hd h hw hwt hne hn hp1 hbx
  go_wp2_with (first
    | (refine wpl_loadR (r := hshR) (t := d) _ rfl rfl rfl HBX2.out ?_)
    | (go_at_call 26; refine HWT.out.mono ?_; rintro e wq ⟨rfl, hb⟩; have H1 := Lib.hid hb; clear hb)
    | fail)
  exact bodyPost_ret (v := .int .i64 9) (by simp [results, Tryz.results18, go_sem]) rfl ⟨rfl, HC.out.1.trans (H1.out.mono HC.out.1.size)⟩
set_option maxRecDepth 100000 in
set_option maxHeartbeats 2000000 in
theorem pre_Unnote_ok {pb g : Nat} {A : Acc} {M : Cls Int} {P : List (Dg × (Int × Cl))} {U : List (Dg × Int)} {F : FP} {w : World} (h : ((ldM g A M).star (prM pb P U)).is F w) (d : Dg) (who : Int) {q : Int × Cl} (hd : dget P d = some q) (hw : q.1 = who) (hn : wantN U d ≤ 0) : Calls Tryz.prog 18 #[.pointer (some ⟨pb, 0, none⟩), .pointer (some ⟨g, 0, none⟩), .int .i64 who, .agg (Bs d.s).toArray] w fun e w' => e = .returned (.int .i64 0) ∧ ((ldM g (unheld A who 5 who) M).star (prM pb (ddel P d) U)).to F w w' := by
  obtain ⟨W, hW⟩ : ∃ W, W = w.alloc (.cells (Bs d.s).toArray 41) := ⟨_, rfl⟩
  obtain ⟨hb, hhb⟩ : ∃ b, b = w.heap.size := ⟨_, rfl⟩
  have hB : Below w.heap.size w W := by rw [hW]; exact (Below.refl _ w).alloc (Nat.le_refl _) _
  have hSW := Mem.below h hB
  have hpr := hSW
  obtain ⟨B0, hpW0, hBF, -⟩ := Mem.r hpr
  obtain ⟨o, o2, m, hpW⟩ := hpW0
  have hbox : W.rangeAt hb 0 (Bs d.s) := by rw [hW, hhb]; exact hashBox
  have hhl : hb < W.heap.size := by rw [hW, hhb]; simp
  obtain ⟨x, hlk, hx1, hx2⟩ := hpW.note_look d
  obtain ⟨bo, hbo⟩ : ∃ b, b = (dget P d).isSome := ⟨_, rfl⟩
  obtain ⟨xw, hxw⟩ : ∃ b, b = x.who := ⟨_, rfl⟩
  obtain ⟨ao, xn, xc, hxv⟩ : ∃ ao n c, x.v = .slice ao n c := ⟨_, _, _, rfl⟩
  rw [← hbo, ← hxw, hxv] at hlk
  have hkeep : ∀ V : World, (∀ k, k < W.heap.size → V.heap[k]? = W.heap[k]?) → V.cell? ⟨pb, 0, none⟩ = some (.map o) ∧ V.rangeAt hb 0 (Bs d.s) ∧ (Instr.lookup 91 (.map o) (.agg (Bs d.s).toArray) true).run Tryz.prog V = .ok (.tuple #[.agg #[.int .i64 xw, .slice ao xn xc], .bool bo]) V := fun V hV =>
    ⟨(World.cell?_of_block (a := ⟨pb, 0, none⟩) (hV pb (hpW.lt pb hpW.own))).trans hpW.c0, rangeAt_block hbox (hV hb hhl), hlk V (fun b e => hV b (hpW.mo.lt e))⟩
  have hfo := found_of W x
  rw [← hxw, hxv] at hfo
  have HFO := Lib.hid hfo
  have HK := Lib.hid hkeep
  have hu := Tryz.underlying41
  have hsz := infoHD d
  have HW := Lib.hid (And.intro hW (And.intro hhb (And.intro hB hhl)))
  have HX := Lib.hid (And.intro hxw (And.intro hxv hbo))
  have HS := Lib.hid hSW
  have HBX := Lib.hid hbox
  have hq0 : ∀ q, dget P d = some q → xw = q.1 := fun q hq => by rw [hxw]; exact (hx1 q hq).2.who
  have HQ0 := Lib.hid hq0
  clear hW hhb hB hpW hbox hlk hx1 hx2 hkeep hxw hxv hbo hfo hSW hpr hBF hhl hq0
  go_enter Tryz.func18, Tryz.ntmps18
  go_upto_region 1 with fail
  rw [← HW.out.1, ← HW.out.2.1]
  go_upto_region 3 with fail
  apply wp_meetF (S := fun wc => Found W x wc)
  case h =>
    go_region_held3 (fun w' => w'.cell? ⟨pb, 0, none⟩ = some (.map o) ∧ w'.rangeAt hb 0 (Bs d.s) ∧ (Instr.lookup 91 (.map o) (.agg (Bs d.s).toArray) true).run Tryz.prog w' = .ok (.tuple #[.agg #[.int .i64 xw, .slice ao xn xc], .bool bo]) w') (first | exact HK.out _ (fun k hk => rfl) | exact HK.out _ (fun k hk => Below.heap_alloc _ _ _ hk)) (fail)
    all_goals exact ⟨rfl, HFO.out⟩
  intro wc hfc
  have hbw : Below w.heap.size w wc := HW.out.2.2.1.trans (hfc.2.mono HW.out.2.2.1.size)
  obtain ⟨nb, hnb⟩ : ∃ b, b = W.heap.size := ⟨_, rfl⟩
  have hnt : wc.heap[nb]? = some (.cells #[.int .i64 xw, .slice ao xn xc] 101 (0, 0)) := by rw [hnb, HX.out.1, ← HX.out.2.1]; exact hfc.1
  have n0 : wc.cell? ⟨nb, 0, none⟩ = some (.int .i64 xw) := by rw [World.cell?, hnt]; rfl
  have hS := Mem.below HS.out hfc.2
  have hbx : wc.rangeAt hb 0 (Bs d.s) := rangeAt_block HBX.out (hfc.2.block hb HW.out.2.2.2)
  rw [← hnb]
  have HC := Lib.hid (And.intro hbw (And.intro hS hbx))
  have BO := Lib.hid HX.out.2.2
  clear hbw hnt hfc hnb hS hbx
  obtain rfl : bo = true := by rw [BO.out, hd]; rfl
  clear BO
  have g1 : (xw != who) = false := by rw [HQ0.out q hd]; simpa using hw
  obtain ⟨B1, hp1, -, -⟩ := Mem.r HC.out.2.1
  have hwt := pre_Wanted hp1 d
  obtain ⟨n, hne⟩ : ∃ n, n = wantN U d := ⟨_, rfl⟩
  rw [← hne] at hwt hn
  have g2 : ¬ 0 < n := by omega
  have HWT := Lib.hid hwt
  have hbx := HC.out.2.2
  have HBX2 := Lib.hid hbx
  have hrel : ∀ wq, ((ldM g A M).star (prM pb P U)).is F wq → Calls Tryz.prog 50 #[.pointer (some ⟨g, 0, none⟩), .int .i64 who, .int .i64 5] wq fun e w' => (∃ r, e = .returned (.int .i64 r)) ∧ ((ldM g (unheld A who 5 who) M).star (prM pb P U)).to F wq w' := fun wq hq => by
    obtain ⟨L, hl, -, ht⟩ := Mem.l hq
    refine (ledger_ReleaseX (show LdX g 0 A M L wq from hl) who 5).mono ?_
    rintro e w' ⟨rfl, h2⟩
    exact ⟨⟨_, rfl⟩, ht (ldM g (unheld A who 5 who) M) w' h2⟩
  have HREL := Lib.hid hrel
  have hFh : ¬ F hb := fun e => by have := ((ldM g A M).star (prM pb P U)).lt h e; have := HW.out.2.1; omega
  have HFH := Lib.hid hFh
  have HD := Lib.hid hd
  clear hd h hw hwt hne hn hp1 hbx hrel hFh
  go_upto_region 11 with (first
    | (refine wpl_loadR (r := hshR) (t := d) _ rfl rfl rfl HBX2.out ?_)
    | (go_at_call 26; refine HWT.out.mono ?_; rintro e wq ⟨rfl, hb⟩; have H1 := Lib.hid hb; clear hb)
    | (go_at_call 50; refine (HREL.out wq (Mem.below HC.out.2.1 H1.out)).mono ?_; rintro e wr ⟨⟨r, rfl⟩, ht⟩; have H2 := Lib.hid ht; clear ht)
    | fail)
  have hq1 := Mem.below HC.out.2.1 H1.out
  have hbq : Below w.heap.size w wq := HC.out.1.trans (H1.out.mono HC.out.1.size)
  obtain ⟨F2, hs2, hf2, hon⟩ := H2.out
  obtain ⟨B2, hp2, hBF2, hto2⟩ := Mem.r hs2
  obtain ⟨o', o2', m', hpr⟩ := hp2
  obtain ⟨b, rfl⟩ : ∃ b, o' = some b := by
    rcases hpr.mo with ⟨-, e⟩ | ⟨b, e, -⟩
    · have := (hpr.rel.2 d).1.1 (by rw [e]; rfl)
      rw [HD.out] at this; cases this
    · exact ⟨b, e⟩
  have hm : MapD codNt b m' wr.drew := by
    rcases hpr.mo with ⟨e, -⟩ | ⟨b', e, q⟩
    · cases e
    · cases e; exact q.block (w' := wr.drew) rfl
  have hbq1 : wq.rangeAt hb 0 (Bs d.s) := rangeAt_block HBX2.out (H1.out.block hb (hash_lt HBX2.out))
  have hbox : wr.drew.rangeAt hb 0 (Bs d.s) := rangeAt_block (w := wq) hbq1 (hon.block hb (hash_lt hbq1) HFH.out (fun e => e))
  obtain ⟨w2, e1, e2, e3, e4⟩ := hm.drop Tryz.underlying91 d 0
  have e1 : (Builtin.delete_ #[91, 41] 0 #[.map (some b), .agg (Bs d.s).toArray]).run Tryz.prog wr.drew = .ok (.tuple #[]) w2 := e1
  have hbb : b ≠ pb := hpr.pbNe.1 b rfl
  have hbh : b ≠ hb := by
    intro q
    obtain ⟨es, cl, hh⟩ := hpr.mo.notCells rfl
    exact hash_noMap hbox (by rw [← q]; exact hh)
  have k1 : wr.drew.cell? ⟨pb, 0, none⟩ = some (.map (some b)) := hpr.c0
  have hrel2 : NtRel B2 wr (ddel m' d) (ddel P d) := ⟨hpr.rel.1.del d, fun j => by
    rw [hm.srt.get_del, hpr.rel.1.get_del]
    by_cases e : j = d
    · simp [e]
    · simp only [e, if_false]; exact hpr.rel.2 j⟩
  have KA := Lib.hid (And.intro k1 hbox)
  have KC := Lib.hid (And.intro ((World.cell?_of_block (a := ⟨pb, 0, none⟩) (e3.block pb (hpr.lt pb hpr.own) (fun q => by cases q; exact hbb rfl))).trans k1) (rangeAt_block hbox (e3.block _ (hash_lt hbox) (fun q => by cases q; exact hbh rfl))))
  have hset := hpr.setM (w' := w2) (P' := ddel P d) (m' := ddel m' d) rfl e2 hrel2 ⟨e3.os, e3.tape, e3.output, e3.size, e3.block⟩
  have HQ := Lib.hid (Mem.to_then (F := F) (w := wq) ⟨F2, hs2, hf2, hon, hto2 _ _ hset⟩)
  have HBQ := Lib.hid hbq
  clear hpr hm hbox e2 e3 e4 hbb hbh k1 hbq hbq1 hset hrel2 hto2 hs2 hf2 hon hBF2 hq1
  go_region_held3 (fun w' => w'.cell? ⟨pb, 0, none⟩ = some (.map (some b)) ∧ w'.rangeAt hb 0 (Bs d.s)) (first | exact KA.out | exact KC.out) (fail)
  all_goals
    try go_wp2_with fail
    exact bodyPost_ret (v := .int .i64 0) (by simp [results, Tryz.results18, go_sem]) rfl ⟨rfl, Mem.to_later HBQ.out HQ.out⟩
end Go.Proofs.YtcfcfijmfgnpfaaGreatDoor
end

section
namespace Go.Proofs.YtcfcfijmfgnpfaaGreatDoor
open Go.RowKit Go.Maps
set_option linter.unusedVariables false
set_option linter.unusedSimpArgs false

section
variable {P : Program} {α : Type} {r : RowTy P α} {w w' : World} {v u : Value} {xs ys : List α} {B : Nat}
theorem RdR.take {ao : Option Addr} {n cap : Nat} (h : RdR r w (.slice ao n cap) xs) {k : Nat} (hk : k ≤ xs.length) : RdR r w (sliced ao 0 k cap r.k) (xs.take k) := by
  rcases h with ⟨e, rfl⟩ | ⟨b, off, c, e, hc, hb, hr⟩
  · injection e with e1 e2 e3
    subst e1 e2 e3
    have : k = 0 := by simpa using hk
    subst this
    exact .inl ⟨by simp [sliced], by simp⟩
  · injection e with e1 e2 e3
    subst e1 e3
    have hl : (xs.take k).length = k := by simp; omega
    refine .inr ⟨b, off, cap, by rw [hl]; simp [sliced, Addr.add], by rw [hl]; omega, hb, fun j u hj => hr j u ?_⟩
    rw [← List.take_append_drop k xs, r.all_append, List.getElem?_append_left (List.getElem?_eq_some_iff.1 hj).1]
    exact hj
theorem RdR.drop {ao : Option Addr} {n cap : Nat} (h : RdR r w (.slice ao n cap) xs) {k : Nat} (hk : k ≤ xs.length) : RdR r w (sliced ao k n cap r.k) (xs.drop k) := by
  rcases h with ⟨e, rfl⟩ | ⟨b, off, c, e, hc, hb, hr⟩
  · injection e with e1 e2 e3
    subst e1 e2 e3
    have : k = 0 := by simpa using hk
    subst this
    exact .inl ⟨by simp [sliced], by simp⟩
  · injection e with e1 e2 e3
    subst e1 e2 e3
    have hl : (xs.drop k).length = xs.length - k := by simp
    by_cases hkc : cap = k
    · have hd : xs.drop k = [] := List.drop_of_length_le (by omega)
      rw [hd]
      refine .inr ⟨b, off, 0, ?_, Nat.le_refl _, hb, fun j u hj => by simp [RowTy.all] at hj⟩
      simp only [sliced, if_pos hkc, List.length_nil]
      congr 1 <;> omega
    · refine .inr ⟨b, off + k * r.k, cap - k, by rw [hl]; simp [sliced, hkc, Addr.add], by rw [hl]; omega, hb, fun j u hj => ?_⟩
      have hdl : (r.all (xs.take k)).length = k * r.k := by rw [r.all_len, List.length_take, Nat.min_eq_left hk]
      have := hr (k * r.k + j) u (by
        rw [← List.take_append_drop k xs, r.all_append, List.getElem?_append_right (by rw [hdl]; omega), hdl, Nat.add_sub_cancel_left]
        exact hj)
      rwa [← Nat.add_assoc] at this
theorem OwnR.none {b : Nat} (h : w.heap[b]? = some (.cells #[] r.T (0, 0))) (hB : B ≤ b) : OwnR r B (.slice (some ⟨b, 0, none⟩) 0 0) [] w :=
  ⟨by simp [RowTy.all], .inr ⟨b, 0, #[], rfl, hB, h, Nat.le_refl _, by unfold maxLen; omega, by simp, by simp [RowTy.all]⟩⟩
theorem run_noneR (w : World) : (Instr.buildSlice r.S 0 #[]).run P w = .ok (.slice (some ⟨w.heap.size, 0, none⟩) 0 0) (w.alloc (.cells #[] r.T)) := by
  obtain ⟨i0, z, b, h1, h2, h3, h4, h5, h6⟩ := r.info
  simp [Instr.buildSlice, run_underlying r.slice, sizeOf, typeInfo, h1, newRow, Instr.fill]
  have e : ∀ f : Nat → Value, Array.map f (Array.range 0) = #[] := fun f => Array.eq_empty_of_size_eq_zero (by simp)
  rw [e]
theorem run_appsR (hown : OwnR r B v xs w) (hr : RdR r w u ys) (hlen : xs.length + ys.length ≤ 1000000) (hB : B ≤ w.heap.size) (ty : TypeId) :
    ∃ v' w', (Builtin.append_ #[r.S, r.S] ty #[v, u]).run P w = .ok v' w' ∧ OwnR r B v' (xs ++ ys) w' ∧ w.grownBy w' v.ownBlock ∧ (v'.ownBlock = v.ownBlock ∨ v'.ownBlock = some w.heap.size) := by
  obtain ⟨i0, z, b, h1, h2, h3, h4, h5, h6⟩ := r.info
  rcases hr with ⟨rfl, rfl⟩ | ⟨bb, off, cap, rfl, hc, hb, hcell⟩
  · exact ⟨v, w, run_append_owned_none (P := P) (w := w) B r.S ty r.T i0 r.k r.slice h1 v _ _ hown, by rw [List.append_nil]; exact hown, ⟨rfl, rfl, rfl, Nat.le_refl _, fun _ _ _ => rfl⟩, .inl rfl⟩
  · have hby : (xs.length + ys.length) * b ≤ 140737488355328 := Nat.le_trans (Nat.mul_le_mul hlen h6) (by omega)
    obtain ⟨v', w', e1, e2, e3, e4, e5⟩ := run_append_own_at (P := P) (w := w) B r.S ty r.T i0 (.agg z) r.k b r.slice h1 h2 h3 h5 h4 r.pos v _ _ hown ⟨bb, off, none⟩ ys.length cap (r.all ys) (r.all_len ys)
      (fun j u hj => by rw [Addr.add_mid]; exact hcell j u hj) (r.all_ones ys) (by unfold maxLen; omega) hby hB
    refine ⟨v', w', e1, ?_, e3, e5⟩
    unfold OwnR
    rw [r.all_append, List.length_append]
    exact e2
section
variable {ops : Array Oper} {rest : List Oper} {o : Oper} {a : Act} {Q : Exit → Act → World → Prop}
theorem wpl_appsR {s x : Operand} (hgd : o.guard = none) (ho : o.op = .call { callee := .builtin .append, args := #[s, x], argTypes := #[r.S, r.S] }) (hs : a.eval s = v) (hx : a.eval x = u)
    (hown : OwnR r B v xs w) (hr : RdR r w u ys) (hlen : xs.length + ys.length ≤ 1000000) (hB : B ≤ w.heap.size)
    (h : ∀ v' w', OwnR r B v' (xs ++ ys) w' → w.grownBy w' v.ownBlock → (v'.ownBlock = v.ownBlock ∨ v'.ownBlock = some w.heap.size) → wpList P ops Q rest (a.put o.dst v') w') : wpList P ops Q (o :: rest) a w := by
  obtain ⟨v', w', hrun, h1, h2, h3⟩ := run_appsR hown hr hlen hB o.type
  refine wpList_plain hgd fun K hK => ?_
  unfold Oper.wp
  simp [execOp, ho, resolve, invoke, builtin, hs, hx, hrun, Result.andThen]
  exact hK _ _ (h v' w' h1 h2 h3)
theorem step_appsR {K : Act → World → Prop} {E : Prop} (hg : o.guard = none) (d x : Operand) (hop : o.op = Op.call { callee := Callee.builtin Builtin.append, args := #[d, x], argTypes := #[r.S, r.S] })
    (B : Nat) (v u : Value) (xs ys : List α) (hd : a.eval d = v) (hx : a.eval x = u) (hown : OwnR r B v xs w) (hr : RdR r w u ys) (hlen : xs.length + ys.length ≤ 1000000) (hB : B ≤ w.heap.size)
    (hK : ∀ v' w', OwnR r B v' (xs ++ ys) w' → w.grownBy w' v.ownBlock → (v'.ownBlock = v.ownBlock ∨ v'.ownBlock = some w.heap.size) → K (a.put o.dst v') w') :
    if Region.wanted o (yielded ops a.tmps) = true then Oper.wp P o a w K Q else E := by
  obtain ⟨v', w', hrun, h1, h2, h3⟩ := run_appsR hown hr hlen hB o.type
  have hw : Region.wanted o (yielded ops a.tmps) = true := by simp [Region.wanted, hg]
  rw [if_pos hw]
  unfold Oper.wp
  simp [execOp, hop, resolve, invoke, builtin, hd, hx, hrun, Result.andThen]
  exact hK _ _ h1 h2 h3
theorem wpl_sliceHi {ao : Option Addr} {n cap k : Nat} {x y : Operand} (hgd : o.guard = none) (ho : o.op = .slice r.S x none (some y) none) (hx : a.eval x = .slice ao n cap) (hy : a.eval y = .int .i64 k) (hk : k ≤ cap)
    (h : ∀ u, u = sliced ao 0 k cap r.k → wpList P ops Q rest (a.put o.dst u) w) : wpList P ops Q (o :: rest) a w := by
  obtain ⟨i0, z, b, h1, h2, h3, h4, h5, h6⟩ := r.info
  have hs : P.underlying r.S = some (.slice (P.elem r.S)) := by rw [r.slice]; simp [Program.elem, r.slice]
  have he : P.elem r.S = r.T := by simp [Program.elem, r.slice]
  refine wpList_plain hgd fun K hK => ?_
  unfold Oper.wp
  simp [execOp, ho, hx, hy, run_sliceAt_slice _ _ _ _ _ _ hs, run_slice_h _ _ _ _ _ hs _ _ (Int.natCast_nonneg k) (Int.ofNat_le.2 hk), he, sizeOf, typeInfo, h1, h3, Result.andThen]
  exact hK _ _ (h _ rfl)
theorem wpl_sliceLo {ao : Option Addr} {n cap k : Nat} {x y : Operand} (hgd : o.guard = none) (ho : o.op = .slice r.S x (some y) none none) (hx : a.eval x = .slice ao n cap) {zk : Int} (hy : a.eval y = .int .i64 zk) (hzk : zk = (k : Int)) (hk : k ≤ n)
    (h : ∀ u, u = sliced ao k n cap r.k → wpList P ops Q rest (a.put o.dst u) w) : wpList P ops Q (o :: rest) a w := by
  subst hzk
  obtain ⟨i0, z, b, h1, h2, h3, h4, h5, h6⟩ := r.info
  have hs : P.underlying r.S = some (.slice (P.elem r.S)) := by rw [r.slice]; simp [Program.elem, r.slice]
  have he : P.elem r.S = r.T := by simp [Program.elem, r.slice]
  refine wpList_plain hgd fun K hK => ?_
  unfold Oper.wp
  simp [execOp, ho, hx, hy, run_sliceAt_slice _ _ _ _ _ _ hs, run_slice_l _ _ _ _ _ hs _ _ (Int.natCast_nonneg k) (Int.ofNat_le.2 hk), he, sizeOf, typeInfo, h1, h3, Result.andThen]
  exact hK _ _ (h _ rfl)
theorem wpl_noneR (hgd : o.guard = none) (ho : o.op = .buildSlice r.S 0 #[])
    (h : wpList P ops Q rest (a.put o.dst (.slice (some ⟨w.heap.size, 0, none⟩) 0 0)) (w.alloc (.cells #[] r.T))) : wpList P ops Q (o :: rest) a w := by
  refine wpList_plain hgd fun K hK => ?_
  unfold Oper.wp
  simp [execOp, ho, run_noneR, Result.andThen]
  exact hK _ _ h
end
end
end Go.Proofs.YtcfcfijmfgnpfaaGreatDoor
end

section
namespace Go.Proofs.YtcfcfijmfgnpfaaGreatDoor
open Go.RowKit Go.Maps
set_option linter.unusedVariables false
set_option linter.unusedSimpArgs false

section
variable {P : Program} {α : Type} {r : RowTy P α} {w : World} {ops : Array Oper} {rest : List Oper} {o : Oper} {a : Act} {Q : Exit → Act → World → Prop}
theorem wpl_allocR {ty : TypeId} (ht : ty = r.T) (hgd : o.guard = none) (ho : o.op = .alloc ty)
    (h : ∀ C : Array Value, C.size = r.k → wpList P ops Q rest (a.put o.dst (.pointer (some ⟨w.heap.size, 0, none⟩))) (w.alloc (.cells C ty))) : wpList P ops Q (o :: rest) a w := by
  subst ht
  obtain ⟨i0, z, b, hi, hz0, h3, h4, _⟩ := r.info
  refine wpList_plain hgd fun K hK => ?_
  have := h z h4
  unfold Oper.wp execOp
  simp [ho, Instr.alloc, zeroValue, typeInfo, hi, hz0, newVar, newRow, Value.cells, go_sem]
  exact hK _ _ this
theorem run_storeR {b : Nat} {t : α} {C : Array Value} (hh : w.heap[b]? = some (.cells C r.T (0, 0))) (hC : C.size = r.k) : (Instr.storeAt r.T (.pointer (some ⟨b, 0, none⟩)) (.agg (r.f t).toArray)).run P w = .ok () (w.setRow b (r.f t).toArray) := by
  simp only [Instr.storeAt, Instr.sureAddr, Sem.run_bind, Sem.run_pure, Result.andThen_ok, run_storeVar_row w b r.T r.T C (r.f t).toArray hh (by rw [List.size_toArray, r.len]; exact r.sizeT) (by simp [r.len, hC]) (by rw [Array.all_eq_true_iff_forall_mem]; intro u hu; exact r.one t u (by simpa using hu))]
theorem wpl_storeR {ty : TypeId} {b : Nat} {t : α} {C : Array Value} (x y : Operand) (ht : ty = r.T) (hgd : o.guard = none) (ho : o.op = .store ty x y) (hx : a.eval x = .pointer (some ⟨b, 0, none⟩)) (hy : a.eval y = .agg (r.f t).toArray) (hh : w.heap[b]? = some (.cells C ty (0, 0))) (hC : C.size = r.k)
    (h : wpList P ops Q rest (a.put o.dst undef) (w.setRow b (r.f t).toArray)) : wpList P ops Q (o :: rest) a w := by
  subst ht
  refine wpList_plain hgd fun K hK => ?_
  unfold Oper.wp execOp
  simp only [ho, hx, hy, Sem.run_bind, Sem.run_pure, run_storeR hh hC, Result.andThen_ok]
  exact hK _ _ h
theorem run_varR {b : Nat} {t : α} (hr : w.rangeAt b 0 (r.f t)) : (loadVar r.T ⟨b, 0, none⟩).run P w = .ok (.agg (r.f t).toArray) w := by
  obtain ⟨d, h1, h2⟩ := r.row
  exact run_loadVar_mid w b 0 r.T (r.f t) d hr h1 h2 (by rw [r.len]; exact r.sizeT)
/-- What is handed back lies in a place of its own, and beside it a number. -/
theorem results_R2 {fn : Func} {p q : Tmp} (hf : fn.results = #[.cell p r.T, .tmp q]) {tmps : Array Value} {b : Nat} {t : α} {u : Value} (hp : tmps.getD p undef = .pointer (some ⟨b, 0, none⟩)) (hq : tmps.getD q undef = u) (hr : w.rangeAt b 0 (r.f t)) :
    (results fn tmps).run P w = .ok (.tuple #[.agg (r.f t).toArray, u]) w := by
  have hp' : tmps[p]?.getD undef = .pointer (some ⟨b, 0, none⟩) := by simpa using hp
  have hq' : tmps[q]?.getD undef = u := by simpa using hq
  unfold results
  rw [hf]
  simp [Array.mapM_eq_mapM_toList, hp', hq', asAddr, Sem.run_bind, run_varR hr, Result.andThen]
theorem results_R1 {fn : Func} {p : Tmp} (hf : fn.results = #[.cell p r.T]) {tmps : Array Value} {b : Nat} {t : α} (hp : tmps.getD p undef = .pointer (some ⟨b, 0, none⟩)) (hr : w.rangeAt b 0 (r.f t)) :
    (results fn tmps).run P w = .ok (.agg (r.f t).toArray) w := by
  have hp' : tmps[p]?.getD undef = .pointer (some ⟨b, 0, none⟩) := by simpa using hp
  unfold results
  rw [hf]
  simp [Array.mapM_eq_mapM_toList, hp', asAddr, Sem.run_bind, run_varR hr, Result.andThen]
end
section
variable {P : Program} {α : Type} {r : RowTy P α} {w : World} {ops : Array Oper} {rest : List Oper} {o : Oper} {a : Act} {Q : Exit → Act → World → Prop} {F : Fence} {nF : Nat} {v u : Value} {xs ys : List α} {B : Nat}
theorem wplIn_appsR {s x : Operand} (hgd : o.guard = none) (ho : o.op = .call { callee := .builtin .append, args := #[s, x], argTypes := #[r.S, r.S] }) (hs : a.eval s = v) (hx : a.eval x = u)
    (hown : OwnR r B v xs w) (hr : RdR r w u ys) (hlen : xs.length + ys.length ≤ 1000000) (hB : B ≤ w.heap.size)
    (h : ∀ v' w', OwnR r B v' (xs ++ ys) w' → w.grownBy w' v.ownBlock → (v'.ownBlock = v.ownBlock ∨ v'.ownBlock = some w.heap.size) → wpListIn F nF P ops Q rest (a.put o.dst v') w') : wpListIn F nF P ops Q (o :: rest) a w := by
  obtain ⟨v', w', hrun, h1, h2, h3⟩ := run_appsR hown hr hlen hB o.type
  refine wpListIn_plain hgd fun K hK => ?_
  unfold Oper.wpIn
  refine ⟨by simp [Oper.about, ho, resolve, Target.leads, Sem.run_pure], ?_⟩
  rw [Oper.semAt_plain F _ _ (by rw [ho]; intro c hc'; cases hc')]
  simp [execOp, ho, resolve, invoke, builtin, hs, hx, hrun, Result.andThen]
  exact hK _ _ (h v' w' h1 h2 h3)
end
end Go.Proofs.YtcfcfijmfgnpfaaGreatDoor
end

section
namespace Go.Proofs.YtcfcfijmfgnpfaaGreatDoor
open Go.RowKit
set_option linter.unusedVariables false
set_option linter.unusedSimpArgs false
theorem four_rdI (w : World) (a b c d : Int) : RdIM (w.alloc (.cells #[.int .i64 a, .int .i64 b, .int .i64 c, .int .i64 d] 3)) (.slice (some ⟨w.heap.size, 0, none⟩) 4 4) [a, b, c, d] := by
  refine .inr ⟨⟨w.heap.size, 0, none⟩, 4, rfl, Nat.le_refl _, fun i hi => ?_⟩
  have hi' : i < 4 := hi
  rw [Addr.add_mid]
  rw [World.cell?, World.alloc_heap_new]
  obtain rfl | rfl | rfl | rfl : i = 0 ∨ i = 1 ∨ i = 2 ∨ i = 3 := by omega
  all_goals rfl
theorem OwnB.keptR {N : Nat} {v : Value} {p : List Nat} {w w' : World} (h : OwnB N v (Bs p) w) (hb : Below w.heap.size w w') : OwnB N v (Bs p) w' :=
  h.ofC (Nat.le_refl _) (fun k hk => hb.block k (World.ownsRow.lt h k hk).2)
set_option maxHeartbeats 4000000 in
set_option maxRecDepth 100000 in
theorem ref_raw (d : Nat) : ∀ (c : Cl) (v : Value) (w : World), (layT c).length ≤ 100000 → RdC w d v c → Calls Tryz.prog 58 #[v] w (OwnRet w.heap.size (Bs (layT c)) w) := by
  induction d with
  | zero => intro c v w _ h; exact h.elim
  | succ d ih =>
  intro c v w hlen hrd
  obtain ⟨d', ao, cap, hd, rfl, hkids⟩ := hrd.open
  obtain rfl : d' = d := by omega
  rw [layT_eq] at hlen ⊢
  obtain ⟨k, hk⟩ : ∃ k, k = c.k := ⟨_, rfl⟩
  obtain ⟨t, ht⟩ : ∃ t, t = c.t := ⟨_, rfl⟩
  obtain ⟨n, hn⟩ : ∃ n, n = c.n := ⟨_, rfl⟩
  obtain ⟨l, hl⟩ : ∃ l, l = c.kids := ⟨_, rfl⟩
  rw [← hk, ← ht, ← hn, ← hl] at hlen ⊢
  rw [← hl] at hkids
  obtain ⟨m, hm⟩ : ∃ m, m = l.length := ⟨_, rfl⟩
  rw [← hm] at hlen ⊢
  have hml : m ≤ 100000 := by have := kids_len l; rw [List.length_append] at hlen; omega
  have HKD := Lib.hid hkids
  have HM := Lib.hid hm
  have HLEN := Lib.hid hlen
  have IH := Lib.hid ih
  clear hk ht hn hl hrd hkids hm hlen ih hd
  go_enter Tryz.func58, Tryz.ntmps58
  obtain ⟨W, hW⟩ : ∃ W, W = w.alloc (.cells #[.int .i64 k, .int .i64 t, .int .i64 n, .slice ao m cap] 45) := ⟨_, rfl⟩
  have h1 := World.alloc_heap_new w (.cells #[.int .i64 k, .int .i64 t, .int .i64 n, .slice ao m cap] 45)
  rw [← hW] at h1
  have hs : W.heap.size = w.heap.size + 1 := by rw [hW]; simp
  have hB : Below w.heap.size w W := by rw [hW]; exact (Below.refl _ w).alloc (Nat.le_refl _) _
  obtain ⟨cb, hcb⟩ : ∃ cb, cb = w.heap.size := ⟨_, rfl⟩
  rw [← hcb] at h1
  have hc0 : W.cell? ⟨cb, 0, none⟩ = some (.int .i64 k) := by rw [World.cell?, h1]; rfl
  have hc1 : W.cell? ⟨cb, 1, none⟩ = some (.int .i64 t) := by rw [World.cell?, h1]; rfl
  have hc2 : W.cell? ⟨cb, 2, none⟩ = some (.int .i64 n) := by rw [World.cell?, h1]; rfl
  have hc3 : W.cell? ⟨cb, 3, none⟩ = some (.slice ao m cap) := by rw [World.cell?, h1]; rfl
  go_upto_region 1 with fail
  rw [← hW, ← hcb]
  have HB := Lib.hid hB
  have LCB := Lib.hid (show cb < W.heap.size from (Array.getElem?_eq_some_iff.1 h1).1)
  have HI := Lib.hid (four_rdI W k t n m)
  have HBA := Lib.hid ((Below.refl W.heap.size W).alloc (Nat.le_refl _) (.cells #[.int .i64 k, .int .i64 t, .int .i64 n, .int .i64 (m : Int)] 3))
  have HC3 := Lib.hid hc3
  have HCB := Lib.hid hcb
  clear hW hs hB h1 hcb
  go_upto_region 2 with (first
    | (go_at_call 77; refine (ref_Nums _ _ _ HI.out (by simp)).mono ?_; rintro e w2 ⟨v2, rfl, ho, hb2, -⟩; have HO0 := Lib.hid (OwnB.ofC (S' := W.heap.size) (w' := w2) ho (by simp) (fun _ _ => rfl)); have HB0 := Lib.hid (HBA.out.trans (hb2.mono HBA.out.size)); clear ho hb2)
    | fail)
  have HO1 := Lib.hid (show OwnB W.heap.size v2 (Bs (numsL [k, t, n, m])) w2 from HO0.out)
  have hc3' : w2.cell? ⟨cb, 3, none⟩ = some (.slice ao m cap) := (World.cell?_of_block (a := ⟨cb, 3, none⟩) (HB0.out.block cb LCB.out)).trans HC3.out
  clear HO0 HI HBA hc0 hc1 hc2 hc3
  go_wp2_with fail
  go_loopw [3, 4] (fun b i wr => ∃ j : Nat, j ≤ m ∧ i = .int .i64 j ∧ OwnB W.heap.size b (Bs (numsL [k, t, n, m] ++ laysT (l.take j))) wr ∧ Below W.heap.size W wr) (fun _ i _ => m - (Go.RowKit.intOf i).toNat)
  case atStart => exact ⟨0, by omega, rfl, by rw [List.take_zero]; simpa [laysT] using HO1.out, HB0.out⟩
  case round =>
    obtain ⟨j, hj, rfl, ho, hb⟩ := hrel
    have HR := Lib.hid (And.intro ho hb)
    have c3r : wr.cell? ⟨cb, 3, none⟩ = some (.slice ao m cap) := (World.cell?_of_block (a := ⟨cb, 3, none⟩) (hb.block cb LCB.out)).trans HC3.out
    clear ho hb HO1 HB0 hc3'
    by_cases hlt : j < m
    · have hlt' : (j : Int) < m := by omega
      have hjl : j < l.length := by rw [← HM.out]; exact hlt
      obtain ⟨kb, ko, vs, rfl, hkb, hrg, hrd⟩ := HKD.out j hjl
      obtain ⟨kd, hkd⟩ : ∃ kd, kd = l[j] := ⟨_, rfl⟩
      rw [← hkd] at hrd
      have hW2 := HR.out.2
      have hrg2 : wr.rangeAt kb (ko + j * 4) vs := rangeAt_keep hrg ((hW2.block kb (by have := HB.out.size; omega)).trans (HB.out.block kb hkb))
      have hrd2 : RdC wr d' (.agg vs.toArray) kd := RdC.below (hW2.mono HB.out.size |> HB.out.trans) hrd
      obtain ⟨a4, c4, e4⟩ := hrd.cells
      obtain ⟨c1, c2, c3, c5, e5⟩ : ∃ c1 c2 c3 c5, vs = [.int .i64 c1, .int .i64 c2, .int .i64 c3, .slice a4 c5 c4] := ⟨_, _, _, _, e4⟩
      clear e4
      subst e5
      have hLK : (layT kd).length ≤ (laysT l).length := by rw [hkd]; exact layT_kid hjl
      have hLT := laysT_length l (j + 1)
      have hLE := HLEN.out
      rw [List.length_append] at hLE
      have htk : laysT (l.take (j + 1)) = laysT (l.take j) ++ rowL (layT kd) := by rw [laysT_take l hjl, hkd]
      rw [htk, List.length_append] at hLT
      have hcall := IH.out kd _ wr (by omega) hrd2
      have hap : (numsL [k, t, n, m] ++ laysT (l.take j)).length + (rowL (layT kd)).length ≤ 1099511627776 := by rw [List.length_append]; omega
      have hRow : numsL [k, t, n, m] ++ laysT (l.take j) ++ rowL (layT kd) = numsL [k, t, n, m] ++ laysT (l.take (j + 1)) := by rw [htk]; simp [List.append_assoc]
      have HRG := Lib.hid hrg2
      have HC := Lib.hid hcall
      have HAP := Lib.hid (And.intro hap (show (layT kd).length ≤ 1000000000 by omega))
      have HROWE := Lib.hid hRow
      clear hkb hrg hrd hkd hW2 hrg2 hrd2 hLK hLT hLE htk hcall hap hRow hlt hjl
      go_wp2_with (first
        | (refine wpl_loadC _ rfl rfl rfl HRG.out rfl ?_)
        | (go_at_call 58; refine HC.out.mono ?_; rintro e w4 ⟨v4, rfl, ho4, hb4, hs4⟩; have HO4 := Lib.hid ho4.reads; have HB4 := Lib.hid hb4; clear ho4 hb4 hs4)
        | (go_at_call 78; refine (ref_Row _ _ _ HO4.out HAP.out.2).mono ?_; rintro e w5 ⟨v5, rfl, ho5, hb5, hs5⟩; have HO5 := Lib.hid ho5.reads; have HB5 := Lib.hid (HB4.out.trans (hb5.mono HB4.out.size)); have HU5 := Lib.hid (OwnB.keptR HR.out.1 HB5.out); have HS5 := Lib.hid (HR.out.2.trans (HB5.out.mono HR.out.2.size)); clear ho5 hb5 hs5)
        | (at_builtin; refine wp_app_B (B := W.heap.size) (xs := numsL [k, t, n, m] ++ laysT (l.take j)) (l := rowL (layT kd)) rfl rfl rfl rfl HU5.out HO5.out HAP.out.1 HS5.out.size ?_; intro v6 w6 ho6 hb6 hs6 hgr6; clear hgr6; rw [HROWE.out] at ho6; have HO6 := Lib.hid ho6; have HB6 := Lib.hid (HS5.out.trans hb6); clear ho6 hb6 hs6)
        | fail)
      go_roundw
      case rel => exact ⟨j + 1, by omega, by go_num, HO6.out, HB6.out⟩
      case measure => simp [Go.RowKit.intOf]; omega
    · obtain rfl : j = m := by omega
      have hge : ¬ (j : Int) < j := by omega
      have htk : l.take j = l := List.take_of_length_le (by rw [← HM.out]; exact Nat.le_refl _)
      have HTK := Lib.hid htk
      clear hlt htk hj
      go_wp2_with fail
      go_ret
      have ho := HR.out.1
      rw [HTK.out] at ho
      exact ⟨u3, rfl, ho.ofC HB.out.size (fun _ _ => rfl), HB.out.trans (HR.out.2.mono HB.out.size), Nat.le_trans HB.out.size HR.out.2.size⟩
end Go.Proofs.YtcfcfijmfgnpfaaGreatDoor
end
