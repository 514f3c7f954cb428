/-
  Joined texts.
-/
import Derived.RangeFuncNested
import Derived.RangeFuncBound
import Derived.RangeFuncCalls
import Derived.RangeFuncLeaves
import Derived.WalkKit
import Derived.Test.YtcfcfijmfgnpfaaGreatDoorChecked
import Derived.Below
import Derived.Lib.Hide
import Derived.OwnWalkIn
import Derived.TacticsInMore
import Derived.LoopNIn
import Derived.LoopIn
import Derived.Maps.OwnIn
import Derived.Maps.AppendAt
import Derived.Shelf.RegionOpen
import Derived.Great.BuildSlice
import Derived.Deep.MidRow
import Derived.StillTailTactics
import Derived.Deep.DeepCutAuto
import Derived.BigRegion
import Derived.RegionTactic
import Derived.ChangeKeysEq
import Derived.Deep.WholeRow
import Derived.Deep.RegionWith
import Derived.Deep.RegionHeld3
import Derived.Test.YtcfcfijmfgnpfaaGreatDoorMgb

section
namespace Go.Proofs.YtcfcfijmfgnpfaaGreatDoor
open Go.RowKit
set_option linter.unusedVariables false

abbrev FP := Nat → Prop

/-- The streams are as they were; no block has gone. -/
structure Grow (W W' : World) : Prop where
  os : W'.os = W.os
  tape : W'.tape = W.tape
  output : W'.output = W.output
  size : W.heap.size ≤ W'.heap.size

theorem Grow.refl (W : World) : Grow W W := ⟨rfl, rfl, rfl, Nat.le_refl _⟩
theorem Grow.trans {A B C : World} (h : Grow A B) (k : Grow B C) : Grow A C := ⟨k.os.trans h.os, k.tape.trans h.tape, k.output.trans h.output, Nat.le_trans h.size k.size⟩
theorem Grow.of_below {N : Nat} {A B : World} (h : Below N A B) : Grow A B := ⟨h.os, h.tape, h.output, h.size⟩

/-- Besides the blocks of Ψ and of Φ, what was there is as it was. -/
structure Only (Ψ Φ : FP) (W W' : World) : Prop where
  grow : Grow W W'
  block : ∀ k, k < W.heap.size → ¬ Ψ k → ¬ Φ k → W'.heap[k]? = W.heap[k]?

theorem Only.refl (Ψ Φ : FP) (W : World) : Only Ψ Φ W W := ⟨Grow.refl W, fun _ _ _ _ => rfl⟩
theorem Only.trans {Ψ Φ Φ' : FP} {A B C : World} (h : Only Ψ Φ A B) (k : Only Ψ Φ' B C) (hΦ : ∀ j, Φ' j → Φ j ∨ A.heap.size ≤ j) : Only Ψ Φ A C :=
  ⟨h.grow.trans k.grow, fun j hj h1 h2 => (k.block j (Nat.lt_of_lt_of_le hj h.grow.size) h1 (fun h' => (hΦ j h').elim h2 (fun h => by omega))).trans (h.block j hj h1 h2)⟩
theorem Only.of_later {Ψ Φ : FP} {A B : World} (h : Below A.heap.size A B) : Only Ψ Φ A B := ⟨Grow.of_below h, fun j hj _ _ => h.block j hj⟩
theorem Only.below {Ψ Φ : FP} {A B : World} {N : Nat} (h : Only Ψ Φ A B) (hN : N ≤ A.heap.size) (hΨ : ∀ k, Ψ k → N ≤ k) (hΦ : ∀ k, Φ k → N ≤ k) : Below N A B :=
  ⟨h.grow.os, h.grow.tape, h.grow.output, h.grow.size, fun k hk => h.block k (by omega) (fun h' => by have := hΨ k h'; omega) (fun h' => by have := hΦ k h'; omega)⟩

/-- An assertion that depends on the blocks below B, and on those of Φ, which lie from B on. -/
def Stab {α : Type} (B : Nat) (J : List α → FP → World → Prop) : Prop :=
  ∀ pre Φ W, J pre Φ W → (∀ k, Φ k → B ≤ k ∧ k < W.heap.size) ∧ B ≤ W.heap.size ∧ ∀ W', Grow W W' → (∀ k, k < B ∨ Φ k → W'.heap[k]? = W.heap[k]?) → J pre Φ W'

/-- How a round, or a whole iteration, leaves the world. -/
def Leaves (Ψ Φ : FP) (W : World) (R : FP → World → Prop) (W' : World) : Prop :=
  ∃ Φ', (∀ k, Φ' k → Φ k ∨ W.heap.size ≤ k) ∧ Only Ψ Φ W W' ∧ R Φ' W'

/-- A call of yield. -/
def RoundOk {α : Type} (P : Program) (n l : Nat) (encs : α → Array Value) (Ψ : FP) (J Jx : List α → FP → World → Prop) (pre : List α) (x : α) (Φ : FP) (W : World) : Prop :=
  YieldAt Fence.wide n P l (encs x) W fun e W' => Leaves Ψ Φ W (fun Φ' W' => (e = .returned (.bool true) ∧ J (pre ++ [x]) Φ' W') ∨ (e = .returned (.bool false) ∧ Jx (pre ++ [x]) Φ' W')) W'

/-- AN ITERATOR's PROMISE: function gf, which has captured lb, tells xs, one behind the other, to whatever body, till that says no; its data lie in the blocks of G, as they lay in w. -/
def Iter {α : Type} (P : Program) (n : Nat) (gf : Nat) (lb : Array Value) (encs : α → Array Value) (xs : List α) (G : FP) (w : World) : Prop :=
  ∀ (l B : Nat) (Ψ : FP) (J Jx : List α → FP → World → Prop) (Φ0 : FP) (W : World), Grow w W → (∀ k, G k → k < w.heap.size ∧ W.heap[k]? = w.heap[k]?) → (∀ k, Ψ k → k < B ∧ ¬ G k) → (∀ k, Φ0 k → ¬ G k) → Stab B J → Stab B Jx →
    (∀ pre x Φ W1, (pre ++ [x]) <+: xs → J pre Φ W1 → RoundOk P n l encs Ψ J Jx pre x Φ W1) → J [] Φ0 W →
    CallsIn Fence.wide (n + 1) P gf (#[.func (.yield l) #[] #[]] ++ lb) W fun e W' => (∃ v, e = .returned v) ∧ Leaves Ψ Φ0 W (fun Φ' W' => J xs Φ' W' ∨ ∃ pre, pre <+: xs ∧ Jx pre Φ' W') W'

/-- How the body of a round may be left. -/
def bodyI {α : Type} (Ψ Φ : FP) (I : List α → FP → World → Prop) (Ix : Code → List α → FP → World → Prop) (ys : List α) (W : World) : Exit → Act → World → Prop
  | .normal, _, W' => Leaves Ψ Φ W (fun Φ' W' => I ys Φ' W') W'
  | .ret, _, W' => Leaves Ψ Φ W (fun Φ' W' => Ix .ret ys Φ' W') W'
  | .exit id, _, W' => Leaves Ψ Φ W (fun Φ' W' => Ix (.exit id) ys Φ' W') W'
  | .goto t, _, W' => Leaves Ψ Φ W (fun Φ' W' => Ix (.goto t) ys Φ' W') W'
  | .panic _, _, _ => False
  | .outgrown, _, _ => False

section
variable {P : Program} {α : Type}

theorem put_grow (W : World) (l : Nat) (o : Obj) : Grow W (W.putObj l o) := ⟨rfl, rfl, rfl, by simp [World.putObj]⟩
theorem put_other {W : World} {l k : Nat} {o : Obj} (h : k ≠ l) : (W.putObj l o).heap[k]? = W.heap[k]? := World.putObj_heap_other h

/-- A loop's record. -/
def recOf (fn : FuncId) (tm : Array Value) (ps : Array Tmp) (assign body : Code) (dfr : Nat) (st : LoopState) (pe : Option Code) : Loop := { state := st, pending := pe, fn, tmps := tm, params := ps, assign, body, defers := dfr }

/-- What a loop's invariant is to its iterator. -/
def InvJ (I : List α → FP → World → Prop) (l : Nat) (D : Option Nat) (r : Loop) (pre : List α) (Φ : FP) (W : World) : Prop :=
  I pre Φ W ∧ (∀ k, Φ k → l + 1 ≤ k) ∧ W.heap[l]? = some (.loop r) ∧ ∀ d, D = some d → W.heap[d]? = some (.deferred (some []))

theorem InvJ.stab {B l : Nat} {D : Option Nat} {I : List α → FP → World → Prop} {r : Loop} (hI : Stab B I) (hB : B ≤ l) (hD : ∀ d, D = some d → d < l) : Stab (l + 1) (InvJ I l D r) := by
  rintro pre Φ W ⟨hi, hΦ, hl, hd⟩
  obtain ⟨h1, h2, h3⟩ := hI _ _ _ hi
  have hlt : l < W.heap.size := (Array.getElem?_eq_some_iff.1 hl).1
  refine ⟨fun k hk => ⟨hΦ k hk, (h1 k hk).2⟩, hlt, fun W' hg hk => ⟨h3 W' hg (fun k hk' => hk k (hk'.imp (fun h => by omega) id)), hΦ, (hk l (.inl (by omega))).trans hl, fun d hdd => (hk d (.inl (by have := hD d hdd; omega))).trans (hd d hdd)⟩⟩

/-- One round, out of its body's walk: the record turns busy, then ready, or done. -/
theorem round_of_body {n l : Nat} {fn : FuncId} {encs : α → Array Value} {ps : Array Tmp} {assign body : Code} {tm : Array Value} {dfr : Nat} {Ψ : FP} {I : List α → FP → World → Prop} {Ix : Code → List α → FP → World → Prop} {B : Nat} (hI : Stab B I) (hIx : ∀ c, Stab B (Ix c))
    (hBJ : B ≤ l) (hΨ : ∀ k, Ψ k → k < B) (hps : ∀ x, (encs x).size = ps.size) {D : Option Nat} (hD : ∀ d, D = some d → B ≤ d ∧ d < l) (a₁ : α → Act) {pre : List α} {x : α} {Φ : FP} {W : World}
    (hJ : InvJ I l D (recOf fn tm ps assign body dfr .ready none) pre Φ W)
    (hassign : ∀ (W : World) (K : Act → World → Prop), K (a₁ x) W → assign.wpIn (Fence.wide.inRound l) n P (Exit.then K (fun _ _ _ => False)) { tmps := (ps.zip (encs x)).foldl (fun t (p, v) => t.setIfInBounds p v) tm, defers := [] } W)
    (hbody : ∀ W, I pre Φ W → (∀ k, Φ k → l + 1 ≤ k) → (∃ r, W.heap[l]? = some (.loop r)) → body.wpIn (Fence.wide.inRound l) n P (bodyI Ψ Φ I Ix (pre ++ [x]) W) (a₁ x) W) :
    RoundOk P n l encs (fun k => Ψ k ∨ k = l) (InvJ I l D (recOf fn tm ps assign body dfr .ready none))
      (fun pre Φ W => ∃ c, InvJ (Ix c) l D (recOf fn tm ps assign body dfr .done (some c)) pre Φ W) pre x Φ W := by
  obtain ⟨hi, hΦ, hl, hDW⟩ := hJ
  have hlt : l < W.heap.size := (Array.getElem?_eq_some_iff.1 hl).1
  have hy := run_yield (P := P) (args := encs x) hl (hps x)
  refine ⟨fn, _, assign, body, hy, roundIn_of_wpIn trivial (hassign W _ ⟨_, run_beginRound hl rfl, ?_⟩)⟩
  obtain ⟨W2, hW2⟩ : ∃ W2, W2 = W.putObj l (.loop { recOf fn tm ps assign body dfr .ready none with state := .busy }) := ⟨_, rfl⟩
  rw [← hW2]
  have hl2 : W2.heap[l]? = some (.loop (recOf fn tm ps assign body dfr .busy none)) := by rw [hW2]; exact World.putObj_heap_same hlt
  have hnl : ∀ k, Φ k → k ≠ l := fun k hk e => by have := hΦ k hk; omega
  have ho2 : ∀ k, k ≠ l → W2.heap[k]? = W.heap[k]? := fun k hk => by rw [hW2]; exact put_other hk
  have hi2 : I pre Φ W2 := (hI _ _ _ hi).2.2 _ (by rw [hW2]; exact put_grow _ _ _) (fun k hk => ho2 k (hk.elim (fun h => by omega) (fun h => hnl k h)))
  have hsz : W2.heap.size = W.heap.size := by rw [hW2]; simp [World.putObj]
  have hg2 : Grow W W2 := by rw [hW2]; exact put_grow _ _ _
  clear hW2
  refine wpIn_mono (hbody _ hi2 hΦ ⟨_, hl2⟩) ?_
  have fin : ∀ (jump : Option Code) (Φ' : FP) (W3 : World) (R : List α → FP → World → Prop), Only Ψ Φ W2 W3 → (∀ k, Φ' k → Φ k ∨ W2.heap.size ≤ k) → Stab B R → R (pre ++ [x]) Φ' W3 →
      ∃ W4, (Instr.endRound l jump).run P W3 = .ok (.bool jump.isNone) W4 ∧ (∀ k, Φ' k → Φ k ∨ W.heap.size ≤ k) ∧ Only (fun k => Ψ k ∨ k = l) Φ W W4 ∧
        InvJ R l D (recOf fn tm ps assign body dfr (if jump.isNone then .ready else .done) jump) (pre ++ [x]) Φ' W4 := by
    intro jump Φ' W3 R ho hn hS hR
    have hl3 : W3.heap[l]? = some (.loop (recOf fn tm ps assign body dfr .busy none)) := (ho.block l (by rw [hsz]; exact hlt) (fun h => by have := hΨ l h; omega) (fun h => hnl l h rfl)).trans hl2
    have hlt3 : l < W3.heap.size := (Array.getElem?_eq_some_iff.1 hl3).1
    rw [hsz] at hn
    have hΦ' : ∀ k, Φ' k → l + 1 ≤ k := fun k hk => (hn k hk).elim (hΦ k) (fun h => by omega)
    refine ⟨_, run_endRound (P := P) jump hl3, hn, ⟨(hg2.trans ho.grow).trans (put_grow _ _ _), fun k hk h1 h2 => ?_⟩, (hS _ _ _ hR).2.2 _ (put_grow _ _ _) (fun k hk => put_other ?_), hΦ', World.putObj_heap_same hlt3, fun d hd => ?_⟩
    · have hkl : k ≠ l := fun e => h1 (.inr e)
      exact (put_other hkl).trans ((ho.block k (by rw [hsz]; exact hk) (fun h => h1 (.inl h)) h2).trans (ho2 k hkl))
    · rcases hk with h | h
      · omega
      · have := hΦ' k h; omega
    · obtain ⟨d1, d2⟩ := hD d hd
      exact (put_other (by omega)).trans ((ho.block d (by omega) (fun h => by have := hΨ d h; omega) (fun h => by have := hΦ d h; omega)).trans ((ho2 d (by omega)).trans (hDW d hd)))
  rintro e a3 W3 hp
  cases e with
  | normal =>
    obtain ⟨Φ', hn, ho, hR⟩ := hp
    obtain ⟨W4, hr, h1, h2, h3⟩ := fin none Φ' W3 I ho hn hI hR
    exact ⟨_, _, hr, Φ', h1, h2, .inl ⟨rfl, h3⟩⟩
  | ret =>
    obtain ⟨Φ', hn, ho, hR⟩ := hp
    obtain ⟨W4, hr, h1, h2, h3⟩ := fin (some .ret) Φ' W3 (Ix .ret) ho hn (hIx _) hR
    exact ⟨_, _, hr, Φ', h1, h2, .inr ⟨rfl, .ret, h3⟩⟩
  | exit id =>
    obtain ⟨Φ', hn, ho, hR⟩ := hp
    obtain ⟨W4, hr, h1, h2, h3⟩ := fin (some (.exit id)) Φ' W3 (Ix (.exit id)) ho hn (hIx _) hR
    exact ⟨_, _, hr, Φ', h1, h2, .inr ⟨rfl, .exit id, h3⟩⟩
  | goto t =>
    obtain ⟨Φ', hn, ho, hR⟩ := hp
    obtain ⟨W4, hr, h1, h2, h3⟩ := fin (some (.goto t)) Φ' W3 (Ix (.goto t)) ho hn (hIx _) hR
    exact ⟨_, _, hr, Φ', h1, h2, .inr ⟨rfl, .goto t, h3⟩⟩
  | panic ch => exact hp.elim
  | outgrown => exact hp.elim

/-- **A LOOP OVER AN ITERATOR, in a function's own frame.** -/
theorem range_outer {n : Nat} {g : Operand} {ps : Array Tmp} {assign body : Code} {Q : Exit → Act → World → Prop} {a : Act} {w : World} {gf : Nat} {lb : Array Value} (hg : a.eval g = .func (.func gf) #[] lb) (eg : ∀ args w, (callFunc gf args).run P w = .ok (.enter gf args) w)
    {encs : α → Array Value} {xs : List α} {G : FP} {w0 : World} (hit : Iter P n gf lb encs xs G w0) (hg0 : Grow w0 w) (hG : ∀ k, G k → k < w0.heap.size ∧ w.heap[k]? = w0.heap[k]?) (hps : ∀ x, (encs x).size = ps.size)
    (Ψ : FP) (hΨ : ∀ k, Ψ k → k < w.heap.size ∧ ¬ G k) (I : List α → FP → World → Prop) (Ix : Code → List α → FP → World → Prop) (hI : Stab w.heap.size I) (hIx : ∀ c, Stab w.heap.size (Ix c)) (h0 : I [] (fun _ => False) w) (a₁ : α → Act)
    (hassign : ∀ (l : Nat) (x : α) (W : World) (K : Act → World → Prop), K (a₁ x) W → assign.wpIn (Fence.wide.inRound l) n P (Exit.then K (fun _ _ _ => False)) { tmps := (ps.zip (encs x)).foldl (fun t (p, v) => t.setIfInBounds p v) a.tmps, defers := [] } W)
    (hbody : ∀ (l : Nat) (pre : List α) (x : α) (Φ : FP) (W : World), (pre ++ [x]) <+: xs → I pre Φ W → w.heap.size < l → (∀ k, Φ k → l + 1 ≤ k) → (∃ r, W.heap[l]? = some (.loop r)) → body.wpIn (Fence.wide.inRound l) n P (bodyI Ψ Φ I Ix (pre ++ [x]) W) (a₁ x) W)
    (hdone : ∀ (D : Nat) (Φ : FP) (W : World), I xs Φ W → Only Ψ (fun _ => False) w W → w.heap.size ≤ D → ¬ Φ D → W.heap[D]? = some (.deferred (some [])) → Q .normal { a with defers := { target := .collected D, args := #[] } :: a.defers } W)
    (hstop : ∀ (D : Nat) (Φ : FP) (c : Code) (pre : List α) (W : World), pre <+: xs → Ix c pre Φ W → Only Ψ (fun _ => False) w W → w.heap.size ≤ D → ¬ Φ D → W.heap[D]? = some (.deferred (some [])) → c.wpIn Fence.wide (n + 2) P Q { a with defers := { target := .collected D, args := #[] } :: a.defers } W) :
    (Code.rangeFunc g ps assign body).wpIn Fence.wide (n + 2) P Q a w := by
  refine wpIn_rangeFunc ?_
  intro fn hfn
  obtain ⟨W1, hW1⟩ : ∃ W1, (w.alloc (.deferred (some []))).alloc (.loop (recOf fn a.tmps ps assign body w.heap.size .ready none)) = W1 := ⟨_, rfl⟩
  have hL1 : W1.heap[w.heap.size + 1]? = some (.loop (recOf fn a.tmps ps assign body w.heap.size .ready none)) := by
    rw [← hW1]; have := World.alloc_heap_new (w.alloc (.deferred (some []))) (.loop (recOf fn a.tmps ps assign body w.heap.size .ready none)); rwa [World.size_alloc] at this
  have hK1 : W1.heap[w.heap.size]? = some (.deferred (some [])) := by
    rw [← hW1]; exact (Below.heap_alloc _ _ _ (by simp)).trans (World.alloc_heap_new w _)
  have hB1 : Below w.heap.size w W1 := by rw [← hW1]; exact ((Below.refl _ w).alloc (Nat.le_refl _) _).alloc (by simp) _
  have hsz : W1.heap.size = w.heap.size + 2 := by rw [← hW1]; simp
  have hi1 : I [] (fun _ => False) W1 := (hI _ _ _ h0).2.2 _ (Grow.of_below hB1) (fun k hk => hk.elim (fun h => hB1.block k h) (fun h => h.elim))
  refine ⟨w.heap.size + 1, [{ target := .collected w.heap.size, args := #[] }], W1, { target := .fn (.func gf) lb, args := #[.func (.yield (w.heap.size + 1)) #[] #[]] }, W1, gf,
    #[.func (.yield (w.heap.size + 1)) #[] #[]] ++ lb, W1, ?_, ?_, ?_, ?_, fun h => by simp [Fence.wide] at h, ?_⟩
  · rw [← hW1]; exact run_enterLoop_outer _ _ _ _ _
  · simp only [resolve, hg]
    simp [go_sem]
  · intro f' hf'; simp [Target.leads] at hf'; subst hf'; trivial
  · simp [invoke, go_sem, eg]
  · have hD : ∀ d, some w.heap.size = some d → w.heap.size ≤ d ∧ d < w.heap.size + 1 := fun d hd => by cases hd; omega
    refine (hit (w.heap.size + 1) (w.heap.size + 2) (fun k => Ψ k ∨ k = w.heap.size + 1) (InvJ I (w.heap.size + 1) (some w.heap.size) (recOf fn a.tmps ps assign body w.heap.size .ready none))
      (fun pre Φ W => ∃ c, InvJ (Ix c) (w.heap.size + 1) (some w.heap.size) (recOf fn a.tmps ps assign body w.heap.size .done (some c)) pre Φ W) (fun _ => False) W1 (hg0.trans (Grow.of_below hB1))
      (fun k hk => ⟨(hG k hk).1, (hB1.block k (Nat.lt_of_lt_of_le (hG k hk).1 hg0.size)).trans (hG k hk).2⟩) (fun k hk => ?_) (fun _ h => h.elim) (InvJ.stab hI (by omega) (fun d hd => (hD d hd).2)) ?_ ?_ ⟨hi1, fun _ h => h.elim, hL1, fun d hd => by cases hd; exact hK1⟩).mono ?_
    · rcases hk with h | h
      · exact ⟨by have := (hΨ k h).1; omega, (hΨ k h).2⟩
      · exact ⟨by omega, fun hg' => by have := (hG k hg').1; have := hg0.size; omega⟩
    · rintro pre Φ W ⟨c, hc⟩
      obtain ⟨h1, h2, h3⟩ := InvJ.stab (hIx c) (by omega) (fun d hd => (hD d hd).2) _ _ _ hc
      exact ⟨h1, h2, fun W' hg' hk => ⟨c, h3 W' hg' hk⟩⟩
    · intro pre x Φ W hpx hJ
      exact round_of_body hI hIx (by omega) (fun k hk => (hΨ k hk).1) hps hD a₁ hJ (fun W K hK => hassign _ x W K hK) (fun W hi hΦ hr => hbody _ pre x Φ W hpx hi (by omega) hΦ hr)
    · have fine : ∀ W2, Only (fun k => Ψ k ∨ k = w.heap.size + 1) (fun _ => False) W1 W2 → ∀ r, Only Ψ (fun _ => False) w (W2.putObj (w.heap.size + 1) (.loop r)) := fun W2 ho r =>
        ⟨((Grow.of_below hB1).trans ho.grow).trans (put_grow _ _ _), fun k hk h1 h2 => (put_other (by omega)).trans ((ho.block k (by omega) (fun h => h.elim h1 (by omega)) h2).trans (hB1.block k hk))⟩
      rintro e W2 ⟨⟨v, rfl⟩, Φ', hn, ho, (⟨hi, hΦ, hl, hk⟩ | ⟨pre, hpre, c, hi, hΦ, hl, hk⟩)⟩
      · have hnD : ¬ Φ' w.heap.size := fun h => by have := hΦ _ h; omega
        refine ⟨none, _, run_endLoop (P := P) hl (by simp [recOf]), hdone _ Φ' _ ?_ (fine W2 ho _) (Nat.le_refl _) hnD ((put_other (by omega)).trans (hk _ rfl))⟩
        exact (hI _ _ _ hi).2.2 _ (put_grow _ _ _) (fun k hk' => put_other (hk'.elim (fun h => by omega) (fun h => by have := hΦ k h; omega)))
      · have hnD : ¬ Φ' w.heap.size := fun h => by have := hΦ _ h; omega
        refine ⟨some c, _, run_endLoop (P := P) hl (by simp [recOf]), hstop _ Φ' c pre _ hpre ?_ (fine W2 ho _) (Nat.le_refl _) hnD ((put_other (by omega)).trans (hk _ rfl))⟩
        exact (hIx c _ _ _ hi).2.2 _ (put_grow _ _ _) (fun k hk' => put_other (hk'.elim (fun h => by omega) (fun h => by have := hΦ k h; omega)))

/-- **A LOOP OVER AN ITERATOR, in a round of another loop.** -/
theorem range_inner {n l₀ : Nat} {r₀ : Loop} {g : Operand} {ps : Array Tmp} {assign body : Code} {Q : Exit → Act → World → Prop} {a : Act} {w : World} {gf : Nat} {lb : Array Value} (hr0 : w.heap[l₀]? = some (.loop r₀)) (hg : a.eval g = .func (.func gf) #[] lb) (eg : ∀ args w, (callFunc gf args).run P w = .ok (.enter gf args) w)
    {encs : α → Array Value} {xs : List α} {G : FP} {w0 : World} (hit : Iter P n gf lb encs xs G w0) (hg0 : Grow w0 w) (hG : ∀ k, G k → k < w0.heap.size ∧ w.heap[k]? = w0.heap[k]?) (hps : ∀ x, (encs x).size = ps.size)
    (Ψ : FP) (hΨ : ∀ k, Ψ k → k < w.heap.size ∧ ¬ G k) (I : List α → FP → World → Prop) (Ix : Code → List α → FP → World → Prop) (hI : Stab w.heap.size I) (hIx : ∀ c, Stab w.heap.size (Ix c)) (h0 : I [] (fun _ => False) w) (a₁ : α → Act)
    (hassign : ∀ (l : Nat) (x : α) (W : World) (K : Act → World → Prop), K (a₁ x) W → assign.wpIn (Fence.wide.inRound l) n P (Exit.then K (fun _ _ _ => False)) { tmps := (ps.zip (encs x)).foldl (fun t (p, v) => t.setIfInBounds p v) a.tmps, defers := [] } W)
    (hbody : ∀ (l : Nat) (pre : List α) (x : α) (Φ : FP) (W : World), (pre ++ [x]) <+: xs → I pre Φ W → w.heap.size ≤ l → (∀ k, Φ k → l + 1 ≤ k) → (∃ r, W.heap[l]? = some (.loop r)) → body.wpIn (Fence.wide.inRound l) n P (bodyI Ψ Φ I Ix (pre ++ [x]) W) (a₁ x) W)
    (hdone : ∀ (Φ : FP) (W : World), I xs Φ W → Only Ψ (fun _ => False) w W → Q .normal { a with defers := [] ++ a.defers } W)
    (hstop : ∀ (Φ : FP) (c : Code) (pre : List α) (W : World), pre <+: xs → Ix c pre Φ W → Only Ψ (fun _ => False) w W → c.wpIn (Fence.wide.inRound l₀) (n + 2) P Q { a with defers := [] ++ a.defers } W) :
    (Code.rangeFunc g ps assign body).wpIn (Fence.wide.inRound l₀) (n + 2) P Q a w := by
  refine wpIn_rangeFunc ?_
  intro fn hfn
  obtain ⟨W1, hW1⟩ : ∃ W1, w.alloc (.loop (recOf fn a.tmps ps assign body r₀.defers .ready none)) = W1 := ⟨_, rfl⟩
  have hL1 : W1.heap[w.heap.size]? = some (.loop (recOf fn a.tmps ps assign body r₀.defers .ready none)) := by
    rw [← hW1]; exact World.alloc_heap_new w _
  have hB1 : Below w.heap.size w W1 := by rw [← hW1]; exact (Below.refl _ w).alloc (Nat.le_refl _) _
  have hsz : W1.heap.size = w.heap.size + 1 := by rw [← hW1]; simp
  have hi1 : I [] (fun _ => False) W1 := (hI _ _ _ h0).2.2 _ (Grow.of_below hB1) (fun k hk => hk.elim (fun h => hB1.block k h) (fun h => h.elim))
  refine ⟨w.heap.size, [], W1, { target := .fn (.func gf) lb, args := #[.func (.yield w.heap.size) #[] #[]] }, W1, gf,
    #[.func (.yield w.heap.size) #[] #[]] ++ lb, W1, ?_, ?_, ?_, ?_, fun h => by simp [Fence.wide] at h, ?_⟩
  · rw [← hW1]; exact run_enterLoop_inner hr0 _ _ _ _ _
  · simp only [resolve, hg]
    simp [go_sem]
  · intro f' hf'; simp [Target.leads] at hf'; subst hf'; trivial
  · simp [invoke, go_sem, eg]
  · have hD : ∀ d, (none : Option Nat) = some d → w.heap.size ≤ d ∧ d < w.heap.size := fun d hd => by cases hd
    refine CallsIn.inRound l₀ ((hit w.heap.size (w.heap.size + 1) (fun k => Ψ k ∨ k = w.heap.size) (InvJ I w.heap.size none (recOf fn a.tmps ps assign body r₀.defers .ready none))
      (fun pre Φ W => ∃ c, InvJ (Ix c) w.heap.size none (recOf fn a.tmps ps assign body r₀.defers .done (some c)) pre Φ W) (fun _ => False) W1 (hg0.trans (Grow.of_below hB1))
      (fun k hk => ⟨(hG k hk).1, (hB1.block k (Nat.lt_of_lt_of_le (hG k hk).1 hg0.size)).trans (hG k hk).2⟩) (fun k hk => ?_) (fun _ h => h.elim) (InvJ.stab hI (by omega) (fun d hd => (hD d hd).2)) ?_ ?_ ⟨hi1, fun _ h => h.elim, hL1, fun d hd => by cases hd⟩).mono ?_)
    · rcases hk with h | h
      · exact ⟨by have := (hΨ k h).1; omega, (hΨ k h).2⟩
      · exact ⟨by omega, fun hg' => by have := (hG k hg').1; have := hg0.size; omega⟩
    · rintro pre Φ W ⟨c, hc⟩
      obtain ⟨h1, h2, h3⟩ := InvJ.stab (hIx c) (by omega) (fun d hd => (hD d hd).2) _ _ _ hc
      exact ⟨h1, h2, fun W' hg' hk => ⟨c, h3 W' hg' hk⟩⟩
    · intro pre x Φ W hpx hJ
      exact round_of_body hI hIx (by omega) (fun k hk => (hΨ k hk).1) hps hD a₁ hJ (fun W K hK => hassign _ x W K hK) (fun W hi hΦ hr => hbody _ pre x Φ W hpx hi (by omega) hΦ hr)
    · have fine : ∀ W2, Only (fun k => Ψ k ∨ k = w.heap.size) (fun _ => False) W1 W2 → ∀ r, Only Ψ (fun _ => False) w (W2.putObj w.heap.size (.loop r)) := fun W2 ho r =>
        ⟨((Grow.of_below hB1).trans ho.grow).trans (put_grow _ _ _), fun k hk h1 h2 => (put_other (by omega)).trans ((ho.block k (by omega) (fun h => h.elim h1 (by omega)) h2).trans (hB1.block k hk))⟩
      rintro e W2 ⟨⟨v, rfl⟩, Φ', hn, ho, (⟨hi, hΦ, hl, hk⟩ | ⟨pre, hpre, c, hi, hΦ, hl, hk⟩)⟩
      · refine ⟨none, _, run_endLoop (P := P) hl (by simp [recOf]), hdone Φ' _ ?_ (fine W2 ho _)⟩
        exact (hI _ _ _ hi).2.2 _ (put_grow _ _ _) (fun k hk' => put_other (hk'.elim (fun h => by omega) (fun h => by have := hΦ k h; omega)))
      · refine ⟨some c, _, run_endLoop (P := P) hl (by simp [recOf]), hstop Φ' c pre _ hpre ?_ (fine W2 ho _)⟩
        exact (hIx c _ _ _ hi).2.2 _ (put_grow _ _ _) (fun k hk' => put_other (hk'.elim (fun h => by omega) (fun h => by have := hΦ k h; omega)))
end
end Go.Proofs.YtcfcfijmfgnpfaaGreatDoor
end

section
namespace Go.Proofs.YtcfcfijmfgnpfaaGreatDoor
open Go.RowKit
set_option linter.unusedVariables false
set_option linter.unusedSimpArgs false

theorem bound_Within (n a b : Int) (w : World) : Calls Tryz.prog 57 #[.int .i64 n, .int .i64 a, .int .i64 b] w fun e w' => e = .returned (.bool (decide (a ≤ n ∧ n ≤ b))) ∧ w' = w := by
  go_enter Tryz.func57, Tryz.ntmps57
  by_cases c : a ≤ n
  · by_cases d : n ≤ b
    · go_wp2
      exact bodyPost_ret (v := .bool true) (by simp [results, Tryz.results57, go_sem]) rfl ⟨by simp [c, d], rfl⟩
    · have hd : decide (n ≤ b) = false := by simpa using d
      go_wp2
      exact bodyPost_ret (v := .bool false) (by simp [results, Tryz.results57, go_sem]) rfl ⟨by simp <;> omega, rfl⟩
  · have hc : decide (a ≤ n) = false := by simpa using c
    go_wp2
    exact bodyPost_ret (v := .bool false) (by simp [results, Tryz.results57, go_sem]) rfl ⟨by simp <;> omega, rfl⟩
theorem bound_Below (n b : Int) (w : World) : Calls Tryz.prog 62 #[.int .i64 n, .int .i64 b] w fun e w' => e = .returned (.bool (decide (0 ≤ n ∧ n < b))) ∧ w' = w := by
  go_enter Tryz.func62, Tryz.ntmps62
  by_cases c : 0 ≤ n
  · by_cases d : n < b
    · go_wp2
      exact bodyPost_ret (v := .bool true) (by simp [results, Tryz.results62, go_sem]) rfl ⟨by simp [c, d], rfl⟩
    · have hd : decide (n < b) = false := by simpa using d
      go_wp2
      exact bodyPost_ret (v := .bool false) (by simp [results, Tryz.results62, go_sem]) rfl ⟨by simp <;> omega, rfl⟩
  · have hc : decide (0 ≤ n) = false := by simpa using c
    go_wp2
    exact bodyPost_ret (v := .bool false) (by simp [results, Tryz.results62, go_sem]) rfl ⟨by simp <;> omega, rfl⟩
theorem bound_Account (n : Int) (w : World) : Calls Tryz.prog 44 #[.int .i64 n] w fun e w' => e = .returned (.bool (decide (0 ≤ n ∧ n < 10))) ∧ w' = w := by
  go_enter Tryz.func44, Tryz.ntmps44
  go_wp2_with (first | (go_at_call 62; refine (bound_Below n 10 _).mono ?_; rintro e w' ⟨rfl, rfl⟩) | fail)
  exact bodyPost_ret (v := .bool (decide (0 ≤ n ∧ n < 10))) (by simp [results, Tryz.results44, go_sem]) rfl ⟨rfl, rfl⟩
theorem bound_Balance (n : Int) (w : World) : Calls Tryz.prog 39 #[.int .i64 n] w fun e w' => e = .returned (.bool (decide (0 ≤ n ∧ n ≤ 1073741824))) ∧ w' = w := by
  go_enter Tryz.func39, Tryz.ntmps39
  go_wp2_with (first | (go_at_call 57; refine (bound_Within n 0 1073741824 _).mono ?_; rintro e w' ⟨rfl, rfl⟩) | fail)
  exact bodyPost_ret (v := .bool (decide (0 ≤ n ∧ n ≤ 1073741824))) (by simp [results, Tryz.results39, go_sem]) rfl ⟨rfl, rfl⟩
theorem code_isRef (n : Int) (w : World) : Calls Tryz.prog 100 #[.int .i64 n] w fun e w' => e = .returned (.bool (decide (0 ≤ n ∧ n < 12))) ∧ w' = w := by
  go_enter Tryz.func100, Tryz.ntmps100
  go_wp2_with (first | (go_at_call 62; refine (bound_Below n 12 _).mono ?_; rintro e w' ⟨rfl, rfl⟩) | fail)
  exact bodyPost_ret (v := .bool (decide (0 ≤ n ∧ n < 12))) (by simp [results, Tryz.results100, go_sem]) rfl ⟨rfl, rfl⟩
end Go.Proofs.YtcfcfijmfgnpfaaGreatDoor
end

section
namespace Go.Proofs.YtcfcfijmfgnpfaaGreatDoor
open Go.RowKit
attribute [local go_sem] Oper.semAt_some
set_option linter.unusedVariables false
set_option linter.unusedSimpArgs false

/-- A row of values that is only read: block b, from its beginning. -/
def RowV (w : World) (b : Nat) (vs : List Value) : Prop := ∀ i v, vs[i]? = some v → w.cell? ⟨b, i, none⟩ = some v
theorem RowV.of {w w' : World} {b : Nat} {vs : List Value} (h : RowV w b vs) (hk : w'.heap[b]? = w.heap[b]?) : RowV w' b vs := fun i v hi => (World.cell?_of_block hk).trans (h i v hi)
theorem pre_take {α : Type} {l : List α} {k : Nat} {x : α} (h : l[k]? = some x) : (l.take k ++ [x]) <+: l ∧ l.take (k + 1) = l.take k ++ [x] := by
  obtain ⟨hk, rfl⟩ := List.getElem?_eq_some_iff.1 h
  have e := List.take_succ_eq_append_getElem hk
  exact ⟨by rw [← e]; exact List.take_prefix _ _, e⟩
set_option maxHeartbeats 4000000 in
set_option maxRecDepth 100000 in
theorem values_iter (n bx b cap : Nat) (vs : List Value) (w : World) (hbx : w.cell? ⟨bx, 0, none⟩ = some (.slice (some ⟨b, 0, none⟩) vs.length cap)) (hr : RowV w b vs) (hl : vs.length ≤ 900)
    (G : FP) (hGx : G bx) (hGb : G b) :
    Iter Tryz.prog n 121 #[.pointer (some ⟨bx, 0, none⟩)] (fun v : Value => #[v]) vs G w := by
  intro lp B Ψ J Jx Φ0 W hgw hG hΨ hΦ hJ hJx hround h0
  have hc1 : W.cell? ⟨bx, 0, none⟩ = some (.slice (some ⟨b, 0, none⟩) vs.length cap) := (World.cell?_of_block (hG bx hGx).2).trans hbx
  have hrW : RowV W b vs := hr.of (hG b hGb).2
  have hbW : b < W.heap.size := Nat.lt_of_lt_of_le (hG b hGb).1 hgw.size
  obtain ⟨hs1, hs2, hs3⟩ := hJ _ _ _ h0
  refine callsIn_of_wp Tryz.func121 rfl trivial ?_ rfl
  simp only [Tryz.ntmps121, List.size_toArray, List.length_cons, List.length_nil, Nat.reduceAdd, Nat.reduceSub, Array.replicate_succ, Array.replicate_zero, List.push_toArray, List.append_toArray, List.nil_append, List.cons_append]
  obtain ⟨L, hL⟩ : ∃ L, L = vs.length := ⟨_, rfl⟩
  rw [← hL] at hc1 hl
  have HR := Lib.hid hrW
  have HLL := Lib.hid hL
  have HRD := Lib.hid hround
  have HJ := Lib.hid hJ
  have HP := Lib.hid hΨ
  have HF := Lib.hid hΦ
  have HH0 := Lib.hid h0
  have hbig : (L : Int) ≤ 900 := by omega
  clear hr hrW hround hJ hJx hΨ hΦ hbx h0 hs1 hs2 hs3 hL hG
  gi_wp2_with fail
  gi_loopw [7] (fun r wr => ∃ (k : Nat) (Φ : FP), k ≤ L ∧ r = .int .i64 k ∧ J (vs.take k) Φ wr ∧ Only Ψ Φ0 W wr ∧ (∀ j, Φ j → Φ0 j ∨ W.heap.size ≤ j)) (fun r wr => L - (intOf r).toNat)
  case atStart => exact ⟨0, Φ0, Nat.zero_le _, rfl, HH0.out, Only.refl _ _ _, fun j h => .inl h⟩
  case round =>
    obtain ⟨k, Φ, hk, rfl, hJ2, ho2, hn2⟩ := hrel
    by_cases hlt : k < L
    · have hlt' : (k : Int) < L := by omega
      obtain ⟨x, hx⟩ : ∃ x, vs[k]? = some x := ⟨vs[k]'(by have := HLL.out; omega), List.getElem?_eq_getElem _⟩
      have hcx : wr.cell? ⟨b, k, none⟩ = some x := ((HR.out).of (ho2.block b hbW (fun h => (HP.out b h).2 hGb) (fun h => HF.out b h hGb))) k x hx
      obtain ⟨hpre, htk⟩ := pre_take hx
      obtain ⟨fn, tm, asg, bd, hy, hR⟩ := HRD.out (vs.take k) x Φ wr hpre hJ2
      dsimp only at hy
      have HT := Lib.hid htk
      have HPR := Lib.hid hpre
      have HO2 := Lib.hid ho2
      have HN2 := Lib.hid hn2
      clear htk hpre ho2 hn2 hJ2 hx
      gi_wp2_with fail
      refine hR.mono ?_
      rintro e W' ⟨Φ', hn', ho', (⟨rfl, hJ'⟩ | ⟨rfl, hJ'⟩)⟩
      · have ho3 : Only Ψ Φ0 W W' := HO2.out.trans ho' HN2.out
        have hn3 : ∀ j, Φ' j → Φ0 j ∨ W.heap.size ≤ j := fun j hj => (hn' j hj).elim (HN2.out j) (fun h => .inr (by have := HO2.out.grow.size; omega))
        gi_wp2
        exact ⟨⟨k + 1, Φ', hlt, by go_num, by rw [HT.out]; exact hJ', ho3, hn3⟩, by simp [intOf]; omega⟩
      · have ho3 : Only Ψ Φ0 W W' := HO2.out.trans ho' HN2.out
        have hn3 : ∀ j, Φ' j → Φ0 j ∨ W.heap.size ≤ j := fun j hj => (hn' j hj).elim (HN2.out j) (fun h => .inr (by have := HO2.out.grow.size; omega))
        gi_wp2
        refine bodyPost_ret (results_none rfl _ _ _) rfl ?_
        exact ⟨⟨_, rfl⟩, Φ', hn3, ho3, .inr ⟨_, HPR.out, hJ'⟩⟩
    · have hkn : k = L := by omega
      subst hkn
      have hJe : J vs Φ wr := by have h := hJ2; rw [HLL.out, List.take_length] at h; exact h
      clear hJ2
      gi_wp2
      refine bodyPost_end (results_none rfl _ _ _) rfl ?_
      exact ⟨⟨_, rfl⟩, Φ, hn2, ho2, .inl hJe⟩
end Go.Proofs.YtcfcfijmfgnpfaaGreatDoor
end

section
namespace Go.Proofs.YtcfcfijmfgnpfaaGreatDoor
open Go.RowKit
attribute [local go_sem] Oper.semAt_some
set_option linter.unusedVariables false
set_option linter.unusedSimpArgs false

def IsM (l : List Int) : List Value := l.map fun x => Value.int .i64 x
/-- Numbers that the call owns. -/
def OwnM (B : Nat) (v : Value) (l : List Int) (w : World) : Prop := w.ownsRow B 3 1 v l.length (IsM l)
theorem infoIM : (Tryz.prog.info? 3).map (fun i => (i.zero, i.size, i.bytes)) = some (some (.int .i64 0), 1, 8) := by kernel_rfl
theorem OwnM.nil (w : World) (B : Nat) : OwnM B (.slice none 0 0) [] w := World.ownsRow_nil w B _ 1
theorem OwnM.lenOf {B : Nat} {v : Value} {l : List Int} {w : World} (h : OwnM B v l w) : ∃ ao cap, v = .slice ao l.length cap := by
  rcases h.2 with ⟨rfl, e⟩ | ⟨g, cap, cur, rfl, -⟩
  · exact ⟨none, 0, by rw [e]⟩
  · exact ⟨_, _, rfl⟩
theorem OwnM.block {B : Nat} {v : Value} {l : List Int} {w : World} (h : OwnM B v l w) {k : Nat} (hk : v.ownBlock = some k) : B ≤ k ∧ k < w.heap.size := World.ownsRow.lt h k hk
theorem OwnM.of {B S' : Nat} {v : Value} {l : List Int} {w w' : World} (h : OwnM B v l w) (hS : S' ≤ B) (hk : ∀ k, v.ownBlock = some k → w'.heap[k]? = w.heap[k]?) : OwnM S' v l w' := by
  obtain ⟨h1, h2⟩ := h
  refine ⟨h1, ?_⟩
  rcases h2 with h2 | ⟨g, cap, cur, rfl, hb, hg, hn, hm, hs, ht⟩
  · exact .inl h2
  · exact .inr ⟨g, cap, cur, rfl, by omega, (hk g rfl).trans hg, hn, hm, hs, ht⟩
section
variable {F : Fence} {nF : Nat} {w : World} {ops : Array Oper} {rest : List Oper} {o : Oper} {a : Act} {Q : Exit → Act → World → Prop}
theorem wplIn_appM_at {s x : Operand} {B ub : Nat} {v : Value} {xs : List Int} {y : Int} (hgd : o.guard = none) (ho : o.op = .call { callee := .builtin .append, args := #[s, x], argTypes := #[22, 22] }) (hs : a.eval s = v) (hx : a.eval x = .slice (some ⟨ub, 0, none⟩) 1 1)
    (hown : OwnM B v xs w) (hc : w.cell? ⟨ub, 0, none⟩ = some (.int .i64 y)) (hlen : xs.length ≤ 1000) (hB : B ≤ w.heap.size)
    (h : ∀ v' w', OwnM B v' (xs ++ [y]) w' → w.grownBy w' v.ownBlock → (v'.ownBlock = v.ownBlock ∨ v'.ownBlock = some w.heap.size) → wpListIn F nF Tryz.prog ops Q rest (a.put o.dst v') w') : wpListIn F nF Tryz.prog ops Q (o :: rest) a w := by
  obtain ⟨i0, hi, hz⟩ := Option.map_eq_some_iff.1 infoIM
  simp only [Prod.mk.injEq] at hz
  obtain ⟨hz0, hz1, hz2⟩ := hz
  refine wpListIn_append_own_at _ hgd s x _ ho B 3 i0 (.int .i64 0) 1 8 Tryz.underlying22 hi hz0 hz1 hz2 rfl (by decide) v _ _ hs hown ⟨ub, 0, none⟩ 1 1 [.int .i64 y] hx (by simp)
    (fun j u hj => by
      cases j with
      | zero => simp only [List.getElem?_cons_zero, Option.some.injEq] at hj; subst hj; rw [Addr.add_mid]; exact hc
      | succ j => simp at hj) (by simp [Value.oneCell']) (by unfold maxLen; omega) (by omega) hB ?_
  intro v' w' h1 h2 _ h4
  refine h v' w' ?_ h2 h4
  unfold OwnM
  rw [List.length_append]
  simpa [IsM] using h1
end
/-- What vs point at: ns, in blocks below B other than lb. -/
def Points (B lb : Nat) (vs : List Value) (ns : List Int) (w : World) : Prop := vs.length = ns.length ∧ ∀ i v, vs[i]? = some v → ∃ b o, v = .pointer (some ⟨b, o, none⟩) ∧ b < B ∧ b ≠ lb ∧ w.cell? ⟨b, o, none⟩ = some (.int .i64 (ns.getD i 0))
structure NumC (N0 lb : Nat) (vs : List Value) (ns : List Int) (pre : List Value) (Φ : FP) (W : World) (v : Value) : Prop where
  bx : Boxed W lb 22 v
  own : OwnM N0 v (ns.take pre.length) W
  iff : ∀ k, Φ k ↔ v.ownBlock = some k
  pts : Points N0 lb vs ns W
  sz : N0 ≤ W.heap.size
def NumI (N0 lb : Nat) (vs : List Value) (ns : List Int) (pre : List Value) (Φ : FP) (W : World) : Prop := ∃ v, NumC N0 lb vs ns pre Φ W v
theorem Points.of {B lb : Nat} {vs : List Value} {ns : List Int} {w w' : World} (h : Points B lb vs ns w) (hk : ∀ k, k < B → k ≠ lb → w'.heap[k]? = w.heap[k]?) : Points B lb vs ns w' :=
  ⟨h.1, fun i v hi => by
    obtain ⟨b, o, e, h1, h2, h3⟩ := h.2 i v hi
    exact ⟨b, o, e, h1, h2, (World.cell?_of_block (a := ⟨b, o, none⟩) (hk b h1 h2)).trans h3⟩⟩
theorem NumI.stab {N0 lb : Nat} {vs : List Value} {ns : List Int} (h1 : lb < N0) : Stab N0 (NumI N0 lb vs ns) := by
  rintro pre Φ W ⟨v, h⟩
  exact ⟨fun k hk => h.own.block ((h.iff k).1 hk), h.sz, fun W' hg hk => ⟨v, (hk lb (.inl h1)).trans h.bx, h.own.of (Nat.le_refl _) (fun k e => hk k (.inr ((h.iff k).2 e))), h.iff, h.pts.of (fun k k1 _ => hk k (.inl k1)), Nat.le_trans h.sz hg.size⟩⟩
def appIM (args : Array Value) : Sem Value := Builtin.append_ #[22, 22] 22 args
theorem append_hideM (args : Array Value) : Builtin.append_ #[22, 22] 22 args = appIM args := rfl
theorem run_appIM {w : World} {B ub : Nat} {v : Value} {xs : List Int} {y : Int} (hown : OwnM B v xs w) (hc : w.cell? ⟨ub, 0, none⟩ = some (.int .i64 y)) (hlen : xs.length ≤ 1000) (hB : B ≤ w.heap.size) :
    ∃ v' w', (appIM #[v, .slice (some ⟨ub, 0, none⟩) 1 1]).run Tryz.prog w = .ok v' w' ∧ OwnM B v' (xs ++ [y]) w' ∧ w.grownBy w' v.ownBlock ∧ (v'.ownBlock = v.ownBlock ∨ v'.ownBlock = some w.heap.size) := by
  obtain ⟨i0, hi, hz⟩ := Option.map_eq_some_iff.1 infoIM
  simp only [Prod.mk.injEq] at hz
  obtain ⟨hz0, hz1, hz2⟩ := hz
  obtain ⟨v', w', h1, h2, h3, -, h5⟩ := run_append_own_at (P := Tryz.prog) (w := w) B 22 22 3 i0 (.int .i64 0) 1 8 Tryz.underlying22 hi hz0 hz1 hz2 rfl (by decide) v _ _ hown ⟨ub, 0, none⟩ 1 1 [.int .i64 y] (by simp)
    (fun j u hj => by
      cases j with
      | zero => simp only [List.getElem?_cons_zero, Option.some.injEq] at hj; subst hj; rw [Addr.add_mid]; exact hc
      | succ j => simp at hj) (by simp [Value.oneCell']) (by unfold maxLen; omega) (by omega) hB
  refine ⟨v', w', h1, ?_, h3, h5⟩
  unfold OwnM
  rw [List.length_append]
  simpa [IsM] using h2
theorem enters_values : ∀ args w, (callFunc 121 args).run Tryz.prog w = .ok (.enter 121 args) w := enters_of Tryz.func121 (by kernel_rfl) rfl
attribute [local go_sem ↓] append_hideM
set_option maxHeartbeats 4000000 in
set_option maxRecDepth 100000 in
theorem code_numbers (bx b cap : Nat) (vs : List Value) (ns : List Int) (w : World) (hbx : w.cell? ⟨bx, 0, none⟩ = some (.slice (some ⟨b, 0, none⟩) vs.length cap)) (hb1 : bx < w.heap.size) (hb2 : b < w.heap.size) (hr : RowV w b vs) (hl : vs.length ≤ 900) (hp : Points w.heap.size w.heap.size vs ns w) :
    Calls Tryz.prog 83 #[.func (.func 121) #[] #[.pointer (some ⟨bx, 0, none⟩)]] w fun e w' => ∃ v', e = .returned v' ∧ OwnM w.heap.size v' ns w' ∧ Below w.heap.size w w' := by
  refine (callsIn_wide (n := 2)).1 ?_
  refine callsIn_of_wp_marks Tryz.func83 rfl trivial ?_ rfl
  simp only [Tryz.ntmps83, List.size_toArray, List.length_cons, List.length_nil, Nat.reduceAdd, Nat.reduceSub, Array.replicate_succ, Array.replicate_zero, List.push_toArray, List.append_toArray, List.nil_append, List.cons_append]
  have mixed : Tryz.prog.follows .mixedOrders = true := by kernel_rfl
  gi_wp2_with fail
  obtain ⟨w1, hw1⟩ : ∃ w1, w1 = w.alloc (.cells #[.slice none 0 0] 22) := ⟨_, rfl⟩
  rw [← hw1]
  obtain ⟨lb, hlb⟩ : ∃ lb, lb = w.heap.size := ⟨_, rfl⟩
  have hB : Below w.heap.size w w1 := by rw [hw1]; exact (Below.refl _ w).alloc (Nat.le_refl _) _
  have hsz : w1.heap.size = lb + 1 := by rw [hw1, hlb]; simp
  have x0 : Boxed w1 lb 22 (.slice none 0 0) := by rw [hw1, hlb]; exact Boxed.new w _ _
  have hp1 : Points w1.heap.size lb vs ns w1 := ⟨hp.1, fun i v hi => by
    obtain ⟨pb, po, e, h1, h2, h3⟩ := hp.2 i v hi
    exact ⟨pb, po, e, by omega, by omega, (World.cell?_of_block (a := ⟨pb, po, none⟩) (hB.block pb h1)).trans h3⟩⟩
  have hit := values_iter 0 bx b cap vs w hbx hr hl (fun k => k < w.heap.size) hb1 hb2
  have HB1 := Lib.hid hB
  have HP1 := Lib.hid hp1
  have l1 : lb < w1.heap.size := by omega
  have l2 : w.heap.size ≤ lb := by omega
  have hvl : vs.length = ns.length := hp.1
  rw [← hlb]
  have HLB := Lib.hid hlb
  clear hp1 hw1 hp hbx hr hB hsz hlb
  refine range_outer (n := 0) (gf := 121) (lb := #[.pointer (some ⟨bx, 0, none⟩)]) rfl enters_values hit (Grow.of_below HB1.out) (fun k hk => ⟨hk, HB1.out.block k hk⟩) (fun _ => rfl)
    (fun k => k = lb) (by rintro k rfl; exact ⟨l1, fun h => by omega⟩) (NumI w1.heap.size lb vs ns) (fun _ _ _ _ => False) (NumI.stab l1) (fun c _ _ _ h => h.elim)
    ⟨_, x0, OwnM.nil _ _, fun k => ⟨fun h => h.elim, fun h => by cases h⟩, HP1.out, Nat.le_refl _⟩
    (fun x => { tmps := #[.func (.func 121) #[] #[.pointer (some ⟨bx, 0, none⟩)], undef, .slice none 0 0, .pointer (some ⟨lb, 0, none⟩), x, .func (.func 121) #[] #[.pointer (some ⟨bx, 0, none⟩)], x, undef, undef, undef, undef, undef, undef, undef], defers := [] }) ?assign ?body ?done ?stop
  case assign =>
    intro l x W K hK
    gi_wp2
    exact hK
  case body =>
    rintro l pre x Φ W hpx ⟨v1, hI⟩ hl1 hΦ -
    have hlen := hpx.length_le
    simp at hlen
    have hx : vs[pre.length]? = some x := by
      have h1 := hpx.getElem (i := pre.length) (by simp)
      simp at h1
      rw [h1]; exact List.getElem?_eq_getElem _
    obtain ⟨pb, po, rfl, hpb, hpl, hcell⟩ := hI.pts.2 _ _ hx
    obtain ⟨ao1, cap1, hv1⟩ := hI.own.lenOf
    obtain ⟨m, hm⟩ : ∃ m, m = (ns.take pre.length).length := ⟨_, rfl⟩
    rw [← hm] at hv1
    subst hv1
    obtain ⟨y, hy⟩ : ∃ y, y = ns.getD pre.length 0 := ⟨_, rfl⟩
    rw [← hy] at hcell
    have c0 := hI.bx.cell
    have f0 := hI.bx.frozen
    have cP1 : (W.alloc (.cells #[.int .i64 y] 3)).cell? ⟨pb, po, none⟩ = some (.int .i64 y) := (World.cell?_of_block (a := ⟨pb, po, none⟩) (Below.heap_alloc _ _ _ (by have := hI.sz; show pb < W.heap.size; omega))).trans hcell
    have HI := Lib.hid hI
    have HX := Lib.hid hx
    have HY := Lib.hid hy
    have HPH := Lib.hid hΦ
    have HLN := Lib.hid hlen
    clear hI hx hy hΦ hm
    have hOW : OwnM w1.heap.size (.slice ao1 m cap1) (ns.take pre.length) (W.alloc (.cells #[.int .i64 y] 3)).drew := HI.out.own.of (Nat.le_refl _) (fun k hk => Below.heap_alloc _ _ _ (HI.out.own.block hk).2)
    have cU : (W.alloc (.cells #[.int .i64 y] 3)).drew.cell? ⟨W.heap.size, 0, none⟩ = some (.int .i64 y) := by
      have h : (W.alloc (.cells #[.int .i64 y] 3)).cell? ⟨W.heap.size, 0, none⟩ = some (.int .i64 y) := by rw [World.cell?, World.alloc_heap_new]; rfl
      exact h
    have hlW : lb < W.heap.size := by have := HI.out.sz; omega
    have hsW : w1.heap.size ≤ (W.alloc (.cells #[.int .i64 y] 3)).drew.heap.size := by have h := HI.out.sz; show w1.heap.size ≤ (W.alloc (.cells #[.int .i64 y] 3)).heap.size; rw [World.size_alloc]; omega
    obtain ⟨v', w3, hrun, hO, hg3, hat3⟩ := run_appIM hOW cU (by simp; omega) hsW
    have hbx : Boxed w3 lb 22 (.slice ao1 m cap1) := (hg3.block lb (by show lb < (W.alloc (.cells #[.int .i64 y] 3)).heap.size; rw [World.size_alloc]; omega) (fun e => by have := (HI.out.own.block e.symm).1; omega)).trans ((Below.heap_alloc _ _ _ hlW).trans HI.out.bx)
    obtain ⟨ao2, cap2, hv2⟩ := hO.lenOf
    obtain ⟨m2, hm2⟩ : ∃ m2, m2 = (ns.take pre.length ++ [y]).length := ⟨_, rfl⟩
    rw [← hm2] at hv2
    subst hv2
    have cB := hbx.cell
    have fB := hbx.frozen
    have c0A : (W.alloc (.cells #[.int .i64 y] 3)).cell? ⟨lb, 0, none⟩ = some (.slice ao1 m cap1) := (World.cell?_of_block (a := ⟨lb, 0, none⟩) (Below.heap_alloc _ _ _ hlW)).trans c0
    have HO := Lib.hid hO
    have HG3 := Lib.hid hg3
    have HAT3 := Lib.hid hat3
    have HBX := Lib.hid hbx
    have HM2 := Lib.hid hm2
    clear hOW cU hO hg3 hat3 hbx hsW hm2
    gi_wp2_with fail
    gi_region_with_o fail
    all_goals
      obtain ⟨W4, hW4⟩ : ∃ W4, W4 = w3.setCell ⟨lb, 0, none⟩ (.slice ao2 m2 cap2) := ⟨_, rfl⟩
      gi_wp2_with fail
      rw [← hW4]
      have hg3 := HG3.out
      have hs3 : W.heap.size + 1 ≤ w3.heap.size := by have h := hg3.size; have e : (W.alloc (.cells #[.int .i64 y] 3)).drew.heap.size = W.heap.size + 1 := World.size_alloc W _; omega
      have hkeep : ∀ k, k ≠ lb → W4.heap[k]? = w3.heap[k]? := fun k h => by rw [hW4]; exact heap_setCell_other _ _ _ _ h
      have hs4 : W4.heap.size = w3.heap.size := by rw [hW4]; simp [World.setCell]
      have hOb : ∀ k, (Value.slice ao2 m2 cap2).ownBlock = some k → w1.heap.size ≤ k ∧ k < w3.heap.size := fun k hk => HO.out.block hk
      have hold : ∀ k, k < W.heap.size → k ≠ lb → ¬ Φ k → W4.heap[k]? = W.heap[k]? := fun k hk h1 h2 => by
        rw [hkeep k h1, hg3.block k (by have e : (W.alloc (.cells #[.int .i64 y] 3)).drew.heap.size = W.heap.size + 1 := World.size_alloc W _; omega) (fun e => h2 ((HI.out.iff k).2 e.symm))]
        exact Below.heap_alloc _ _ _ hk
      have hnΦ : ∀ k, k < w1.heap.size → ¬ Φ k := fun k hk h => by have := HPH.out k h; omega
      have hsz := HI.out.sz
      have htk : ns.take (pre ++ [Value.pointer (some ⟨pb, po, none⟩)]).length = ns.take pre.length ++ [y] := by
        have hlt : pre.length < ns.length := by have := HLN.out; omega
        rw [List.length_append, List.length_singleton, List.take_succ_eq_append_getElem hlt, HY.out]
        simp [hlt]
      refine ⟨fun k => (Value.slice ao2 m2 cap2).ownBlock = some k, fun k hk => ?_, ⟨⟨?_, ?_, ?_, by omega⟩, fun k hk h1 h2 => hold k hk h1 h2⟩, .slice ao2 m2 cap2, ?_⟩
      · rcases HAT3.out with h | h
        · exact .inl ((HI.out.iff k).2 (by rw [← h]; exact hk))
        · rw [hk] at h
          injection h with h
          exact .inr (by rw [h]; have e : (W.alloc (.cells #[.int .i64 y] 3)).drew.heap.size = W.heap.size + 1 := World.size_alloc W _; omega)
      · rw [hW4]; exact hg3.os
      · rw [hW4]; exact hg3.tape
      · rw [hW4]; exact hg3.output
      · exact ⟨by rw [hW4]; exact HBX.out.set _, by rw [htk]; exact HO.out.of (Nat.le_refl _) (fun k hk => hkeep k (by have := (hOb k hk).1; omega)), fun k => Iff.rfl, HI.out.pts.of (fun k k1 k2 => hold k (by omega) k2 (hnΦ k k1)), by omega⟩
  case done =>
    rintro D Φ W3 ⟨v3, hC⟩ hon hD hnD hK
    have hown := hC.own
    rw [hvl, List.take_length] at hown
    have c3 := hC.bx.cell
    have hif := hC.iff
    have HC := Lib.hid hC
    have HOW := Lib.hid hown
    have HON := Lib.hid hon
    have HKK := Lib.hid hK
    clear hC hown hon hK
    gi_wp2
    refine ⟨by simp, .inl ⟨_, _, rfl, run_takeDeferred HKK.out, ?_⟩⟩
    refine ⟨v3, by simp [results, Tryz.results83, go_sem], v3, rfl, HOW.out.of (by omega) (fun k hk => put_other (fun e => hnD ((hif D).2 (by rw [← e]; exact hk)))), ?_⟩
    have hO2 := HON.out
    have hw2 := HB1.out
    refine ⟨hO2.grow.os.trans hw2.os, hO2.grow.tape.trans hw2.tape, hO2.grow.output.trans hw2.output, by have h1 := hO2.grow.size; have h2 := hw2.size; simp [World.putObj]; omega, fun k hk => ?_⟩
    rw [put_other (by omega), hO2.block k (by omega) (by omega) (fun h => h)]
    exact hw2.block k (by omega)
  case stop =>
    rintro D Φ c pre W3 hpre h
    exact h.elim
end Go.Proofs.YtcfcfijmfgnpfaaGreatDoor
end

section
namespace Go.Proofs.YtcfcfijmfgnpfaaGreatDoor
open Go.RowKit
set_option linter.unusedVariables false
set_option linter.unusedSimpArgs false

theorem slices_Values (ao : Option Addr) (m c : Nat) (w : World) : Calls Tryz.prog 106 #[.slice ao m c] w fun e w' => e = .returned (.func (.func 121) #[] #[.pointer (some ⟨w.heap.size, 0, none⟩)]) ∧ w' = w.alloc (.cells #[.slice ao m c] 171) := by
  go_enter Tryz.func106, Tryz.ntmps106
  go_wp2
  exact bodyPost_ret (v := .func (.func 121) #[] #[.pointer (some ⟨w.heap.size, 0, none⟩)]) (by simp [results, Tryz.results106, go_sem]) rfl ⟨rfl, rfl⟩
theorem two_box (w : World) (c : Array Value) (t t2 : TypeId) (v : Value) : ((w.alloc (.cells c t)).alloc (.cells #[v] t2)).drew.cell? ⟨w.heap.size + 1, 0, none⟩ = some v := by
  have h := World.alloc_heap_new (w.alloc (.cells c t)) (.cells #[v] t2)
  rw [World.size_alloc] at h
  show ((w.alloc (.cells c t)).alloc (.cells #[v] t2)).cell? ⟨w.heap.size + 1, 0, none⟩ = some v
  rw [World.cell?, h]; rfl
theorem two_row (w : World) (t t2 : TypeId) (v : Value) (vs : List Value) : RowV ((w.alloc (.cells vs.toArray t)).alloc (.cells #[v] t2)).drew w.heap.size vs := fun i u hi => by
  have h := World.alloc_heap_new w (.cells vs.toArray t)
  have h2 : ((w.alloc (.cells vs.toArray t)).alloc (.cells #[v] t2)).heap[w.heap.size]? = some (.cells vs.toArray t (0, 0)) := (Below.heap_alloc _ _ _ (by simp)).trans h
  show ((w.alloc (.cells vs.toArray t)).alloc (.cells #[v] t2)).cell? ⟨w.heap.size, i, none⟩ = some u
  rw [World.cell?, h2]; simpa using hi

set_option maxHeartbeats 4000000 in
set_option maxRecDepth 100000 in
theorem code_callFields (pb po : Nat) (w : World) : Calls Tryz.prog 84 #[.pointer (some ⟨pb, po, none⟩)] w fun e w' => ∃ bx b, e = .returned (.func (.func 121) #[] #[.pointer (some ⟨bx, 0, none⟩)]) ∧ Below w.heap.size w w' ∧ w'.cell? ⟨bx, 0, none⟩ = some (.slice (some ⟨b, 0, none⟩) 3 3) ∧ RowV w' b [.pointer (some ⟨pb, po, none⟩), .pointer (some ⟨pb, po + 1, none⟩), .pointer (some ⟨pb, po + 2, none⟩)] ∧ bx < w'.heap.size ∧ b < w'.heap.size := by
  go_enter Tryz.func84, Tryz.ntmps84
  go_upto_region 1 with fail
  go_still_tail 9, (by kernel_rfl)
  change wpList _ _ _ _ _ w.drew
  go_wp2_with (first
    | (go_at_call 106; refine (slices_Values _ _ _ _).mono ?_; rintro e w1 ⟨rfl, rfl⟩)
    | fail)
  refine bodyPost_ret (v := .func (.func 121) #[] #[.pointer (some ⟨w.heap.size + 1, 0, none⟩)]) (by simp [results, Tryz.results84, go_sem]) rfl ⟨w.heap.size + 1, w.heap.size, rfl, ?_, ?_, ?_, by simp, by simp; omega⟩
  · exact (((Below.refl _ w).alloc (Nat.le_refl _) _).alloc (by simp) _).drew
  · exact two_box w _ _ _ _
  · exact two_row w _ _ _ _

end Go.Proofs.YtcfcfijmfgnpfaaGreatDoor
end

section
namespace Go.Proofs.YtcfcfijmfgnpfaaGreatDoor
open Go.RowKit
set_option linter.unusedVariables false
set_option linter.unusedSimpArgs false

/-- Numbers that are only read. -/
def RdM (w : World) (v : Value) (l : List Int) : Prop := ∃ ao cap, v = .slice ao l.length cap ∧ ∀ i (hi : i < l.length), ∃ b off, ao = some ⟨b, off, none⟩ ∧ w.cell? ⟨b, off + i, none⟩ = some (.int .i64 l[i]) ∧ b < w.heap.size
theorem RdM.below {w w' : World} {v : Value} {l : List Int} (h : RdM w v l) (hb : Below w.heap.size w w') : RdM w' v l := by
  obtain ⟨ao, cap, e, h2⟩ := h
  refine ⟨ao, cap, e, fun i hi => ?_⟩
  obtain ⟨b, off, e1, e2, e3⟩ := h2 i hi
  exact ⟨b, off, e1, (World.cell?_of_block (a := ⟨b, off + i, none⟩) (hb.block b e3)).trans e2, Nat.lt_of_lt_of_le e3 hb.size⟩
theorem OwnM.reads {B : Nat} {v : Value} {l : List Int} {w : World} (h : OwnM B v l w) : RdM w v l := by
  have h0 := h
  obtain ⟨hl, h2⟩ := h
  rcases h2 with ⟨rfl, e⟩ | ⟨g, cap, cur, rfl, _, hg, _, _, hs, ht⟩
  · exact ⟨none, 0, by rw [e], fun i hi => by omega⟩
  · refine ⟨some ⟨g, 0, none⟩, cap, rfl, fun i hi => ⟨g, 0, rfl, ?_, (h0.block rfl).2⟩⟩
    rw [World.cell?, hg]
    have h1 : (IsM l)[i]? = some (.int .i64 l[i]) := by simp [IsM, hi]
    rw [← ht, List.getElem?_take_of_lt (by omega)] at h1
    simpa using h1
theorem take_eq_succ {l1 l2 : List Int} {k : Nat} (h1 : k < l1.length) (h2 : k < l2.length) (h : l1.take k = l2.take k) (e : l1[k] = l2[k]) : l1.take (k + 1) = l2.take (k + 1) := by
  rw [List.take_succ_eq_append_getElem h1, List.take_succ_eq_append_getElem h2, h, e]
end Go.Proofs.YtcfcfijmfgnpfaaGreatDoor
end

section
namespace Go.Proofs.YtcfcfijmfgnpfaaGreatDoor
open Go.RowKit
set_option linter.unusedVariables false
set_option linter.unusedSimpArgs false

/-- What a call that is no batch must keep to. -/
def leafOk (k t n : Int) (kids : Nat) : Prop := (k = 1 ∧ t = 0 ∧ (0 ≤ n ∧ n ≤ 1073741824) ∧ kids = 0) ∨ (k = 2 ∧ (0 ≤ t ∧ t < 10) ∧ (0 ≤ n ∧ n ≤ 1073741824) ∧ kids = 0) ∨ ((k = 3 ∨ k = 4) ∧ t = 0 ∧ (0 ≤ n ∧ n < 12) ∧ kids = 0)
instance (k t n : Int) (kids : Nat) : Decidable (leafOk k t n kids) := by unfold leafOk; infer_instance
set_option maxHeartbeats 8000000 in
set_option maxRecDepth 100000 in
theorem code_isCall0 (k t n dp : Int) (ao : Option Addr) (kids cap : Nat) (w : World) (h5 : k ≠ 5) :
    Calls Tryz.prog 81 #[.agg #[.int .i64 k, .int .i64 t, .int .i64 n, .slice ao kids cap], .int .i64 dp] w fun e w' => e = .returned (.bool (decide (leafOk k t n kids))) ∧ Below w.heap.size w w' := by
  obtain ⟨W, hW⟩ : ∃ W, W = (w.alloc (.cells #[.int .i64 k, .int .i64 t, .int .i64 n, .slice ao kids cap] 45)).alloc (.cells #[.int .i64 dp] 3) := ⟨_, rfl⟩
  have hB : Below w.heap.size w W := by rw [hW]; exact ((Below.refl _ w).alloc (Nat.le_refl _) _).alloc (by simp) _
  have h1 := World.alloc_heap_new w (.cells #[.int .i64 k, .int .i64 t, .int .i64 n, .slice ao kids cap] 45)
  have g1 : W.heap[w.heap.size]? = some (.cells #[.int .i64 k, .int .i64 t, .int .i64 n, .slice ao kids cap] 45 (0, 0)) := by rw [hW]; exact (Below.heap_alloc _ _ _ (by simp)).trans h1
  obtain ⟨cb, hcb⟩ : ∃ cb, cb = w.heap.size := ⟨_, rfl⟩
  obtain ⟨db, hdb⟩ : ∃ db, db = cb + 1 := ⟨_, rfl⟩
  rw [← hcb] at g1
  have a0 : W.cell? ⟨cb, 0, none⟩ = some (.int .i64 k) := by rw [World.cell?, g1]; rfl
  have a1 : W.cell? ⟨cb, 1, none⟩ = some (.int .i64 t) := by rw [World.cell?, g1]; rfl
  have a2 : W.cell? ⟨cb, 2, none⟩ = some (.int .i64 n) := by rw [World.cell?, g1]; rfl
  have a3 : W.cell? ⟨cb, 3, none⟩ = some (.slice ao kids cap) := by rw [World.cell?, g1]; rfl
  have HB := Lib.hid hB
  clear h1 g1 hB
  go_enter Tryz.func81, Tryz.ntmps81
  go_upto_region 1 with fail
  rw [← hW, ← hcb, ← hdb]
  clear hW hcb hdb
  have fin : ∀ (b : Bool), (b = true ↔ leafOk k t n kids) → b = decide (leafOk k t n kids) := fun b h => by cases b <;> simp [← h]
  have FIN := Lib.hid fin
  clear fin
  by_cases k1 : k = 1
  · have KK := Lib.hid k1
    have e1 : (k == 1) = true := by simp <;> omega
    have e2 : (k == 2) = false := by simp <;> omega
    have e3 : (k == 3) = false := by simp <;> omega
    have e4 : (k == 4) = false := by simp <;> omega
    have e5 : (k == 5) = false := by simp <;> omega
    clear h5 k1
    by_cases q1 : t = 0
    · have f1 : (t == 0) = true := by simp <;> omega
      by_cases q2 : 0 ≤ n ∧ n ≤ 1073741824
      · have f2 : decide (0 ≤ n ∧ n ≤ 1073741824) = true := by simp <;> omega
        by_cases q3 : kids = 0
        · have f3 : ((kids : Int) == 0) = true := by simp <;> omega
          have Q := Lib.hid (And.intro q1 (And.intro q2 q3))
          clear q1 q2 q3
          go_wp2_with (first
              | (go_at_call 39; refine (bound_Balance _ _).mono ?_; rintro e w' ⟨rfl, rfl⟩)
              | fail)
          exact bodyPost_ret (v := .bool true) (by simp [results, Tryz.results81, go_sem]) rfl ⟨by rw [FIN.out true (by unfold leafOk; have := Q.out; have := KK.out; simp; omega)], HB.out⟩
        · have f3 : ((kids : Int) == 0) = false := by simp <;> omega
          have Q := Lib.hid q3
          clear q1 q2 q3
          go_wp2_with (first
              | (go_at_call 39; refine (bound_Balance _ _).mono ?_; rintro e w' ⟨rfl, rfl⟩)
              | fail)
          exact bodyPost_ret (v := .bool false) (by simp [results, Tryz.results81, go_sem]) rfl ⟨by rw [FIN.out false (by unfold leafOk; have := Q.out; have := KK.out; simp; omega)], HB.out⟩
      · have f2 : decide (0 ≤ n ∧ n ≤ 1073741824) = false := by simp <;> omega
        have Q := Lib.hid q2
        clear q1 q2
        go_wp2_with (first
            | (go_at_call 39; refine (bound_Balance _ _).mono ?_; rintro e w' ⟨rfl, rfl⟩)
            | fail)
        exact bodyPost_ret (v := .bool false) (by simp [results, Tryz.results81, go_sem]) rfl ⟨by rw [FIN.out false (by unfold leafOk; have := Q.out; have := KK.out; simp; omega)], HB.out⟩
    · have f1 : (t == 0) = false := by simp <;> omega
      have Q := Lib.hid q1
      clear q1
      go_wp2_with (first
          | (go_at_call 39; refine (bound_Balance _ _).mono ?_; rintro e w' ⟨rfl, rfl⟩)
          | fail)
      exact bodyPost_ret (v := .bool false) (by simp [results, Tryz.results81, go_sem]) rfl ⟨by rw [FIN.out false (by unfold leafOk; have := Q.out; have := KK.out; simp; omega)], HB.out⟩
  by_cases k2 : k = 2
  · have KK := Lib.hid k2
    have e1 : (k == 1) = false := by simp <;> omega
    have e2 : (k == 2) = true := by simp <;> omega
    have e3 : (k == 3) = false := by simp <;> omega
    have e4 : (k == 4) = false := by simp <;> omega
    have e5 : (k == 5) = false := by simp <;> omega
    clear h5 k1 k2
    by_cases q1 : 0 ≤ t ∧ t < 10
    · have f1 : decide (0 ≤ t ∧ t < 10) = true := by simp <;> omega
      by_cases q2 : 0 ≤ n ∧ n ≤ 1073741824
      · have f2 : decide (0 ≤ n ∧ n ≤ 1073741824) = true := by simp <;> omega
        by_cases q3 : kids = 0
        · have f3 : ((kids : Int) == 0) = true := by simp <;> omega
          have Q := Lib.hid (And.intro q1 (And.intro q2 q3))
          clear q1 q2 q3
          go_wp2_with (first
              | (go_at_call 44; refine (bound_Account _ _).mono ?_; rintro e w' ⟨rfl, rfl⟩)
              | (go_at_call 39; refine (bound_Balance _ _).mono ?_; rintro e w' ⟨rfl, rfl⟩)
              | fail)
          exact bodyPost_ret (v := .bool true) (by simp [results, Tryz.results81, go_sem]) rfl ⟨by rw [FIN.out true (by unfold leafOk; have := Q.out; have := KK.out; simp; omega)], HB.out⟩
        · have f3 : ((kids : Int) == 0) = false := by simp <;> omega
          have Q := Lib.hid q3
          clear q1 q2 q3
          go_wp2_with (first
              | (go_at_call 44; refine (bound_Account _ _).mono ?_; rintro e w' ⟨rfl, rfl⟩)
              | (go_at_call 39; refine (bound_Balance _ _).mono ?_; rintro e w' ⟨rfl, rfl⟩)
              | fail)
          exact bodyPost_ret (v := .bool false) (by simp [results, Tryz.results81, go_sem]) rfl ⟨by rw [FIN.out false (by unfold leafOk; have := Q.out; have := KK.out; simp; omega)], HB.out⟩
      · have f2 : decide (0 ≤ n ∧ n ≤ 1073741824) = false := by simp <;> omega
        have Q := Lib.hid q2
        clear q1 q2
        go_wp2_with (first
            | (go_at_call 44; refine (bound_Account _ _).mono ?_; rintro e w' ⟨rfl, rfl⟩)
            | (go_at_call 39; refine (bound_Balance _ _).mono ?_; rintro e w' ⟨rfl, rfl⟩)
            | fail)
        exact bodyPost_ret (v := .bool false) (by simp [results, Tryz.results81, go_sem]) rfl ⟨by rw [FIN.out false (by unfold leafOk; have := Q.out; have := KK.out; simp; omega)], HB.out⟩
    · have f1 : decide (0 ≤ t ∧ t < 10) = false := by simp <;> omega
      have Q := Lib.hid q1
      clear q1
      go_wp2_with (first
          | (go_at_call 44; refine (bound_Account _ _).mono ?_; rintro e w' ⟨rfl, rfl⟩)
          | (go_at_call 39; refine (bound_Balance _ _).mono ?_; rintro e w' ⟨rfl, rfl⟩)
          | fail)
      exact bodyPost_ret (v := .bool false) (by simp [results, Tryz.results81, go_sem]) rfl ⟨by rw [FIN.out false (by unfold leafOk; have := Q.out; have := KK.out; simp; omega)], HB.out⟩
  by_cases k3 : k = 3
  · have KK := Lib.hid k3
    have e1 : (k == 1) = false := by simp <;> omega
    have e2 : (k == 2) = false := by simp <;> omega
    have e3 : (k == 3) = true := by simp <;> omega
    have e4 : (k == 4) = false := by simp <;> omega
    have e5 : (k == 5) = false := by simp <;> omega
    clear h5 k1 k2 k3
    by_cases q1 : t = 0
    · have f1 : (t == 0) = true := by simp <;> omega
      by_cases q2 : 0 ≤ n ∧ n < 12
      · have f2 : decide (0 ≤ n ∧ n < 12) = true := by simp <;> omega
        by_cases q3 : kids = 0
        · have f3 : ((kids : Int) == 0) = true := by simp <;> omega
          have Q := Lib.hid (And.intro q1 (And.intro q2 q3))
          clear q1 q2 q3
          go_wp2_with (first
              | (go_at_call 100; refine (code_isRef _ _).mono ?_; rintro e w' ⟨rfl, rfl⟩)
              | fail)
          exact bodyPost_ret (v := .bool true) (by simp [results, Tryz.results81, go_sem]) rfl ⟨by rw [FIN.out true (by unfold leafOk; have := Q.out; have := KK.out; simp; omega)], HB.out⟩
        · have f3 : ((kids : Int) == 0) = false := by simp <;> omega
          have Q := Lib.hid q3
          clear q1 q2 q3
          go_wp2_with (first
              | (go_at_call 100; refine (code_isRef _ _).mono ?_; rintro e w' ⟨rfl, rfl⟩)
              | fail)
          exact bodyPost_ret (v := .bool false) (by simp [results, Tryz.results81, go_sem]) rfl ⟨by rw [FIN.out false (by unfold leafOk; have := Q.out; have := KK.out; simp; omega)], HB.out⟩
      · have f2 : decide (0 ≤ n ∧ n < 12) = false := by simp <;> omega
        have Q := Lib.hid q2
        clear q1 q2
        go_wp2_with (first
            | (go_at_call 100; refine (code_isRef _ _).mono ?_; rintro e w' ⟨rfl, rfl⟩)
            | fail)
        exact bodyPost_ret (v := .bool false) (by simp [results, Tryz.results81, go_sem]) rfl ⟨by rw [FIN.out false (by unfold leafOk; have := Q.out; have := KK.out; simp; omega)], HB.out⟩
    · have f1 : (t == 0) = false := by simp <;> omega
      have Q := Lib.hid q1
      clear q1
      go_wp2_with (first
          | (go_at_call 100; refine (code_isRef _ _).mono ?_; rintro e w' ⟨rfl, rfl⟩)
          | fail)
      exact bodyPost_ret (v := .bool false) (by simp [results, Tryz.results81, go_sem]) rfl ⟨by rw [FIN.out false (by unfold leafOk; have := Q.out; have := KK.out; simp; omega)], HB.out⟩
  by_cases k4 : k = 4
  · have KK := Lib.hid k4
    have e1 : (k == 1) = false := by simp <;> omega
    have e2 : (k == 2) = false := by simp <;> omega
    have e3 : (k == 3) = false := by simp <;> omega
    have e4 : (k == 4) = true := by simp <;> omega
    have e5 : (k == 5) = false := by simp <;> omega
    clear h5 k1 k2 k3 k4
    by_cases q1 : t = 0
    · have f1 : (t == 0) = true := by simp <;> omega
      by_cases q2 : 0 ≤ n ∧ n < 12
      · have f2 : decide (0 ≤ n ∧ n < 12) = true := by simp <;> omega
        by_cases q3 : kids = 0
        · have f3 : ((kids : Int) == 0) = true := by simp <;> omega
          have Q := Lib.hid (And.intro q1 (And.intro q2 q3))
          clear q1 q2 q3
          go_wp2_with (first
              | (go_at_call 100; refine (code_isRef _ _).mono ?_; rintro e w' ⟨rfl, rfl⟩)
              | fail)
          exact bodyPost_ret (v := .bool true) (by simp [results, Tryz.results81, go_sem]) rfl ⟨by rw [FIN.out true (by unfold leafOk; have := Q.out; have := KK.out; simp; omega)], HB.out⟩
        · have f3 : ((kids : Int) == 0) = false := by simp <;> omega
          have Q := Lib.hid q3
          clear q1 q2 q3
          go_wp2_with (first
              | (go_at_call 100; refine (code_isRef _ _).mono ?_; rintro e w' ⟨rfl, rfl⟩)
              | fail)
          exact bodyPost_ret (v := .bool false) (by simp [results, Tryz.results81, go_sem]) rfl ⟨by rw [FIN.out false (by unfold leafOk; have := Q.out; have := KK.out; simp; omega)], HB.out⟩
      · have f2 : decide (0 ≤ n ∧ n < 12) = false := by simp <;> omega
        have Q := Lib.hid q2
        clear q1 q2
        go_wp2_with (first
            | (go_at_call 100; refine (code_isRef _ _).mono ?_; rintro e w' ⟨rfl, rfl⟩)
            | fail)
        exact bodyPost_ret (v := .bool false) (by simp [results, Tryz.results81, go_sem]) rfl ⟨by rw [FIN.out false (by unfold leafOk; have := Q.out; have := KK.out; simp; omega)], HB.out⟩
    · have f1 : (t == 0) = false := by simp <;> omega
      have Q := Lib.hid q1
      clear q1
      go_wp2_with (first
          | (go_at_call 100; refine (code_isRef _ _).mono ?_; rintro e w' ⟨rfl, rfl⟩)
          | fail)
      exact bodyPost_ret (v := .bool false) (by simp [results, Tryz.results81, go_sem]) rfl ⟨by rw [FIN.out false (by unfold leafOk; have := Q.out; have := KK.out; simp; omega)], HB.out⟩
  have KK := Lib.hid (And.intro k1 (And.intro k2 (And.intro k3 k4)))
  have e1 : (k == 1) = false := by simp <;> omega
  have e2 : (k == 2) = false := by simp <;> omega
  have e3 : (k == 3) = false := by simp <;> omega
  have e4 : (k == 4) = false := by simp <;> omega
  have e5 : (k == 5) = false := by simp <;> omega
  clear h5 k1 k2 k3 k4
  go_wp2_with (first
      | fail)
  exact bodyPost_ret (v := .bool false) (by simp [results, Tryz.results81, go_sem]) rfl ⟨by rw [FIN.out false (by unfold leafOk; have := KK.out; simp; omega)], HB.out⟩
end Go.Proofs.YtcfcfijmfgnpfaaGreatDoor
end

section
namespace Go.Proofs.YtcfcfijmfgnpfaaGreatDoor
open Go.RowKit
set_option linter.unusedVariables false
set_option linter.unusedSimpArgs false

theorem points3 {w : World} {cb : Nat} {k t n : Int} (h : cb < w.heap.size) (a0 : w.cell? ⟨cb, 0, none⟩ = some (.int .i64 k)) (a1 : w.cell? ⟨cb, 1, none⟩ = some (.int .i64 t)) (a2 : w.cell? ⟨cb, 2, none⟩ = some (.int .i64 n)) :
    Points w.heap.size w.heap.size [.pointer (some ⟨cb, 0, none⟩), .pointer (some ⟨cb, 0 + 1, none⟩), .pointer (some ⟨cb, 0 + 2, none⟩)] [k, t, n] w := by
  refine ⟨rfl, fun i v hi => ?_⟩
  match i, hi with
  | 0, hi => simp at hi; subst hi; exact ⟨cb, 0, rfl, h, by omega, a0⟩
  | 1, hi => simp at hi; subst hi; exact ⟨cb, 1, rfl, h, by omega, a1⟩
  | 2, hi => simp at hi; subst hi; exact ⟨cb, 2, rfl, h, by omega, a2⟩
  | i + 3, hi => simp at hi
theorem cell_of_below {w w' : World} {b o : Nat} {v : Value} (hb : Below w.heap.size w w') (h : w.cell? ⟨b, o, none⟩ = some v) (hl : b < w.heap.size) : w'.cell? ⟨b, o, none⟩ = some v := (World.cell?_of_block (a := ⟨b, o, none⟩) (hb.block b hl)).trans h
end Go.Proofs.YtcfcfijmfgnpfaaGreatDoor
end

section
namespace Go.Proofs.YtcfcfijmfgnpfaaGreatDoor
open Go.RowKit
set_option linter.unusedVariables false
set_option linter.unusedSimpArgs false

/-- A vote. -/
structure Vt where
  kind : Int
  aye : Bool
  level : Int
  a : Int
  n : Int
  s : Int
def voteEq (a b : Vt) : Bool := decide (a.kind = b.kind) && (decide (a.aye = b.aye) && (decide (a.level = b.level) && (decide (a.a = b.a) && (decide (a.n = b.n) && decide (a.s = b.s)))))
def vtc (v : Vt) : List Value := [.int .i64 v.kind, .bool v.aye, .int .i64 v.level, .int .i64 v.a, .int .i64 v.n, .int .i64 v.s]
/-- An extrinsic: its places, its call's as they are. -/
structure Ex where
  hd : List Int
  h7 : hd.length = 7
  sum : List Nat
  h32 : sum.length = 32
  vote : Vt
  ck : Int
  ct : Int
  cn : Int
  ca : Option Addr
  cc : Nat
  m : Nat
def callc (e : Ex) : List Value := [.int .i64 e.ck, .int .i64 e.ct, .int .i64 e.cn, .slice e.ca e.m e.cc]
def ec (e : Ex) : List Value := IsM e.hd ++ (Bs e.sum ++ (vtc e.vote ++ callc e))
theorem ec_len (e : Ex) : (ec e).length = 49 := by simp [ec, IsM, Bs, vtc, callc, e.h7, e.h32]
theorem eqItems_two (w : World) (d : Nat) (a b : List Nat) : ∀ is : List Nat, (∀ i ∈ is, i < a.length ∧ i < b.length) →
    (Op.eqItems (d + 1) 5 1 (Bs a).toArray (Bs b).toArray is).run Tryz.prog w = .ok (is.all fun i => a.getD i 0 == b.getD i 0) w
  | [], _ => by simp [Op.eqItems]
  | i :: is, h => by
    obtain ⟨ha, hb⟩ := h i (by simp)
    have he : Tryz.prog.plainKey 5 = true := by kernel_rfl
    have p1 := run_part_plain (P := Tryz.prog) w (e := 5) he (xs := (Bs a).toArray) (off := i) (v := .int .u8 (a.getD i 0 : Nat)) (by simp [Bs, ha])
    have p2 := run_part_plain (P := Tryz.prog) w (e := 5) he (xs := (Bs b).toArray) (off := i) (v := .int .u8 (b.getD i 0 : Nat)) (by simp [Bs, hb])
    simp only [Op.eqItems, Nat.mul_one, Sem.run_bind, p1, p2, Result.andThen_ok, run_equalIn_int w d 5 .u8 .u8 _ _ Tryz.underlying5]
    by_cases e : a.getD i 0 = b.getD i 0
    · have e1 : ((a.getD i 0 : Int) == (b.getD i 0 : Int)) = true := by rw [e]; simp
      have e2 : (a.getD i 0 == b.getD i 0) = true := by rw [e]; simp
      rw [e1]
      simp only [List.all_cons, e2, Bool.true_and, Bool.not_true, Bool.false_eq_true, if_false]
      exact eqItems_two w d a b is fun j hj => h j (by simp [hj])
    · have e1 : ((a.getD i 0 : Int) == (b.getD i 0 : Int)) = false := by simp only [beq_eq_false_iff_ne, ne_eq]; omega
      have e2 : (a.getD i 0 == b.getD i 0) = false := by simpa using e
      rw [e1]
      simp only [List.all_cons, e2, Bool.false_and, Bool.not_false, if_true, Sem.run_pure]
theorem all_eq32 (a b : List Nat) (ha : a.length = 32) (hb : b.length = 32) : ((List.range 32).all fun i => a.getD i 0 == b.getD i 0) = decide (a = b) := by
  by_cases e : a = b
  · subst e; simp
  · rw [decide_eq_false e]
    cases h : (List.range 32).all fun i => a.getD i 0 == b.getD i 0 with
    | false => rfl
    | true =>
      refine absurd (List.ext_getElem (by rw [ha, hb]) fun i h1 h2 => ?_) e
      rw [List.all_eq_true] at h
      have := h i (by simp; omega)
      simpa [h1, h2] using this
def eqHash (x y : Value) : Sem Value := binOp .eql 41 x y
theorem eq_hash (x y : Value) : binOp .eql 41 x y = eqHash x y := rfl
theorem run_eqHash (w : World) (a b : List Nat) (ha : a.length = 32) (hb : b.length = 32) : (eqHash (.agg (Bs a).toArray) (.agg (Bs b).toArray)).run Tryz.prog w = .ok (.bool (decide (a = b))) w := by
  unfold eqHash
  rw [run_eql_struct, show (10000 : Nat) = 9998 + 1 + 1 from rfl, run_equalIn_array (i := (Tryz.prog.info? 5).getD default) w (9998 + 1) (e := 5) (n := 32) _ _ Tryz.underlying41 (by kernel_rfl)]
  rw [show Tryz.prog.cellsOf 5 = 1 from by kernel_rfl, eqItems_two w 9998 a b _ (by simp; omega), all_eq32 a b ha hb]
  rfl
def extEq (a b : Ex) : Bool := decide (a.hd = b.hd) && (decide (a.sum = b.sum) && (voteEq a.vote b.vote && (decide ([a.ck, a.ct, a.cn] = [b.ck, b.ct, b.cn]) && decide (a.m = 0))))
def loadH (v : Value) : Sem Value := Instr.loadAt 41 v
theorem load_h (v : Value) : Instr.loadAt 41 v = loadH v := rfl
def loadC (v : Value) : Sem Value := Instr.loadAt 45 v
theorem load_c (v : Value) : Instr.loadAt 45 v = loadC v := rfl
theorem rangeAt_sub {w : World} {b : Nat} {t : TypeId} {A M C L : List Value} (h : w.heap[b]? = some (.cells L.toArray t (0, 0))) (e : L = A ++ (M ++ C)) {k : Nat} (hk : A.length = k) : w.rangeAt b k M := fun j u hj => by
  have hjl := (List.getElem?_eq_some_iff.1 hj).1
  rw [World.cell?, h]
  simp only [List.getElem?_toArray, e]
  rw [List.getElem?_append_right (by omega), show k + j - A.length = j by omega, List.getElem?_append_left hjl]
  simpa using hj
section
variable {w : World} {b : Nat} {e : Ex}
end
end Go.Proofs.YtcfcfijmfgnpfaaGreatDoor
end

section
namespace Go.Proofs.YtcfcfijmfgnpfaaGreatDoor
open Go.RowKit
set_option linter.unusedVariables false
set_option linter.unusedSimpArgs false

end Go.Proofs.YtcfcfijmfgnpfaaGreatDoor
end

section
namespace Go.Proofs.YtcfcfijmfgnpfaaGreatDoor
open Go.RowKit
set_option linter.unusedVariables false
set_option linter.unusedSimpArgs false

def exWith (e : Ex) (hd : List Int) (h : hd.length = 7) : Ex := ⟨hd, h, e.sum, e.h32, e.vote, e.ck, e.ct, e.cn, e.ca, e.cc, e.m⟩
def exZero : Ex := ⟨[0, 0, 0, 0, 0, 0, 0], rfl, List.replicate 32 0, by simp, ⟨0, false, 0, 0, 0, 0⟩, 0, 0, 0, none, 0, 0⟩
theorem ec_one (e : Ex) : ∀ u ∈ ec e, u.oneCell' = true := by
  intro u hu
  simp only [ec, IsM, Bs, vtc, callc, List.mem_append, List.mem_map, List.mem_cons, List.not_mem_nil, or_false] at hu
  rcases hu with ⟨x, -, rfl⟩ | ⟨x, -, rfl⟩ | (rfl | rfl | rfl | rfl | rfl | rfl) | (rfl | rfl | rfl | rfl) <;> rfl
theorem ec_set {e : Ex} {i : Nat} {x : Int} (hi : i < 7) : (ec e).toArray.setIfInBounds i (.int .i64 x) = (ec (exWith e (e.hd.set i x) (by simp [e.h7]))).toArray := by
  have hl : i < e.hd.length := by rw [e.h7]; exact hi
  apply Array.ext'
  simp only [Array.toList_setIfInBounds, ec, exWith, IsM]
  rw [List.set_append_left _ _ (by simpa using hl), List.map_set]
  rfl
end Go.Proofs.YtcfcfijmfgnpfaaGreatDoor
end

section
namespace Go.Proofs.YtcfcfijmfgnpfaaGreatDoor
open Go.RowKit
set_option linter.unusedVariables false
set_option linter.unusedSimpArgs false

end Go.Proofs.YtcfcfijmfgnpfaaGreatDoor
end

section
namespace Go.Proofs.YtcfcfijmfgnpfaaGreatDoor
open Go.RowKit
set_option linter.unusedVariables false
set_option linter.unusedSimpArgs false

end Go.Proofs.YtcfcfijmfgnpfaaGreatDoor
end

section
namespace Go.Proofs.YtcfcfijmfgnpfaaGreatDoor
open Go.RowKit
set_option linter.unusedVariables false
set_option linter.unusedSimpArgs false

theorem run_loadC0 {w : World} {b : Nat} {k t n : Int} {ao : Option Addr} {kids cap : Nat} (h : w.heap[b]? = some (.cells #[.int .i64 k, .int .i64 t, .int .i64 n, .slice ao kids cap] 45 (0, 0))) : (loadC (.pointer (some ⟨b, 0, none⟩))).run Tryz.prog w = .ok (.agg #[.int .i64 k, .int .i64 t, .int .i64 n, .slice ao kids cap]) w :=
  run_loadAt_mid w b 0 45 [.int .i64 k, .int .i64 t, .int .i64 n, .slice ao kids cap] _ (rangeAt_sub (A := []) (C := []) (L := [.int .i64 k, .int .i64 t, .int .i64 n, .slice ao kids cap]) h (by simp) rfl) Tryz.underlying45 rfl (by kernel_rfl)
attribute [local go_sem ↓] load_c
set_option maxHeartbeats 4000000 in
set_option maxRecDepth 100000 in
theorem code_IsCall0 (k t n : Int) (ao : Option Addr) (kids cap : Nat) (w : World) (h5 : k ≠ 5) :
    Calls Tryz.prog 60 #[.agg #[.int .i64 k, .int .i64 t, .int .i64 n, .slice ao kids cap]] w fun e w' => e = .returned (.bool (decide (leafOk k t n kids))) ∧ Below w.heap.size w w' := by
  go_enter Tryz.func60, Tryz.ntmps60
  have h1 := World.alloc_heap_new w (.cells #[.int .i64 k, .int .i64 t, .int .i64 n, .slice ao kids cap] 45)
  obtain ⟨W, hW⟩ : ∃ W, W = w.alloc (.cells #[.int .i64 k, .int .i64 t, .int .i64 n, .slice ao kids cap] 45) := ⟨_, rfl⟩
  have hB : Below w.heap.size w W := by rw [hW]; exact (Below.refl _ w).alloc (Nat.le_refl _) _
  rw [← hW] at h1
  go_upto_region 1 with fail
  rw [← hW]
  have LC := run_loadC0 h1
  have HB := Lib.hid hB
  clear h1 hW hB
  go_wp2_with (first | (go_at_call 81; refine (code_isCall0 k t n 3 ao kids cap _ h5).mono ?_; rintro e w1 ⟨rfl, hb⟩; have HB1 := Lib.hid hb; clear hb) | fail)
  exact bodyPost_ret (v := .bool (decide (leafOk k t n kids))) (by simp [results, Tryz.results60, go_sem]) rfl ⟨rfl, HB.out.trans (HB1.out.mono HB.out.size)⟩
end Go.Proofs.YtcfcfijmfgnpfaaGreatDoor
end

section
namespace Go.Proofs.YtcfcfijmfgnpfaaGreatDoor
open Go.RowKit
set_option linter.unusedVariables false
set_option linter.unusedSimpArgs false

theorem OwnM.readsI {B : Nat} {v : Value} {l : List Int} {w : World} (h : OwnM B v l w) : RdIM w v l := by
  have h' := h
  obtain ⟨h1, h2⟩ := h
  rcases h2 with ⟨rfl, h0⟩ | ⟨g, cap, cur, rfl, hg, hh, hc, hr⟩
  · exact .inl ⟨rfl, List.length_eq_zero_iff.1 h0⟩
  · refine .inr ⟨⟨g, 0, none⟩, cap, rfl, hc, fun i hi => ?_⟩
    exact World.ownsRow.cells h' rfl i _ (by simp [IsM, hi])
theorem pointsC {w : World} {b : Nat} {k t n : Int} {v : Value} (h : w.heap[b]? = some (.cells #[.int .i64 k, .int .i64 t, .int .i64 n, v] 45 (0, 0))) :
    Points w.heap.size w.heap.size [.pointer (some ⟨b, 0, none⟩), .pointer (some ⟨b, 0 + 1, none⟩), .pointer (some ⟨b, 0 + 2, none⟩)] [k, t, n] w := by
  have hb : b < w.heap.size := (Array.getElem?_eq_some_iff.1 h).1
  refine ⟨rfl, fun i v hi => ?_⟩
  match i, hi with
  | 0, hi => simp at hi; subst hi; exact ⟨b, 0, rfl, hb, by omega, by rw [World.cell?, h]; rfl⟩
  | 1, hi => simp at hi; subst hi; exact ⟨b, 1, rfl, hb, by omega, by rw [World.cell?, h]; rfl⟩
  | 2, hi => simp at hi; subst hi; exact ⟨b, 2, rfl, hb, by omega, by rw [World.cell?, h]; rfl⟩
  | i + 3, hi => simp at hi
theorem box_cell (W : World) : (W.alloc (.cells #[.int .i64 0] 3)).cell? ⟨W.heap.size, 0, none⟩ = some (.int .i64 0) := by
  rw [World.cell?, World.alloc_heap_new]; rfl
theorem OwnB.ofC {S S' : Nat} {v : Value} {l : List Value} {w w' : World} (h : OwnB S v l w) (hS : S' ≤ S) (hk : ∀ k, v.ownBlock = some k → w'.heap[k]? = w.heap[k]?) : OwnB S' v l w' := by
  refine ⟨h.1, ?_⟩
  rcases h.2 with h | ⟨g, cap, cur, h1, h2, h3, h4⟩
  · exact .inl h
  · exact .inr ⟨g, cap, cur, h1, Nat.le_trans hS h2, (hk g (by rw [h1]; rfl)).trans h3, h4⟩
theorem lt_alloc {w : World} {o : Obj} {x : Nat} (h : x < w.heap.size) : x < (w.alloc o).heap.size := by simp; omega
theorem rowV_alloc {w : World} {o : Obj} {b : Nat} {vs : List Value} (h : RowV w b vs) (hb : b < w.heap.size) : RowV (w.alloc o) b vs := fun i v hi => (World.cell?_of_block (a := ⟨b, i, none⟩) (Below.heap_alloc _ _ _ hb)).trans (h i v hi)
theorem numbers_at {x1 y1 cb : Nat} {k t n : Int} {v : Value} {w : World} (hx : w.cell? ⟨x1, 0, none⟩ = some (.slice (some ⟨y1, 0, none⟩) 3 3)) (l1 : x1 < w.heap.size) (l2 : y1 < w.heap.size) (hr : RowV w y1 [.pointer (some ⟨cb, 0, none⟩), .pointer (some ⟨cb, 0 + 1, none⟩), .pointer (some ⟨cb, 0 + 2, none⟩)]) (hc : w.heap[cb]? = some (.cells #[.int .i64 k, .int .i64 t, .int .i64 n, v] 45 (0, 0))) :
    Calls Tryz.prog 83 #[.func (.func 121) #[] #[.pointer (some ⟨x1, 0, none⟩)]] w fun e w' => ∃ v', e = .returned v' ∧ OwnM w.heap.size v' [k, t, n] w' ∧ Below w.heap.size w w' :=
  code_numbers x1 y1 3 [.pointer (some ⟨cb, 0, none⟩), .pointer (some ⟨cb, 0 + 1, none⟩), .pointer (some ⟨cb, 0 + 2, none⟩)] [k, t, n] w hx l1 l2 hr (by simp) (pointsC hc)
theorem numbers_alloc {x1 y1 cb : Nat} {k t n : Int} {v : Value} {w : World} {o : Obj} (hx : w.cell? ⟨x1, 0, none⟩ = some (.slice (some ⟨y1, 0, none⟩) 3 3)) (l1 : x1 < w.heap.size) (l2 : y1 < w.heap.size) (hr : RowV w y1 [.pointer (some ⟨cb, 0, none⟩), .pointer (some ⟨cb, 0 + 1, none⟩), .pointer (some ⟨cb, 0 + 2, none⟩)]) (hc : w.heap[cb]? = some (.cells #[.int .i64 k, .int .i64 t, .int .i64 n, v] 45 (0, 0))) :
    Calls Tryz.prog 83 #[.func (.func 121) #[] #[.pointer (some ⟨x1, 0, none⟩)]] (w.alloc o) fun e w' => ∃ v', e = .returned v' ∧ OwnM (w.alloc o).heap.size v' [k, t, n] w' ∧ Below (w.alloc o).heap.size (w.alloc o) w' :=
  numbers_at ((World.cell?_of_block (a := ⟨x1, 0, none⟩) (Below.heap_alloc _ _ _ l1)).trans hx) (lt_alloc l1) (lt_alloc l2) (rowV_alloc hr l2) ((Below.heap_alloc _ _ _ (Array.getElem?_eq_some_iff.1 hc).1).trans hc)
theorem app_old {N ub : Nat} {v2 : Value} {l : List Int} {a w2 : World} {A : Nat} (ho : OwnM N v2 l w2) (hc : w2.cell? ⟨ub, 0, none⟩ = some (.int .i64 0)) (hl : l.length ≤ 1000) (hN : N ≤ w2.heap.size) (hb : Below A a w2) (hA : A ≤ N) :
    ∃ v5 w5, (appIM #[v2, .slice (some ⟨ub, 0, none⟩) 1 1]).run Tryz.prog w2 = .ok v5 w5 ∧ OwnM N v5 (l ++ [0]) w5 ∧ Below A a w5 := by
  obtain ⟨v5, w5, h1, h2, h3, -⟩ := run_appIM ho hc hl hN
  exact ⟨v5, w5, h1, h2, hb.grown h3 (by omega) (fun k hk => Nat.le_trans hA (ho.block hk).1)⟩
theorem app_new {N : Nat} {v2 : Value} {l : List Int} {a w2 : World} {A : Nat} (ho : OwnM N v2 l w2) (hl : l.length ≤ 1000) (hN : N ≤ w2.heap.size) (hb : Below A a w2) (hA : A ≤ N) :
    ∃ v5 w5, (appIM #[v2, .slice (some ⟨w2.heap.size, 0, none⟩) 1 1]).run Tryz.prog (w2.alloc (.cells #[.int .i64 0] 3)) = .ok v5 w5 ∧ OwnM N v5 (l ++ [0]) w5 ∧ Below A a w5 :=
  app_old (ho.of (Nat.le_refl _) (fun k hk => Below.heap_alloc _ _ _ (ho.block hk).2)) (box_cell w2) hl (by simp; omega) (hb.alloc (by omega) _) hA
end Go.Proofs.YtcfcfijmfgnpfaaGreatDoor
end

section
namespace Go.Proofs.YtcfcfijmfgnpfaaGreatDoor
open Go.RowKit
set_option linter.unusedVariables false
set_option linter.unusedSimpArgs false

theorem box_cellM (W : World) (m : Int) : (W.alloc (.cells #[.int .i64 m] 3)).cell? ⟨W.heap.size, 0, none⟩ = some (.int .i64 m) := by
  rw [World.cell?, World.alloc_heap_new]; rfl
theorem box_cellD (W : World) (m : Int) : (W.alloc (.cells #[.int .i64 m] 3)).drew.cell? ⟨W.heap.size, 0, none⟩ = some (.int .i64 m) := box_cellM W m
theorem box_lt (W : World) (o : Obj) : W.heap.size < (W.alloc o).drew.heap.size := by show W.heap.size < (W.alloc o).heap.size; simp
theorem app_oldM {N ub : Nat} {v2 : Value} {l : List Int} {m : Int} {a w2 : World} {A : Nat} (ho : OwnM N v2 l w2) (hc : w2.cell? ⟨ub, 0, none⟩ = some (.int .i64 m)) (hl : l.length ≤ 1000) (hN : N ≤ w2.heap.size) (hb : Below A a w2) (hA : A ≤ N) :
    ∃ v5 w5, (appIM #[v2, .slice (some ⟨ub, 0, none⟩) 1 1]).run Tryz.prog w2 = .ok v5 w5 ∧ OwnM N v5 (l ++ [m]) w5 ∧ Below A a w5 := by
  obtain ⟨v5, w5, h1, h2, h3, -⟩ := run_appIM ho hc hl hN
  exact ⟨v5, w5, h1, h2, hb.grown h3 (by omega) (fun k hk => Nat.le_trans hA (ho.block hk).1)⟩
theorem app_newM {N : Nat} {v2 : Value} {l : List Int} {m : Int} {a w2 : World} {A : Nat} (ho : OwnM N v2 l w2) (hl : l.length ≤ 1000) (hN : N ≤ w2.heap.size) (hb : Below A a w2) (hA : A ≤ N) :
    ∃ v5 w5, (appIM #[v2, .slice (some ⟨w2.heap.size, 0, none⟩) 1 1]).run Tryz.prog (w2.alloc (.cells #[.int .i64 m] 3)) = .ok v5 w5 ∧ OwnM N v5 (l ++ [m]) w5 ∧ Below A a w5 :=
  app_oldM (ho.of (Nat.le_refl _) (fun k hk => Below.heap_alloc _ _ _ (ho.block hk).2)) (box_cellM w2 m) hl (by simp; omega) (hb.alloc (by omega) _) hA
theorem app_midM {v2 : Value} {l : List Int} {m : Int} {a w1 w2 : World} {A : Nat} (hq : Below (w1.alloc (.cells #[.int .i64 m] 3)).heap.size (w1.alloc (.cells #[.int .i64 m] 3)) w2) (ho : OwnM (w1.alloc (.cells #[.int .i64 m] 3)).heap.size v2 l w2) (hl : l.length ≤ 1000) (hb : Below A a w2) (hA : A ≤ w1.heap.size) :
    ∃ v5 w5, (appIM #[v2, .slice (some ⟨w1.heap.size, 0, none⟩) 1 1]).run Tryz.prog w2 = .ok v5 w5 ∧ OwnM A v5 (l ++ [m]) w5 ∧ Below A a w5 := by
  obtain ⟨v5, w5, h1, h2, h3⟩ := app_oldM ho ((World.cell?_of_block (a := ⟨w1.heap.size, 0, none⟩) (hq.block w1.heap.size (by simp))).trans (box_cellM w1 m)) hl hq.size hb (by simp; omega)
  exact ⟨v5, w5, h1, h2.of (by simp; omega) (fun _ _ => rfl), h3⟩
theorem own3 {B : Nat} {v : Value} {k t n : Int} {w : World} (h : OwnM B v [k, t, n] w) : ∃ ao cap, v = .slice ao 3 cap := h.lenOf
theorem reads4 {B : Nat} {v : Value} {k t n m : Int} {w : World} (h : OwnM B v ([k, t, n] ++ [m]) w) : RdIM w v [k, t, n, m] := h.readsI
theorem put4 {v : Value} {k t n m : Int} {w : World} (h : RdIM w v [k, t, n, m]) : Calls Tryz.prog 82 #[.slice none 0 0, v] w (OwnRet w.heap.size (Bs (numsL [k, t, n, m])) w) :=
  compact_Put _ v [] [k, t, n, m] w (.inl ⟨rfl, rfl⟩) h (by simp) (by simp)
theorem sizeC : (Tryz.prog.info? 45).map (·.size) = some 4 := by kernel_rfl
theorem wpl_loadC {w : World} {ops : Array Oper} {rest : List Oper} {o : Oper} {a : Act} {Q : Exit → Act → World → Prop} {b k : Nat} {vs : List Value} (x : Operand) (hgd : o.guard = none) (ho : o.op = .load 45 x) (hx : a.eval x = .pointer (some ⟨b, k, none⟩)) (hr : w.rangeAt b k vs) (hl : vs.length = 4)
    (h : wpList Tryz.prog ops Q rest (a.put o.dst (.agg vs.toArray)) w) : wpList Tryz.prog ops Q (o :: rest) a w :=
  wpList_load_mid hgd 45 x ho b k hx vs _ hr Tryz.underlying45 rfl (by rw [hl]; exact sizeC) h
theorem rangeAt_new {w : World} {T : TypeId} (cs : List Value) : (w.alloc (.cells cs.toArray T)).rangeAt w.heap.size 0 cs := fun j u hj => by
  have h := World.alloc_heap_new w (.cells cs.toArray T)
  rw [Nat.zero_add, World.cell?, h]; simpa using hj
theorem rdBB_oneC {w : World} {v : Value} {x : List Nat} {T : TypeId} (h : RdB w v x) : RdBB (w.alloc (.cells #[v] T)) (.slice (some ⟨w.heap.size, 0, none⟩) 1 1) [x] := by
  refine .inr ⟨⟨w.heap.size, 0, none⟩, 1, rfl, Nat.le_refl _, fun i hi => ?_⟩
  obtain rfl : i = 0 := by simpa using hi
  refine ⟨v, ?_, h.below ((Below.refl _ w).alloc (Nat.le_refl _) _)⟩
  show (w.alloc (.cells #[v] T)).cell? ⟨w.heap.size, 0 + 0, none⟩ = some v
  rw [World.cell?, World.alloc_heap_new]; rfl
attribute [local go_sem ↓] append_hideM
set_option maxHeartbeats 4000000 in
set_option maxRecDepth 100000 in
theorem code_lay (d : Nat) : ∀ (c : Cl) (v : Value) (w : World), (layT c).length ≤ 100000 → RdC w d v c → Calls Tryz.prog 61 #[v] w (OwnRet w.heap.size (Bs (layT c)) w) := by
  induction d with
  | zero => intro c v w _ h; exact h.elim
  | succ d ih =>
  intro c v w hlen hrd
  obtain ⟨d', ao, cap, hd, rfl, hkids⟩ := hrd.open
  obtain rfl : d' = d := by omega
  rw [layT_eq] at hlen ⊢
  obtain ⟨k, hk⟩ : ∃ k, k = c.k := ⟨_, rfl⟩
  obtain ⟨t, ht⟩ : ∃ t, t = c.t := ⟨_, rfl⟩
  obtain ⟨n, hn⟩ : ∃ n, n = c.n := ⟨_, rfl⟩
  obtain ⟨l, hl⟩ : ∃ l, l = c.kids := ⟨_, rfl⟩
  rw [← hk, ← ht, ← hn, ← hl] at hlen ⊢
  rw [← hl] at hkids
  obtain ⟨m, hm⟩ : ∃ m, m = l.length := ⟨_, rfl⟩
  rw [← hm] at hlen ⊢
  have hml : m ≤ 100000 := by have := kids_len l; rw [List.length_append] at hlen; omega
  have HKD := Lib.hid hkids
  have HM := Lib.hid hm
  have HLEN := Lib.hid hlen
  have IH := Lib.hid ih
  clear hk ht hn hl hrd hkids hm hlen ih hd
  go_enter Tryz.func61, Tryz.ntmps61
  obtain ⟨W, hW⟩ : ∃ W, W = w.alloc (.cells #[.int .i64 k, .int .i64 t, .int .i64 n, .slice ao m cap] 45) := ⟨_, rfl⟩
  have h1 := World.alloc_heap_new w (.cells #[.int .i64 k, .int .i64 t, .int .i64 n, .slice ao m cap] 45)
  rw [← hW] at h1
  have hs : W.heap.size = w.heap.size + 1 := by rw [hW]; simp
  have hB : Below w.heap.size w W := by rw [hW]; exact (Below.refl _ w).alloc (Nat.le_refl _) _
  obtain ⟨cb, hcb⟩ : ∃ cb, cb = w.heap.size := ⟨_, rfl⟩
  rw [← hcb] at h1
  have hc3 : W.cell? ⟨cb, 3, none⟩ = some (.slice ao m cap) := by rw [World.cell?, h1]; rfl
  go_upto_region 1 with fail
  rw [← hW, ← hcb]
  have HB := Lib.hid hB
  have HCB := Lib.hid hcb
  go_cut [3] (fun v wx => OwnB W.heap.size v (Bs (numsL [k, t, n, m])) wx ∧ Below W.heap.size W wx)
  case first =>
    have dw : W.drew.heap = W.heap := rfl
    have H1 := Lib.hid h1
    have LCB := Lib.hid (show cb < W.heap.size from (Array.getElem?_eq_some_iff.1 h1).1)
    have BD := Lib.hid (Below.refl W.heap.size W).drew
    have BA := Lib.hid (((Below.refl W.heap.size W).alloc (Nat.le_refl _) (.cells #[.int .i64 (m : Int)] 3)).drew)
    have HC3 := Lib.hid hc3
    clear hW hcb h1 dw hs hB hc3
    go_region_held3 (fun wc => wc.cell? ⟨cb, 3, none⟩ = some (.slice ao m cap)) (first | exact HC3.out | exact (World.cell?_of_block (a := ⟨cb, 3, none⟩) (B6.out.block cb LCB.out)).trans HC3.out | exact (World.cell?_of_block (a := ⟨cb, 3, none⟩) (B1.out.block cb LCB.out)).trans HC3.out | exact (World.cell?_of_block (a := ⟨cb, 3, none⟩) ((B1.out.alloc B1.out.size _).block cb LCB.out)).trans HC3.out | exact (World.cell?_of_block (a := ⟨cb, 3, none⟩) (B2.out.block cb LCB.out)).trans HC3.out | exact (World.cell?_of_block (a := ⟨cb, 3, none⟩) ((B2.out.alloc B2.out.size _).block cb LCB.out)).trans HC3.out | exact (World.cell?_of_block (a := ⟨cb, 3, none⟩) (B5.out.block cb LCB.out)).trans HC3.out | exact (World.cell?_of_block (a := ⟨cb, 3, none⟩) ((B5.out.alloc B5.out.size _).block cb LCB.out)).trans HC3.out | exact (World.cell?_of_block (a := ⟨cb, 3, none⟩) (BD.out.block cb LCB.out)).trans HC3.out | exact (World.cell?_of_block (a := ⟨cb, 3, none⟩) ((BD.out.alloc BD.out.size _).block cb LCB.out)).trans HC3.out | exact (World.cell?_of_block (a := ⟨cb, 3, none⟩) (BA.out.block cb LCB.out)).trans HC3.out | exact (World.cell?_of_block (a := ⟨cb, 3, none⟩) ((BA.out.alloc BA.out.size _).block cb LCB.out)).trans HC3.out) (first
      | (go_at_call 84; with_reducible refine (code_callFields cb 0 W.drew).mono ?_; rintro e w1 ⟨x1, y1, rfl, hb, hx, hr, l1, l2⟩; have B1 := Lib.hid (BD.out.trans (hb.mono BD.out.size)); have X1 := Lib.hid hx; have R1 := Lib.hid hr; have L1 := Lib.hid l1; have M1 := Lib.hid l2; clear hb hx hr l1 l2; have G1 := Lib.hid ((B1.out.block cb LCB.out).trans H1.out))
      | (go_at_call 84; with_reducible refine (code_callFields cb 0 (W.alloc (.cells #[.int .i64 (m : Int)] 3)).drew).mono ?_; rintro e w1 ⟨x1, y1, rfl, hb, hx, hr, l1, l2⟩; have B1 := Lib.hid (BA.out.trans (hb.mono BA.out.size)); have XB := Lib.hid ((World.cell?_of_block (a := ⟨W.heap.size, 0, none⟩) (hb.block W.heap.size (box_lt W _))).trans (box_cellD W m)); have SZ1 := Lib.hid (show W.heap.size < w1.heap.size from Nat.lt_of_lt_of_le (box_lt W _) hb.size); have X1 := Lib.hid hx; have R1 := Lib.hid hr; have L1 := Lib.hid l1; have M1 := Lib.hid l2; clear hb hx hr l1 l2; have G1 := Lib.hid ((B1.out.block cb LCB.out).trans H1.out))
      | (go_at_call 83; with_reducible refine (numbers_alloc X1.out L1.out M1.out R1.out G1.out).mono ?_; rintro e w2 ⟨v2, rfl, ho, hb⟩; obtain ⟨ao2, cap2, rfl⟩ := own3 ho; have B2 := Lib.hid ((B1.out.alloc B1.out.size _).trans (hb.mono (B1.out.alloc B1.out.size _).size)); obtain ⟨v5, w5, E5, o5, b5⟩ := app_midM hb ho (by simp) B2.out B1.out.size; have O5 := Lib.hid o5; have B5 := Lib.hid b5; clear o5 b5 hb ho)
      | (go_at_call 83; revert XB; intro XB; with_reducible refine (numbers_at X1.out L1.out M1.out R1.out G1.out).mono ?_; rintro e w2 ⟨v2, rfl, ho, hb⟩; obtain ⟨ao2, cap2, rfl⟩ := own3 ho; have B2 := Lib.hid (B1.out.trans (hb.mono B1.out.size)); obtain ⟨v5, w5, E5, o5, b5⟩ := app_oldM ho ((World.cell?_of_block (a := ⟨W.heap.size, 0, none⟩) (hb.block W.heap.size SZ1.out)).trans XB.out) (by simp) hb.size B2.out B1.out.size; have O5 := Lib.hid o5; have B5 := Lib.hid b5; clear o5 b5 hb ho)
      | (go_at_call 83; with_reducible refine (numbers_at X1.out L1.out M1.out R1.out G1.out).mono ?_; rintro e w2 ⟨v2, rfl, ho, hb⟩; obtain ⟨ao2, cap2, rfl⟩ := own3 ho; have B2 := Lib.hid (B1.out.trans (hb.mono B1.out.size)); obtain ⟨v5, w5, E5, o5, b5⟩ := app_newM (m := m) ho (by simp) hb.size B2.out B1.out.size; have O5 := Lib.hid o5; have B5 := Lib.hid b5; clear o5 b5 hb ho)
      | (go_at_call 82; refine (put4 (reads4 O5.out)).mono ?_; rintro e w6 ⟨v6, rfl, ho6, hb6, -⟩; have O6 := Lib.hid (OwnB.ofC ho6 B5.out.size (fun _ _ => rfl)); have B6 := Lib.hid (B5.out.trans (hb6.mono B5.out.size)); clear ho6 hb6)
      | fail)
    all_goals go_wp2_with fail
    all_goals go_meet
    all_goals exact ⟨O6.out, B6.out⟩
  case rest =>
    obtain ⟨ho0, hb0⟩ := hcut
    have HR0 := Lib.hid (And.intro ho0 hb0)
    have hc3' : wc.cell? ⟨cb, 3, none⟩ = some (.slice ao m cap) := (World.cell?_of_block (a := ⟨cb, 3, none⟩) (hb0.block cb (Array.getElem?_eq_some_iff.1 h1).1)).trans hc3
    clear ho0 hb0 hc3 h1 hs hB hW hcb
    go_wp2_with fail
    go_loopw [3, 5, 17] (fun b p i wr => ∃ j : Nat, j ≤ m ∧ i = .int .i64 j ∧ OwnB W.heap.size b (Bs (numsL [k, t, n, m] ++ laysT (l.take j))) wr ∧ Below W.heap.size W wr) (fun _ _ i _ => m - (intOf i).toNat)
    case atStart => exact ⟨0, by omega, rfl, by rw [List.take_zero]; simpa [laysT] using HR0.out.1, HR0.out.2⟩
    case round =>
      obtain ⟨j, hj, rfl, ho, hb⟩ := hrel
      have HR := Lib.hid (And.intro ho hb)
      have HRB := Lib.hid ho.reads
      clear ho hb HR0 hc3'
      by_cases hlt : j < m
      · have hlt' : (j : Int) < m := by omega
        have hjl : j < l.length := by rw [← HM.out]; exact hlt
        obtain ⟨kb, ko, vs, rfl, hkb, hrg, hrd⟩ := HKD.out j hjl
        obtain ⟨kd, hkd⟩ : ∃ kd, kd = l[j] := ⟨_, rfl⟩
        rw [← hkd] at hrd
        have hW2 := HR.out.2
        have hrg2 : wr.rangeAt kb (ko + j * 4) vs := rangeAt_keep hrg ((hW2.block kb (by have := HB.out.size; omega)).trans (HB.out.block kb hkb))
        have hrd2 : RdC wr d' (.agg vs.toArray) kd := RdC.below (hW2.mono HB.out.size |> HB.out.trans) hrd
        obtain ⟨a4, c4, e4⟩ := hrd.cells
        obtain ⟨c1, c2, c3, c5, e5⟩ : ∃ c1 c2 c3 c5, vs = [.int .i64 c1, .int .i64 c2, .int .i64 c3, .slice a4 c5 c4] := ⟨_, _, _, _, e4⟩
        clear e4
        subst e5
        have hLK : (layT kd).length ≤ (laysT l).length := by rw [hkd]; exact layT_kid hjl
        have hLT := laysT_length l j
        have hLE := HLEN.out
        rw [List.length_append] at hLE
        have htk : laysT (l.take (j + 1)) = laysT (l.take j) ++ rowL (layT kd) := by rw [laysT_take l hjl, hkd]
        obtain ⟨W3, hW3⟩ : ∃ W3, W3 = wr.alloc (.cells #[.int .i64 c1, .int .i64 c2, .int .i64 c3, .slice a4 c5 c4] 45) := ⟨_, rfl⟩
        have hb3 : Below wr.heap.size wr W3 := by rw [hW3]; exact (Below.refl _ wr).alloc (Nat.le_refl _) _
        have hrg3 : W3.rangeAt wr.heap.size 0 [.int .i64 c1, .int .i64 c2, .int .i64 c3, .slice a4 c5 c4] := by rw [hW3]; exact rangeAt_new _
        have hcall := IH.out kd _ W3 (by omega) (RdC.below hb3 hrd2)
        have hrow : (numsL [k, t, n, m] ++ laysT (l.take j)).length + bulkL [layT kd] ≤ 1000000000 := by rw [List.length_append]; simp only [bulkL]; omega
        have hRow : numsL [k, t, n, m] ++ laysT (l.take j) ++ rowsL [layT kd] = numsL [k, t, n, m] ++ laysT (l.take (j + 1)) := by rw [htk]; simp [rowsL, List.append_assoc]
        have HRG := Lib.hid hrg2
        have HRG3 := Lib.hid hrg3
        have HC := Lib.hid hcall
        have HW3 := Lib.hid hW3
        have H3 := Lib.hid (hW2.trans (hb3.mono hW2.size))
        have HROW := Lib.hid hrow
        have HROWE := Lib.hid hRow
        have HB3 := Lib.hid hb3
        clear hkb hrg hrd hkd hW2 hrg2 hrd2 hLK hLT hLE htk hb3 hrg3 hcall hrow hRow hW3 hlt hjl
        go_upto_region 5 with (first
          | (refine wpl_loadC _ rfl rfl rfl HRG.out rfl ?_)
          | fail)
        rw [← HW3.out]
        go_wp2_with (first
          | (refine wpl_loadC _ rfl rfl rfl HRG3.out rfl ?_)
          | (go_at_call 61; refine HC.out.mono ?_; rintro e w4 ⟨v4, rfl, ho4, hb4, hs4⟩; obtain ⟨a6, c6, hv6⟩ := ho4.reads.lenOf; obtain ⟨z, hz⟩ : ∃ z, z = (layT kd).length := ⟨_, rfl⟩; rw [← hz] at hv6; subst hv6; have HO4 := Lib.hid (rdBB_oneC (T := 75) ho4.reads); have HB4 := Lib.hid (H3.out.trans (hb4.mono H3.out.size)); have HU4 := Lib.hid (((HRB.out.below HB3.out).below hb4).below (w' := w4.alloc (.cells #[.slice a6 z c6] 75)) ((Below.refl _ w4).alloc (Nat.le_refl _) _)); clear hz ho4 hb4 hs4)
          | (go_at_call 85; refine (compact_Row u3 _ _ [layT kd] _ HU4.out HO4.out HROW.out (by simp [maxLen])).mono ?_; rw [HROWE.out]; rintro e w5 ⟨v5, rfl, ho5, hb5, hs5⟩; have HO5 := Lib.hid (OwnB.ofC ho5 (Nat.le_trans HB4.out.size (by simp)) (fun _ _ => rfl)); have HB5 := Lib.hid ((HB4.out.alloc HB4.out.size _).trans (hb5.mono (HB4.out.alloc HB4.out.size _).size)); clear ho5 hb5 hs5)
          | fail)
        go_roundw
        case rel => exact ⟨j + 1, by omega, by go_num, HO5.out, HB5.out⟩
        case measure => simp [intOf]; omega
      · obtain rfl : j = m := by omega
        have hge : ¬ (j : Int) < j := by omega
        have htk : l.take j = l := List.take_of_length_le (by rw [← HM.out]; exact Nat.le_refl _)
        have HTK := Lib.hid htk
        clear hlt htk hj
        go_wp2_with fail
        go_ret
        have ho := HR.out.1
        rw [HTK.out] at ho
        exact ⟨u3, rfl, ho.ofC HB.out.size (fun _ _ => rfl), HB.out.trans (HR.out.2.mono HB.out.size), Nat.le_trans HB.out.size HR.out.2.size⟩
end Go.Proofs.YtcfcfijmfgnpfaaGreatDoor
end
