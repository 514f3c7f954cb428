/-
  AgendaMeanwhile: an agenda beside other places, while it is told.
-/
import Derived.Test.YtbpgiahbnijidaaDue1
namespace Go.Proofs.Ytbpgiahbnijidaa
open Go.RowKit Go.Shelf
set_option linter.unusedVariables false
set_option linter.unusedSimpArgs false

def upL (n : Nat) : List Tk := (List.range n).map fun i => mkT (i : Nat) (i : Nat)
theorem upL_len (n : Nat) : (upL n).length = n := by simp [upL]
theorem up_put : ∀ k, k < 12 → putL (upL k) (mkT (k : Nat) (k : Nat)) = upL (k + 1) := by decide +kernel
theorem up_srt' : ∀ k, k < 13 → decide ((upL k).Pairwise fun a b => cmpT a b < 0) = true := by decide +kernel
theorem up_pre {pre : List Tk} {x : Tk} {n : Nat} (h : (pre ++ [x]) <+: upL n) : pre.length < n ∧ x = mkT (pre.length : Nat) (pre.length : Nat) := by
  have hl := h.length_le
  simp [upL_len] at hl
  refine ⟨by omega, ?_⟩
  have hi : pre.length < (pre ++ [x]).length := by simp
  have h1 := h.getElem hi
  simp [upL] at h1
  exact h1
theorem up_drop {n p : Nat} (h : p < n) : (upL n).drop p = mkT (p : Nat) (p : Nat) :: (upL n).drop (p + 1) := by
  rw [List.drop_eq_getElem_cons (by rw [upL_len]; exact h)]
  simp [upL]
theorem up_del {n p : Nat} (h : p < n) : delN ((upL n).drop p) (p : Nat) = (upL n).drop (p + 1) := by
  rw [up_drop h]; exact delN_head rfl
theorem AgA.of {B g : Nat} {v : Value} {ts : List Tk} {w w' : World} (h : AgA B g v ts w) (hg : w'.heap[g]? = w.heap[g]?) (hk : ∀ k, v.ownBlock = some k → w'.heap[k]? = w.heap[k]?) : AgA B g v ts w' :=
  ⟨hg.trans h.at_, h.own.of (Nat.le_refl _) hk, h.ne, h.lo⟩
theorem aside_ne {B g b : Nat} {v u : Value} {ts : List Tk} {w : World} {t : TypeId} (hA : AgA B g v ts w) (h : Boxed w b t u) (ht : t ≠ 32) (ht2 : t ≠ 57) : ¬ (b = g ∨ v.ownBlock = some b) := by
  rintro (rfl | h2)
  · exact ht2 (kinds_ne h hA.at_)
  · obtain ⟨c, e⟩ := hA.own.kind h2
    exact ht (kinds_ne h e)
theorem aside_kept {B g b : Nat} {v u : Value} {ts : List Tk} {w w' : World} {t : TypeId} (hA : AgA B g v ts w) (h : Boxed w b t u) (ht : t ≠ 32) (ht2 : t ≠ 57) (ho : Only (fun k => k = g ∨ v.ownBlock = some k) (fun _ => False) w w') : Boxed w' b t u :=
  (ho.block b h.lt (aside_ne hA h ht ht2) (fun h => h)).trans h
theorem only_below {B N g : Nat} {v : Value} {ts : List Tk} {w0 w w' : World} (hA : AgA B g v ts w) (hN : N = B) (hB : Below N w0 w) (hs : N ≤ w.heap.size) (ho : Only (fun k => k = g ∨ v.ownBlock = some k) (fun _ => False) w w') : Below N w0 w' := by
  subst hN
  refine hB.trans (ho.below hs (fun k hk => ?_) (fun k hk => hk.elim))
  rcases hk with rfl | hk
  · exact hA.lo
  · exact (hA.own.block hk).1

/-- The agenda, and the law's own places. -/
structure MwSt (w : World) (sb qb xb g : Nat) (st : Int) (ts : List Tk) (W : World) : Prop where
  ag : ∃ v, AgA w.heap.size g v ts W
  old : Below w.heap.size w W
  bs : Boxed W sb 3 (.int .i64 st)
  bq : Boxed W qb 4 (.bool false)
  bx : Boxed W xb 23 (.pointer (some ⟨g, 0, none⟩))
theorem MwSt.put {w : World} {sb qb xb g : Nat} {st : Int} {ts : List Tk} {W : World} (T : Tk) (h : MwSt w sb qb xb g st ts W) (hS : Srt ts) (hl : ts.length ≤ 12) :
    Calls Try.prog 12 #[.pointer (some ⟨g, 0, none⟩), .agg (tc T).toArray] W fun e W' => e = .returned (.int .i64 (putE ts T)) ∧ MwSt w sb qb xb g st (putL ts T) W' := by
  obtain ⟨⟨v, hA⟩, hO, b1, b2, b3⟩ := h
  refine (agenda_Put _ g v ts T W hA hS hl hO.size).mono fun e W' ⟨he, v2, hA2, ho, _⟩ => ⟨he, ⟨v2, hA2⟩, only_below hA rfl hO hO.size ho, ?_, ?_, ?_⟩
  · exact aside_kept hA b1 (by decide) (by decide) ho
  · exact aside_kept hA b2 (by decide) (by decide) ho
  · exact aside_kept hA b3 (by decide) (by decide) ho

theorem mw_new (w : World) (st : Int) : MwSt w w.heap.size (w.heap.size + 1) (w.heap.size + 1 + 1 + 1) (w.heap.size + 1 + 1) st [] ((((w.alloc (.cells #[.int .i64 st] 3)).alloc (.cells #[.bool false] 4)).alloc (.cells #[.slice none 0 0] 57)).alloc (.cells #[.pointer (some ⟨w.heap.size + 1 + 1, 0, none⟩)] 23)) := by
  have b1 := Boxed.new w 3 (.int .i64 st)
  have b2 := Boxed.new (w.alloc (.cells #[.int .i64 st] 3)) 4 (.bool false)
  have b3 := Boxed.new ((w.alloc (.cells #[.int .i64 st] 3)).alloc (.cells #[.bool false] 4)) 57 (.slice none 0 0)
  have b4 := Boxed.new (((w.alloc (.cells #[.int .i64 st] 3)).alloc (.cells #[.bool false] 4)).alloc (.cells #[.slice none 0 0] 57)) 23 (.pointer (some ⟨w.heap.size + 1 + 1, 0, none⟩))
  rw [World.size_alloc] at b2
  rw [World.size_alloc, World.size_alloc] at b3
  rw [World.size_alloc, World.size_alloc, World.size_alloc] at b4
  exact ⟨⟨_, ⟨b3.alloc _, OwnT.nil _ _, (by intro h; cases h), by omega⟩⟩, ((((Below.refl _ w).alloc (Nat.le_refl _) _).alloc (by simp) _).alloc (by simp; omega) _).alloc (by simp; omega) _, ((b1.alloc _).alloc _).alloc _, (b2.alloc _).alloc _, b4⟩

/-- In the way over all tasks: p of them are told, and gone. -/
structure MwC (B N0 sb qb xb kb g n : Nat) (st : Nat) (ov : Option Nat) (p : Nat) (Φ : FP) (W : World) (v : Value) : Prop where
  ag : AgA B g v ((upL n).drop p) W
  iff : ∀ k, v.ownBlock = some k → ov = some k ∨ Φ k
  lo : ∀ k, Φ k → N0 ≤ k ∧ k < W.heap.size
  bs : Boxed W sb 3 (.int .i64 (st : Nat))
  bq : Boxed W qb 4 (.bool false)
  bx : Boxed W xb 23 (.pointer (some ⟨g, 0, none⟩))
  bk : Boxed W kb 3 (.int .i64 (p : Nat))
  sz : N0 ≤ W.heap.size
section
variable {B N0 sb qb xb kb g n st p : Nat} {ov : Option Nat} {Φ : FP} {W : World} {v : Value}
theorem MwC.keep (h : MwC B N0 sb qb xb kb g n st ov p Φ W v) (l1 : sb < N0) (l2 : qb < N0) (l3 : xb < N0) (l4 : kb < N0) (l5 : g < N0) (l6 : ∀ k, ov = some k → k < N0) {W' : World} (hs : W.heap.size ≤ W'.heap.size) (hk : ∀ k, k < N0 ∨ Φ k → W'.heap[k]? = W.heap[k]?) : MwC B N0 sb qb xb kb g n st ov p Φ W' v :=
  ⟨h.ag.of (hk g (.inl l5)) (fun k hv => hk k ((h.iff k hv).imp (l6 k) id)), h.iff, fun k hf => ⟨(h.lo k hf).1, Nat.lt_of_lt_of_le (h.lo k hf).2 hs⟩, (hk sb (.inl l1)).trans h.bs, (hk qb (.inl l2)).trans h.bq, (hk xb (.inl l3)).trans h.bx, (hk kb (.inl l4)).trans h.bk, Nat.le_trans h.sz hs⟩
def MwI (B N0 sb qb xb kb g n st : Nat) (ov : Option Nat) (pre : List Tk) (Φ : FP) (W : World) : Prop := pre.length < st ∧ ∃ v, MwC B N0 sb qb xb kb g n st ov pre.length Φ W v
def MwX (B N0 sb qb xb kb g n st : Nat) (ov : Option Nat) (c : Code) (pre : List Tk) (Φ : FP) (W : World) : Prop := c = .exit 2 ∧ pre.length = st ∧ ∃ v, MwC B N0 sb qb xb kb g n st ov pre.length Φ W v
def MwF (B N0 sb qb xb kb g n st : Nat) (ov : Option Nat) (Φ : FP) (W : World) : Prop := ∃ (m : Nat) (v : Value), min (n : Int) (st : Int) = (m : Int) ∧ m ≤ n ∧ MwC B N0 sb qb xb kb g n st ov m Φ W v
theorem MwI.stab (l1 : sb < N0) (l2 : qb < N0) (l3 : xb < N0) (l4 : kb < N0) (l5 : g < N0) (l6 : ∀ k, ov = some k → k < N0) : Stab N0 (MwI B N0 sb qb xb kb g n st ov) := by
  rintro pre Φ W ⟨h0, v, h⟩
  exact ⟨h.lo, h.sz, fun W' hg hk => ⟨h0, v, h.keep l1 l2 l3 l4 l5 l6 hg.size hk⟩⟩
theorem MwX.stab (l1 : sb < N0) (l2 : qb < N0) (l3 : xb < N0) (l4 : kb < N0) (l5 : g < N0) (l6 : ∀ k, ov = some k → k < N0) (c : Code) : Stab N0 (MwX B N0 sb qb xb kb g n st ov c) := by
  rintro pre Φ W ⟨hc, h0, v, h⟩
  exact ⟨h.lo, h.sz, fun W' hg hk => ⟨hc, h0, v, h.keep l1 l2 l3 l4 l5 l6 hg.size hk⟩⟩
/-- One round: the first is taken away, and counted. -/
theorem mw_step (h : MwC B N0 sb qb xb kb g n st ov p Φ W v) (l1 : sb < kb) (l2 : qb < kb) (l3 : xb < kb) (l5 : g < kb) (hp : p < n) {W2 : World} (h2 : Left2 B g v (delN ((upL n).drop p) (p : Nat)) W W2) :
    ∃ Φ' : FP, (∀ k, Φ' k → Φ k ∨ W.heap.size ≤ k) ∧ Only (fun k => k = kb ∨ k = g ∨ ov = some k) Φ W (W2.setCell ⟨kb, 0, none⟩ (.int .i64 ((p + 1 : Nat) : Int))) ∧ ∃ v', MwC B N0 sb qb xb kb g n st ov (p + 1) Φ' (W2.setCell ⟨kb, 0, none⟩ (.int .i64 ((p + 1 : Nat) : Int))) v' := by
  obtain ⟨v2, hA2, ho, hfr⟩ := h2
  rw [up_del hp] at hA2
  have c1 := aside_kept h.ag h.bs (by decide) (by decide) ho
  have c2 := aside_kept h.ag h.bq (by decide) (by decide) ho
  have c3 := aside_kept h.ag h.bx (by decide) (by decide) ho
  have c4 := aside_kept h.ag h.bk (by decide) (by decide) ho
  have hkn := aside_ne hA2 c4 (by decide) (by decide)
  have hsame : ∀ k, k ≠ kb → (W2.setCell ⟨kb, 0, none⟩ (.int .i64 ((p + 1 : Nat) : Int))).heap[k]? = W2.heap[k]? := fun k hk => heap_setCell_other _ _ _ _ hk
  have hsz : (W2.setCell ⟨kb, 0, none⟩ (.int .i64 ((p + 1 : Nat) : Int))).heap.size = W2.heap.size := by simp [World.setCell]
  have hs2 := ho.grow.size
  refine ⟨fun k => Φ k ∨ (v2.ownBlock = some k ∧ W.heap.size ≤ k), fun k hk => hk.imp id And.right, ⟨⟨ho.grow.os, ho.grow.tape, ho.grow.output, by omega⟩, fun k hk h1 h2 => ?_⟩, v2, ?_, ?_, ?_, ?_, ?_, ?_, c4.set _, by have := h.sz; omega⟩
  · rw [hsame k (fun e => h1 (.inl e))]
    refine ho.block k hk ?_ (fun h => h)
    rintro (e | e)
    · exact h1 (.inr (.inl e))
    · exact (h.iff k e).elim (fun e => h1 (.inr (.inr e))) h2
  · exact hA2.of (hsame g (by omega)) (fun k hk => hsame k (fun e => hkn (.inr (by rw [← e]; exact hk))))
  · intro k hk
    rcases hfr k hk with e | e
    · exact (h.iff k e).imp id .inl
    · exact .inr (.inr ⟨hk, e⟩)
  · rintro k (hk | ⟨hk, e⟩)
    · have := h.lo k hk; exact ⟨this.1, by omega⟩
    · have := h.sz; have := (hA2.own.block hk).2; exact ⟨by omega, by omega⟩
  · exact c1.other (by omega) _
  · exact c2.other (by omega) _
  · exact c3.other (by omega) _
end
/-- What the last line leaves. -/
theorem mw_end {Ψ : FP} {w w2 W3 wk : World} {D qb : Nat} {u : Value} (hB2 : Below w.heap.size w w2) (hs2 : w.heap.size ≤ w2.heap.size) (ho : Only Ψ (fun _ => False) w2 W3) (hΨ : ∀ k, Ψ k → w.heap.size ≤ k) (hk : Below W3.heap.size W3 wk) (hq : w.heap.size ≤ qb) (hq2 : qb < w2.heap.size) (bq : Boxed W3 qb 4 u) (hD : w2.heap.size ≤ D) (hK : W3.heap[D]? = some (.deferred (some []))) :
    (wk.setCell ⟨qb, 0, none⟩ (.bool true)).heap[D]? = some (.deferred (some [])) ∧ Boxed ((wk.setCell ⟨qb, 0, none⟩ (.bool true)).putObj D (.deferred none)) qb 4 (.bool true) ∧ Below w.heap.size w ((wk.setCell ⟨qb, 0, none⟩ (.bool true)).putObj D (.deferred none)) := by
  have hDl : D < W3.heap.size := (Array.getElem?_eq_some_iff.1 hK).1
  have hql := bq.lt
  have h1 : Boxed wk qb 4 u := (hk.block qb hql).trans bq
  have h3 : Below w.heap.size w W3 := hB2.trans (ho.below hs2 hΨ (fun k h => h.elim))
  have hs3 := h3.size
  have h4 : Below w.heap.size w wk := h3.trans (hk.mono hs3)
  refine ⟨(heap_setCell_other _ _ _ _ (by show D ≠ qb; omega)).trans ((hk.block D hDl).trans hK), (put_other (by omega)).trans (h1.set _), ⟨h4.os, h4.tape, h4.output, ?_, fun k hk2 => ?_⟩⟩
  · have := h4.size
    simp [World.putObj, World.setCell]; omega
  · rw [put_other (by omega), heap_setCell_other _ _ _ _ (by show k ≠ qb; omega)]
    exact h4.block k hk2
end Go.Proofs.Ytbpgiahbnijidaa
