/- A part. -/
import Derived.Test.YtbpemdihoabbcaaGreatCv0
import Derived.Test.YtbpemdihoabbcaaGreatUC
import Derived.Test.YtbpemdihoabbcaaGreatUB
namespace Go.Proofs.YtbpemdihoabbcaaGreat
set_option linter.unusedVariables false
set_option linter.unusedSimpArgs false
set_option maxRecDepth 100000
set_option maxHeartbeats 8000000
open Go.RowKit Go.Maps Go.Shelf
theorem there_block {W W' : World} {b o n : Nat} (h : W.there b o n) (e : W'.heap[b]? = W.heap[b]?) : W'.there b o n := fun i hi => by
 obtain ⟨h1, h2⟩ := h i hi
 refine ⟨?_, ?_⟩
 · rw [World.cell?_of_block e]; exact h1
 · rw [World.frozen?] at h2 ⊢; rw [e]; exact h2
theorem below_setCells {N : Nat} {w W : World} (hB : Below N w W) {b : Nat} (hb : N ≤ b) (o : Nat) (vs : List Value) : Below N w (W.setCells b o vs) := by
 have g := setCells_grow (b := b) vs o W
 exact ⟨g.os.trans hB.os, g.tape.trans hB.tape, g.output.trans hB.output, by rw [setCells_size]; exact hB.size, fun k hk => (setCells_off (by omega) _ _ _).trans (hB.block k hk)⟩
theorem wp_meetQ {P : Program} {c : Code} {Q : Exit → Act → World → Prop} {a fr : Act} {w : World} {S : World → Prop} (h : c.wp P (Exit.then (fun a w => a = fr ∧ S w) (fun _ _ _ => False)) a w) (hK : ∀ w, S w → Q .normal fr w) : c.wp P Q a w :=
 Code.wp_mono (fun e a w hq => by
  cases e with
  | normal => obtain ⟨e', hs⟩ := hq; rw [e']; exact hK w hs
  | _ => exact hq.elim) h
structure BxS {α : Type} (s : StTy Tryz.prog α) (W : World) (b : Nat) (x : α) : Prop where
 at_ : W.rangeAt b 0 (s.f x)
 th : W.there b 0 s.k
 lt : b < W.heap.size
section
variable {α : Type} {s : StTy Tryz.prog α} {W W' : World} {b c : Nat} {x y : α}
theorem BxS.keep (h : BxS s W b x) (hs : W.heap.size ≤ W'.heap.size) (e : W'.heap[b]? = W.heap[b]?) : BxS s W' b x := ⟨rangeAt_block h.at_ e, there_block h.th e, Nat.lt_of_lt_of_le h.lt hs⟩
theorem BxS.below (h : BxS s W b x) (hb : Below W.heap.size W W') : BxS s W' b x := h.keep hb.size (hb.block b h.lt)
theorem BxS.set (h : BxS s W b x) (y : α) : BxS s (W.setCells b 0 (s.f y)) b y := ⟨World.rangeAt_setCells_same W b 0 (s.f y) (by rw [s.len]; exact h.th), World.there_setCells h.th _ _ _, by rw [setCells_size]; exact h.lt⟩
theorem BxS.other (h : BxS s W b x) (hc : b ≠ c) (o : Nat) (vs : List Value) : BxS s (W.setCells c o vs) b x := h.keep (by rw [setCells_size]; exact Nat.le_refl _) (setCells_off hc _ _ _)
theorem BxS.new (s : StTy Tryz.prog α) (W : World) (x : α) : BxS s (W.alloc (s.obj x)) W.heap.size x := by
 have hz := World.alloc_heap_new W (s.obj x)
 refine ⟨atS s W x, fun i hi => ⟨?_, ?_⟩, by rw [World.size_alloc]; exact Nat.lt_succ_self _⟩
 · rw [World.cell?, hz]
   have : i < (s.f x).length := by rw [s.len]; exact hi
   simp [StTy.obj, this]
 · rw [World.frozen?, hz]; simp [StTy.obj]
end
theorem BxS.storeT {W : World} {b : Nat} {x : Tl} (h : BxS tlyS W b x) (y : Tl) : (storeT (.pointer (some ⟨b, 0, none⟩)) (.agg (tlyS.f y).toArray)).run Tryz.prog W = .ok () (W.setCells b 0 (tlyS.f y)) := run_storeT h.th y
theorem BxS.storeW {W : World} {b : Nat} {x : Wgt} (h : BxS wgtS W b x) (y : Wgt) : (storeWt (.pointer (some ⟨b, 0, none⟩)) (.agg (wgtS.f y).toArray)).run Tryz.prog W = .ok () (W.setCells b 0 (wgtS.f y)) :=
 run_storeAt_mid W b 0 82 (wgtS.f y).toArray h.th (by kernel_rfl) (by simp [wgtS, Value.oneCell'])
theorem BxS.loadT {W : World} {b : Nat} {x : Tl} (h : BxS tlyS W b x) : (loadSt_T (.pointer (some ⟨b, 0, none⟩))).run Tryz.prog W = .ok (.agg (tlyS.f x).toArray) W := loadT_at h.at_
theorem BxS.loadW {W : World} {b : Nat} {x : Wgt} (h : BxS wgtS W b x) : (loadSt_W (.pointer (some ⟨b, 0, none⟩))).run Tryz.prog W = .ok (.agg (wgtS.f x).toArray) W := loadW_at h.at_
def gotK (S : Vs) (a t : Int) (n : Nat) : Wgt := ⟨wrap64 (sumF (fun d => (lentW S a t d).v) n), wrap64 (sumF (fun d => (lentW S a t d).c) n)⟩
theorem gotK_zero (S : Vs) (a t : Int) : gotK S a t 0 = ⟨0, 0⟩ := by
 unfold gotK
 show (⟨wrap64 0, wrap64 0⟩ : Wgt) = _
 rw [show wrap64 0 = 0 by unfold wrap64; omega]
theorem gotK_step (S : Vs) (a t : Int) (n : Nat) : gotK S a t (n + 1) = ⟨wrap64 ((gotK S a t n).v + (lentW S a t n).v), wrap64 ((gotK S a t n).c + (lentW S a t n).c)⟩ := by
 unfold gotK
 show (⟨wrap64 (sumF _ n + _), wrap64 (sumF _ n + _)⟩ : Wgt) = _
 congr 1 <;> (dsimp only; unfold wrap64; omega)
theorem w64_w64 (x : Int) : wrap64 (wrap64 x + 0) = wrap64 x := by unfold wrap64; omega
theorem gotK_skip {S : Vs} {a t : Int} {n : Nat} (h : lentW S a t n = ⟨0, 0⟩) : gotK S a t (n + 1) = gotK S a t n := by
 rw [gotK_step, h]
 unfold gotK
 dsimp only
 rw [w64_w64, w64_w64]
def talK (S : Vs) (k : Nat) (n : Nat) : Tl := ⟨wrap64 (sumF (fun a => (gainAt S k a).a) n), wrap64 (sumF (fun a => (gainAt S k a).n) n), wrap64 (sumF (fun a => (gainAt S k a).s) n)⟩
theorem talK_zero (S : Vs) (k : Nat) : talK S k 0 = ⟨0, 0, 0⟩ := by
 unfold talK
 show (⟨wrap64 0, wrap64 0, wrap64 0⟩ : Tl) = _
 rw [show wrap64 0 = 0 by unfold wrap64; omega]
theorem talK_step (S : Vs) (k n : Nat) : talK S k (n + 1) = (talK S k n).add (gainAt S k n) := by
 unfold talK Tl.add
 show (⟨wrap64 (sumF _ n + _), wrap64 (sumF _ n + _), wrap64 (sumF _ n + _)⟩ : Tl) = _
 congr 1 <;> (dsimp only; unfold wrap64; omega)
theorem talK_skip {S : Vs} {k n : Nat} (h : gainAt S k n = Tl.zero) : talK S k (n + 1) = talK S k n := by
 rw [talK_step, h]
 unfold talK Tl.add Tl.zero
 dsimp only
 rw [w64_w64, w64_w64, w64_w64]
theorem TInv.tal {S : Vs} (h : TInv S) {k : Nat} (hk : k < 12) (hst : (S.P k).st = 1) : (S.P k).t = talK S k 10 := by
 have h0 := h k hk hst 0
 have h1 := h k hk hst 1
 have h2 := h k hk hst 2
 exact Tl.ext_p (fun i => by
  rcases (by omega : i = 0 ∨ i = 1 ∨ 2 ≤ i) with rfl | rfl | hi
  · exact h0
  · exact h1
  · have e : ∀ x : Tl, x.p i = x.s := fun x => by unfold Tl.p; rw [if_neg (by omega), if_neg (by omega)]
    rw [e, e]; exact h2)
def talC (g : Wgt) (k : Int) (l : List (Int × Bal)) (T : Tl) : Tl := l.foldl (fun T x => if x.1 = k then T.add (gainW x.2 g) else T) T
theorem talC_snoc (g : Wgt) (k : Int) (l : List (Int × Bal)) (T : Tl) (x : Int × Bal) : talC g k (l ++ [x]) T = if x.1 = k then (talC g k l T).add (gainW x.2 g) else talC g k l T := by simp [talC]
theorem talC_none (g : Wgt) (k : Int) : ∀ (l : List (Int × Bal)) (T : Tl), (∀ x ∈ l, x.1 ≠ k) → talC g k l T = T
 | [], _, _ => rfl
 | y :: l, T, h => by
  show talC g k l (if y.1 = k then _ else T) = T
  rw [if_neg (h y List.mem_cons_self)]
  exact talC_none g k l T (fun x hx => h x (List.mem_cons_of_mem _ hx))
theorem talC_some (g : Wgt) (k : Int) (x : Bal) : ∀ (l : List (Int × Bal)) (T : Tl), SrtK l → ((k, x) ∈ l) → talC g k l T = T.add (gainW x g)
 | [], _, _, h => absurd h List.not_mem_nil
 | y :: l, T, hs, h => by
  obtain ⟨h1, h2⟩ := List.pairwise_cons.1 hs
  show talC g k l (if y.1 = k then T.add (gainW y.2 g) else T) = _
  rcases List.mem_cons.1 h with e | h
  · rw [← e, if_pos rfl]
    exact talC_none g k l _ (fun z hz => by have := h1 z hz; rw [← e] at this; have : k < z.1 := this; omega)
  · have : y.1 < k := h1 _ h
    rw [if_neg (by omega)]
    exact talC_some g k x l T h2 h
theorem talC_all {S : Vs} (hv : SrtC S.V) {k j : Nat} {g : Wgt} (hg : g = gotS S j (S.P k).tr) : talC g k (ballots S j (S.P k).tr) (talK S k j) = talK S k (j + 1) := by
 have hb := ballots_srt hv j (S.P k).tr
 cases hc : cget S.V j k with
 | none =>
  rw [talK_skip (gainAt_none hc)]
  refine talC_none _ _ _ _ (fun x hx q => ?_)
  have h1 := hv.get.2 (mem_rowOf.1 (mem_ballots.1 hx).1)
  rw [q, hc] at h1
  cases h1
 | some x =>
  rw [talK_step, gainAt_some hc, hg]
  exact talC_some _ _ _ _ _ hb (mem_ballots.2 ⟨mem_rowOf.2 (hv.get.1 hc), by rw [Int.toNat_natCast]⟩)
end Go.Proofs.YtbpemdihoabbcaaGreat
