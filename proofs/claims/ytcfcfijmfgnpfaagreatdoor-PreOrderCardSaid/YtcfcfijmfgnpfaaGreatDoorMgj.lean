/-
  Joined texts.
-/
import Derived.StillTailTactics
import Derived.OrdersIn
import Derived.WalkKit
import Derived.TacticsIn
import Derived.TacticsInMore
import Derived.Shelf.SlIterI.Nil
import Derived.Deep.DeepCutAuto
import Derived.Shelf.SortM.Plain
import Derived.Shelf.SortM.SortNone
import Derived.Ground.GgzProg
import Derived.Ground.SlgmProg
import Derived.Shelf.SlGeneric
import Derived.Test.YtcfcfijmfgnpfaaGreatDoorProg
import Derived.OwnWalkIn
import Derived.Test.YtcfcfijmfgnpfaaGreatDoorChecked
import Derived.Lib.Hide
import Derived.Below
import Derived.Maps.OwnIn
import Derived.Maps.AppendAt
import Derived.RangeFuncBox
import Derived.Deep.MidRow
import Derived.LoopNIn
import Derived.LoopIn
import Derived.Test.YtcfcfijmfgnpfaaGreatDoorMgi

section
namespace Go.Proofs.YtcfcfijmfgnpfaaGreatDoor
open Go.RowKit
set_option linter.unusedVariables false
theorem region_calm {n : Nat} {P : Program} {c : Code} {K : Act → World → Prop} {Q : Exit → Act → World → Prop} {a : Act} {w : World} (h : c.wp P (Exit.then K (fun _ _ _ => False)) a w) : c.wpIn Fence.wide n P (Exit.then K Q) a w :=
  wpIn_mono (wpIn_wide.2 h) (fun e a w hq => by cases e <;> first | exact hq | exact hq.elim)
theorem region_meet {n : Nat} {P : Program} {c : Code} {K : Act → World → Prop} {Q : Exit → Act → World → Prop} {a : Act} {w : World} {R : Act → World → Prop} (h : c.wp P (Exit.then R (fun _ _ _ => False)) a w) (hK : ∀ a w, R a w → K a w) : c.wpIn Fence.wide n P (Exit.then K Q) a w :=
  wpIn_mono (wpIn_wide.2 h) (fun e a w hq => by cases e <;> first | exact hK _ _ hq | exact hq.elim)
section
variable {P : Program} {ops : Array Oper} {md : Region.Mode} {w : World} {n : Nat}
theorem wpIn_of_still {o : Oper} {a : Act} {K : Act → Prop} {K' : Act → World → Prop} {Q' : Exit → Act → World → Prop} (h : ∀ a, K a → K' a w) (hh : o.still P a w K) : o.wpIn Fence.wide n P a w K' Q' := by
  unfold Oper.still at hh
  unfold Oper.wpIn
  refine ⟨fun f _ => trivial, ?_⟩
  have e : o.semAt Fence.wide.round a.eval = execOp a.eval o := rfl
  rw [e]
  generalize (execOp a.eval o).run P w = r at *
  cases r with
  | ok x w' =>
    cases x <;> simp only [Oper.stillUpon] at hh <;> simp only [Oper.uponIn]
    case enter f args =>
      obtain ⟨rfl, v, hc, hn⟩ := hh
      exact ⟨fun h => by simp [Fence.wide] at h, (callsIn_wide.2 hc).mono fun e w'' ⟨he, hw⟩ => by subst he; subst hw; exact h _ hn⟩
    all_goals (obtain ⟨rfl, h2⟩ := hh; exact h _ h2)
  | halt x w' => simp only [Oper.stillUpon] at hh
theorem wpOpIn_of_stOp {i : Nat} {a : Act} {K : Act → Prop} {K' : Act → World → Prop} {Q' : Exit → Act → World → Prop} (h : ∀ a, K a → K' a w) (hh : stOp P ops w i K a) : wpOpIn Fence.wide n P ops Q' i K' a w := by
  unfold stOp at hh
  unfold wpOpIn
  split
  · rename_i ho; simp only [ho] at hh; exact h _ hh
  · rename_i o ho
    simp only [ho] at hh
    split
    · rename_i hw; simp only [hw, if_true] at hh; exact wpIn_of_still h hh
    · rename_i hw; simp only [hw] at hh; exact ⟨fun f _ => trivial, h _ hh⟩
theorem wpAnyIn_of_head {m g : Nat} {L : Array Bool → Act → Prop} {Q' : Exit → Act → World → Prop} (hL : ∀ listed a, L listed a → wpAnyIn Fence.wide n P md ops Q' g listed a w) :
    ∀ (f : Nat) (listed : Array Bool) (a : Act), wpAnyL P md ops w m L f listed a → wpAnyIn Fence.wide n P md ops Q' (f + g) listed a w
  | 0, listed, a, h => by rw [Nat.zero_add]; exact hL _ _ h
  | f + 1, listed, a, h => by
    rw [show f + 1 + g = (f + g) + 1 by omega]
    exact ⟨fun h0 => absurd h0 h.1, fun i hi => wpOpIn_of_stOp (fun a' h' => wpAnyIn_of_head hL f _ a' h') (h.2 i hi).2⟩
theorem wpAnyIn_of_seq {Q' : Exit → Act → World → Prop} : ∀ (l : List Oper) (k : Nat) (listed : Array Bool) (a : Act) (w : World), (∀ j, l[j]? = ops[k + j]?) →
    Region.seqB md ops l.length k listed = true → wpListIn Fence.wide n P ops Q' l a w → wpAnyIn Fence.wide n P md ops Q' l.length listed a w
  | [], _, _, _, _, _, hB, h => ⟨by simpa [Region.seqB] using hB, h⟩
  | o :: l, k, listed, a, w, hl, hB, h => by
    have h0 : ops[k]? = some o := by simpa using (hl 0).symm
    simp only [List.length_cons, Region.seqB, Bool.and_eq_true, decide_eq_true_eq] at hB
    refine ⟨fun h1 => (by rw [hB.1] at h1; cases h1), fun i hi => ?_⟩
    rw [hB.1] at hi
    have hik : i = k := by simpa using hi
    subst hik
    have hw : wpOpIn Fence.wide n P ops Q' i (wpListIn Fence.wide n P ops Q' l) a w := by unfold wpOpIn; simp only [h0]; exact h
    exact wpOpIn_mono (fun a' w' h' => wpAnyIn_of_seq l (i + 1) _ a' w' (fun j => by have := hl (j + 1); simpa [Nat.add_assoc, Nat.add_comm 1 j] using this) hB.2 h') hw
theorem wpIn_region_still_tail {id : Nat} {Q : Exit → Act → World → Prop} {a : Act} {w : World} {l : List Oper} (m : Nat) (hm : P.follows .mixedOrders = true) (hB : Region.lexTailB .any l.toArray m = true)
    (h : wpStill P l.toArray { w with drawn := w.drawn + 1 } (fun a' => wpListIn Fence.wide n P l.toArray Q (l.drop m) a' { w with drawn := w.drawn + 1 }) (l.take m) a) : (Code.region id l.toArray true).wpIn Fence.wide n P Q a w := by
  simp only [Region.lexTailB, Bool.and_eq_true, decide_eq_true_eq] at hB
  obtain ⟨⟨⟨⟨hsel, hn⟩, hs⟩, hc⟩, hlex⟩ := hB
  have hn' : m < l.length := by simpa using hn
  have htl : (l.take m).length = m := by simp; omega
  have hdl : (l.drop m).length = l.toArray.size - m := by simp
  have inv0 : HeadInv .any l.toArray m (Array.replicate l.toArray.size false) :=
    ⟨by simp, fun j oj _ hl => (by rw [getD_replicate_false] at hl; cases hl), fun t _ ht => getD_in (by simpa using ht) (getD_replicate_false _ _)⟩
  have H := wpAnyL_lex (md := .any) (g := l.toArray.size - m) hsel hs hc hn (l.take m) 0 _ a (fun j hj => by
    have hj' : j < m := by rw [htl] at hj; exact hj
    simp [hj']) (by simpa using htl) inv0 (by rw [htl]; exact hlex) h
  refine wpIn_region_any hm ?_
  have := wpAnyIn_of_head (n := n) (Q' := Q) (g := l.toArray.size - m) (fun listed a' hL => by
    have := wpAnyIn_of_seq (n := n) (md := .any) (Q' := Q) (l.drop m) m listed a' { w with drawn := w.drawn + 1 } (fun j => by simp [List.getElem?_drop]) (by rw [hdl]; exact hL.1) hL.2
    rwa [hdl] at this) _ _ _ H
  rw [htl, show m + (l.toArray.size - m) = l.toArray.size by omega] at this
  exact this
end
end Go.Proofs.YtcfcfijmfgnpfaaGreatDoor
end

section
namespace Go.Proofs.YtcfcfijmfgnpfaaGreatDoor
open Go.RowKit Go.Maps Go.Sort
set_option linter.unusedVariables false
set_option linter.unusedSimpArgs false

theorem dg_cells {w : World} {b : Nat} {d : Dg} (h : w.heap[b]? = some (.cells (Bs d.s).toArray 41 (0, 0))) : ∀ i (hi : i < d.s.length), w.cell? ⟨b, i, none⟩ = some (.int .u8 ((d.s[i] : Nat) : Int)) := by
  intro i hi
  have := (rangeAt_whole (T := 41) h) i (.int .u8 ((d.s[i] : Nat) : Int)) (by simp [Bs, hi])
  rwa [Nat.zero_add] at this
set_option maxHeartbeats 1000000 in
set_option maxRecDepth 100000 in
theorem pre_compare (a b : Dg) (w : World) : Calls Tryz.prog 76 #[.agg (Bs a.s).toArray, .agg (Bs b.s).toArray] w fun e w' => e = .returned (.int .i64 (cmpD a b)) ∧ ∃ q os', w' = grow (w.drewN q) os' := by
  obtain ⟨W, hW⟩ : ∃ W, W = (w.alloc (.cells (Bs a.s).toArray 41)).alloc (.cells (Bs b.s).toArray 41) := ⟨_, rfl⟩
  obtain ⟨ab, hab⟩ : ∃ ab, ab = w.heap.size := ⟨_, rfl⟩
  obtain ⟨bb, hbb⟩ : ∃ bb, bb = w.heap.size + 1 := ⟨_, rfl⟩
  have h1 : W.heap[ab]? = some (.cells (Bs a.s).toArray 41 (0, 0)) := by rw [hW, hab]; exact (Below.heap_alloc _ _ _ (by simp)).trans (World.alloc_heap_new _ _)
  have h2 : W.heap[bb]? = some (.cells (Bs b.s).toArray 41 (0, 0)) := by rw [hW, hbb]; have q := World.alloc_heap_new (w.alloc (.cells (Bs a.s).toArray 41)) (.cells (Bs b.s).toArray 41); rwa [World.size_alloc] at q
  have hg : ∃ os', W.drew = grow (w.drewN 1) os' := ⟨_, by rw [hW, alloc_eq_grow, alloc_eq_grow, grow_grow]; rfl⟩
  have hc := bytes_Compare (w := W.drew) (c1 := 32) (c2 := 32) (dg_cells (w := W.drew) h1) (dg_cells (w := W.drew) h2)
  obtain ⟨r, hr⟩ : ∃ r, r = cmpD a b := ⟨_, rfl⟩
  rw [← hr] at hc ⊢
  have HC := Lib.hid hc
  have HG := Lib.hid hg
  have HW := Lib.hid (And.intro hW (And.intro hab hbb))
  clear hc hg h1 h2 hr hW hab hbb
  go_enter Tryz.func76, Tryz.ntmps76
  go_upto_region 1 with fail
  rw [← HW.out.2.2, ← HW.out.1, ← HW.out.2.1]
  go_still_tail 2, (by kernel_rfl)
  change wpList _ _ _ _ _ W.drew
  go_wp2_with (first
    | (go_at_call 95; refine HC.out.mono ?_; rintro e w' ⟨rfl, hw⟩; rw [hw]; clear hw w')
    | fail)
  go_ret
  obtain ⟨os, ho⟩ := HG.out
  exact ⟨rfl, 1, os, ho⟩
theorem cmpD_neg (a b : Dg) : ltOf cmpD a b = lexN a.s b.s := by
  unfold ltOf cmpD
  cases h : lexN a.s b.s
  · cases h2 : lexN b.s a.s <;> simp
  · simp
theorem lexN_ntr : ∀ {a b c : List Nat}, lexN a b = false → lexN b c = false → lexN a c = false := by
  intro a b c h k
  cases e : lexN a c with
  | false => rfl
  | true =>
    by_cases hab : a = b
    · subst hab; rw [e] at k; cases k
    · rcases lexN_tot hab with q | q
      · rw [q] at h; cases h
      · rw [lexN_tr q e] at k; cases k
theorem swoD : SWO (ltOf cmpD) :=
  ⟨fun x => by rw [cmpD_neg, lexN_irr], fun x y z h k => by rw [cmpD_neg] at *; exact lexN_tr h k, fun x y z h k => by rw [cmpD_neg] at *; exact lexN_ntr h k⟩
theorem totD (x y : Dg) (h : ltOf cmpD x y = false) (k : ltOf cmpD y x = false) : x = y := by
  rw [cmpD_neg] at h k
  by_cases e : x = y
  · exact e
  · rcases lexN_tot (fun q => e (Dg.ext q)) with q | q
    · rw [q] at h; cases h
    · rw [q] at k; cases k
instance : Inhabited Dg := ⟨dg0⟩
/-- The keys sorted are the keys, as the row has them. -/
theorem sorted_dgs {β : Type} {m : List (Dg × β)} (h : SrtD m) {ss : List Dg} (hp : KFin m ss) : (ss.mergeSort fun x y => !(ltOf cmpD) y x) = m.map (·.1) := by
  have tr : ∀ a b c : Dg, (!(ltOf cmpD) b a) = true → (!(ltOf cmpD) c b) = true → (!(ltOf cmpD) c a) = true := fun a b c h1 h2 => by
    simp only [Bool.not_eq_true'] at *
    exact swoD.ntrans _ _ _ h2 h1
  have tot0 : ∀ a b : Dg, ((!(ltOf cmpD) b a) || (!(ltOf cmpD) a b)) = true := fun a b => by
    cases e : ltOf cmpD b a with
    | false => rfl
    | true =>
      cases e2 : ltOf cmpD a b with
      | false => rfl
      | true => have := swoD.trans _ _ _ e e2; rw [swoD.irrefl] at this; cases this
  refine List.Perm.eq_of_pairwise (le := fun a b => (!(ltOf cmpD) b a) = true) (fun a b _ _ h1 h2 => ?_) (List.pairwise_mergeSort tr tot0 ss) ?_ ((List.mergeSort_perm ss _).trans hp)
  · simp only [Bool.not_eq_true'] at h1 h2
    exact totD _ _ h2 h1
  · refine List.pairwise_map.2 (h.imp (fun {x y} hlt => ?_))
    simp only [Bool.not_eq_true', cmpD_neg]
    have h1 : lexN x.1.s y.1.s = true := hlt
    cases e : lexN y.1.s x.1.s with
    | false => rfl
    | true => exact absurd (show dlt x.1 x.1 from lexN_tr h1 e) (dlt_irr _)
theorem flat_at (ss : List Dg) {j : Nat} (hj : j < ss.length * 32) : (hshR.all ss)[j]? = some ((flatK (fun d : Dg => Bs d.s) 32 ss.toArray)[j]!) := by
  have hd : j / 32 < ss.length := by omega
  have hm : j % 32 < 32 := Nat.mod_lt _ (by decide)
  have h1 := hshR.all_at (xs := ss) (i := j / 32) hd (j := j % 32) hm
  rw [show j / 32 * hshR.k + j % 32 = j from by show j / 32 * 32 + j % 32 = j; omega] at h1
  rw [h1, get_flatK _ _ _ _ (by simpa using hj)]
  have h2 : (ss.toArray)[j / 32]! = ss[j / 32] := by rw [getElem!_pos _ _ (by simpa using hd)]; simp
  rw [h2]
  show (Bs ss[j / 32].s)[j % 32]? = _
  have h3 : j % 32 < (Bs ss[j / 32].s).length := by rw [Dg.blen]; exact hm
  rw [List.getElem?_eq_getElem h3, getElem!_pos (Bs ss[j / 32].s) (j % 32) h3]
theorem holds_row {w : World} {b off cap : Nat} {ss : List Dg} (hlt : b < w.heap.size) (hr : w.rangeAt b off (hshR.all ss)) (hf : ∀ i, w.frozen? ⟨b, i, none⟩ = false) : HoldsK (fun d : Dg => Bs d.s) 32 w b off ss.toArray := by
  intro j hj
  have hj' : j < ss.length * 32 := by simpa using hj
  exact ⟨hr j _ (flat_at ss hj'), hf _⟩
theorem row_holds {w : World} {b cap : Nat} {ss : List Dg} (hlt : b < w.heap.size) (hc : ss.length ≤ cap) (h : HoldsK (fun d : Dg => Bs d.s) 32 w b 0 ss.toArray) : RdR hshR w (.slice (some ⟨b, 0, none⟩) ss.length cap) ss := by
  refine .inr ⟨b, 0, cap, rfl, hc, hlt, fun j u hj => ?_⟩
  have hjl : j < ss.length * 32 := by
    have := (List.getElem?_eq_some_iff.1 hj).1
    rwa [hshR.all_len] at this
  rw [flat_at ss hjl] at hj
  cases hj
  exact (h j (by simpa using hjl)).1
theorem sortWorld_below {w : World} {b n : Nat} {dk : Array Dg} {os : Array Obj} : w.grownBy (sortWorldK (fun d : Dg => Bs d.s) 32 w b 0 n dk os) (some b) := by
  refine ⟨rfl, rfl, rfl, by simp [sortWorldK, size_putRowK], fun k hk hne => ?_⟩
  unfold sortWorldK
  rw [heap_grow_old _ _ (by rw [size_putRowK]; exact hk)]
  simp [putRowK, putRow, mapBlock, Sort.ahead, Array.getElem?_modify]
  intro e
  subst e
  exact absurd rfl hne
theorem isAgg41 : ∀ w, (isAgg 41).run Tryz.prog w = .ok true w := Tryz.isAgg41
theorem sizeOf41 : ∀ w, (Go.sizeOf 41).run Tryz.prog w = .ok 32 w := Tryz.sizeOf41
theorem cmpLaysD (blk off size : Nat) (w : World) : CmpLays Tryz.prog 76 #[] (fun d : Dg => Bs d.s) 32 cmpD blk off size w := fun _ _ _ _ x y => pre_compare x y _
theorem slices_SortFunc_D {w : World} {v : Value} {B : Nat} {ss : List Dg} (ho : OwnR hshR B v ss w) (hlen : ss.length ≤ 1000000) : Calls Tryz.prog 93 #[v, .func (.func 76) #[] #[]] w fun e w' =>
    e = .returned (.tuple #[]) ∧ RdR hshR w' v (ss.mergeSort fun x y => !(ltOf cmpD) y x) ∧ w.grownBy w' v.ownBlock := by
  have h0 := ho
  obtain ⟨h1, h2⟩ := ho
  rcases h2 with ⟨rfl, hn⟩ | ⟨g, cap, cur, rfl, hb, hg, hn, hm, hs, ht⟩
  · have hnil : ss = [] := List.eq_nil_of_length_eq_zero hn
    subst hnil
    refine (AnyF.slices_SortFunc_none { Tryz.sortH with } none 0 _ w).mono ?_
    rintro e w' ⟨rfl, rfl⟩
    exact ⟨rfl, .inl ⟨rfl, by simp⟩, ⟨rfl, rfl, rfl, Nat.le_refl _, fun _ _ _ => rfl⟩⟩
  · have hrd := h0.reads
    rcases hrd with ⟨e, _⟩ | ⟨b, off, cap', e, hc, hlt, hr⟩
    · cases e
    · cases e
      have hH := holds_row (cap := cap) hlt hr (fun i => by simp [World.frozen?, hg])
      have q := AnyQ.slices_SortFunc_total Tryz.sortH 32 isAgg41 sizeOf41 (fun d : Dg => Bs d.s) (fun d => d.blen) (fun d u hu => Bs_one' _ u hu) cmpD swoD 76 #[] g 0 cap ss.toArray w (enters_of Tryz.func76 (by kernel_rfl) rfl) (cmpLaysD _ _ _ _) hH hlt (by simp; omega) totD
      rw [List.size_toArray] at q
      change Calls Tryz.prog 93 _ _ _ at q
      refine q.mono ?_
      rintro e w' ⟨rfl, n, os, rfl⟩
      have hl2 : (ss.mergeSort fun x y => !(ltOf cmpD) y x).length = ss.length := (List.mergeSort_perm ss _).length_eq
      have hh := holdsK_sortWorldK_c (fun d : Dg => Bs d.s) 32 w g 0 ss.toArray (ss.mergeSort fun x y => !(ltOf cmpD) y x).toArray n os hH hlt (by simp [hl2])
      have hrow := row_holds (cap := cap) (w := sortWorldK (fun d : Dg => Bs d.s) 32 w g 0 n (ss.mergeSort fun x y => !(ltOf cmpD) y x).toArray os) (Nat.lt_of_lt_of_le hlt sortWorld_below.size) (by rw [hl2]; exact hc) hh
      rw [hl2] at hrow
      exact ⟨rfl, hrow, sortWorld_below⟩
end Go.Proofs.YtcfcfijmfgnpfaaGreatDoor
end

section
namespace Go.Proofs.YtcfcfijmfgnpfaaGreatDoor
open Go.RowKit Go.Maps Go.Sort
attribute [local go_sem] Oper.semAt_some
set_option linter.unusedVariables false
set_option linter.unusedSimpArgs false

section
variable {β : Type} {c : Cod β} {o : Option Nat} {m : List (Dg × β)} {w w' : World}
/-- A map that may be nil. -/
def MapO (c : Cod β) (o : Option Nat) (m : List (Dg × β)) (w : World) : Prop := (o = none ∧ m = []) ∨ ∃ b, o = some b ∧ MapD c b m w
theorem MapO.srt (h : MapO c o m w) : SrtD m := by
  rcases h with ⟨-, rfl⟩ | ⟨b, -, h⟩
  · exact List.Pairwise.nil
  · exact h.srt
theorem MapO.keep (h : MapO c o m w) (hk : ∀ b, o = some b → w'.heap[b]? = w.heap[b]?) : MapO c o m w' := by
  rcases h with h | ⟨b, rfl, h⟩
  · exact .inl h
  · exact .inr ⟨b, rfl, h.block (hk b rfl)⟩
theorem MapO.lt (h : MapO c o m w) {b : Nat} (hb : o = some b) : b < w.heap.size := by
  rcases h with ⟨rfl, -⟩ | ⟨b', e, h⟩
  · cases hb
  · rw [e] at hb; cases hb; exact h.lt
theorem MapO.below (h : MapO c o m w) (hb : Below w.heap.size w w') : MapO c o m w' := h.keep (fun b e => hb.block b (h.lt e))
theorem MapO.look {t e : TypeId} {z0 : β} (h : MapO c o m w) (ht : Tryz.prog.underlying t = some (.map 41 e)) (hz : ∀ w, (zeroValue e).run Tryz.prog w = .ok (c.enc z0) w) (k : Dg) :
    (Instr.lookup t (.map o) (dv k) false).run Tryz.prog w = .ok (c.enc ((dget m k).getD z0)) w := by
  rcases h with ⟨rfl, rfl⟩ | ⟨b, rfl, h⟩
  · exact nil_lookD ht (hz w) k false
  · exact h.look ht (hz w) k
theorem MapO.look_ok {t e : TypeId} {z0 : β} (h : MapO c o m w) (ht : Tryz.prog.underlying t = some (.map 41 e)) (hz : ∀ w, (zeroValue e).run Tryz.prog w = .ok (c.enc z0) w) (k : Dg) :
    (Instr.lookup t (.map o) (dv k) true).run Tryz.prog w = .ok (.tuple #[c.enc ((dget m k).getD z0), .bool (dget m k).isSome]) w := by
  rcases h with ⟨rfl, rfl⟩ | ⟨b, rfl, h⟩
  · exact nil_lookD ht (hz w) k true
  · exact h.look_ok ht (hz w) k
theorem MapO.len {t e : TypeId} (h : MapO c o m w) (ht : Tryz.prog.underlying t = some (.map 41 e)) (ty : TypeId) : (Builtin.len_ #[t] ty #[.map o]).run Tryz.prog w = .ok (.int .i64 m.length) w := by
  rcases h with ⟨rfl, rfl⟩ | ⟨b, rfl, h⟩
  · exact Maps.len_nil ht ty
  · exact h.len ht ty
end
theorem zNt (w : World) : (zeroValue 101).run Tryz.prog w = .ok (codNt.enc nt0) w := Tryz.zeroValue101 w
theorem zIn (w : World) : (zeroValue 3).run Tryz.prog w = .ok (codI.enc (0 : Int)) w := Tryz.zeroValue3 w
set_option maxHeartbeats 4000000 in
set_option maxRecDepth 100000 in
theorem keys1_iter_nil (n : Nat) (bx : Nat) (w : World) (hbx : Boxed w bx 91 (.map none)) (G : FP) (hGb : G bx) :
    IterS Tryz.prog n 94 #[.pointer (some ⟨bx, 0, none⟩)] encs_D (KOk ([] : List (Dg × Nt))) (KFin ([] : List (Dg × Nt))) G w := by
  intro lp B Ψ J Jx Φ0 W hgw hG hΨ hΦ0 hJ hJx hround h0
  have hc1 : W.cell? ⟨bx, 0, none⟩ = some (.map none) := (World.cell?_of_block (hG bx hGb).2).trans hbx.cell
  obtain ⟨hs1, hs2, hs3⟩ := hJ _ _ _ h0
  refine callsIn_of_wp Tryz.func94 rfl trivial ?_ rfl
  simp only [Tryz.ntmps94, List.size_toArray, List.length_cons, List.length_nil, Nat.reduceAdd, Nat.reduceSub, Array.replicate_succ, Array.replicate_zero, List.push_toArray, List.append_toArray, List.nil_append, List.cons_append]
  have hrg := run_range_nilMap (P := Tryz.prog) W 91 41 101 Tryz.underlying91
  have hnx : ∀ ty, (Instr.next (.pointer (some ⟨W.heap.size, 0, none⟩)) false ty).run Tryz.prog (W.alloc (.mapIter none 0 #[] 0)) = _ := fun ty => run_next_nilMap _ ty 0 0 #[]
  have hb : Below W.heap.size W (W.alloc (.mapIter none 0 #[] 0)) := (Below.refl _ W).alloc (Nat.le_refl _) _
  have HH := Lib.hid (And.intro (hs3 _ (Grow.of_below hb) (fun k hk => hb.block k (hk.elim (fun h => by omega) (fun h => (hs1 k h).2)))) hb)
  clear hround hJ hJx hG hΨ hΦ0 hbx hGb h0 hs1 hs3 hb
  gi_wp2
  refine wpIn_loop_rounds 1 ?_
  rw [roundsIn_succ]
  gi_wp2
  refine bodyPost_end (results_none rfl _ _ _) rfl ?_
  exact ⟨⟨_, rfl⟩, Φ0, fun j h => .inl h, Only.of_later HH.out.2, .inl ⟨[], List.Perm.refl _, HH.out.1⟩⟩
theorem keys1_iter_o (n : Nat) (bx : Nat) (o : Option Nat) (m : List (Dg × Nt)) (w : World) (hbx : Boxed w bx 91 (.map o)) (hm : MapO codNt o m w) (G : FP) (hGb : G bx) (hGm : ∀ b, o = some b → G b) :
    IterS Tryz.prog n 94 #[.pointer (some ⟨bx, 0, none⟩)] encs_D (KOk m) (KFin m) G w := by
  rcases hm with ⟨rfl, rfl⟩ | ⟨b, rfl, h⟩
  · exact keys1_iter_nil n bx w hbx G hGb
  · exact keys1_iter n bx b m w hbx h G hGb (hGm b rfl)
theorem maps_Keys_H (o : Option Nat) (w : World) : Calls Tryz.prog 75 #[.map o] w fun e w' => e = .returned (.func (.func 94) #[] #[.pointer (some ⟨w.heap.size, 0, none⟩)]) ∧ w' = w.alloc (.cells #[.map o] 91) := by
  go_enter Tryz.func75, Tryz.ntmps75
  go_wp2
  go_ret
  exact ⟨rfl, rfl⟩
set_option maxHeartbeats 1000000 in
theorem slices_SortedFunc_H (bx : Nat) (o : Option Nat) (m : List (Dg × Nt)) (w : World) (hbx : Boxed w bx 91 (.map o)) (hm : MapO codNt o m w) (hlen : m.length ≤ 100000) :
    Calls Tryz.prog 74 #[.func (.func 94) #[] #[.pointer (some ⟨bx, 0, none⟩)], .func (.func 76) #[] #[]] w fun e w' =>
      ∃ v, e = .returned v ∧ RdR hshR w' v (m.map (·.1)) ∧ (∀ k, v.ownBlock = some k → w.heap.size ≤ k) ∧ Below w.heap.size w w' := by
  have hit := keys1_iter_o 0 bx o m w hbx hm (fun k => k < w.heap.size) hbx.lt (fun b e => hm.lt e)
  have hC := slices_Collect_H _ _ _ _ w (enters_of Tryz.func94 (by kernel_rfl) rfl) hit (fun ss h => by have := h.2; omega)
  have hS : ∀ v ss w1, KFin m ss → OwnR hshR w.heap.size v ss w1 → Calls Tryz.prog 93 #[v, .func (.func 76) #[] #[]] w1 fun e w' =>
      e = .returned (.tuple #[]) ∧ RdR hshR w' v (m.map (·.1)) ∧ w1.grownBy w' v.ownBlock := fun v ss w1 hf ho => by
    have h := slices_SortFunc_D ho (by have := hf.length_eq; simp at this; omega)
    rwa [sorted_dgs hm.srt hf] at h
  have HC := Lib.hid hC
  have HS := Lib.hid hS
  clear hit hC hS hbx hm hlen
  go_enter Tryz.func74, Tryz.ntmps74
  go_wp2_with (first
    | (go_at_call 92; refine HC.out.mono ?_; rintro e w1 ⟨v, ss, rfl, hf, ho, hb⟩; have H1 := Lib.hid (And.intro hf (And.intro ho hb)); clear hf ho hb)
    | (go_at_call 93; refine (HS.out _ _ _ H1.out.1 H1.out.2.1).mono ?_; rintro e w2 ⟨rfl, hr, hg⟩; have H2 := Lib.hid (And.intro hr hg); clear hr hg)
    | fail)
  go_ret
  refine ⟨v, rfl, H2.out.1, fun k hk => (H1.out.2.1.block hk).1, H1.out.2.2.trans ?_⟩
  exact ⟨H2.out.2.os, H2.out.2.tape, H2.out.2.output, H2.out.2.size, fun k hk => H2.out.2.block k (Nat.lt_of_lt_of_le hk H1.out.2.2.size) (fun e => by have := (H1.out.2.1.block e.symm).1; omega)⟩
end Go.Proofs.YtcfcfijmfgnpfaaGreatDoor
end

section
namespace Go.Proofs.YtcfcfijmfgnpfaaGreatDoor
open Go.RowKit Go.Maps
set_option linter.unusedVariables false
set_option linter.unusedSimpArgs false

/-- A column's marks. -/
def colU {β : Type} (M : Cls β) (b : Int) : List (Int × Unit) := (colOf M b).map (fun x => (x.1, ()))
theorem mem_colU {β : Type} {M : Cls β} {b : Int} {x : Int × Unit} : x ∈ colU M b ↔ ∃ v, (x.1, v) ∈ colOf M b := by
  unfold colU
  rw [List.mem_map]
  constructor
  · rintro ⟨y, hy, rfl⟩
    exact ⟨y.2, hy⟩
  · rintro ⟨v, hv⟩
    exact ⟨_, hv, rfl⟩
theorem srt_colU {β : Type} {M : Cls β} (h : SrtC M) (b : Int) : SrtK (colU M b) := List.pairwise_map.2 ((h.col b).imp (fun {x y} hxy => hxy))
theorem colU_length {β : Type} (M : Cls β) (b : Int) : (colU M b).length ≤ M.length := by unfold colU; rw [List.length_map]; exact col_length M b
theorem colU_put {β : Type} {M : Cls β} (h : SrtC M) (a b : Int) (v : β) : (fun j => if j = b then sput (colU M b) a () else colU M j) = colU (cput M a b v) := by
  funext j
  split
  · rename_i e; subst e
    refine ((srt_colU h j).put _ _).ext (srt_colU (h.put _ _ _) _) ?_
    rintro ⟨i, u⟩
    rw [mem_sput, mem_colU, mem_colU, h.col_put]
    simp only [if_true]
    constructor
    · rintro (h' | ⟨⟨v', h'⟩, hne⟩)
      · cases h'; exact ⟨v, mem_sput.2 (.inl rfl)⟩
      · exact ⟨v', mem_sput.2 (.inr ⟨h', hne⟩)⟩
    · rintro ⟨v', h'⟩
      rcases mem_sput.1 h' with h' | ⟨h', hne⟩
      · simp at h'; exact .inl (by rw [h'.1])
      · exact .inr ⟨⟨v', h'⟩, hne⟩
  · rename_i e
    unfold colU
    rw [h.col_put, if_neg e]
theorem colU_del {β : Type} {M : Cls β} (h : SrtC M) (a b : Int) : (fun j => if j = b then sdel (colU M b) a else colU M j) = colU (cdel M a b) := by
  funext j
  split
  · rename_i e; subst e
    refine ((srt_colU h j).del _).ext (srt_colU (h.del _ _) _) ?_
    rintro ⟨i, u⟩
    rw [mem_sdel, mem_colU, mem_colU, h.col_del]
    simp only [if_true]
    constructor
    · rintro ⟨⟨v', h'⟩, hne⟩
      exact ⟨v', mem_sdel.2 ⟨h', hne⟩⟩
    · rintro ⟨v', h'⟩
      obtain ⟨h', hne⟩ := mem_sdel.1 h'
      exact ⟨⟨v', h'⟩, hne⟩
  · rename_i e
    unfold colU
    rw [h.col_del, if_neg e]
theorem rowOf_put {β : Type} {M : Cls β} (h : SrtC M) (a b : Int) (v : β) : (fun i => if i = a then sput (rowOf M a) b v else rowOf M i) = rowOf (cput M a b v) := by
  funext i; rw [h.row_put]
theorem rowOf_del {β : Type} {M : Cls β} (h : SrtC M) (a b : Int) : (fun i => if i = a then sdel (rowOf M a) b else rowOf M i) = rowOf (cdel M a b) := by
  funext i; rw [h.row_del]

/-- The maps of a table. -/
structure MapsAt {β : Type} (c : Cod β) (B C : Nat) (rm cm : List (Int × Option Nat)) (M : Cls β) (w : World) : Prop where
  row : OutAt c B rm (rowOf M) w
  col : OutAt codU C cm (colU M) w
  off : ∀ k, oblk B rm k → ¬ oblk C cm k
/-- A table in memory: its struct lies in g, all of it in F. -/
def GrAt {β : Type} (c : Cod β) (T : TypeId) (g : Nat) (M : Cls β) (F : FP) (w : World) : Prop :=
  SrtC M ∧ F g ∧ (∀ k, F k → k < w.heap.size) ∧
    ((M = [] ∧ w.heap[g]? = some (.cells #[.map none, .map none, .int .i64 0] T (0, 0))) ∨
     ∃ B C rm cm, w.heap[g]? = some (.cells #[.map (some B), .map (some C), .int .i64 M.length] T (0, 0)) ∧ MapsAt c B C rm cm M w ∧ (∀ k, oblk B rm k → F k) ∧ (∀ k, oblk C cm k → F k))
section
variable {β : Type} {c : Cod β} {T : TypeId} {g : Nat} {M : Cls β} {F : FP} {w : World}
theorem GrAt.keep {w' : World} (h : GrAt c T g M F w) (hg : Grow w w') (hb : ∀ k, F k → w'.heap[k]? = w.heap[k]?) : GrAt c T g M F w' := by
  obtain ⟨h1, h2, h3, h4⟩ := h
  refine ⟨h1, h2, fun k hk => Nat.lt_of_lt_of_le (h3 k hk) hg.size, ?_⟩
  rcases h4 with ⟨e, hh⟩ | ⟨B, C, rm, cm, hh, hM, hF1, hF2⟩
  · exact .inl ⟨e, (hb g h2).trans hh⟩
  · exact .inr ⟨B, C, rm, cm, (hb g h2).trans hh, ⟨hM.row.block (fun k hk => hb k (hF1 k hk)), hM.col.block (fun k hk => hb k (hF2 k hk)), hM.off⟩, hF1, hF2⟩
/-- As many rows as cells, at most. -/
theorem outer_length {B : Nat} {rm : List (Int × Option Nat)} (h : OutAt c B rm (rowOf M) w) (hs : SrtC M) : rm.length ≤ M.length := by
  have hk : (rm.map (·.1)).Pairwise (· < ·) := List.pairwise_map.2 h.map.srt
  have e := hs.flat hk h.keys
  have h1 : M.length = ((rm.map (·.1)).map (fun a => (rowOf M a).length)).sum := by
    conv => lhs; rw [← e]
    rw [List.length_flatMap]
    simp
  have h2 : ∀ l : List Int, (∀ a ∈ l, rowOf M a ≠ []) → l.length ≤ (l.map (fun a => (rowOf M a).length)).sum := by
    intro l
    induction l with
    | nil => simp
    | cons a l ih =>
      intro hl
      have := List.length_pos_iff.2 (hl a (by simp))
      have := ih (fun b hb => hl b (List.mem_cons_of_mem _ hb))
      simp
      omega
  have := h2 (rm.map (·.1)) (fun a ha => (h.keys a).1 ha)
  rw [h1]
  simpa using this
theorem nodup_le : ∀ {ks l : List Int}, ks.Nodup → (∀ x ∈ ks, x ∈ l) → ks.length ≤ l.length
  | [], l, _, _ => Nat.zero_le _
  | k :: ks, l, hn, hs => by
    have hk := List.nodup_cons.1 hn
    have := nodup_le (l := l.erase k) hk.2 (fun x hx => (List.mem_erase_of_ne (fun e => hk.1 (by rw [← e]; exact hx))).2 (hs x (List.mem_cons_of_mem _ hx)))
    rw [List.length_erase_of_mem (hs k (by simp))] at this
    have := List.length_pos_of_mem (hs k (by simp))
    simp
    omega
/-- .. and as many columns. -/
theorem cols_length {C : Nat} {cm : List (Int × Option Nat)} (h : OutAt codU C cm (colU M) w) : cm.length ≤ M.length := by
  have hk : (cm.map (·.1)).Nodup := List.pairwise_map.2 (h.map.srt.imp (fun {a b} hab => by omega))
  have := nodup_le (l := M.map (fun x => x.1.2)) hk (fun b hb => by
    obtain ⟨x, hx⟩ := List.exists_mem_of_ne_nil _ ((h.keys b).1 hb)
    obtain ⟨v, hv⟩ := mem_colU.1 hx
    exact List.mem_map.2 ⟨_, mem_colOf.1 hv, rfl⟩)
  simpa using this
end

theorem grid_New_I (w : World) : Calls Tryz.prog 38 #[] w fun e w' => e = .returned (.pointer (some ⟨w.heap.size, 0, none⟩)) ∧ w' = w.alloc (.cells #[.map none, .map none, .int .i64 0] 117) := by
  go_enter Tryz.func38, Tryz.ntmps38
  go_wp2
  go_ret
  exact ⟨rfl, rfl⟩
theorem GrAt.new_I (w : World) : GrAt codI 117 w.heap.size [] (fun k => k = w.heap.size) (w.alloc (.cells #[.map none, .map none, .int .i64 0] 117)) :=
  ⟨List.Pairwise.nil, rfl, fun k hk => by subst hk; simp, .inl ⟨rfl, World.alloc_heap_new w _⟩⟩
theorem GrAt.size_I {g : Nat} {M : Cls Int} {F : FP} {w : World} (h : GrAt codI 117 g M F w) : w.cell? ⟨g, 2, none⟩ = some (.int .i64 M.length) := by
  obtain ⟨_, _, _, (⟨rfl, hh⟩ | ⟨B, C, rm, cm, hh, _⟩)⟩ := h <;> rw [World.cell?, hh] <;> rfl
end Go.Proofs.YtcfcfijmfgnpfaaGreatDoor
end

section
namespace Go.Proofs.YtcfcfijmfgnpfaaGreatDoor
open Go.RowKit Go.Maps
set_option linter.unusedVariables false
set_option linter.unusedSimpArgs false

/-- What a change of a table leaves. -/
def GrTo {β : Type} (c : Cod β) (T : TypeId) (g : Nat) (M : Cls β) (F : FP) (w w' : World) : Prop :=
  ∃ F', GrAt c T g M F' w' ∧ (∀ k, F' k → F k ∨ w.heap.size ≤ k) ∧ Only F (fun _ => False) w w'
theorem cells3 {w : World} {g : Nat} {T : TypeId} {u0 u1 u2 : Value} (h : w.heap[g]? = some (.cells #[u0, u1, u2] T (0, 0))) :
    w.cell? ⟨g, 0, none⟩ = some u0 ∧ w.cell? ⟨g, 1, none⟩ = some u1 ∧ w.cell? ⟨g, 2, none⟩ = some u2 ∧ w.frozen? ⟨g, 0, none⟩ = false ∧ w.frozen? ⟨g, 1, none⟩ = false ∧ w.frozen? ⟨g, 2, none⟩ = false := by
  refine ⟨by rw [World.cell?, h]; rfl, by rw [World.cell?, h]; rfl, by rw [World.cell?, h]; rfl, ?_, ?_, ?_⟩ <;> simp [World.frozen?, h]
theorem set3 {w : World} {g : Nat} {T : TypeId} {u0 u1 u2 u : Value} (h : w.heap[g]? = some (.cells #[u0, u1, u2] T (0, 0))) :
    (w.setCell ⟨g, 0, none⟩ u).heap[g]? = some (.cells #[u, u1, u2] T (0, 0)) ∧ (w.setCell ⟨g, 1, none⟩ u).heap[g]? = some (.cells #[u0, u, u2] T (0, 0)) ∧ (w.setCell ⟨g, 2, none⟩ u).heap[g]? = some (.cells #[u0, u1, u] T (0, 0)) := by
  have hlt : g < w.heap.size := (Array.getElem?_eq_some_iff.1 h).1
  have hg := (Array.getElem?_eq_some_iff.1 h).2
  refine ⟨?_, ?_, ?_⟩ <;> simp [World.setCell, Array.getElem?_modify, h]
theorem only_set {w : World} {g o : Nat} {u : Value} {Ψ : FP} (h : Ψ g) : Only Ψ (fun _ => False) w (w.setCell ⟨g, o, none⟩ u) :=
  ⟨⟨rfl, rfl, rfl, by simp [World.setCell]⟩, fun k hk h1 _ => Below.heap_setCell _ _ _ k (fun e => h1 (by subst e; exact h))⟩
theorem map_ne {w : World} {g k : Nat} {T : TypeId} {cs : Array Value} {es : Array MapEntry} {cl : Nat} (h : w.heap[g]? = some (.cells cs T (0, 0))) (hk : w.heap[k]? = some (.map es cl)) : k ≠ g := by
  rintro rfl
  rw [h] at hk; cases hk
theorem set_block {w : World} {g o k : Nat} {u : Value} (h : k ≠ g) : (w.setCell ⟨g, o, none⟩ u).heap[k]? = w.heap[k]? := Below.heap_setCell _ _ _ k h
section
variable {β : Type} {c : Cod β} {B C : Nat} {rm cm : List (Int × Option Nat)} {M : Cls β} {w w' : World}
theorem MapsAt.block (h : MapsAt c B C rm cm M w) (hb : ∀ k, oblk B rm k ∨ oblk C cm k → w'.heap[k]? = w.heap[k]?) : MapsAt c B C rm cm M w' :=
  ⟨h.row.block (fun k hk => hb k (.inl hk)), h.col.block (fun k hk => hb k (.inr hk)), h.off⟩
theorem MapsAt.notg {g : Nat} {T : TypeId} {cs : Array Value} (h : MapsAt c B C rm cm M w) (hg : w.heap[g]? = some (.cells cs T (0, 0))) {k : Nat} (hk : oblk B rm k ∨ oblk C cm k) : k ≠ g := by
  rcases hk with hk | hk
  · obtain ⟨es, cl, he⟩ := h.row.isMap hk
    exact map_ne hg he
  · obtain ⟨es, cl, he⟩ := h.col.isMap hk
    exact map_ne hg he
theorem MapsAt.set {g o : Nat} {T : TypeId} {cs : Array Value} {u : Value} (h : MapsAt c B C rm cm M w) (hg : w.heap[g]? = some (.cells cs T (0, 0))) : MapsAt c B C rm cm M (w.setCell ⟨g, o, none⟩ u) :=
  h.block (fun k hk => set_block (h.notg hg hk))
/-- Both sides are changed, the columns first. -/
theorem maps_to {g : Nat} {T : TypeId} {F : FP} {M' : Cls β} {w0 w1 w2 w3 : World} {n : Int} (h0 : Only F (fun _ => False) w0 w1)
    (hg : w1.heap[g]? = some (.cells #[.map (some B), .map (some C), .int .i64 n] T (0, 0))) (hM : MapsAt c B C rm cm M w1) (hs : SrtC M') (hn : n = M'.length) (hF : F g) (hFl : ∀ k, F k → k < w0.heap.size) (hF1 : ∀ k, oblk B rm k → F k ∨ w0.heap.size ≤ k) (hF2 : ∀ k, oblk C cm k → F k ∨ w0.heap.size ≤ k)
    (hc : OutTo codU C cm (colU M') w1 w2) (hr : ∀ h2 : OutAt c B rm (rowOf M) w2, OutTo c B rm (rowOf M') w2 w3) : GrTo c T g M' F w0 w3 := by
  obtain ⟨cm', c1, c2, c3⟩ := hc
  have hrow2 : OutAt c B rm (rowOf M) w2 := hM.row.block (fun k hk => c2.block k (hM.row.lt hk) (hM.off k hk) (fun h => h))
  obtain ⟨rm', r1, r2, r3⟩ := hr hrow2
  have hglt : g < w1.heap.size := (Array.getElem?_eq_some_iff.1 hg).1
  have hcol3 : OutAt codU C cm' (colU M') w3 := c1.block (fun k hk => r2.block k (c1.lt hk) (fun hk' => by
    rcases c3 k hk with h | h
    · exact hM.off k hk' h
    · have := hM.row.lt hk'; omega) (fun h => h))
  have hg3 : w3.heap[g]? = some (.cells #[.map (some B), .map (some C), .int .i64 n] T (0, 0)) := by
    rw [r2.block g (Nat.lt_of_lt_of_le hglt c2.grow.size) (fun hk => hM.notg hg (.inl hk) rfl) (fun h => h), c2.block g hglt (fun hk => hM.notg hg (.inr hk) rfl) (fun h => h)]
    exact hg
  have hsz1 := h0.grow.size
  have hsz2 := c2.grow.size
  have hsz3 := r2.grow.size
  have hlt : ∀ k, k < w0.heap.size → ¬ F k → ¬ oblk B rm k ∧ ¬ oblk C cm k := fun k hk hnF =>
    ⟨fun h => (hF1 k h).elim hnF (fun h => by omega), fun h => (hF2 k h).elim hnF (fun h => by omega)⟩
  refine ⟨fun k => F k ∨ (w0.heap.size ≤ k ∧ k < w3.heap.size), ⟨hs, .inl hF, fun k hk => ?_, .inr ⟨B, C, rm', cm', by rw [hg3, hn], ⟨r1, hcol3, fun k hk hk' => ?_⟩, fun k hk => ?_, fun k hk => ?_⟩⟩, fun k hk => hk.imp id (fun h => h.1), ?_⟩
  · rcases hk with h | h
    · have := hFl k h; omega
    · exact h.2
  · have e1 := r3 k hk
    have e2 := c3 k hk'
    have l2 := c1.lt hk'
    rcases e1 with e1 | e1
    · have := hM.row.lt e1
      rcases e2 with e2 | e2
      · exact hM.off k e1 e2
      · omega
    · omega
  · have hl := r1.lt hk
    rcases r3 k hk with h | h
    · exact (hF1 k h).imp id (fun h => ⟨h, hl⟩)
    · exact .inr ⟨by omega, hl⟩
  · have hl := hcol3.lt hk
    rcases c3 k hk with h | h
    · exact (hF2 k h).imp id (fun h => ⟨h, hl⟩)
    · exact .inr ⟨by omega, hl⟩
  · refine ⟨(h0.grow.trans c2.grow).trans r2.grow, fun k hk h1 _ => ?_⟩
    obtain ⟨n1, n2⟩ := hlt k hk h1
    rw [r2.block k (by omega) n1 (fun h => h), c2.block k (by omega) n2 (fun h => h)]
    exact h0.block k hk h1 (fun h => h)
/-- One side is changed, the rows. -/
theorem row_to {g : Nat} {T : TypeId} {F : FP} {M' : Cls β} {w0 w1 w3 : World} {n : Int} (h0 : Only F (fun _ => False) w0 w1)
    (hg : w1.heap[g]? = some (.cells #[.map (some B), .map (some C), .int .i64 n] T (0, 0))) (hM : MapsAt c B C rm cm M w1) (hs : SrtC M') (hn : n = M'.length) (hF : F g) (hFl : ∀ k, F k → k < w0.heap.size) (hF1 : ∀ k, oblk B rm k → F k ∨ w0.heap.size ≤ k) (hF2 : ∀ k, oblk C cm k → F k ∨ w0.heap.size ≤ k)
    (hc : colU M' = colU M) (hr : OutTo c B rm (rowOf M') w1 w3) : GrTo c T g M' F w0 w3 :=
  maps_to h0 hg hM hs hn hF hFl hF1 hF2 ⟨cm, by rw [hc]; exact hM.col, Only.refl _ _ _, fun k hk => .inl hk⟩ (fun _ => hr)
end

end Go.Proofs.YtcfcfijmfgnpfaaGreatDoor
end

section
namespace Go.Proofs
open Go.Shelf
def Tryz.keysA_ren : Go.Shelf.Ren := ⟨fun | 7 => 153 | 10 => 156 | n => n, fun | 23 => 221 | 26 => 3 | 3 => 3 | 28 => 231 | 0 => 0 | 27 => 230 | 33 => 69 | 4 => 4 | n => n, fun | n => n⟩
theorem Tryz.keysA : Go.Proofs.SlLaysZI.n7 Tryz.prog Tryz.keysA_ren := {
  mixed := by kernel_rfl
  f7 := ⟨Tryz.f153.name, by decide, Tryz.func153.trans (congrArg some (by kernel_rfl))⟩
  f10 := ⟨Tryz.f156.name, by decide, Tryz.func156.trans (congrArg some (by kernel_rfl))⟩
  t0 := Tryz.underlying0
  a0 := Tryz.isAgg0
  z0 := Tryz.sizeOf0
  v0 := Tryz.zeroValue0
  t4 := Tryz.underlying4
  a4 := Tryz.isAgg4
  z4 := Tryz.sizeOf4
  v4 := Tryz.zeroValue4
  t23 := Tryz.underlying221
  a23 := Tryz.isAgg221
  z23 := Tryz.sizeOf221
  v23 := Tryz.zeroValue221
  t26 := Tryz.underlying3
  a26 := Tryz.isAgg3
  z26 := Tryz.sizeOf3
  v26 := Tryz.zeroValue3
  t27 := Tryz.underlying230
  a27 := Tryz.isAgg230
  z27 := Tryz.sizeOf230
  v27 := Tryz.zeroValue230
  t28 := Tryz.underlying231
  a28 := Tryz.isAgg231
  z28 := Tryz.sizeOf231
  v28 := Tryz.zeroValue231
  t33 := Tryz.underlying69
  a33 := Tryz.isAgg69
  z33 := Tryz.sizeOf69
  v33 := Tryz.zeroValue69 }
def Tryz.sortedA_ren : Go.Shelf.Ren := ⟨fun | 6 => 152 | 8 => 154 | 9 => 155 | 11 => 157 | 13 => 114 | 12 => 158 | 23 => 134 | 24 => 135 | 14 => 159 | 15 => 160 | 16 => 161 | 17 => 162 | 18 => 163 | 19 => 164 | 20 => 165 | 21 => 166 | 22 => 167 | 25 => 168 | 26 => 140 | 27 => 141 | 28 => 169 | 29 => 170 | 30 => 171 | 31 => 172 | n => n, fun | 26 => 3 | 28 => 231 | 24 => 22 | 0 => 0 | 3 => 3 | 37 => 142 | 48 => 206 | 50 => 139 | 4 => 4 | 40 => 200 | 39 => 199 | 45 => 104 | 5 => 5 | 9 => 9 | 51 => 212 | 55 => 169 | 57 => 222 | 58 => 223 | 33 => 69 | n => n, fun | n => n⟩
theorem Tryz.sortedA : Go.Proofs.SlLaysZI.n6 Tryz.prog Tryz.sortedA_ren := {
  mixed := by kernel_rfl
  f6 := ⟨Tryz.f152.name, by decide, Tryz.func152.trans (congrArg some (by kernel_rfl))⟩
  f8 := ⟨Tryz.f154.name, by decide, Tryz.func154.trans (congrArg some (by kernel_rfl))⟩
  f11 := ⟨Tryz.f157.name, by decide, Tryz.func157.trans (congrArg some (by kernel_rfl))⟩
  t0 := Tryz.underlying0
  a0 := Tryz.isAgg0
  z0 := Tryz.sizeOf0
  v0 := Tryz.zeroValue0
  t24 := Tryz.underlying22
  a24 := Tryz.isAgg22
  z24 := Tryz.sizeOf22
  v24 := Tryz.zeroValue22
  t26 := Tryz.underlying3
  a26 := Tryz.isAgg3
  z26 := Tryz.sizeOf3
  v26 := Tryz.zeroValue3
  t28 := Tryz.underlying231
  a28 := Tryz.isAgg231
  z28 := Tryz.sizeOf231
  v28 := Tryz.zeroValue231
  i26 := by kernel_rfl }
def Tryz.sortA_ren : Go.Shelf.Ren := ⟨fun | 5 => 155 | 8 => 114 | 7 => 158 | 19 => 134 | 20 => 135 | 10 => 159 | 11 => 160 | 12 => 161 | 13 => 162 | 14 => 163 | 15 => 164 | 16 => 165 | 17 => 166 | 18 => 167 | 30 => 168 | 31 => 140 | 32 => 141 | 33 => 169 | 34 => 170 | 35 => 171 | 40 => 172 | n => n, fun | 23 => 22 | 25 => 3 | 3 => 3 | 32 => 142 | 22 => 22 | 0 => 0 | 44 => 206 | 46 => 139 | 4 => 4 | 36 => 200 | 35 => 199 | 41 => 104 | 5 => 5 | 9 => 9 | 53 => 212 | 57 => 169 | 63 => 222 | 64 => 223 | n => n, fun | n => n⟩
theorem Tryz.sortA : Go.Proofs.SlLaysM.n5 Tryz.prog Tryz.sortA_ren := {
  mixed := by kernel_rfl
  f5 := ⟨Tryz.f155.name, by decide, Tryz.func155.trans (congrArg some (by kernel_rfl))⟩
  f7 := ⟨Tryz.f158.name, by decide, Tryz.func158.trans (congrArg some (by kernel_rfl))⟩
  f8 := Tryz.func114.trans (congrArg some (by kernel_rfl))
  f10 := ⟨Tryz.f159.name, by decide, Tryz.func159.trans (congrArg some (by kernel_rfl))⟩
  f11 := ⟨Tryz.f160.name, by decide, Tryz.func160.trans (congrArg some (by kernel_rfl))⟩
  f12 := ⟨Tryz.f161.name, by decide, Tryz.func161.trans (congrArg some (by kernel_rfl))⟩
  f13 := ⟨Tryz.f162.name, by decide, Tryz.func162.trans (congrArg some (by kernel_rfl))⟩
  f14 := ⟨Tryz.f163.name, by decide, Tryz.func163.trans (congrArg some (by kernel_rfl))⟩
  f15 := ⟨Tryz.f164.name, by decide, Tryz.func164.trans (congrArg some (by kernel_rfl))⟩
  f16 := ⟨Tryz.f165.name, by decide, Tryz.func165.trans (congrArg some (by kernel_rfl))⟩
  f17 := ⟨Tryz.f166.name, by decide, Tryz.func166.trans (congrArg some (by kernel_rfl))⟩
  f18 := ⟨Tryz.f167.name, by decide, Tryz.func167.trans (congrArg some (by kernel_rfl))⟩
  f19 := Tryz.func134.trans (congrArg some (by kernel_rfl))
  f20 := Tryz.func135.trans (congrArg some (by kernel_rfl))
  f30 := ⟨Tryz.f168.name, by decide, Tryz.func168.trans (congrArg some (by kernel_rfl))⟩
  f31 := Tryz.func140.trans (congrArg some (by kernel_rfl))
  f32 := Tryz.func141.trans (congrArg some (by kernel_rfl))
  f33 := ⟨Tryz.f169.name, by decide, Tryz.func169.trans (congrArg some (by kernel_rfl))⟩
  f34 := ⟨Tryz.f170.name, by decide, Tryz.func170.trans (congrArg some (by kernel_rfl))⟩
  f35 := ⟨Tryz.f171.name, by decide, Tryz.func171.trans (congrArg some (by kernel_rfl))⟩
  f40 := ⟨Tryz.f172.name, by decide, Tryz.func172.trans (congrArg some (by kernel_rfl))⟩
  t0 := Tryz.underlying0
  a0 := Tryz.isAgg0
  z0 := Tryz.sizeOf0
  v0 := Tryz.zeroValue0
  t3 := Tryz.underlying3
  a3 := Tryz.isAgg3
  z3 := Tryz.sizeOf3
  v3 := Tryz.zeroValue3
  t4 := Tryz.underlying4
  a4 := Tryz.isAgg4
  z4 := Tryz.sizeOf4
  v4 := Tryz.zeroValue4
  t5 := Tryz.underlying5
  a5 := Tryz.isAgg5
  z5 := Tryz.sizeOf5
  v5 := Tryz.zeroValue5
  t9 := Tryz.underlying9
  a9 := Tryz.isAgg9
  z9 := Tryz.sizeOf9
  v9 := Tryz.zeroValue9
  t22 := Tryz.underlying22
  a22 := Tryz.isAgg22
  z22 := Tryz.sizeOf22
  v22 := Tryz.zeroValue22
  t23 := Tryz.underlying22
  a23 := Tryz.isAgg22
  z23 := Tryz.sizeOf22
  v23 := Tryz.zeroValue22
  t25 := Tryz.underlying3
  a25 := Tryz.isAgg3
  z25 := Tryz.sizeOf3
  v25 := Tryz.zeroValue3
  t32 := Tryz.underlying142
  a32 := Tryz.isAgg142
  z32 := Tryz.sizeOf142
  v32 := Tryz.zeroValue142
  t35 := Tryz.underlying199
  a35 := Tryz.isAgg199
  z35 := Tryz.sizeOf199
  v35 := Tryz.zeroValue199
  t36 := Tryz.underlying200
  a36 := Tryz.isAgg200
  z36 := Tryz.sizeOf200
  v36 := Tryz.zeroValue200
  t41 := Tryz.underlying104
  a41 := Tryz.isAgg104
  z41 := Tryz.sizeOf104
  v41 := Tryz.zeroValue104
  t44 := Tryz.underlying206
  a44 := Tryz.isAgg206
  z44 := Tryz.sizeOf206
  v44 := Tryz.zeroValue206
  t46 := Tryz.underlying139
  a46 := Tryz.isAgg139
  z46 := Tryz.sizeOf139
  v46 := Tryz.zeroValue139
  t53 := Tryz.underlying212
  a53 := Tryz.isAgg212
  z53 := Tryz.sizeOf212
  v53 := Tryz.zeroValue212
  t57 := Tryz.underlying169
  a57 := Tryz.isAgg169
  z57 := Tryz.sizeOf169
  v57 := Tryz.zeroValue169
  t63 := Tryz.underlying222
  a63 := Tryz.isAgg222
  z63 := Tryz.sizeOf222
  v63 := Tryz.zeroValue222
  t64 := Tryz.underlying223
  a64 := Tryz.isAgg223
  z64 := Tryz.sizeOf223
  v64 := Tryz.zeroValue223 }
end Go.Proofs
end

section
namespace Go.Proofs.YtcfcfijmfgnpfaaGreatDoor
open Go.RowKit Go.Maps Go.Sort Go.Shelf
set_option linter.unusedVariables false
set_option linter.unusedSimpArgs false

theorem sorted_keys {β : Type} {m : List (Int × β)} (h : SrtK m) {ss : List Int} (hp : ss.Perm (m.map (·.1))) : ss.mergeSort (fun x y => decide (x ≤ y)) = m.map (·.1) := by
  have e : ss.mergeSort leI = (m.map (·.1)).mergeSort leI := mergeSort_of_perm_i hp
  rw [show (fun x y : Int => decide (x ≤ y)) = leI from rfl, e]
  refine List.mergeSort_of_pairwise ?_
  refine List.pairwise_map.2 (h.imp (fun {a b} hab => ?_))
  simp only [leI, decide_eq_true_eq]
  omega

theorem sortsA (m : Nat) : AnyZI.SortsIn Tryz.prog Tryz.sortedA_ren Fence.wide m :=
  ⟨fun blk off cap ss W hH hblk hsz => callsIn_wide.2 (AnyM.slices_Sort_int Tryz.sortA blk off cap ss W hH hblk hsz),
   fun p cap W => callsIn_wide.2 (AnyM.slices_Sort_int_none Tryz.sortA p cap W)⟩

set_option maxHeartbeats 1000000 in
theorem rising_I {β : Type} {c : Cod β} {b : Nat} {m : List (Int × β)} {w : World} (h : MapAt c b m w) (hm : m.length ≤ 1000000) :
    Calls Tryz.prog 148 #[.map (some b)] w fun e w' => ∃ v, e = .returned v ∧ w'.ownsRow w.heap.size 3 1 v m.length (m.map fun x => Value.int .i64 x.1) ∧ (v = .slice none 0 0 ↔ m = []) ∧ Below w.heap.size w w' := by
  refine (callsIn_wide (n := 6)).1 ?_
  have hbl := h.lt
  obtain ⟨nn, D0, hown, h1, h2⟩ := h.own
  have hs := MapAt.size h.srt hown h1
  have hperm := MapAt.keys h.srt hown h1
  have hseq : SeqGives Fence.wide 2 Tryz.prog 156 #[.pointer (some ⟨w.heap.size, 0, none⟩)] encZ (fun ss => ss.Perm (intKeys D0)) (Maps.size D0) (w.alloc (.cells #[.map (some b)] 221)) :=
    AnyZI.keys_gives (ρ := Tryz.keysA_ren) { Tryz.keysA with } Fence.wide _ trivial rfl (by omega) w.heap.size b nn D0 _ (by simp) (by simp) (hown.alloc _)
  have cK : ∀ mb W, CallsIn Fence.wide 5 Tryz.prog 153 #[.map mb] W fun e w' => e = .returned (.func (.func 156) #[] #[.pointer (some ⟨W.heap.size, 0, none⟩)]) ∧ w' = W.alloc (.cells #[.map mb] 221) := fun mb W => AnyZI.keys_in Tryz.keysA Fence.wide 5 trivial rfl mb W
  have cS := AnyZI.sorted_in Tryz.sortedA Fence.wide 5 trivial trivial trivial trivial rfl (by omega) (sortsA _) (enters_of Tryz.func155 (by kernel_rfl) rfl) 156 #[.pointer (some ⟨w.heap.size, 0, none⟩)] trivial (enters_of Tryz.func156 (by kernel_rfl) rfl) _ _ (by rw [hs]; unfold maxLen; omega) (by rw [hs]; omega) _ hseq
  change CallsIn _ _ Tryz.prog 152 _ _ _ at cS
  have hfK : Fence.wide.fn 153 := trivial
  have hfS : Fence.wide.fn 152 := trivial
  have Hd := Lib.hid (And.intro hs (And.intro hperm (And.intro h1 h.srt)))
  clear hs hperm h1 h2 hm
  refine callsIn_of_wp Tryz.func148 rfl trivial ?_ rfl
  simp only [Tryz.ntmps148, List.size_toArray, List.length_cons, List.length_nil, Nat.reduceAdd, Nat.reduceSub, Array.replicate_succ, Array.replicate_zero, List.push_toArray, List.append_toArray, List.nil_append, List.cons_append]
  gi_wp2_with (first
    | (gi_at_call 153; refine (cK _ _).mono ?_; rintro e w' ⟨rfl, rfl⟩)
    | (gi_at_call 152; refine cS.mono ?_; rintro e w' ⟨v, ss, rfl, hS, hrow, hnil, hb⟩)
    | fail)
  go_ret
  obtain ⟨hs, hperm, h1, hsrt⟩ := Hd.out
  have hp : ss.Perm (m.map (·.1)) := hS.trans hperm.symm
  have hl : ss.length = m.length := by rw [hp.length_eq]; simp
  have hsk := sorted_keys hsrt hp
  refine ⟨v, rfl, ?_, ?_, ((Below.refl _ w).alloc (Nat.le_refl _) _).trans (hb.mono (by simp))⟩
  · have : w'.ownsRow w.heap.size 3 1 v ss.length ((ss.mergeSort (fun x y => decide (x ≤ y))).map encZ) := ownsRow_base_a hrow (by simp)
    rw [hsk, hl] at this
    simpa [encZ, Function.comp_def] using this
  · rw [hnil, ← List.length_eq_zero_iff, ← List.length_eq_zero_iff, hl]

set_option maxHeartbeats 1000000 in
theorem rising_I_nil (w : World) : Calls Tryz.prog 148 #[.map none] w fun e w' => e = .returned (.slice none 0 0) ∧ Below w.heap.size w w' := by
  refine (callsIn_wide (n := 6)).1 ?_
  have hseq : SeqGives Fence.wide 2 Tryz.prog 156 #[.pointer (some ⟨w.heap.size, 0, none⟩)] encZ (fun ss : List Int => ss = []) 0 (w.alloc (.cells #[.map none] 221)) :=
    AnyZI.keys_gives_nil (ρ := Tryz.keysA_ren) { Tryz.keysA with } Fence.wide _ trivial rfl w.heap.size _ (by simp) (by simp)
  have cK : ∀ mb W, CallsIn Fence.wide 5 Tryz.prog 153 #[.map mb] W fun e w' => e = .returned (.func (.func 156) #[] #[.pointer (some ⟨W.heap.size, 0, none⟩)]) ∧ w' = W.alloc (.cells #[.map mb] 221) := fun mb W => AnyZI.keys_in Tryz.keysA Fence.wide 5 trivial rfl mb W
  have cS := AnyZI.sorted_in Tryz.sortedA Fence.wide 5 trivial trivial trivial trivial rfl (by omega) (sortsA _) (enters_of Tryz.func155 (by kernel_rfl) rfl) 156 #[.pointer (some ⟨w.heap.size, 0, none⟩)] trivial (enters_of Tryz.func156 (by kernel_rfl) rfl) _ 0 (Nat.zero_le _) (by omega) _ hseq
  change CallsIn _ _ Tryz.prog 152 _ _ _ at cS
  have hfK : Fence.wide.fn 153 := trivial
  have hfS : Fence.wide.fn 152 := trivial
  refine callsIn_of_wp Tryz.func148 rfl trivial ?_ rfl
  simp only [Tryz.ntmps148, List.size_toArray, List.length_cons, List.length_nil, Nat.reduceAdd, Nat.reduceSub, Array.replicate_succ, Array.replicate_zero, List.push_toArray, List.append_toArray, List.nil_append, List.cons_append]
  gi_wp2_with (first
    | (gi_at_call 153; refine (cK _ _).mono ?_; rintro e w' ⟨rfl, rfl⟩)
    | (gi_at_call 152; refine cS.mono ?_; rintro e w' ⟨v, ss, rfl, rfl, hrow, hnil, hb⟩; obtain rfl : v = .slice none 0 0 := hnil.2 rfl)
    | fail)
  go_ret
  exact ⟨rfl, ((Below.refl _ w).alloc (Nat.le_refl _) _).trans (hb.mono (by simp))⟩

end Go.Proofs.YtcfcfijmfgnpfaaGreatDoor
end

section
namespace Go.Proofs.YtcfcfijmfgnpfaaGreatDoor
open Go.RowKit
attribute [local go_sem] Oper.semAt_some
set_option linter.unusedVariables false
set_option linter.unusedSimpArgs false

def Is (l : List Int) : List Value := l.map fun x => Value.int .i64 x
/-- Numbers that the call owns. -/
def OwnN (B : Nat) (v : Value) (l : List Int) (w : World) : Prop := w.ownsRow B 3 1 v l.length (Is l)
theorem infoI : (Tryz.prog.info? 3).map (fun i => (i.zero, i.size, i.bytes)) = some (some (.int .i64 0), 1, 8) := by kernel_rfl
theorem OwnN.nil (w : World) (B : Nat) : OwnN B (.slice none 0 0) [] w := World.ownsRow_nil w B _ 1
theorem OwnN.lenOf {B : Nat} {v : Value} {l : List Int} {w : World} (h : OwnN B v l w) : ∃ ao cap, v = .slice ao l.length cap := by
  rcases h.2 with ⟨rfl, e⟩ | ⟨g, cap, cur, rfl, -⟩
  · exact ⟨none, 0, by rw [e]⟩
  · exact ⟨_, _, rfl⟩
theorem OwnN.block {B : Nat} {v : Value} {l : List Int} {w : World} (h : OwnN B v l w) {k : Nat} (hk : v.ownBlock = some k) : B ≤ k ∧ k < w.heap.size := World.ownsRow.lt h k hk
theorem OwnN.of {B S' : Nat} {v : Value} {l : List Int} {w w' : World} (h : OwnN B v l w) (hS : S' ≤ B) (hk : ∀ k, v.ownBlock = some k → w'.heap[k]? = w.heap[k]?) : OwnN S' v l w' := by
  obtain ⟨h1, h2⟩ := h
  refine ⟨h1, ?_⟩
  rcases h2 with h2 | ⟨g, cap, cur, rfl, hb, hg, hn, hm, hs, ht⟩
  · exact .inl h2
  · exact .inr ⟨g, cap, cur, rfl, by omega, (hk g rfl).trans hg, hn, hm, hs, ht⟩
section
variable {F : Fence} {nF : Nat} {w : World} {ops : Array Oper} {rest : List Oper} {o : Oper} {a : Act} {Q : Exit → Act → World → Prop}
theorem wplIn_appN_at {s x : Operand} {B ub : Nat} {v : Value} {xs : List Int} {y : Int} (hgd : o.guard = none) (ho : o.op = .call { callee := .builtin .append, args := #[s, x], argTypes := #[22, 22] }) (hs : a.eval s = v) (hx : a.eval x = .slice (some ⟨ub, 0, none⟩) 1 1)
    (hown : OwnN B v xs w) (hc : w.cell? ⟨ub, 0, none⟩ = some (.int .i64 y)) (hlen : xs.length ≤ 100000) (hB : B ≤ w.heap.size)
    (h : ∀ v' w', OwnN B v' (xs ++ [y]) w' → w.grownBy w' v.ownBlock → (v'.ownBlock = v.ownBlock ∨ v'.ownBlock = some w.heap.size) → wpListIn F nF Tryz.prog ops Q rest (a.put o.dst v') w') : wpListIn F nF Tryz.prog ops Q (o :: rest) a w := by
  obtain ⟨i0, hi, hz⟩ := Option.map_eq_some_iff.1 infoI
  simp only [Prod.mk.injEq] at hz
  obtain ⟨hz0, hz1, hz2⟩ := hz
  refine wpListIn_append_own_at _ hgd s x _ ho B 3 i0 (.int .i64 0) 1 8 Tryz.underlying22 hi hz0 hz1 hz2 rfl (by decide) v _ _ hs hown ⟨ub, 0, none⟩ 1 1 [.int .i64 y] hx (by simp)
    (fun j u hj => by
      cases j with
      | zero => simp only [List.getElem?_cons_zero, Option.some.injEq] at hj; subst hj; rw [Addr.add_mid]; exact hc
      | succ j => simp at hj) (by simp [Value.oneCell']) (by unfold maxLen; omega) (by omega) hB ?_
  intro v' w' h1 h2 _ h4
  refine h v' w' ?_ h2 h4
  unfold OwnN
  rw [List.length_append]
  simpa [Is] using h1
end
/-- Numbers that are only read. -/
def RdN (w : World) (v : Value) (l : List Int) : Prop := ∃ ao cap, v = .slice ao l.length cap ∧ ∀ i (hi : i < l.length), ∃ b off, ao = some ⟨b, off, none⟩ ∧ w.cell? ⟨b, off + i, none⟩ = some (.int .i64 l[i]) ∧ b < w.heap.size
theorem RdN.below {w w' : World} {v : Value} {l : List Int} (h : RdN w v l) (hb : Below w.heap.size w w') : RdN w' v l := by
  obtain ⟨ao, cap, e, h2⟩ := h
  refine ⟨ao, cap, e, fun i hi => ?_⟩
  obtain ⟨b, off, e1, e2, e3⟩ := h2 i hi
  exact ⟨b, off, e1, (World.cell?_of_block (a := ⟨b, off + i, none⟩) (hb.block b e3)).trans e2, Nat.lt_of_lt_of_le e3 hb.size⟩
theorem OwnN.reads {B : Nat} {v : Value} {l : List Int} {w : World} (h : OwnN B v l w) : RdN w v l := by
  have h0 := h
  obtain ⟨hl, h2⟩ := h
  rcases h2 with ⟨rfl, e⟩ | ⟨g, cap, cur, rfl, _, hg, _, _, hs, ht⟩
  · exact ⟨none, 0, by rw [e], fun i hi => by omega⟩
  · refine ⟨some ⟨g, 0, none⟩, cap, rfl, fun i hi => ⟨g, 0, rfl, ?_, (h0.block rfl).2⟩⟩
    rw [World.cell?, hg]
    have h1 : (Is l)[i]? = some (.int .i64 l[i]) := by simp [Is, hi]
    rw [← ht, List.getElem?_take_of_lt (by omega)] at h1
    simpa using h1
def appI (args : Array Value) : Sem Value := Builtin.append_ #[22, 22] 22 args
theorem append_hide (args : Array Value) : Builtin.append_ #[22, 22] 22 args = appI args := rfl
theorem run_appI {w : World} {B ub : Nat} {v : Value} {xs : List Int} {y : Int} (hown : OwnN B v xs w) (hc : w.cell? ⟨ub, 0, none⟩ = some (.int .i64 y)) (hlen : xs.length ≤ 100000) (hB : B ≤ w.heap.size) :
    ∃ v' w', (appI #[v, .slice (some ⟨ub, 0, none⟩) 1 1]).run Tryz.prog w = .ok v' w' ∧ OwnN B v' (xs ++ [y]) w' ∧ w.grownBy w' v.ownBlock ∧ (v'.ownBlock = v.ownBlock ∨ v'.ownBlock = some w.heap.size) := by
  obtain ⟨i0, hi, hz⟩ := Option.map_eq_some_iff.1 infoI
  simp only [Prod.mk.injEq] at hz
  obtain ⟨hz0, hz1, hz2⟩ := hz
  obtain ⟨v', w', h1, h2, h3, -, h5⟩ := run_append_own_at (P := Tryz.prog) (w := w) B 22 22 3 i0 (.int .i64 0) 1 8 Tryz.underlying22 hi hz0 hz1 hz2 rfl (by decide) v _ _ hown ⟨ub, 0, none⟩ 1 1 [.int .i64 y] (by simp)
    (fun j u hj => by
      cases j with
      | zero => simp only [List.getElem?_cons_zero, Option.some.injEq] at hj; subst hj; rw [Addr.add_mid]; exact hc
      | succ j => simp at hj) (by simp [Value.oneCell']) (by unfold maxLen; omega) (by omega) hB
  refine ⟨v', w', h1, ?_, h3, h5⟩
  unfold OwnN
  rw [List.length_append]
  simpa [Is] using h2
end Go.Proofs.YtcfcfijmfgnpfaaGreatDoor
end

section
namespace Go.Proofs.YtcfcfijmfgnpfaaGreatDoor
open Go.RowKit Go.Maps Go.Shelf
attribute [local go_sem] Oper.semAt_some
set_option linter.unusedVariables false
set_option linter.unusedSimpArgs false

theorem Only.undrew {Ψ Φ : FP} {A B : World} (h : Only Ψ Φ A.drew B) : Only Ψ Φ A B := ⟨⟨h.grow.os, h.grow.tape, h.grow.output, h.grow.size⟩, h.block⟩
theorem pre_snoc {α : Type} {xs : List α} {k : Nat} (h : k < xs.length) : xs.take k ++ [xs[k]] = xs.take (k + 1) := by rw [List.take_succ_eq_append_getElem h]
theorem OwnN.at {B : Nat} {v : Value} {l : List Int} {w : World} (h : OwnN B v l w) {k : Nat} (hk : k < l.length) : ∃ b cap, v = .slice (some ⟨b, 0, none⟩) l.length cap ∧ w.cell? ⟨b, k, none⟩ = some (.int .i64 l[k]) ∧ B ≤ b ∧ b < w.heap.size := by
  obtain ⟨ao, cap, rfl, h2⟩ := h.reads
  obtain ⟨b, off, rfl, e2, e3⟩ := h2 k hk
  rcases h.2 with ⟨e, _⟩ | ⟨g, c', cur, e, hb, _⟩
  · cases e
  · have : (some ⟨b, off, none⟩ : Option Addr) = some ⟨g, 0, none⟩ := by injection e
    injection this with this
    injection this with t1 t2 t3
    subst t1 t2
    rw [Nat.zero_add] at e2
    exact ⟨b, cap, rfl, e2, hb, e3⟩

/-- What a look at a table finds. -/
theorem GrAt.look_I {g : Nat} {M : Cls Int} {F : FP} {w : World} (h : GrAt codI 117 g M F w) {a b : Int} (ha : (Lit.int .i64 a).wf = true) (hb : (Lit.int .i64 b).wf = true) :
    ∃ mv mi, w.cell? ⟨g, 0, none⟩ = some (.map mv) ∧ (Instr.lookup 114 (.map mv) (.int .i64 a) false).run Tryz.prog w = .ok (.map mi) w ∧
      (Instr.lookup 221 (.map mi) (.int .i64 b) false).run Tryz.prog w = .ok (codI.enc ((cget M a b).getD (0 : Int))) w := by
  have hu1 : Tryz.prog.underlying 114 = some (.map 3 221) := Tryz.underlying114
  have hu2 : Tryz.prog.underlying 221 = some (.map 3 3) := Tryz.underlying221
  have hz1 : ∀ w, (zeroValue 221).run Tryz.prog w = .ok (codM.enc none) w := fun w => Tryz.zeroValue221 w
  have hz2 : ∀ w, (zeroValue 3).run Tryz.prog w = .ok (codI.enc (0 : Int)) w := fun w => Tryz.zeroValue3 w
  obtain ⟨_, _, _, (⟨rfl, hh⟩ | ⟨B, C, rm, cm, hh, hM, _⟩)⟩ := h
  · exact ⟨none, none, by rw [World.cell?, hh]; rfl, nil_look hu1 (hz1 w) ha false, nil_look hu2 (hz2 w) hb false⟩
  · have hl := hM.row.map.look (z0 := none) hu1 (hz1 w) ha
    cases hs : sget rm a with
    | none =>
      rw [hs] at hl
      refine ⟨some B, none, by rw [World.cell?, hh]; rfl, hl, ?_⟩
      have hr := hM.row.isNil hs
      have : cget M a b = none := by rw [cget, hr]; rfl
      rw [this]
      exact nil_look hu2 (hz2 w) hb false
    | some x =>
      obtain ⟨b', rfl, _, _, h3⟩ := hM.row.at_ a x hs
      rw [hs] at hl
      exact ⟨some B, some b', by rw [World.cell?, hh]; rfl, hl, h3.look hu2 (hz2 w) hb⟩
/-- A row's keys, rising. -/
theorem GrAt.rises_row_I {g : Nat} {M : Cls Int} {F : FP} {w : World} (h : GrAt codI 117 g M F w) (hlen : M.length ≤ 100000) {a : Int} (ha : (Lit.int .i64 a).wf = true) :
    ∃ mv mi, w.cell? ⟨g, 0, none⟩ = some (.map mv) ∧ (Instr.lookup 114 (.map mv) (.int .i64 a) false).run Tryz.prog w = .ok (.map mi) w ∧
      Calls Tryz.prog 148 #[.map mi] w (fun e w' => ∃ v, e = .returned v ∧ OwnN w.heap.size v ((rowOf M a).map (·.1)) w' ∧ Below w.heap.size w w') := by
  have hu1 : Tryz.prog.underlying 114 = some (.map 3 221) := Tryz.underlying114
  have hz1 : ∀ w, (zeroValue 221).run Tryz.prog w = .ok (codM.enc none) w := fun w => Tryz.zeroValue221 w
  have hnil : rowOf M a = [] → Calls Tryz.prog 148 #[.map none] w (fun e w' => ∃ v, e = .returned v ∧ OwnN w.heap.size v ((rowOf M a).map (·.1)) w' ∧ Below w.heap.size w w') := fun e => by
    refine (rising_I_nil w).mono ?_
    rintro _ w' ⟨rfl, hb⟩
    rw [e]
    exact ⟨_, rfl, OwnN.nil _ _, hb⟩
  have hr := row_length M a
  obtain ⟨_, _, _, (⟨rfl, hh⟩ | ⟨B, C, rm, cm, hh, hM, _⟩)⟩ := h
  · exact ⟨none, none, by rw [World.cell?, hh]; rfl, nil_look hu1 (hz1 w) ha false, hnil rfl⟩
  · have hl := hM.row.map.look (z0 := none) hu1 (hz1 w) ha
    cases hs : sget rm a with
    | none =>
      rw [hs] at hl
      exact ⟨some B, none, by rw [World.cell?, hh]; rfl, hl, hnil (hM.row.isNil hs)⟩
    | some x =>
      obtain ⟨b', rfl, _, _, h3⟩ := hM.row.at_ a x hs
      rw [hs] at hl
      refine ⟨some B, some b', by rw [World.cell?, hh]; rfl, hl, (rising_I h3 (by omega)).mono ?_⟩
      rintro e w' ⟨v, rfl, ho, _, hb⟩
      refine ⟨v, rfl, ?_, hb⟩
      unfold OwnN Is
      rw [List.length_map, List.map_map]
      exact ho
theorem GrAt.wf {β : Type} {c : Cod β} {T : TypeId} {g : Nat} {M : Cls β} {F : FP} {w : World} (h : GrAt c T g M F w) {x : (Int × Int) × β} (hx : x ∈ M) : (Lit.int .i64 x.1.1).wf = true ∧ (Lit.int .i64 x.1.2).wf = true := by
  obtain ⟨_, _, _, (⟨rfl, hh⟩ | ⟨B, C, rm, cm, hh, hM, _⟩)⟩ := h
  · cases hx
  · have hr : (x.1.2, x.2) ∈ rowOf M x.1.1 := mem_rowOf.2 hx
    obtain ⟨b, hb⟩ := hM.row.has x.1.1 (List.ne_nil_of_mem hr)
    obtain ⟨b', e, _, _, h3⟩ := hM.row.at_ _ _ hb
    exact ⟨hM.row.map.wf (sget_mem hb), h3.wf hr⟩

set_option maxHeartbeats 4000000 in
set_option maxRecDepth 100000 in
theorem row_iter_I (n : Nat) (bx ba g : Nat) (M : Cls Int) (F : FP) (s : Int) (w : World) (hbx : w.cell? ⟨bx, 0, none⟩ = some (.pointer (some ⟨g, 0, none⟩))) (hba : w.cell? ⟨ba, 0, none⟩ = some (.int .i64 s)) (h : GrAt codI 117 g M F w) (hlen : M.length ≤ 100000) (hs : (Lit.int .i64 s).wf = true)
    (G : FP) (hGb : G bx) (hGa : G ba) (hGF : ∀ k, F k → G k) :
    Iter Tryz.prog n 147 #[.pointer (some ⟨bx, 0, none⟩), .pointer (some ⟨ba, 0, none⟩)] (fun x : Int × Int => #[.int .i64 x.1, codI.enc x.2]) (rowOf M s) G w := by
  intro lp B Ψ J Jx Φ0 W hgw hG hΨ hΦ0 hJ hJx hround h0
  have hc1 : W.cell? ⟨bx, 0, none⟩ = some (.pointer (some ⟨g, 0, none⟩)) := (World.cell?_of_block (hG bx hGb).2).trans hbx
  have hc2 : W.cell? ⟨ba, 0, none⟩ = some (.int .i64 s) := (World.cell?_of_block (hG ba hGa).2).trans hba
  have hW : GrAt codI 117 g M F W := h.keep hgw (fun k hk => (hG k (hGF k hk)).2)
  have hWd : GrAt codI 117 g M F W.drew := hW.keep ⟨rfl, rfl, rfl, Nat.le_refl _⟩ (fun _ _ => rfl)
  obtain ⟨mv, mi, hcm, hlm, hrise⟩ := hWd.rises_row_I hlen hs
  have hcm : W.cell? ⟨g, 0, none⟩ = some (.map mv) := hcm
  obtain ⟨hs1, hs2, hs3⟩ := hJ _ _ _ h0
  have mixed : Tryz.prog.follows .mixedOrders = true := by kernel_rfl
  refine callsIn_of_wp Tryz.func147 rfl trivial ?_ rfl
  simp only [Tryz.ntmps147, List.size_toArray, List.length_cons, List.length_nil, Nat.reduceAdd, Nat.reduceSub, Array.replicate_succ, Array.replicate_zero, List.push_toArray, List.append_toArray, List.nil_append, List.cons_append]
  have hsrt := hW.1
  obtain ⟨xs, hxs⟩ : ∃ xs, xs = rowOf M s := ⟨_, rfl⟩
  obtain ⟨ks, hks⟩ : ∃ ks, ks = (rowOf M s).map (·.1) := ⟨_, rfl⟩
  rw [← hks] at hrise
  rw [← hxs] at hround ⊢
  have hkl : ks.length = xs.length := by rw [hks, hxs]; simp
  have hbig : (ks.length : Int) ≤ 100000 := by rw [hkl, hxs]; have := row_length M s; omega
  have HXS := Lib.hid hxs
  have HKS := Lib.hid (And.intro hks (And.intro hkl hsrt))
  clear hxs hks hkl hsrt
  have HW := Lib.hid hW
  have HRS := Lib.hid hrise
  have HRD := Lib.hid hround
  have HJ := Lib.hid hJ
  have HP := Lib.hid hΨ
  have HP0 := Lib.hid hΦ0
  have HG := Lib.hid hG
  have HGF := Lib.hid (And.intro hGb (And.intro hGa hGF))
  have HH0 := Lib.hid h0
  have HS3 := Lib.hid hs3
  have HS1 := Lib.hid hs1
  have HL := Lib.hid hlen
  have HWF := Lib.hid hs
  clear hW hWd hrise hround hJ hJx hG hΨ hΦ0 hbx hba hGb hGa hGF h0 hs1 hs3 hlen hs h
  gi_wp2_with fail
  refine region_meet (R := fun a wc => ∃ co ccap, a = { tmps := #[.func (.yield lp) #[] #[], .pointer (some ⟨bx, 0, none⟩), .pointer (some ⟨ba, 0, none⟩), undef, undef, undef, .pointer (some ⟨g, 0, none⟩), .bool false, .pointer (some ⟨g, 0, none⟩), .pointer (some ⟨g, 0, none⟩), .pointer (some ⟨g, 0, none⟩), .map mv, .int .i64 s, .map mi, .slice co ks.length ccap, .int .i64 ks.length, .int .i64 0, undef, undef, undef, undef, undef, undef, undef, undef, undef, undef, undef, undef, undef, undef, undef, undef], defers := [] } ∧ OwnN W.drew.heap.size (.slice co ks.length ccap) ks wc ∧ Below W.drew.heap.size W.drew wc) ?_ ?_
  · go_region_with (first | (go_at_call 148; refine HRS.out.mono ?_; rintro e wc ⟨vc, rfl, hoc, hbc⟩; obtain ⟨co, ccap, rfl⟩ := hoc.lenOf; have HOC := Lib.hid hoc; have HBC := Lib.hid hbc; clear hoc hbc) | fail)
    all_goals exact ⟨co, ccap, rfl, HOC.out, HBC.out⟩
  rintro _ wc ⟨co, ccap, rfl, hoc, hbc⟩
  have HOC := Lib.hid hoc
  have HBC := Lib.hid hbc
  clear hoc hbc
  have hcs : W.heap.size ≤ wc.heap.size := HBC.out.size
  have hbc' : Below W.heap.size W wc := ((Below.refl _ W).drew).trans (show Below W.heap.size W.drew wc from HBC.out)
  have HO1 := Lib.hid (Only.of_later (Ψ := Ψ) (Φ := Φ0) hbc')
  have hJc : J [] Φ0 wc := HS3.out wc (Grow.of_below hbc') (fun k hk => hbc'.block k (hk.elim (fun h => by omega) (fun h => (HS1.out k h).2)))
  have HJC := Lib.hid hJc
  have hkeep : ∀ wr, Only Ψ Φ0 wc wr → OwnN W.heap.size (.slice co ks.length ccap) ks wr ∧ GrAt codI 117 g M F wr ∧ wr.cell? ⟨bx, 0, none⟩ = some (.pointer (some ⟨g, 0, none⟩)) ∧ wr.cell? ⟨ba, 0, none⟩ = some (.int .i64 s) := fun wr ho => by
    have hgk : ∀ k, G k → wr.heap[k]? = W.heap[k]? := fun k hk => by
      have hkW : k < W.heap.size := by have := (HG.out k hk).1; have := hgw.size; omega
      rw [ho.block k (by omega) (fun h => (HP.out k h).2 hk) (fun h => HP0.out k h hk)]
      exact hbc'.block k hkW
    refine ⟨OwnN.of HOC.out (Nat.le_refl _) (fun k hk => ?_), HW.out.keep ((Grow.of_below hbc').trans ho.grow) (fun k hk => hgk k (HGF.out.2.2 k hk)), (World.cell?_of_block (hgk bx HGF.out.1)).trans hc1, (World.cell?_of_block (hgk ba HGF.out.2.1)).trans hc2⟩
    obtain ⟨h1, h2⟩ := HOC.out.block hk
    have h1 : W.heap.size ≤ k := h1
    exact ho.block k h2 (fun h => by have := (HP.out k h).1; omega) (fun h => by have := (HS1.out k h).2; omega)
  have HK := Lib.hid hkeep
  clear hkeep hJc hbc' hc1 hc2 hlm hcm
  gi_wp2_with fail
  gi_loopw [16] (fun r wr => ∃ (k : Nat) (Φ : FP), k ≤ ks.length ∧ r = .int .i64 k ∧ J (xs.take k) Φ wr ∧ Only Ψ Φ0 wc wr ∧ (∀ j, Φ j → Φ0 j ∨ wc.heap.size ≤ j)) (fun r wr => ks.length - (Go.RowKit.intOf r).toNat)
  case atStart => exact ⟨0, Φ0, Nat.zero_le _, rfl, HJC.out, Only.refl _ _ _, fun j h => .inl h⟩
  case round =>
    obtain ⟨k, Φ, hk, rfl, hJ2, ho2, hn2⟩ := hrel
    obtain ⟨hkl, hkl2, hsrt⟩ := HKS.out
    by_cases hlt : k < ks.length
    · have hlt' : (k : Int) < ks.length := by omega
      obtain ⟨hoW, hGW, cb, ca⟩ := HK.out wr ho2
      obtain ⟨b, cap, hv, hcell, hbl, hbu⟩ := hoW.at hlt
      injection hv with hv1 hv2 hv3
      subst hv1
      have hltx : k < xs.length := by omega
      obtain ⟨x, hx⟩ : ∃ x, x = xs[k] := ⟨_, rfl⟩
      have hy : ks[k] = x.1 := by simp only [hkl, hx, HXS.out, List.getElem_map]
      rw [hy] at hcell
      have hxm : x ∈ rowOf M s := by rw [← HXS.out, hx]; exact List.getElem_mem _
      have hxM := (mem_rowOf (x := x)).1 hxm
      have hwfx := hGW.wf hxM
      have hget : cget M s x.1 = some x.2 := hsrt.get.2 hxM
      obtain ⟨mv', mi', cm, l1, l2⟩ := (hGW.keep (w' := wr.drew) ⟨rfl, rfl, rfl, Nat.le_refl _⟩ (fun _ _ => rfl)).look_I (a := s) (b := x.1) HWF.out hwfx.2
      rw [hget, Option.getD_some] at l2
      have cm : wr.cell? ⟨g, 0, none⟩ = some (.map mv') := cm
      have htk : xs.take k ++ [x] = xs.take (k + 1) := by rw [hx]; exact pre_snoc hltx
      have hpre : (xs.take k ++ [x]) <+: xs := by rw [htk]; exact List.take_prefix _ _
      obtain ⟨q1, q2, q3⟩ := HJ.out _ _ _ hJ2
      have hJd : J (xs.take k) Φ wr.drew := q3 wr.drew ⟨rfl, rfl, rfl, Nat.le_refl _⟩ (fun _ _ => rfl)
      obtain ⟨fn, tm, asg, bd, hyy, hR⟩ := HRD.out (xs.take k) x Φ wr.drew hpre hJd
      dsimp only at hyy
      obtain ⟨yv, hyv⟩ : ∃ yv, yv = x.1 := ⟨_, rfl⟩
      rw [← hyv] at hcell hyy l2
      obtain ⟨ev, hev⟩ : ∃ ev, ev = codI.enc x.2 := ⟨_, rfl⟩
      rw [← hev] at hyy l2
      have HT := Lib.hid htk
      have HPR := Lib.hid hpre
      have HO2 := Lib.hid ho2
      have HN2 := Lib.hid hn2
      have HR := Lib.hid hR
      clear htk hpre q1 q2 q3 hx hy hyv hev hJ2 hJd ho2 hn2 hR hxm hxM hget hwfx hoW hGW hkl hkl2 hsrt hv2 hv3
      gi_wp2_with fail
      refine wpIn_region_still_tail 10 mixed (by kernel_rfl) ?_
      simp only [List.take_succ_cons, List.take_zero, List.drop_succ_cons, List.drop_zero]
      change wpStill _ _ wr.drew _ _ _
      repeat still_step
      refine wpStill_nil ?_
      change wpListIn _ _ _ _ _ _ _ wr.drew
      gi_wp2
      refine HR.out.mono ?_
      rintro e W' ⟨Φ', hn', ho', (⟨rfl, hJ'⟩ | ⟨rfl, hJ'⟩)⟩
      · have ho3 : Only Ψ Φ0 wc W' := HO2.out.trans (Only.undrew ho') HN2.out
        have hn3 : ∀ j, Φ' j → Φ0 j ∨ wc.heap.size ≤ j := fun j hj => (hn' j hj).elim (HN2.out j) (fun h => .inr (by have := HO2.out.grow.size; have : wr.heap.size ≤ j := h; omega))
        gi_wp2
        exact ⟨⟨k + 1, Φ', hlt, by go_num, by rw [← HT.out]; exact hJ', ho3, hn3⟩, by simp [Go.RowKit.intOf]; omega⟩
      · have ho3 : Only Ψ Φ0 wc W' := HO2.out.trans (Only.undrew ho') HN2.out
        have hn3 : ∀ j, Φ' j → Φ0 j ∨ wc.heap.size ≤ j := fun j hj => (hn' j hj).elim (HN2.out j) (fun h => .inr (by have := HO2.out.grow.size; have : wr.heap.size ≤ j := h; omega))
        gi_wp2
        refine bodyPost_ret (results_none rfl _ _ _) rfl ?_
        exact ⟨⟨_, rfl⟩, Φ', fun j hj => (hn3 j hj).imp id (fun h => by omega), HO1.out.trans ho3 (fun j h => .inl h), .inr ⟨_, HPR.out, hJ'⟩⟩
    · have hkn : k = ks.length := by omega
      subst hkn
      rw [hkl2, List.take_length] at hJ2
      clear hkl hkl2 hsrt
      gi_wp2
      refine bodyPost_end (results_none rfl _ _ _) rfl ?_
      exact ⟨⟨_, rfl⟩, Φ, fun j hj => (hn2 j hj).imp id (fun h => by omega), HO1.out.trans ho2 (fun j h => .inl h), .inl hJ2⟩

set_option maxHeartbeats 4000000 in
theorem row_iter_nil_I (n : Nat) (bx ba : Nat) (w : World) (hbx : w.cell? ⟨bx, 0, none⟩ = some (.pointer none)) (G : FP) (hGb : G bx) :
    Iter Tryz.prog n 147 #[.pointer (some ⟨bx, 0, none⟩), .pointer (some ⟨ba, 0, none⟩)] (fun x : Int × Int => #[.int .i64 x.1, codI.enc x.2]) [] G w := by
  intro lp B Ψ J Jx Φ0 W hgw hG hΨ hΦ0 hJ hJx hround h0
  have hc1 : W.cell? ⟨bx, 0, none⟩ = some (.pointer none) := (World.cell?_of_block (hG bx hGb).2).trans hbx
  refine callsIn_of_wp Tryz.func147 rfl trivial ?_ rfl
  simp only [Tryz.ntmps147, List.size_toArray, List.length_cons, List.length_nil, Nat.reduceAdd, Nat.reduceSub, Array.replicate_succ, Array.replicate_zero, List.push_toArray, List.append_toArray, List.nil_append, List.cons_append]
  have HH0 := Lib.hid h0
  clear hround hJ hJx hG hΨ hbx hGb h0
  gi_wp2
  refine bodyPost_ret (results_none rfl _ _ _) rfl ?_
  exact ⟨⟨_, rfl⟩, Φ0, fun j h => .inl h, Only.refl _ _ _, .inl HH0.out⟩
theorem enters_row1_I : ∀ args w, (callFunc 147 args).run Tryz.prog w = .ok (.enter 147 args) w := enters_of Tryz.func147 (by kernel_rfl) rfl
theorem grid_row_I (p : Option Addr) (s : Int) (w : World) : Calls Tryz.prog 138 #[.pointer p, .int .i64 s] w fun e w' => e = .returned (.func (.func 147) #[] #[.pointer (some ⟨w.heap.size, 0, none⟩), .pointer (some ⟨w.heap.size + 1, 0, none⟩)]) ∧ w' = (w.alloc (.cells #[.pointer p] 77)).alloc (.cells #[.int .i64 s] 3) := by
  go_enter Tryz.func138, Tryz.ntmps138
  go_wp2
  go_ret
  exact ⟨rfl, rfl⟩

end Go.Proofs.YtcfcfijmfgnpfaaGreatDoor
end

section
namespace Go.Proofs.YtcfcfijmfgnpfaaGreatDoor
open Go.RowKit Go.Maps Go.Sort
attribute [local go_sem] Oper.semAt_some
set_option linter.unusedVariables false
set_option linter.unusedSimpArgs false

def encs_H (x : Dg × Int) : Array Value := #[dv x.1, .int .i64 x.2]
/-- All notes, and whose they are. -/
def whoL (m : List (Dg × Nt)) : List (Dg × Int) := m.map fun x => (x.1, x.2.who)
theorem field_who (x : Nt) (w : World) : (Instr.field 101 (codNt.enc x) 0).run Tryz.prog w = .ok (.int .i64 x.who) w := by
  obtain ⟨a, b, n, c⟩ := x
  kernel_rfl
def fldW (v : Value) : Sem Value := Instr.field 101 v 0
theorem fldW_hide (v : Value) : Instr.field 101 v 0 = fldW v := rfl
set_option maxHeartbeats 4000000 in
set_option maxRecDepth 100000 in
attribute [local go_sem ↓] ldH_hide fldW_hide in
theorem pall_iter (n : Nat) (bx pb : Nat) (o o2 : Option Nat) (m : List (Dg × Nt)) (w : World) (hbx : w.cell? ⟨bx, 0, none⟩ = some (.pointer (some ⟨pb, 0, none⟩))) (hp : w.heap[pb]? = some (.cells #[.map o, .map o2] 94 (0, 0))) (hm : MapO codNt o m w) (hlen : m.length ≤ 100000)
    (G : FP) (hGb : G bx) (hGp : G pb) (hGm : ∀ b, o = some b → G b) :
    Iter Tryz.prog n 73 #[.pointer (some ⟨bx, 0, none⟩)] encs_H (whoL m) G w := by
  intro lp B Ψ J Jx Φ0 W hgw hG hΨ hΦ0 hJ hJx hround h0
  have hc1 : W.cell? ⟨bx, 0, none⟩ = some (.pointer (some ⟨pb, 0, none⟩)) := (World.cell?_of_block (hG bx hGb).2).trans hbx
  have hpW : W.heap[pb]? = some (.cells #[.map o, .map o2] 94 (0, 0)) := (hG pb hGp).2.trans hp
  have hc2 : W.cell? ⟨pb, 0, none⟩ = some (.map o) := by rw [World.cell?, hpW]; rfl
  have hmW : MapO codNt o m W := hm.keep (fun b e => (hG b (hGm b e)).2)
  obtain ⟨hs1, hs2, hs3⟩ := hJ _ _ _ h0
  have mixed : Tryz.prog.follows .mixedOrders = true := by kernel_rfl
  refine callsIn_of_wp Tryz.func73 rfl trivial ?_ rfl
  simp only [Tryz.ntmps73, List.size_toArray, List.length_cons, List.length_nil, Nat.reduceAdd, Nat.reduceSub, Array.replicate_succ, Array.replicate_zero, List.push_toArray, List.append_toArray, List.nil_append, List.cons_append]
  have hsrt := hmW.srt
  obtain ⟨xs, hxs⟩ : ∃ xs, xs = whoL m := ⟨_, rfl⟩
  obtain ⟨ks, hks⟩ : ∃ ks, ks = m.map (·.1) := ⟨_, rfl⟩
  obtain ⟨W1, hW1⟩ : ∃ W1, W1 = W.alloc (.cells #[.map o] 91) := ⟨_, rfl⟩
  have hb1 : Below W.heap.size W W1 := by rw [hW1]; exact (Below.refl _ W).alloc (Nat.le_refl _) _
  have hx1 : Boxed W1 W.heap.size 91 (.map o) := by rw [hW1]; exact Boxed.new W _ _
  have hsort := slices_SortedFunc_H W.heap.size o m W1 hx1 (hmW.below hb1) hlen
  rw [← hks] at hsort
  rw [← hxs] at hround ⊢
  have hkl : ks.length = xs.length := by rw [hks, hxs]; simp [whoL]
  have hml : xs.length = m.length := by rw [hxs]; simp [whoL]
  have hbig : (ks.length : Int) ≤ 100000 := by rw [hkl, hml]; omega
  have HXS := Lib.hid (And.intro hxs (And.intro hks (And.intro hkl (And.intro hml hsrt))))
  have HS := Lib.hid hsort
  have HW := Lib.hid (And.intro hmW hpW)
  have HRD := Lib.hid hround
  have HJ := Lib.hid hJ
  have HP := Lib.hid hΨ
  have HP0 := Lib.hid hΦ0
  have HG := Lib.hid hG
  have HGF := Lib.hid (And.intro hGb (And.intro hGp hGm))
  have HH0 := Lib.hid h0
  have HS3 := Lib.hid hs3
  have HS1 := Lib.hid hs1
  have HW1 := Lib.hid (And.intro hW1 hb1)
  clear hxs hks hkl hml hsrt hsort hmW hpW hround hJ hJx hG hΨ hΦ0 hbx hp hm hlen hGb hGp hGm h0 hs1 hs3 hW1 hb1 hx1
  gi_wp2_with (first
    | (refine ⟨trivial, ?_⟩; gi_at_call 75; refine (callsIn_wide.2 (maps_Keys_H o W)).mono ?_; rintro e w' ⟨rfl, hw⟩; rw [← HW1.out.1] at hw; rw [hw]; clear hw w')
    | (refine ⟨trivial, ?_⟩; gi_at_call 74; refine (callsIn_wide.2 HS.out).mono ?_; rintro e wc ⟨v, rfl, hr, hv, hb⟩; obtain ⟨co, ccap, rfl⟩ := hr.lenOf; have H2 := Lib.hid (And.intro hr (And.intro hv hb)); clear hr hv hb)
    | fail)
  have hbc' : Below W.heap.size W wc := HW1.out.2.trans (H2.out.2.2.mono HW1.out.2.size)
  have hcs : W.heap.size ≤ wc.heap.size := hbc'.size
  have HO1 := Lib.hid (Only.of_later (Ψ := Ψ) (Φ := Φ0) hbc')
  have hJc : J [] Φ0 wc := HS3.out wc (Grow.of_below hbc') (fun k hk => hbc'.block k (hk.elim (fun h => by omega) (fun h => (HS1.out k h).2)))
  have HJC := Lib.hid hJc
  have hkeep : ∀ wr, Only Ψ Φ0 wc wr → RdR hshR wr (.slice co ks.length ccap) ks ∧ MapO codNt o m wr ∧ wr.cell? ⟨bx, 0, none⟩ = some (.pointer (some ⟨pb, 0, none⟩)) ∧ wr.cell? ⟨pb, 0, none⟩ = some (.map o) := fun wr ho => by
    have hgk : ∀ k, G k → wr.heap[k]? = W.heap[k]? := fun k hk => by
      have hkW : k < W.heap.size := by have := (HG.out k hk).1; have := hgw.size; omega
      rw [ho.block k (by omega) (fun h => (HP.out k h).2 hk) (fun h => HP0.out k h hk)]
      exact hbc'.block k hkW
    refine ⟨H2.out.1.keep ho.grow.size (fun k hk => ?_), HW.out.1.keep (fun b e => hgk b (HGF.out.2.2 b e)), (World.cell?_of_block (hgk bx HGF.out.1)).trans hc1, (World.cell?_of_block (hgk pb HGF.out.2.1)).trans hc2⟩
    have h1 := H2.out.2.1 k hk
    have h1 : W.heap.size ≤ k := Nat.le_trans HW1.out.2.size h1
    have h2 : k < wc.heap.size := by
      rcases H2.out.1 with ⟨e, -⟩ | ⟨b, off, cap, e, -, hlt, -⟩
      · rw [e] at hk; cases hk
      · rw [e] at hk; cases hk; exact hlt
    exact ho.block k h2 (fun h => by have := (HP.out k h).1; omega) (fun h => by have := (HS1.out k h).2; omega)
  have HK := Lib.hid hkeep
  clear hkeep hJc hbc' hc1 hc2
  gi_loopw [14] (fun r wr => ∃ (k : Nat) (Φ : FP), k ≤ ks.length ∧ r = .int .i64 k ∧ J (xs.take k) Φ wr ∧ Only Ψ Φ0 wc wr ∧ (∀ j, Φ j → Φ0 j ∨ wc.heap.size ≤ j)) (fun r wr => ks.length - (Go.RowKit.intOf r).toNat)
  case atStart => exact ⟨0, Φ0, Nat.zero_le _, rfl, HJC.out, Only.refl _ _ _, fun j h => .inl h⟩
  case round =>
    obtain ⟨k, Φ, hk, rfl, hJ2, ho2, hn2⟩ := hrel
    by_cases hlt : k < ks.length
    · have hlt' : (k : Int) < ks.length := by omega
      obtain ⟨hrW, hmW, cb, ca⟩ := HK.out wr ho2
      obtain ⟨b, off, rfl, hrng, hrb⟩ := hrW.at hlt
      obtain ⟨hxs, hks, hkl, hml, hsrt⟩ := HXS.out
      have hltx : k < xs.length := by omega
      have hltm : k < m.length := by omega
      obtain ⟨y, hy⟩ : ∃ y, y = m[k] := ⟨_, rfl⟩
      obtain ⟨x, hx⟩ : ∃ x : Dg × Int, x = (y.1, y.2.who) := ⟨_, rfl⟩
      have hxk : xs[k] = x := by simp only [hxs, whoL, List.getElem_map, ← hy, hx]
      have hkk : ks[k] = y.1 := by simp only [hks, List.getElem_map, ← hy]
      rw [hkk] at hrng
      have hget : dget m y.1 = some y.2 := hsrt.get.2 (by rw [hy]; exact List.getElem_mem _)
      have htk : xs.take k ++ [x] = xs.take (k + 1) := by rw [← hxk]; exact pre_snoc hltx
      have hpre : (xs.take k ++ [x]) <+: xs := by rw [htk]; exact List.take_prefix _ _
      obtain ⟨q1, q2, q3⟩ := HJ.out _ _ _ hJ2
      obtain ⟨Wr, hWr⟩ : ∃ Wr, Wr = wr.alloc (.cells (Bs y.1.s).toArray 41) := ⟨_, rfl⟩
      have hbr : Below wr.heap.size wr Wr := by rw [hWr]; exact (Below.refl _ wr).alloc (Nat.le_refl _) _
      have hcx : Wr.heap[wr.heap.size]? = some (.cells (Bs y.1.s).toArray 41 (0, 0)) := by rw [hWr]; exact World.alloc_heap_new _ _
      have lN : (ldH (.pointer (some ⟨wr.heap.size, 0, none⟩))).run Tryz.prog Wr.drew = .ok (dv y.1) Wr.drew := run_ldH (rangeAt_whole (T := hshR.T) (w := Wr.drew) hcx)
      have cb2 : Wr.cell? ⟨bx, 0, none⟩ = some (.pointer (some ⟨pb, 0, none⟩)) := by
        have hbl : bx < wr.heap.size := by have := (HG.out bx HGF.out.1).1; have := hgw.size; have := ho2.grow.size; omega
        exact (World.cell?_of_block (a := ⟨bx, 0, none⟩) (hbr.block bx hbl)).trans cb
      have ca2 : Wr.cell? ⟨pb, 0, none⟩ = some (.map o) := by
        have hbl : pb < wr.heap.size := by have := (HG.out pb HGF.out.2.1).1; have := hgw.size; have := ho2.grow.size; omega
        exact (World.cell?_of_block (a := ⟨pb, 0, none⟩) (hbr.block pb hbl)).trans ca
      have lk := (MapO.below (w' := Wr) hmW hbr).look (w := Wr) Tryz.underlying91 zNt y.1
      have lk : (Instr.lookup 91 (.map o) (dv y.1) false).run Tryz.prog Wr.drew = .ok (codNt.enc y.2) Wr.drew := by
        have h := (MapO.keep (w := Wr) (w' := Wr.drew) (MapO.below (w' := Wr) hmW hbr) (fun b _ => rfl)).look Tryz.underlying91 zNt y.1
        rwa [hget, Option.getD_some] at h
      have fw := field_who y.2 Wr.drew
      have fw : (fldW (codNt.enc y.2)).run Tryz.prog Wr.drew = .ok (.int .i64 y.2.who) Wr.drew := fw
      have hJd : J (xs.take k) Φ Wr.drew := q3 Wr.drew (Grow.of_below (hbr.trans ((Below.refl _ _).drew.mono hbr.size))) (fun j hj => hbr.block j (hj.elim (fun h => by omega) (fun h => (q1 j h).2)))
      obtain ⟨fn, tm, asg, bd, hyy, hR⟩ := HRD.out (xs.take k) x Φ Wr.drew hpre hJd
      rw [hx] at hyy
      simp only [encs_H] at hyy
      have hoW : Only Ψ Φ0 wc Wr := ⟨ho2.grow.trans (Grow.of_below hbr), fun j hj p1 p2 => (hbr.block j (by have := ho2.grow.size; omega)).trans (ho2.block j hj p1 p2)⟩
      have HRN := Lib.hid hrng
      have HT := Lib.hid htk
      have HPR := Lib.hid hpre
      have HO2 := Lib.hid hoW
      have HSZ := Lib.hid (And.intro hbr.size ho2.grow.size)
      have HN2 := Lib.hid hn2
      have HR := Lib.hid hR
      have HWR := Lib.hid hWr
      obtain ⟨who, hwho⟩ : ∃ who, who = y.2.who := ⟨_, rfl⟩
      obtain ⟨en, hen⟩ : ∃ en, en = codNt.enc y.2 := ⟨_, rfl⟩
      rw [← hwho] at hyy fw
      rw [← hen] at fw lk
      clear htk hpre q1 q2 q3 hx hy hJ2 hJd ho2 hn2 hR hrng hbr hcx hWr hwho hen hget hxk hkk hks hkl hml hxs hsrt hltx hltm hrW hmW cb ca hoW
      gi_wp2_with (first
        | (refine wplIn_loadR (r := hshR) (t := y.1) _ rfl rfl rfl HRN.out ?_)
        | (refine wplIn_allocR (r := hshR) rfl rfl rfl ?_; intro C hC)
        | (refine wplIn_storeR (r := hshR) (t := y.1) (C := C) _ _ rfl rfl rfl rfl rfl (World.alloc_heap_new wr _) hC ?_; rw [World.setRow_alloc_new]; rw [show wr.alloc (.cells (hshR.f y.1).toArray hshR.T) = Wr from HWR.out.symm])
        | fail)
      simp only [Act.put, List.setIfInBounds_toArray, List.set_cons_succ, List.set_cons_zero]
      refine wpIn_region_still_tail 9 mixed (by kernel_rfl) ?_
      simp only [List.take_succ_cons, List.take_zero, List.drop_succ_cons, List.drop_zero]
      change wpStill _ _ Wr.drew _ _ _
      repeat still_step
      refine wpStill_nil ?_
      change wpListIn _ _ _ _ _ _ _ Wr.drew
      gi_wp2
      refine HR.out.mono ?_
      rintro e W' ⟨Φ', hn', ho', (⟨rfl, hJ'⟩ | ⟨rfl, hJ'⟩)⟩
      all_goals
        have ho3 : Only Ψ Φ0 wc W' := HO2.out.trans (Only.undrew ho') HN2.out
        have hn3 : ∀ j, Φ' j → Φ0 j ∨ wc.heap.size ≤ j := fun j hj => (hn' j hj).elim (HN2.out j) (fun h => .inr (by have := HSZ.out.1; have := HSZ.out.2; have : Wr.heap.size ≤ j := h; omega))
      · gi_wp2
        exact ⟨⟨k + 1, Φ', hlt, by go_num, by rw [← HT.out]; exact hJ', ho3, hn3⟩, by simp [Go.RowKit.intOf]; omega⟩
      · gi_wp2
        refine bodyPost_ret (results_none rfl _ _ _) rfl ?_
        exact ⟨⟨_, rfl⟩, Φ', fun j hj => (hn3 j hj).imp id (fun h => by omega), HO1.out.trans ho3 (fun j h => .inl h), .inr ⟨_, HPR.out, hJ'⟩⟩
    · have hkn : k = ks.length := by omega
      subst hkn
      rw [HXS.out.2.2.1, List.take_length] at hJ2
      gi_wp2
      refine bodyPost_end (results_none rfl _ _ _) rfl ?_
      exact ⟨⟨_, rfl⟩, Φ, fun j hj => (hn2 j hj).imp id (fun h => by omega), HO1.out.trans ho2 (fun j h => .inl h), .inl hJ2⟩
end Go.Proofs.YtcfcfijmfgnpfaaGreatDoor
end

section
namespace Go.Proofs.YtcfcfijmfgnpfaaGreatDoor
open Go.RowKit Go.Maps Go.Shelf
attribute [local go_sem] Oper.semAt_some
set_option linter.unusedVariables false
set_option linter.unusedSimpArgs false

theorem foldl_two (a : Array Value) (p q : Nat) (v u : Value) : ((#[p, q] : Array Tmp).zip #[v, u]).foldl (fun t (x : Nat × Value) => t.setIfInBounds x.1 x.2) a = (a.setIfInBounds p v).setIfInBounds q u := by simp
set_option maxHeartbeats 4000000 in
set_option maxRecDepth 100000 in
attribute [local go_sem ↓] ldH_hide buildPrH_hide bsPrH_hide in
theorem still_Now_H {m : Nat} (gf : Nat) (lbx : Array Value) (xs : List (Dg × Int)) (w : World) (eg : ∀ args w, (callFunc gf args).run Tryz.prog w = .ok (.enter gf args) w) (hit : Iter Tryz.prog m gf lbx encs_H xs (fun k => k < w.heap.size) w) (hlen : xs.length ≤ 1000000) :
    Calls Tryz.prog 55 #[.func (.func gf) #[] lbx] w fun e w' => ∃ v, e = .returned (.func (.func 72) #[] #[.pointer (some ⟨w.heap.size, 0, none⟩)]) ∧ Boxed w' w.heap.size 127 v ∧ OwnR pair_H (w.heap.size + 1) v xs w' ∧ Below w.heap.size w w' := by
  refine (callsIn_wide (n := m + 2)).1 ?_
  refine callsIn_of_wp_marks Tryz.func55 rfl trivial ?_ rfl
  simp only [Tryz.ntmps55, List.size_toArray, List.length_cons, List.length_nil, Nat.reduceAdd, Nat.reduceSub, Array.replicate_succ, Array.replicate_zero, List.push_toArray, List.append_toArray, List.nil_append, List.cons_append]
  gi_wp2_with fail
  obtain ⟨w1, hw1⟩ : ∃ w1, w1 = w.alloc (.cells #[.slice none 0 0] 127) := ⟨_, rfl⟩
  rw [← hw1]
  obtain ⟨lb, hlb⟩ : ∃ lb, lb = w.heap.size := ⟨_, rfl⟩
  have hB : Below w.heap.size w w1 := by rw [hw1]; exact (Below.refl _ w).alloc (Nat.le_refl _) _
  have hsz : w1.heap.size = lb + 1 := by rw [hw1, hlb]; simp
  have x0 : Boxed w1 lb 127 (.slice none 0 0) := by rw [hw1, hlb]; exact Boxed.new w _ _
  have HB1 := Lib.hid hB
  have HIT := Lib.hid hit
  have HSZ := Lib.hid hsz
  have l1 : lb < w1.heap.size := by omega
  have l2 : w.heap.size ≤ lb := by omega
  have HEG := Lib.hid eg
  rw [← hlb]
  have HLB := Lib.hid hlb
  have HLN := Lib.hid hlen
  clear hw1 hit hB hsz hlb eg hlen
  refine range_outerAI (n := m) (gf := gf) (lb := lbx) rfl HEG.out HIT.out (Grow.of_below HB1.out) (fun k hk => ⟨hk, HB1.out.block k hk⟩) (fun _ => rfl)
    (fun k => k = lb) (by rintro k rfl; exact ⟨l1, fun h => by omega⟩) (ColI pair_H w1.heap.size lb) (fun _ _ _ _ => False) (ColI.stab l1) (fun c _ _ _ h => h.elim)
    ⟨_, x0, OwnR.nil _ _, fun k => ⟨fun h => h.elim, fun h => by cases h⟩, Nat.le_refl _⟩
    (fun x N => { tmps := #[.func (.func gf) #[] lbx, undef, .nilFunc, .pointer (some ⟨lb, 0, none⟩), .pointer (some ⟨N, 0, none⟩), .int .i64 x.2, .func (.func gf) #[] lbx, dv x.1, .int .i64 x.2, undef, undef, undef, undef, undef, undef, undef], defers := [] })
    (fun x N W => W.heap[N]? = some (.cells (Bs x.1.s).toArray 41 (0, 0))) (fun x N W W' h e => e.trans h) ?assign ?body ?done ?stop
  case assign =>
    intro l x W K hK
    simp only [encs_H]
    rw [foldl_two]
    simp only [List.setIfInBounds_toArray, List.set_cons_succ, List.set_cons_zero]
    gi_wp2_with (first
      | (refine wplIn_allocR (r := hshR) rfl rfl rfl ?_; intro C hC')
      | (refine wplIn_storeR (r := hshR) (t := x.1) (C := C) (b := W.heap.size) _ _ rfl rfl rfl rfl rfl (World.alloc_heap_new W _) hC' ?_; rw [World.setRow_alloc_new])
      | fail)
    exact hK _ ((Below.refl _ W).alloc (Nat.le_refl _) _) (by simp) (World.alloc_heap_new _ _)
  case body =>
    rintro l pre x Φ N W hpx ⟨v1, hI⟩ hl1 hΦ - hlN hNW hAt
    have hpl := hpx.length_le
    rw [List.length_append, List.length_singleton] at hpl
    have hpl2 : pre.length ≤ 1000000 := by have := HLN.out; omega
    obtain ⟨ao1, cap1, rfl⟩ := hI.own.lenOf
    obtain ⟨pl, hm⟩ : ∃ pl, pl = pre.length := ⟨_, rfl⟩
    rw [← hm] at hI
    have c0 := hI.bx.cell
    have hlW : lb < W.heap.size := by have := hI.sz; omega
    have HI := Lib.hid hI
    have HPH := Lib.hid hΦ
    have HM := Lib.hid hm
    have HPL := Lib.hid hpl2
    have hsW : w1.heap.size ≤ W.heap.size := hI.sz
    have lN : (ldH (.pointer (some ⟨N, 0, none⟩))).run Tryz.prog W = .ok (dv x.1) W := run_ldH (rangeAt_whole (T := hshR.T) hAt)
    have bP := run_buildPrH x.1 x.2 W
    have bS := run_bsPrH x W
    clear hI hΦ hm hpl hpl2
    gi_wp2_with (first

      | (refine wplIn_appR (r := pair_H) (y := x) rfl rfl rfl rfl ((OwnR.of HI.out.own (Nat.le_refl _) (fun k hk => Below.heap_alloc _ _ _ (HI.out.own.block hk).2))) (rangeAt_whole (T := 129) (by exact World.alloc_heap_new _ _)) HPL.out (by have h := hsW; rw [World.size_alloc]; omega) ?_; intro v' w3 hO hg3 hat3 hne; have cB : w3.cell? ⟨lb, 0, none⟩ = some (.slice ao1 pl cap1) := (World.cell?_of_block (a := ⟨lb, 0, none⟩) ((hg3.block lb (by rw [World.size_alloc]; omega) (fun e => by have := (HI.out.own.block e.symm).1; omega)).trans (Below.heap_alloc _ _ _ hlW))).trans c0; have fB : w3.frozen? ⟨lb, 0, none⟩ = false := ((HI.out.bx.alloc _).kept hg3 (fun e => by have := (HI.out.own.block e.symm).1; omega)).frozen; obtain ⟨ao2, cap2, rfl⟩ := hO.lenOf; obtain ⟨m2, hm2⟩ : ∃ m2, m2 = (pre ++ [x]).length := ⟨_, rfl⟩; rw [← hm2] at hO hat3; rw [← hm2]; have HO := Lib.hid hO; have HG3 := Lib.hid hg3; have HAT := Lib.hid hat3; clear hO hg3 hat3 hm2 hne)
      | fail)
    exact ColC.step HI.out l1 rfl ((Below.refl _ W).alloc (Nat.le_refl _) _) HO.out HG3.out HAT.out
  case done =>
    rintro D Φ W3 ⟨v3, hC⟩ hon hD hnD hK
    have hiff := hC.iff
    have HC := Lib.hid hC
    have HON := Lib.hid hon
    have HKK := Lib.hid hK
    clear hC hon hK
    gi_wp2
    refine ⟨by simp, .inl ⟨_, _, rfl, run_takeDeferred HKK.out, ?_⟩⟩
    have hC := HC.out
    have hO2 := HON.out
    have hw2 := HB1.out
    have hsz := HSZ.out
    have hlb := HLB.out
    subst hlb
    refine ⟨_, by simp [results, Tryz.results55, go_sem] <;> rfl, v3, rfl, (put_other (by omega)).trans hC.bx, hC.own.of (by omega) (fun k hk => put_other (fun e => hnD ((hiff D).2 (by rw [← e]; exact hk)))), ?_⟩
    refine ⟨hO2.grow.os.trans hw2.os, hO2.grow.tape.trans hw2.tape, hO2.grow.output.trans hw2.output, by have h1 := hO2.grow.size; have h2 := hw2.size; simp [World.putObj]; omega, fun k hk => ?_⟩
    rw [put_other (by omega), hO2.block k (by omega) (by omega) (fun h => h)]
    exact hw2.block k (by omega)
  case stop =>
    rintro D Φ c pre W3 hpre h
    exact h.elim

set_option maxHeartbeats 4000000 in
set_option maxRecDepth 100000 in
attribute [local go_sem ↓] ldH_hide in
theorem now1_iter_H (n : Nat) (bx : Nat) (v : Value) (xs : List (Dg × Int)) (w : World) (hbx : Boxed w bx 127 v) (hr : RdR pair_H w v xs) (hl : xs.length ≤ 1000000) (G : FP) (hGb : G bx) (hGv : ∀ k, v.ownBlock = some k → G k) :
    Iter Tryz.prog n 72 #[.pointer (some ⟨bx, 0, none⟩)] encs_H xs G w := by
  intro lp B Ψ J Jx Φ0 W hgw hG hΨ hΦ0 hJ hJx hround h0
  have hc1 : W.cell? ⟨bx, 0, none⟩ = some v := (World.cell?_of_block (hG bx hGb).2).trans hbx.cell
  have hrW : RdR pair_H W v xs := hr.keep hgw.size (fun k hk => (hG k (hGv k hk)).2)
  obtain ⟨hs1, hs2, hs3⟩ := hJ _ _ _ h0
  obtain ⟨ao, cap, rfl⟩ := hr.lenOf
  have hkeep : ∀ wr, Only Ψ Φ0 W wr → RdR pair_H wr (.slice ao xs.length cap) xs := fun wr ho => hrW.keep ho.grow.size (fun k hk => ho.block k (by have := (hG k (hGv k hk)).1; have := hgw.size; omega) (fun h => (hΨ k h).2 (hGv k hk)) (fun h => hΦ0 k h (hGv k hk)))
  refine callsIn_of_wp Tryz.func72 rfl trivial ?_ rfl
  simp only [Tryz.ntmps72, List.size_toArray, List.length_cons, List.length_nil, Nat.reduceAdd, Nat.reduceSub, Array.replicate_succ, Array.replicate_zero, List.push_toArray, List.append_toArray, List.nil_append, List.cons_append]
  have HK := Lib.hid hkeep
  have HL := Lib.hid hl
  have HRD := Lib.hid hround
  have HJ := Lib.hid hJ
  have HH0 := Lib.hid h0
  have hbig : (xs.length : Int) ≤ 1000000 := by omega
  clear hr hrW hround hJ hJx hG hΨ hΦ0 hbx hGb hGv h0 hs3 hl hkeep
  gi_wp2_with fail
  gi_loopw [7] (fun r wr => ∃ (k : Nat) (Φ : FP), k ≤ xs.length ∧ r = .int .i64 k ∧ J (xs.take k) Φ wr ∧ Only Ψ Φ0 W wr ∧ (∀ j, Φ j → Φ0 j ∨ W.heap.size ≤ j)) (fun r wr => xs.length - (Go.RowKit.intOf r).toNat)
  case atStart => exact ⟨0, Φ0, Nat.zero_le _, rfl, HH0.out, Only.refl _ _ _, fun j h => .inl h⟩
  case round =>
    obtain ⟨k, Φ, hk, rfl, hJ2, ho2, hn2⟩ := hrel
    by_cases hlt : k < xs.length
    · have hlt' : (k : Int) < xs.length := by omega
      obtain ⟨x, hx⟩ : ∃ x, x = xs[k] := ⟨_, rfl⟩
      obtain ⟨b, off, rfl, hrng, hrb⟩ := (HK.out wr ho2).at hlt
      rw [← hx] at hrng
      have htk : xs.take k ++ [x] = xs.take (k + 1) := by rw [hx]; exact pre_snoc hlt
      have hpre : (xs.take k ++ [x]) <+: xs := by rw [htk]; exact List.take_prefix _ _
      obtain ⟨q1, q2, q3⟩ := HJ.out _ _ _ hJ2
      obtain ⟨W1, hW1⟩ : ∃ W1, W1 = wr.alloc (.cells (prOf_H x).toArray 129) := ⟨_, rfl⟩
      have hb1 : Below wr.heap.size wr W1 := by rw [hW1]; exact (Below.refl _ wr).alloc (Nat.le_refl _) _
      have hJ1 : J (xs.take k) Φ W1 := q3 W1 (Grow.of_below hb1) (fun j hj => hb1.block j (hj.elim (fun h => by omega) (fun h => (q1 j h).2)))
      have hcx : W1.heap[wr.heap.size]? = some (.cells (prOf_H x).toArray 129 (0, 0)) := by rw [hW1]; exact World.alloc_heap_new _ _
      obtain ⟨fn, tm, asg, bd, hyy, hR⟩ := HRD.out (xs.take k) x Φ W1 hpre hJ1
      simp only [encs_H] at hyy
      have d0 : W1.cell? ⟨wr.heap.size, 32, none⟩ = some (.int .i64 x.2) := by
        have := (rangeAt_whole (T := pair_H.T) (cs := prOf_H x) hcx) 32 (.int .i64 x.2) (by rw [prOf_H, List.getElem?_append_right (by rw [x.1.blen]; omega), x.1.blen]; rfl)
        rwa [Nat.zero_add] at this
      have d1 : (ldH (.pointer (some ⟨wr.heap.size, 0, none⟩))).run Tryz.prog W1 = .ok (dv x.1) W1 := run_ldH (fun j u hj => by
        have h := (rangeAt_whole (T := pair_H.T) (cs := prOf_H x) hcx) j u (by rw [prOf_H, List.getElem?_append_left (by rw [x.1.blen]; have := (List.getElem?_eq_some_iff.1 hj).1; rwa [x.1.blen] at this)]; exact hj)
        exact h)
      have HRN := Lib.hid hrng
      have HT := Lib.hid htk
      have HPR := Lib.hid hpre
      have HO2 := Lib.hid ho2
      have HN2 := Lib.hid hn2
      have HR := Lib.hid hR
      have HW1 := Lib.hid hW1
      have HB1 := Lib.hid hb1
      clear htk hpre q1 q2 q3 hx hJ2 hJ1 ho2 hn2 hR hrng hW1 hb1 hcx
      gi_wp2_with (first
        | (refine wplIn_loadR (r := pair_H) (t := x) _ rfl rfl rfl HRN.out ?_)
        | (refine wplIn_allocR (r := pair_H) rfl rfl rfl ?_; intro C hC)
        | (refine wplIn_storeR (r := pair_H) (t := x) (C := C) _ _ rfl rfl rfl rfl rfl (World.alloc_heap_new wr _) hC ?_; rw [World.setRow_alloc_new]; rw [show wr.alloc (.cells (pair_H.f x).toArray pair_H.T) = W1 from HW1.out.symm])

        | fail)
      refine HR.out.mono ?_
      rintro e W' ⟨Φ', hn', ho', (⟨rfl, hJ'⟩ | ⟨rfl, hJ'⟩)⟩
      · have ho3 : Only Ψ Φ0 W W' := (HO2.out.trans (Φ' := Φ0) (Only.of_later HB1.out) (fun j h => .inl h)).trans ho' HN2.out
        have hn3 : ∀ j, Φ' j → Φ0 j ∨ W.heap.size ≤ j := fun j hj => (hn' j hj).elim (HN2.out j) (fun h => .inr (by have := HO2.out.grow.size; have := HB1.out.size; omega))
        gi_wp2
        exact ⟨⟨k + 1, Φ', hlt, by go_num, by rw [← HT.out]; exact hJ', ho3, hn3⟩, by simp [RowKit.intOf]; omega⟩
      · have ho3 : Only Ψ Φ0 W W' := (HO2.out.trans (Φ' := Φ0) (Only.of_later HB1.out) (fun j h => .inl h)).trans ho' HN2.out
        have hn3 : ∀ j, Φ' j → Φ0 j ∨ W.heap.size ≤ j := fun j hj => (hn' j hj).elim (HN2.out j) (fun h => .inr (by have := HO2.out.grow.size; have := HB1.out.size; omega))
        gi_wp2
        refine bodyPost_ret (results_none rfl _ _ _) rfl ?_
        exact ⟨⟨_, rfl⟩, Φ', hn3, ho3, .inr ⟨_, HPR.out, hJ'⟩⟩
    · have hkn : k = xs.length := by omega
      subst hkn
      rw [List.take_length] at hJ2
      gi_wp2
      refine bodyPost_end (results_none rfl _ _ _) rfl ?_
      exact ⟨⟨_, rfl⟩, Φ, hn2, ho2, .inl hJ2⟩
theorem enters_now_H : ∀ args w, (callFunc 72 args).run Tryz.prog w = .ok (.enter 72 args) w := enters_of Tryz.func72 (by kernel_rfl) rfl
theorem pre_all (p : Option Addr) (w : World) : Calls Tryz.prog 56 #[.pointer p] w fun e w' => e = .returned (.func (.func 73) #[] #[.pointer (some ⟨w.heap.size, 0, none⟩)]) ∧ w' = w.alloc (.cells #[.pointer p] 32) := by
  go_enter Tryz.func56, Tryz.ntmps56
  go_wp2
  go_ret
  exact ⟨rfl, rfl⟩
set_option maxHeartbeats 1000000 in
/-- The way over all notes. -/
theorem pre_AllW (p : Option Addr) (xs : List (Dg × Int)) (w : World) (hlen : xs.length ≤ 100000) (hit : ∀ W bx, Below w.heap.size w W → w.heap.size ≤ bx → bx < W.heap.size → W.cell? ⟨bx, 0, none⟩ = some (.pointer p) → Iter Tryz.prog 0 73 #[.pointer (some ⟨bx, 0, none⟩)] encs_H xs (fun k => k < W.heap.size) W) :
    Calls Tryz.prog 37 #[.pointer p] w fun e w' => ∃ bx v, e = .returned (.func (.func 72) #[] #[.pointer (some ⟨bx, 0, none⟩)]) ∧ Boxed w' bx 127 v ∧ OwnR pair_H (bx + 1) v xs w' ∧ w.heap.size ≤ bx ∧ Below w.heap.size w w' := by
  obtain ⟨W, hW⟩ : ∃ W, W = w.alloc (.cells #[.pointer p] 32) := ⟨_, rfl⟩
  have hb : Below w.heap.size w W := by rw [hW]; exact (Below.refl _ w).alloc (Nat.le_refl _) _
  have hbx : Boxed W w.heap.size 32 (.pointer p) := by rw [hW]; exact Boxed.new w _ _
  have hn := still_Now_H _ _ xs W (enters_of Tryz.func73 (by kernel_rfl) rfl) (hit W w.heap.size hb (Nat.le_refl _) hbx.lt hbx.cell) (by omega)
  have HN := Lib.hid hn
  have HW := Lib.hid (And.intro hW hb)
  clear hn hit hW hbx hb hlen
  go_enter Tryz.func37, Tryz.ntmps37
  go_wp2_with (first
    | (go_at_call 56; refine (pre_all p w).mono ?_; rintro e w' ⟨rfl, hw⟩; rw [← HW.out.1] at hw; rw [hw]; clear hw w')
    | (go_at_call 55; refine HN.out.mono ?_; rintro e w' ⟨v, rfl, hb, ho, hbl⟩; have H := Lib.hid (And.intro hb (And.intro ho hbl)); clear hb ho hbl)
    | fail)
  go_ret
  exact ⟨_, v, rfl, H.out.1, H.out.2.1, HW.out.2.size, HW.out.2.trans (H.out.2.2.mono HW.out.2.size)⟩
theorem pre_All {pb : Nat} {o o2 : Option Nat} {m : List (Dg × Nt)} {w : World} (hp : w.heap[pb]? = some (.cells #[.map o, .map o2] 94 (0, 0))) (hm : MapO codNt o m w) (hlen : m.length ≤ 100000) :
    Calls Tryz.prog 37 #[.pointer (some ⟨pb, 0, none⟩)] w fun e w' => ∃ bx v, e = .returned (.func (.func 72) #[] #[.pointer (some ⟨bx, 0, none⟩)]) ∧ Boxed w' bx 127 v ∧ OwnR pair_H (bx + 1) v (whoL m) w' ∧ w.heap.size ≤ bx ∧ Below w.heap.size w w' :=
  pre_AllW _ _ w (by simpa [whoL] using hlen) (fun W bx hb h1 h2 hc => pall_iter 0 bx pb o o2 m W hc ((hb.block pb (Array.getElem?_eq_some_iff.1 hp).1).trans hp) (hm.below hb) hlen _ h2 (Nat.lt_of_lt_of_le (Array.getElem?_eq_some_iff.1 hp).1 hb.size) (fun b e => (hm.below hb).lt e))
end Go.Proofs.YtcfcfijmfgnpfaaGreatDoor
end

section
namespace Go.Proofs.YtcfcfijmfgnpfaaGreatDoor
set_option linter.unusedVariables false
set_option linter.unusedSimpArgs false

/-- Accounts: what is free, what is held. -/
abbrev Acc := Nat → Int × Int
def acc0 : Acc := fun _ => (0, 0)
def upd (A : Acc) (a : Nat) (x : Int × Int) : Acc := fun k => if k = a then x else A k
theorem upd_same (A : Acc) (a : Nat) (x : Int × Int) : upd A a x a = x := by simp [upd]
theorem upd_other (A : Acc) {a k : Nat} (x : Int × Int) (h : k ≠ a) : upd A a x k = A k := by simp [upd, h]
def both (A : Acc) (k : Nat) : Int := (A k).1 + (A k).2
/-- What the first n accounts have. -/
def sumTo (A : Acc) : Nat → Int
  | 0 => 0
  | n + 1 => sumTo A n + both A n
theorem sumTo_upd (A : Acc) (a : Nat) (x : Int × Int) : ∀ n, sumTo (upd A a x) n = sumTo A n + (if a < n then (x.1 + x.2) - both A a else 0)
  | 0 => by simp [sumTo]
  | n + 1 => by
    rw [sumTo, sumTo, sumTo_upd A a x n]
    by_cases h : n = a
    · subst h
      have : both (upd A n x) n = x.1 + x.2 := by simp [both, upd_same]
      rw [this, if_neg (by omega), if_pos (by omega)]; omega
    · have : both (upd A a x) n = both A n := by simp [both, upd_other A x h]
      rw [this]
      by_cases h2 : a < n
      · rw [if_pos h2, if_pos (by omega)]; omega
      · rw [if_neg h2, if_neg (by omega)]; omega
/-- No account is below nought; all of them are within what may be. -/
structure AccOk (A : Acc) : Prop where
  free : ∀ k, 0 ≤ (A k).1
  held : ∀ k, 0 ≤ (A k).2
  all : sumTo A 10 ≤ 1073741824
theorem sumTo_mono {A : Acc} (h : ∀ k, 0 ≤ both A k) : ∀ {m n : Nat}, m ≤ n → sumTo A m ≤ sumTo A n := by
  intro m n hmn
  induction hmn with
  | refl => exact Int.le_refl _
  | step _ ih => rw [sumTo]; have := h; exact Int.le_trans ih (by have := h (by assumption); omega)
theorem AccOk.sum {A : Acc} (h : AccOk A) (k : Nat) : 0 ≤ both A k := by have := h.free k; have := h.held k; unfold both; omega
theorem AccOk.part {A : Acc} (h : AccOk A) {n : Nat} (hn : n ≤ 10) : 0 ≤ sumTo A n ∧ sumTo A n ≤ 1073741824 := by
  have h1 := sumTo_mono h.sum (Nat.zero_le n)
  have h2 := sumTo_mono h.sum hn
  have h3 := h.all
  rw [sumTo] at h1
  omega
theorem AccOk.one {A : Acc} (h : AccOk A) {k : Nat} (hk : k < 10) : both A k ≤ 1073741824 := by
  have h1 := h.part (n := k) (by omega)
  have h2 := h.part (n := k + 1) (by omega)
  rw [sumTo] at h2
  omega
theorem AccOk.zero : AccOk acc0 := ⟨fun k => by simp [acc0], fun k => by simp [acc0], by decide⟩
theorem AccOk.upd {A : Acc} (h : AccOk A) {a : Nat} {x : Int × Int} (ha : a < 10) (h1 : 0 ≤ x.1) (h2 : 0 ≤ x.2) (hs : sumTo A 10 + (x.1 + x.2) - both A a ≤ 1073741824) : AccOk (upd A a x) := by
  refine ⟨fun k => ?_, fun k => ?_, ?_⟩
  · by_cases e : k = a
    · subst e; rw [upd_same]; exact h1
    · rw [upd_other A x e]; exact h.free k
  · by_cases e : k = a
    · subst e; rw [upd_same]; exact h2
    · rw [upd_other A x e]; exact h.held k
  · rw [sumTo_upd, if_pos ha]; omega
/-- The greatest lock of a row. -/
def maxTo (l : List (Int × Int)) : Int := l.foldl (fun n x => max n x.2) 0
theorem maxTo_snoc (l : List (Int × Int)) (x : Int × Int) : maxTo (l ++ [x]) = max (maxTo l) x.2 := by simp [maxTo, List.foldl_append]
theorem foldl_max : ∀ (l : List (Int × Int)) (n : Int), n ≤ l.foldl (fun n x => max n x.2) n ∧ (∀ x ∈ l, x.2 ≤ l.foldl (fun n x => max n x.2) n) ∧ (l.foldl (fun n x => max n x.2) n = n ∨ ∃ x ∈ l, l.foldl (fun n x => max n x.2) n = x.2)
  | [], n => ⟨Int.le_refl _, fun x hx => absurd hx List.not_mem_nil, .inl rfl⟩
  | y :: l, n => by
    obtain ⟨h1, h2, h3⟩ := foldl_max l (max n y.2)
    rw [List.foldl_cons]
    refine ⟨by omega, fun x hx => ?_, ?_⟩
    · rcases List.mem_cons.1 hx with rfl | hx
      · omega
      · exact h2 x hx
    · rcases h3 with h3 | ⟨x, hx, h3⟩
      · rcases Int.le_total n y.2 with h | h
        · exact .inr ⟨y, List.mem_cons_self, by rw [h3]; omega⟩
        · exact .inl (by rw [h3]; omega)
      · exact .inr ⟨x, List.mem_cons_of_mem _ hx, h3⟩
theorem maxTo_nonneg (l : List (Int × Int)) : 0 ≤ maxTo l := (foldl_max l 0).1
theorem maxTo_le {l : List (Int × Int)} {x : Int × Int} (h : x ∈ l) : x.2 ≤ maxTo l := (foldl_max l 0).2.1 x h
theorem maxTo_is (l : List (Int × Int)) : maxTo l = 0 ∨ ∃ x ∈ l, maxTo l = x.2 := (foldl_max l 0).2.2
/-- What is locked of an account. -/
def lockedOf (M : Cls Int) (a : Int) : Int := maxTo (rowOf M a)
def isAcc (a : Int) : Prop := 0 ≤ a ∧ a < 10
instance (a : Int) : Decidable (isAcc a) := by unfold isAcc; infer_instance
def isBal (n : Int) : Prop := 0 ≤ n ∧ n ≤ 1073741824
instance (a : Int) : Decidable (isBal a) := by unfold isBal; infer_instance
/-- May n be taken from what a has free? -/
def spendE (A : Acc) (M : Cls Int) (a n : Int) (back : Bool) : Int :=
  if ¬ isAcc a ∨ ¬ isBal n then 1 else if (A a.toNat).1 < n then 6 else if 0 < n ∧ back = false ∧ (A a.toNat).1 - n < lockedOf M a then 7 else 0
def spendA (A : Acc) (a n : Int) : Acc := upd A a.toNat ((A a.toNat).1 - n, (A a.toNat).2)
theorem spendE_ok {A : Acc} {M : Cls Int} {a n : Int} {b : Bool} (h : spendE A M a n b = 0) : isAcc a ∧ isBal n ∧ n ≤ (A a.toNat).1 := by
  unfold spendE at h
  split at h
  · cases h
  · rename_i h1
    split at h
    · cases h
    · rename_i h2
      exact ⟨by simpa using fun k => h1 (.inl k), by simpa using fun k => h1 (.inr k), by omega⟩
theorem spendA_ok {A : Acc} (h : AccOk A) {a n : Int} (ha : isAcc a) (hn : isBal n) (hf : n ≤ (A a.toNat).1) : AccOk (spendA A a n) := by
  unfold isAcc at ha
  unfold isBal at hn
  have := h.held a.toNat
  have := h.all
  exact h.upd (by omega) (by simp only; omega) (by simpa using h.held _) (by unfold both; simp only; omega)
end Go.Proofs.YtcfcfijmfgnpfaaGreatDoor
end
