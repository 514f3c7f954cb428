/-
  Joined texts.
-/
import Derived.WalkKit
import Derived.Test.YtbpemdihoabbcaaGreatChecked
import Derived.Maps.OwnSet
import Derived.Lib.Hide
import Derived.Lib.SlKeysI
import Derived.Below
import Derived.RangeFuncNested
import Derived.RangeFuncBound
import Derived.RangeFuncCalls
import Derived.RangeFuncLeaves
import Derived.OwnWalkIn
import Derived.Maps.OwnIn
import Derived.Maps.OwnOps
import Derived.Deep.DeepCutAuto
namespace Go.Proofs.YtbpemdihoabbcaaGreat
set_option linter.unusedVariables false
set_option linter.unusedSimpArgs false
section
section ext
variable {α : Type} {r : α → α → Prop}
theorem sorted_ext (irr : ∀ a, ¬ r a a) (tr : ∀ a b c, r a b → r b c → r a c) : ∀ {l m : List α}, l.Pairwise r → m.Pairwise r → (∀ x, x ∈ l ↔ x ∈ m) → l = m
 | [], [], _, _, _ => rfl
 | [], b :: m, _, _, h => by have := (h b).2 (by simp); simp at this
 | a :: l, [], _, _, h => by have := (h a).1 (by simp); simp at this
 | a :: l, b :: m, h1, h2, h => by
  have hp1 := List.pairwise_cons.1 h1
  have hp2 := List.pairwise_cons.1 h2
  have e : a = b := by
   rcases List.mem_cons.1 ((h a).1 (by simp)) with e | e
   · exact e
   · rcases List.mem_cons.1 ((h b).2 (by simp)) with e' | e'
     · exact e'.symm
     · exact absurd (tr _ _ _ (hp2.1 a e) (hp1.1 b e')) (irr b)
  subst e
  rw [sorted_ext irr tr hp1.2 hp2.2 (fun x => ?_)]
  have hx := h x
  constructor
  · intro hm
    rcases List.mem_cons.1 (hx.1 (List.mem_cons_of_mem _ hm)) with e | e
    · subst e; exact absurd (hp1.1 x hm) (irr x)
    · exact e
  · intro hm
    rcases List.mem_cons.1 (hx.2 (List.mem_cons_of_mem _ hm)) with e | e
    · subst e; exact absurd (hp2.1 x hm) (irr x)
    · exact e
end ext
def SrtK {β : Type} (m : List (Int × β)) : Prop := m.Pairwise (fun x y => x.1 < y.1)
def lexlt (a b : Int × Int) : Prop := a.1 < b.1 ∨ (a.1 = b.1 ∧ a.2 < b.2)
instance : DecidableRel lexlt := fun a b => by unfold lexlt; infer_instance
def SrtC {β : Type} (m : List ((Int × Int) × β)) : Prop := m.Pairwise (fun x y => lexlt x.1 y.1)
section
variable {κ β : Type}
def ins (lt : κ → κ → Prop) [DecidableRel lt] (x : κ × β) : List (κ × β) → List (κ × β)
 | [] => [x]
 | y :: l => if lt x.1 y.1 then x :: y :: l else y :: ins lt x l
theorem mem_ins (lt : κ → κ → Prop) [DecidableRel lt] (x z : κ × β) : ∀ l, z ∈ ins lt x l ↔ z = x ∨ z ∈ l
 | [] => by simp [ins]
 | y :: l => by
  unfold ins
  split
  · simp
  · rw [List.mem_cons, mem_ins lt x z l, List.mem_cons]
    constructor
    · rintro (h | h | h)
      · exact .inr (.inl h)
      · exact .inl h
      · exact .inr (.inr h)
    · rintro (h | h | h)
      · exact .inr (.inl h)
      · exact .inl h
      · exact .inr (.inr h)
theorem length_ins (lt : κ → κ → Prop) [DecidableRel lt] (x : κ × β) : ∀ l, (ins lt x l).length = l.length + 1
 | [] => rfl
 | y :: l => by
  unfold ins
  split
  · rfl
  · simp [length_ins lt x l]
theorem srt_ins (lt : κ → κ → Prop) [DecidableRel lt] (tr : ∀ a b c, lt a b → lt b c → lt a c) (x : κ × β) : ∀ l : List (κ × β), l.Pairwise (fun a b => lt a.1 b.1) → (∀ y ∈ l, lt x.1 y.1 ∨ lt y.1 x.1) → (ins lt x l).Pairwise (fun a b => lt a.1 b.1)
 | [], _, _ => by simp [ins]
 | y :: l, h, ht => by
  have hp := List.pairwise_cons.1 h
  unfold ins
  split
  · rename_i hlt
    refine List.pairwise_cons.2 ⟨fun z hz => ?_, h⟩
    rcases List.mem_cons.1 hz with e | e
    · rw [e]; exact hlt
    · exact tr _ _ _ hlt (hp.1 z e)
  · rename_i hlt
    refine List.pairwise_cons.2 ⟨fun z hz => ?_, srt_ins lt tr x l hp.2 (fun z hz => ht z (List.mem_cons_of_mem _ hz))⟩
    rcases (mem_ins lt x z l).1 hz with e | e
    · rw [e]; exact (ht y (by simp)).resolve_left hlt
    · exact hp.1 z e
end
section
variable {β : Type}
def sget (m : List (Int × β)) (k : Int) : Option β := (m.find? (fun x => x.1 == k)).map (·.2)
def sdel (m : List (Int × β)) (k : Int) : List (Int × β) := m.filter (fun x => !(x.1 == k))
def sput (m : List (Int × β)) (k : Int) (v : β) : List (Int × β) := ins (fun a b : Int => a < b) (k, v) (sdel m k)
theorem mem_sdel {m : List (Int × β)} {k : Int} {x : Int × β} : x ∈ sdel m k ↔ x ∈ m ∧ x.1 ≠ k := by simp [sdel]
theorem mem_sput {m : List (Int × β)} {k : Int} {v : β} {x : Int × β} : x ∈ sput m k v ↔ x = (k, v) ∨ (x ∈ m ∧ x.1 ≠ k) := by rw [sput, mem_ins, mem_sdel]
theorem SrtK.del {m : List (Int × β)} (h : SrtK m) (k : Int) : SrtK (sdel m k) := List.Pairwise.filter _ h
theorem SrtK.put {m : List (Int × β)} (h : SrtK m) (k : Int) (v : β) : SrtK (sput m k v) := by
 refine srt_ins (fun a b : Int => a < b) (fun a b c h1 h2 => Int.lt_trans h1 h2) (k, v) _ (h.del k) (fun y hy => ?_)
 have := (mem_sdel.1 hy).2
 show k < y.1 ∨ y.1 < k
 omega
theorem SrtK.ext {m m' : List (Int × β)} (h : SrtK m) (h' : SrtK m') (hm : ∀ x, x ∈ m ↔ x ∈ m') : m = m' :=
 sorted_ext (r := fun x y : Int × β => x.1 < y.1) (fun a h => by omega) (fun a b c h1 h2 => by omega) h h' hm
theorem SrtK.one {m : List (Int × β)} (h : SrtK m) {x y : Int × β} (hx : x ∈ m) (hy : y ∈ m) (e : x.1 = y.1) : x = y := by
 induction m with
 | nil => simp at hx
 | cons a m ih =>
  have hp := List.pairwise_cons.1 h
  rcases List.mem_cons.1 hx with rfl | hx' <;> rcases List.mem_cons.1 hy with rfl | hy'
  · rfl
  · have := hp.1 y hy'; omega
  · have := hp.1 x hx'; omega
  · exact ih hp.2 hx' hy'
theorem sget_mem {m : List (Int × β)} {k : Int} {v : β} (h : sget m k = some v) : (k, v) ∈ m := by
 unfold sget at h
 obtain ⟨x, hx, e⟩ := Option.map_eq_some_iff.1 h
 have h1 := List.find?_some hx
 have h2 := List.mem_of_find?_eq_some hx
 simp at h1
 obtain ⟨a, b⟩ := x
 simp at h1 e
 subst h1 e
 exact h2
theorem sget_none {m : List (Int × β)} {k : Int} : sget m k = none ↔ ∀ v, (k, v) ∉ m := by
 unfold sget
 rw [Option.map_eq_none_iff, List.find?_eq_none]
 constructor
 · intro h v hm
   exact h _ hm (by simp)
 · rintro h ⟨a, b⟩ hm e
   simp at e
   subst e
   exact h b hm
theorem SrtK.get {m : List (Int × β)} (h : SrtK m) {k : Int} {v : β} : sget m k = some v ↔ (k, v) ∈ m := by
 refine ⟨sget_mem, fun hm => ?_⟩
 cases e : sget m k with
 | none => exact absurd hm (sget_none.1 e v)
 | some u =>
  have := h.one (sget_mem e) hm rfl
  simpa using this
theorem SrtK.get_put {m : List (Int × β)} (h : SrtK m) (k j : Int) (v : β) : sget (sput m k v) j = if j = k then some v else sget m j := by
 by_cases e : j = k
 · subst e; simp only [if_true]
   exact (h.put j v).get.2 (mem_sput.2 (.inl rfl))
 · simp only [e, if_false]
   cases e' : sget m j with
   | none => exact sget_none.2 (fun u hu => by
    rcases mem_sput.1 hu with h' | h'
    · simp at h'; exact e h'.1
    · exact sget_none.1 e' u h'.1)
   | some u => exact (h.put k v).get.2 (mem_sput.2 (.inr ⟨sget_mem e', e⟩))
theorem SrtK.get_del {m : List (Int × β)} (h : SrtK m) (k j : Int) : sget (sdel m k) j = if j = k then none else sget m j := by
 by_cases e : j = k
 · subst e; simp only [if_true]
   exact sget_none.2 (fun u hu => (mem_sdel.1 hu).2 rfl)
 · simp only [e, if_false]
   cases e' : sget m j with
   | none => exact sget_none.2 (fun u hu => sget_none.1 e' u (mem_sdel.1 hu).1)
   | some u => exact (h.del k).get.2 (mem_sdel.2 ⟨sget_mem e', e⟩)
end
section
variable {β : Type}
abbrev Cls (β : Type) := List ((Int × Int) × β)
def rowOf (M : Cls β) (a : Int) : List (Int × β) := M.filterMap (fun c => if c.1.1 = a then some (c.1.2, c.2) else none)
def colOf (M : Cls β) (b : Int) : List (Int × β) := M.filterMap (fun c => if c.1.2 = b then some (c.1.1, c.2) else none)
def cget (M : Cls β) (a b : Int) : Option β := sget (rowOf M a) b
def cdel (M : Cls β) (a b : Int) : Cls β := M.filter (fun x => !(x.1 == (a, b)))
def cput (M : Cls β) (a b : Int) (v : β) : Cls β := ins lexlt ((a, b), v) (cdel M a b)
theorem mem_rowOf {M : Cls β} {a : Int} {x : Int × β} : x ∈ rowOf M a ↔ ((a, x.1), x.2) ∈ M := by
 simp only [rowOf, List.mem_filterMap]
 constructor
 · rintro ⟨⟨⟨i, j⟩, v⟩, hm, h⟩
   simp at h
   obtain ⟨rfl, rfl⟩ := h
   exact hm
 · intro h
   exact ⟨_, h, by simp⟩
theorem mem_colOf {M : Cls β} {b : Int} {x : Int × β} : x ∈ colOf M b ↔ ((x.1, b), x.2) ∈ M := by
 simp only [colOf, List.mem_filterMap]
 constructor
 · rintro ⟨⟨⟨i, j⟩, v⟩, hm, h⟩
   simp at h
   obtain ⟨rfl, rfl⟩ := h
   exact hm
 · intro h
   exact ⟨_, h, by simp⟩
theorem mem_cdel {M : Cls β} {a b : Int} {x : (Int × Int) × β} : x ∈ cdel M a b ↔ x ∈ M ∧ x.1 ≠ (a, b) := by simp [cdel]
theorem mem_cput {M : Cls β} {a b : Int} {v : β} {x : (Int × Int) × β} : x ∈ cput M a b v ↔ x = ((a, b), v) ∨ (x ∈ M ∧ x.1 ≠ (a, b)) := by rw [cput, mem_ins, mem_cdel]
theorem lexlt_tr (a b c : Int × Int) (h : lexlt a b) (k : lexlt b c) : lexlt a c := by unfold lexlt at *; omega
theorem lexlt_ir (a : Int × Int) : ¬ lexlt a a := by unfold lexlt; omega
theorem lexlt_tot {a b : Int × Int} (h : b ≠ a) : lexlt a b ∨ lexlt b a := by
 obtain ⟨a1, a2⟩ := a
 obtain ⟨b1, b2⟩ := b
 simp [lexlt] at *
 omega
theorem SrtC.del {M : Cls β} (h : SrtC M) (a b : Int) : SrtC (cdel M a b) := List.Pairwise.filter _ h
theorem SrtC.put {M : Cls β} (h : SrtC M) (a b : Int) (v : β) : SrtC (cput M a b v) :=
 srt_ins _ lexlt_tr _ _ (h.del a b) (fun y hy => lexlt_tot (mem_cdel.1 hy).2)
theorem SrtC.ext {M M' : Cls β} (h : SrtC M) (h' : SrtC M') (hm : ∀ x, x ∈ M ↔ x ∈ M') : M = M' :=
 sorted_ext (r := fun x y : (Int × Int) × β => lexlt x.1 y.1) (fun a => lexlt_ir _) (fun a b c => lexlt_tr _ _ _) h h' hm
theorem SrtC.row {M : Cls β} (h : SrtC M) (a : Int) : SrtK (rowOf M a) := by
 refine List.Pairwise.filterMap _ ?_ h
 rintro ⟨⟨i, j⟩, v⟩ ⟨⟨i', j'⟩, v'⟩ hlt x hx y hy
 simp at hx hy
 obtain ⟨rfl, rfl⟩ := hx
 obtain ⟨rfl, rfl⟩ := hy
 simp [lexlt] at hlt
 exact hlt
theorem SrtC.col {M : Cls β} (h : SrtC M) (b : Int) : SrtK (colOf M b) := by
 refine List.Pairwise.filterMap _ ?_ h
 rintro ⟨⟨i, j⟩, v⟩ ⟨⟨i', j'⟩, v'⟩ hlt x hx y hy
 simp at hx hy
 obtain ⟨rfl, rfl⟩ := hx
 obtain ⟨rfl, rfl⟩ := hy
 simp [lexlt] at hlt
 exact hlt
theorem SrtC.row_put {M : Cls β} (h : SrtC M) (a b : Int) (v : β) (i : Int) : rowOf (cput M a b v) i = if i = a then sput (rowOf M a) b v else rowOf M i := by
 split
 · rename_i e; subst e
   refine ((h.put _ _ _).row _).ext ((h.row _).put _ _) ?_
   rintro ⟨j, u⟩
   rw [mem_rowOf, mem_cput, mem_sput, mem_rowOf]
   simp
 · rename_i e
   refine ((h.put _ _ _).row _).ext (h.row _) ?_
   rintro ⟨j, u⟩
   rw [mem_rowOf, mem_cput, mem_rowOf]
   simp [e]
theorem SrtC.col_put {M : Cls β} (h : SrtC M) (a b : Int) (v : β) (j : Int) : colOf (cput M a b v) j = if j = b then sput (colOf M b) a v else colOf M j := by
 split
 · rename_i e; subst e
   refine ((h.put _ _ _).col _).ext ((h.col _).put _ _) ?_
   rintro ⟨i, u⟩
   rw [mem_colOf, mem_cput, mem_sput, mem_colOf]
   simp
 · rename_i e
   refine ((h.put _ _ _).col _).ext (h.col _) ?_
   rintro ⟨i, u⟩
   rw [mem_colOf, mem_cput, mem_colOf]
   simp [e]
theorem SrtC.row_del {M : Cls β} (h : SrtC M) (a b : Int) (i : Int) : rowOf (cdel M a b) i = if i = a then sdel (rowOf M a) b else rowOf M i := by
 split
 · rename_i e; subst e
   refine ((h.del _ _).row _).ext ((h.row _).del _) ?_
   rintro ⟨j, u⟩
   rw [mem_rowOf, mem_cdel, mem_sdel, mem_rowOf]
   simp
 · rename_i e
   refine ((h.del _ _).row _).ext (h.row _) ?_
   rintro ⟨j, u⟩
   rw [mem_rowOf, mem_cdel, mem_rowOf]
   simp [e]
theorem SrtC.col_del {M : Cls β} (h : SrtC M) (a b : Int) (j : Int) : colOf (cdel M a b) j = if j = b then sdel (colOf M b) a else colOf M j := by
 split
 · rename_i e; subst e
   refine ((h.del _ _).col _).ext ((h.col _).del _) ?_
   rintro ⟨i, u⟩
   rw [mem_colOf, mem_cdel, mem_sdel, mem_colOf]
   simp
 · rename_i e
   refine ((h.del _ _).col _).ext (h.col _) ?_
   rintro ⟨i, u⟩
   rw [mem_colOf, mem_cdel, mem_colOf]
   simp [e]
theorem SrtC.get {M : Cls β} (h : SrtC M) {a b : Int} {v : β} : cget M a b = some v ↔ ((a, b), v) ∈ M := by
 rw [cget, (h.row a).get, mem_rowOf]
theorem cdel_none {M : Cls β} {a b : Int} (h : cget M a b = none) : cdel M a b = M := by
 unfold cdel
 rw [List.filter_eq_self]
 rintro ⟨⟨i, j⟩, v⟩ hm
 simp
 rintro rfl rfl
 exact sget_none.1 h v (mem_rowOf.2 hm)
theorem SrtC.length_del {M : Cls β} (h : SrtC M) (a b : Int) : (cdel M a b).length + (if (cget M a b).isSome then 1 else 0) = M.length := by
 induction M with
 | nil => rfl
 | cons x M ih =>
  have hp := List.pairwise_cons.1 h
  obtain ⟨⟨i, j⟩, u⟩ := x
  by_cases e : (i, j) = (a, b)
  · have h0 : cget M a b = none := sget_none.2 (fun v hv => by
     have := hp.1 _ (mem_rowOf.1 hv)
     rw [e] at this
     exact lexlt_ir _ this)
    have h1 : cdel M a b = M := cdel_none h0
    have h2 : cdel (((i, j), u) :: M) a b = M := by rw [← h1]; simp [cdel, e]
    have h3 : cget (((i, j), u) :: M) a b = some u := h.get.2 (by rw [e]; simp)
    rw [h2, h3]; rfl
  · have h2 : cdel (((i, j), u) :: M) a b = ((i, j), u) :: cdel M a b := by
     unfold cdel
     rw [List.filter_cons_of_pos]
     simpa using e
    have h3 : cget (((i, j), u) :: M) a b = cget M a b := by
     by_cases e1 : i = a
     · subst e1
       have : j ≠ b := fun e2 => e (by rw [e2])
       simp [cget, rowOf, sget, this]
     · simp [cget, rowOf, e1]
    rw [h2, h3, List.length_cons, List.length_cons, ← ih hp.2]
    omega
theorem SrtC.length_put {M : Cls β} (h : SrtC M) (a b : Int) (v : β) : (cput M a b v).length = if (cget M a b).isSome then M.length else M.length + 1 := by
 have := h.length_del a b
 rw [cput, length_ins]
 split <;> simp_all <;> omega
theorem row_length (M : Cls β) (a : Int) : (rowOf M a).length ≤ M.length := List.length_filterMap_le _ _
theorem col_length (M : Cls β) (b : Int) : (colOf M b).length ≤ M.length := List.length_filterMap_le _ _
theorem SrtC.flat {M : Cls β} (h : SrtC M) {ks : List Int} (hk : ks.Pairwise (· < ·)) (hm : ∀ a, a ∈ ks ↔ rowOf M a ≠ []) : ks.flatMap (fun a => (rowOf M a).map (fun x => ((a, x.1), x.2))) = M := by
 refine SrtC.ext ?_ h ?_
 · unfold SrtC
   rw [List.pairwise_flatMap]
   refine ⟨fun a ha => List.pairwise_map.2 ((h.row a).imp (fun {x y} hxy => .inr ⟨rfl, hxy⟩)), hk.imp (fun {a b} hab x hx y hy => ?_)⟩
   obtain ⟨x', _, rfl⟩ := List.mem_map.1 hx
   obtain ⟨y', _, rfl⟩ := List.mem_map.1 hy
   exact .inl hab
 · rintro ⟨⟨i, j⟩, v⟩
   rw [List.mem_flatMap]
   constructor
   · rintro ⟨a, _, hx⟩
     obtain ⟨x', hx', e⟩ := List.mem_map.1 hx
     have := mem_rowOf.1 hx'
     simp at e
     obtain ⟨⟨rfl, rfl⟩, rfl⟩ := e
     exact this
   · intro hM
     have hr : (j, v) ∈ rowOf M i := mem_rowOf.2 hM
     exact ⟨i, (hm i).2 (List.ne_nil_of_mem hr), List.mem_map.2 ⟨_, hr, rfl⟩⟩
end
end
section
open Go.RowKit Go.Maps
structure Cod (β : Type) where
 enc : β → Value
 R : Value → Option (DataW Unit × List MemPlace)
 dat : β → DataW Unit
 hR : ∀ x, R (enc x) = some (dat x, [])
 inv : ∀ v z, R v = some z → ∃ x, v = enc x ∧ z = (dat x, [])
 inj : ∀ x y, dat x = dat y → x = y
def codI : Cod Int where
 enc := .int .i64
 R := fun v => match v with | .int .i64 a => some (.lit (.int .i64 a), []) | _ => none
 dat := fun a => .lit (.int .i64 a)
 hR := fun _ => rfl
 inv := fun v z h => by
  split at h
  · cases h; exact ⟨_, rfl, rfl⟩
  · cases h
 inj := fun x y h => by simpa using h
def codU : Cod Unit where
 enc := fun _ => .agg #[]
 R := unitElem
 dat := fun _ => .agg []
 hR := fun _ => unitElem_mk
 inv := fun v z h => by
  obtain ⟨rfl, h2⟩ := unitElem_inv h
  exact ⟨(), rfl, h2⟩
 inj := fun _ _ _ => rfl
def codM : Cod (Option Nat) where
 enc := .map
 R := fun v => match v with | .map none => some (.nil, []) | .map (some b) => some (.lit (.int .i64 b), []) | _ => none
 dat := fun b => match b with | none => .nil | some b => .lit (.int .i64 b)
 hR := fun b => by cases b <;> rfl
 inv := fun v z h => by
  split at h
  · cases h; exact ⟨none, rfl, rfl⟩
  · cases h; exact ⟨some _, rfl, rfl⟩
  · cases h
 inj := fun x y h => by
  cases x <;> cases y <;> simp at h ⊢
  omega
theorem keyedI : Keyed Tryz.prog 3 := int_keyed Tryz.underlying3
theorem keyI {k : Int} (h : (Lit.int .i64 k).wf = true) : keyOf Tryz.prog 3 (.int .i64 k) = some (.int .i64 k) := keyOf_int_mk Tryz.underlying3 h
section
variable {β : Type} {c : Cod β} {b : Nat} {m : List (Int × β)} {w : World}
structure MapAt (c : Cod β) (b : Nat) (m : List (Int × β)) (w : World) : Prop where
 srt : SrtK m
 own : ∃ n D, w.ownsMap Tryz.prog 3 c.R b n D ∧ (∀ k, Maps.has D (.int .i64 k) = (sget m k).isSome) ∧ ∀ k v, sget m k = some v → ∀ z, D.atKey (.int .i64 k) z = c.dat v
theorem MapAt.lt (h : MapAt c b m w) : b < w.heap.size := by obtain ⟨n, D, ho, _⟩ := h.own; exact ho.lt
theorem MapAt.kept {w' : World} {row : Option Nat} (h : MapAt c b m w) (hg : w.grownBy w' row) (hne : some b ≠ row) : MapAt c b m w' := by
 obtain ⟨n, D, ho, h1, h2⟩ := h.own
 exact ⟨h.srt, n, D, ho.kept hg hne, h1, h2⟩
theorem MapAt.block {w' : World} (h : MapAt c b m w) (hb : w'.heap[b]? = w.heap[b]?) : MapAt c b m w' := by
 obtain ⟨n, D, ⟨es, clock, hh, F, hs, hD⟩, h1, h2⟩ := h.own
 exact ⟨h.srt, n, D, ⟨es, clock, hb.trans hh, F, hs, hD⟩, h1, h2⟩
theorem MapAt.isMap (h : MapAt c b m w) : ∃ es clock, w.heap[b]? = some (.map es clock) := by
 obtain ⟨n, D, ⟨es, clock, hh, _⟩, _⟩ := h.own
 exact ⟨es, clock, hh⟩
theorem MapAt.made (c : Cod β) (w : World) : MapAt c w.heap.size [] (w.alloc (.map #[] 0)) :=
 ⟨List.Pairwise.nil, 0, _, World.ownsMap_made _ _ _ _, fun k => by simp [Maps.has, sget], fun k v h => by simp [sget] at h⟩
theorem MapAt.keys {n : Nat} {D : DataW Unit} (hs : SrtK m) (ho : w.ownsMap Tryz.prog 3 c.R b n D) (h1 : ∀ k, Maps.has D (.int .i64 k) = (sget m k).isSome) : (m.map (·.1)).Perm (intKeys D) := by
 have hc : CollectedI D (fun _ => false) (m.map (·.1)) := by
  refine ⟨?_, fun x => ?_⟩
  · refine (List.pairwise_map.2 (hs.imp (fun {a b} hab => ?_)))
    omega
  · rw [h1]
    simp only [List.mem_map, and_true]
    constructor
    · rintro ⟨y, hy, rfl⟩
      have : sget m y.1 = some y.2 := hs.get.2 hy
      simp [this]
    · intro h
      obtain ⟨v, hv⟩ := Option.isSome_iff_exists.1 h
      exact ⟨_, sget_mem hv, rfl⟩
 exact hc.perm ho keyedI Tryz.underlying3 (fun _ => rfl)
theorem MapAt.size {n : Nat} {D : DataW Unit} (hs : SrtK m) (ho : w.ownsMap Tryz.prog 3 c.R b n D) (h1 : ∀ k, Maps.has D (.int .i64 k) = (sget m k).isSome) : Maps.size D = m.length := by
 have h := (MapAt.keys hs ho h1).length_eq
 obtain ⟨es, clock, hb, F, hs', rfl⟩ := ho
 simpa [intKeys, Maps.size] using h.symm
theorem MapAt.wf (h : MapAt c b m w) {x : Int × β} (hx : x ∈ m) : (Lit.int .i64 x.1).wf = true := by
 obtain ⟨n, D, ho, h1, _⟩ := h.own
 exact intKeys_wf ho Tryz.underlying3 x.1 ((MapAt.keys h.srt ho h1).mem_iff.1 (List.mem_map_of_mem hx))
theorem MapAt.atKey (h : MapAt c b m w) {e : TypeId} {z0 : β} {n : Nat} {D : DataW Unit} (h1 : ∀ k, Maps.has D (.int .i64 k) = (sget m k).isSome) (h2 : ∀ k v, sget m k = some v → ∀ z, D.atKey (.int .i64 k) z = c.dat v) (k : Int) : D.atKey (.int .i64 k) (c.dat z0) = c.dat ((sget m k).getD z0) := by
 cases e : sget m k with
 | some v => exact h2 k v e _
 | none =>
  refine atKey_of_not_has ?_ _
  rw [h1, e]; rfl
theorem MapAt.look {t e : TypeId} {z0 : β} (h : MapAt c b m w) (ht : Tryz.prog.underlying t = some (.map 3 e)) (hz : (zeroValue e).run Tryz.prog w = .ok (c.enc z0) w) {k : Int} (hk : (Lit.int .i64 k).wf = true) :
 (Instr.lookup t (.map (some b)) (.int .i64 k) false).run Tryz.prog w = .ok (c.enc ((sget m k).getD z0)) w := by
 obtain ⟨n, D, ho, h1, h2⟩ := h.own
 obtain ⟨v, ps, hr, hv⟩ := ho.lookup keyedI ht hz (c.hR z0) (keyI hk)
 rw [h.atKey (e := e) (n := n) h1 h2] at hv
 obtain ⟨x, rfl, hx⟩ := c.inv _ _ hv
 have := c.inj _ _ (congrArg Prod.fst hx)
 rw [hr, this]
theorem MapAt.look_ok {t e : TypeId} {z0 : β} (h : MapAt c b m w) (ht : Tryz.prog.underlying t = some (.map 3 e)) (hz : (zeroValue e).run Tryz.prog w = .ok (c.enc z0) w) {k : Int} (hk : (Lit.int .i64 k).wf = true) :
 (Instr.lookup t (.map (some b)) (.int .i64 k) true).run Tryz.prog w = .ok (.tuple #[c.enc ((sget m k).getD z0), .bool (sget m k).isSome]) w := by
 obtain ⟨n, D, ho, h1, h2⟩ := h.own
 obtain ⟨v, ps, hr, hv⟩ := ho.look_ok keyedI ht hz (c.hR z0) (keyI hk)
 rw [h.atKey (e := e) (n := n) h1 h2] at hv
 obtain ⟨x, rfl, hx⟩ := c.inv _ _ hv
 have := c.inj _ _ (congrArg Prod.fst hx)
 rw [hr, this, h1]
theorem MapAt.len {t e : TypeId} (h : MapAt c b m w) (ht : Tryz.prog.underlying t = some (.map 3 e)) (ty : TypeId) : (Builtin.len_ #[t] ty #[.map (some b)]).run Tryz.prog w = .ok (.int .i64 m.length) w := by
 obtain ⟨n, D, ho, h1, h2⟩ := h.own
 rw [ho.len ht, MapAt.size h.srt ho h1]
theorem MapAt.drop {t e : TypeId} (h : MapAt c b m w) (ht : Tryz.prog.underlying t = some (.map 3 e)) {k : Int} (hk : (Lit.int .i64 k).wf = true) (ty : TypeId) :
 ∃ w', (Builtin.delete_ #[t, 3] ty #[.map (some b), .int .i64 k]).run Tryz.prog w = .ok (.tuple #[]) w' ∧ MapAt c b (sdel m k) w' ∧ w.grownBy w' (some b) ∧ w'.heap.size = w.heap.size := by
 obtain ⟨n, D, ho, h1, h2⟩ := h.own
 obtain ⟨w', hr, ho', ht'⟩ := ho.drop keyedI ht (keyI hk) ty
 refine ⟨w', hr, ⟨h.srt.del k, n, _, ho', fun j => ?_, fun j v hj z => ?_⟩, ht'.grown, ?_⟩
 · rw [h.srt.get_del]
   by_cases e : j = k
   · subst e; simpa using has_del_same
   · rw [has_del_other (by simp [e]), h1]; simp [e]
 · rw [h.srt.get_del] at hj
   by_cases e : j = k
   · subst e; simp at hj
   · rw [atKey_del_other (by simp [e])]
     simp [e] at hj
     exact h2 j v hj z
 · obtain ⟨es, clock, es', clock', _, rfl⟩ := ht'
   simp [Go.ChangeMaps.setBlock]
theorem MapAt.store {t e : TypeId} (h : MapAt c b m w) (ht : Tryz.prog.underlying t = some (.map 3 e)) (hn : m.length < maxLen) {k : Int} (hk : (Lit.int .i64 k).wf = true) (v : β) :
 ∃ w', (Instr.mapUpdate t (.map (some b)) (.int .i64 k) (c.enc v)).run Tryz.prog w = .ok () w' ∧ MapAt c b (sput m k v) w' ∧ w.grownBy w' (some b) ∧ w'.heap.size = w.heap.size := by
 obtain ⟨n, D, ho, h1, h2⟩ := h.own
 have hsz := MapAt.size h.srt ho h1
 have hmap := ho.isMap
 have ho1 : w.ownsMap Tryz.prog 3 c.R b m.length D := by
  obtain ⟨es, clock, hb, F, hs, rfl⟩ := ho
  refine ⟨es, clock, hb, F, ?_, rfl⟩
  rw [← hsz]
  simp [Maps.size, length_sorted]
 obtain ⟨w', hr, ho', ht'⟩ := ho1.store keyedI ht hn (keyI hk) (c.hR v)
 refine ⟨w', hr, ⟨h.srt.put k v, _, _, ho', fun j => ?_, fun j u hj z => ?_⟩, ht'.grown, ?_⟩
 · rw [h.srt.get_put]
   by_cases e : j = k
   · subst e; simpa using has_put_same hmap (keyedI.key (keyI hk)) _
   · rw [has_put_other (by simp [e]), h1]; simp [e]
 · rw [h.srt.get_put] at hj
   by_cases e : j = k
   · subst e; simp at hj; subst hj
     exact atKey_put_same hmap (keyedI.key (keyI hk)) _ _
   · rw [atKey_put_other (by simp [e])]
     simp [e] at hj
     exact h2 j u hj z
 · obtain ⟨es, clock, es', clock', _, rfl⟩ := ht'
   simp [Go.ChangeMaps.setBlock]
end
theorem nil_look {w : World} {t e : TypeId} {z : Value} (ht : Tryz.prog.underlying t = some (.map 3 e)) (hz : (zeroValue e).run Tryz.prog w = .ok z w) {k : Int} (hk : (Lit.int .i64 k).wf = true) (c : Bool) :
 (Instr.lookup t (.map none) (.int .i64 k) c).run Tryz.prog w = .ok (if c then .tuple #[z, .bool false] else z) w := Maps.look_nil c keyedI ht hz (keyI hk)
end
section
open Go.RowKit
abbrev FP := Nat → Prop
structure Grow (W W' : World) : Prop where
 os : W'.os = W.os
 tape : W'.tape = W.tape
 output : W'.output = W.output
 size : W.heap.size ≤ W'.heap.size
theorem Grow.refl (W : World) : Grow W W := ⟨rfl, rfl, rfl, Nat.le_refl _⟩
theorem Grow.trans {A B C : World} (h : Grow A B) (k : Grow B C) : Grow A C := ⟨k.os.trans h.os, k.tape.trans h.tape, k.output.trans h.output, Nat.le_trans h.size k.size⟩
theorem Grow.of_below {N : Nat} {A B : World} (h : Below N A B) : Grow A B := ⟨h.os, h.tape, h.output, h.size⟩
structure Only (Ψ Φ : FP) (W W' : World) : Prop where
 grow : Grow W W'
 block : ∀ k, k < W.heap.size → ¬ Ψ k → ¬ Φ k → W'.heap[k]? = W.heap[k]?
theorem Only.refl (Ψ Φ : FP) (W : World) : Only Ψ Φ W W := ⟨Grow.refl W, fun _ _ _ _ => rfl⟩
theorem Only.trans {Ψ Φ Φ' : FP} {A B C : World} (h : Only Ψ Φ A B) (k : Only Ψ Φ' B C) (hΦ : ∀ j, Φ' j → Φ j ∨ A.heap.size ≤ j) : Only Ψ Φ A C :=
 ⟨h.grow.trans k.grow, fun j hj h1 h2 => (k.block j (Nat.lt_of_lt_of_le hj h.grow.size) h1 (fun h' => (hΦ j h').elim h2 (fun h => by omega))).trans (h.block j hj h1 h2)⟩
theorem Only.of_later {Ψ Φ : FP} {A B : World} (h : Below A.heap.size A B) : Only Ψ Φ A B := ⟨Grow.of_below h, fun j hj _ _ => h.block j hj⟩
theorem Only.below {Ψ Φ : FP} {A B : World} {N : Nat} (h : Only Ψ Φ A B) (hN : N ≤ A.heap.size) (hΨ : ∀ k, Ψ k → N ≤ k) (hΦ : ∀ k, Φ k → N ≤ k) : Below N A B :=
 ⟨h.grow.os, h.grow.tape, h.grow.output, h.grow.size, fun k hk => h.block k (by omega) (fun h' => by have := hΨ k h'; omega) (fun h' => by have := hΦ k h'; omega)⟩
def Stab {α : Type} (B : Nat) (J : List α → FP → World → Prop) : Prop :=
 ∀ pre Φ W, J pre Φ W → (∀ k, Φ k → B ≤ k ∧ k < W.heap.size) ∧ B ≤ W.heap.size ∧ ∀ W', Grow W W' → (∀ k, k < B ∨ Φ k → W'.heap[k]? = W.heap[k]?) → J pre Φ W'
def Leaves (Ψ Φ : FP) (W : World) (R : FP → World → Prop) (W' : World) : Prop :=
 ∃ Φ', (∀ k, Φ' k → Φ k ∨ W.heap.size ≤ k) ∧ Only Ψ Φ W W' ∧ R Φ' W'
def RoundOk {α : Type} (P : Program) (n l : Nat) (encs : α → Array Value) (Ψ : FP) (J Jx : List α → FP → World → Prop) (pre : List α) (x : α) (Φ : FP) (W : World) : Prop :=
 YieldAt Fence.wide n P l (encs x) W fun e W' => Leaves Ψ Φ W (fun Φ' W' => (e = .returned (.bool true) ∧ J (pre ++ [x]) Φ' W') ∨ (e = .returned (.bool false) ∧ Jx (pre ++ [x]) Φ' W')) W'
def Iter {α : Type} (P : Program) (n : Nat) (gf : Nat) (lb : Array Value) (encs : α → Array Value) (xs : List α) (G : FP) (w : World) : Prop :=
 ∀ (l B : Nat) (Ψ : FP) (J Jx : List α → FP → World → Prop) (Φ0 : FP) (W : World), Grow w W → (∀ k, G k → k < w.heap.size ∧ W.heap[k]? = w.heap[k]?) → (∀ k, Ψ k → k < B ∧ ¬ G k) → (∀ k, Φ0 k → ¬ G k) → Stab B J → Stab B Jx →
  (∀ pre x Φ W1, (pre ++ [x]) <+: xs → J pre Φ W1 → RoundOk P n l encs Ψ J Jx pre x Φ W1) → J [] Φ0 W →
  CallsIn Fence.wide (n + 1) P gf (#[.func (.yield l) #[] #[]] ++ lb) W fun e W' => (∃ v, e = .returned v) ∧ Leaves Ψ Φ0 W (fun Φ' W' => J xs Φ' W' ∨ ∃ pre, pre <+: xs ∧ Jx pre Φ' W') W'
def bodyI {α : Type} (Ψ Φ : FP) (I : List α → FP → World → Prop) (Ix : Code → List α → FP → World → Prop) (ys : List α) (W : World) : Exit → Act → World → Prop
 | .normal, _, W' => Leaves Ψ Φ W (fun Φ' W' => I ys Φ' W') W'
 | .ret, _, W' => Leaves Ψ Φ W (fun Φ' W' => Ix .ret ys Φ' W') W'
 | .exit id, _, W' => Leaves Ψ Φ W (fun Φ' W' => Ix (.exit id) ys Φ' W') W'
 | .goto t, _, W' => Leaves Ψ Φ W (fun Φ' W' => Ix (.goto t) ys Φ' W') W'
 | .panic _, _, _ => False
 | .outgrown, _, _ => False
section
variable {P : Program} {α : Type}
theorem put_grow (W : World) (l : Nat) (o : Obj) : Grow W (W.putObj l o) := ⟨rfl, rfl, rfl, by simp [World.putObj]⟩
theorem put_other {W : World} {l k : Nat} {o : Obj} (h : k ≠ l) : (W.putObj l o).heap[k]? = W.heap[k]? := World.putObj_heap_other h
def recOf (fn : FuncId) (tm : Array Value) (ps : Array Tmp) (assign body : Code) (dfr : Nat) (st : LoopState) (pe : Option Code) : Loop := { state := st, pending := pe, fn, tmps := tm, params := ps, assign, body, defers := dfr }
def InvJ (I : List α → FP → World → Prop) (l : Nat) (D : Option Nat) (r : Loop) (pre : List α) (Φ : FP) (W : World) : Prop :=
 I pre Φ W ∧ (∀ k, Φ k → l + 1 ≤ k) ∧ W.heap[l]? = some (.loop r) ∧ ∀ d, D = some d → W.heap[d]? = some (.deferred (some []))
theorem InvJ.stab {B l : Nat} {D : Option Nat} {I : List α → FP → World → Prop} {r : Loop} (hI : Stab B I) (hB : B ≤ l) (hD : ∀ d, D = some d → d < l) : Stab (l + 1) (InvJ I l D r) := by
 rintro pre Φ W ⟨hi, hΦ, hl, hd⟩
 obtain ⟨h1, h2, h3⟩ := hI _ _ _ hi
 have hlt : l < W.heap.size := (Array.getElem?_eq_some_iff.1 hl).1
 refine ⟨fun k hk => ⟨hΦ k hk, (h1 k hk).2⟩, hlt, fun W' hg hk => ⟨h3 W' hg (fun k hk' => hk k (hk'.imp (fun h => by omega) id)), hΦ, (hk l (.inl (by omega))).trans hl, fun d hdd => (hk d (.inl (by have := hD d hdd; omega))).trans (hd d hdd)⟩⟩
theorem round_of_body {n l : Nat} {fn : FuncId} {encs : α → Array Value} {ps : Array Tmp} {assign body : Code} {tm : Array Value} {dfr : Nat} {Ψ : FP} {I : List α → FP → World → Prop} {Ix : Code → List α → FP → World → Prop} {B : Nat} (hI : Stab B I) (hIx : ∀ c, Stab B (Ix c))
 (hBJ : B ≤ l) (hΨ : ∀ k, Ψ k → k < B) (hps : ∀ x, (encs x).size = ps.size) {D : Option Nat} (hD : ∀ d, D = some d → B ≤ d ∧ d < l) (a₁ : α → Act) {pre : List α} {x : α} {Φ : FP} {W : World}
 (hJ : InvJ I l D (recOf fn tm ps assign body dfr .ready none) pre Φ W)
 (hassign : ∀ (W : World) (K : Act → World → Prop), K (a₁ x) W → assign.wpIn (Fence.wide.inRound l) n P (Exit.then K (fun _ _ _ => False)) { tmps := (ps.zip (encs x)).foldl (fun t (p, v) => t.setIfInBounds p v) tm, defers := [] } W)
 (hbody : ∀ W, I pre Φ W → (∀ k, Φ k → l + 1 ≤ k) → (∃ r, W.heap[l]? = some (.loop r)) → body.wpIn (Fence.wide.inRound l) n P (bodyI Ψ Φ I Ix (pre ++ [x]) W) (a₁ x) W) :
 RoundOk P n l encs (fun k => Ψ k ∨ k = l) (InvJ I l D (recOf fn tm ps assign body dfr .ready none))
  (fun pre Φ W => ∃ c, InvJ (Ix c) l D (recOf fn tm ps assign body dfr .done (some c)) pre Φ W) pre x Φ W := by
 obtain ⟨hi, hΦ, hl, hDW⟩ := hJ
 have hlt : l < W.heap.size := (Array.getElem?_eq_some_iff.1 hl).1
 have hy := run_yield (P := P) (args := encs x) hl (hps x)
 refine ⟨fn, _, assign, body, hy, roundIn_of_wpIn trivial (hassign W _ ⟨_, run_beginRound hl rfl, ?_⟩)⟩
 obtain ⟨W2, hW2⟩ : ∃ W2, W2 = W.putObj l (.loop { recOf fn tm ps assign body dfr .ready none with state := .busy }) := ⟨_, rfl⟩
 rw [← hW2]
 have hl2 : W2.heap[l]? = some (.loop (recOf fn tm ps assign body dfr .busy none)) := by rw [hW2]; exact World.putObj_heap_same hlt
 have hnl : ∀ k, Φ k → k ≠ l := fun k hk e => by have := hΦ k hk; omega
 have ho2 : ∀ k, k ≠ l → W2.heap[k]? = W.heap[k]? := fun k hk => by rw [hW2]; exact put_other hk
 have hi2 : I pre Φ W2 := (hI _ _ _ hi).2.2 _ (by rw [hW2]; exact put_grow _ _ _) (fun k hk => ho2 k (hk.elim (fun h => by omega) (fun h => hnl k h)))
 have hsz : W2.heap.size = W.heap.size := by rw [hW2]; simp [World.putObj]
 have hg2 : Grow W W2 := by rw [hW2]; exact put_grow _ _ _
 clear hW2
 refine wpIn_mono (hbody _ hi2 hΦ ⟨_, hl2⟩) ?_
 have fin : ∀ (jump : Option Code) (Φ' : FP) (W3 : World) (R : List α → FP → World → Prop), Only Ψ Φ W2 W3 → (∀ k, Φ' k → Φ k ∨ W2.heap.size ≤ k) → Stab B R → R (pre ++ [x]) Φ' W3 →
  ∃ W4, (Instr.endRound l jump).run P W3 = .ok (.bool jump.isNone) W4 ∧ (∀ k, Φ' k → Φ k ∨ W.heap.size ≤ k) ∧ Only (fun k => Ψ k ∨ k = l) Φ W W4 ∧
   InvJ R l D (recOf fn tm ps assign body dfr (if jump.isNone then .ready else .done) jump) (pre ++ [x]) Φ' W4 := by
  intro jump Φ' W3 R ho hn hS hR
  have hl3 : W3.heap[l]? = some (.loop (recOf fn tm ps assign body dfr .busy none)) := (ho.block l (by rw [hsz]; exact hlt) (fun h => by have := hΨ l h; omega) (fun h => hnl l h rfl)).trans hl2
  have hlt3 : l < W3.heap.size := (Array.getElem?_eq_some_iff.1 hl3).1
  rw [hsz] at hn
  have hΦ' : ∀ k, Φ' k → l + 1 ≤ k := fun k hk => (hn k hk).elim (hΦ k) (fun h => by omega)
  refine ⟨_, run_endRound (P := P) jump hl3, hn, ⟨(hg2.trans ho.grow).trans (put_grow _ _ _), fun k hk h1 h2 => ?_⟩, (hS _ _ _ hR).2.2 _ (put_grow _ _ _) (fun k hk => put_other ?_), hΦ', World.putObj_heap_same hlt3, fun d hd => ?_⟩
  · have hkl : k ≠ l := fun e => h1 (.inr e)
    exact (put_other hkl).trans ((ho.block k (by rw [hsz]; exact hk) (fun h => h1 (.inl h)) h2).trans (ho2 k hkl))
  · rcases hk with h | h
    · omega
    · have := hΦ' k h; omega
  · obtain ⟨d1, d2⟩ := hD d hd
    exact (put_other (by omega)).trans ((ho.block d (by omega) (fun h => by have := hΨ d h; omega) (fun h => by have := hΦ d h; omega)).trans ((ho2 d (by omega)).trans (hDW d hd)))
 rintro e a3 W3 hp
 cases e with
 | normal =>
  obtain ⟨Φ', hn, ho, hR⟩ := hp
  obtain ⟨W4, hr, h1, h2, h3⟩ := fin none Φ' W3 I ho hn hI hR
  exact ⟨_, _, hr, Φ', h1, h2, .inl ⟨rfl, h3⟩⟩
 | ret =>
  obtain ⟨Φ', hn, ho, hR⟩ := hp
  obtain ⟨W4, hr, h1, h2, h3⟩ := fin (some .ret) Φ' W3 (Ix .ret) ho hn (hIx _) hR
  exact ⟨_, _, hr, Φ', h1, h2, .inr ⟨rfl, .ret, h3⟩⟩
 | exit id =>
  obtain ⟨Φ', hn, ho, hR⟩ := hp
  obtain ⟨W4, hr, h1, h2, h3⟩ := fin (some (.exit id)) Φ' W3 (Ix (.exit id)) ho hn (hIx _) hR
  exact ⟨_, _, hr, Φ', h1, h2, .inr ⟨rfl, .exit id, h3⟩⟩
 | goto t =>
  obtain ⟨Φ', hn, ho, hR⟩ := hp
  obtain ⟨W4, hr, h1, h2, h3⟩ := fin (some (.goto t)) Φ' W3 (Ix (.goto t)) ho hn (hIx _) hR
  exact ⟨_, _, hr, Φ', h1, h2, .inr ⟨rfl, .goto t, h3⟩⟩
 | panic ch => exact hp.elim
 | outgrown => exact hp.elim
theorem range_outer {n : Nat} {g : Operand} {ps : Array Tmp} {assign body : Code} {Q : Exit → Act → World → Prop} {a : Act} {w : World} {gf : Nat} {lb : Array Value} (hg : a.eval g = .func (.func gf) #[] lb) (eg : ∀ args w, (callFunc gf args).run P w = .ok (.enter gf args) w)
 {encs : α → Array Value} {xs : List α} {G : FP} {w0 : World} (hit : Iter P n gf lb encs xs G w0) (hg0 : Grow w0 w) (hG : ∀ k, G k → k < w0.heap.size ∧ w.heap[k]? = w0.heap[k]?) (hps : ∀ x, (encs x).size = ps.size)
 (Ψ : FP) (hΨ : ∀ k, Ψ k → k < w.heap.size ∧ ¬ G k) (I : List α → FP → World → Prop) (Ix : Code → List α → FP → World → Prop) (hI : Stab w.heap.size I) (hIx : ∀ c, Stab w.heap.size (Ix c)) (h0 : I [] (fun _ => False) w) (a₁ : α → Act)
 (hassign : ∀ (l : Nat) (x : α) (W : World) (K : Act → World → Prop), K (a₁ x) W → assign.wpIn (Fence.wide.inRound l) n P (Exit.then K (fun _ _ _ => False)) { tmps := (ps.zip (encs x)).foldl (fun t (p, v) => t.setIfInBounds p v) a.tmps, defers := [] } W)
 (hbody : ∀ (l : Nat) (pre : List α) (x : α) (Φ : FP) (W : World), (pre ++ [x]) <+: xs → I pre Φ W → w.heap.size < l → (∀ k, Φ k → l + 1 ≤ k) → (∃ r, W.heap[l]? = some (.loop r)) → body.wpIn (Fence.wide.inRound l) n P (bodyI Ψ Φ I Ix (pre ++ [x]) W) (a₁ x) W)
 (hdone : ∀ (D : Nat) (Φ : FP) (W : World), I xs Φ W → Only Ψ (fun _ => False) w W → w.heap.size ≤ D → ¬ Φ D → W.heap[D]? = some (.deferred (some [])) → Q .normal { a with defers := { target := .collected D, args := #[] } :: a.defers } W)
 (hstop : ∀ (D : Nat) (Φ : FP) (c : Code) (pre : List α) (W : World), pre <+: xs → Ix c pre Φ W → Only Ψ (fun _ => False) w W → w.heap.size ≤ D → ¬ Φ D → W.heap[D]? = some (.deferred (some [])) → c.wpIn Fence.wide (n + 2) P Q { a with defers := { target := .collected D, args := #[] } :: a.defers } W) :
 (Code.rangeFunc g ps assign body).wpIn Fence.wide (n + 2) P Q a w := by
 refine wpIn_rangeFunc ?_
 intro fn hfn
 obtain ⟨W1, hW1⟩ : ∃ W1, (w.alloc (.deferred (some []))).alloc (.loop (recOf fn a.tmps ps assign body w.heap.size .ready none)) = W1 := ⟨_, rfl⟩
 have hL1 : W1.heap[w.heap.size + 1]? = some (.loop (recOf fn a.tmps ps assign body w.heap.size .ready none)) := by
  rw [← hW1]; have := World.alloc_heap_new (w.alloc (.deferred (some []))) (.loop (recOf fn a.tmps ps assign body w.heap.size .ready none)); rwa [World.size_alloc] at this
 have hK1 : W1.heap[w.heap.size]? = some (.deferred (some [])) := by
  rw [← hW1]; exact (Below.heap_alloc _ _ _ (by simp)).trans (World.alloc_heap_new w _)
 have hB1 : Below w.heap.size w W1 := by rw [← hW1]; exact ((Below.refl _ w).alloc (Nat.le_refl _) _).alloc (by simp) _
 have hsz : W1.heap.size = w.heap.size + 2 := by rw [← hW1]; simp
 have hi1 : I [] (fun _ => False) W1 := (hI _ _ _ h0).2.2 _ (Grow.of_below hB1) (fun k hk => hk.elim (fun h => hB1.block k h) (fun h => h.elim))
 refine ⟨w.heap.size + 1, [{ target := .collected w.heap.size, args := #[] }], W1, { target := .fn (.func gf) lb, args := #[.func (.yield (w.heap.size + 1)) #[] #[]] }, W1, gf,
  #[.func (.yield (w.heap.size + 1)) #[] #[]] ++ lb, W1, ?_, ?_, ?_, ?_, fun h => by simp [Fence.wide] at h, ?_⟩
 · rw [← hW1]; exact run_enterLoop_outer _ _ _ _ _
 · simp only [resolve, hg]
   simp [go_sem]
 · intro f' hf'; simp [Target.leads] at hf'; subst hf'; trivial
 · simp [invoke, go_sem, eg]
 · have hD : ∀ d, some w.heap.size = some d → w.heap.size ≤ d ∧ d < w.heap.size + 1 := fun d hd => by cases hd; omega
   refine (hit (w.heap.size + 1) (w.heap.size + 2) (fun k => Ψ k ∨ k = w.heap.size + 1) (InvJ I (w.heap.size + 1) (some w.heap.size) (recOf fn a.tmps ps assign body w.heap.size .ready none))
    (fun pre Φ W => ∃ c, InvJ (Ix c) (w.heap.size + 1) (some w.heap.size) (recOf fn a.tmps ps assign body w.heap.size .done (some c)) pre Φ W) (fun _ => False) W1 (hg0.trans (Grow.of_below hB1))
    (fun k hk => ⟨(hG k hk).1, (hB1.block k (Nat.lt_of_lt_of_le (hG k hk).1 hg0.size)).trans (hG k hk).2⟩) (fun k hk => ?_) (fun _ h => h.elim) (InvJ.stab hI (by omega) (fun d hd => (hD d hd).2)) ?_ ?_ ⟨hi1, fun _ h => h.elim, hL1, fun d hd => by cases hd; exact hK1⟩).mono ?_
   · rcases hk with h | h
     · exact ⟨by have := (hΨ k h).1; omega, (hΨ k h).2⟩
     · exact ⟨by omega, fun hg' => by have := (hG k hg').1; have := hg0.size; omega⟩
   · rintro pre Φ W ⟨c, hc⟩
     obtain ⟨h1, h2, h3⟩ := InvJ.stab (hIx c) (by omega) (fun d hd => (hD d hd).2) _ _ _ hc
     exact ⟨h1, h2, fun W' hg' hk => ⟨c, h3 W' hg' hk⟩⟩
   · intro pre x Φ W hpx hJ
     exact round_of_body hI hIx (by omega) (fun k hk => (hΨ k hk).1) hps hD a₁ hJ (fun W K hK => hassign _ x W K hK) (fun W hi hΦ hr => hbody _ pre x Φ W hpx hi (by omega) hΦ hr)
   · have fine : ∀ W2, Only (fun k => Ψ k ∨ k = w.heap.size + 1) (fun _ => False) W1 W2 → ∀ r, Only Ψ (fun _ => False) w (W2.putObj (w.heap.size + 1) (.loop r)) := fun W2 ho r =>
      ⟨((Grow.of_below hB1).trans ho.grow).trans (put_grow _ _ _), fun k hk h1 h2 => (put_other (by omega)).trans ((ho.block k (by omega) (fun h => h.elim h1 (by omega)) h2).trans (hB1.block k hk))⟩
     rintro e W2 ⟨⟨v, rfl⟩, Φ', hn, ho, (⟨hi, hΦ, hl, hk⟩ | ⟨pre, hpre, c, hi, hΦ, hl, hk⟩)⟩
     · have hnD : ¬ Φ' w.heap.size := fun h => by have := hΦ _ h; omega
       refine ⟨none, _, run_endLoop (P := P) hl (by simp [recOf]), hdone _ Φ' _ ?_ (fine W2 ho _) (Nat.le_refl _) hnD ((put_other (by omega)).trans (hk _ rfl))⟩
       exact (hI _ _ _ hi).2.2 _ (put_grow _ _ _) (fun k hk' => put_other (hk'.elim (fun h => by omega) (fun h => by have := hΦ k h; omega)))
     · have hnD : ¬ Φ' w.heap.size := fun h => by have := hΦ _ h; omega
       refine ⟨some c, _, run_endLoop (P := P) hl (by simp [recOf]), hstop _ Φ' c pre _ hpre ?_ (fine W2 ho _) (Nat.le_refl _) hnD ((put_other (by omega)).trans (hk _ rfl))⟩
       exact (hIx c _ _ _ hi).2.2 _ (put_grow _ _ _) (fun k hk' => put_other (hk'.elim (fun h => by omega) (fun h => by have := hΦ k h; omega)))
end
end
section
open Go.RowKit Go.Maps
section
variable {P : Program} {w : World} {ops : Array Oper} {rest : List Oper} {o : Oper} {a : Act} {Q : Exit → Act → World → Prop}
theorem wpl_look (hg : o.guard = none) (m x : Operand) (t : TypeId) (c : Bool) (hop : o.op = Op.lookup t m x c) {mv kv r : Value} (hm : a.eval m = mv) (hx : a.eval x = kv) (hr : (Instr.lookup t mv kv c).run P w = .ok r w)
 (h : wpList P ops Q rest (a.put o.dst r) w) : wpList P ops Q (o :: rest) a w := by
 refine wpList_plain hg fun K hK => ?_
 unfold Oper.wp
 simp [execOp, hop, hm, hx, hr, Result.andThen]
 exact hK _ _ h
theorem wpl_upd {w' : World} (hg : o.guard = none) (m x v : Operand) (t : TypeId) (hop : o.op = Op.mapUpdate t m x v) {mv kv vv : Value} (hm : a.eval m = mv) (hx : a.eval x = kv) (hv : a.eval v = vv) (hr : (Instr.mapUpdate t mv kv vv).run P w = .ok () w')
 (h : wpList P ops Q rest (a.put o.dst undef) w') : wpList P ops Q (o :: rest) a w := by
 refine wpList_plain hg fun K hK => ?_
 unfold Oper.wp
 simp [execOp, hop, hm, hx, hv, hr, Result.andThen]
 exact hK _ _ h
theorem wpl_drop {w' : World} (hg : o.guard = none) (m x : Operand) (t k : TypeId) (hop : o.op = Op.call { callee := Callee.builtin Builtin.delete, args := #[m, x], argTypes := #[t, k] }) {mv kv : Value} (hm : a.eval m = mv) (hx : a.eval x = kv) (hr : (Builtin.delete_ #[t, k] o.type #[mv, kv]).run P w = .ok (.tuple #[]) w')
 (h : wpList P ops Q rest (a.put o.dst (.tuple #[])) w') : wpList P ops Q (o :: rest) a w := by
 refine wpList_plain hg fun K hK => ?_
 unfold Oper.wp
 simp [execOp, hop, resolve, invoke, builtin, hm, hx, hr, Result.andThen]
 exact hK _ _ h
theorem wpl_len (hg : o.guard = none) (m : Operand) (t : TypeId) (hop : o.op = Op.call { callee := Callee.builtin Builtin.len, args := #[m], argTypes := #[t] }) {mv r : Value} (hm : a.eval m = mv) (hr : (Builtin.len_ #[t] o.type #[mv]).run P w = .ok r w)
 (h : wpList P ops Q rest (a.put o.dst r) w) : wpList P ops Q (o :: rest) a w := by
 refine wpList_plain hg fun K hK => ?_
 unfold Oper.wp
 simp [execOp, hop, resolve, invoke, builtin, hm, hr, Result.andThen]
 exact hK _ _ h
end
structure OutAt {β : Type} (c : Cod β) (B : Nat) (rm : List (Int × Option Nat)) (rows : Int → List (Int × β)) (w : World) : Prop where
 map : MapAt codM B rm w
 has : ∀ a, rows a ≠ [] → ∃ b, sget rm a = some (some b)
 at_ : ∀ a x, sget rm a = some x → ∃ b, x = some b ∧ rows a ≠ [] ∧ b ≠ B ∧ MapAt c b (rows a) w
 inj : ∀ a a' b, sget rm a = some (some b) → sget rm a' = some (some b) → a = a'
def oblk (B : Nat) (rm : List (Int × Option Nat)) : FP := fun k => k = B ∨ ∃ a, sget rm a = some (some k)
section
variable {β : Type} {c : Cod β} {B : Nat} {rm : List (Int × Option Nat)} {rows : Int → List (Int × β)} {w : World}
theorem OutAt.block {w' : World} (h : OutAt c B rm rows w) (hb : ∀ k, oblk B rm k → w'.heap[k]? = w.heap[k]?) : OutAt c B rm rows w' := by
 refine ⟨h.map.block (hb B (.inl rfl)), h.has, fun a x hx => ?_, h.inj⟩
 obtain ⟨b, rfl, h1, h2, h3⟩ := h.at_ a x hx
 exact ⟨b, rfl, h1, h2, h3.block (hb b (.inr ⟨a, hx⟩))⟩
theorem OutAt.lt (h : OutAt c B rm rows w) {k : Nat} (hk : oblk B rm k) : k < w.heap.size := by
 rcases hk with rfl | ⟨a, ha⟩
 · exact h.map.lt
 · obtain ⟨b, e, _, _, h3⟩ := h.at_ a _ ha
   cases e
   exact h3.lt
theorem OutAt.isMap (h : OutAt c B rm rows w) {k : Nat} (hk : oblk B rm k) : ∃ es clock, w.heap[k]? = some (.map es clock) := by
 rcases hk with rfl | ⟨a, ha⟩
 · exact h.map.isMap
 · obtain ⟨b, e, _, _, h3⟩ := h.at_ a _ ha
   cases e
   exact h3.isMap
theorem OutAt.made (c : Cod β) (w : World) : OutAt c w.heap.size [] (fun _ => []) (w.alloc (.map #[] 0)) :=
 ⟨MapAt.made _ _, fun a h => absurd rfl h, fun a x h => by simp [sget] at h, fun a a' b h => by simp [sget] at h⟩
theorem OutAt.congr {rows' : Int → List (Int × β)} (h : OutAt c B rm rows w) (e : ∀ a, rows' a = rows a) : OutAt c B rm rows' w := by
 have : rows' = rows := funext e
 rw [this]; exact h
theorem OutAt.isNil (h : OutAt c B rm rows w) {a : Int} (e : sget rm a = none) : rows a = [] := by
 by_cases hr : rows a = []
 · exact hr
 · obtain ⟨b, hb⟩ := h.has a hr
   rw [e] at hb; cases hb
theorem OutAt.keys (h : OutAt c B rm rows w) (a : Int) : a ∈ rm.map (·.1) ↔ rows a ≠ [] := by
 constructor
 · intro hm
   obtain ⟨⟨a', x⟩, hx, rfl⟩ := List.mem_map.1 hm
   obtain ⟨b, _, h1, _⟩ := h.at_ _ x (h.map.srt.get.2 hx)
   exact h1
 · intro hr
   obtain ⟨b, hb⟩ := h.has a hr
   exact List.mem_map.2 ⟨_, sget_mem hb, rfl⟩
theorem OutAt.upd {w' : World} {a : Int} {b : Nat} {r' : List (Int × β)} (h : OutAt c B rm rows w) (hb : sget rm a = some (some b)) (hr : r' ≠ []) (hm : MapAt c b r' w') (hg : w.grownBy w' (some b)) : OutAt c B rm (fun i => if i = a then r' else rows i) w' := by
 have hB : b ≠ B := by obtain ⟨b', e, _, h2, _⟩ := h.at_ a _ hb; cases e; exact h2
 refine ⟨h.map.kept hg (by simp; exact fun e => hB e.symm), fun i hi => ?_, fun i x hx => ?_, h.inj⟩
 · by_cases e : i = a
   · subst e; exact ⟨b, hb⟩
   · simp only [e, if_false] at hi; exact h.has i hi
 · by_cases e : i = a
   · subst e
     rw [hb] at hx; cases hx
     exact ⟨b, rfl, by simpa using hr, hB, by simpa using hm⟩
   · obtain ⟨b', rfl, h1, h2, h3⟩ := h.at_ i x hx
     refine ⟨b', rfl, by simpa [e] using h1, h2, ?_⟩
     simp only [e, if_false]
     refine h3.kept hg ?_
     simp only [ne_eq, Option.some.injEq]
     rintro rfl
     exact e (h.inj i a _ hx hb)
theorem OutAt.lay {w' : World} {a : Int} {b : Nat} {r' : List (Int × β)} (h : OutAt c B rm rows w) (hb : sget rm a = none) (hm' : MapAt codM B (sput rm a (some b)) w') (hbB : b ≠ B) (hfresh : w.heap.size ≤ b) (hr : r' ≠ []) (hm : MapAt c b r' w') (hk : ∀ k, k < w.heap.size → k ≠ B → w'.heap[k]? = w.heap[k]?) :
 OutAt c B (sput rm a (some b)) (fun i => if i = a then r' else rows i) w' := by
 have hnew : ∀ i, sget rm i ≠ some (some b) := fun i hi => by
  have := h.lt (.inr ⟨i, hi⟩); omega
 refine ⟨hm', fun i hi => ?_, fun i x hx => ?_, fun i j b' hi hj => ?_⟩
 · rw [h.map.srt.get_put]
   by_cases e : i = a
   · subst e; exact ⟨b, by simp⟩
   · simp only [e, if_false] at hi ⊢; exact h.has i hi
 · rw [h.map.srt.get_put] at hx
   by_cases e : i = a
   · subst e
     simp at hx; subst hx
     exact ⟨b, rfl, by simpa using hr, hbB, by simpa using hm⟩
   · simp only [e, if_false] at hx ⊢
     obtain ⟨b', rfl, h1, h2, h3⟩ := h.at_ i x hx
     exact ⟨b', rfl, h1, h2, h3.block (hk b' h3.lt h2)⟩
 · rw [h.map.srt.get_put] at hi hj
   by_cases e : i = a <;> by_cases e' : j = a
   · rw [e, e']
   · simp only [e, e', if_true, if_false, Option.some.injEq] at hi hj
     subst hi
     exact absurd hj (hnew j)
   · simp only [e, e', if_true, if_false, Option.some.injEq] at hi hj
     subst hj
     exact absurd hi (hnew i)
   · simp only [e, e', if_false] at hi hj
     exact h.inj i j b' hi hj
theorem OutAt.gone {w' : World} {a : Int} {b : Nat} (h : OutAt c B rm rows w) (hb : sget rm a = some (some b)) (hm' : MapAt codM B (sdel rm a) w') (hk : ∀ k, k < w.heap.size → k ≠ B → k ≠ b → w'.heap[k]? = w.heap[k]?) :
 OutAt c B (sdel rm a) (fun i => if i = a then [] else rows i) w' := by
 refine ⟨hm', fun i hi => ?_, fun i x hx => ?_, fun i j b' hi hj => ?_⟩
 · rw [h.map.srt.get_del]
   by_cases e : i = a
   · subst e; simp at hi
   · simp only [e, if_false] at hi ⊢; exact h.has i hi
 · rw [h.map.srt.get_del] at hx
   by_cases e : i = a
   · subst e; simp at hx
   · simp only [e, if_false] at hx ⊢
     obtain ⟨b', rfl, h1, h2, h3⟩ := h.at_ i x hx
     refine ⟨b', rfl, h1, h2, h3.block (hk b' h3.lt h2 ?_)⟩
     rintro rfl
     exact e (h.inj i a _ hx hb)
 · rw [h.map.srt.get_del] at hi hj
   by_cases e : i = a
   · simp [e] at hi
   · by_cases e' : j = a
     · simp [e'] at hj
     · simp only [e, e', if_false] at hi hj
       exact h.inj i j b' hi hj
end
end
section
open Go.RowKit Go.Maps
theorem sput_ne {β : Type} (m : List (Int × β)) (k : Int) (v : β) : sput m k v ≠ [] := List.ne_nil_of_mem (mem_sput.2 (.inl rfl))
theorem only_grown {w w' : World} {B : Nat} {Ψ : FP} (hg : w.grownBy w' (some B)) (hΨ : Ψ B) : Only Ψ (fun _ => False) w w' :=
 ⟨⟨hg.os, hg.tape, hg.output, hg.size⟩, fun k hk h1 _ => hg.block k hk (fun e => by cases e; exact h1 hΨ)⟩
theorem only_alloc {w : World} (o : Obj) {Ψ : FP} : Only Ψ (fun _ => False) w (w.alloc o) := Only.of_later ((Below.refl _ w).alloc (Nat.le_refl _) o)
theorem only_trans {Ψ : FP} {A B C : World} (h : Only Ψ (fun _ => False) A B) (k : Only Ψ (fun _ => False) B C) : Only Ψ (fun _ => False) A C := h.trans k (fun _ h => h.elim)
def OutTo {β : Type} (c : Cod β) (B : Nat) (rm : List (Int × Option Nat)) (rows : Int → List (Int × β)) (w w' : World) : Prop :=
 ∃ rm', OutAt c B rm' rows w' ∧ Only (oblk B rm) (fun _ => False) w w' ∧ ∀ k, oblk B rm' k → oblk B rm k ∨ w.heap.size ≤ k
theorem OutTo.alloc {β : Type} {c : Cod β} {B : Nat} {rm : List (Int × Option Nat)} {rows : Int → List (Int × β)} {w w' : World} {o : Obj} (h : OutTo c B rm rows (w.alloc o) w') : OutTo c B rm rows w w' := by
 obtain ⟨rm', h1, h2, h3⟩ := h
 exact ⟨rm', h1, only_trans (only_alloc o) h2, fun k hk => (h3 k hk).imp id (fun h => by simp at h; omega)⟩
theorem oblk_put {B : Nat} {rm : List (Int × Option Nat)} (hs : SrtK rm) {a : Int} {b k : Nat} (h : oblk B (sput rm a (some b)) k) : oblk B rm k ∨ k = b := by
 rcases h with h | ⟨i, hi⟩
 · exact .inl (.inl h)
 · rw [hs.get_put] at hi
   by_cases e : i = a
   · simp [e] at hi; exact .inr hi.symm
   · simp [e] at hi; exact .inl (.inr ⟨i, hi⟩)
theorem oblk_del {B : Nat} {rm : List (Int × Option Nat)} (hs : SrtK rm) {a : Int} {k : Nat} (h : oblk B (sdel rm a) k) : oblk B rm k := by
 rcases h with h | ⟨i, hi⟩
 · exact .inl h
 · rw [hs.get_del] at hi
   by_cases e : i = a
   · simp [e] at hi
   · simp [e] at hi; exact .inr ⟨i, hi⟩
set_option maxRecDepth 100000 in
set_option maxHeartbeats 2000000 in
theorem lay_I {B : Nat} {rm : List (Int × Option Nat)} {rows : Int → List (Int × Int)} {w : World} (h : OutAt codI B rm rows w) (hn : rm.length < maxLen) {a b : Int} (hra : (rows a).length < maxLen) (ha : (Lit.int .i64 a).wf = true) (hb : (Lit.int .i64 b).wf = true) (v : Int) :
 Calls Tryz.prog 132 #[.map (some B), .int .i64 a, .int .i64 b, .int .i64 v] w fun e w' => e = .returned (.tuple #[]) ∧ OutTo codI B rm (fun i => if i = a then sput (rows a) b v else rows i) w w' := by
 have hmm := @run_makeMap Tryz.prog
 have hu1 : Tryz.prog.underlying 184 = some (.map 3 201) := Tryz.underlying184
 have hu2 : Tryz.prog.underlying 201 = some (.map 3 3) := Tryz.underlying201
 have hz1 : ∀ w, (zeroValue 201).run Tryz.prog w = .ok (codM.enc none) w := fun w => Tryz.zeroValue201 w
 obtain ⟨u, hu⟩ : ∃ u, u = w := ⟨_, rfl⟩
 have h : OutAt codI B rm rows u := by rw [hu]; exact h
 have hout : ∀ rows' w', OutTo codI B rm rows' u w' → OutTo codI B rm rows' w w' := fun rows' w' ho => by rw [hu] at ho; exact ho
 cases hs : sget rm a with
 | some x =>
  obtain ⟨b', rfl, h1, h2, h3⟩ := h.at_ a x hs
  obtain ⟨w', hr, hm', hg, hsz⟩ := h3.store hu2 hra hb v
  have hl := h.map.look (z0 := none) hu1 (hz1 u) ha
  rw [hs] at hl
  have Hfin : OutTo codI B rm (fun i => if i = a then sput (rows a) b v else rows i) u w' :=
   ⟨rm, h.upd hs (sput_ne _ _ _) hm' hg, only_grown hg (.inr ⟨a, hs⟩), fun k hk => .inl hk⟩
  have Hfin := hout _ _ Hfin
  rw [hu] at hl hr
  have HF := Lib.hid Hfin
  have HL := Lib.hid hl
  have HR := Lib.hid hr
  clear hout Hfin h h1 h2 h3 hs hm' hg hsz hn hra hl hr hmm hu
  have q1 : ∀ bm w, (binOp .eql 201 (.map (some bm)) (.map Option.none)).run Tryz.prog w = .ok (.bool false) w := fun bm w => by kernel_rfl
  have q2 : ∀ w, (binOp .eql 201 (.map Option.none) (.map Option.none)).run Tryz.prog w = .ok (.bool true) w := fun w => by kernel_rfl
  go_enter Tryz.func132, Tryz.ntmps132
  go_wp2_with (first
   | (at_lookup; refine wpl_look rfl _ _ _ _ rfl rfl rfl HL.out ?_; dsimp only [codM, Option.getD])
   | (at_mapUpdate; refine wpl_upd rfl _ _ _ _ rfl rfl rfl rfl HR.out ?_)
   | fail)
  exact bodyPost_end (results_none rfl _ _ _) rfl ⟨rfl, HF.out⟩
 | none =>
  have hnil := h.isNil hs
  have hl := h.map.look (z0 := none) hu1 (hz1 u) ha
  rw [hs] at hl
  -- a new map, laid in, then written
  obtain ⟨w1, hw1⟩ : ∃ w1, w1 = u.alloc (.map #[] 0) := ⟨_, rfl⟩
  obtain ⟨N, hN⟩ : ∃ N, N = u.heap.size := ⟨_, rfl⟩
  have hmade : MapAt codI N [] w1 := by rw [hw1, hN]; exact MapAt.made _ _
  have hM1 : MapAt codM B rm w1 := by rw [hw1]; exact h.map.kept (World.grownBy_alloc u _ none) (by simp)
  have hBlt := h.map.lt
  obtain ⟨w2, hr2, hm2, hg2, hs2⟩ := hM1.store hu1 hn ha (some N)
  have hl2 := hm2.look (z0 := none) hu1 (hz1 w2) ha
  rw [hM1.srt.get_put] at hl2
  simp only [if_true, Option.getD_some] at hl2
  have hmade2 := hmade.kept hg2 (by simp; omega)
  obtain ⟨w3, hr3, hm3, hg3, hs3⟩ := hmade2.store hu2 (by simp; unfold maxLen; omega) hb v
  have hm2' := hm2.kept hg3 (by simp; omega)
  have hB : Only (oblk B rm) (fun _ => False) u w2 := only_trans (by rw [hw1]; exact only_alloc _) (only_grown hg2 (.inl rfl))
  have hsz1 : w1.heap.size = u.heap.size + 1 := by rw [hw1]; simp
  have Hfin : OutTo codI B rm (fun i => if i = a then sput (rows a) b v else rows i) u w3 := by
   rw [hnil]
   refine ⟨_, h.lay hs hm2' (by omega) (by omega) (sput_ne _ _ _) hm3 (fun k hk hkB => ?_), ⟨hB.grow.trans ⟨hg3.os, hg3.tape, hg3.output, hg3.size⟩, fun k hk hk1 hk2 => ?_⟩, fun k hk => ?_⟩
   · rw [hg3.block k (by omega) (by simp; omega), hg2.block k (by omega) (by simp; omega), hw1]
     exact Below.heap_alloc _ _ k hk
   · rw [hg3.block k (by omega) (by simp; omega)]
     exact hB.block k hk hk1 hk2
   · rcases oblk_put h.map.srt hk with h' | h'
     · exact .inl h'
     · exact .inr (by omega)
  have Hfin := hout _ _ Hfin
  rw [hu] at hl
  have HF := Lib.hid Hfin
  have HL := Lib.hid hl
  have HL2 := Lib.hid hl2
  rw [hw1, hu] at hr2
  rw [hu] at hN
  subst hN
  have HR2 := Lib.hid hr2
  have HR3 := Lib.hid hr3
  have hmk : ∀ w, (Instr.makeMap 201 Option.none).run Tryz.prog w = .ok (.map (some w.heap.size)) (w.alloc (.map #[] 0)) := fun w => run_makeMap _ w
  clear hout Hfin h hs hn hra hl hl2 hr2 hr3 hnil hmade hM1 hm2 hg2 hs2 hmade2 hm3 hg3 hs3 hm2' hB hsz1 hBlt hw1 hmm hu
  have q1 : ∀ bm w, (binOp .eql 201 (.map (some bm)) (.map Option.none)).run Tryz.prog w = .ok (.bool false) w := fun bm w => by kernel_rfl
  have q2 : ∀ w, (binOp .eql 201 (.map Option.none) (.map Option.none)).run Tryz.prog w = .ok (.bool true) w := fun w => by kernel_rfl
  go_enter Tryz.func132, Tryz.ntmps132
  have tok1 : True := trivial
  have tok2 : True := trivial
  go_wp2_with (first
   | (at_lookup; have _t := tok1; refine wpl_look rfl _ _ _ _ rfl rfl rfl HL.out ?_; dsimp only [codM, Option.getD]; clear tok1)
   | (at_lookup; refine wpl_look rfl _ _ _ _ rfl rfl rfl HL2.out ?_; dsimp only [codM])
   | (at_mapUpdate; have _t := tok2; refine wpl_upd rfl _ _ _ _ rfl rfl rfl rfl HR2.out ?_; clear tok2)
   | (at_mapUpdate; refine wpl_upd rfl _ _ _ _ rfl rfl rfl rfl HR3.out ?_)
   | fail)
  exact bodyPost_end (results_none rfl _ _ _) rfl ⟨rfl, HF.out⟩
set_option maxRecDepth 100000 in
set_option maxHeartbeats 2000000 in
theorem lay_U {B : Nat} {rm : List (Int × Option Nat)} {rows : Int → List (Int × Unit)} {w : World} (h : OutAt codU B rm rows w) (hn : rm.length < maxLen) {a b : Int} (hra : (rows a).length < maxLen) (ha : (Lit.int .i64 a).wf = true) (hb : (Lit.int .i64 b).wf = true) (v : Unit) :
 Calls Tryz.prog 106 #[.map (some B), .int .i64 a, .int .i64 b, .agg #[]] w fun e w' => e = .returned (.tuple #[]) ∧ OutTo codU B rm (fun i => if i = a then sput (rows a) b v else rows i) w w' := by
 have hmm := @run_makeMap Tryz.prog
 have hu1 : Tryz.prog.underlying 159 = some (.map 3 196) := Tryz.underlying159
 have hu2 : Tryz.prog.underlying 196 = some (.map 3 174) := Tryz.underlying196
 have hz1 : ∀ w, (zeroValue 196).run Tryz.prog w = .ok (codM.enc none) w := fun w => Tryz.zeroValue196 w
 obtain ⟨u, hu⟩ : ∃ u, u = w.alloc (.cells #[] 174) := ⟨_, rfl⟩
 have h : OutAt codU B rm rows u := by rw [hu]; exact h.block (fun k hk => Below.heap_alloc _ _ k (h.lt hk))
 have hout : ∀ rows' w', OutTo codU B rm rows' u w' → OutTo codU B rm rows' w w' := fun rows' w' ho => by rw [hu] at ho; exact ho.alloc
 cases hs : sget rm a with
 | some x =>
  obtain ⟨b', rfl, h1, h2, h3⟩ := h.at_ a x hs
  obtain ⟨w', hr, hm', hg, hsz⟩ := h3.store hu2 hra hb v
  have hl := h.map.look (z0 := none) hu1 (hz1 u) ha
  rw [hs] at hl
  have Hfin : OutTo codU B rm (fun i => if i = a then sput (rows a) b v else rows i) u w' :=
   ⟨rm, h.upd hs (sput_ne _ _ _) hm' hg, only_grown hg (.inr ⟨a, hs⟩), fun k hk => .inl hk⟩
  have Hfin := hout _ _ Hfin
  rw [hu] at hl hr
  have HF := Lib.hid Hfin
  have HL := Lib.hid hl
  have HR := Lib.hid hr
  clear hout Hfin h h1 h2 h3 hs hm' hg hsz hn hra hl hr hmm hu
  have q1 : ∀ bm w, (binOp .eql 196 (.map (some bm)) (.map Option.none)).run Tryz.prog w = .ok (.bool false) w := fun bm w => by kernel_rfl
  have q2 : ∀ w, (binOp .eql 196 (.map Option.none) (.map Option.none)).run Tryz.prog w = .ok (.bool true) w := fun w => by kernel_rfl
  go_enter Tryz.func106, Tryz.ntmps106
  go_wp2_with (first
   | (at_lookup; refine wpl_look rfl _ _ _ _ rfl rfl rfl HL.out ?_; dsimp only [codM, Option.getD])
   | (at_mapUpdate; refine wpl_upd rfl _ _ _ _ rfl rfl rfl rfl HR.out ?_)
   | fail)
  exact bodyPost_end (results_none rfl _ _ _) rfl ⟨rfl, HF.out⟩
 | none =>
  have hnil := h.isNil hs
  have hl := h.map.look (z0 := none) hu1 (hz1 u) ha
  rw [hs] at hl
  -- a new map, laid in, then written
  obtain ⟨w1, hw1⟩ : ∃ w1, w1 = u.alloc (.map #[] 0) := ⟨_, rfl⟩
  obtain ⟨N, hN⟩ : ∃ N, N = u.heap.size := ⟨_, rfl⟩
  have hmade : MapAt codU N [] w1 := by rw [hw1, hN]; exact MapAt.made _ _
  have hM1 : MapAt codM B rm w1 := by rw [hw1]; exact h.map.kept (World.grownBy_alloc u _ none) (by simp)
  have hBlt := h.map.lt
  obtain ⟨w2, hr2, hm2, hg2, hs2⟩ := hM1.store hu1 hn ha (some N)
  have hl2 := hm2.look (z0 := none) hu1 (hz1 w2) ha
  rw [hM1.srt.get_put] at hl2
  simp only [if_true, Option.getD_some] at hl2
  have hmade2 := hmade.kept hg2 (by simp; omega)
  obtain ⟨w3, hr3, hm3, hg3, hs3⟩ := hmade2.store hu2 (by simp; unfold maxLen; omega) hb v
  have hm2' := hm2.kept hg3 (by simp; omega)
  have hB : Only (oblk B rm) (fun _ => False) u w2 := only_trans (by rw [hw1]; exact only_alloc _) (only_grown hg2 (.inl rfl))
  have hsz1 : w1.heap.size = u.heap.size + 1 := by rw [hw1]; simp
  have Hfin : OutTo codU B rm (fun i => if i = a then sput (rows a) b v else rows i) u w3 := by
   rw [hnil]
   refine ⟨_, h.lay hs hm2' (by omega) (by omega) (sput_ne _ _ _) hm3 (fun k hk hkB => ?_), ⟨hB.grow.trans ⟨hg3.os, hg3.tape, hg3.output, hg3.size⟩, fun k hk hk1 hk2 => ?_⟩, fun k hk => ?_⟩
   · rw [hg3.block k (by omega) (by simp; omega), hg2.block k (by omega) (by simp; omega), hw1]
     exact Below.heap_alloc _ _ k hk
   · rw [hg3.block k (by omega) (by simp; omega)]
     exact hB.block k hk hk1 hk2
   · rcases oblk_put h.map.srt hk with h' | h'
     · exact .inl h'
     · exact .inr (by omega)
  have Hfin := hout _ _ Hfin
  rw [hu] at hl
  have HF := Lib.hid Hfin
  have HL := Lib.hid hl
  have HL2 := Lib.hid hl2
  rw [hw1, hu] at hr2
  rw [hu, World.size_alloc] at hN
  subst hN
  have HR2 := Lib.hid hr2
  have HR3 := Lib.hid hr3
  have hmk : ∀ w, (Instr.makeMap 196 Option.none).run Tryz.prog w = .ok (.map (some w.heap.size)) (w.alloc (.map #[] 0)) := fun w => run_makeMap _ w
  clear hout Hfin h hs hn hra hl hl2 hr2 hr3 hnil hmade hM1 hm2 hg2 hs2 hmade2 hm3 hg3 hs3 hm2' hB hsz1 hBlt hw1 hmm hu
  have q1 : ∀ bm w, (binOp .eql 196 (.map (some bm)) (.map Option.none)).run Tryz.prog w = .ok (.bool false) w := fun bm w => by kernel_rfl
  have q2 : ∀ w, (binOp .eql 196 (.map Option.none) (.map Option.none)).run Tryz.prog w = .ok (.bool true) w := fun w => by kernel_rfl
  go_enter Tryz.func106, Tryz.ntmps106
  have tok1 : True := trivial
  have tok2 : True := trivial
  go_wp2_with (first
   | (at_lookup; have _t := tok1; refine wpl_look rfl _ _ _ _ rfl rfl rfl HL.out ?_; dsimp only [codM, Option.getD]; clear tok1)
   | (at_lookup; refine wpl_look rfl _ _ _ _ rfl rfl rfl HL2.out ?_; dsimp only [codM])
   | (at_mapUpdate; have _t := tok2; refine wpl_upd rfl _ _ _ _ rfl rfl rfl rfl HR2.out ?_; clear tok2)
   | (at_mapUpdate; refine wpl_upd rfl _ _ _ _ rfl rfl rfl rfl HR3.out ?_)
   | fail)
  exact bodyPost_end (results_none rfl _ _ _) rfl ⟨rfl, HF.out⟩
set_option maxRecDepth 100000 in
set_option maxHeartbeats 2000000 in
theorem take_I {B : Nat} {rm : List (Int × Option Nat)} {rows : Int → List (Int × Int)} {w : World} (h : OutAt codI B rm rows w) {a b : Int} (hr0 : rows a ≠ []) (hlen : (rows a).length ≤ 1000000) (ha : (Lit.int .i64 a).wf = true) (hb : (Lit.int .i64 b).wf = true) :
 Calls Tryz.prog 131 #[.map (some B), .int .i64 a, .int .i64 b] w fun e w' => e = .returned (.tuple #[]) ∧ OutTo codI B rm (fun i => if i = a then sdel (rows a) b else rows i) w w' := by
 have hu1 : Tryz.prog.underlying 184 = some (.map 3 201) := Tryz.underlying184
 have hu2 : Tryz.prog.underlying 201 = some (.map 3 3) := Tryz.underlying201
 have hz1 : ∀ w, (zeroValue 201).run Tryz.prog w = .ok (codM.enc none) w := fun w => Tryz.zeroValue201 w
 obtain ⟨b', hs⟩ := h.has a hr0
 obtain ⟨b1, e, h1, h2, h3⟩ := h.at_ a _ hs
 obtain rfl : b' = b1 := by simpa using e
 have hl := h.map.look (z0 := none) hu1 (hz1 w) ha
 rw [hs] at hl
 obtain ⟨w1, hr1, hm1, hg1, hs1⟩ := h3.drop hu2 hb 0
 have hr1' : ∀ ty, (Builtin.delete_ #[201, 3] ty #[.map (some b'), .int .i64 b]).run Tryz.prog w = .ok (.tuple #[]) w1 := fun ty => hr1
 have hM1 : MapAt codM B rm w1 := h.map.kept hg1 (by simp; exact fun e => h2 e.symm)
 have hl2 := hM1.look (z0 := none) hu1 (hz1 w1) ha
 rw [hs] at hl2
 have hln := hm1.len hu2 0
 have hln' : ∀ ty, (Builtin.len_ #[201] ty #[.map (some b')]).run Tryz.prog w1 = .ok (.int .i64 (sdel (rows a) b).length) w1 := fun ty => hln
 have hO1 : Only (oblk B rm) (fun _ => False) w w1 := only_grown hg1 (.inr ⟨a, hs⟩)
 have hdl : (sdel (rows a) b).length ≤ 1000000 := Nat.le_trans (List.length_filter_le _ _) hlen
 by_cases hz : sdel (rows a) b = []
 · obtain ⟨w2, hr2, hm2, hg2, hs2⟩ := hM1.drop hu1 ha 0
   have hr2' : ∀ ty, (Builtin.delete_ #[184, 3] ty #[.map (some B), .int .i64 a]).run Tryz.prog w1 = .ok (.tuple #[]) w2 := fun ty => hr2
   rw [hz] at hln'
   have Hfin : OutTo codI B rm (fun i => if i = a then sdel (rows a) b else rows i) w w2 := by
    rw [hz]
    refine ⟨_, h.gone hs hm2 (fun k hk hk1 hk2 => ?_), only_trans hO1 (only_grown hg2 (.inl rfl)), fun k hk => .inl (oblk_del h.map.srt hk)⟩
    rw [hg2.block k (by omega) (by simpa using hk1), hg1.block k hk (by simpa using hk2)]
   have HF := Lib.hid Hfin
   have HL := Lib.hid hl
   have HL2 := Lib.hid hl2
   have HR1 := Lib.hid hr1'
   have HR2 := Lib.hid hr2'
   have HN := Lib.hid hln'
   clear Hfin h hs hl hl2 hr1 hr1' hr2 hr2' hln hln' hM1 hm1 hm2 hg1 hg2 hs1 hs2 hO1 hdl hz h1 h2 h3 e hr0 hlen
   go_enter Tryz.func131, Tryz.ntmps131
   have tok1 : True := trivial
   have tok2 : True := trivial
   go_wp2_with (first
    | (at_lookup; have _t := tok1; refine wpl_look rfl _ _ _ _ rfl rfl rfl HL.out ?_; dsimp only [codM, Option.getD]; clear tok1)
    | (at_lookup; refine wpl_look rfl _ _ _ _ rfl rfl rfl HL2.out ?_; dsimp only [codM, Option.getD])
    | (at_delete; have _t := tok2; refine wpl_drop rfl _ _ _ _ rfl rfl rfl (HR1.out _) ?_; clear tok2)
    | (at_delete; refine wpl_drop rfl _ _ _ _ rfl rfl rfl (HR2.out _) ?_)
    | (at_len; refine wpl_len rfl _ _ rfl rfl (HN.out _) ?_; dsimp only [List.length_nil])
    | fail)
   exact bodyPost_end (results_none rfl _ _ _) rfl ⟨rfl, HF.out⟩
 · have Hfin : OutTo codI B rm (fun i => if i = a then sdel (rows a) b else rows i) w w1 :=
    ⟨rm, h.upd hs hz hm1 hg1, hO1, fun k hk => .inl hk⟩
   obtain ⟨n, hn⟩ : ∃ n, n = (sdel (rows a) b).length := ⟨_, rfl⟩
   have hpos : 0 < n := by rw [hn]; exact List.length_pos_iff.2 hz
   have hne : (decide ((n : Int) = 0)) = false := by simp; omega
   have hne' : ((n : Int) == 0) = false := by simp; omega
   rw [← hn] at hln' hdl
   have HF := Lib.hid Hfin
   have HL := Lib.hid hl
   have HL2 := Lib.hid hl2
   have HR1 := Lib.hid hr1'
   have HN := Lib.hid hln'
   clear Hfin h hs hl hl2 hr1 hr1' hln hln' hM1 hm1 hg1 hs1 hO1 hz h1 h2 h3 e hr0 hlen hn
   go_enter Tryz.func131, Tryz.ntmps131
   have tok1 : True := trivial
   go_wp2_with (first
    | (at_lookup; have _t := tok1; refine wpl_look rfl _ _ _ _ rfl rfl rfl HL.out ?_; dsimp only [codM, Option.getD]; clear tok1)
    | (at_lookup; refine wpl_look rfl _ _ _ _ rfl rfl rfl HL2.out ?_; dsimp only [codM, Option.getD])
    | (at_delete; refine wpl_drop rfl _ _ _ _ rfl rfl rfl (HR1.out _) ?_)
    | (at_len; refine wpl_len rfl _ _ rfl rfl (HN.out _) ?_)
    | fail)
   exact bodyPost_end (results_none rfl _ _ _) rfl ⟨rfl, HF.out⟩
set_option maxRecDepth 100000 in
set_option maxHeartbeats 2000000 in
theorem take_U {B : Nat} {rm : List (Int × Option Nat)} {rows : Int → List (Int × Unit)} {w : World} (h : OutAt codU B rm rows w) {a b : Int} (hr0 : rows a ≠ []) (hlen : (rows a).length ≤ 1000000) (ha : (Lit.int .i64 a).wf = true) (hb : (Lit.int .i64 b).wf = true) :
 Calls Tryz.prog 109 #[.map (some B), .int .i64 a, .int .i64 b] w fun e w' => e = .returned (.tuple #[]) ∧ OutTo codU B rm (fun i => if i = a then sdel (rows a) b else rows i) w w' := by
 have hu1 : Tryz.prog.underlying 159 = some (.map 3 196) := Tryz.underlying159
 have hu2 : Tryz.prog.underlying 196 = some (.map 3 174) := Tryz.underlying196
 have hz1 : ∀ w, (zeroValue 196).run Tryz.prog w = .ok (codM.enc none) w := fun w => Tryz.zeroValue196 w
 obtain ⟨b', hs⟩ := h.has a hr0
 obtain ⟨b1, e, h1, h2, h3⟩ := h.at_ a _ hs
 obtain rfl : b' = b1 := by simpa using e
 have hl := h.map.look (z0 := none) hu1 (hz1 w) ha
 rw [hs] at hl
 obtain ⟨w1, hr1, hm1, hg1, hs1⟩ := h3.drop hu2 hb 0
 have hr1' : ∀ ty, (Builtin.delete_ #[196, 3] ty #[.map (some b'), .int .i64 b]).run Tryz.prog w = .ok (.tuple #[]) w1 := fun ty => hr1
 have hM1 : MapAt codM B rm w1 := h.map.kept hg1 (by simp; exact fun e => h2 e.symm)
 have hl2 := hM1.look (z0 := none) hu1 (hz1 w1) ha
 rw [hs] at hl2
 have hln := hm1.len hu2 0
 have hln' : ∀ ty, (Builtin.len_ #[196] ty #[.map (some b')]).run Tryz.prog w1 = .ok (.int .i64 (sdel (rows a) b).length) w1 := fun ty => hln
 have hO1 : Only (oblk B rm) (fun _ => False) w w1 := only_grown hg1 (.inr ⟨a, hs⟩)
 have hdl : (sdel (rows a) b).length ≤ 1000000 := Nat.le_trans (List.length_filter_le _ _) hlen
 by_cases hz : sdel (rows a) b = []
 · obtain ⟨w2, hr2, hm2, hg2, hs2⟩ := hM1.drop hu1 ha 0
   have hr2' : ∀ ty, (Builtin.delete_ #[159, 3] ty #[.map (some B), .int .i64 a]).run Tryz.prog w1 = .ok (.tuple #[]) w2 := fun ty => hr2
   rw [hz] at hln'
   have Hfin : OutTo codU B rm (fun i => if i = a then sdel (rows a) b else rows i) w w2 := by
    rw [hz]
    refine ⟨_, h.gone hs hm2 (fun k hk hk1 hk2 => ?_), only_trans hO1 (only_grown hg2 (.inl rfl)), fun k hk => .inl (oblk_del h.map.srt hk)⟩
    rw [hg2.block k (by omega) (by simpa using hk1), hg1.block k hk (by simpa using hk2)]
   have HF := Lib.hid Hfin
   have HL := Lib.hid hl
   have HL2 := Lib.hid hl2
   have HR1 := Lib.hid hr1'
   have HR2 := Lib.hid hr2'
   have HN := Lib.hid hln'
   clear Hfin h hs hl hl2 hr1 hr1' hr2 hr2' hln hln' hM1 hm1 hm2 hg1 hg2 hs1 hs2 hO1 hdl hz h1 h2 h3 e hr0 hlen
   go_enter Tryz.func109, Tryz.ntmps109
   have tok1 : True := trivial
   have tok2 : True := trivial
   go_wp2_with (first
    | (at_lookup; have _t := tok1; refine wpl_look rfl _ _ _ _ rfl rfl rfl HL.out ?_; dsimp only [codM, Option.getD]; clear tok1)
    | (at_lookup; refine wpl_look rfl _ _ _ _ rfl rfl rfl HL2.out ?_; dsimp only [codM, Option.getD])
    | (at_delete; have _t := tok2; refine wpl_drop rfl _ _ _ _ rfl rfl rfl (HR1.out _) ?_; clear tok2)
    | (at_delete; refine wpl_drop rfl _ _ _ _ rfl rfl rfl (HR2.out _) ?_)
    | (at_len; refine wpl_len rfl _ _ rfl rfl (HN.out _) ?_; dsimp only [List.length_nil])
    | fail)
   exact bodyPost_end (results_none rfl _ _ _) rfl ⟨rfl, HF.out⟩
 · have Hfin : OutTo codU B rm (fun i => if i = a then sdel (rows a) b else rows i) w w1 :=
    ⟨rm, h.upd hs hz hm1 hg1, hO1, fun k hk => .inl hk⟩
   obtain ⟨n, hn⟩ : ∃ n, n = (sdel (rows a) b).length := ⟨_, rfl⟩
   have hpos : 0 < n := by rw [hn]; exact List.length_pos_iff.2 hz
   have hne : (decide ((n : Int) = 0)) = false := by simp; omega
   have hne' : ((n : Int) == 0) = false := by simp; omega
   rw [← hn] at hln' hdl
   have HF := Lib.hid Hfin
   have HL := Lib.hid hl
   have HL2 := Lib.hid hl2
   have HR1 := Lib.hid hr1'
   have HN := Lib.hid hln'
   clear Hfin h hs hl hl2 hr1 hr1' hln hln' hM1 hm1 hg1 hs1 hO1 hz h1 h2 h3 e hr0 hlen hn
   go_enter Tryz.func109, Tryz.ntmps109
   have tok1 : True := trivial
   go_wp2_with (first
    | (at_lookup; have _t := tok1; refine wpl_look rfl _ _ _ _ rfl rfl rfl HL.out ?_; dsimp only [codM, Option.getD]; clear tok1)
    | (at_lookup; refine wpl_look rfl _ _ _ _ rfl rfl rfl HL2.out ?_; dsimp only [codM, Option.getD])
    | (at_delete; refine wpl_drop rfl _ _ _ _ rfl rfl rfl (HR1.out _) ?_)
    | (at_len; refine wpl_len rfl _ _ rfl rfl (HN.out _) ?_)
    | fail)
   exact bodyPost_end (results_none rfl _ _ _) rfl ⟨rfl, HF.out⟩
end
section
open Go.RowKit Go.Maps
def colU {β : Type} (M : Cls β) (b : Int) : List (Int × Unit) := (colOf M b).map (fun x => (x.1, ()))
theorem mem_colU {β : Type} {M : Cls β} {b : Int} {x : Int × Unit} : x ∈ colU M b ↔ ∃ v, (x.1, v) ∈ colOf M b := by
 unfold colU
 rw [List.mem_map]
 constructor
 · rintro ⟨y, hy, rfl⟩
   exact ⟨y.2, hy⟩
 · rintro ⟨v, hv⟩
   exact ⟨_, hv, rfl⟩
theorem srt_colU {β : Type} {M : Cls β} (h : SrtC M) (b : Int) : SrtK (colU M b) := List.pairwise_map.2 ((h.col b).imp (fun {x y} hxy => hxy))
theorem colU_length {β : Type} (M : Cls β) (b : Int) : (colU M b).length ≤ M.length := by unfold colU; rw [List.length_map]; exact col_length M b
theorem colU_put {β : Type} {M : Cls β} (h : SrtC M) (a b : Int) (v : β) : (fun j => if j = b then sput (colU M b) a () else colU M j) = colU (cput M a b v) := by
 funext j
 split
 · rename_i e; subst e
   refine ((srt_colU h j).put _ _).ext (srt_colU (h.put _ _ _) _) ?_
   rintro ⟨i, u⟩
   rw [mem_sput, mem_colU, mem_colU, h.col_put]
   simp only [if_true]
   constructor
   · rintro (h' | ⟨⟨v', h'⟩, hne⟩)
     · cases h'; exact ⟨v, mem_sput.2 (.inl rfl)⟩
     · exact ⟨v', mem_sput.2 (.inr ⟨h', hne⟩)⟩
   · rintro ⟨v', h'⟩
     rcases mem_sput.1 h' with h' | ⟨h', hne⟩
     · simp at h'; exact .inl (by rw [h'.1])
     · exact .inr ⟨⟨v', h'⟩, hne⟩
 · rename_i e
   unfold colU
   rw [h.col_put, if_neg e]
theorem colU_del {β : Type} {M : Cls β} (h : SrtC M) (a b : Int) : (fun j => if j = b then sdel (colU M b) a else colU M j) = colU (cdel M a b) := by
 funext j
 split
 · rename_i e; subst e
   refine ((srt_colU h j).del _).ext (srt_colU (h.del _ _) _) ?_
   rintro ⟨i, u⟩
   rw [mem_sdel, mem_colU, mem_colU, h.col_del]
   simp only [if_true]
   constructor
   · rintro ⟨⟨v', h'⟩, hne⟩
     exact ⟨v', mem_sdel.2 ⟨h', hne⟩⟩
   · rintro ⟨v', h'⟩
     obtain ⟨h', hne⟩ := mem_sdel.1 h'
     exact ⟨⟨v', h'⟩, hne⟩
 · rename_i e
   unfold colU
   rw [h.col_del, if_neg e]
theorem rowOf_put {β : Type} {M : Cls β} (h : SrtC M) (a b : Int) (v : β) : (fun i => if i = a then sput (rowOf M a) b v else rowOf M i) = rowOf (cput M a b v) := by
 funext i; rw [h.row_put]
theorem rowOf_del {β : Type} {M : Cls β} (h : SrtC M) (a b : Int) : (fun i => if i = a then sdel (rowOf M a) b else rowOf M i) = rowOf (cdel M a b) := by
 funext i; rw [h.row_del]
structure MapsAt {β : Type} (c : Cod β) (B C : Nat) (rm cm : List (Int × Option Nat)) (M : Cls β) (w : World) : Prop where
 row : OutAt c B rm (rowOf M) w
 col : OutAt codU C cm (colU M) w
 off : ∀ k, oblk B rm k → ¬ oblk C cm k
def GrAt {β : Type} (c : Cod β) (T : TypeId) (g : Nat) (M : Cls β) (F : FP) (w : World) : Prop :=
 SrtC M ∧ F g ∧ (∀ k, F k → k < w.heap.size) ∧
  ((M = [] ∧ w.heap[g]? = some (.cells #[.map none, .map none, .int .i64 0] T (0, 0))) ∨
   ∃ B C rm cm, w.heap[g]? = some (.cells #[.map (some B), .map (some C), .int .i64 M.length] T (0, 0)) ∧ MapsAt c B C rm cm M w ∧ (∀ k, oblk B rm k → F k) ∧ (∀ k, oblk C cm k → F k))
section
variable {β : Type} {c : Cod β} {T : TypeId} {g : Nat} {M : Cls β} {F : FP} {w : World}
theorem GrAt.keep {w' : World} (h : GrAt c T g M F w) (hg : Grow w w') (hb : ∀ k, F k → w'.heap[k]? = w.heap[k]?) : GrAt c T g M F w' := by
 obtain ⟨h1, h2, h3, h4⟩ := h
 refine ⟨h1, h2, fun k hk => Nat.lt_of_lt_of_le (h3 k hk) hg.size, ?_⟩
 rcases h4 with ⟨e, hh⟩ | ⟨B, C, rm, cm, hh, hM, hF1, hF2⟩
 · exact .inl ⟨e, (hb g h2).trans hh⟩
 · exact .inr ⟨B, C, rm, cm, (hb g h2).trans hh, ⟨hM.row.block (fun k hk => hb k (hF1 k hk)), hM.col.block (fun k hk => hb k (hF2 k hk)), hM.off⟩, hF1, hF2⟩
theorem outer_length {B : Nat} {rm : List (Int × Option Nat)} (h : OutAt c B rm (rowOf M) w) (hs : SrtC M) : rm.length ≤ M.length := by
 have hk : (rm.map (·.1)).Pairwise (· < ·) := List.pairwise_map.2 h.map.srt
 have e := hs.flat hk h.keys
 have h1 : M.length = ((rm.map (·.1)).map (fun a => (rowOf M a).length)).sum := by
  conv => lhs; rw [← e]
  rw [List.length_flatMap]
  simp
 have h2 : ∀ l : List Int, (∀ a ∈ l, rowOf M a ≠ []) → l.length ≤ (l.map (fun a => (rowOf M a).length)).sum := by
  intro l
  induction l with
  | nil => simp
  | cons a l ih =>
   intro hl
   have := List.length_pos_iff.2 (hl a (by simp))
   have := ih (fun b hb => hl b (List.mem_cons_of_mem _ hb))
   simp
   omega
 have := h2 (rm.map (·.1)) (fun a ha => (h.keys a).1 ha)
 rw [h1]
 simpa using this
theorem nodup_le : ∀ {ks l : List Int}, ks.Nodup → (∀ x ∈ ks, x ∈ l) → ks.length ≤ l.length
 | [], l, _, _ => Nat.zero_le _
 | k :: ks, l, hn, hs => by
  have hk := List.nodup_cons.1 hn
  have := nodup_le (l := l.erase k) hk.2 (fun x hx => (List.mem_erase_of_ne (fun e => hk.1 (by rw [← e]; exact hx))).2 (hs x (List.mem_cons_of_mem _ hx)))
  rw [List.length_erase_of_mem (hs k (by simp))] at this
  have := List.length_pos_of_mem (hs k (by simp))
  simp
  omega
theorem cols_length {C : Nat} {cm : List (Int × Option Nat)} (h : OutAt codU C cm (colU M) w) : cm.length ≤ M.length := by
 have hk : (cm.map (·.1)).Nodup := List.pairwise_map.2 (h.map.srt.imp (fun {a b} hab => by omega))
 have := nodup_le (l := M.map (fun x => x.1.2)) hk (fun b hb => by
  obtain ⟨x, hx⟩ := List.exists_mem_of_ne_nil _ ((h.keys b).1 hb)
  obtain ⟨v, hv⟩ := mem_colU.1 hx
  exact List.mem_map.2 ⟨_, mem_colOf.1 hv, rfl⟩)
 simpa using this
end
theorem grid_New_I (w : World) : Calls Tryz.prog 80 #[] w fun e w' => e = .returned (.pointer (some ⟨w.heap.size, 0, none⟩)) ∧ w' = w.alloc (.cells #[.map none, .map none, .int .i64 0] 186) := by
 go_enter Tryz.func80, Tryz.ntmps80
 go_wp2
 go_ret
 exact ⟨rfl, rfl⟩
theorem GrAt.new_I (w : World) : GrAt codI 186 w.heap.size [] (fun k => k = w.heap.size) (w.alloc (.cells #[.map none, .map none, .int .i64 0] 186)) :=
 ⟨List.Pairwise.nil, rfl, fun k hk => by subst hk; simp, .inl ⟨rfl, World.alloc_heap_new w _⟩⟩
set_option maxRecDepth 100000 in
set_option maxHeartbeats 2000000 in
theorem grid_Get_I {g : Nat} {M : Cls Int} {F : FP} {w : World} (h : GrAt codI 186 g M F w) {a b : Int} (ha : (Lit.int .i64 a).wf = true) (hb : (Lit.int .i64 b).wf = true) :
 Calls Tryz.prog 130 #[.pointer (some ⟨g, 0, none⟩), .int .i64 a, .int .i64 b] w fun e w' => e = .returned (.tuple #[codI.enc ((cget M a b).getD (0 : Int)), .bool (cget M a b).isSome]) ∧ w' = w := by
 have hu1 : Tryz.prog.underlying 184 = some (.map 3 201) := Tryz.underlying184
 have hu2 : Tryz.prog.underlying 201 = some (.map 3 3) := Tryz.underlying201
 have hz1 : ∀ w, (zeroValue 201).run Tryz.prog w = .ok (codM.enc none) w := fun w => Tryz.zeroValue201 w
 have hz2 : ∀ w, (zeroValue 3).run Tryz.prog w = .ok (codI.enc (0 : Int)) w := fun w => Tryz.zeroValue3 w
 have key : ∃ mv mi, w.cell? ⟨g, 0, none⟩ = some (.map mv) ∧ (Instr.lookup 184 (.map mv) (.int .i64 a) false).run Tryz.prog w = .ok (.map mi) w ∧
  (Instr.lookup 201 (.map mi) (.int .i64 b) true).run Tryz.prog w = .ok (.tuple #[codI.enc ((cget M a b).getD (0 : Int)), .bool (cget M a b).isSome]) w := by
  obtain ⟨_, _, _, (⟨rfl, hh⟩ | ⟨B, C, rm, cm, hh, hM, _⟩)⟩ := h
  · refine ⟨none, none, by rw [World.cell?, hh]; rfl, nil_look hu1 (hz1 w) ha false, ?_⟩
    exact nil_look hu2 (hz2 w) hb true
  · have hl := hM.row.map.look (z0 := none) hu1 (hz1 w) ha
    cases hs : sget rm a with
    | none =>
     rw [hs] at hl
     refine ⟨some B, none, by rw [World.cell?, hh]; rfl, hl, ?_⟩
     have hr := hM.row.isNil hs
     have : cget M a b = none := by rw [cget, hr]; rfl
     rw [this]
     exact nil_look hu2 (hz2 w) hb true
    | some x =>
     obtain ⟨b', rfl, _, _, h3⟩ := hM.row.at_ a x hs
     rw [hs] at hl
     exact ⟨some B, some b', by rw [World.cell?, hh]; rfl, hl, h3.look_ok hu2 (hz2 w) hb⟩
 obtain ⟨mv, mi, hc, h1, h2⟩ := key
 obtain ⟨r, hr⟩ : ∃ r, r = codI.enc ((cget M a b).getD (0 : Int)) := ⟨_, rfl⟩
 obtain ⟨q, hq⟩ : ∃ q, q = (cget M a b).isSome := ⟨_, rfl⟩
 rw [← hr, ← hq] at h2
 rw [← hr, ← hq]
 have H1 := Lib.hid h1
 have H2 := Lib.hid h2
 clear h h1 h2 hu1 hu2 hz1 hz2 ha hb hr hq
 go_enter Tryz.func130, Tryz.ntmps130
 have tok1 : True := trivial
 go_wp2_with (first
  | (at_lookup; have _t := tok1; refine wpl_look rfl _ _ _ _ rfl rfl rfl H1.out ?_; clear tok1)
  | (at_lookup; refine wpl_look rfl _ _ _ _ rfl rfl rfl H2.out ?_)
  | fail)
 exact bodyPost_ret (v := .tuple #[r, .bool q]) (by simp [results, Tryz.results130, go_sem] <;> rfl) rfl ⟨rfl, rfl⟩
end
section
open Go.RowKit Go.Maps
def GrTo {β : Type} (c : Cod β) (T : TypeId) (g : Nat) (M : Cls β) (F : FP) (w w' : World) : Prop :=
 ∃ F', GrAt c T g M F' w' ∧ (∀ k, F' k → F k ∨ w.heap.size ≤ k) ∧ Only F (fun _ => False) w w'
theorem cells3 {w : World} {g : Nat} {T : TypeId} {u0 u1 u2 : Value} (h : w.heap[g]? = some (.cells #[u0, u1, u2] T (0, 0))) :
 w.cell? ⟨g, 0, none⟩ = some u0 ∧ w.cell? ⟨g, 1, none⟩ = some u1 ∧ w.cell? ⟨g, 2, none⟩ = some u2 ∧ w.frozen? ⟨g, 0, none⟩ = false ∧ w.frozen? ⟨g, 1, none⟩ = false ∧ w.frozen? ⟨g, 2, none⟩ = false := by
 refine ⟨by rw [World.cell?, h]; rfl, by rw [World.cell?, h]; rfl, by rw [World.cell?, h]; rfl, ?_, ?_, ?_⟩ <;> simp [World.frozen?, h]
theorem set3 {w : World} {g : Nat} {T : TypeId} {u0 u1 u2 u : Value} (h : w.heap[g]? = some (.cells #[u0, u1, u2] T (0, 0))) :
 (w.setCell ⟨g, 0, none⟩ u).heap[g]? = some (.cells #[u, u1, u2] T (0, 0)) ∧ (w.setCell ⟨g, 1, none⟩ u).heap[g]? = some (.cells #[u0, u, u2] T (0, 0)) ∧ (w.setCell ⟨g, 2, none⟩ u).heap[g]? = some (.cells #[u0, u1, u] T (0, 0)) := by
 have hlt : g < w.heap.size := (Array.getElem?_eq_some_iff.1 h).1
 have hg := (Array.getElem?_eq_some_iff.1 h).2
 refine ⟨?_, ?_, ?_⟩ <;> simp [World.setCell, Array.getElem?_modify, h]
theorem only_set {w : World} {g o : Nat} {u : Value} {Ψ : FP} (h : Ψ g) : Only Ψ (fun _ => False) w (w.setCell ⟨g, o, none⟩ u) :=
 ⟨⟨rfl, rfl, rfl, by simp [World.setCell]⟩, fun k hk h1 _ => Below.heap_setCell _ _ _ k (fun e => h1 (by subst e; exact h))⟩
theorem map_ne {w : World} {g k : Nat} {T : TypeId} {cs : Array Value} {es : Array MapEntry} {cl : Nat} (h : w.heap[g]? = some (.cells cs T (0, 0))) (hk : w.heap[k]? = some (.map es cl)) : k ≠ g := by
 rintro rfl
 rw [h] at hk; cases hk
theorem set_block {w : World} {g o k : Nat} {u : Value} (h : k ≠ g) : (w.setCell ⟨g, o, none⟩ u).heap[k]? = w.heap[k]? := Below.heap_setCell _ _ _ k h
section
variable {β : Type} {c : Cod β} {B C : Nat} {rm cm : List (Int × Option Nat)} {M : Cls β} {w w' : World}
theorem MapsAt.block (h : MapsAt c B C rm cm M w) (hb : ∀ k, oblk B rm k ∨ oblk C cm k → w'.heap[k]? = w.heap[k]?) : MapsAt c B C rm cm M w' :=
 ⟨h.row.block (fun k hk => hb k (.inl hk)), h.col.block (fun k hk => hb k (.inr hk)), h.off⟩
theorem MapsAt.notg {g : Nat} {T : TypeId} {cs : Array Value} (h : MapsAt c B C rm cm M w) (hg : w.heap[g]? = some (.cells cs T (0, 0))) {k : Nat} (hk : oblk B rm k ∨ oblk C cm k) : k ≠ g := by
 rcases hk with hk | hk
 · obtain ⟨es, cl, he⟩ := h.row.isMap hk
   exact map_ne hg he
 · obtain ⟨es, cl, he⟩ := h.col.isMap hk
   exact map_ne hg he
theorem MapsAt.set {g o : Nat} {T : TypeId} {cs : Array Value} {u : Value} (h : MapsAt c B C rm cm M w) (hg : w.heap[g]? = some (.cells cs T (0, 0))) : MapsAt c B C rm cm M (w.setCell ⟨g, o, none⟩ u) :=
 h.block (fun k hk => set_block (h.notg hg hk))
theorem maps_to {g : Nat} {T : TypeId} {F : FP} {M' : Cls β} {w0 w1 w2 w3 : World} {n : Int} (h0 : Only F (fun _ => False) w0 w1)
 (hg : w1.heap[g]? = some (.cells #[.map (some B), .map (some C), .int .i64 n] T (0, 0))) (hM : MapsAt c B C rm cm M w1) (hs : SrtC M') (hn : n = M'.length) (hF : F g) (hFl : ∀ k, F k → k < w0.heap.size) (hF1 : ∀ k, oblk B rm k → F k ∨ w0.heap.size ≤ k) (hF2 : ∀ k, oblk C cm k → F k ∨ w0.heap.size ≤ k)
 (hc : OutTo codU C cm (colU M') w1 w2) (hr : ∀ h2 : OutAt c B rm (rowOf M) w2, OutTo c B rm (rowOf M') w2 w3) : GrTo c T g M' F w0 w3 := by
 obtain ⟨cm', c1, c2, c3⟩ := hc
 have hrow2 : OutAt c B rm (rowOf M) w2 := hM.row.block (fun k hk => c2.block k (hM.row.lt hk) (hM.off k hk) (fun h => h))
 obtain ⟨rm', r1, r2, r3⟩ := hr hrow2
 have hglt : g < w1.heap.size := (Array.getElem?_eq_some_iff.1 hg).1
 have hcol3 : OutAt codU C cm' (colU M') w3 := c1.block (fun k hk => r2.block k (c1.lt hk) (fun hk' => by
  rcases c3 k hk with h | h
  · exact hM.off k hk' h
  · have := hM.row.lt hk'; omega) (fun h => h))
 have hg3 : w3.heap[g]? = some (.cells #[.map (some B), .map (some C), .int .i64 n] T (0, 0)) := by
  rw [r2.block g (Nat.lt_of_lt_of_le hglt c2.grow.size) (fun hk => hM.notg hg (.inl hk) rfl) (fun h => h), c2.block g hglt (fun hk => hM.notg hg (.inr hk) rfl) (fun h => h)]
  exact hg
 have hsz1 := h0.grow.size
 have hsz2 := c2.grow.size
 have hsz3 := r2.grow.size
 have hlt : ∀ k, k < w0.heap.size → ¬ F k → ¬ oblk B rm k ∧ ¬ oblk C cm k := fun k hk hnF =>
  ⟨fun h => (hF1 k h).elim hnF (fun h => by omega), fun h => (hF2 k h).elim hnF (fun h => by omega)⟩
 refine ⟨fun k => F k ∨ (w0.heap.size ≤ k ∧ k < w3.heap.size), ⟨hs, .inl hF, fun k hk => ?_, .inr ⟨B, C, rm', cm', by rw [hg3, hn], ⟨r1, hcol3, fun k hk hk' => ?_⟩, fun k hk => ?_, fun k hk => ?_⟩⟩, fun k hk => hk.imp id (fun h => h.1), ?_⟩
 · rcases hk with h | h
   · have := hFl k h; omega
   · exact h.2
 · have e1 := r3 k hk
   have e2 := c3 k hk'
   have l2 := c1.lt hk'
   rcases e1 with e1 | e1
   · have := hM.row.lt e1
     rcases e2 with e2 | e2
     · exact hM.off k e1 e2
     · omega
   · omega
 · have hl := r1.lt hk
   rcases r3 k hk with h | h
   · exact (hF1 k h).imp id (fun h => ⟨h, hl⟩)
   · exact .inr ⟨by omega, hl⟩
 · have hl := hcol3.lt hk
   rcases c3 k hk with h | h
   · exact (hF2 k h).imp id (fun h => ⟨h, hl⟩)
   · exact .inr ⟨by omega, hl⟩
 · refine ⟨(h0.grow.trans c2.grow).trans r2.grow, fun k hk h1 _ => ?_⟩
   obtain ⟨n1, n2⟩ := hlt k hk h1
   rw [r2.block k (by omega) n1 (fun h => h), c2.block k (by omega) n2 (fun h => h)]
   exact h0.block k hk h1 (fun h => h)
theorem row_to {g : Nat} {T : TypeId} {F : FP} {M' : Cls β} {w0 w1 w3 : World} {n : Int} (h0 : Only F (fun _ => False) w0 w1)
 (hg : w1.heap[g]? = some (.cells #[.map (some B), .map (some C), .int .i64 n] T (0, 0))) (hM : MapsAt c B C rm cm M w1) (hs : SrtC M') (hn : n = M'.length) (hF : F g) (hFl : ∀ k, F k → k < w0.heap.size) (hF1 : ∀ k, oblk B rm k → F k ∨ w0.heap.size ≤ k) (hF2 : ∀ k, oblk C cm k → F k ∨ w0.heap.size ≤ k)
 (hc : colU M' = colU M) (hr : OutTo c B rm (rowOf M') w1 w3) : GrTo c T g M' F w0 w3 :=
 maps_to h0 hg hM hs hn hF hFl hF1 hF2 ⟨cm, by rw [hc]; exact hM.col, Only.refl _ _ _, fun k hk => .inl hk⟩ (fun _ => hr)
end
set_option maxRecDepth 100000 in
set_option maxHeartbeats 4000000 in
theorem grid_Set_I {g : Nat} {M : Cls Int} {F : FP} {w : World} (h : GrAt codI 186 g M F w) (hlen : M.length ≤ 1000000) {a b : Int} (ha : (Lit.int .i64 a).wf = true) (hb : (Lit.int .i64 b).wf = true) (v : Int) :
 Calls Tryz.prog 119 #[.pointer (some ⟨g, 0, none⟩), .int .i64 a, .int .i64 b, .int .i64 v] w fun e w' => e = .returned (.tuple #[]) ∧ GrTo codI 186 g (cput M a b v) F w w' := by
 have hu1 : Tryz.prog.underlying 184 = some (.map 3 201) := Tryz.underlying184
 have hu2 : Tryz.prog.underlying 201 = some (.map 3 3) := Tryz.underlying201
 have hz1 : ∀ w, (zeroValue 201).run Tryz.prog w = .ok (codM.enc none) w := fun w => Tryz.zeroValue201 w
 have hz2 : ∀ w, (zeroValue 3).run Tryz.prog w = .ok (codI.enc (0 : Int)) w := fun w => Tryz.zeroValue3 w
 have hmm := @run_makeMap Tryz.prog
 obtain ⟨hs, hFg, hFl, hmem⟩ := h
 have hkey : ∃ (mv : Option Nat) (q : Bool), w.cell? ⟨g, 0, none⟩ = some (.map mv) ∧ (∀ w, (binOp .eql 184 (.map mv) (.map Option.none)).run Tryz.prog w = .ok (.bool q) w) ∧
  ((q = true ∧ M = [] ∧ w.heap[g]? = some (.cells #[.map none, .map none, .int .i64 0] 186 (0, 0))) ∨
   (q = false ∧ ∃ B C rm cm, w.heap[g]? = some (.cells #[.map (some B), .map (some C), .int .i64 M.length] 186 (0, 0)) ∧ MapsAt codI B C rm cm M w ∧ (∀ k, oblk B rm k → F k) ∧ (∀ k, oblk C cm k → F k))) := by
  rcases hmem with ⟨e, hh⟩ | ⟨B, C, rm, cm, hh, h⟩
  · exact ⟨none, true, (cells3 hh).1, fun w => by kernel_rfl, .inl ⟨rfl, e, hh⟩⟩
  · exact ⟨some B, false, (cells3 hh).1, fun w => by kernel_rfl, .inr ⟨rfl, B, C, rm, cm, hh, h⟩⟩
 obtain ⟨mv, q, kq, hq, hmem⟩ := hkey
 have HM := Lib.hid hmem
 have HFl := Lib.hid hFl
 have HFg := Lib.hid hFg
 clear hmem hFl hFg
 go_enter Tryz.func119, Tryz.ntmps119
 go_upto_if 16 with fail
 clear hq kq
 go_cut [] (fun wx => ∃ B C rm cm, wx.heap[g]? = some (.cells #[.map (some B), .map (some C), .int .i64 M.length] 186 (0, 0)) ∧ MapsAt codI B C rm cm M wx ∧ Only F (fun _ => False) w wx ∧ (∀ k, oblk B rm k → F k ∨ w.heap.size ≤ k) ∧ (∀ k, oblk C cm k → F k ∨ w.heap.size ≤ k))
 case first =>
  rcases HM.out with ⟨rfl, e, hh⟩ | ⟨rfl, B, C, rm, cm, hh, hM, h1, h2⟩
  · obtain ⟨k0, k1, k2, f0, f1, f2⟩ := cells3 hh
    have hglt : g < w.heap.size := (Array.getElem?_eq_some_iff.1 hh).1
    have HH := Lib.hid hh
    have HGL := Lib.hid hglt
    have HE := Lib.hid e
    clear hh e
    go_wp2_with fail
    go_meet
    obtain rfl := HE.out
    obtain ⟨v0, hv0⟩ : ∃ v0, v0 = (w.setCell ⟨g, 0, none⟩ (.map (some w.heap.size))).setCell ⟨g, 1, none⟩ (.map (some (w.heap.size + 1))) := ⟨_, rfl⟩
    have hvs : v0.heap.size = w.heap.size := by rw [hv0]; simp [World.setCell]
    have hg3 : v0.heap[g]? = some (.cells #[.map (some w.heap.size), .map (some (w.heap.size + 1)), .int .i64 0] 186 (0, 0)) := by rw [hv0]; exact (set3 (set3 HH.out).1).2.1
    have hov : Only F (fun _ => False) w v0 := by rw [hv0]; exact only_trans (only_set HFg.out) (only_set HFg.out)
    rw [← hv0]
    clear hv0
    have hr : OutAt codI w.heap.size [] (rowOf []) ((v0.alloc (.map #[] 0)).alloc (.map #[] 0)) := by
     have := OutAt.made codI v0
     rw [hvs] at this
     exact (this.block (fun k hk => Below.heap_alloc _ _ k (this.lt hk))).congr (fun _ => rfl)
    have hc : OutAt codU (w.heap.size + 1) [] (colU ([] : Cls Int)) ((v0.alloc (.map #[] 0)).alloc (.map #[] 0)) := by
     have := OutAt.made codU (v0.alloc (.map #[] 0))
     rw [World.size_alloc, hvs] at this
     exact this.congr (fun _ => rfl)
    have hob : ∀ B k, oblk B [] k → k = B := fun B k hk => hk.elim id (fun ⟨a, ha⟩ => by simp [sget] at ha)
    have hM1 : MapsAt codI w.heap.size (w.heap.size + 1) [] [] ([] : Cls Int) ((v0.alloc (.map #[] 0)).alloc (.map #[] 0)) := ⟨hr, hc, fun k hk hk' => by have := hob _ _ hk; have := hob _ _ hk'; omega⟩
    have hg1 : ((v0.alloc (.map #[] 0)).alloc (.map #[] 0)).heap[g]? = some (.cells #[.map (some w.heap.size), .map (some (w.heap.size + 1)), .int .i64 0] 186 (0, 0)) := by
     rw [Below.heap_alloc _ _ g (by simp; omega), Below.heap_alloc _ _ g (by omega)]; exact hg3
    refine ⟨_, _, _, _, hg1, hM1, ?_, fun k hk => .inr ?_, fun k hk => .inr ?_⟩
    · exact only_trans hov (only_trans (only_alloc _) (only_alloc _))
    · have := hob _ _ hk; omega
    · have := hob _ _ hk; omega
  · obtain ⟨k0, k1, k2, f0, f1, f2⟩ := cells3 hh
    have HH := Lib.hid hh
    have HMM := Lib.hid hM
    have H1 := Lib.hid h1
    have H2 := Lib.hid h2
    clear hh hM h1 h2
    go_wp2_with fail
    go_meet
    exact ⟨B, C, rm, cm, HH.out, HMM.out, Only.refl _ _ _, fun k hk => .inl (H1.out k hk), fun k hk => .inl (H2.out k hk)⟩
 case rest =>
  obtain ⟨B, C, rm, cm, hh, hM, ho, h1, h2⟩ := hcut
  obtain ⟨k0, k1, k2, f0, f1, f2⟩ := cells3 hh
  have hrl := outer_length hM.row hs
  have hcl := cols_length hM.col
  have hra := row_length M a
  have hcb := colU_length M b
  have hFl := HFl.out
  have hFg := HFg.out
  obtain ⟨mi, hl1, hl2⟩ : ∃ mi, (Instr.lookup 184 (.map (some B)) (.int .i64 a) false).run Tryz.prog wc = .ok (.map mi) wc ∧
   (Instr.lookup 201 (.map mi) (.int .i64 b) true).run Tryz.prog wc = .ok (.tuple #[codI.enc ((cget M a b).getD (0 : Int)), .bool (cget M a b).isSome]) wc := by
   have hl := hM.row.map.look (z0 := none) hu1 (hz1 wc) ha
   cases hsg : sget rm a with
   | none =>
    rw [hsg] at hl
    refine ⟨none, hl, ?_⟩
    have hr := hM.row.isNil hsg
    have : cget M a b = none := by rw [cget, hr]; rfl
    rw [this]
    exact nil_look hu2 (hz2 wc) hb true
   | some x =>
    obtain ⟨b', rfl, _, _, h3⟩ := hM.row.at_ a x hsg
    rw [hsg] at hl
    exact ⟨some b', hl, h3.look_ok hu2 (hz2 wc) hb⟩
  obtain ⟨r, hr⟩ : ∃ r, r = codI.enc ((cget M a b).getD (0 : Int)) := ⟨_, rfl⟩
  rw [← hr] at hl2
  clear hr
  by_cases hsome : (cget M a b).isSome = true
  · -- the cell was there
    rw [hsome] at hl2
    have hcol : colU (cput M a b v) = colU M := by
     rw [← colU_put hs]
     funext j
     split
     · rename_i e; subst e
       obtain ⟨u, hu⟩ := Option.isSome_iff_exists.1 hsome
       refine ((srt_colU hs j).put _ _).ext (srt_colU hs j) (fun x => ?_)
       rw [mem_sput]
       constructor
       · rintro (e | e)
         · subst e; exact mem_colU.2 ⟨u, mem_colOf.2 (hs.get.1 hu)⟩
         · exact e.1
       · intro hx
         by_cases e : x.1 = a
         · exact .inl (by rw [← e])
         · exact .inr ⟨hx, e⟩
     · rfl
    have hn : (M.length : Int) = (cput M a b v).length := by rw [hs.length_put, if_pos hsome]
    have hlay := lay_I hM.row (by unfold maxLen; omega) (a := a) (b := b) (by unfold maxLen; omega) ha hb v
    rw [rowOf_put hs] at hlay
    have HLAY := Lib.hid hlay
    have HL1 := Lib.hid hl1
    have HL2 := Lib.hid hl2
    have HFIN := Lib.hid (And.intro ho (And.intro hh (And.intro hM (And.intro (hs.put a b v) (And.intro hn (And.intro hFg (And.intro hFl (And.intro h1 (And.intro h2 hcol)))))))))
    clear hlay hl1 hl2 ho hh hM hs hn hFg hFl h1 h2 hcol hsome hrl hcl hra hcb hlen ha hb hu1 hu2 hz1 hz2 hmm
    have tok1 : True := trivial
    go_wp2_with (first
     | (at_lookup; have _t := tok1; refine wpl_look rfl _ _ _ _ rfl rfl rfl HL1.out ?_; clear tok1)
     | (at_lookup; refine wpl_look rfl _ _ _ _ rfl rfl rfl HL2.out ?_)
     | (go_at_call 132; refine HLAY.out.mono ?_; rintro e w2 ⟨rfl, hout⟩; have HOUT := Lib.hid hout; clear hout)
     | fail)
    refine bodyPost_end (results_none rfl _ _ _) rfl ⟨rfl, ?_⟩
    obtain ⟨ho, hh, hM, hs', hn, hFg, hFl, h1, h2, hcol⟩ := HFIN.out
    exact row_to ho hh hM hs' hn hFg hFl h1 h2 hcol HOUT.out
  · -- it was not
    have hnone : (cget M a b).isSome = false := by simpa using hsome
    rw [hnone] at hl2
    have W1 : IntKind.i64.wrap ((M.length : Int) + 1) = (M.length : Int) + 1 := IntWalk.i64_in _ (by omega)
    obtain ⟨wy, hwy⟩ : ∃ wy, wy = wc.setCell ⟨g, 2, none⟩ (.int .i64 ((M.length : Int) + 1)) := ⟨_, rfl⟩
    have hgy : wy.heap[g]? = some (.cells #[.map (some B), .map (some C), .int .i64 ((M.length : Int) + 1)] 186 (0, 0)) := by rw [hwy]; exact (set3 hh).2.2
    have hMy : MapsAt codI B C rm cm M wy := by rw [hwy]; exact hM.set hh
    have hoy : Only F (fun _ => False) w wy := only_trans ho (by rw [hwy]; exact only_set hFg)
    have hn : (M.length : Int) + 1 = (cput M a b v).length := by rw [hs.length_put, if_neg hsome]; simp
    have hlayC := lay_U hMy.col (by unfold maxLen; omega) (a := b) (b := a) (by unfold maxLen; omega) hb ha ()
    rw [colU_put hs a b v] at hlayC
    have hlayR : ∀ w2, OutAt codI B rm (rowOf M) w2 → Calls Tryz.prog 132 #[.map (some B), .int .i64 a, .int .i64 b, .int .i64 v] w2 fun e w' => e = .returned (.tuple #[]) ∧ OutTo codI B rm (rowOf (cput M a b v)) w2 w' := fun w2 h2 => by
     have := lay_I h2 (by unfold maxLen; omega) (a := a) (b := b) (by unfold maxLen; omega) ha hb v
     rw [rowOf_put hs] at this
     exact this
    have hkeep : ∀ w2, OutTo codU C cm (colU (cput M a b v)) wy w2 → w2.cell? ⟨g, 0, none⟩ = some (.map (some B)) ∧ OutAt codI B rm (rowOf M) w2 := fun w2 ⟨cm', c1, c2, c3⟩ => by
     have hglt : g < wy.heap.size := (Array.getElem?_eq_some_iff.1 hgy).1
     refine ⟨?_, hMy.row.block (fun k hk => c2.block k (hMy.row.lt hk) (hMy.off k hk) (fun h => h))⟩
     rw [World.cell?_of_block (c2.block g hglt (fun hk => hMy.notg hgy (.inr hk) rfl) (fun h => h))]
     exact (cells3 hgy).1
    rw [hwy] at hlayC hkeep
    have HLC := Lib.hid hlayC
    have HLR := Lib.hid hlayR
    have HKP := Lib.hid hkeep
    have HL1 := Lib.hid hl1
    have HL2 := Lib.hid hl2
    have HW := Lib.hid hwy
    have HFIN := Lib.hid (And.intro hoy (And.intro hgy (And.intro hMy (And.intro (hs.put a b v) (And.intro hn (And.intro hFg (And.intro hFl (And.intro h1 h2))))))))
    clear hlayC hlayR hkeep hl1 hl2 hwy hoy hgy hMy ho hh hM hs hn hFg hFl h1 h2 hsome hnone hrl hcl hra hcb ha hb hu1 hu2 hz1 hz2 hmm
    have tok1 : True := trivial
    go_wp2_with (first
     | (at_lookup; have _t := tok1; refine wpl_look rfl _ _ _ _ rfl rfl rfl HL1.out ?_; clear tok1)
     | (at_lookup; refine wpl_look rfl _ _ _ _ rfl rfl rfl HL2.out ?_)
     | (go_at_call 106; refine HLC.out.mono ?_; rintro e w2 ⟨rfl, hout⟩; obtain ⟨k9, hrow⟩ := HKP.out w2 hout; have HOUT := Lib.hid hout; have HROW := Lib.hid hrow; clear hout hrow)
     | (go_at_call 132; refine (HLR.out _ HROW.out).mono ?_; rintro e w3 ⟨rfl, hout3⟩; have HOUT3 := Lib.hid hout3; clear hout3)
     | fail)
    refine bodyPost_end (results_none rfl _ _ _) rfl ⟨rfl, ?_⟩
    obtain ⟨hoy, hgy, hMy, hs', hn, hFg, hFl, h1, h2⟩ := HFIN.out
    have hc := HOUT.out
    rw [← HW.out] at hc
    exact maps_to hoy hgy hMy hs' hn hFg hFl h1 h2 hc (fun _ => HOUT3.out)
set_option maxRecDepth 100000 in
set_option maxHeartbeats 4000000 in
theorem grid_Del_I {g : Nat} {M : Cls Int} {F : FP} {w : World} (h : GrAt codI 186 g M F w) (hlen : M.length ≤ 1000000) {a b : Int} (ha : (Lit.int .i64 a).wf = true) (hb : (Lit.int .i64 b).wf = true) :
 Calls Tryz.prog 118 #[.pointer (some ⟨g, 0, none⟩), .int .i64 a, .int .i64 b] w fun e w' => e = .returned (.bool (cget M a b).isSome) ∧ GrTo codI 186 g (cdel M a b) F w w' := by
 have hget := grid_Get_I h ha hb
 obtain ⟨r, hr⟩ : ∃ r, r = codI.enc ((cget M a b).getD (0 : Int)) := ⟨_, rfl⟩
 rw [← hr] at hget
 clear hr
 by_cases hsome : (cget M a b).isSome = true
 · rw [hsome] at hget
   obtain ⟨hs, hFg, hFl, hmem⟩ := h
   obtain ⟨u, hu⟩ := Option.isSome_iff_exists.1 hsome
   have hM0 : M ≠ [] := List.ne_nil_of_mem (hs.get.1 hu)
   obtain ⟨B, C, rm, cm, hh, hM, h1, h2⟩ := hmem.resolve_left (fun h => hM0 h.1)
   obtain ⟨k0, k1, k2, f0, f1, f2⟩ := cells3 hh
   have hpos := List.length_pos_iff.2 hM0
   have hra := row_length M a
   have hcb := colU_length M b
   have hr0 : rowOf M a ≠ [] := List.ne_nil_of_mem ((mem_rowOf (x := (b, u))).2 (hs.get.1 hu))
   have hc0 : colU M b ≠ [] := List.ne_nil_of_mem ((mem_colU (x := (a, ()))).2 ⟨u, (mem_colOf (x := (a, u))).2 (hs.get.1 hu)⟩)
   have W1 : IntKind.i64.wrap ((M.length : Int) - 1) = (M.length : Int) - 1 := IntWalk.i64_in _ (by omega)
   obtain ⟨wy, hwy⟩ : ∃ wy, wy = w.setCell ⟨g, 2, none⟩ (.int .i64 ((M.length : Int) - 1)) := ⟨_, rfl⟩
   have hgy : wy.heap[g]? = some (.cells #[.map (some B), .map (some C), .int .i64 ((M.length : Int) - 1)] 186 (0, 0)) := by rw [hwy]; exact (set3 hh).2.2
   have hMy : MapsAt codI B C rm cm M wy := by rw [hwy]; exact hM.set hh
   have hoy : Only F (fun _ => False) w wy := by rw [hwy]; exact only_set hFg
   have hn : (M.length : Int) - 1 = (cdel M a b).length := by have := hs.length_del a b; rw [if_pos hsome] at this; omega
   have htC := take_U hMy.col (a := b) (b := a) hc0 (by omega) hb ha
   rw [colU_del hs a b] at htC
   have htR : ∀ w2, OutAt codI B rm (rowOf M) w2 → Calls Tryz.prog 131 #[.map (some B), .int .i64 a, .int .i64 b] w2 fun e w' => e = .returned (.tuple #[]) ∧ OutTo codI B rm (rowOf (cdel M a b)) w2 w' := fun w2 h2 => by
    have := take_I h2 (a := a) (b := b) hr0 (by omega) ha hb
    rw [rowOf_del hs] at this
    exact this
   have hkeep : ∀ w2, OutTo codU C cm (colU (cdel M a b)) wy w2 → w2.cell? ⟨g, 0, none⟩ = some (.map (some B)) ∧ OutAt codI B rm (rowOf M) w2 := fun w2 ⟨cm', c1, c2, c3⟩ => by
    have hglt : g < wy.heap.size := (Array.getElem?_eq_some_iff.1 hgy).1
    refine ⟨?_, hMy.row.block (fun k hk => c2.block k (hMy.row.lt hk) (hMy.off k hk) (fun h => h))⟩
    rw [World.cell?_of_block (c2.block g hglt (fun hk => hMy.notg hgy (.inr hk) rfl) (fun h => h))]
    exact (cells3 hgy).1
   rw [hwy] at htC hkeep
   have HG := Lib.hid hget
   have HLC := Lib.hid htC
   have HLR := Lib.hid htR
   have HKP := Lib.hid hkeep
   have HW := Lib.hid hwy
   have HFIN := Lib.hid (And.intro hoy (And.intro hgy (And.intro hMy (And.intro (hs.del a b) (And.intro hn (And.intro hFg (And.intro hFl (And.intro (fun k hk => Or.inl (b := w.heap.size ≤ k) (h1 k hk)) (fun k hk => Or.inl (b := w.heap.size ≤ k) (h2 k hk))))))))))
   clear htC htR hkeep hwy hoy hgy hMy hh hM hs hn hFg hFl h1 h2 hra hcb ha hb hget hu hM0 hmem hr0 hc0
   rw [hsome]
   clear hsome
   go_enter Tryz.func118, Tryz.ntmps118
   go_wp2_with (first
    | (go_at_call 130; refine HG.out.mono ?_; rintro e w2 ⟨rfl, rfl⟩)
    | (go_at_call 109; refine HLC.out.mono ?_; rintro e w2 ⟨rfl, hout⟩; obtain ⟨k9, hrow⟩ := HKP.out w2 hout; have HOUT := Lib.hid hout; have HROW := Lib.hid hrow; clear hout hrow)
    | (go_at_call 131; refine (HLR.out _ HROW.out).mono ?_; rintro e w3 ⟨rfl, hout3⟩; have HOUT3 := Lib.hid hout3; clear hout3)
    | fail)
   go_ret
   refine ⟨rfl, ?_⟩
   obtain ⟨hoy, hgy, hMy, hs', hn, hFg, hFl, h1, h2⟩ := HFIN.out
   have hc := HOUT.out
   rw [← HW.out] at hc
   exact maps_to hoy hgy hMy hs' hn hFg hFl h1 h2 hc (fun _ => HOUT3.out)
 · have hnone : (cget M a b).isSome = false := by simpa using hsome
   have hdel : cdel M a b = M := cdel_none (by simpa using hsome)
   rw [hnone] at hget
   rw [hnone, hdel]
   have HG := Lib.hid hget
   have HH := Lib.hid h
   clear hget h hsome hnone hdel ha hb
   go_enter Tryz.func118, Tryz.ntmps118
   go_wp2_with (first
    | (go_at_call 130; refine HG.out.mono ?_; rintro e w2 ⟨rfl, rfl⟩)
    | fail)
   go_ret
   exact ⟨rfl, F, HH.out, fun k hk => .inl hk, Only.refl _ _ _⟩
end
end Go.Proofs.YtbpemdihoabbcaaGreat
