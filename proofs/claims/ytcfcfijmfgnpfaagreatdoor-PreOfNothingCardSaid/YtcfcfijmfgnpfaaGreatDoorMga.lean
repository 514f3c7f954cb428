/-
  Joined texts.
-/
import Derived.WalkKit
import Derived.Test.YtcfcfijmfgnpfaaGreatDoorChecked
import Derived.Maps.OwnSet
import Derived.Lib.Hide
import Derived.Lib.SlKeysI
import Derived.Below
import Derived.WalkSpells
import Derived.WalkLawsBesides
import Derived.IntWalk
import Derived.Sort.KeysCollected
import Derived.WideKeyPair
import Derived.Maps.RangeWalk
import Derived.OwnWalkIn
import Derived.Maps.OwnIn
import Derived.Maps.AppendAt
import Derived.Deep.MidRow
import Derived.Deep.WholeRow
import Derived.Great.BuildSlice
import Derived.RangeFuncBox
import Derived.Laws.Tables
import Derived.Lib.BytesEntry
import Derived.Lib.Bytealg
import Derived.StillTailTactics
import Derived.RangeFuncNested
import Derived.RangeFuncBound
import Derived.RangeFuncCalls
import Derived.RangeFuncLeaves

section
namespace Go.Proofs.YtcfcfijmfgnpfaaGreatDoor
set_option linter.unusedVariables false
set_option linter.unusedSimpArgs false

section ext
variable {α : Type} {r : α → α → Prop}
theorem sorted_ext (irr : ∀ a, ¬ r a a) (tr : ∀ a b c, r a b → r b c → r a c) : ∀ {l m : List α}, l.Pairwise r → m.Pairwise r → (∀ x, x ∈ l ↔ x ∈ m) → l = m
  | [], [], _, _, _ => rfl
  | [], b :: m, _, _, h => by have := (h b).2 (by simp); simp at this
  | a :: l, [], _, _, h => by have := (h a).1 (by simp); simp at this
  | a :: l, b :: m, h1, h2, h => by
    have hp1 := List.pairwise_cons.1 h1
    have hp2 := List.pairwise_cons.1 h2
    have e : a = b := by
      rcases List.mem_cons.1 ((h a).1 (by simp)) with e | e
      · exact e
      · rcases List.mem_cons.1 ((h b).2 (by simp)) with e' | e'
        · exact e'.symm
        · exact absurd (tr _ _ _ (hp2.1 a e) (hp1.1 b e')) (irr b)
    subst e
    rw [sorted_ext irr tr hp1.2 hp2.2 (fun x => ?_)]
    have hx := h x
    constructor
    · intro hm
      rcases List.mem_cons.1 (hx.1 (List.mem_cons_of_mem _ hm)) with e | e
      · subst e; exact absurd (hp1.1 x hm) (irr x)
      · exact e
    · intro hm
      rcases List.mem_cons.1 (hx.2 (List.mem_cons_of_mem _ hm)) with e | e
      · subst e; exact absurd (hp2.1 x hm) (irr x)
      · exact e
end ext

/-- Sorted by number. -/
def SrtK {β : Type} (m : List (Int × β)) : Prop := m.Pairwise (fun x y => x.1 < y.1)
def lexlt (a b : Int × Int) : Prop := a.1 < b.1 ∨ (a.1 = b.1 ∧ a.2 < b.2)
instance : DecidableRel lexlt := fun a b => by unfold lexlt; infer_instance
/-- Sorted by both numbers. -/
def SrtC {β : Type} (m : List ((Int × Int) × β)) : Prop := m.Pairwise (fun x y => lexlt x.1 y.1)

section
variable {κ β : Type}
def ins (lt : κ → κ → Prop) [DecidableRel lt] (x : κ × β) : List (κ × β) → List (κ × β)
  | [] => [x]
  | y :: l => if lt x.1 y.1 then x :: y :: l else y :: ins lt x l
theorem mem_ins (lt : κ → κ → Prop) [DecidableRel lt] (x z : κ × β) : ∀ l, z ∈ ins lt x l ↔ z = x ∨ z ∈ l
  | [] => by simp [ins]
  | y :: l => by
    unfold ins
    split
    · simp
    · rw [List.mem_cons, mem_ins lt x z l, List.mem_cons]
      constructor
      · rintro (h | h | h)
        · exact .inr (.inl h)
        · exact .inl h
        · exact .inr (.inr h)
      · rintro (h | h | h)
        · exact .inr (.inl h)
        · exact .inl h
        · exact .inr (.inr h)
theorem length_ins (lt : κ → κ → Prop) [DecidableRel lt] (x : κ × β) : ∀ l, (ins lt x l).length = l.length + 1
  | [] => rfl
  | y :: l => by
    unfold ins
    split
    · rfl
    · simp [length_ins lt x l]
theorem srt_ins (lt : κ → κ → Prop) [DecidableRel lt] (tr : ∀ a b c, lt a b → lt b c → lt a c) (x : κ × β) : ∀ l : List (κ × β), l.Pairwise (fun a b => lt a.1 b.1) → (∀ y ∈ l, lt x.1 y.1 ∨ lt y.1 x.1) → (ins lt x l).Pairwise (fun a b => lt a.1 b.1)
  | [], _, _ => by simp [ins]
  | y :: l, h, ht => by
    have hp := List.pairwise_cons.1 h
    unfold ins
    split
    · rename_i hlt
      refine List.pairwise_cons.2 ⟨fun z hz => ?_, h⟩
      rcases List.mem_cons.1 hz with e | e
      · rw [e]; exact hlt
      · exact tr _ _ _ hlt (hp.1 z e)
    · rename_i hlt
      refine List.pairwise_cons.2 ⟨fun z hz => ?_, srt_ins lt tr x l hp.2 (fun z hz => ht z (List.mem_cons_of_mem _ hz))⟩
      rcases (mem_ins lt x z l).1 hz with e | e
      · rw [e]; exact (ht y (by simp)).resolve_left hlt
      · exact hp.1 z e
end

/-! one row -/
section
variable {β : Type}
def sget (m : List (Int × β)) (k : Int) : Option β := (m.find? (fun x => x.1 == k)).map (·.2)
def sdel (m : List (Int × β)) (k : Int) : List (Int × β) := m.filter (fun x => !(x.1 == k))
def sput (m : List (Int × β)) (k : Int) (v : β) : List (Int × β) := ins (fun a b : Int => a < b) (k, v) (sdel m k)
theorem mem_sdel {m : List (Int × β)} {k : Int} {x : Int × β} : x ∈ sdel m k ↔ x ∈ m ∧ x.1 ≠ k := by simp [sdel]
theorem mem_sput {m : List (Int × β)} {k : Int} {v : β} {x : Int × β} : x ∈ sput m k v ↔ x = (k, v) ∨ (x ∈ m ∧ x.1 ≠ k) := by rw [sput, mem_ins, mem_sdel]
theorem SrtK.del {m : List (Int × β)} (h : SrtK m) (k : Int) : SrtK (sdel m k) := List.Pairwise.filter _ h
theorem SrtK.put {m : List (Int × β)} (h : SrtK m) (k : Int) (v : β) : SrtK (sput m k v) := by
  refine srt_ins (fun a b : Int => a < b) (fun a b c h1 h2 => Int.lt_trans h1 h2) (k, v) _ (h.del k) (fun y hy => ?_)
  have := (mem_sdel.1 hy).2
  show k < y.1 ∨ y.1 < k
  omega
theorem SrtK.ext {m m' : List (Int × β)} (h : SrtK m) (h' : SrtK m') (hm : ∀ x, x ∈ m ↔ x ∈ m') : m = m' :=
  sorted_ext (r := fun x y : Int × β => x.1 < y.1) (fun a h => by omega) (fun a b c h1 h2 => by omega) h h' hm
theorem SrtK.one {m : List (Int × β)} (h : SrtK m) {x y : Int × β} (hx : x ∈ m) (hy : y ∈ m) (e : x.1 = y.1) : x = y := by
  induction m with
  | nil => simp at hx
  | cons a m ih =>
    have hp := List.pairwise_cons.1 h
    rcases List.mem_cons.1 hx with rfl | hx' <;> rcases List.mem_cons.1 hy with rfl | hy'
    · rfl
    · have := hp.1 y hy'; omega
    · have := hp.1 x hx'; omega
    · exact ih hp.2 hx' hy'
theorem sget_mem {m : List (Int × β)} {k : Int} {v : β} (h : sget m k = some v) : (k, v) ∈ m := by
  unfold sget at h
  obtain ⟨x, hx, e⟩ := Option.map_eq_some_iff.1 h
  have h1 := List.find?_some hx
  have h2 := List.mem_of_find?_eq_some hx
  simp at h1
  obtain ⟨a, b⟩ := x
  simp at h1 e
  subst h1 e
  exact h2
theorem sget_none {m : List (Int × β)} {k : Int} : sget m k = none ↔ ∀ v, (k, v) ∉ m := by
  unfold sget
  rw [Option.map_eq_none_iff, List.find?_eq_none]
  constructor
  · intro h v hm
    exact h _ hm (by simp)
  · rintro h ⟨a, b⟩ hm e
    simp at e
    subst e
    exact h b hm
theorem SrtK.get {m : List (Int × β)} (h : SrtK m) {k : Int} {v : β} : sget m k = some v ↔ (k, v) ∈ m := by
  refine ⟨sget_mem, fun hm => ?_⟩
  cases e : sget m k with
  | none => exact absurd hm (sget_none.1 e v)
  | some u =>
    have := h.one (sget_mem e) hm rfl
    simpa using this
theorem SrtK.get_put {m : List (Int × β)} (h : SrtK m) (k j : Int) (v : β) : sget (sput m k v) j = if j = k then some v else sget m j := by
  by_cases e : j = k
  · subst e; simp only [if_true]
    exact (h.put j v).get.2 (mem_sput.2 (.inl rfl))
  · simp only [e, if_false]
    cases e' : sget m j with
    | none => exact sget_none.2 (fun u hu => by
        rcases mem_sput.1 hu with h' | h'
        · simp at h'; exact e h'.1
        · exact sget_none.1 e' u h'.1)
    | some u => exact (h.put k v).get.2 (mem_sput.2 (.inr ⟨sget_mem e', e⟩))
theorem SrtK.get_del {m : List (Int × β)} (h : SrtK m) (k j : Int) : sget (sdel m k) j = if j = k then none else sget m j := by
  by_cases e : j = k
  · subst e; simp only [if_true]
    exact sget_none.2 (fun u hu => (mem_sdel.1 hu).2 rfl)
  · simp only [e, if_false]
    cases e' : sget m j with
    | none => exact sget_none.2 (fun u hu => sget_none.1 e' u (mem_sdel.1 hu).1)
    | some u => exact (h.del k).get.2 (mem_sdel.2 ⟨sget_mem e', e⟩)
theorem sdel_none {m : List (Int × β)} {k : Int} (h : sget m k = none) : sdel m k = m := by
  unfold sdel
  rw [List.filter_eq_self]
  rintro ⟨a, b⟩ hm
  simp
  rintro rfl
  exact sget_none.1 h b hm
theorem SrtK.length_del {m : List (Int × β)} (h : SrtK m) (k : Int) : (sdel m k).length + (if (sget m k).isSome then 1 else 0) = m.length := by
  induction m with
  | nil => rfl
  | cons x m ih =>
    have hp := List.pairwise_cons.1 h
    by_cases e : x.1 = k
    · have h1 : sdel m k = m := sdel_none (sget_none.2 (fun v hv => by have := hp.1 _ hv; simp at this; omega))
      have h2 : sdel (x :: m) k = m := by rw [← h1]; simp [sdel, e]
      have h3 : sget (x :: m) k = some x.2 := by simp [sget, e]
      rw [h2, h3]; rfl
    · have h2 : sdel (x :: m) k = x :: sdel m k := by simp [sdel, e]
      have h3 : sget (x :: m) k = sget m k := by simp [sget, e]
      rw [h2, h3, List.length_cons, List.length_cons, ← ih hp.2]
      omega
theorem SrtK.length_put {m : List (Int × β)} (h : SrtK m) (k : Int) (v : β) : (sput m k v).length = if (sget m k).isSome then m.length else m.length + 1 := by
  have := h.length_del k
  rw [sput, length_ins]
  split <;> simp_all <;> omega
end

/-! cells -/
section
variable {β : Type}
abbrev Cls (β : Type) := List ((Int × Int) × β)
def rowOf (M : Cls β) (a : Int) : List (Int × β) := M.filterMap (fun c => if c.1.1 = a then some (c.1.2, c.2) else none)
def colOf (M : Cls β) (b : Int) : List (Int × β) := M.filterMap (fun c => if c.1.2 = b then some (c.1.1, c.2) else none)
def cget (M : Cls β) (a b : Int) : Option β := sget (rowOf M a) b
def cdel (M : Cls β) (a b : Int) : Cls β := M.filter (fun x => !(x.1 == (a, b)))
def cput (M : Cls β) (a b : Int) (v : β) : Cls β := ins lexlt ((a, b), v) (cdel M a b)
theorem mem_rowOf {M : Cls β} {a : Int} {x : Int × β} : x ∈ rowOf M a ↔ ((a, x.1), x.2) ∈ M := by
  simp only [rowOf, List.mem_filterMap]
  constructor
  · rintro ⟨⟨⟨i, j⟩, v⟩, hm, h⟩
    simp at h
    obtain ⟨rfl, rfl⟩ := h
    exact hm
  · intro h
    exact ⟨_, h, by simp⟩
theorem mem_colOf {M : Cls β} {b : Int} {x : Int × β} : x ∈ colOf M b ↔ ((x.1, b), x.2) ∈ M := by
  simp only [colOf, List.mem_filterMap]
  constructor
  · rintro ⟨⟨⟨i, j⟩, v⟩, hm, h⟩
    simp at h
    obtain ⟨rfl, rfl⟩ := h
    exact hm
  · intro h
    exact ⟨_, h, by simp⟩
theorem mem_cdel {M : Cls β} {a b : Int} {x : (Int × Int) × β} : x ∈ cdel M a b ↔ x ∈ M ∧ x.1 ≠ (a, b) := by simp [cdel]
theorem mem_cput {M : Cls β} {a b : Int} {v : β} {x : (Int × Int) × β} : x ∈ cput M a b v ↔ x = ((a, b), v) ∨ (x ∈ M ∧ x.1 ≠ (a, b)) := by rw [cput, mem_ins, mem_cdel]
theorem lexlt_tr (a b c : Int × Int) (h : lexlt a b) (k : lexlt b c) : lexlt a c := by unfold lexlt at *; omega
theorem lexlt_ir (a : Int × Int) : ¬ lexlt a a := by unfold lexlt; omega
theorem lexlt_tot {a b : Int × Int} (h : b ≠ a) : lexlt a b ∨ lexlt b a := by
  obtain ⟨a1, a2⟩ := a
  obtain ⟨b1, b2⟩ := b
  simp [lexlt] at *
  omega
theorem SrtC.del {M : Cls β} (h : SrtC M) (a b : Int) : SrtC (cdel M a b) := List.Pairwise.filter _ h
theorem SrtC.put {M : Cls β} (h : SrtC M) (a b : Int) (v : β) : SrtC (cput M a b v) :=
  srt_ins _ lexlt_tr _ _ (h.del a b) (fun y hy => lexlt_tot (mem_cdel.1 hy).2)
theorem SrtC.ext {M M' : Cls β} (h : SrtC M) (h' : SrtC M') (hm : ∀ x, x ∈ M ↔ x ∈ M') : M = M' :=
  sorted_ext (r := fun x y : (Int × Int) × β => lexlt x.1 y.1) (fun a => lexlt_ir _) (fun a b c => lexlt_tr _ _ _) h h' hm
theorem SrtC.row {M : Cls β} (h : SrtC M) (a : Int) : SrtK (rowOf M a) := by
  refine List.Pairwise.filterMap _ ?_ h
  rintro ⟨⟨i, j⟩, v⟩ ⟨⟨i', j'⟩, v'⟩ hlt x hx y hy
  simp at hx hy
  obtain ⟨rfl, rfl⟩ := hx
  obtain ⟨rfl, rfl⟩ := hy
  simp [lexlt] at hlt
  exact hlt
theorem SrtC.col {M : Cls β} (h : SrtC M) (b : Int) : SrtK (colOf M b) := by
  refine List.Pairwise.filterMap _ ?_ h
  rintro ⟨⟨i, j⟩, v⟩ ⟨⟨i', j'⟩, v'⟩ hlt x hx y hy
  simp at hx hy
  obtain ⟨rfl, rfl⟩ := hx
  obtain ⟨rfl, rfl⟩ := hy
  simp [lexlt] at hlt
  exact hlt
theorem SrtC.row_put {M : Cls β} (h : SrtC M) (a b : Int) (v : β) (i : Int) : rowOf (cput M a b v) i = if i = a then sput (rowOf M a) b v else rowOf M i := by
  split
  · rename_i e; subst e
    refine ((h.put _ _ _).row _).ext ((h.row _).put _ _) ?_
    rintro ⟨j, u⟩
    rw [mem_rowOf, mem_cput, mem_sput, mem_rowOf]
    simp
  · rename_i e
    refine ((h.put _ _ _).row _).ext (h.row _) ?_
    rintro ⟨j, u⟩
    rw [mem_rowOf, mem_cput, mem_rowOf]
    simp [e]
theorem SrtC.col_put {M : Cls β} (h : SrtC M) (a b : Int) (v : β) (j : Int) : colOf (cput M a b v) j = if j = b then sput (colOf M b) a v else colOf M j := by
  split
  · rename_i e; subst e
    refine ((h.put _ _ _).col _).ext ((h.col _).put _ _) ?_
    rintro ⟨i, u⟩
    rw [mem_colOf, mem_cput, mem_sput, mem_colOf]
    simp
  · rename_i e
    refine ((h.put _ _ _).col _).ext (h.col _) ?_
    rintro ⟨i, u⟩
    rw [mem_colOf, mem_cput, mem_colOf]
    simp [e]
theorem SrtC.row_del {M : Cls β} (h : SrtC M) (a b : Int) (i : Int) : rowOf (cdel M a b) i = if i = a then sdel (rowOf M a) b else rowOf M i := by
  split
  · rename_i e; subst e
    refine ((h.del _ _).row _).ext ((h.row _).del _) ?_
    rintro ⟨j, u⟩
    rw [mem_rowOf, mem_cdel, mem_sdel, mem_rowOf]
    simp
  · rename_i e
    refine ((h.del _ _).row _).ext (h.row _) ?_
    rintro ⟨j, u⟩
    rw [mem_rowOf, mem_cdel, mem_rowOf]
    simp [e]
theorem SrtC.col_del {M : Cls β} (h : SrtC M) (a b : Int) (j : Int) : colOf (cdel M a b) j = if j = b then sdel (colOf M b) a else colOf M j := by
  split
  · rename_i e; subst e
    refine ((h.del _ _).col _).ext ((h.col _).del _) ?_
    rintro ⟨i, u⟩
    rw [mem_colOf, mem_cdel, mem_sdel, mem_colOf]
    simp
  · rename_i e
    refine ((h.del _ _).col _).ext (h.col _) ?_
    rintro ⟨i, u⟩
    rw [mem_colOf, mem_cdel, mem_colOf]
    simp [e]
theorem SrtC.get {M : Cls β} (h : SrtC M) {a b : Int} {v : β} : cget M a b = some v ↔ ((a, b), v) ∈ M := by
  rw [cget, (h.row a).get, mem_rowOf]
theorem SrtC.get_col {M : Cls β} (h : SrtC M) (a b : Int) : sget (colOf M b) a = cget M a b := by
  cases e : cget M a b with
  | some v => exact (h.col b).get.2 (mem_colOf.2 (h.get.1 e))
  | none => exact sget_none.2 (fun v hv => sget_none.1 e v (mem_rowOf.2 (mem_colOf.1 hv)))
theorem cdel_none {M : Cls β} {a b : Int} (h : cget M a b = none) : cdel M a b = M := by
  unfold cdel
  rw [List.filter_eq_self]
  rintro ⟨⟨i, j⟩, v⟩ hm
  simp
  rintro rfl rfl
  exact sget_none.1 h v (mem_rowOf.2 hm)
theorem SrtC.length_del {M : Cls β} (h : SrtC M) (a b : Int) : (cdel M a b).length + (if (cget M a b).isSome then 1 else 0) = M.length := by
  induction M with
  | nil => rfl
  | cons x M ih =>
    have hp := List.pairwise_cons.1 h
    obtain ⟨⟨i, j⟩, u⟩ := x
    by_cases e : (i, j) = (a, b)
    · have h0 : cget M a b = none := sget_none.2 (fun v hv => by
        have := hp.1 _ (mem_rowOf.1 hv)
        rw [e] at this
        exact lexlt_ir _ this)
      have h1 : cdel M a b = M := cdel_none h0
      have h2 : cdel (((i, j), u) :: M) a b = M := by rw [← h1]; simp [cdel, e]
      have h3 : cget (((i, j), u) :: M) a b = some u := h.get.2 (by rw [e]; simp)
      rw [h2, h3]; rfl
    · have h2 : cdel (((i, j), u) :: M) a b = ((i, j), u) :: cdel M a b := by
        unfold cdel
        rw [List.filter_cons_of_pos]
        simpa using e
      have h3 : cget (((i, j), u) :: M) a b = cget M a b := by
        by_cases e1 : i = a
        · subst e1
          have : j ≠ b := fun e2 => e (by rw [e2])
          simp [cget, rowOf, sget, this]
        · simp [cget, rowOf, e1]
      rw [h2, h3, List.length_cons, List.length_cons, ← ih hp.2]
      omega
theorem SrtC.length_put {M : Cls β} (h : SrtC M) (a b : Int) (v : β) : (cput M a b v).length = if (cget M a b).isSome then M.length else M.length + 1 := by
  have := h.length_del a b
  rw [cput, length_ins]
  split <;> simp_all <;> omega
theorem row_length (M : Cls β) (a : Int) : (rowOf M a).length ≤ M.length := List.length_filterMap_le _ _
theorem col_length (M : Cls β) (b : Int) : (colOf M b).length ≤ M.length := List.length_filterMap_le _ _
/-- All cells, row by row. -/
theorem SrtC.flat {M : Cls β} (h : SrtC M) {ks : List Int} (hk : ks.Pairwise (· < ·)) (hm : ∀ a, a ∈ ks ↔ rowOf M a ≠ []) : ks.flatMap (fun a => (rowOf M a).map (fun x => ((a, x.1), x.2))) = M := by
  refine SrtC.ext ?_ h ?_
  · unfold SrtC
    rw [List.pairwise_flatMap]
    refine ⟨fun a ha => List.pairwise_map.2 ((h.row a).imp (fun {x y} hxy => .inr ⟨rfl, hxy⟩)), hk.imp (fun {a b} hab x hx y hy => ?_)⟩
    obtain ⟨x', _, rfl⟩ := List.mem_map.1 hx
    obtain ⟨y', _, rfl⟩ := List.mem_map.1 hy
    exact .inl hab
  · rintro ⟨⟨i, j⟩, v⟩
    rw [List.mem_flatMap]
    constructor
    · rintro ⟨a, _, hx⟩
      obtain ⟨x', hx', e⟩ := List.mem_map.1 hx
      have := mem_rowOf.1 hx'
      simp at e
      obtain ⟨⟨rfl, rfl⟩, rfl⟩ := e
      exact this
    · intro hM
      have hr : (j, v) ∈ rowOf M i := mem_rowOf.2 hM
      exact ⟨i, (hm i).2 (List.ne_nil_of_mem hr), List.mem_map.2 ⟨_, hr, rfl⟩⟩
end
end Go.Proofs.YtcfcfijmfgnpfaaGreatDoor
end

section
namespace Go.Proofs.YtcfcfijmfgnpfaaGreatDoor
open Go.RowKit Go.Maps
set_option linter.unusedVariables false
set_option linter.unusedSimpArgs false

/-- How a map's elements are read. -/
structure Cod (β : Type) where
  enc : β → Value
  R : Value → Option (DataW Unit × List MemPlace)
  dat : β → DataW Unit
  hR : ∀ x, R (enc x) = some (dat x, [])
  inv : ∀ v z, R v = some z → ∃ x, v = enc x ∧ z = (dat x, [])
  inj : ∀ x y, dat x = dat y → x = y

def codI : Cod Int where
  enc := .int .i64
  R := fun v => match v with | .int .i64 a => some (.lit (.int .i64 a), []) | _ => none
  dat := fun a => .lit (.int .i64 a)
  hR := fun _ => rfl
  inv := fun v z h => by
    split at h
    · cases h; exact ⟨_, rfl, rfl⟩
    · cases h
  inj := fun x y h => by simpa using h
def codU : Cod Unit where
  enc := fun _ => .agg #[]
  R := unitElem
  dat := fun _ => .agg []
  hR := fun _ => unitElem_mk
  inv := fun v z h => by
    obtain ⟨rfl, h2⟩ := unitElem_inv h
    exact ⟨(), rfl, h2⟩
  inj := fun _ _ _ => rfl
def codS : Cod ByteArray where
  enc := .string
  R := fun v => match v with | .string s => some (.lit (.string s.data.toList), []) | _ => none
  dat := fun s => .lit (.string s.data.toList)
  hR := fun _ => rfl
  inv := fun v z h => by
    split at h
    · cases h; exact ⟨_, rfl, rfl⟩
    · cases h
  inj := fun x y h => by
    have h' : x.data.toList = y.data.toList := by simpa using h
    cases x; cases y
    simpa [Array.toList_inj] using h'
def codM : Cod (Option Nat) where
  enc := .map
  R := fun v => match v with | .map none => some (.nil, []) | .map (some b) => some (.lit (.int .i64 b), []) | _ => none
  dat := fun b => match b with | none => .nil | some b => .lit (.int .i64 b)
  hR := fun b => by cases b <;> rfl
  inv := fun v z h => by
    split at h
    · cases h; exact ⟨none, rfl, rfl⟩
    · cases h; exact ⟨some _, rfl, rfl⟩
    · cases h
  inj := fun x y h => by
    cases x <;> cases y <;> simp at h ⊢
    omega

theorem keyedI : Keyed Tryz.prog 3 := int_keyed Tryz.underlying3
theorem keyI {k : Int} (h : (Lit.int .i64 k).wf = true) : keyOf Tryz.prog 3 (.int .i64 k) = some (.int .i64 k) := keyOf_int_mk Tryz.underlying3 h

section
variable {β : Type} {c : Cod β} {b : Nat} {m : List (Int × β)} {w : World}

/-- Block b is a map that holds m. -/
structure MapAt (c : Cod β) (b : Nat) (m : List (Int × β)) (w : World) : Prop where
  srt : SrtK m
  own : ∃ n D, w.ownsMap Tryz.prog 3 c.R b n D ∧ (∀ k, Maps.has D (.int .i64 k) = (sget m k).isSome) ∧ ∀ k v, sget m k = some v → ∀ z, D.atKey (.int .i64 k) z = c.dat v

theorem MapAt.lt (h : MapAt c b m w) : b < w.heap.size := by obtain ⟨n, D, ho, _⟩ := h.own; exact ho.lt
theorem MapAt.kept {w' : World} {row : Option Nat} (h : MapAt c b m w) (hg : w.grownBy w' row) (hne : some b ≠ row) : MapAt c b m w' := by
  obtain ⟨n, D, ho, h1, h2⟩ := h.own
  exact ⟨h.srt, n, D, ho.kept hg hne, h1, h2⟩
theorem MapAt.block {w' : World} (h : MapAt c b m w) (hb : w'.heap[b]? = w.heap[b]?) : MapAt c b m w' := by
  obtain ⟨n, D, ⟨es, clock, hh, F, hs, hD⟩, h1, h2⟩ := h.own
  exact ⟨h.srt, n, D, ⟨es, clock, hb.trans hh, F, hs, hD⟩, h1, h2⟩
/-- How the map's block stands in the heap: it is a map. -/
theorem MapAt.isMap (h : MapAt c b m w) : ∃ es clock, w.heap[b]? = some (.map es clock) := by
  obtain ⟨n, D, ⟨es, clock, hh, _⟩, _⟩ := h.own
  exact ⟨es, clock, hh⟩
theorem MapAt.made (c : Cod β) (w : World) : MapAt c w.heap.size [] (w.alloc (.map #[] 0)) :=
  ⟨List.Pairwise.nil, 0, _, World.ownsMap_made _ _ _ _, fun k => by simp [Maps.has, sget], fun k v h => by simp [sget] at h⟩
/-- The keys, as they lie in the datum. -/
theorem MapAt.keys {n : Nat} {D : DataW Unit} (hs : SrtK m) (ho : w.ownsMap Tryz.prog 3 c.R b n D) (h1 : ∀ k, Maps.has D (.int .i64 k) = (sget m k).isSome) : (m.map (·.1)).Perm (intKeys D) := by
  have hc : CollectedI D (fun _ => false) (m.map (·.1)) := by
    refine ⟨?_, fun x => ?_⟩
    · refine (List.pairwise_map.2 (hs.imp (fun {a b} hab => ?_)))
      omega
    · rw [h1]
      simp only [List.mem_map, and_true]
      constructor
      · rintro ⟨y, hy, rfl⟩
        have : sget m y.1 = some y.2 := hs.get.2 hy
        simp [this]
      · intro h
        obtain ⟨v, hv⟩ := Option.isSome_iff_exists.1 h
        exact ⟨_, sget_mem hv, rfl⟩
  exact hc.perm ho keyedI Tryz.underlying3 (fun _ => rfl)
theorem MapAt.size {n : Nat} {D : DataW Unit} (hs : SrtK m) (ho : w.ownsMap Tryz.prog 3 c.R b n D) (h1 : ∀ k, Maps.has D (.int .i64 k) = (sget m k).isSome) : Maps.size D = m.length := by
  have h := (MapAt.keys hs ho h1).length_eq
  obtain ⟨es, clock, hb, F, hs', rfl⟩ := ho
  simpa [intKeys, Maps.size] using h.symm
theorem MapAt.wf (h : MapAt c b m w) {x : Int × β} (hx : x ∈ m) : (Lit.int .i64 x.1).wf = true := by
  obtain ⟨n, D, ho, h1, _⟩ := h.own
  exact intKeys_wf ho Tryz.underlying3 x.1 ((MapAt.keys h.srt ho h1).mem_iff.1 (List.mem_map_of_mem hx))
/-- What stands at a key. -/
theorem MapAt.atKey (h : MapAt c b m w) {e : TypeId} {z0 : β} {n : Nat} {D : DataW Unit} (h1 : ∀ k, Maps.has D (.int .i64 k) = (sget m k).isSome) (h2 : ∀ k v, sget m k = some v → ∀ z, D.atKey (.int .i64 k) z = c.dat v) (k : Int) : D.atKey (.int .i64 k) (c.dat z0) = c.dat ((sget m k).getD z0) := by
  cases e : sget m k with
  | some v => exact h2 k v e _
  | none =>
    refine atKey_of_not_has ?_ _
    rw [h1, e]; rfl
theorem MapAt.look {t e : TypeId} {z0 : β} (h : MapAt c b m w) (ht : Tryz.prog.underlying t = some (.map 3 e)) (hz : (zeroValue e).run Tryz.prog w = .ok (c.enc z0) w) {k : Int} (hk : (Lit.int .i64 k).wf = true) :
    (Instr.lookup t (.map (some b)) (.int .i64 k) false).run Tryz.prog w = .ok (c.enc ((sget m k).getD z0)) w := by
  obtain ⟨n, D, ho, h1, h2⟩ := h.own
  obtain ⟨v, ps, hr, hv⟩ := ho.lookup keyedI ht hz (c.hR z0) (keyI hk)
  rw [h.atKey (e := e) (n := n) h1 h2] at hv
  obtain ⟨x, rfl, hx⟩ := c.inv _ _ hv
  have := c.inj _ _ (congrArg Prod.fst hx)
  rw [hr, this]
theorem MapAt.look_ok {t e : TypeId} {z0 : β} (h : MapAt c b m w) (ht : Tryz.prog.underlying t = some (.map 3 e)) (hz : (zeroValue e).run Tryz.prog w = .ok (c.enc z0) w) {k : Int} (hk : (Lit.int .i64 k).wf = true) :
    (Instr.lookup t (.map (some b)) (.int .i64 k) true).run Tryz.prog w = .ok (.tuple #[c.enc ((sget m k).getD z0), .bool (sget m k).isSome]) w := by
  obtain ⟨n, D, ho, h1, h2⟩ := h.own
  obtain ⟨v, ps, hr, hv⟩ := ho.look_ok keyedI ht hz (c.hR z0) (keyI hk)
  rw [h.atKey (e := e) (n := n) h1 h2] at hv
  obtain ⟨x, rfl, hx⟩ := c.inv _ _ hv
  have := c.inj _ _ (congrArg Prod.fst hx)
  rw [hr, this, h1]
theorem MapAt.len {t e : TypeId} (h : MapAt c b m w) (ht : Tryz.prog.underlying t = some (.map 3 e)) (ty : TypeId) : (Builtin.len_ #[t] ty #[.map (some b)]).run Tryz.prog w = .ok (.int .i64 m.length) w := by
  obtain ⟨n, D, ho, h1, h2⟩ := h.own
  rw [ho.len ht, MapAt.size h.srt ho h1]
theorem MapAt.drop {t e : TypeId} (h : MapAt c b m w) (ht : Tryz.prog.underlying t = some (.map 3 e)) {k : Int} (hk : (Lit.int .i64 k).wf = true) (ty : TypeId) :
    ∃ w', (Builtin.delete_ #[t, 3] ty #[.map (some b), .int .i64 k]).run Tryz.prog w = .ok (.tuple #[]) w' ∧ MapAt c b (sdel m k) w' ∧ w.grownBy w' (some b) ∧ w'.heap.size = w.heap.size := by
  obtain ⟨n, D, ho, h1, h2⟩ := h.own
  obtain ⟨w', hr, ho', ht'⟩ := ho.drop keyedI ht (keyI hk) ty
  refine ⟨w', hr, ⟨h.srt.del k, n, _, ho', fun j => ?_, fun j v hj z => ?_⟩, ht'.grown, ?_⟩
  · rw [h.srt.get_del]
    by_cases e : j = k
    · subst e; simpa using has_del_same
    · rw [has_del_other (by simp [e]), h1]; simp [e]
  · rw [h.srt.get_del] at hj
    by_cases e : j = k
    · subst e; simp at hj
    · rw [atKey_del_other (by simp [e])]
      simp [e] at hj
      exact h2 j v hj z
  · obtain ⟨es, clock, es', clock', _, rfl⟩ := ht'
    simp [Go.ChangeMaps.setBlock]
theorem MapAt.store {t e : TypeId} (h : MapAt c b m w) (ht : Tryz.prog.underlying t = some (.map 3 e)) (hn : m.length < maxLen) {k : Int} (hk : (Lit.int .i64 k).wf = true) (v : β) :
    ∃ w', (Instr.mapUpdate t (.map (some b)) (.int .i64 k) (c.enc v)).run Tryz.prog w = .ok () w' ∧ MapAt c b (sput m k v) w' ∧ w.grownBy w' (some b) ∧ w'.heap.size = w.heap.size := by
  obtain ⟨n, D, ho, h1, h2⟩ := h.own
  have hsz := MapAt.size h.srt ho h1
  have hmap := ho.isMap
  have ho1 : w.ownsMap Tryz.prog 3 c.R b m.length D := by
    obtain ⟨es, clock, hb, F, hs, rfl⟩ := ho
    refine ⟨es, clock, hb, F, ?_, rfl⟩
    rw [← hsz]
    simp [Maps.size, length_sorted]
  obtain ⟨w', hr, ho', ht'⟩ := ho1.store keyedI ht hn (keyI hk) (c.hR v)
  refine ⟨w', hr, ⟨h.srt.put k v, _, _, ho', fun j => ?_, fun j u hj z => ?_⟩, ht'.grown, ?_⟩
  · rw [h.srt.get_put]
    by_cases e : j = k
    · subst e; simpa using has_put_same hmap (keyedI.key (keyI hk)) _
    · rw [has_put_other (by simp [e]), h1]; simp [e]
  · rw [h.srt.get_put] at hj
    by_cases e : j = k
    · subst e; simp at hj; subst hj
      exact atKey_put_same hmap (keyedI.key (keyI hk)) _ _
    · rw [atKey_put_other (by simp [e])]
      simp [e] at hj
      exact h2 j u hj z
  · obtain ⟨es, clock, es', clock', _, rfl⟩ := ht'
    simp [Go.ChangeMaps.setBlock]
end

/-- A nil map. -/
theorem nil_look {w : World} {t e : TypeId} {z : Value} (ht : Tryz.prog.underlying t = some (.map 3 e)) (hz : (zeroValue e).run Tryz.prog w = .ok z w) {k : Int} (hk : (Lit.int .i64 k).wf = true) (c : Bool) :
    (Instr.lookup t (.map none) (.int .i64 k) c).run Tryz.prog w = .ok (if c then .tuple #[z, .bool false] else z) w := Maps.look_nil c keyedI ht hz (keyI hk)
end Go.Proofs.YtcfcfijmfgnpfaaGreatDoor
end

section
namespace Go.Proofs.YtcfcfijmfgnpfaaGreatDoor
open Go.RowKit
set_option linter.unusedVariables false

theorem ret_int {k : IntKind} {a b : Int} (h : a = b) : Ending.returned (.int k a) = .returned (.int k b) := by rw [h]
theorem ret_bool {a b : Bool} (h : a = b) : Ending.returned (.bool a) = .returned (.bool b) := by rw [h]

theorem info5 : (Tryz.prog.info? 5).map (fun i => (i.zero, i.size, i.bytes)) = some (some (.int .u8 0), 1, 1) := by kernel_rfl

/-- Bytes as the cells of a row. -/
def Bs (l : List Nat) : List Value := l.map fun (b : Nat) => Value.int .u8 (b : Int)
/-- The lowest k bytes of n, the lowest first. -/
def lowL (n : Nat) : Nat → List Nat
  | 0 => []
  | k + 1 => lowL n k ++ [n / 256 ^ k % 256]
theorem lowL_length (n : Nat) : ∀ k, (lowL n k).length = k
  | 0 => rfl
  | k + 1 => by simp [lowL, lowL_length n k]
theorem Bs_append (a b : List Nat) : Bs (a ++ b) = Bs a ++ Bs b := by simp [Bs]
theorem Bs_length (a : List Nat) : (Bs a).length = a.length := by simp [Bs]

/-- A slice value owns these bytes' cells. -/
def OwnB (B : Nat) (v : Value) (l : List Value) (w : World) : Prop := w.ownsRow B 5 1 v l.length l

/-- A slice comes back that owns these cells; below B nothing has turned. -/
def OwnRet (B : Nat) (xs : List Value) (w : World) (e : Ending) (w' : World) : Prop :=
  ∃ v', e = .returned v' ∧ OwnB B v' xs w' ∧ Below B w w' ∧ B ≤ w'.heap.size

theorem own_low {B : Nat} {v' : Value} {xs L : List Value} {n j m : Nat} {w1 : World} (hL : L = xs ++ Bs (lowL n j)) (hq : m = n / 256 ^ j) (h : w1.ownsRow B 5 1 v' (L.length + 1) (L ++ [.int .u8 ((m : Int) % 256)])) :
    OwnB B v' (xs ++ Bs (lowL n (j + 1))) w1 := by
  have e : xs ++ Bs (lowL n (j + 1)) = L ++ [.int .u8 ((m : Int) % 256)] := by
    rw [hL, lowL, Bs_append, List.append_assoc, hq]; rfl
  unfold OwnB; rw [e, List.length_append]; exact h

set_option maxHeartbeats 1000000 in
theorem compact_low (B : Nat) (v : Value) (xs : List Value) (n k : Nat) (w : World) (hn : n < 9223372036854775808) (hk : k ≤ 9) (hown : OwnB B v xs w) (hm : xs.length ≤ 1099511627776) (hB : B ≤ w.heap.size) :
    Calls Tryz.prog 120 #[v, .int .i64 n, .int .i64 k] w (OwnRet B (xs ++ Bs (lowL n k)) w) := by
  obtain ⟨i0, hi, hz0, hz1, hz2⟩ := info_parts info5
  go_enter Tryz.func120, Tryz.ntmps120
  go_wp2
  go_loopw [0, 1, 8] (fun b q i wr => ∃ j m : Nat, j ≤ k ∧ i = .int .i64 j ∧ q = .int .i64 m ∧ m = n / 256 ^ j ∧ OwnB B b (xs ++ Bs (lowL n j)) wr ∧ Below B w wr ∧ B ≤ wr.heap.size) (fun _ _ i _ => k - (intOf i).toNat)
  case atStart => exact ⟨0, n, Nat.zero_le _, rfl, rfl, by simp, by simpa [lowL, Bs] using hown, Below.refl _ _, hB⟩
  case round =>
    obtain ⟨j, m, hj, rfl, rfl, hq, ho, hb, hs⟩ := hrel
    have hm : m ≤ n := by rw [hq]; exact Nat.div_le_self _ _
    have HQ := Lib.hid hq
    clear hq
    by_cases hlt : j < k
    · obtain ⟨L, hL⟩ : ∃ L, L = xs ++ Bs (lowL n j) := ⟨_, rfl⟩
      have hc1 : L.length = xs.length + j := by rw [hL, List.length_append, Bs_length, lowL_length]
      have ho' : wr.ownsRow B 5 1 u0 L.length L := by rw [hL]; exact ho
      have HC := Lib.hid hc1
      have HL := Lib.hid hL
      clear hc1 hL ho
      go_wp2_with (first | (at_builtin; refine wpList_append_own _ rfl _ _ 75 rfl B 5 i0 (.int .u8 0) 1 1 Tryz.underlying75 hi hz0 hz1 hz2 rfl (by decide) _ _ _ rfl (ho'.alloc _) ⟨wr.heap.size, 0, none⟩ 1 1 [.int .u8 ((m : Int) % 256)] rfl rfl ?c1 ?c2 ?c3 ?c4 ?c5 ?_) | fail)
      case c1 =>
        intro j u hj
        match j, hj with
        | 0, hj => simp at hj; subst hj; simp [Addr.add]
      case c2 => intro u hu; simp at hu; subst hu; rfl
      case c3 => rw [HC.out]; unfold maxLen; omega
      case c4 => rw [HC.out]; omega
      case c5 => simp; omega
      intro v' w1 hown' hgrow _
      have R := own_low HL.out HQ.out hown'
      have hb1 : Below B w w1 := (hb.alloc hs _).grown hgrow (by simp; omega) (fun r hr => (ho'.lt r hr).1)
      have hs1 : B ≤ w1.heap.size := by have := hgrow.size; simp at this; omega
      have hq1 : m / 256 = n / 256 ^ (j + 1) := by rw [HQ.out, Nat.div_div_eq_div_mul, Nat.pow_succ]
      have HQ1 := Lib.hid hq1
      clear hown' hgrow ho' hb hs hq1
      go_wp2
      exact ⟨⟨j + 1, m / 256, by omega, by go_num, by go_num, HQ1.out, R, hb1, hs1⟩, by simp [intOf]; omega⟩
    · go_wp2
      go_ret
      have : j = k := by omega
      subst this
      exact ⟨_, rfl, ho, hb, hs⟩

end Go.Proofs.YtcfcfijmfgnpfaaGreatDoor
end

section
namespace Go.Proofs.YtcfcfijmfgnpfaaGreatDoor
open Go.RowKit Go.Maps Go.WideMaps
set_option linter.unusedVariables false
set_option linter.unusedSimpArgs false

/-- A digest. -/
structure Dg where
  s : List Nat
  len : s.length = 32
  lt : ∀ x ∈ s, x < 256
deriving DecidableEq
theorem Dg.ext {a b : Dg} (h : a.s = b.s) : a = b := by cases a; cases b; simp at h; subst h; rfl
/-- Which bytes come first. -/
def lexN : List Nat → List Nat → Bool
  | [], [] => false
  | [], _ :: _ => true
  | _ :: _, [] => false
  | a :: l, b :: m => decide (a < b) || (decide (a = b) && lexN l m)
theorem lexN_irr : ∀ l, lexN l l = false
  | [] => rfl
  | a :: l => by simp [lexN, lexN_irr l]
theorem lexN_tr : ∀ {a b c : List Nat}, lexN a b = true → lexN b c = true → lexN a c = true
  | [], [], _, h, _ => by simp [lexN] at h
  | [], _ :: _, [], _, k => by simp [lexN] at k
  | [], _ :: _, _ :: _, _, _ => rfl
  | _ :: _, [], _, h, _ => by simp [lexN] at h
  | _ :: _, _ :: _, [], _, k => by simp [lexN] at k
  | a :: l, b :: m, c :: n, h, k => by
    simp only [lexN, Bool.or_eq_true, Bool.and_eq_true, decide_eq_true_eq] at h k ⊢
    rcases h with h | ⟨rfl, h⟩
    · rcases k with k | ⟨rfl, k⟩
      · exact .inl (by omega)
      · exact .inl h
    · rcases k with k | ⟨rfl, k⟩
      · exact .inl k
      · exact .inr ⟨rfl, lexN_tr h k⟩
theorem lexN_tot : ∀ {a b : List Nat}, a ≠ b → lexN a b = true ∨ lexN b a = true
  | [], [], h => absurd rfl h
  | [], _ :: _, _ => .inl rfl
  | _ :: _, [], _ => .inr rfl
  | a :: l, b :: m, h => by
    simp only [lexN, Bool.or_eq_true, Bool.and_eq_true, decide_eq_true_eq]
    by_cases e : a = b
    · subst e
      rcases lexN_tot (a := l) (b := m) (fun e => h (by rw [e])) with k | k
      · exact .inl (.inr ⟨rfl, k⟩)
      · exact .inr (.inr ⟨rfl, k⟩)
    · rcases Nat.lt_or_gt_of_ne e with k | k
      · exact .inl (.inl k)
      · exact .inr (.inl k)
def dlt (a b : Dg) : Prop := lexN a.s b.s = true
instance : DecidableRel dlt := fun a b => by unfold dlt; infer_instance
theorem dlt_irr (a : Dg) : ¬ dlt a a := by simp [dlt, lexN_irr]
theorem dlt_tr (a b c : Dg) (h : dlt a b) (k : dlt b c) : dlt a c := lexN_tr h k
theorem dlt_tot {a b : Dg} (h : a ≠ b) : dlt a b ∨ dlt b a := lexN_tot (fun e => h (Dg.ext e))

/-- Sorted by digest. -/
def SrtD {β : Type} (m : List (Dg × β)) : Prop := m.Pairwise (fun x y => dlt x.1 y.1)
section
variable {β : Type}
def dget (m : List (Dg × β)) (k : Dg) : Option β := (m.find? (fun x => decide (x.1 = k))).map (·.2)
def ddel (m : List (Dg × β)) (k : Dg) : List (Dg × β) := m.filter (fun x => !decide (x.1 = k))
def dput (m : List (Dg × β)) (k : Dg) (v : β) : List (Dg × β) := ins dlt (k, v) (ddel m k)
theorem mem_ddel {m : List (Dg × β)} {k : Dg} {x : Dg × β} : x ∈ ddel m k ↔ x ∈ m ∧ x.1 ≠ k := by simp [ddel]
theorem mem_dput {m : List (Dg × β)} {k : Dg} {v : β} {x : Dg × β} : x ∈ dput m k v ↔ x = (k, v) ∨ (x ∈ m ∧ x.1 ≠ k) := by rw [dput, mem_ins, mem_ddel]
theorem SrtD.del {m : List (Dg × β)} (h : SrtD m) (k : Dg) : SrtD (ddel m k) := List.Pairwise.filter _ h
theorem SrtD.put {m : List (Dg × β)} (h : SrtD m) (k : Dg) (v : β) : SrtD (dput m k v) :=
  srt_ins dlt dlt_tr (k, v) _ (h.del k) (fun y hy => dlt_tot (fun e => (mem_ddel.1 hy).2 e.symm))
theorem SrtD.ext {m m' : List (Dg × β)} (h : SrtD m) (h' : SrtD m') (hm : ∀ x, x ∈ m ↔ x ∈ m') : m = m' :=
  sorted_ext (r := fun x y : Dg × β => dlt x.1 y.1) (fun a => dlt_irr _) (fun a b c => dlt_tr _ _ _) h h' hm
theorem SrtD.one {m : List (Dg × β)} (h : SrtD m) {x y : Dg × β} (hx : x ∈ m) (hy : y ∈ m) (e : x.1 = y.1) : x = y := by
  induction m with
  | nil => simp at hx
  | cons a m ih =>
    have hp := List.pairwise_cons.1 h
    rcases List.mem_cons.1 hx with rfl | hx' <;> rcases List.mem_cons.1 hy with rfl | hy'
    · rfl
    · exact absurd (e ▸ hp.1 y hy') (dlt_irr _)
    · exact absurd (e ▸ hp.1 x hx') (dlt_irr _)
    · exact ih hp.2 hx' hy'
theorem dget_mem {m : List (Dg × β)} {k : Dg} {v : β} (h : dget m k = some v) : (k, v) ∈ m := by
  unfold dget at h
  obtain ⟨x, hx, e⟩ := Option.map_eq_some_iff.1 h
  have h1 := List.find?_some hx
  have h2 := List.mem_of_find?_eq_some hx
  simp at h1
  obtain ⟨a, b⟩ := x
  simp at h1 e
  subst h1 e
  exact h2
theorem dget_none {m : List (Dg × β)} {k : Dg} : dget m k = none ↔ ∀ v, (k, v) ∉ m := by
  unfold dget
  rw [Option.map_eq_none_iff, List.find?_eq_none]
  constructor
  · intro h v hm
    exact h _ hm (by simp)
  · rintro h ⟨a, b⟩ hm e
    simp at e
    subst e
    exact h b hm
theorem SrtD.get {m : List (Dg × β)} (h : SrtD m) {k : Dg} {v : β} : dget m k = some v ↔ (k, v) ∈ m := by
  refine ⟨dget_mem, fun hm => ?_⟩
  cases e : dget m k with
  | none => exact absurd hm (dget_none.1 e v)
  | some u =>
    have := h.one (dget_mem e) hm rfl
    simpa using this
theorem SrtD.get_put {m : List (Dg × β)} (h : SrtD m) (k j : Dg) (v : β) : dget (dput m k v) j = if j = k then some v else dget m j := by
  by_cases e : j = k
  · subst e; simp only [if_true]
    exact (h.put j v).get.2 (mem_dput.2 (.inl rfl))
  · simp only [e, if_false]
    cases e' : dget m j with
    | none => exact dget_none.2 (fun u hu => by
        rcases mem_dput.1 hu with h' | h'
        · simp at h'; exact e h'.1
        · exact dget_none.1 e' u h'.1)
    | some u => exact (h.put k v).get.2 (mem_dput.2 (.inr ⟨dget_mem e', e⟩))
theorem SrtD.get_del {m : List (Dg × β)} (h : SrtD m) (k j : Dg) : dget (ddel m k) j = if j = k then none else dget m j := by
  by_cases e : j = k
  · subst e; simp only [if_true]
    exact dget_none.2 (fun u hu => (mem_ddel.1 hu).2 rfl)
  · simp only [e, if_false]
    cases e' : dget m j with
    | none => exact dget_none.2 (fun u hu => dget_none.1 e' u (mem_ddel.1 hu).1)
    | some u => exact (h.del k).get.2 (mem_ddel.2 ⟨dget_mem e', e⟩)
theorem ddel_none {m : List (Dg × β)} {k : Dg} (h : dget m k = none) : ddel m k = m := by
  unfold ddel
  rw [List.filter_eq_self]
  rintro ⟨a, b⟩ hm
  simp
  rintro rfl
  exact dget_none.1 h b hm
theorem SrtD.length_del {m : List (Dg × β)} (h : SrtD m) (k : Dg) : (ddel m k).length + (if (dget m k).isSome then 1 else 0) = m.length := by
  induction m with
  | nil => rfl
  | cons x m ih =>
    have hp := List.pairwise_cons.1 h
    by_cases e : x.1 = k
    · have h1 : ddel m k = m := ddel_none (dget_none.2 (fun v hv => by have := hp.1 _ hv; rw [e] at this; exact dlt_irr _ this))
      have h2 : ddel (x :: m) k = m := by rw [← h1]; simp [ddel, e]
      have h3 : dget (x :: m) k = some x.2 := by simp [dget, e]
      rw [h2, h3]; rfl
    · have h2 : ddel (x :: m) k = x :: ddel m k := by simp [ddel, e]
      have h3 : dget (x :: m) k = dget m k := by simp [dget, e]
      rw [h2, h3, List.length_cons, List.length_cons, ← ih hp.2]
      omega
theorem SrtD.length_put {m : List (Dg × β)} (h : SrtD m) (k : Dg) (v : β) : (dput m k v).length = if (dget m k).isSome then m.length else m.length + 1 := by
  have := h.length_del k
  rw [dput, length_ins]
  split <;> simp_all <;> omega
end

/-! digests as keys -/
/-- A digest as a value, and as a key. -/
def dv (d : Dg) : Value := .agg (Bs d.s).toArray
def dlit (d : Dg) : Lit := .string (d.s.map UInt8.ofNat)
theorem map_ofNat_inj : ∀ {a b : List Nat}, (∀ x ∈ a, x < 256) → (∀ x ∈ b, x < 256) → a.map UInt8.ofNat = b.map UInt8.ofNat → a = b
  | [], [], _, _, _ => rfl
  | [], _ :: _, _, _, h => by simp at h
  | _ :: _, [], _, _, h => by simp at h
  | x :: a, y :: b, ha, hb, h => by
    simp only [List.map_cons, List.cons.injEq] at h
    have h1 : x = y := by
      have := congrArg UInt8.toNat h.1
      have hx := ha x (by simp)
      have hy := hb y (by simp)
      simp only [UInt8.toNat_ofNat'] at this
      omega
    rw [h1, map_ofNat_inj (fun z hz => ha z (List.mem_cons_of_mem _ hz)) (fun z hz => hb z (List.mem_cons_of_mem _ hz)) h.2]
theorem dlit_inj {a b : Dg} (h : dlit a = dlit b) : a = b := by
  simp only [dlit, Lit.string.injEq] at h
  exact Dg.ext (map_ofNat_inj a.lt b.lt h)
theorem Bs_inj : ∀ {a b : List Nat}, Bs a = Bs b → a = b
  | [], [], _ => rfl
  | [], _ :: _, h => by simp [Bs] at h
  | _ :: _, [], h => by simp [Bs] at h
  | x :: a, y :: b, h => by
    simp only [Bs, List.map_cons, List.cons.injEq, Value.int.injEq, true_and] at h
    have h1 : x = y := by omega
    rw [h1, Bs_inj (a := a) (b := b) h.2]
theorem dv_inj {a b : Dg} (h : dv a = dv b) : a = b := by
  simp only [dv, Value.agg.injEq] at h
  exact Dg.ext (Bs_inj (by simpa using congrArg Array.toList h))
theorem arrH : ArrKey Tryz.prog 41 5 32 := ⟨Tryz.underlying41, by kernel_rfl, by kernel_rfl, by kernel_rfl⟩
theorem lawH : KeyLaw Tryz.prog 41 := arrH.law
theorem keyedH : Keyed Tryz.prog 41 := Keyed.of_law lawH
theorem typesSz : ∃ m, Tryz.prog.types.size = m + 1 := by
  have h : decide (0 < Tryz.prog.types.size) = true := by kernel_rfl
  have h2 := of_decide_eq_true h
  exact ⟨Tryz.prog.types.size - 1, by omega⟩
theorem mapM_all {α β : Type} {f : α → Option β} {g : α → β} : ∀ {l : List α}, (∀ x ∈ l, f x = some (g x)) → l.mapM f = some (l.map g)
  | [], _ => rfl
  | a :: l, h => by
    rw [List.mapM_cons, h a (by simp), mapM_all (l := l) (fun x hx => h x (List.mem_cons_of_mem _ hx))]
    rfl
theorem mapM_each {α β : Type} {f : α → Option β} : ∀ {l : List α} {r : List β}, l.mapM f = some r → ∀ x ∈ l, ∃ y, f x = some y
  | [], _, _, x, hx => by simp at hx
  | a :: l, r, h, x, hx => by
    rw [List.mapM_cons] at h
    cases e : f a with
    | none => rw [e] at h; simp at h
    | some y =>
      rw [e] at h
      simp only [Option.pure_def, Option.bind_eq_bind, Option.bind_some] at h
      cases e2 : l.mapM f with
      | none => rw [e2] at h; simp at h
      | some q =>
        rcases List.mem_cons.1 hx with rfl | hx
        · exact ⟨y, e⟩
        · exact mapM_each e2 x hx
theorem u8_wf {x : Nat} (h : x < 256) : (Lit.int .u8 (x : Int)).wf = true := by
  simp [Lit.wf, IntKind.min, IntKind.max, IntKind.signed, IntKind.bits]; omega
theorem keyLits_u8 {m x : Nat} (h : x < 256) : Tryz.prog.keyLits (m + 1) 5 [.int .u8 (x : Int)] = some [.int .u8 (x : Int)] := by
  unfold Program.keyLits
  simp only [Tryz.underlying5]
  simp [u8_wf h]
theorem keyBytes_u8 : ∀ {l : List Nat}, (∀ x ∈ l, x < 256) → keyBytes (l.map fun x => Lit.int .u8 ((x : Nat) : Int)) = l.map UInt8.ofNat
  | [], _ => rfl
  | x :: l, h => by
    have h1 : Lit.keyBytes (.int .u8 (x : Int)) = [UInt8.ofNat x] := by
      have hx := h x (by simp)
      have e : ((x : Int) % 2 ^ IntKind.u8.bits).toNat = x := by
        show ((x : Int) % 2 ^ 8).toNat = x
        omega
      show bytesBE (IntKind.u8.bits / 8) ((x : Int) % 2 ^ IntKind.u8.bits).toNat = _
      rw [e]
      show bytesBE 1 x = _
      simp [bytesBE, bytesLE]
      rw [← UInt8.toNat_inj]
      simp
    have h2 := keyBytes_u8 (l := l) (fun z hz => h z (List.mem_cons_of_mem _ hz))
    unfold keyBytes at h2 ⊢
    rw [List.map_cons, List.flatMap_cons, h1, h2]
    rfl
theorem flat_ones {α β : Type} (f : α → β) : ∀ r : List α, (r.map fun i => [f i]).flatten = r.map f
  | [] => rfl
  | a :: r => by rw [List.map_cons, List.flatten_cons, flat_ones f r]; rfl
theorem keyD (d : Dg) : keyOf Tryz.prog 41 (dv d) = some (dlit d) := by
  have hkt := arrH.keyType typesSz
  obtain ⟨m, hm⟩ := typesSz
  have hl : (Bs d.s).length = 32 := by rw [Bs_length, d.len]
  unfold keyOf
  simp only [arrH.hu]
  rw [if_pos (by simp [hkt, dv, Value.formed, arrH.hu, arrH.size, hl]), hm]
  unfold Program.keyLits
  simp only [arrH.hu, Value.cells, dv]
  rw [if_pos (by rw [arrH.size]; simpa using hl)]
  rw [mapM_all (g := fun i => [Lit.int .u8 ((d.s.getD i 0 : Nat) : Int)]) (fun i hi => ?_)]
  · have e : ((List.range 32).map fun i => [Lit.int .u8 ((d.s.getD i 0 : Nat) : Int)]).flatten = d.s.map fun x => Lit.int .u8 ((x : Nat) : Int) := by
      have e1 : d.s = (List.range 32).map fun i => d.s.getD i 0 := by
        refine List.ext_getElem? (fun i => ?_)
        by_cases hi : i < 32
        · rw [List.getElem?_map, List.getElem?_range hi, Option.map_some, List.getD_eq_getElem?_getD, List.getElem?_eq_getElem (by rw [d.len]; exact hi)]; rfl
        · rw [List.getElem?_eq_none (by rw [d.len]; omega), List.getElem?_eq_none (by simp; omega)]
      conv => rhs; rw [e1]
      rw [List.map_map]
      exact flat_ones _ _
    simp only [Option.map_some, e, keyBytes_u8 d.lt]
    rfl
  · have hi' : i < 32 := List.mem_range.1 hi
    have hi2 : i < d.s.length := by rw [d.len]; exact hi'
    have e : ((Bs d.s).drop (i * Tryz.prog.cellsOf 5)).take (Tryz.prog.cellsOf 5) = [Value.int .u8 ((d.s.getD i 0 : Nat) : Int)] := by
      rw [arrH.one, Nat.mul_one, List.drop_eq_getElem_cons (by rw [hl]; exact hi'), List.take_succ_cons, List.take_zero]
      simp [Bs, List.getD_eq_getElem?_getD, hi2]
    have hz : d.s.getD i 0 < 256 := by
      rw [List.getD_eq_getElem?_getD, List.getElem?_eq_getElem hi2]
      exact d.lt _ (List.getElem_mem hi2)
    show Tryz.prog.keyLits (m + 1) 5 (((Bs d.s).drop (i * Tryz.prog.cellsOf 5)).take (Tryz.prog.cellsOf 5)) = _
    rw [e, keyLits_u8 hz]
theorem keyD_inv {v : Value} {kl : Lit} (h : keyOf Tryz.prog 41 v = some kl) : ∃ d, v = dv d ∧ kl = dlit d := by
  have h0 := h
  obtain ⟨m, hm⟩ := typesSz
  unfold keyOf at h
  simp only [arrH.hu] at h
  by_cases hc : (Tryz.prog.keyType 41 && v.formed Tryz.prog 41) = true
  · rw [if_pos hc, hm] at h
    rw [Bool.and_eq_true] at hc
    have hf := hc.2
    cases v <;> simp [Value.formed, arrH.hu, arrH.size] at hf
    rename_i xs
    obtain ⟨ls, hls, -⟩ := Option.map_eq_some_iff.1 h
    unfold Program.keyLits at hls
    simp only [arrH.hu, Value.cells] at hls
    rw [if_pos (by rw [arrH.size]; simpa using hf)] at hls
    obtain ⟨r, hr, -⟩ := Option.map_eq_some_iff.1 hls
    have each := mapM_each hr
    have hu8 : ∀ i (hi : i < xs.size), ∃ n : Nat, xs[i] = .int .u8 (n : Int) ∧ n < 256 := by
      intro i hi
      obtain ⟨y, hy⟩ := each i (List.mem_range.2 (by omega))
      have e : ((xs.toList).drop (i * Tryz.prog.cellsOf 5)).take (Tryz.prog.cellsOf 5) = [xs[i]] := by
        rw [arrH.one, Nat.mul_one, List.drop_eq_getElem_cons (by simpa using hi), List.take_succ_cons, List.take_zero]
        simp
      rw [e] at hy
      change Tryz.prog.keyLits (m + 1) 5 [xs[i]] = _ at hy
      unfold Program.keyLits at hy
      simp only [Tryz.underlying5] at hy
      cases hx : xs[i] <;> rw [hx] at hy <;> simp at hy
      rename_i q n
      obtain ⟨⟨rfl, hw⟩, -⟩ := hy
      have hn : 0 ≤ n ∧ n < 256 := by
        simp [Lit.wf, IntKind.min, IntKind.max, IntKind.signed, IntKind.bits] at hw
        omega
      exact ⟨n.toNat, by rw [Int.toNat_of_nonneg hn.1], by omega⟩
    let g : Value → Nat := fun v => match v with | .int _ n => n.toNat | _ => 0
    have hg : ∀ i (hi : i < xs.size), xs[i] = .int .u8 ((g xs[i] : Nat) : Int) ∧ g xs[i] < 256 := by
      intro i hi
      obtain ⟨n, e, hn⟩ := hu8 i hi
      rw [e]
      exact ⟨by simp [g], by simpa [g] using hn⟩
    have hd : ∃ d : Dg, Value.agg xs = dv d := by
      refine ⟨⟨xs.toList.map g, by simpa using hf, fun x hx => ?_⟩, ?_⟩
      · obtain ⟨v, hv, rfl⟩ := List.mem_map.1 hx
        obtain ⟨i, hi, rfl⟩ := List.mem_iff_getElem.1 hv
        exact (hg i (by simpa using hi)).2
      · refine congrArg Value.agg (Array.ext (by simp [Bs_length]) (fun i h1 h2 => ?_))
        simp only [Bs, List.map_map, List.getElem_toArray, List.getElem_map, Function.comp_apply, Array.getElem_toList]
        exact (hg i h1).1
    obtain ⟨d, e⟩ := hd
    refine ⟨d, e, ?_⟩
    rw [e, keyD] at h0
    exact (Option.some.inj h0).symm
  · rw [if_neg hc] at h
    cases h
end Go.Proofs.YtcfcfijmfgnpfaaGreatDoor
end

section
namespace Go.Proofs.YtcfcfijmfgnpfaaGreatDoor
open Go.RowKit Go.Maps
set_option linter.unusedVariables false
set_option linter.unusedSimpArgs false

theorem dlit_ne {a b : Dg} (h : a ≠ b) : dlit a ≠ dlit b := fun e => h (dlit_inj e)
theorem dlit_same (a b : Dg) : (dlit a).sameKey (dlit b) = decide (a = b) := by
  by_cases h : a = b
  · subst h
    simp [WideAt.sameKey_self (keyedH.key (keyD a))]
  · simp [h, Maps.sameKey_ne (dlit_ne h)]
/-- No key twice; a key is on the list just where the map has it and it is no longer to come. -/
def CollD {H : Type} (D0 : DataW H) (left : Lit → Bool) (ss : List Dg) : Prop := ss.Nodup ∧ ∀ x, x ∈ ss ↔ (has D0 (dlit x) = true ∧ left (dlit x) = false)
theorem CollD.start {H : Type} (D0 : DataW H) : CollD D0 (has D0) [] := ⟨List.nodup_nil, fun x => by cases has D0 (dlit x) <;> simp⟩
theorem CollD.step {H : Type} {D0 : DataW H} {left : Lit → Bool} {ss : List Dg} (h : CollD D0 left ss) {x : Dg} {y : DataW H} (hlk : left (dlit x) = true) (hat : ∀ zd, D0.atKey (dlit x) zd = y) : CollD D0 (fun z => left z && !z.sameKey (dlit x)) (ss ++ [x]) := by
  have hhas : has D0 (dlit x) = true := has_true_of_atKey hat
  have hnew : x ∉ ss := fun hx => by have := ((h.2 x).1 hx).2; rw [hlk] at this; cases this
  refine ⟨List.nodup_append.2 ⟨h.1, by simp, fun a ha b hb => by simp at hb; subst hb; exact fun e => hnew (e ▸ ha)⟩, fun y => ?_⟩
  by_cases hy : y = x
  · subst hy; simp [hhas, dlit_same]
  · simp [h.2 y, hy, dlit_same]
/-- A map's keys. -/
theorem own_keys {H : Type} {R : Value → Option (DataW H × List MemPlace)} {w : World} {b n : Nat} {D : DataW H} (h : w.ownsMap Tryz.prog 41 R b n D) : ∃ es : List (Dg × DataW H), es.Pairwise (fun p q => p.1 ≠ q.1) ∧ Maps.size D = es.length ∧ ∀ d, has D (dlit d) = true ↔ ∃ v, (d, v) ∈ es := by
  obtain ⟨es, hD, hpw, _⟩ := h.entries keyedH
  obtain ⟨es', hD', hko⟩ := h.keysOf
  obtain rfl : es = es' := by rw [hD] at hD'; simpa using hD'
  subst hD
  have hk : ∀ p ∈ es, ∃ d, p.1 = dlit d := fun p hp => by
    obtain ⟨v, hv⟩ := hko p hp
    obtain ⟨d, -, e⟩ := keyD_inv hv
    exact ⟨d, e⟩
  have main : ∀ es : List (Lit × DataW H), es.Pairwise (fun p q => p.1 ≠ q.1) → (∀ p ∈ es, ∃ d, p.1 = dlit d) → ∃ fs : List (Dg × DataW H), es = fs.map (fun x => (dlit x.1, x.2)) ∧ fs.Pairwise (fun p q => p.1 ≠ q.1) := by
    intro es
    induction es with
    | nil => exact fun _ _ => ⟨[], rfl, List.Pairwise.nil⟩
    | cons p es ih =>
      intro h1 h2
      obtain ⟨fs, e, hf⟩ := ih (List.pairwise_cons.1 h1).2 (fun q hq => h2 q (List.mem_cons_of_mem _ hq))
      obtain ⟨d, hd⟩ := h2 p (by simp)
      refine ⟨(d, p.2) :: fs, by rw [List.map_cons, ← e, ← hd], List.pairwise_cons.2 ⟨fun q hq he => ?_, hf⟩⟩
      have h3 := (List.pairwise_cons.1 h1).1 (dlit q.1, q.2) (by rw [e]; exact List.mem_map_of_mem hq)
      exact h3 (by rw [hd]; exact congrArg dlit he)
  obtain ⟨fs, e, hf⟩ := main es hpw hk
  refine ⟨fs, hf, by rw [e]; simp [Maps.size], fun d => ?_⟩
  rw [has_eq, List.any_eq_true, e]
  constructor
  · rintro ⟨p, hp, hs⟩
    obtain ⟨q, hq, rfl⟩ := List.mem_map.1 hp
    rw [dlit_same] at hs
    have := of_decide_eq_true hs
    exact ⟨q.2, by rw [← this]; exact hq⟩
  · rintro ⟨v, hv⟩
    exact ⟨_, List.mem_map_of_mem hv, by simp [dlit_same]⟩

section
variable {β : Type} {c : Cod β} {b : Nat} {m : List (Dg × β)} {w : World}
theorem SrtD.nodup (h : SrtD m) : (m.map (·.1)).Nodup := List.pairwise_map.2 (h.imp (fun {x y} hlt e => by have h2 : dlt x.1 y.1 := hlt; rw [e] at h2; exact dlt_irr _ h2))
/-- Block b is a map that holds m. -/
structure MapD (c : Cod β) (b : Nat) (m : List (Dg × β)) (w : World) : Prop where
  srt : SrtD m
  own : ∃ n D, w.ownsMap Tryz.prog 41 c.R b n D ∧ (∀ k, Maps.has D (dlit k) = (dget m k).isSome) ∧ ∀ k v, dget m k = some v → ∀ z, D.atKey (dlit k) z = c.dat v
theorem MapD.lt (h : MapD c b m w) : b < w.heap.size := by obtain ⟨n, D, ho, _⟩ := h.own; exact ho.lt
theorem MapD.kept {w' : World} {row : Option Nat} (h : MapD c b m w) (hg : w.grownBy w' row) (hne : some b ≠ row) : MapD c b m w' := by
  obtain ⟨n, D, ho, h1, h2⟩ := h.own
  exact ⟨h.srt, n, D, ho.kept hg hne, h1, h2⟩
theorem MapD.block {w' : World} (h : MapD c b m w) (hb : w'.heap[b]? = w.heap[b]?) : MapD c b m w' := by
  obtain ⟨n, D, ⟨es, clock, hh, F, hs, hD⟩, h1, h2⟩ := h.own
  exact ⟨h.srt, n, D, ⟨es, clock, hb.trans hh, F, hs, hD⟩, h1, h2⟩
theorem MapD.isMap (h : MapD c b m w) : ∃ es clock, w.heap[b]? = some (.map es clock) := by
  obtain ⟨n, D, ⟨es, clock, hh, _⟩, _⟩ := h.own
  exact ⟨es, clock, hh⟩
theorem MapD.made (c : Cod β) (w : World) : MapD c w.heap.size [] (w.alloc (.map #[] 0)) :=
  ⟨List.Pairwise.nil, 0, _, World.ownsMap_made _ _ _ _, fun k => by simp [Maps.has, dget], fun k v h => by simp [dget] at h⟩
theorem MapD.perm {n : Nat} {D : DataW Unit} (hs : SrtD m) (ho : w.ownsMap Tryz.prog 41 c.R b n D) (h1 : ∀ k, Maps.has D (dlit k) = (dget m k).isSome) {ss : List Dg} (hn : ss.Nodup) (hm : ∀ x, x ∈ ss ↔ has D (dlit x) = true) : ss.Perm (m.map (·.1)) := by
  refine (List.perm_ext_iff_of_nodup hn hs.nodup).2 fun x => ?_
  rw [hm, h1]
  constructor
  · intro h
    obtain ⟨v, hv⟩ := Option.isSome_iff_exists.1 h
    exact List.mem_map.2 ⟨_, dget_mem hv, rfl⟩
  · intro h
    obtain ⟨y, hy, rfl⟩ := List.mem_map.1 h
    have : dget m y.1 = some y.2 := hs.get.2 hy
    simp [this]
theorem MapD.size {n : Nat} {D : DataW Unit} (hs : SrtD m) (ho : w.ownsMap Tryz.prog 41 c.R b n D) (h1 : ∀ k, Maps.has D (dlit k) = (dget m k).isSome) : Maps.size D = m.length := by
  obtain ⟨es, hp, e, hm⟩ := own_keys ho
  have h := (MapD.perm hs ho h1 (ss := es.map (·.1)) (List.pairwise_map.2 hp) (fun x => by
    rw [hm, List.mem_map]
    exact ⟨fun ⟨q, h1, h2⟩ => ⟨q.2, by rw [← h2]; exact h1⟩, fun ⟨v, hv⟩ => ⟨_, hv, rfl⟩⟩)).length_eq
  rw [e]
  simpa using h
theorem MapD.atKey {z0 : β} {D : DataW Unit} (h1 : ∀ k, Maps.has D (dlit k) = (dget m k).isSome) (h2 : ∀ k v, dget m k = some v → ∀ z, D.atKey (dlit k) z = c.dat v) (k : Dg) : D.atKey (dlit k) (c.dat z0) = c.dat ((dget m k).getD z0) := by
  cases e : dget m k with
  | some v => exact h2 k v e _
  | none =>
    refine atKey_of_not_has ?_ _
    rw [h1, e]; rfl
theorem MapD.look {t e : TypeId} {z0 : β} (h : MapD c b m w) (ht : Tryz.prog.underlying t = some (.map 41 e)) (hz : (zeroValue e).run Tryz.prog w = .ok (c.enc z0) w) (k : Dg) :
    (Instr.lookup t (.map (some b)) (dv k) false).run Tryz.prog w = .ok (c.enc ((dget m k).getD z0)) w := by
  obtain ⟨n, D, ho, h1, h2⟩ := h.own
  obtain ⟨v, ps, hr, hv⟩ := ho.lookup keyedH ht hz (c.hR z0) (keyD k)
  rw [MapD.atKey h1 h2] at hv
  obtain ⟨x, rfl, hx⟩ := c.inv _ _ hv
  have := c.inj _ _ (congrArg Prod.fst hx)
  rw [hr, this]
theorem MapD.look_ok {t e : TypeId} {z0 : β} (h : MapD c b m w) (ht : Tryz.prog.underlying t = some (.map 41 e)) (hz : (zeroValue e).run Tryz.prog w = .ok (c.enc z0) w) (k : Dg) :
    (Instr.lookup t (.map (some b)) (dv k) true).run Tryz.prog w = .ok (.tuple #[c.enc ((dget m k).getD z0), .bool (dget m k).isSome]) w := by
  obtain ⟨n, D, ho, h1, h2⟩ := h.own
  obtain ⟨v, ps, hr, hv⟩ := ho.look_ok keyedH ht hz (c.hR z0) (keyD k)
  rw [MapD.atKey h1 h2] at hv
  obtain ⟨x, rfl, hx⟩ := c.inv _ _ hv
  have := c.inj _ _ (congrArg Prod.fst hx)
  rw [hr, this, h1]
theorem MapD.len {t e : TypeId} (h : MapD c b m w) (ht : Tryz.prog.underlying t = some (.map 41 e)) (ty : TypeId) : (Builtin.len_ #[t] ty #[.map (some b)]).run Tryz.prog w = .ok (.int .i64 m.length) w := by
  obtain ⟨n, D, ho, h1, h2⟩ := h.own
  rw [ho.len ht, MapD.size h.srt ho h1]
theorem MapD.drop {t e : TypeId} (h : MapD c b m w) (ht : Tryz.prog.underlying t = some (.map 41 e)) (k : Dg) (ty : TypeId) :
    ∃ w', (Builtin.delete_ #[t, 41] ty #[.map (some b), dv k]).run Tryz.prog w = .ok (.tuple #[]) w' ∧ MapD c b (ddel m k) w' ∧ w.grownBy w' (some b) ∧ w'.heap.size = w.heap.size := by
  obtain ⟨n, D, ho, h1, h2⟩ := h.own
  obtain ⟨w', hr, ho', ht'⟩ := ho.drop keyedH ht (keyD k) ty
  refine ⟨w', hr, ⟨h.srt.del k, n, _, ho', fun j => ?_, fun j v hj z => ?_⟩, ht'.grown, ?_⟩
  · rw [h.srt.get_del]
    by_cases e : j = k
    · subst e; simpa using has_del_same
    · rw [has_del_other (dlit_ne e), h1]; simp [e]
  · rw [h.srt.get_del] at hj
    by_cases e : j = k
    · subst e; simp at hj
    · rw [atKey_del_other (dlit_ne e)]
      simp [e] at hj
      exact h2 j v hj z
  · obtain ⟨es, clock, es', clock', _, rfl⟩ := ht'
    simp [Go.ChangeMaps.setBlock]
theorem MapD.store {t e : TypeId} (h : MapD c b m w) (ht : Tryz.prog.underlying t = some (.map 41 e)) (hn : m.length < maxLen) (k : Dg) (v : β) :
    ∃ w', (Instr.mapUpdate t (.map (some b)) (dv k) (c.enc v)).run Tryz.prog w = .ok () w' ∧ MapD c b (dput m k v) w' ∧ w.grownBy w' (some b) ∧ w'.heap.size = w.heap.size := by
  obtain ⟨n, D, ho, h1, h2⟩ := h.own
  have hsz := MapD.size h.srt ho h1
  have hmap := ho.isMap
  have ho1 : w.ownsMap Tryz.prog 41 c.R b m.length D := by
    obtain ⟨es, clock, hb, F, hs, rfl⟩ := ho
    refine ⟨es, clock, hb, F, ?_, rfl⟩
    rw [← hsz]
    simp [Maps.size, length_sorted]
  obtain ⟨w', hr, ho', ht'⟩ := ho1.store keyedH ht hn (keyD k) (c.hR v)
  refine ⟨w', hr, ⟨h.srt.put k v, _, _, ho', fun j => ?_, fun j u hj z => ?_⟩, ht'.grown, ?_⟩
  · rw [h.srt.get_put]
    by_cases e : j = k
    · subst e; simpa using has_put_same hmap (keyedH.key (keyD j)) _
    · rw [has_put_other (dlit_ne e), h1]; simp [e]
  · rw [h.srt.get_put] at hj
    by_cases e : j = k
    · subst e; simp at hj; subst hj
      exact atKey_put_same hmap (keyedH.key (keyD j)) _ _
    · rw [atKey_put_other (dlit_ne e)]
      simp [e] at hj
      exact h2 j u hj z
  · obtain ⟨es, clock, es', clock', _, rfl⟩ := ht'
    simp [Go.ChangeMaps.setBlock]
end
theorem nil_lookD {w : World} {t e : TypeId} {z : Value} (ht : Tryz.prog.underlying t = some (.map 41 e)) (hz : (zeroValue e).run Tryz.prog w = .ok z w) (k : Dg) (c : Bool) :
    (Instr.lookup t (.map none) (dv k) c).run Tryz.prog w = .ok (if c then .tuple #[z, .bool false] else z) w := Maps.look_nil c keyedH ht hz (keyD k)
theorem nil_dropD {w : World} {t e : TypeId} (ht : Tryz.prog.underlying t = some (.map 41 e)) (k : Dg) (ty : TypeId) :
    (Builtin.delete_ #[t, 41] ty #[.map none, dv k]).run Tryz.prog w = .ok (.tuple #[]) w := Maps.drop_nil keyedH ht (keyD k) ty
end Go.Proofs.YtcfcfijmfgnpfaaGreatDoor
end

section
namespace Go.Proofs.YtcfcfijmfgnpfaaGreatDoor
open Go.RowKit
set_option linter.unusedVariables false
set_option linter.unusedSimpArgs false

/-- A kind of struct: its type, its rows' type, its cells. -/
structure RowTy (P : Program) (α : Type) where
  T : TypeId
  S : TypeId
  k : Nat
  f : α → List Value
  len : ∀ x, (f x).length = k
  one : ∀ x, ∀ u ∈ f x, u.oneCell' = true
  pos : 0 < k
  small : k ≤ 1000
  slice : P.underlying S = some (.slice T)
  info : ∃ i0 z b, P.info? T = some i0 ∧ i0.zero = some (.agg z) ∧ i0.size = k ∧ z.size = k ∧ i0.bytes = b ∧ b ≤ 8000
  row : ∃ d, P.underlying T = some d ∧ d.isRow = true

section
variable {P : Program} {α : Type} (r : RowTy P α)
def RowTy.all (xs : List α) : List Value := xs.flatMap r.f
theorem RowTy.all_nil : r.all [] = [] := rfl
theorem RowTy.all_one (x : α) : r.all [x] = r.f x := by simp [RowTy.all]
theorem RowTy.all_cons (x : α) (xs : List α) : r.all (x :: xs) = r.f x ++ r.all xs := by simp [RowTy.all]
theorem RowTy.all_append (a b : List α) : r.all (a ++ b) = r.all a ++ r.all b := by simp [RowTy.all]
theorem RowTy.all_len : ∀ xs : List α, (r.all xs).length = xs.length * r.k
  | [] => by simp [RowTy.all]
  | x :: xs => by rw [r.all_cons, List.length_append, r.len, RowTy.all_len xs, List.length_cons, Nat.add_mul, Nat.one_mul, Nat.add_comm]
theorem RowTy.all_ones (xs : List α) : ∀ u ∈ r.all xs, u.oneCell' = true := by
  intro u hu
  obtain ⟨t, -, h⟩ := List.mem_flatMap.1 hu
  exact r.one t u h
theorem RowTy.all_drop (xs : List α) (j : Nat) : (r.all xs).drop (j * r.k) = r.all (xs.drop j) := by
  by_cases h : j ≤ xs.length
  · have e : r.all xs = r.all (xs.take j) ++ r.all (xs.drop j) := by rw [← r.all_append, List.take_append_drop]
    have hl : (r.all (xs.take j)).length = j * r.k := by rw [r.all_len, List.length_take, Nat.min_eq_left h]
    rw [e, ← hl, List.drop_left]
  · have h1 : xs.length * r.k ≤ j * r.k := Nat.mul_le_mul_right _ (by omega)
    rw [List.drop_of_length_le (by rw [r.all_len]; exact h1), List.drop_of_length_le (by omega)]; rfl
theorem RowTy.all_at {xs : List α} {i : Nat} (hi : i < xs.length) {j : Nat} (hj : j < r.k) : (r.all xs)[i * r.k + j]? = (r.f xs[i])[j]? := by
  have h1 : (r.all xs)[i * r.k + j]? = ((r.all xs).drop (i * r.k))[j]? := by rw [List.getElem?_drop]
  rw [h1, r.all_drop, List.drop_eq_getElem_cons hi, r.all_cons, List.getElem?_append_left (by rw [r.len]; exact hj)]
theorem RowTy.sizeT : (P.info? r.T).map (·.size) = some r.k := by
  obtain ⟨i0, z, b, h1, h2, h3, _⟩ := r.info
  rw [h1]; simp [h3]

/-- Structs that the call owns. -/
def OwnR (B : Nat) (v : Value) (xs : List α) (w : World) : Prop := w.ownsRow B r.T r.k v xs.length (r.all xs)
/-- Structs that are only read. -/
def RdR (w : World) (v : Value) (xs : List α) : Prop :=
  (v = .slice none 0 0 ∧ xs = []) ∨ ∃ b off cap, v = .slice (some ⟨b, off, none⟩) xs.length cap ∧ xs.length ≤ cap ∧ b < w.heap.size ∧ w.rangeAt b off (r.all xs)
variable {r} {w w' : World} {v : Value} {xs : List α} {B : Nat}
theorem RdR.lenOf (h : RdR r w v xs) : ∃ ao cap, v = .slice ao xs.length cap := by
  rcases h with ⟨rfl, rfl⟩ | ⟨b, off, cap, rfl, -⟩
  · exact ⟨none, 0, rfl⟩
  · exact ⟨_, cap, rfl⟩
theorem rangeAt_block {b o : Nat} {cs : List Value} (h : w.rangeAt b o cs) (hk : w'.heap[b]? = w.heap[b]?) : w'.rangeAt b o cs := fun j u hj =>
  (World.cell?_of_block (a := ⟨b, o + j, none⟩) hk).trans (h j u hj)
theorem RdR.keep (h : RdR r w v xs) (hs : w.heap.size ≤ w'.heap.size) (hk : ∀ k, v.ownBlock = some k → w'.heap[k]? = w.heap[k]?) : RdR r w' v xs := by
  rcases h with h | ⟨b, off, cap, rfl, hl, hb, hr⟩
  · exact .inl h
  · exact .inr ⟨b, off, cap, rfl, hl, Nat.lt_of_lt_of_le hb hs, rangeAt_block hr (hk b rfl)⟩
theorem RdR.below (h : RdR r w v xs) (hb : Below w.heap.size w w') : RdR r w' v xs := by
  rcases h with h | ⟨b, off, cap, rfl, hl, hlt, hr⟩
  · exact .inl h
  · exact .inr ⟨b, off, cap, rfl, hl, Nat.lt_of_lt_of_le hlt hb.size, rangeAt_block hr (hb.block b hlt)⟩
theorem RdR.at {ao : Option Addr} {n cap : Nat} (h : RdR r w (.slice ao n cap) xs) {i : Nat} (hi : i < xs.length) :
    ∃ b off, ao = some ⟨b, off, none⟩ ∧ w.rangeAt b (off + i * r.k) (r.f xs[i]) ∧ b < w.heap.size := by
  rcases h with ⟨-, h2⟩ | ⟨b, off, c, h1, -, hlt, h3⟩
  · rw [h2] at hi; simp at hi
  · injection h1 with e1
    refine ⟨b, off, e1, fun j u hj => ?_, hlt⟩
    have hjk : j < r.k := by
      have := (List.getElem?_eq_some_iff.1 hj).1
      rwa [r.len] at this
    have := h3 (i * r.k + j) u (by rw [r.all_at hi hjk]; exact hj)
    rwa [show off + (i * r.k + j) = off + i * r.k + j by omega] at this
theorem OwnR.block (h : OwnR r B v xs w) {k : Nat} (hk : v.ownBlock = some k) : B ≤ k ∧ k < w.heap.size := World.ownsRow.lt h k hk
theorem OwnR.reads (h : OwnR r B v xs w) : RdR r w v xs := by
  have h0 := h
  obtain ⟨h1, h2⟩ := h
  rcases h2 with ⟨rfl, hn⟩ | ⟨g, cap, cur, rfl, hb, hg, hn, hm, hs, ht⟩
  · exact .inl ⟨rfl, List.eq_nil_of_length_eq_zero hn⟩
  · refine .inr ⟨g, 0, cap, rfl, hn, (h0.block rfl).2, fun j u hj => ?_⟩
    have : cur.toList[j]? = some u := by
      rw [← ht] at hj
      have := (List.getElem?_eq_some_iff.1 hj).1
      rw [List.length_take] at this
      rwa [List.getElem?_take_of_lt (by omega)] at hj
    rw [Nat.zero_add, World.cell?, hg]
    simpa using this
theorem OwnR.lenOf (h : OwnR r B v xs w) : ∃ ao cap, v = .slice ao xs.length cap := h.reads.lenOf
theorem OwnR.of {S' : Nat} (h : OwnR r B v xs w) (hS : S' ≤ B) (hk : ∀ k, v.ownBlock = some k → w'.heap[k]? = w.heap[k]?) : OwnR r S' v xs w' := by
  obtain ⟨h1, h2⟩ := h
  refine ⟨h1, ?_⟩
  rcases h2 with h2 | ⟨g, cap, cur, rfl, hb, hg, hn, hm, hs, ht⟩
  · exact .inl h2
  · exact .inr ⟨g, cap, cur, rfl, by omega, (hk g rfl).trans hg, hn, hm, hs, ht⟩
theorem OwnR.nil (w : World) (B : Nat) : OwnR r B (.slice none 0 0) [] w := World.ownsRow_nil w B _ r.k
/-- One more, appended. -/
theorem run_appR {ub : Nat} {y : α} (hown : OwnR r B v xs w) (hr : w.rangeAt ub 0 (r.f y)) (hlen : xs.length ≤ 1000000) (hB : B ≤ w.heap.size) (ty : TypeId) :
    ∃ v' w', (Builtin.append_ #[r.S, r.S] ty #[v, .slice (some ⟨ub, 0, none⟩) 1 1]).run P w = .ok v' w' ∧ OwnR r B v' (xs ++ [y]) w' ∧ w.grownBy w' v.ownBlock ∧ (v'.ownBlock = v.ownBlock ∨ v'.ownBlock = some w.heap.size) ∧ v' ≠ .slice none 0 0 := by
  obtain ⟨i0, z, b, h1, h2, h3, h4, h5, h6⟩ := r.info
  have hby : (xs.length + 1) * b ≤ 140737488355328 := Nat.le_trans (Nat.mul_le_mul (Nat.succ_le_succ hlen) h6) (by omega)
  obtain ⟨v', w', e1, e2, e3, e4, e5⟩ := run_append_own_at (P := P) (w := w) B r.S ty r.T i0 (.agg z) r.k b r.slice h1 h2 h3 h5 h4 r.pos v _ _ hown ⟨ub, 0, none⟩ 1 1 (r.f y) (by rw [r.len, Nat.one_mul])
    (fun j u hj => by rw [Addr.add_mid]; exact hr j u hj) (r.one y) (by unfold maxLen; omega) hby hB
  refine ⟨v', w', e1, ?_, e3, e5, fun e => by have := (e4.1 e).2; omega⟩
  unfold OwnR
  rw [r.all_append, r.all_one, List.length_append]
  exact e2
section
variable {F : Fence} {nF : Nat} {ops : Array Oper} {rest : List Oper} {o : Oper} {a : Act} {Q : Exit → Act → World → Prop}
theorem wplIn_appR {s x : Operand} {ub : Nat} {y : α} (hgd : o.guard = none) (ho : o.op = .call { callee := .builtin .append, args := #[s, x], argTypes := #[r.S, r.S] }) (hs : a.eval s = v) (hx : a.eval x = .slice (some ⟨ub, 0, none⟩) 1 1)
    (hown : OwnR r B v xs w) (hr : w.rangeAt ub 0 (r.f y)) (hlen : xs.length ≤ 1000000) (hB : B ≤ w.heap.size)
    (h : ∀ v' w', OwnR r B v' (xs ++ [y]) w' → w.grownBy w' v.ownBlock → (v'.ownBlock = v.ownBlock ∨ v'.ownBlock = some w.heap.size) → v' ≠ .slice none 0 0 → wpListIn F nF P ops Q rest (a.put o.dst v') w') : wpListIn F nF P ops Q (o :: rest) a w := by
  obtain ⟨v', w', hrun, h1, h2, h3, h4⟩ := run_appR hown hr hlen hB o.type
  refine wpListIn_plain hgd fun K hK => ?_
  unfold Oper.wpIn
  refine ⟨by simp [Oper.about, ho, resolve, Target.leads, Sem.run_pure], ?_⟩
  rw [Oper.semAt_plain F _ _ (by rw [ho]; intro c hc'; cases hc')]
  simp [execOp, ho, resolve, invoke, builtin, hs, hx, hrun, Result.andThen]
  exact hK _ _ (h v' w' h1 h2 h3 h4)
theorem wpl_appR {s x : Operand} {ub : Nat} {y : α} (hgd : o.guard = none) (ho : o.op = .call { callee := .builtin .append, args := #[s, x], argTypes := #[r.S, r.S] }) (hs : a.eval s = v) (hx : a.eval x = .slice (some ⟨ub, 0, none⟩) 1 1)
    (hown : OwnR r B v xs w) (hr : w.rangeAt ub 0 (r.f y)) (hlen : xs.length ≤ 1000000) (hB : B ≤ w.heap.size)
    (h : ∀ v' w', OwnR r B v' (xs ++ [y]) w' → w.grownBy w' v.ownBlock → (v'.ownBlock = v.ownBlock ∨ v'.ownBlock = some w.heap.size) → v' ≠ .slice none 0 0 → wpList P ops Q rest (a.put o.dst v') w') : wpList P ops Q (o :: rest) a w := by
  obtain ⟨v', w', hrun, h1, h2, h3, h4⟩ := run_appR hown hr hlen hB o.type
  refine wpList_plain hgd fun K hK => ?_
  unfold Oper.wp
  simp [execOp, ho, resolve, invoke, builtin, hs, hx, hrun, Result.andThen]
  exact hK _ _ (h v' w' h1 h2 h3 h4)
theorem run_loadR {b k : Nat} {t : α} (hr : w.rangeAt b k (r.f t)) : (Instr.loadAt r.T (.pointer (some ⟨b, k, none⟩))).run P w = .ok (.agg (r.f t).toArray) w := by
  obtain ⟨d, h1, h2⟩ := r.row
  exact run_loadAt_mid w b k r.T (r.f t) d hr h1 h2 (by rw [r.len]; exact r.sizeT)
theorem wplIn_loadR {b k : Nat} {t : α} (x : Operand) (hgd : o.guard = none) (ho : o.op = .load r.T x) (hx : a.eval x = .pointer (some ⟨b, k, none⟩)) (hr : w.rangeAt b k (r.f t))
    (h : wpListIn F nF P ops Q rest (a.put o.dst (.agg (r.f t).toArray)) w) : wpListIn F nF P ops Q (o :: rest) a w := by
  refine wpListIn_plain hgd fun K hK => ?_
  unfold Oper.wpIn
  refine ⟨by simp [Oper.about, ho], ?_⟩
  rw [Oper.semAt_plain F _ _ (by rw [ho]; intro c hc'; cases hc')]
  unfold execOp
  simp only [ho, hx, Sem.run_bind, Sem.run_pure, run_loadR hr, Result.andThen_ok]
  exact hK _ _ h
theorem wpl_loadR {b k : Nat} {t : α} (x : Operand) (hgd : o.guard = none) (ho : o.op = .load r.T x) (hx : a.eval x = .pointer (some ⟨b, k, none⟩)) (hr : w.rangeAt b k (r.f t))
    (h : wpList P ops Q rest (a.put o.dst (.agg (r.f t).toArray)) w) : wpList P ops Q (o :: rest) a w := by
  obtain ⟨d, h1, h2⟩ := r.row
  exact wpList_load_mid hgd r.T x ho b k hx (r.f t) d hr h1 h2 (by rw [r.len]; exact r.sizeT) h
/-- A new one's place. -/
theorem wplIn_allocR {ty : TypeId} (ht : ty = r.T) (hgd : o.guard = none) (ho : o.op = .alloc ty)
    (h : ∀ C : Array Value, C.size = r.k → wpListIn F nF P ops Q rest (a.put o.dst (.pointer (some ⟨w.heap.size, 0, none⟩))) (w.alloc (.cells C ty))) : wpListIn F nF P ops Q (o :: rest) a w := by
  subst ht
  obtain ⟨i0, z, b, hi, hz0, h3, h4, _⟩ := r.info
  refine wpListIn_plain hgd fun K hK => ?_
  unfold Oper.wpIn
  refine ⟨by simp [Oper.about, ho], ?_⟩
  rw [Oper.semAt_plain F _ _ (by rw [ho]; intro c hc'; cases hc')]
  have := h z h4
  unfold execOp
  simp [ho, Instr.alloc, zeroValue, typeInfo, hi, hz0, newVar, newRow, Value.cells, go_sem]
  exact hK _ _ this
theorem wplIn_storeR {ty : TypeId} {b : Nat} {t : α} {C : Array Value} (x y : Operand) (ht : ty = r.T) (hgd : o.guard = none) (ho : o.op = .store ty x y) (hx : a.eval x = .pointer (some ⟨b, 0, none⟩)) (hy : a.eval y = .agg (r.f t).toArray) (hh : w.heap[b]? = some (.cells C ty (0, 0))) (hC : C.size = r.k)
    (h : wpListIn F nF P ops Q rest (a.put o.dst undef) (w.setRow b (r.f t).toArray)) : wpListIn F nF P ops Q (o :: rest) a w := by
  subst ht
  refine wpListIn_plain hgd fun K hK => ?_
  unfold Oper.wpIn
  refine ⟨by simp [Oper.about, ho], ?_⟩
  rw [Oper.semAt_plain F _ _ (by rw [ho]; intro c hc'; cases hc')]
  unfold execOp
  have hr : (Instr.storeAt r.T (.pointer (some ⟨b, 0, none⟩)) (.agg (r.f t).toArray)).run P w = .ok () (w.setRow b (r.f t).toArray) := by
    simp only [Instr.storeAt, Instr.sureAddr, Sem.run_bind, Sem.run_pure, Result.andThen_ok, run_storeVar_row w b r.T r.T C (r.f t).toArray hh (by rw [List.size_toArray, r.len]; exact r.sizeT) (by simp [r.len, hC]) (by rw [Array.all_eq_true_iff_forall_mem]; intro u hu; exact r.one t u (by simpa using hu))]
  simp only [ho, hx, hy, Sem.run_bind, Sem.run_pure, hr, Result.andThen_ok]
  exact hK _ _ h
end
theorem rangeAt_whole {b : Nat} {T : TypeId} {cs : List Value} (h : w.heap[b]? = some (.cells cs.toArray T (0, 0))) : w.rangeAt b 0 cs := fun j u hj => by
  rw [Nat.zero_add, World.cell?, h]
  simpa using hj
end
end Go.Proofs.YtcfcfijmfgnpfaaGreatDoor
end

section
namespace Go.Proofs.YtcfcfijmfgnpfaaGreatDoor
open Go.RowKit Go.Maps
set_option linter.unusedVariables false
set_option linter.unusedSimpArgs false

theorem Bs_one' (l : List Nat) : ∀ u ∈ Bs l, u.oneCell' = true := by
  intro u hu
  obtain ⟨x, -, rfl⟩ := List.mem_map.1 hu
  rfl
theorem Dg.blen (d : Dg) : (Bs d.s).length = 32 := by rw [Bs_length, d.len]
def dg0 : Dg := ⟨List.replicate 32 0, rfl, by decide⟩
theorem hshInfo : (Tryz.prog.info? 41).map (fun i => (i.zero, i.size, i.bytes)) = some (some (.agg (Bs dg0.s).toArray), 32, 32) := by kernel_rfl
/-- Rows of digests. -/
def hshR : RowTy Tryz.prog Dg where
  T := 41
  S := 131
  k := 32
  f := fun d => Bs d.s
  len := fun d => d.blen
  one := fun d u hu => Bs_one' _ u hu
  pos := by decide
  small := by decide
  slice := Tryz.underlying131
  info := by
    obtain ⟨i0, hi, hz⟩ := Option.map_eq_some_iff.1 hshInfo
    simp only [Prod.mk.injEq] at hz
    obtain ⟨h1, h2, h3⟩ := hz
    exact ⟨i0, _, _, hi, h1, h2, rfl, h3, by decide⟩
  row := ⟨_, Tryz.underlying41, rfl⟩
def prOf_H (x : Dg × Int) : List Value := Bs x.1.s ++ [.int .i64 x.2]
theorem prOf_H_len (x : Dg × Int) : (prOf_H x).length = 33 := by rw [prOf_H, List.length_append, x.1.blen]; rfl
theorem pairInfo_H : (Tryz.prog.info? 129).map (fun i => (i.zero, i.size, i.bytes)) = some (some (.agg (prOf_H (dg0, 0)).toArray), 33, 40) := by kernel_rfl
/-- Rows of digests with numbers. -/
def pair_H : RowTy Tryz.prog (Dg × Int) where
  T := 129
  S := 127
  k := 33
  f := prOf_H
  len := prOf_H_len
  one := fun x u hu => by
    rcases List.mem_append.1 hu with h | h
    · exact Bs_one' _ u h
    · rw [List.mem_singleton] at h; subst h; rfl
  pos := by decide
  small := by decide
  slice := Tryz.underlying127
  info := by
    obtain ⟨i0, hi, hz⟩ := Option.map_eq_some_iff.1 pairInfo_H
    simp only [Prod.mk.injEq] at hz
    obtain ⟨h1, h2, h3⟩ := hz
    exact ⟨i0, _, _, hi, h1, h2, rfl, h3, by decide⟩
  row := ⟨_, Tryz.underlying129, rfl⟩
theorem list32H : ∀ l : List Nat, l.length = 32 → ∃ a0 a1 a2 a3 a4 a5 a6 a7 a8 a9 b0 b1 b2 b3 b4 b5 b6 b7 b8 b9 c0 c1 c2 c3 c4 c5 c6 c7 c8 c9 d0 d1, l = [a0, a1, a2, a3, a4, a5, a6, a7, a8, a9, b0, b1, b2, b3, b4, b5, b6, b7, b8, b9, c0, c1, c2, c3, c4, c5, c6, c7, c8, c9, d0, d1]
  | [a0, a1, a2, a3, a4, a5, a6, a7, a8, a9, b0, b1, b2, b3, b4, b5, b6, b7, b8, b9, c0, c1, c2, c3, c4, c5, c6, c7, c8, c9, d0, d1], _ => ⟨_, _, _, _, _, _, _, _, _, _, _, _, _, _, _, _, _, _, _, _, _, _, _, _, _, _, _, _, _, _, _, _, rfl⟩
def bsH (ps : Array (Nat × Value)) : Sem Value := Instr.buildSlice 131 1 ps
theorem bsH_hide (ps : Array (Nat × Value)) : Instr.buildSlice 131 1 ps = bsH ps := rfl
set_option maxRecDepth 100000 in
theorem run_bsH (d : Dg) (w : World) : (bsH #[(0, dv d)]).run Tryz.prog w = .ok (.slice (some ⟨w.heap.size, 0, none⟩) 1 1) (w.alloc (.cells (Bs d.s).toArray 41)) := by
  obtain ⟨s, h, hl⟩ := d
  obtain ⟨a0, a1, a2, a3, a4, a5, a6, a7, a8, a9, b0, b1, b2, b3, b4, b5, b6, b7, b8, b9, c0, c1, c2, c3, c4, c5, c6, c7, c8, c9, d0, d1, rfl⟩ := list32H s h
  obtain ⟨i0, hi, hz⟩ := Option.map_eq_some_iff.1 hshInfo
  simp only [Prod.mk.injEq] at hz
  obtain ⟨h1, h2, h3⟩ := hz
  exact run_buildSlice w _ _ 1 _ _ i0 _ Tryz.underlying131 hi h1 (by rw [h2]; decide) (by rw [h2]; decide) (by rw [h2]; kernel_rfl)
def buildPrH (ps : Array (Nat × Value)) : Sem Value := Instr.build 129 ps
theorem buildPrH_hide (ps : Array (Nat × Value)) : Instr.build 129 ps = buildPrH ps := rfl
set_option maxRecDepth 100000 in
theorem run_buildPrH (d : Dg) (k : Int) (w : World) : (buildPrH #[(0, dv d), (1, .int .i64 k)]).run Tryz.prog w = .ok (.agg (prOf_H (d, k)).toArray) w := by
  obtain ⟨s, h, hl⟩ := d
  obtain ⟨a0, a1, a2, a3, a4, a5, a6, a7, a8, a9, b0, b1, b2, b3, b4, b5, b6, b7, b8, b9, c0, c1, c2, c3, c4, c5, c6, c7, c8, c9, d0, d1, rfl⟩ := list32H s h
  kernel_rfl
def bsPrH (ps : Array (Nat × Value)) : Sem Value := Instr.buildSlice 127 1 ps
theorem bsPrH_hide (ps : Array (Nat × Value)) : Instr.buildSlice 127 1 ps = bsPrH ps := rfl
set_option maxRecDepth 100000 in
theorem run_bsPrH (x : Dg × Int) (w : World) : (bsPrH #[(0, .agg (prOf_H x).toArray)]).run Tryz.prog w = .ok (.slice (some ⟨w.heap.size, 0, none⟩) 1 1) (w.alloc (.cells (prOf_H x).toArray 129)) := by
  obtain ⟨⟨s, h, hl⟩, k⟩ := x
  obtain ⟨a0, a1, a2, a3, a4, a5, a6, a7, a8, a9, b0, b1, b2, b3, b4, b5, b6, b7, b8, b9, c0, c1, c2, c3, c4, c5, c6, c7, c8, c9, d0, d1, rfl⟩ := list32H s h
  obtain ⟨i0, hi, hz⟩ := Option.map_eq_some_iff.1 pairInfo_H
  simp only [Prod.mk.injEq] at hz
  obtain ⟨h1, h2, h3⟩ := hz
  exact run_buildSlice w _ _ 1 _ _ i0 _ Tryz.underlying127 hi h1 (by rw [h2]; decide) (by rw [h2]; decide) (by rw [h2]; kernel_rfl)
/-- A digest loaded. -/
def ldH (p : Value) : Sem Value := Instr.loadAt 41 p
theorem ldH_hide (p : Value) : Instr.loadAt 41 p = ldH p := rfl
theorem run_ldH {w : World} {b k : Nat} {d : Dg} (hr : w.rangeAt b k (Bs d.s)) : (ldH (.pointer (some ⟨b, k, none⟩))).run Tryz.prog w = .ok (dv d) w := run_loadR (r := hshR) (t := d) hr

/-- What is noted: whose it is, where its bytes lie. -/
structure Nt where
  who : Int
  b : Option Nat
  n : Nat
  c : Nat
def Nt.v (x : Nt) : Value := .slice (x.b.map fun g => ⟨g, 0, none⟩) x.n x.c
def ntL (x : Nt) : List Value := [.int .i64 x.who, x.v]
def nt0 : Nt := ⟨0, none, 0, 0⟩
def codNt : Cod Nt where
  enc := fun x => .agg #[.int .i64 x.who, x.v]
  R := fun v => match v with
    | .agg xs => match xs.toList with
      | [.int .i64 a, .slice none n c] => some (.agg [.lit (.int .i64 a), .nil, .lit (.int .i64 n), .lit (.int .i64 c)], [])
      | [.int .i64 a, .slice (some ⟨g, 0, none⟩) n c] => some (.agg [.lit (.int .i64 a), .lit (.int .i64 g), .lit (.int .i64 n), .lit (.int .i64 c)], [])
      | _ => none
    | _ => none
  dat := fun x => .agg [.lit (.int .i64 x.who), (match x.b with | none => .nil | some g => .lit (.int .i64 g)), .lit (.int .i64 x.n), .lit (.int .i64 x.c)]
  hR := fun x => by obtain ⟨w, b, n, c⟩ := x; cases b <;> rfl
  inv := fun v z h => by
    split at h
    · rename_i xs
      split at h
      · rename_i a n c e
        cases h
        exact ⟨⟨a, none, n, c⟩, by rw [show xs = xs.toList.toArray from rfl, e]; rfl, rfl⟩
      · rename_i a g n c e
        cases h
        exact ⟨⟨a, some g, n, c⟩, by rw [show xs = xs.toList.toArray from rfl, e]; rfl, rfl⟩
      · cases h
    · cases h
  inj := fun x y h => by
    obtain ⟨w, b, n, c⟩ := x
    obtain ⟨w', b', n', c'⟩ := y
    cases b <;> cases b' <;> simp at h
    · obtain ⟨rfl, h2, h3⟩ := h
      have h2 : n = n' := by omega
      have h3 : c = c' := by omega
      rw [h2, h3]
    · rename_i g g'
      obtain ⟨rfl, h1, h2, h3⟩ := h
      have h1 : g = g' := by omega
      have h2 : n = n' := by omega
      have h3 : c = c' := by omega
      rw [h2, h3, h1]
end Go.Proofs.YtcfcfijmfgnpfaaGreatDoor
end

section
namespace Go.Proofs.YtcfcfijmfgnpfaaGreatDoor
open Go.RowKit Go.Maps
set_option linter.unusedVariables false
set_option linter.unusedSimpArgs false

def cmpD (a b : Dg) : Int := if lexN a.s b.s then -1 else if lexN b.s a.s then 1 else 0
theorem u8_lt {x y : Nat} (hx : x < 256) (hy : y < 256) : UInt8.ofNat x < UInt8.ofNat y ↔ x < y := by
  rw [UInt8.lt_iff_toNat_lt]
  simp only [UInt8.toNat_ofNat']
  rw [Nat.mod_eq_of_lt (show x < 2 ^ 8 from hx), Nat.mod_eq_of_lt (show y < 2 ^ 8 from hy)]
theorem compareB : ∀ {a b : List Nat}, (∀ x ∈ a, x < 256) → (∀ x ∈ b, x < 256) → Lib.compareBytes (a.map UInt8.ofNat) (b.map UInt8.ofNat) = if lexN a b then -1 else if lexN b a then 1 else 0
  | [], [], _, _ => by simp [Lib.compareBytes, lexN]
  | [], _ :: _, _, _ => by simp [Lib.compareBytes, lexN]
  | _ :: _, [], _, _ => by simp [Lib.compareBytes, lexN]
  | x :: a, y :: b, ha, hb => by
    have hx := ha x (by simp)
    have hy := hb y (by simp)
    have ih := compareB (a := a) (b := b) (fun z hz => ha z (List.mem_cons_of_mem _ hz)) (fun z hz => hb z (List.mem_cons_of_mem _ hz))
    simp only [List.map_cons, Lib.compareBytes, u8_lt hx hy, u8_lt hy hx, lexN, ih]
    by_cases h1 : x < y
    · simp [h1]
    · by_cases h2 : y < x
      · have h3 : x ≠ y := by omega
        simp [h1, h2, h3]
      · have h3 : x = y := by omega
        subst h3
        simp
theorem bytesOf_map (l : List Nat) : Lib.bytesOf (l.map fun (x : Nat) => (x : Int)) = l.map UInt8.ofNat := by
  unfold Lib.bytesOf
  rw [List.map_map]
  refine List.map_congr_left (fun x _ => ?_)
  simp
theorem run_bytesD {w : World} {b n c : Nat} {d : Dg} (h : ∀ i (hi : i < d.s.length), w.cell? ⟨b, i, none⟩ = some (.int .u8 ((d.s[i] : Nat) : Int))) (hn : n = 32) : (Extern.Bytes.bytesOf (.slice (some ⟨b, 0, none⟩) n c)).run Tryz.prog w = .ok ⟨(d.s.map UInt8.ofNat).toArray⟩ w := by
  have hl := Lib.run_loadBytesX (P := Tryz.prog) w (d.s.map fun (x : Nat) => (x : Int)) ⟨b, 0, none⟩ .empty (fun j x hj => by
    rw [List.getElem?_map] at hj
    obtain ⟨y, hy, rfl⟩ := Option.map_eq_some_iff.1 hj
    obtain ⟨hi, rfl⟩ := List.getElem?_eq_some_iff.1 hy
    have := h j hi
    rw [show (⟨b, 0, none⟩ : Addr).add j = ⟨b, j, none⟩ by simp [Addr.add]; omega]
    exact this)
  rw [bytesOf_map, List.length_map, d.len, ← hn] at hl
  simp only [Extern.Bytes.bytesOf]
  rw [hl]
  simp
theorem run_compareD {w : World} {b1 b2 c1 c2 : Nat} {x y : Dg} (h1 : ∀ i (hi : i < x.s.length), w.cell? ⟨b1, i, none⟩ = some (.int .u8 ((x.s[i] : Nat) : Int))) (h2 : ∀ i (hi : i < y.s.length), w.cell? ⟨b2, i, none⟩ = some (.int .u8 ((y.s[i] : Nat) : Int))) :
    (Extern.BytealgCompare.compare #[.slice (some ⟨b1, 0, none⟩) 32 c1, .slice (some ⟨b2, 0, none⟩) 32 c2]).run Tryz.prog w = .ok (.int .i64 (cmpD x y)) w := by
  change Sem.run Tryz.prog (do pure (goInt (Extern.BytealgCompare.cmp (← Extern.Bytes.bytesOf (.slice (some ⟨b1, 0, none⟩) 32 c1)) (← Extern.Bytes.bytesOf (.slice (some ⟨b2, 0, none⟩) 32 c2))))) w = _
  simp only [Sem.run_bind, Sem.run_pure, run_bytesD h1 rfl, run_bytesD h2 rfl, Result.andThen]
  rw [Lib.cmp_eq]
  show Result.ok (goInt (Lib.compareBytes (x.s.map UInt8.ofNat) (y.s.map UInt8.ofNat))) w = _
  rw [compareB x.lt y.lt]
  rfl
set_option maxHeartbeats 1000000 in
set_option maxRecDepth 100000 in
theorem bytes_Compare {w : World} {b1 b2 c1 c2 : Nat} {x y : Dg} (h1 : ∀ i (hi : i < x.s.length), w.cell? ⟨b1, i, none⟩ = some (.int .u8 ((x.s[i] : Nat) : Int))) (h2 : ∀ i (hi : i < y.s.length), w.cell? ⟨b2, i, none⟩ = some (.int .u8 ((y.s[i] : Nat) : Int))) :
    Calls Tryz.prog 95 #[.slice (some ⟨b1, 0, none⟩) 32 c1, .slice (some ⟨b2, 0, none⟩) 32 c2] w fun e w' => e = .returned (.int .i64 (cmpD x y)) ∧ w' = w := by
  have hr := run_compareD (c1 := c1) (c2 := c2) h1 h2
  obtain ⟨r, hrr⟩ : ∃ r, r = cmpD x y := ⟨_, rfl⟩
  rw [← hrr] at hr ⊢
  clear h1 h2 hrr
  go_enter Tryz.func95, Tryz.ntmps95
  go_wp2
  rw [run_callFunc_extern Tryz.func115 (by kernel_rfl) (by kernel_rfl) (by kernel_rfl) (e := Extern.BytealgCompare.compare) (by kernel_rfl), hr]
  simp only [Result.andThen]
  rw [Oper.upon_value]
  go_wp2
  go_ret
  exact ⟨rfl, rfl⟩
end Go.Proofs.YtcfcfijmfgnpfaaGreatDoor
end

section
namespace Go.Proofs.YtcfcfijmfgnpfaaGreatDoor
open Go.RowKit
set_option linter.unusedVariables false

abbrev FP := Nat → Prop

/-- The streams are as they were; no block has gone. -/
structure Grow (W W' : World) : Prop where
  os : W'.os = W.os
  tape : W'.tape = W.tape
  output : W'.output = W.output
  size : W.heap.size ≤ W'.heap.size

theorem Grow.refl (W : World) : Grow W W := ⟨rfl, rfl, rfl, Nat.le_refl _⟩
theorem Grow.trans {A B C : World} (h : Grow A B) (k : Grow B C) : Grow A C := ⟨k.os.trans h.os, k.tape.trans h.tape, k.output.trans h.output, Nat.le_trans h.size k.size⟩
theorem Grow.of_below {N : Nat} {A B : World} (h : Below N A B) : Grow A B := ⟨h.os, h.tape, h.output, h.size⟩

/-- Besides the blocks of Ψ and of Φ, what was there is as it was. -/
structure Only (Ψ Φ : FP) (W W' : World) : Prop where
  grow : Grow W W'
  block : ∀ k, k < W.heap.size → ¬ Ψ k → ¬ Φ k → W'.heap[k]? = W.heap[k]?

theorem Only.refl (Ψ Φ : FP) (W : World) : Only Ψ Φ W W := ⟨Grow.refl W, fun _ _ _ _ => rfl⟩
theorem Only.trans {Ψ Φ Φ' : FP} {A B C : World} (h : Only Ψ Φ A B) (k : Only Ψ Φ' B C) (hΦ : ∀ j, Φ' j → Φ j ∨ A.heap.size ≤ j) : Only Ψ Φ A C :=
  ⟨h.grow.trans k.grow, fun j hj h1 h2 => (k.block j (Nat.lt_of_lt_of_le hj h.grow.size) h1 (fun h' => (hΦ j h').elim h2 (fun h => by omega))).trans (h.block j hj h1 h2)⟩
theorem Only.of_later {Ψ Φ : FP} {A B : World} (h : Below A.heap.size A B) : Only Ψ Φ A B := ⟨Grow.of_below h, fun j hj _ _ => h.block j hj⟩
theorem Only.below {Ψ Φ : FP} {A B : World} {N : Nat} (h : Only Ψ Φ A B) (hN : N ≤ A.heap.size) (hΨ : ∀ k, Ψ k → N ≤ k) (hΦ : ∀ k, Φ k → N ≤ k) : Below N A B :=
  ⟨h.grow.os, h.grow.tape, h.grow.output, h.grow.size, fun k hk => h.block k (by omega) (fun h' => by have := hΨ k h'; omega) (fun h' => by have := hΦ k h'; omega)⟩

/-- An assertion that depends on the blocks below B, and on those of Φ, which lie from B on. -/
def Stab {α : Type} (B : Nat) (J : List α → FP → World → Prop) : Prop :=
  ∀ pre Φ W, J pre Φ W → (∀ k, Φ k → B ≤ k ∧ k < W.heap.size) ∧ B ≤ W.heap.size ∧ ∀ W', Grow W W' → (∀ k, k < B ∨ Φ k → W'.heap[k]? = W.heap[k]?) → J pre Φ W'

/-- How a round, or a whole iteration, leaves the world. -/
def Leaves (Ψ Φ : FP) (W : World) (R : FP → World → Prop) (W' : World) : Prop :=
  ∃ Φ', (∀ k, Φ' k → Φ k ∨ W.heap.size ≤ k) ∧ Only Ψ Φ W W' ∧ R Φ' W'

/-- A call of yield. -/
def RoundOk {α : Type} (P : Program) (n l : Nat) (encs : α → Array Value) (Ψ : FP) (J Jx : List α → FP → World → Prop) (pre : List α) (x : α) (Φ : FP) (W : World) : Prop :=
  YieldAt Fence.wide n P l (encs x) W fun e W' => Leaves Ψ Φ W (fun Φ' W' => (e = .returned (.bool true) ∧ J (pre ++ [x]) Φ' W') ∨ (e = .returned (.bool false) ∧ Jx (pre ++ [x]) Φ' W')) W'

/-- AN ITERATOR's PROMISE: function gf, which has captured lb, tells xs, one behind the other, to whatever body, till that says no; its data lie in the blocks of G, as they lay in w. -/
def Iter {α : Type} (P : Program) (n : Nat) (gf : Nat) (lb : Array Value) (encs : α → Array Value) (xs : List α) (G : FP) (w : World) : Prop :=
  ∀ (l B : Nat) (Ψ : FP) (J Jx : List α → FP → World → Prop) (Φ0 : FP) (W : World), Grow w W → (∀ k, G k → k < w.heap.size ∧ W.heap[k]? = w.heap[k]?) → (∀ k, Ψ k → k < B ∧ ¬ G k) → (∀ k, Φ0 k → ¬ G k) → Stab B J → Stab B Jx →
    (∀ pre x Φ W1, (pre ++ [x]) <+: xs → J pre Φ W1 → RoundOk P n l encs Ψ J Jx pre x Φ W1) → J [] Φ0 W →
    CallsIn Fence.wide (n + 1) P gf (#[.func (.yield l) #[] #[]] ++ lb) W fun e W' => (∃ v, e = .returned v) ∧ Leaves Ψ Φ0 W (fun Φ' W' => J xs Φ' W' ∨ ∃ pre, pre <+: xs ∧ Jx pre Φ' W') W'

/-- How the body of a round may be left. -/
def bodyI {α : Type} (Ψ Φ : FP) (I : List α → FP → World → Prop) (Ix : Code → List α → FP → World → Prop) (ys : List α) (W : World) : Exit → Act → World → Prop
  | .normal, _, W' => Leaves Ψ Φ W (fun Φ' W' => I ys Φ' W') W'
  | .ret, _, W' => Leaves Ψ Φ W (fun Φ' W' => Ix .ret ys Φ' W') W'
  | .exit id, _, W' => Leaves Ψ Φ W (fun Φ' W' => Ix (.exit id) ys Φ' W') W'
  | .goto t, _, W' => Leaves Ψ Φ W (fun Φ' W' => Ix (.goto t) ys Φ' W') W'
  | .panic _, _, _ => False
  | .outgrown, _, _ => False

section
variable {P : Program} {α : Type}

theorem put_grow (W : World) (l : Nat) (o : Obj) : Grow W (W.putObj l o) := ⟨rfl, rfl, rfl, by simp [World.putObj]⟩
theorem put_other {W : World} {l k : Nat} {o : Obj} (h : k ≠ l) : (W.putObj l o).heap[k]? = W.heap[k]? := World.putObj_heap_other h

/-- A loop's record. -/
def recOf (fn : FuncId) (tm : Array Value) (ps : Array Tmp) (assign body : Code) (dfr : Nat) (st : LoopState) (pe : Option Code) : Loop := { state := st, pending := pe, fn, tmps := tm, params := ps, assign, body, defers := dfr }

/-- What a loop's invariant is to its iterator. -/
def InvJ (I : List α → FP → World → Prop) (l : Nat) (D : Option Nat) (r : Loop) (pre : List α) (Φ : FP) (W : World) : Prop :=
  I pre Φ W ∧ (∀ k, Φ k → l + 1 ≤ k) ∧ W.heap[l]? = some (.loop r) ∧ ∀ d, D = some d → W.heap[d]? = some (.deferred (some []))

theorem InvJ.stab {B l : Nat} {D : Option Nat} {I : List α → FP → World → Prop} {r : Loop} (hI : Stab B I) (hB : B ≤ l) (hD : ∀ d, D = some d → d < l) : Stab (l + 1) (InvJ I l D r) := by
  rintro pre Φ W ⟨hi, hΦ, hl, hd⟩
  obtain ⟨h1, h2, h3⟩ := hI _ _ _ hi
  have hlt : l < W.heap.size := (Array.getElem?_eq_some_iff.1 hl).1
  refine ⟨fun k hk => ⟨hΦ k hk, (h1 k hk).2⟩, hlt, fun W' hg hk => ⟨h3 W' hg (fun k hk' => hk k (hk'.imp (fun h => by omega) id)), hΦ, (hk l (.inl (by omega))).trans hl, fun d hdd => (hk d (.inl (by have := hD d hdd; omega))).trans (hd d hdd)⟩⟩

/-- One round, out of its body's walk: the record turns busy, then ready, or done. -/
theorem round_of_body {n l : Nat} {fn : FuncId} {encs : α → Array Value} {ps : Array Tmp} {assign body : Code} {tm : Array Value} {dfr : Nat} {Ψ : FP} {I : List α → FP → World → Prop} {Ix : Code → List α → FP → World → Prop} {B : Nat} (hI : Stab B I) (hIx : ∀ c, Stab B (Ix c))
    (hBJ : B ≤ l) (hΨ : ∀ k, Ψ k → k < B) (hps : ∀ x, (encs x).size = ps.size) {D : Option Nat} (hD : ∀ d, D = some d → B ≤ d ∧ d < l) (a₁ : α → Act) {pre : List α} {x : α} {Φ : FP} {W : World}
    (hJ : InvJ I l D (recOf fn tm ps assign body dfr .ready none) pre Φ W)
    (hassign : ∀ (W : World) (K : Act → World → Prop), K (a₁ x) W → assign.wpIn (Fence.wide.inRound l) n P (Exit.then K (fun _ _ _ => False)) { tmps := (ps.zip (encs x)).foldl (fun t (p, v) => t.setIfInBounds p v) tm, defers := [] } W)
    (hbody : ∀ W, I pre Φ W → (∀ k, Φ k → l + 1 ≤ k) → (∃ r, W.heap[l]? = some (.loop r)) → body.wpIn (Fence.wide.inRound l) n P (bodyI Ψ Φ I Ix (pre ++ [x]) W) (a₁ x) W) :
    RoundOk P n l encs (fun k => Ψ k ∨ k = l) (InvJ I l D (recOf fn tm ps assign body dfr .ready none))
      (fun pre Φ W => ∃ c, InvJ (Ix c) l D (recOf fn tm ps assign body dfr .done (some c)) pre Φ W) pre x Φ W := by
  obtain ⟨hi, hΦ, hl, hDW⟩ := hJ
  have hlt : l < W.heap.size := (Array.getElem?_eq_some_iff.1 hl).1
  have hy := run_yield (P := P) (args := encs x) hl (hps x)
  refine ⟨fn, _, assign, body, hy, roundIn_of_wpIn trivial (hassign W _ ⟨_, run_beginRound hl rfl, ?_⟩)⟩
  obtain ⟨W2, hW2⟩ : ∃ W2, W2 = W.putObj l (.loop { recOf fn tm ps assign body dfr .ready none with state := .busy }) := ⟨_, rfl⟩
  rw [← hW2]
  have hl2 : W2.heap[l]? = some (.loop (recOf fn tm ps assign body dfr .busy none)) := by rw [hW2]; exact World.putObj_heap_same hlt
  have hnl : ∀ k, Φ k → k ≠ l := fun k hk e => by have := hΦ k hk; omega
  have ho2 : ∀ k, k ≠ l → W2.heap[k]? = W.heap[k]? := fun k hk => by rw [hW2]; exact put_other hk
  have hi2 : I pre Φ W2 := (hI _ _ _ hi).2.2 _ (by rw [hW2]; exact put_grow _ _ _) (fun k hk => ho2 k (hk.elim (fun h => by omega) (fun h => hnl k h)))
  have hsz : W2.heap.size = W.heap.size := by rw [hW2]; simp [World.putObj]
  have hg2 : Grow W W2 := by rw [hW2]; exact put_grow _ _ _
  clear hW2
  refine wpIn_mono (hbody _ hi2 hΦ ⟨_, hl2⟩) ?_
  have fin : ∀ (jump : Option Code) (Φ' : FP) (W3 : World) (R : List α → FP → World → Prop), Only Ψ Φ W2 W3 → (∀ k, Φ' k → Φ k ∨ W2.heap.size ≤ k) → Stab B R → R (pre ++ [x]) Φ' W3 →
      ∃ W4, (Instr.endRound l jump).run P W3 = .ok (.bool jump.isNone) W4 ∧ (∀ k, Φ' k → Φ k ∨ W.heap.size ≤ k) ∧ Only (fun k => Ψ k ∨ k = l) Φ W W4 ∧
        InvJ R l D (recOf fn tm ps assign body dfr (if jump.isNone then .ready else .done) jump) (pre ++ [x]) Φ' W4 := by
    intro jump Φ' W3 R ho hn hS hR
    have hl3 : W3.heap[l]? = some (.loop (recOf fn tm ps assign body dfr .busy none)) := (ho.block l (by rw [hsz]; exact hlt) (fun h => by have := hΨ l h; omega) (fun h => hnl l h rfl)).trans hl2
    have hlt3 : l < W3.heap.size := (Array.getElem?_eq_some_iff.1 hl3).1
    rw [hsz] at hn
    have hΦ' : ∀ k, Φ' k → l + 1 ≤ k := fun k hk => (hn k hk).elim (hΦ k) (fun h => by omega)
    refine ⟨_, run_endRound (P := P) jump hl3, hn, ⟨(hg2.trans ho.grow).trans (put_grow _ _ _), fun k hk h1 h2 => ?_⟩, (hS _ _ _ hR).2.2 _ (put_grow _ _ _) (fun k hk => put_other ?_), hΦ', World.putObj_heap_same hlt3, fun d hd => ?_⟩
    · have hkl : k ≠ l := fun e => h1 (.inr e)
      exact (put_other hkl).trans ((ho.block k (by rw [hsz]; exact hk) (fun h => h1 (.inl h)) h2).trans (ho2 k hkl))
    · rcases hk with h | h
      · omega
      · have := hΦ' k h; omega
    · obtain ⟨d1, d2⟩ := hD d hd
      exact (put_other (by omega)).trans ((ho.block d (by omega) (fun h => by have := hΨ d h; omega) (fun h => by have := hΦ d h; omega)).trans ((ho2 d (by omega)).trans (hDW d hd)))
  rintro e a3 W3 hp
  cases e with
  | normal =>
    obtain ⟨Φ', hn, ho, hR⟩ := hp
    obtain ⟨W4, hr, h1, h2, h3⟩ := fin none Φ' W3 I ho hn hI hR
    exact ⟨_, _, hr, Φ', h1, h2, .inl ⟨rfl, h3⟩⟩
  | ret =>
    obtain ⟨Φ', hn, ho, hR⟩ := hp
    obtain ⟨W4, hr, h1, h2, h3⟩ := fin (some .ret) Φ' W3 (Ix .ret) ho hn (hIx _) hR
    exact ⟨_, _, hr, Φ', h1, h2, .inr ⟨rfl, .ret, h3⟩⟩
  | exit id =>
    obtain ⟨Φ', hn, ho, hR⟩ := hp
    obtain ⟨W4, hr, h1, h2, h3⟩ := fin (some (.exit id)) Φ' W3 (Ix (.exit id)) ho hn (hIx _) hR
    exact ⟨_, _, hr, Φ', h1, h2, .inr ⟨rfl, .exit id, h3⟩⟩
  | goto t =>
    obtain ⟨Φ', hn, ho, hR⟩ := hp
    obtain ⟨W4, hr, h1, h2, h3⟩ := fin (some (.goto t)) Φ' W3 (Ix (.goto t)) ho hn (hIx _) hR
    exact ⟨_, _, hr, Φ', h1, h2, .inr ⟨rfl, .goto t, h3⟩⟩
  | panic ch => exact hp.elim
  | outgrown => exact hp.elim

/-- **A LOOP OVER AN ITERATOR, in a function's own frame.** -/
theorem range_outer {n : Nat} {g : Operand} {ps : Array Tmp} {assign body : Code} {Q : Exit → Act → World → Prop} {a : Act} {w : World} {gf : Nat} {lb : Array Value} (hg : a.eval g = .func (.func gf) #[] lb) (eg : ∀ args w, (callFunc gf args).run P w = .ok (.enter gf args) w)
    {encs : α → Array Value} {xs : List α} {G : FP} {w0 : World} (hit : Iter P n gf lb encs xs G w0) (hg0 : Grow w0 w) (hG : ∀ k, G k → k < w0.heap.size ∧ w.heap[k]? = w0.heap[k]?) (hps : ∀ x, (encs x).size = ps.size)
    (Ψ : FP) (hΨ : ∀ k, Ψ k → k < w.heap.size ∧ ¬ G k) (I : List α → FP → World → Prop) (Ix : Code → List α → FP → World → Prop) (hI : Stab w.heap.size I) (hIx : ∀ c, Stab w.heap.size (Ix c)) (h0 : I [] (fun _ => False) w) (a₁ : α → Act)
    (hassign : ∀ (l : Nat) (x : α) (W : World) (K : Act → World → Prop), K (a₁ x) W → assign.wpIn (Fence.wide.inRound l) n P (Exit.then K (fun _ _ _ => False)) { tmps := (ps.zip (encs x)).foldl (fun t (p, v) => t.setIfInBounds p v) a.tmps, defers := [] } W)
    (hbody : ∀ (l : Nat) (pre : List α) (x : α) (Φ : FP) (W : World), (pre ++ [x]) <+: xs → I pre Φ W → w.heap.size < l → (∀ k, Φ k → l + 1 ≤ k) → (∃ r, W.heap[l]? = some (.loop r)) → body.wpIn (Fence.wide.inRound l) n P (bodyI Ψ Φ I Ix (pre ++ [x]) W) (a₁ x) W)
    (hdone : ∀ (D : Nat) (Φ : FP) (W : World), I xs Φ W → Only Ψ (fun _ => False) w W → w.heap.size ≤ D → ¬ Φ D → W.heap[D]? = some (.deferred (some [])) → Q .normal { a with defers := { target := .collected D, args := #[] } :: a.defers } W)
    (hstop : ∀ (D : Nat) (Φ : FP) (c : Code) (pre : List α) (W : World), pre <+: xs → Ix c pre Φ W → Only Ψ (fun _ => False) w W → w.heap.size ≤ D → ¬ Φ D → W.heap[D]? = some (.deferred (some [])) → c.wpIn Fence.wide (n + 2) P Q { a with defers := { target := .collected D, args := #[] } :: a.defers } W) :
    (Code.rangeFunc g ps assign body).wpIn Fence.wide (n + 2) P Q a w := by
  refine wpIn_rangeFunc ?_
  intro fn hfn
  obtain ⟨W1, hW1⟩ : ∃ W1, (w.alloc (.deferred (some []))).alloc (.loop (recOf fn a.tmps ps assign body w.heap.size .ready none)) = W1 := ⟨_, rfl⟩
  have hL1 : W1.heap[w.heap.size + 1]? = some (.loop (recOf fn a.tmps ps assign body w.heap.size .ready none)) := by
    rw [← hW1]; have := World.alloc_heap_new (w.alloc (.deferred (some []))) (.loop (recOf fn a.tmps ps assign body w.heap.size .ready none)); rwa [World.size_alloc] at this
  have hK1 : W1.heap[w.heap.size]? = some (.deferred (some [])) := by
    rw [← hW1]; exact (Below.heap_alloc _ _ _ (by simp)).trans (World.alloc_heap_new w _)
  have hB1 : Below w.heap.size w W1 := by rw [← hW1]; exact ((Below.refl _ w).alloc (Nat.le_refl _) _).alloc (by simp) _
  have hsz : W1.heap.size = w.heap.size + 2 := by rw [← hW1]; simp
  have hi1 : I [] (fun _ => False) W1 := (hI _ _ _ h0).2.2 _ (Grow.of_below hB1) (fun k hk => hk.elim (fun h => hB1.block k h) (fun h => h.elim))
  refine ⟨w.heap.size + 1, [{ target := .collected w.heap.size, args := #[] }], W1, { target := .fn (.func gf) lb, args := #[.func (.yield (w.heap.size + 1)) #[] #[]] }, W1, gf,
    #[.func (.yield (w.heap.size + 1)) #[] #[]] ++ lb, W1, ?_, ?_, ?_, ?_, fun h => by simp [Fence.wide] at h, ?_⟩
  · rw [← hW1]; exact run_enterLoop_outer _ _ _ _ _
  · simp only [resolve, hg]
    simp [go_sem]
  · intro f' hf'; simp [Target.leads] at hf'; subst hf'; trivial
  · simp [invoke, go_sem, eg]
  · have hD : ∀ d, some w.heap.size = some d → w.heap.size ≤ d ∧ d < w.heap.size + 1 := fun d hd => by cases hd; omega
    refine (hit (w.heap.size + 1) (w.heap.size + 2) (fun k => Ψ k ∨ k = w.heap.size + 1) (InvJ I (w.heap.size + 1) (some w.heap.size) (recOf fn a.tmps ps assign body w.heap.size .ready none))
      (fun pre Φ W => ∃ c, InvJ (Ix c) (w.heap.size + 1) (some w.heap.size) (recOf fn a.tmps ps assign body w.heap.size .done (some c)) pre Φ W) (fun _ => False) W1 (hg0.trans (Grow.of_below hB1))
      (fun k hk => ⟨(hG k hk).1, (hB1.block k (Nat.lt_of_lt_of_le (hG k hk).1 hg0.size)).trans (hG k hk).2⟩) (fun k hk => ?_) (fun _ h => h.elim) (InvJ.stab hI (by omega) (fun d hd => (hD d hd).2)) ?_ ?_ ⟨hi1, fun _ h => h.elim, hL1, fun d hd => by cases hd; exact hK1⟩).mono ?_
    · rcases hk with h | h
      · exact ⟨by have := (hΨ k h).1; omega, (hΨ k h).2⟩
      · exact ⟨by omega, fun hg' => by have := (hG k hg').1; have := hg0.size; omega⟩
    · rintro pre Φ W ⟨c, hc⟩
      obtain ⟨h1, h2, h3⟩ := InvJ.stab (hIx c) (by omega) (fun d hd => (hD d hd).2) _ _ _ hc
      exact ⟨h1, h2, fun W' hg' hk => ⟨c, h3 W' hg' hk⟩⟩
    · intro pre x Φ W hpx hJ
      exact round_of_body hI hIx (by omega) (fun k hk => (hΨ k hk).1) hps hD a₁ hJ (fun W K hK => hassign _ x W K hK) (fun W hi hΦ hr => hbody _ pre x Φ W hpx hi (by omega) hΦ hr)
    · have fine : ∀ W2, Only (fun k => Ψ k ∨ k = w.heap.size + 1) (fun _ => False) W1 W2 → ∀ r, Only Ψ (fun _ => False) w (W2.putObj (w.heap.size + 1) (.loop r)) := fun W2 ho r =>
        ⟨((Grow.of_below hB1).trans ho.grow).trans (put_grow _ _ _), fun k hk h1 h2 => (put_other (by omega)).trans ((ho.block k (by omega) (fun h => h.elim h1 (by omega)) h2).trans (hB1.block k hk))⟩
      rintro e W2 ⟨⟨v, rfl⟩, Φ', hn, ho, (⟨hi, hΦ, hl, hk⟩ | ⟨pre, hpre, c, hi, hΦ, hl, hk⟩)⟩
      · have hnD : ¬ Φ' w.heap.size := fun h => by have := hΦ _ h; omega
        refine ⟨none, _, run_endLoop (P := P) hl (by simp [recOf]), hdone _ Φ' _ ?_ (fine W2 ho _) (Nat.le_refl _) hnD ((put_other (by omega)).trans (hk _ rfl))⟩
        exact (hI _ _ _ hi).2.2 _ (put_grow _ _ _) (fun k hk' => put_other (hk'.elim (fun h => by omega) (fun h => by have := hΦ k h; omega)))
      · have hnD : ¬ Φ' w.heap.size := fun h => by have := hΦ _ h; omega
        refine ⟨some c, _, run_endLoop (P := P) hl (by simp [recOf]), hstop _ Φ' c pre _ hpre ?_ (fine W2 ho _) (Nat.le_refl _) hnD ((put_other (by omega)).trans (hk _ rfl))⟩
        exact (hIx c _ _ _ hi).2.2 _ (put_grow _ _ _) (fun k hk' => put_other (hk'.elim (fun h => by omega) (fun h => by have := hΦ k h; omega)))

/-- **A LOOP OVER AN ITERATOR, in a round of another loop.** -/
theorem range_inner {n l₀ : Nat} {r₀ : Loop} {g : Operand} {ps : Array Tmp} {assign body : Code} {Q : Exit → Act → World → Prop} {a : Act} {w : World} {gf : Nat} {lb : Array Value} (hr0 : w.heap[l₀]? = some (.loop r₀)) (hg : a.eval g = .func (.func gf) #[] lb) (eg : ∀ args w, (callFunc gf args).run P w = .ok (.enter gf args) w)
    {encs : α → Array Value} {xs : List α} {G : FP} {w0 : World} (hit : Iter P n gf lb encs xs G w0) (hg0 : Grow w0 w) (hG : ∀ k, G k → k < w0.heap.size ∧ w.heap[k]? = w0.heap[k]?) (hps : ∀ x, (encs x).size = ps.size)
    (Ψ : FP) (hΨ : ∀ k, Ψ k → k < w.heap.size ∧ ¬ G k) (I : List α → FP → World → Prop) (Ix : Code → List α → FP → World → Prop) (hI : Stab w.heap.size I) (hIx : ∀ c, Stab w.heap.size (Ix c)) (h0 : I [] (fun _ => False) w) (a₁ : α → Act)
    (hassign : ∀ (l : Nat) (x : α) (W : World) (K : Act → World → Prop), K (a₁ x) W → assign.wpIn (Fence.wide.inRound l) n P (Exit.then K (fun _ _ _ => False)) { tmps := (ps.zip (encs x)).foldl (fun t (p, v) => t.setIfInBounds p v) a.tmps, defers := [] } W)
    (hbody : ∀ (l : Nat) (pre : List α) (x : α) (Φ : FP) (W : World), (pre ++ [x]) <+: xs → I pre Φ W → w.heap.size ≤ l → (∀ k, Φ k → l + 1 ≤ k) → (∃ r, W.heap[l]? = some (.loop r)) → body.wpIn (Fence.wide.inRound l) n P (bodyI Ψ Φ I Ix (pre ++ [x]) W) (a₁ x) W)
    (hdone : ∀ (Φ : FP) (W : World), I xs Φ W → Only Ψ (fun _ => False) w W → Q .normal { a with defers := [] ++ a.defers } W)
    (hstop : ∀ (Φ : FP) (c : Code) (pre : List α) (W : World), pre <+: xs → Ix c pre Φ W → Only Ψ (fun _ => False) w W → c.wpIn (Fence.wide.inRound l₀) (n + 2) P Q { a with defers := [] ++ a.defers } W) :
    (Code.rangeFunc g ps assign body).wpIn (Fence.wide.inRound l₀) (n + 2) P Q a w := by
  refine wpIn_rangeFunc ?_
  intro fn hfn
  obtain ⟨W1, hW1⟩ : ∃ W1, w.alloc (.loop (recOf fn a.tmps ps assign body r₀.defers .ready none)) = W1 := ⟨_, rfl⟩
  have hL1 : W1.heap[w.heap.size]? = some (.loop (recOf fn a.tmps ps assign body r₀.defers .ready none)) := by
    rw [← hW1]; exact World.alloc_heap_new w _
  have hB1 : Below w.heap.size w W1 := by rw [← hW1]; exact (Below.refl _ w).alloc (Nat.le_refl _) _
  have hsz : W1.heap.size = w.heap.size + 1 := by rw [← hW1]; simp
  have hi1 : I [] (fun _ => False) W1 := (hI _ _ _ h0).2.2 _ (Grow.of_below hB1) (fun k hk => hk.elim (fun h => hB1.block k h) (fun h => h.elim))
  refine ⟨w.heap.size, [], W1, { target := .fn (.func gf) lb, args := #[.func (.yield w.heap.size) #[] #[]] }, W1, gf,
    #[.func (.yield w.heap.size) #[] #[]] ++ lb, W1, ?_, ?_, ?_, ?_, fun h => by simp [Fence.wide] at h, ?_⟩
  · rw [← hW1]; exact run_enterLoop_inner hr0 _ _ _ _ _
  · simp only [resolve, hg]
    simp [go_sem]
  · intro f' hf'; simp [Target.leads] at hf'; subst hf'; trivial
  · simp [invoke, go_sem, eg]
  · have hD : ∀ d, (none : Option Nat) = some d → w.heap.size ≤ d ∧ d < w.heap.size := fun d hd => by cases hd
    refine CallsIn.inRound l₀ ((hit w.heap.size (w.heap.size + 1) (fun k => Ψ k ∨ k = w.heap.size) (InvJ I w.heap.size none (recOf fn a.tmps ps assign body r₀.defers .ready none))
      (fun pre Φ W => ∃ c, InvJ (Ix c) w.heap.size none (recOf fn a.tmps ps assign body r₀.defers .done (some c)) pre Φ W) (fun _ => False) W1 (hg0.trans (Grow.of_below hB1))
      (fun k hk => ⟨(hG k hk).1, (hB1.block k (Nat.lt_of_lt_of_le (hG k hk).1 hg0.size)).trans (hG k hk).2⟩) (fun k hk => ?_) (fun _ h => h.elim) (InvJ.stab hI (by omega) (fun d hd => (hD d hd).2)) ?_ ?_ ⟨hi1, fun _ h => h.elim, hL1, fun d hd => by cases hd⟩).mono ?_)
    · rcases hk with h | h
      · exact ⟨by have := (hΨ k h).1; omega, (hΨ k h).2⟩
      · exact ⟨by omega, fun hg' => by have := (hG k hg').1; have := hg0.size; omega⟩
    · rintro pre Φ W ⟨c, hc⟩
      obtain ⟨h1, h2, h3⟩ := InvJ.stab (hIx c) (by omega) (fun d hd => (hD d hd).2) _ _ _ hc
      exact ⟨h1, h2, fun W' hg' hk => ⟨c, h3 W' hg' hk⟩⟩
    · intro pre x Φ W hpx hJ
      exact round_of_body hI hIx (by omega) (fun k hk => (hΨ k hk).1) hps hD a₁ hJ (fun W K hK => hassign _ x W K hK) (fun W hi hΦ hr => hbody _ pre x Φ W hpx hi (by omega) hΦ hr)
    · have fine : ∀ W2, Only (fun k => Ψ k ∨ k = w.heap.size) (fun _ => False) W1 W2 → ∀ r, Only Ψ (fun _ => False) w (W2.putObj w.heap.size (.loop r)) := fun W2 ho r =>
        ⟨((Grow.of_below hB1).trans ho.grow).trans (put_grow _ _ _), fun k hk h1 h2 => (put_other (by omega)).trans ((ho.block k (by omega) (fun h => h.elim h1 (by omega)) h2).trans (hB1.block k hk))⟩
      rintro e W2 ⟨⟨v, rfl⟩, Φ', hn, ho, (⟨hi, hΦ, hl, hk⟩ | ⟨pre, hpre, c, hi, hΦ, hl, hk⟩)⟩
      · refine ⟨none, _, run_endLoop (P := P) hl (by simp [recOf]), hdone Φ' _ ?_ (fine W2 ho _)⟩
        exact (hI _ _ _ hi).2.2 _ (put_grow _ _ _) (fun k hk' => put_other (hk'.elim (fun h => by omega) (fun h => by have := hΦ k h; omega)))
      · refine ⟨some c, _, run_endLoop (P := P) hl (by simp [recOf]), hstop Φ' c pre _ hpre ?_ (fine W2 ho _)⟩
        exact (hIx c _ _ _ hi).2.2 _ (put_grow _ _ _) (fun k hk' => put_other (hk'.elim (fun h => by omega) (fun h => by have := hΦ k h; omega)))
end
end Go.Proofs.YtcfcfijmfgnpfaaGreatDoor
end
