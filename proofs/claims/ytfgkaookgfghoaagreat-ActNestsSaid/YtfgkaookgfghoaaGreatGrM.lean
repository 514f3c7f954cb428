/-
  Sorted rows of pairs; rows of cells by two numbers: what a table of two numbers is. No program.
-/
import Derived.WalkKit
namespace Go.Proofs.YtfgkaookgfghoaaGreat
set_option linter.unusedVariables false
set_option linter.unusedSimpArgs false

section ext
variable {α : Type} {r : α → α → Prop}
theorem sorted_ext (irr : ∀ a, ¬ r a a) (tr : ∀ a b c, r a b → r b c → r a c) : ∀ {l m : List α}, l.Pairwise r → m.Pairwise r → (∀ x, x ∈ l ↔ x ∈ m) → l = m
  | [], [], _, _, _ => rfl
  | [], b :: m, _, _, h => by have := (h b).2 (by simp); simp at this
  | a :: l, [], _, _, h => by have := (h a).1 (by simp); simp at this
  | a :: l, b :: m, h1, h2, h => by
    have hp1 := List.pairwise_cons.1 h1
    have hp2 := List.pairwise_cons.1 h2
    have e : a = b := by
      rcases List.mem_cons.1 ((h a).1 (by simp)) with e | e
      · exact e
      · rcases List.mem_cons.1 ((h b).2 (by simp)) with e' | e'
        · exact e'.symm
        · exact absurd (tr _ _ _ (hp2.1 a e) (hp1.1 b e')) (irr b)
    subst e
    rw [sorted_ext irr tr hp1.2 hp2.2 (fun x => ?_)]
    have hx := h x
    constructor
    · intro hm
      rcases List.mem_cons.1 (hx.1 (List.mem_cons_of_mem _ hm)) with e | e
      · subst e; exact absurd (hp1.1 x hm) (irr x)
      · exact e
    · intro hm
      rcases List.mem_cons.1 (hx.2 (List.mem_cons_of_mem _ hm)) with e | e
      · subst e; exact absurd (hp2.1 x hm) (irr x)
      · exact e
end ext

/-- Sorted by number. -/
def SrtK {β : Type} (m : List (Int × β)) : Prop := m.Pairwise (fun x y => x.1 < y.1)
def lexlt (a b : Int × Int) : Prop := a.1 < b.1 ∨ (a.1 = b.1 ∧ a.2 < b.2)
instance : DecidableRel lexlt := fun a b => by unfold lexlt; infer_instance
/-- Sorted by both numbers. -/
def SrtC {β : Type} (m : List ((Int × Int) × β)) : Prop := m.Pairwise (fun x y => lexlt x.1 y.1)

section
variable {κ β : Type}
def ins (lt : κ → κ → Prop) [DecidableRel lt] (x : κ × β) : List (κ × β) → List (κ × β)
  | [] => [x]
  | y :: l => if lt x.1 y.1 then x :: y :: l else y :: ins lt x l
theorem mem_ins (lt : κ → κ → Prop) [DecidableRel lt] (x z : κ × β) : ∀ l, z ∈ ins lt x l ↔ z = x ∨ z ∈ l
  | [] => by simp [ins]
  | y :: l => by
    unfold ins
    split
    · simp
    · rw [List.mem_cons, mem_ins lt x z l, List.mem_cons]
      constructor
      · rintro (h | h | h)
        · exact .inr (.inl h)
        · exact .inl h
        · exact .inr (.inr h)
      · rintro (h | h | h)
        · exact .inr (.inl h)
        · exact .inl h
        · exact .inr (.inr h)
theorem length_ins (lt : κ → κ → Prop) [DecidableRel lt] (x : κ × β) : ∀ l, (ins lt x l).length = l.length + 1
  | [] => rfl
  | y :: l => by
    unfold ins
    split
    · rfl
    · simp [length_ins lt x l]
theorem srt_ins (lt : κ → κ → Prop) [DecidableRel lt] (tr : ∀ a b c, lt a b → lt b c → lt a c) (x : κ × β) : ∀ l : List (κ × β), l.Pairwise (fun a b => lt a.1 b.1) → (∀ y ∈ l, lt x.1 y.1 ∨ lt y.1 x.1) → (ins lt x l).Pairwise (fun a b => lt a.1 b.1)
  | [], _, _ => by simp [ins]
  | y :: l, h, ht => by
    have hp := List.pairwise_cons.1 h
    unfold ins
    split
    · rename_i hlt
      refine List.pairwise_cons.2 ⟨fun z hz => ?_, h⟩
      rcases List.mem_cons.1 hz with e | e
      · rw [e]; exact hlt
      · exact tr _ _ _ hlt (hp.1 z e)
    · rename_i hlt
      refine List.pairwise_cons.2 ⟨fun z hz => ?_, srt_ins lt tr x l hp.2 (fun z hz => ht z (List.mem_cons_of_mem _ hz))⟩
      rcases (mem_ins lt x z l).1 hz with e | e
      · rw [e]; exact (ht y (by simp)).resolve_left hlt
      · exact hp.1 z e
end

/-! one row -/
section
variable {β : Type}
def sget (m : List (Int × β)) (k : Int) : Option β := (m.find? (fun x => x.1 == k)).map (·.2)
def sdel (m : List (Int × β)) (k : Int) : List (Int × β) := m.filter (fun x => !(x.1 == k))
def sput (m : List (Int × β)) (k : Int) (v : β) : List (Int × β) := ins (fun a b : Int => a < b) (k, v) (sdel m k)
theorem mem_sdel {m : List (Int × β)} {k : Int} {x : Int × β} : x ∈ sdel m k ↔ x ∈ m ∧ x.1 ≠ k := by simp [sdel]
theorem mem_sput {m : List (Int × β)} {k : Int} {v : β} {x : Int × β} : x ∈ sput m k v ↔ x = (k, v) ∨ (x ∈ m ∧ x.1 ≠ k) := by rw [sput, mem_ins, mem_sdel]
theorem SrtK.del {m : List (Int × β)} (h : SrtK m) (k : Int) : SrtK (sdel m k) := List.Pairwise.filter _ h
theorem SrtK.put {m : List (Int × β)} (h : SrtK m) (k : Int) (v : β) : SrtK (sput m k v) := by
  refine srt_ins (fun a b : Int => a < b) (fun a b c h1 h2 => Int.lt_trans h1 h2) (k, v) _ (h.del k) (fun y hy => ?_)
  have := (mem_sdel.1 hy).2
  show k < y.1 ∨ y.1 < k
  omega
theorem SrtK.ext {m m' : List (Int × β)} (h : SrtK m) (h' : SrtK m') (hm : ∀ x, x ∈ m ↔ x ∈ m') : m = m' :=
  sorted_ext (r := fun x y : Int × β => x.1 < y.1) (fun a h => by omega) (fun a b c h1 h2 => by omega) h h' hm
theorem SrtK.one {m : List (Int × β)} (h : SrtK m) {x y : Int × β} (hx : x ∈ m) (hy : y ∈ m) (e : x.1 = y.1) : x = y := by
  induction m with
  | nil => simp at hx
  | cons a m ih =>
    have hp := List.pairwise_cons.1 h
    rcases List.mem_cons.1 hx with rfl | hx' <;> rcases List.mem_cons.1 hy with rfl | hy'
    · rfl
    · have := hp.1 y hy'; omega
    · have := hp.1 x hx'; omega
    · exact ih hp.2 hx' hy'
theorem sget_mem {m : List (Int × β)} {k : Int} {v : β} (h : sget m k = some v) : (k, v) ∈ m := by
  unfold sget at h
  obtain ⟨x, hx, e⟩ := Option.map_eq_some_iff.1 h
  have h1 := List.find?_some hx
  have h2 := List.mem_of_find?_eq_some hx
  simp at h1
  obtain ⟨a, b⟩ := x
  simp at h1 e
  subst h1 e
  exact h2
theorem sget_none {m : List (Int × β)} {k : Int} : sget m k = none ↔ ∀ v, (k, v) ∉ m := by
  unfold sget
  rw [Option.map_eq_none_iff, List.find?_eq_none]
  constructor
  · intro h v hm
    exact h _ hm (by simp)
  · rintro h ⟨a, b⟩ hm e
    simp at e
    subst e
    exact h b hm
theorem SrtK.get {m : List (Int × β)} (h : SrtK m) {k : Int} {v : β} : sget m k = some v ↔ (k, v) ∈ m := by
  refine ⟨sget_mem, fun hm => ?_⟩
  cases e : sget m k with
  | none => exact absurd hm (sget_none.1 e v)
  | some u =>
    have := h.one (sget_mem e) hm rfl
    simpa using this
theorem SrtK.get_put {m : List (Int × β)} (h : SrtK m) (k j : Int) (v : β) : sget (sput m k v) j = if j = k then some v else sget m j := by
  by_cases e : j = k
  · subst e; simp only [if_true]
    exact (h.put j v).get.2 (mem_sput.2 (.inl rfl))
  · simp only [e, if_false]
    cases e' : sget m j with
    | none => exact sget_none.2 (fun u hu => by
        rcases mem_sput.1 hu with h' | h'
        · simp at h'; exact e h'.1
        · exact sget_none.1 e' u h'.1)
    | some u => exact (h.put k v).get.2 (mem_sput.2 (.inr ⟨sget_mem e', e⟩))
theorem SrtK.get_del {m : List (Int × β)} (h : SrtK m) (k j : Int) : sget (sdel m k) j = if j = k then none else sget m j := by
  by_cases e : j = k
  · subst e; simp only [if_true]
    exact sget_none.2 (fun u hu => (mem_sdel.1 hu).2 rfl)
  · simp only [e, if_false]
    cases e' : sget m j with
    | none => exact sget_none.2 (fun u hu => sget_none.1 e' u (mem_sdel.1 hu).1)
    | some u => exact (h.del k).get.2 (mem_sdel.2 ⟨sget_mem e', e⟩)
theorem sdel_none {m : List (Int × β)} {k : Int} (h : sget m k = none) : sdel m k = m := by
  unfold sdel
  rw [List.filter_eq_self]
  rintro ⟨a, b⟩ hm
  simp
  rintro rfl
  exact sget_none.1 h b hm
theorem SrtK.length_del {m : List (Int × β)} (h : SrtK m) (k : Int) : (sdel m k).length + (if (sget m k).isSome then 1 else 0) = m.length := by
  induction m with
  | nil => rfl
  | cons x m ih =>
    have hp := List.pairwise_cons.1 h
    by_cases e : x.1 = k
    · have h1 : sdel m k = m := sdel_none (sget_none.2 (fun v hv => by have := hp.1 _ hv; simp at this; omega))
      have h2 : sdel (x :: m) k = m := by rw [← h1]; simp [sdel, e]
      have h3 : sget (x :: m) k = some x.2 := by simp [sget, e]
      rw [h2, h3]; rfl
    · have h2 : sdel (x :: m) k = x :: sdel m k := by simp [sdel, e]
      have h3 : sget (x :: m) k = sget m k := by simp [sget, e]
      rw [h2, h3, List.length_cons, List.length_cons, ← ih hp.2]
      omega
theorem SrtK.length_put {m : List (Int × β)} (h : SrtK m) (k : Int) (v : β) : (sput m k v).length = if (sget m k).isSome then m.length else m.length + 1 := by
  have := h.length_del k
  rw [sput, length_ins]
  split <;> simp_all <;> omega
end

/-! cells -/
section
variable {β : Type}
abbrev Cls (β : Type) := List ((Int × Int) × β)
def rowOf (M : Cls β) (a : Int) : List (Int × β) := M.filterMap (fun c => if c.1.1 = a then some (c.1.2, c.2) else none)
def colOf (M : Cls β) (b : Int) : List (Int × β) := M.filterMap (fun c => if c.1.2 = b then some (c.1.1, c.2) else none)
def cget (M : Cls β) (a b : Int) : Option β := sget (rowOf M a) b
def cdel (M : Cls β) (a b : Int) : Cls β := M.filter (fun x => !(x.1 == (a, b)))
def cput (M : Cls β) (a b : Int) (v : β) : Cls β := ins lexlt ((a, b), v) (cdel M a b)
theorem mem_rowOf {M : Cls β} {a : Int} {x : Int × β} : x ∈ rowOf M a ↔ ((a, x.1), x.2) ∈ M := by
  simp only [rowOf, List.mem_filterMap]
  constructor
  · rintro ⟨⟨⟨i, j⟩, v⟩, hm, h⟩
    simp at h
    obtain ⟨rfl, rfl⟩ := h
    exact hm
  · intro h
    exact ⟨_, h, by simp⟩
theorem mem_colOf {M : Cls β} {b : Int} {x : Int × β} : x ∈ colOf M b ↔ ((x.1, b), x.2) ∈ M := by
  simp only [colOf, List.mem_filterMap]
  constructor
  · rintro ⟨⟨⟨i, j⟩, v⟩, hm, h⟩
    simp at h
    obtain ⟨rfl, rfl⟩ := h
    exact hm
  · intro h
    exact ⟨_, h, by simp⟩
theorem mem_cdel {M : Cls β} {a b : Int} {x : (Int × Int) × β} : x ∈ cdel M a b ↔ x ∈ M ∧ x.1 ≠ (a, b) := by simp [cdel]
theorem mem_cput {M : Cls β} {a b : Int} {v : β} {x : (Int × Int) × β} : x ∈ cput M a b v ↔ x = ((a, b), v) ∨ (x ∈ M ∧ x.1 ≠ (a, b)) := by rw [cput, mem_ins, mem_cdel]
theorem lexlt_tr (a b c : Int × Int) (h : lexlt a b) (k : lexlt b c) : lexlt a c := by unfold lexlt at *; omega
theorem lexlt_ir (a : Int × Int) : ¬ lexlt a a := by unfold lexlt; omega
theorem lexlt_tot {a b : Int × Int} (h : b ≠ a) : lexlt a b ∨ lexlt b a := by
  obtain ⟨a1, a2⟩ := a
  obtain ⟨b1, b2⟩ := b
  simp [lexlt] at *
  omega
theorem SrtC.del {M : Cls β} (h : SrtC M) (a b : Int) : SrtC (cdel M a b) := List.Pairwise.filter _ h
theorem SrtC.put {M : Cls β} (h : SrtC M) (a b : Int) (v : β) : SrtC (cput M a b v) :=
  srt_ins _ lexlt_tr _ _ (h.del a b) (fun y hy => lexlt_tot (mem_cdel.1 hy).2)
theorem SrtC.ext {M M' : Cls β} (h : SrtC M) (h' : SrtC M') (hm : ∀ x, x ∈ M ↔ x ∈ M') : M = M' :=
  sorted_ext (r := fun x y : (Int × Int) × β => lexlt x.1 y.1) (fun a => lexlt_ir _) (fun a b c => lexlt_tr _ _ _) h h' hm
theorem SrtC.row {M : Cls β} (h : SrtC M) (a : Int) : SrtK (rowOf M a) := by
  refine List.Pairwise.filterMap _ ?_ h
  rintro ⟨⟨i, j⟩, v⟩ ⟨⟨i', j'⟩, v'⟩ hlt x hx y hy
  simp at hx hy
  obtain ⟨rfl, rfl⟩ := hx
  obtain ⟨rfl, rfl⟩ := hy
  simp [lexlt] at hlt
  exact hlt
theorem SrtC.col {M : Cls β} (h : SrtC M) (b : Int) : SrtK (colOf M b) := by
  refine List.Pairwise.filterMap _ ?_ h
  rintro ⟨⟨i, j⟩, v⟩ ⟨⟨i', j'⟩, v'⟩ hlt x hx y hy
  simp at hx hy
  obtain ⟨rfl, rfl⟩ := hx
  obtain ⟨rfl, rfl⟩ := hy
  simp [lexlt] at hlt
  exact hlt
theorem SrtC.row_put {M : Cls β} (h : SrtC M) (a b : Int) (v : β) (i : Int) : rowOf (cput M a b v) i = if i = a then sput (rowOf M a) b v else rowOf M i := by
  split
  · rename_i e; subst e
    refine ((h.put _ _ _).row _).ext ((h.row _).put _ _) ?_
    rintro ⟨j, u⟩
    rw [mem_rowOf, mem_cput, mem_sput, mem_rowOf]
    simp
  · rename_i e
    refine ((h.put _ _ _).row _).ext (h.row _) ?_
    rintro ⟨j, u⟩
    rw [mem_rowOf, mem_cput, mem_rowOf]
    simp [e]
theorem SrtC.col_put {M : Cls β} (h : SrtC M) (a b : Int) (v : β) (j : Int) : colOf (cput M a b v) j = if j = b then sput (colOf M b) a v else colOf M j := by
  split
  · rename_i e; subst e
    refine ((h.put _ _ _).col _).ext ((h.col _).put _ _) ?_
    rintro ⟨i, u⟩
    rw [mem_colOf, mem_cput, mem_sput, mem_colOf]
    simp
  · rename_i e
    refine ((h.put _ _ _).col _).ext (h.col _) ?_
    rintro ⟨i, u⟩
    rw [mem_colOf, mem_cput, mem_colOf]
    simp [e]
theorem SrtC.row_del {M : Cls β} (h : SrtC M) (a b : Int) (i : Int) : rowOf (cdel M a b) i = if i = a then sdel (rowOf M a) b else rowOf M i := by
  split
  · rename_i e; subst e
    refine ((h.del _ _).row _).ext ((h.row _).del _) ?_
    rintro ⟨j, u⟩
    rw [mem_rowOf, mem_cdel, mem_sdel, mem_rowOf]
    simp
  · rename_i e
    refine ((h.del _ _).row _).ext (h.row _) ?_
    rintro ⟨j, u⟩
    rw [mem_rowOf, mem_cdel, mem_rowOf]
    simp [e]
theorem SrtC.col_del {M : Cls β} (h : SrtC M) (a b : Int) (j : Int) : colOf (cdel M a b) j = if j = b then sdel (colOf M b) a else colOf M j := by
  split
  · rename_i e; subst e
    refine ((h.del _ _).col _).ext ((h.col _).del _) ?_
    rintro ⟨i, u⟩
    rw [mem_colOf, mem_cdel, mem_sdel, mem_colOf]
    simp
  · rename_i e
    refine ((h.del _ _).col _).ext (h.col _) ?_
    rintro ⟨i, u⟩
    rw [mem_colOf, mem_cdel, mem_colOf]
    simp [e]
theorem SrtC.get {M : Cls β} (h : SrtC M) {a b : Int} {v : β} : cget M a b = some v ↔ ((a, b), v) ∈ M := by
  rw [cget, (h.row a).get, mem_rowOf]
theorem SrtC.get_col {M : Cls β} (h : SrtC M) (a b : Int) : sget (colOf M b) a = cget M a b := by
  cases e : cget M a b with
  | some v => exact (h.col b).get.2 (mem_colOf.2 (h.get.1 e))
  | none => exact sget_none.2 (fun v hv => sget_none.1 e v (mem_rowOf.2 (mem_colOf.1 hv)))
theorem cdel_none {M : Cls β} {a b : Int} (h : cget M a b = none) : cdel M a b = M := by
  unfold cdel
  rw [List.filter_eq_self]
  rintro ⟨⟨i, j⟩, v⟩ hm
  simp
  rintro rfl rfl
  exact sget_none.1 h v (mem_rowOf.2 hm)
theorem SrtC.length_del {M : Cls β} (h : SrtC M) (a b : Int) : (cdel M a b).length + (if (cget M a b).isSome then 1 else 0) = M.length := by
  induction M with
  | nil => rfl
  | cons x M ih =>
    have hp := List.pairwise_cons.1 h
    obtain ⟨⟨i, j⟩, u⟩ := x
    by_cases e : (i, j) = (a, b)
    · have h0 : cget M a b = none := sget_none.2 (fun v hv => by
        have := hp.1 _ (mem_rowOf.1 hv)
        rw [e] at this
        exact lexlt_ir _ this)
      have h1 : cdel M a b = M := cdel_none h0
      have h2 : cdel (((i, j), u) :: M) a b = M := by rw [← h1]; simp [cdel, e]
      have h3 : cget (((i, j), u) :: M) a b = some u := h.get.2 (by rw [e]; simp)
      rw [h2, h3]; rfl
    · have h2 : cdel (((i, j), u) :: M) a b = ((i, j), u) :: cdel M a b := by
        unfold cdel
        rw [List.filter_cons_of_pos]
        simpa using e
      have h3 : cget (((i, j), u) :: M) a b = cget M a b := by
        by_cases e1 : i = a
        · subst e1
          have : j ≠ b := fun e2 => e (by rw [e2])
          simp [cget, rowOf, sget, this]
        · simp [cget, rowOf, e1]
      rw [h2, h3, List.length_cons, List.length_cons, ← ih hp.2]
      omega
theorem SrtC.length_put {M : Cls β} (h : SrtC M) (a b : Int) (v : β) : (cput M a b v).length = if (cget M a b).isSome then M.length else M.length + 1 := by
  have := h.length_del a b
  rw [cput, length_ins]
  split <;> simp_all <;> omega
theorem row_length (M : Cls β) (a : Int) : (rowOf M a).length ≤ M.length := List.length_filterMap_le _ _
theorem col_length (M : Cls β) (b : Int) : (colOf M b).length ≤ M.length := List.length_filterMap_le _ _
/-- All cells, row by row. -/
theorem SrtC.flat {M : Cls β} (h : SrtC M) {ks : List Int} (hk : ks.Pairwise (· < ·)) (hm : ∀ a, a ∈ ks ↔ rowOf M a ≠ []) : ks.flatMap (fun a => (rowOf M a).map (fun x => ((a, x.1), x.2))) = M := by
  refine SrtC.ext ?_ h ?_
  · unfold SrtC
    rw [List.pairwise_flatMap]
    refine ⟨fun a ha => List.pairwise_map.2 ((h.row a).imp (fun {x y} hxy => .inr ⟨rfl, hxy⟩)), hk.imp (fun {a b} hab x hx y hy => ?_)⟩
    obtain ⟨x', _, rfl⟩ := List.mem_map.1 hx
    obtain ⟨y', _, rfl⟩ := List.mem_map.1 hy
    exact .inl hab
  · rintro ⟨⟨i, j⟩, v⟩
    rw [List.mem_flatMap]
    constructor
    · rintro ⟨a, _, hx⟩
      obtain ⟨x', hx', e⟩ := List.mem_map.1 hx
      have := mem_rowOf.1 hx'
      simp at e
      obtain ⟨⟨rfl, rfl⟩, rfl⟩ := e
      exact this
    · intro hM
      have hr : (j, v) ∈ rowOf M i := mem_rowOf.2 hM
      exact ⟨i, (hm i).2 (List.ne_nil_of_mem hr), List.mem_map.2 ⟨_, hr, rfl⟩⟩
end
end Go.Proofs.YtfgkaookgfghoaaGreat
