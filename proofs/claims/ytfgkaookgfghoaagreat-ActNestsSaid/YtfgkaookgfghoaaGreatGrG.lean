/-
  A table of two numbers in memory; New, Len, Get, Set, Del.
-/
import Derived.Test.YtfgkaookgfghoaaGreatGrL
import Derived.Deep.DeepCutAuto
namespace Go.Proofs.YtfgkaookgfghoaaGreat
open Go.RowKit Go.Maps
set_option linter.unusedVariables false
set_option linter.unusedSimpArgs false

/-- A column's marks. -/
def colU {β : Type} (M : Cls β) (b : Int) : List (Int × Unit) := (colOf M b).map (fun x => (x.1, ()))
theorem mem_colU {β : Type} {M : Cls β} {b : Int} {x : Int × Unit} : x ∈ colU M b ↔ ∃ v, (x.1, v) ∈ colOf M b := by
  unfold colU
  rw [List.mem_map]
  constructor
  · rintro ⟨y, hy, rfl⟩
    exact ⟨y.2, hy⟩
  · rintro ⟨v, hv⟩
    exact ⟨_, hv, rfl⟩
theorem srt_colU {β : Type} {M : Cls β} (h : SrtC M) (b : Int) : SrtK (colU M b) := List.pairwise_map.2 ((h.col b).imp (fun {x y} hxy => hxy))
theorem colU_length {β : Type} (M : Cls β) (b : Int) : (colU M b).length ≤ M.length := by unfold colU; rw [List.length_map]; exact col_length M b
theorem colU_put {β : Type} {M : Cls β} (h : SrtC M) (a b : Int) (v : β) : (fun j => if j = b then sput (colU M b) a () else colU M j) = colU (cput M a b v) := by
  funext j
  split
  · rename_i e; subst e
    refine ((srt_colU h j).put _ _).ext (srt_colU (h.put _ _ _) _) ?_
    rintro ⟨i, u⟩
    rw [mem_sput, mem_colU, mem_colU, h.col_put]
    simp only [if_true]
    constructor
    · rintro (h' | ⟨⟨v', h'⟩, hne⟩)
      · cases h'; exact ⟨v, mem_sput.2 (.inl rfl)⟩
      · exact ⟨v', mem_sput.2 (.inr ⟨h', hne⟩)⟩
    · rintro ⟨v', h'⟩
      rcases mem_sput.1 h' with h' | ⟨h', hne⟩
      · simp at h'; exact .inl (by rw [h'.1])
      · exact .inr ⟨⟨v', h'⟩, hne⟩
  · rename_i e
    unfold colU
    rw [h.col_put, if_neg e]
theorem colU_del {β : Type} {M : Cls β} (h : SrtC M) (a b : Int) : (fun j => if j = b then sdel (colU M b) a else colU M j) = colU (cdel M a b) := by
  funext j
  split
  · rename_i e; subst e
    refine ((srt_colU h j).del _).ext (srt_colU (h.del _ _) _) ?_
    rintro ⟨i, u⟩
    rw [mem_sdel, mem_colU, mem_colU, h.col_del]
    simp only [if_true]
    constructor
    · rintro ⟨⟨v', h'⟩, hne⟩
      exact ⟨v', mem_sdel.2 ⟨h', hne⟩⟩
    · rintro ⟨v', h'⟩
      obtain ⟨h', hne⟩ := mem_sdel.1 h'
      exact ⟨⟨v', h'⟩, hne⟩
  · rename_i e
    unfold colU
    rw [h.col_del, if_neg e]
theorem rowOf_put {β : Type} {M : Cls β} (h : SrtC M) (a b : Int) (v : β) : (fun i => if i = a then sput (rowOf M a) b v else rowOf M i) = rowOf (cput M a b v) := by
  funext i; rw [h.row_put]
theorem rowOf_del {β : Type} {M : Cls β} (h : SrtC M) (a b : Int) : (fun i => if i = a then sdel (rowOf M a) b else rowOf M i) = rowOf (cdel M a b) := by
  funext i; rw [h.row_del]

/-- The maps of a table. -/
structure MapsAt {β : Type} (c : Cod β) (B C : Nat) (rm cm : List (Int × Option Nat)) (M : Cls β) (w : World) : Prop where
  row : OutAt c B rm (rowOf M) w
  col : OutAt codU C cm (colU M) w
  off : ∀ k, oblk B rm k → ¬ oblk C cm k
/-- A table in memory: its struct lies in g, all of it in F. -/
def GrAt {β : Type} (c : Cod β) (T : TypeId) (g : Nat) (M : Cls β) (F : FP) (w : World) : Prop :=
  SrtC M ∧ F g ∧ (∀ k, F k → k < w.heap.size) ∧
    ((M = [] ∧ w.heap[g]? = some (.cells #[.map none, .map none, .int .i64 0] T (0, 0))) ∨
     ∃ B C rm cm, w.heap[g]? = some (.cells #[.map (some B), .map (some C), .int .i64 M.length] T (0, 0)) ∧ MapsAt c B C rm cm M w ∧ (∀ k, oblk B rm k → F k) ∧ (∀ k, oblk C cm k → F k))
section
variable {β : Type} {c : Cod β} {T : TypeId} {g : Nat} {M : Cls β} {F : FP} {w : World}
theorem GrAt.keep {w' : World} (h : GrAt c T g M F w) (hg : Grow w w') (hb : ∀ k, F k → w'.heap[k]? = w.heap[k]?) : GrAt c T g M F w' := by
  obtain ⟨h1, h2, h3, h4⟩ := h
  refine ⟨h1, h2, fun k hk => Nat.lt_of_lt_of_le (h3 k hk) hg.size, ?_⟩
  rcases h4 with ⟨e, hh⟩ | ⟨B, C, rm, cm, hh, hM, hF1, hF2⟩
  · exact .inl ⟨e, (hb g h2).trans hh⟩
  · exact .inr ⟨B, C, rm, cm, (hb g h2).trans hh, ⟨hM.row.block (fun k hk => hb k (hF1 k hk)), hM.col.block (fun k hk => hb k (hF2 k hk)), hM.off⟩, hF1, hF2⟩
/-- As many rows as cells, at most. -/
theorem outer_length {B : Nat} {rm : List (Int × Option Nat)} (h : OutAt c B rm (rowOf M) w) (hs : SrtC M) : rm.length ≤ M.length := by
  have hk : (rm.map (·.1)).Pairwise (· < ·) := List.pairwise_map.2 h.map.srt
  have e := hs.flat hk h.keys
  have h1 : M.length = ((rm.map (·.1)).map (fun a => (rowOf M a).length)).sum := by
    conv => lhs; rw [← e]
    rw [List.length_flatMap]
    simp
  have h2 : ∀ l : List Int, (∀ a ∈ l, rowOf M a ≠ []) → l.length ≤ (l.map (fun a => (rowOf M a).length)).sum := by
    intro l
    induction l with
    | nil => simp
    | cons a l ih =>
      intro hl
      have := List.length_pos_iff.2 (hl a (by simp))
      have := ih (fun b hb => hl b (List.mem_cons_of_mem _ hb))
      simp
      omega
  have := h2 (rm.map (·.1)) (fun a ha => (h.keys a).1 ha)
  rw [h1]
  simpa using this
theorem nodup_le : ∀ {ks l : List Int}, ks.Nodup → (∀ x ∈ ks, x ∈ l) → ks.length ≤ l.length
  | [], l, _, _ => Nat.zero_le _
  | k :: ks, l, hn, hs => by
    have hk := List.nodup_cons.1 hn
    have := nodup_le (l := l.erase k) hk.2 (fun x hx => (List.mem_erase_of_ne (fun e => hk.1 (by rw [← e]; exact hx))).2 (hs x (List.mem_cons_of_mem _ hx)))
    rw [List.length_erase_of_mem (hs k (by simp))] at this
    have := List.length_pos_of_mem (hs k (by simp))
    simp
    omega
/-- .. and as many columns. -/
theorem cols_length {C : Nat} {cm : List (Int × Option Nat)} (h : OutAt codU C cm (colU M) w) : cm.length ≤ M.length := by
  have hk : (cm.map (·.1)).Nodup := List.pairwise_map.2 (h.map.srt.imp (fun {a b} hab => by omega))
  have := nodup_le (l := M.map (fun x => x.1.2)) hk (fun b hb => by
    obtain ⟨x, hx⟩ := List.exists_mem_of_ne_nil _ ((h.keys b).1 hb)
    obtain ⟨v, hv⟩ := mem_colU.1 hx
    exact List.mem_map.2 ⟨_, mem_colOf.1 hv, rfl⟩)
  simpa using this
end

theorem grid_New_I (w : World) : Calls Tryz.prog 24 #[] w fun e w' => e = .returned (.pointer (some ⟨w.heap.size, 0, none⟩)) ∧ w' = w.alloc (.cells #[.map none, .map none, .int .i64 0] 146) := by
  go_enter Tryz.func24, Tryz.ntmps24
  go_wp2
  go_ret
  exact ⟨rfl, rfl⟩
theorem GrAt.new_I (w : World) : GrAt codI 146 w.heap.size [] (fun k => k = w.heap.size) (w.alloc (.cells #[.map none, .map none, .int .i64 0] 146)) :=
  ⟨List.Pairwise.nil, rfl, fun k hk => by subst hk; simp, .inl ⟨rfl, World.alloc_heap_new w _⟩⟩
theorem GrAt.size_I {g : Nat} {M : Cls Int} {F : FP} {w : World} (h : GrAt codI 146 g M F w) : w.cell? ⟨g, 2, none⟩ = some (.int .i64 M.length) := by
  obtain ⟨_, _, _, (⟨rfl, hh⟩ | ⟨B, C, rm, cm, hh, _⟩)⟩ := h <;> rw [World.cell?, hh] <;> rfl
end Go.Proofs.YtfgkaookgfghoaaGreat
