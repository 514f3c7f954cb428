/-
  A table of two numbers in memory; New, Len, Get, Set, Del.
-/
import Derived.Test.YtjmaeiphjjjdoaaGrL
import Derived.Deep.DeepCutAuto
namespace Go.Proofs.Ytjmaeiphjjjdoaa
open Go.RowKit Go.Maps
set_option linter.unusedVariables false
set_option linter.unusedSimpArgs false

/-- A column's marks. -/
def colU {β : Type} (M : Cls β) (b : Int) : List (Int × Unit) := (colOf M b).map (fun x => (x.1, ()))
theorem mem_colU {β : Type} {M : Cls β} {b : Int} {x : Int × Unit} : x ∈ colU M b ↔ ∃ v, (x.1, v) ∈ colOf M b := by
  unfold colU
  rw [List.mem_map]
  constructor
  · rintro ⟨y, hy, rfl⟩
    exact ⟨y.2, hy⟩
  · rintro ⟨v, hv⟩
    exact ⟨_, hv, rfl⟩
theorem srt_colU {β : Type} {M : Cls β} (h : SrtC M) (b : Int) : SrtK (colU M b) := List.pairwise_map.2 ((h.col b).imp (fun {x y} hxy => hxy))
theorem colU_length {β : Type} (M : Cls β) (b : Int) : (colU M b).length ≤ M.length := by unfold colU; rw [List.length_map]; exact col_length M b
theorem colU_put {β : Type} {M : Cls β} (h : SrtC M) (a b : Int) (v : β) : (fun j => if j = b then sput (colU M b) a () else colU M j) = colU (cput M a b v) := by
  funext j
  split
  · rename_i e; subst e
    refine ((srt_colU h j).put _ _).ext (srt_colU (h.put _ _ _) _) ?_
    rintro ⟨i, u⟩
    rw [mem_sput, mem_colU, mem_colU, h.col_put]
    simp only [if_true]
    constructor
    · rintro (h' | ⟨⟨v', h'⟩, hne⟩)
      · cases h'; exact ⟨v, mem_sput.2 (.inl rfl)⟩
      · exact ⟨v', mem_sput.2 (.inr ⟨h', hne⟩)⟩
    · rintro ⟨v', h'⟩
      rcases mem_sput.1 h' with h' | ⟨h', hne⟩
      · simp at h'; exact .inl (by rw [h'.1])
      · exact .inr ⟨⟨v', h'⟩, hne⟩
  · rename_i e
    unfold colU
    rw [h.col_put, if_neg e]
theorem colU_del {β : Type} {M : Cls β} (h : SrtC M) (a b : Int) : (fun j => if j = b then sdel (colU M b) a else colU M j) = colU (cdel M a b) := by
  funext j
  split
  · rename_i e; subst e
    refine ((srt_colU h j).del _).ext (srt_colU (h.del _ _) _) ?_
    rintro ⟨i, u⟩
    rw [mem_sdel, mem_colU, mem_colU, h.col_del]
    simp only [if_true]
    constructor
    · rintro ⟨⟨v', h'⟩, hne⟩
      exact ⟨v', mem_sdel.2 ⟨h', hne⟩⟩
    · rintro ⟨v', h'⟩
      obtain ⟨h', hne⟩ := mem_sdel.1 h'
      exact ⟨⟨v', h'⟩, hne⟩
  · rename_i e
    unfold colU
    rw [h.col_del, if_neg e]
theorem rowOf_put {β : Type} {M : Cls β} (h : SrtC M) (a b : Int) (v : β) : (fun i => if i = a then sput (rowOf M a) b v else rowOf M i) = rowOf (cput M a b v) := by
  funext i; rw [h.row_put]
theorem rowOf_del {β : Type} {M : Cls β} (h : SrtC M) (a b : Int) : (fun i => if i = a then sdel (rowOf M a) b else rowOf M i) = rowOf (cdel M a b) := by
  funext i; rw [h.row_del]

/-- The maps of a table. -/
structure MapsAt {β : Type} (c : Cod β) (B C : Nat) (rm cm : List (Int × Option Nat)) (M : Cls β) (w : World) : Prop where
  row : OutAt c B rm (rowOf M) w
  col : OutAt codU C cm (colU M) w
  off : ∀ k, oblk B rm k → ¬ oblk C cm k
/-- A table in memory: its struct lies in g, all of it in F. -/
def GrAt {β : Type} (c : Cod β) (T : TypeId) (g : Nat) (M : Cls β) (F : FP) (w : World) : Prop :=
  SrtC M ∧ F g ∧ (∀ k, F k → k < w.heap.size) ∧
    ((M = [] ∧ w.heap[g]? = some (.cells #[.map none, .map none, .int .i64 0] T (0, 0))) ∨
     ∃ B C rm cm, w.heap[g]? = some (.cells #[.map (some B), .map (some C), .int .i64 M.length] T (0, 0)) ∧ MapsAt c B C rm cm M w ∧ (∀ k, oblk B rm k → F k) ∧ (∀ k, oblk C cm k → F k))
section
variable {β : Type} {c : Cod β} {T : TypeId} {g : Nat} {M : Cls β} {F : FP} {w : World}
theorem GrAt.keep {w' : World} (h : GrAt c T g M F w) (hg : Grow w w') (hb : ∀ k, F k → w'.heap[k]? = w.heap[k]?) : GrAt c T g M F w' := by
  obtain ⟨h1, h2, h3, h4⟩ := h
  refine ⟨h1, h2, fun k hk => Nat.lt_of_lt_of_le (h3 k hk) hg.size, ?_⟩
  rcases h4 with ⟨e, hh⟩ | ⟨B, C, rm, cm, hh, hM, hF1, hF2⟩
  · exact .inl ⟨e, (hb g h2).trans hh⟩
  · exact .inr ⟨B, C, rm, cm, (hb g h2).trans hh, ⟨hM.row.block (fun k hk => hb k (hF1 k hk)), hM.col.block (fun k hk => hb k (hF2 k hk)), hM.off⟩, hF1, hF2⟩
/-- As many rows as cells, at most. -/
theorem outer_length {B : Nat} {rm : List (Int × Option Nat)} (h : OutAt c B rm (rowOf M) w) (hs : SrtC M) : rm.length ≤ M.length := by
  have hk : (rm.map (·.1)).Pairwise (· < ·) := List.pairwise_map.2 h.map.srt
  have e := hs.flat hk h.keys
  have h1 : M.length = ((rm.map (·.1)).map (fun a => (rowOf M a).length)).sum := by
    conv => lhs; rw [← e]
    rw [List.length_flatMap]
    simp
  have h2 : ∀ l : List Int, (∀ a ∈ l, rowOf M a ≠ []) → l.length ≤ (l.map (fun a => (rowOf M a).length)).sum := by
    intro l
    induction l with
    | nil => simp
    | cons a l ih =>
      intro hl
      have := List.length_pos_iff.2 (hl a (by simp))
      have := ih (fun b hb => hl b (List.mem_cons_of_mem _ hb))
      simp
      omega
  have := h2 (rm.map (·.1)) (fun a ha => (h.keys a).1 ha)
  rw [h1]
  simpa using this
theorem nodup_le : ∀ {ks l : List Int}, ks.Nodup → (∀ x ∈ ks, x ∈ l) → ks.length ≤ l.length
  | [], l, _, _ => Nat.zero_le _
  | k :: ks, l, hn, hs => by
    have hk := List.nodup_cons.1 hn
    have := nodup_le (l := l.erase k) hk.2 (fun x hx => (List.mem_erase_of_ne (fun e => hk.1 (by rw [← e]; exact hx))).2 (hs x (List.mem_cons_of_mem _ hx)))
    rw [List.length_erase_of_mem (hs k (by simp))] at this
    have := List.length_pos_of_mem (hs k (by simp))
    simp
    omega
/-- .. and as many columns. -/
theorem cols_length {C : Nat} {cm : List (Int × Option Nat)} (h : OutAt codU C cm (colU M) w) : cm.length ≤ M.length := by
  have hk : (cm.map (·.1)).Nodup := List.pairwise_map.2 (h.map.srt.imp (fun {a b} hab => by omega))
  have := nodup_le (l := M.map (fun x => x.1.2)) hk (fun b hb => by
    obtain ⟨x, hx⟩ := List.exists_mem_of_ne_nil _ ((h.keys b).1 hb)
    obtain ⟨v, hv⟩ := mem_colU.1 hx
    exact List.mem_map.2 ⟨_, mem_colOf.1 hv, rfl⟩)
  simpa using this
end

theorem grid_New_I (w : World) : Calls Try.prog 32 #[] w fun e w' => e = .returned (.pointer (some ⟨w.heap.size, 0, none⟩)) ∧ w' = w.alloc (.cells #[.map none, .map none, .int .i64 0] 80) := by
  go_enter Try.func32, Try.ntmps32
  go_wp2
  go_ret
  exact ⟨rfl, rfl⟩
theorem GrAt.new_I (w : World) : GrAt codI 80 w.heap.size [] (fun k => k = w.heap.size) (w.alloc (.cells #[.map none, .map none, .int .i64 0] 80)) :=
  ⟨List.Pairwise.nil, rfl, fun k hk => by subst hk; simp, .inl ⟨rfl, World.alloc_heap_new w _⟩⟩
theorem GrAt.size_I {g : Nat} {M : Cls Int} {F : FP} {w : World} (h : GrAt codI 80 g M F w) : w.cell? ⟨g, 2, none⟩ = some (.int .i64 M.length) := by
  obtain ⟨_, _, _, (⟨rfl, hh⟩ | ⟨B, C, rm, cm, hh, _⟩)⟩ := h <;> rw [World.cell?, hh] <;> rfl
set_option maxRecDepth 100000 in
set_option maxHeartbeats 2000000 in
theorem grid_Get_I {g : Nat} {M : Cls Int} {F : FP} {w : World} (h : GrAt codI 80 g M F w) {a b : Int} (ha : (Lit.int .i64 a).wf = true) (hb : (Lit.int .i64 b).wf = true) :
    Calls Try.prog 58 #[.pointer (some ⟨g, 0, none⟩), .int .i64 a, .int .i64 b] w fun e w' => e = .returned (.tuple #[codI.enc ((cget M a b).getD (0 : Int)), .bool (cget M a b).isSome]) ∧ w' = w := by
  have hu1 : Try.prog.underlying 77 = some (.map 3 87) := Try.underlying77
  have hu2 : Try.prog.underlying 87 = some (.map 3 3) := Try.underlying87
  have hz1 : ∀ w, (zeroValue 87).run Try.prog w = .ok (codM.enc none) w := fun w => Try.zeroValue87 w
  have hz2 : ∀ w, (zeroValue 3).run Try.prog w = .ok (codI.enc (0 : Int)) w := fun w => Try.zeroValue3 w
  have key : ∃ mv mi, w.cell? ⟨g, 0, none⟩ = some (.map mv) ∧ (Instr.lookup 77 (.map mv) (.int .i64 a) false).run Try.prog w = .ok (.map mi) w ∧
      (Instr.lookup 87 (.map mi) (.int .i64 b) true).run Try.prog w = .ok (.tuple #[codI.enc ((cget M a b).getD (0 : Int)), .bool (cget M a b).isSome]) w := by
    obtain ⟨_, _, _, (⟨rfl, hh⟩ | ⟨B, C, rm, cm, hh, hM, _⟩)⟩ := h
    · refine ⟨none, none, by rw [World.cell?, hh]; rfl, nil_look hu1 (hz1 w) ha false, ?_⟩
      exact nil_look hu2 (hz2 w) hb true
    · have hl := hM.row.map.look (z0 := none) hu1 (hz1 w) ha
      cases hs : sget rm a with
      | none =>
        rw [hs] at hl
        refine ⟨some B, none, by rw [World.cell?, hh]; rfl, hl, ?_⟩
        have hr := hM.row.isNil hs
        have : cget M a b = none := by rw [cget, hr]; rfl
        rw [this]
        exact nil_look hu2 (hz2 w) hb true
      | some x =>
        obtain ⟨b', rfl, _, _, h3⟩ := hM.row.at_ a x hs
        rw [hs] at hl
        exact ⟨some B, some b', by rw [World.cell?, hh]; rfl, hl, h3.look_ok hu2 (hz2 w) hb⟩
  obtain ⟨mv, mi, hc, h1, h2⟩ := key
  obtain ⟨r, hr⟩ : ∃ r, r = codI.enc ((cget M a b).getD (0 : Int)) := ⟨_, rfl⟩
  obtain ⟨q, hq⟩ : ∃ q, q = (cget M a b).isSome := ⟨_, rfl⟩
  rw [← hr, ← hq] at h2
  rw [← hr, ← hq]
  have H1 := Lib.hid h1
  have H2 := Lib.hid h2
  clear h h1 h2 hu1 hu2 hz1 hz2 ha hb hr hq
  go_enter Try.func58, Try.ntmps58
  have tok1 : True := trivial
  go_wp2_with (first
    | (at_lookup; have _t := tok1; refine wpl_look rfl _ _ _ _ rfl rfl rfl H1.out ?_; clear tok1)
    | (at_lookup; refine wpl_look rfl _ _ _ _ rfl rfl rfl H2.out ?_)
    | fail)
  exact bodyPost_ret (v := .tuple #[r, .bool q]) (by simp [results, Try.results58, go_sem] <;> rfl) rfl ⟨rfl, rfl⟩
theorem grid_Get_nil_I (w : World) (a b : Int) : Calls Try.prog 58 #[.pointer none, .int .i64 a, .int .i64 b] w fun e w' => e = .returned (.tuple #[codI.enc (0 : Int), .bool false]) ∧ w' = w := by
  go_enter Try.func58, Try.ntmps58
  go_wp2
  exact bodyPost_ret (v := .tuple #[.int .i64 0, .bool false]) (by simp [results, Try.results58, go_sem] <;> rfl) rfl ⟨rfl, rfl⟩
theorem grid_Set_nil_I (w : World) (a b : Int) (v : Value) : Calls Try.prog 50 #[.pointer none, .int .i64 a, .int .i64 b, v] w fun e w' => e = .returned (.tuple #[]) ∧ w' = w := by
  go_enter Try.func50, Try.ntmps50
  go_wp2
  refine bodyPost_ret (results_none rfl _ _ _) rfl ?_
  exact ⟨rfl, rfl⟩

end Go.Proofs.Ytjmaeiphjjjdoaa
