/-
  Slices that come in, with what their reading's bulk says of their lengths.
-/
import Derived.Test.YtioleibcekobeaaRows
import Derived.Test.YtioleibcekobeaaOpen
namespace Go.Proofs.Ytioleibcekobeaa
open Go.ChangeShapes Go.WideShapes Go.ChangeAt Go.RowKit Go.Deep
set_option linter.unusedVariables false

section
variable {H : Type} {enc : TypeId × Value → H} {P : Program} {w : World} {base : Nat} {held : Bool}

theorem bulk_one (d : DataW H) : 1 ≤ Rows.uptoBulk d := by
  cases d with
  | lit l => cases l <;> simp [Rows.uptoBulk]
  | nil => simp [Rows.uptoBulk]
  | ptr d => simp [Rows.uptoBulk]
  | slice elems spare => simp [Rows.uptoBulk]
  | agg parts => simp [Rows.uptoBulk]
  | iface t d => simp [Rows.uptoBulk]
  | map entries => simp [Rows.uptoBulk]
  | held h => simp [Rows.uptoBulk]
theorem bulk_length (l : List (DataW H)) : l.length ≤ Rows.uptoBulkAll l := by
  induction l with
  | nil => simp [Rows.uptoBulkAll]
  | cons x r ih => have := bulk_one x; simp only [Rows.uptoBulkAll, List.length_cons]; omega
theorem bulk_part {d : DataW H} {l : List (DataW H)} (h : d ∈ l) : Rows.uptoBulk d ≤ Rows.uptoBulkAll l := by
  induction l with
  | nil => cases h
  | cons x r ih =>
    simp only [Rows.uptoBulkAll]
    cases List.mem_cons.1 h with
    | inl e => subst e; omega
    | inr e => have := ih e; omega
theorem bulk_bound {l : List (DataW H)} (hk : Rows.uptoSmall H l = true) : Rows.uptoBulkAll l ≤ 1048576 := of_decide_eq_true hk

theorem open_RdI0u {t e : TypeId} {k : IntKind} {v : Value} {x : DataW H × List MemPlace} {fuel : Nat} (ht : P.underlying t = some (.slice e)) (he : P.underlying e = some (.int k)) (hc : P.cellsOf e = 1)
    (hf : DataW.trod enc P w base (fun _ => true) held fuel t [v] = some x) : (v = .slice none 0 0) ∨
      ∃ (a : Addr) (len cap : Nat) (zs : List Int), v = .slice (some a) len cap ∧ len ≤ cap ∧ cap ≤ maxLen ∧ zs.length = cap ∧ (∀ i, i < cap → w.cell? (a.add i) = some (.int k (zs.getD i 0))) ∧ (∀ n ∈ zs, (Lit.int k n).wf = true) ∧ 1 + len ≤ Rows.uptoBulk x.1 := by
  rcases open_ints ht he hc hf with ⟨hcs, -⟩ | ⟨a, len, cap, zs, hcs, hb, hl, hm, hz, hx, hcell, hwz⟩
  · exact .inl (by simpa using hcs)
  · simp only [if_true] at hz
    refine .inr ⟨a, len, cap, zs, by simpa using hcs, hl, hm, hz, fun i hi => hcell i (by omega), hwz, ?_⟩
    rw [hx]
    have h1 := bulk_length (H := H) (lits k (zs.take len))
    simp only [Rows.uptoBulk]
    have h2 : (lits (H := H) k (zs.take len)).length = len := by simp [lits]; omega
    omega

/-- How much rows are: each with one more. -/
def longL : List (List Nat) → Nat
  | [] => 0
  | p :: l => 1 + p.length + longL l

theorem bulk_rows (L : Nat → List Nat) (D : Nat → DataW H) (len : Nat) (h : ∀ i, i < len → 1 + (L i).length ≤ Rows.uptoBulk (D i)) : longL ((List.range len).map L) ≤ Rows.uptoBulkAll ((List.range len).map D) := by
  have key : ∀ (l : List Nat), (∀ i ∈ l, i < len) → longL (l.map L) ≤ Rows.uptoBulkAll (l.map D) := by
    intro l
    induction l with
    | nil => intro _; simp [longL]
    | cons i l ih =>
      intro hl
      have h1 := h i (hl i (by simp))
      have h2 := ih (fun j hj => hl j (by simp [hj]))
      simp only [List.map_cons, longL, Rows.uptoBulkAll]; omega
  exact key _ (fun i hi => by simpa using hi)

theorem open_RdBBu {t e q : TypeId} {v : Value} {d : DataW H} {p : List MemPlace} {r : Reach} {b0 : Nat} (ht : P.underlying t = some (.slice e)) (he : P.underlying e = some (.slice q)) (hq : P.underlying q = some (.int .u8)) (ce : P.cellsOf e = 1) (cq : P.cellsOf q = 1)
    (hv : Value.okWide P w r b0 t v) (h : DataW.Trod enc P w base (fun _ => true) held t v d p) : ∃ l : List (List Nat), RdBB w v l ∧ (∀ x ∈ l, ∀ b ∈ x, b < 256) ∧ longL l ≤ Rows.uptoBulk d := by
  obtain ⟨fuel, hf⟩ := h
  rw [cells_slice ht hv] at hf
  rcases open_slice1 ht ce hf with ⟨hcs, -⟩ | ⟨a, len, cap, m, n, V, D, Pl, hcs, hb, hl, hm, hmm, hdx, hx⟩
  · have : v = .slice none 0 0 := by simpa using hcs
    subst this
    exact ⟨[], .inl ⟨rfl, rfl⟩, by simp, by simp [longL]⟩
  · simp only [if_true] at hmm
    have hmm' := hmm.symm
    subst hmm'
    have hvv : v = .slice (some a) len cap := by simpa using hcs
    subst hvv
    have each : ∀ i, i < cap → ∃ l : List Nat, RdB w (V i) l ∧ (∀ b ∈ l, b < 256) ∧ 1 + l.length ≤ Rows.uptoBulk (D i) := by
      intro i hi
      rcases open_RdI0u he hq cq (hx i hi).2 with h0 | ⟨a', len', cap', zs, h0, hl', hm', hz, hcell, hw, hbk⟩
      · exact ⟨[], .inl ⟨h0, rfl⟩, by simp, by have := bulk_one (D i); simpa using this⟩
      · obtain ⟨l, h1, h2, h3⟩ := RdB_of hl' hm' hz hcell hw
        exact ⟨l, by rw [h0]; exact h2, h3, by rw [h1]; exact hbk⟩
    obtain ⟨L, hL⟩ := choose_lt each
    have hlen : ((List.range len).map L).length = len := by simp
    refine ⟨(List.range len).map L, .inr ⟨a, cap, by rw [hlen], by rw [hlen]; exact hl, fun i hi => ?_⟩, fun x hx => ?_, ?_⟩
    · rw [hlen] at hi
      refine ⟨V i, (hx i (by omega)).1, ?_⟩
      have : ((List.range len).map L).getD i [] = L i := by simp [hi]
      rw [this]; exact (hL i (by omega)).1
    · simp only [List.mem_map, List.mem_range] at hx
      obtain ⟨i, hi, rfl⟩ := hx
      exact (hL i (by omega)).2.1
    · have h1 := bulk_rows L D len (fun i hi => (hL i (by omega)).2.2)
      have hd : d = .slice ((List.range len).map D) _ := congrArg Prod.fst hdx
      rw [hd]
      simp only [Rows.uptoBulk]; omega
end
end Go.Proofs.Ytioleibcekobeaa
