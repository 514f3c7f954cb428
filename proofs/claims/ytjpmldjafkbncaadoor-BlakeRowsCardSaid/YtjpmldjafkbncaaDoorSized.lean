/-
  How long what comes in can be: a row's own sizes. Over any program.
-/
import Derived.Test.YtjpmldjafkbncaaDoorBytes
namespace Go.Proofs.YtjpmldjafkbncaaDoor
open Go.ChangeShapes Go.WideShapes Go.ChangeAt Go.RowKit Go.Deep
set_option linter.unusedVariables false
set_option linter.unusedSimpArgs false

section
variable {H : Type} {enc : TypeId × Value → H} {P : Program} {w : World} {base : Nat} {spare : Nat → Bool} {held : Bool}

theorem weight_at : ∀ {ts : List TypeId} {ds : List (DataW H)}, (DataW.weightsEach P ts ds).all (fun x => decide (x ≤ reachBytes)) = true → ∀ {j : Nat} {t : TypeId} {d : DataW H}, ts[j]? = some t → ds[j]? = some d → ∀ x ∈ d.weights P t, x ≤ reachBytes
  | [], _, _, j, t, d, ht, _ => by simp at ht
  | _ :: _, [], _, j, t, d, _, hd => by simp at hd
  | t0 :: ts, d0 :: ds, h, j, t, d, ht, hd => by
    simp only [DataW.weightsEach, List.all_append, Bool.and_eq_true] at h
    cases j with
    | zero =>
      simp only [List.getElem?_cons_zero, Option.some.injEq] at ht hd
      subst ht; subst hd
      intro x hx
      exact of_decide_eq_true (List.all_eq_true.1 h.1 x hx)
    | succ j => exact weight_at h.2 (j := j) (by simpa using ht) (by simpa using hd)
theorem weight_all {e : TypeId} {x : Nat} {d : DataW H} (hx : x ∈ d.weights P e) : ∀ {l : List (DataW H)}, d ∈ l → x ∈ DataW.weightsAll P e l
  | d0 :: l, h => by
    simp only [DataW.weightsAll, List.mem_append]
    rcases List.mem_cons.1 h with rfl | h
    · exact .inl hx
    · exact .inr (weight_all hx h)
theorem weight_len {t e : TypeId} {elems sp : List (DataW H)} (ht : P.underlying t = some (.slice e)) (h : ∀ x ∈ (DataW.slice elems sp).weights P t, x ≤ reachBytes) : (elems.length + sp.length) * P.bytesOf e ≤ reachBytes ∧ ∀ d ∈ elems, ∀ x ∈ d.weights P e, x ≤ reachBytes := by
  simp only [DataW.weights, ht, List.mem_cons, List.mem_append] at h
  exact ⟨h _ (.inl rfl), fun d hd x hx => h x (.inr (.inl (weight_all hx hd)))⟩

/-- A row of bytes that comes in is no longer than memory. -/
theorem sized_B {t e : TypeId} {v : Value} {d : DataW H} {p : List MemPlace} {n : Nat} (ht : P.underlying t = some (.slice e)) (hc : P.cellsOf e = 1) (hb : P.bytesOf e = 1)
    (h : DataW.trod enc P w base spare held n t [v] = some (d, p)) (hw : ∀ x ∈ d.weights P t, x ≤ reachBytes) {ao : Option Addr} {len cap : Nat} (hv : v = .slice ao len cap) : len ≤ reachBytes := by
  rcases open_slice1 ht hc h with ⟨hcs, -⟩ | ⟨a, len', cap', m, n', V, D, Pl, hcs, hb', hl, hm, hmm, hx, -⟩
  · have : v = .slice none 0 0 := by simpa using hcs
    rw [this] at hv
    injection hv with h1 h2 h3
    omega
  · have hvv : v = .slice (some a) len' cap' := by simpa using hcs
    rw [hvv] at hv
    injection hv with h1 h2 h3
    subst h2
    simp only [Prod.mk.injEq] at hx
    rw [hx.1] at hw
    have := (weight_len ht hw).1
    rw [hb, Nat.mul_one] at this
    simp at this
    omega
theorem open_RdBz {t e : TypeId} {v : Value} {d : DataW H} {p : List MemPlace} {r : Reach} {b0 : Nat} (ht : P.underlying t = some (.slice e)) (he : P.underlying e = some (.int .u8)) (hc : P.cellsOf e = 1) (hb : P.bytesOf e = 1)
    (hv : Value.okWide P w r b0 t v) (h : DataW.Trod enc P w base (fun _ => true) held t v d p) (hw : ∀ x ∈ d.weights P t, x ≤ reachBytes) : ∃ l : List Nat, RdB w v l ∧ (∀ b ∈ l, b < 256) ∧ l.length ≤ reachBytes := by
  obtain ⟨l, h1, h2, -⟩ := open_RdB ht he hc hv h
  obtain ⟨fuel, hf⟩ := h
  rw [cells_slice ht hv] at hf
  obtain ⟨ao, cap, hvv⟩ := h1.lenOf
  exact ⟨l, h1, h2, sized_B ht hc hb hf hw hvv⟩
theorem open_RdBBz {t e q : TypeId} {v : Value} {d : DataW H} {p : List MemPlace} {r : Reach} {b0 : Nat} (ht : P.underlying t = some (.slice e)) (he : P.underlying e = some (.slice q)) (hq : P.underlying q = some (.int .u8)) (ce : P.cellsOf e = 1) (cq : P.cellsOf q = 1) (bq : P.bytesOf q = 1)
    (hv : Value.okWide P w r b0 t v) (h : DataW.Trod enc P w base (fun _ => true) held t v d p) (hw : ∀ x ∈ d.weights P t, x ≤ reachBytes) : ∃ l : List (List Nat), RdBB w v l ∧ (∀ x ∈ l, (∀ b ∈ x, b < 256) ∧ x.length ≤ reachBytes) ∧ l.length ≤ maxLen := by
  obtain ⟨fuel, hf⟩ := h
  rw [cells_slice ht hv] at hf
  rcases open_slice1 ht ce hf with ⟨hcs, -⟩ | ⟨a, len, cap, m, n, V, D, Pl, hcs, hb, hl, hm, hmm, hd, hx⟩
  · have : v = .slice none 0 0 := by simpa using hcs
    subst this
    exact ⟨[], .inl ⟨rfl, rfl⟩, by simp, by simp⟩
  · simp only [if_true] at hmm
    have hmm' := hmm.symm
    subst hmm'
    have hvv : v = .slice (some a) len cap := by simpa using hcs
    subst hvv
    simp only [Prod.mk.injEq] at hd
    rw [hd.1] at hw
    have hwe := (weight_len ht hw).2
    have each : ∀ i, i < cap → ∃ l : List Nat, RdB w (V i) l ∧ (∀ b ∈ l, b < 256) ∧ (i < len → l.length ≤ reachBytes) := by
      intro i hi
      have hsz : ∀ {ao : Option Addr} {n' c' : Nat}, V i = .slice ao n' c' → i < len → n' ≤ reachBytes := fun {ao n' c'} hV hil =>
        sized_B he cq bq (hx i hi).2 (hwe (D i) (List.mem_map.2 ⟨i, by simpa using hil, rfl⟩)) hV
      rcases open_RdI0 he hq cq ⟨_, (hx i hi).2⟩ with h0 | ⟨a', len', cap', zs, h0, hl', hm', hz, hcell, hwz⟩
      · exact ⟨[], .inl ⟨h0, rfl⟩, by simp, by simp⟩
      · obtain ⟨l, h1, h2, h3⟩ := RdB_of hl' hm' hz hcell hwz
        exact ⟨l, by rw [h0]; exact h2, h3, fun hil => by rw [h1]; exact hsz h0 hil⟩
    obtain ⟨L, hL⟩ := choose_lt each
    have hlen : ((List.range len).map L).length = len := by simp
    refine ⟨(List.range len).map L, .inr ⟨a, cap, by rw [hlen], by rw [hlen]; exact hl, fun i hi => ?_⟩, fun x hx => ?_, by rw [hlen]; omega⟩
    · rw [hlen] at hi
      refine ⟨V i, (hx i (by omega)).1, ?_⟩
      have : ((List.range len).map L).getD i [] = L i := by simp [hi]
      rw [this]; exact (hL i (by omega)).1
    · simp only [List.mem_map, List.mem_range] at hx
      obtain ⟨i, hi, rfl⟩ := hx
      exact ⟨(hL i (by omega)).2.1, (hL i (by omega)).2.2 hi⟩
end
end Go.Proofs.YtjpmldjafkbncaaDoor
