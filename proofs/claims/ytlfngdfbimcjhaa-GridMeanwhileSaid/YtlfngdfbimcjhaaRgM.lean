/-
  The reference's table: where a cell stands; no program.
-/
import Derived.Test.YtlfngdfbimcjhaaGrM
namespace Go.Proofs.Ytlfngdfbimcjhaa
set_option linter.unusedVariables false
set_option linter.unusedSimpArgs false

/-- k is where the cell stands, or would. -/
structure Plc (M : Cls Int) (p : Int × Int) (k : Nat) : Prop where
  le : k ≤ M.length
  lo : ∀ x ∈ M.take k, lexlt x.1 p
  hi : ∀ h : k < M.length, ¬ lexlt (M[k]).1 p
/-- Is it there? -/
def isAt (M : Cls Int) (p : Int × Int) (k : Nat) : Bool := match M[k]? with
  | some x => decide (x.1.1 = p.1) && decide (x.1.2 = p.2)
  | none => false
theorem isAt_in {M : Cls Int} {p : Int × Int} {k : Nat} (h : k < M.length) : isAt M p k = (decide ((M[k]).1.1 = p.1) && decide ((M[k]).1.2 = p.2)) := by simp [isAt, h]
theorem isAt_out {M : Cls Int} {p : Int × Int} {k : Nat} (h : ¬ k < M.length) : isAt M p k = false := by simp [isAt, h]
theorem isAt_true {M : Cls Int} {p : Int × Int} {k : Nat} (h : isAt M p k = true) : ∃ hk : k < M.length, (M[k]).1 = p := by
  by_cases hk : k < M.length
  · rw [isAt_in hk] at h
    simp at h
    exact ⟨hk, Prod.ext h.1 h.2⟩
  · rw [isAt_out hk] at h; cases h
theorem isAt_false {M : Cls Int} {p : Int × Int} {k : Nat} (h : isAt M p k = false) (hk : k < M.length) : (M[k]).1 ≠ p := fun e => by
  rw [isAt_in hk, e] at h
  simp at h
theorem lexlt_or {a b : Int × Int} (h : ¬ lexlt a b) (hn : a ≠ b) : lexlt b a := by
  obtain ⟨a1, a2⟩ := a
  obtain ⟨b1, b2⟩ := b
  simp only [ne_eq, Prod.mk.injEq] at hn
  unfold lexlt at *
  simp only at *
  omega
section
variable {M : Cls Int} {a b v : Int} {k : Nat}
theorem take_srt (h : SrtC M) (k : Nat) : SrtC (M.take k) := List.Pairwise.sublist (List.take_sublist k M) h
theorem drop_srt (h : SrtC M) (k : Nat) : SrtC (M.drop k) := List.Pairwise.sublist (List.drop_sublist k M) h
theorem Plc.above (hs : SrtC M) (hk : k < M.length) : ∀ x ∈ M.drop (k + 1), lexlt (M[k]).1 x.1 := by
  have h : SrtC (M.drop k) := drop_srt hs k
  rw [List.drop_eq_getElem_cons hk] at h
  exact (List.pairwise_cons.1 h).1
theorem Plc.rest (hs : SrtC M) (hp : Plc M (a, b) k) (hn : isAt M (a, b) k = false) : ∀ x ∈ M.drop k, lexlt (a, b) x.1 := by
  by_cases hk : k < M.length
  · have h0 := lexlt_or (hp.hi hk) (isAt_false hn hk)
    rw [List.drop_eq_getElem_cons hk]
    intro x hx
    rcases List.mem_cons.1 hx with rfl | hx
    · exact h0
    · exact lexlt_tr _ _ _ h0 (Plc.above hs hk x hx)
  · rw [List.drop_of_length_le (by omega)]
    intro x hx; cases hx
theorem lexlt_ne {p q : Int × Int} (h : lexlt p q) : p ≠ q := fun e => lexlt_ir _ (by rw [e] at h; exact h)
theorem mem_split (k : Nat) {x : (Int × Int) × Int} : x ∈ M ↔ x ∈ M.take k ∨ x ∈ M.drop k := by
  rw [← List.mem_append, List.take_append_drop]
theorem laid_srt {A B : Cls Int} (hA : SrtC A) (hB : SrtC B) (h1 : ∀ x ∈ A, lexlt x.1 (a, b)) (h2 : ∀ x ∈ B, lexlt (a, b) x.1) : SrtC (A ++ ((a, b), v) :: B) := by
  refine List.pairwise_append.2 ⟨hA, List.pairwise_cons.2 ⟨h2, hB⟩, fun x hx y hy => ?_⟩
  rcases List.mem_cons.1 hy with rfl | hy
  · exact h1 x hx
  · exact lexlt_tr _ _ _ (h1 x hx) (h2 y hy)
theorem laid_srt0 {A B : Cls Int} (hA : SrtC A) (hB : SrtC B) (h1 : ∀ x ∈ A, lexlt x.1 (a, b)) (h2 : ∀ x ∈ B, lexlt (a, b) x.1) : SrtC (A ++ B) :=
  List.pairwise_append.2 ⟨hA, hB, fun x hx y hy => lexlt_tr _ _ _ (h1 x hx) (h2 y hy)⟩
theorem Plc.put_new (hs : SrtC M) (hp : Plc M (a, b) k) (hn : isAt M (a, b) k = false) : cput M a b v = M.take k ++ ((a, b), v) :: M.drop k := by
  have hr := Plc.rest hs hp hn
  refine SrtC.ext (hs.put a b v) (laid_srt (take_srt hs k) (drop_srt hs k) hp.lo hr) (fun x => ?_)
  rw [mem_cput, List.mem_append, List.mem_cons, mem_split k]
  constructor
  · rintro (h | ⟨h | h, -⟩)
    · exact .inr (.inl h)
    · exact .inl h
    · exact .inr (.inr h)
  · rintro (h | h | h)
    · exact .inr ⟨.inl h, lexlt_ne (hp.lo x h)⟩
    · exact .inl h
    · exact .inr ⟨.inr h, (lexlt_ne (hr x h)).symm⟩
theorem Plc.put_old (hs : SrtC M) (hp : Plc M (a, b) k) (hk : k < M.length) (he : (M[k]).1 = (a, b)) : cput M a b v = M.take k ++ ((a, b), v) :: M.drop (k + 1) := by
  have hr := Plc.above hs hk
  rw [he] at hr
  refine SrtC.ext (hs.put a b v) (laid_srt (take_srt hs k) (drop_srt hs (k + 1)) hp.lo hr) (fun x => ?_)
  rw [mem_cput, List.mem_append, List.mem_cons, mem_split k, List.drop_eq_getElem_cons hk, List.mem_cons]
  constructor
  · rintro (h | ⟨h | h | h, hne⟩)
    · exact .inr (.inl h)
    · exact .inl h
    · rw [h] at hne; exact absurd he hne
    · exact .inr (.inr h)
  · rintro (h | h | h)
    · exact .inr ⟨.inl h, lexlt_ne (hp.lo x h)⟩
    · exact .inl h
    · exact .inr ⟨.inr (.inr h), (lexlt_ne (hr x h)).symm⟩
theorem Plc.del_old (hs : SrtC M) (hp : Plc M (a, b) k) (hk : k < M.length) (he : (M[k]).1 = (a, b)) : cdel M a b = M.take k ++ M.drop (k + 1) := by
  have hr := Plc.above hs hk
  rw [he] at hr
  refine SrtC.ext (hs.del a b) (laid_srt0 (take_srt hs k) (drop_srt hs (k + 1)) hp.lo hr) (fun x => ?_)
  rw [mem_cdel, List.mem_append, mem_split k, List.drop_eq_getElem_cons hk, List.mem_cons]
  constructor
  · rintro ⟨h | h | h, hne⟩
    · exact .inl h
    · rw [h] at hne; exact absurd he hne
    · exact .inr h
  · rintro (h | h)
    · exact ⟨.inl h, lexlt_ne (hp.lo x h)⟩
    · exact ⟨.inr (.inr h), (lexlt_ne (hr x h)).symm⟩
theorem Plc.away (hs : SrtC M) (hp : Plc M (a, b) k) (hn : isAt M (a, b) k = false) : ∀ v, ((a, b), v) ∉ M := by
  intro v hm
  rcases (mem_split k).1 hm with h | h
  · exact lexlt_ir _ (hp.lo _ h)
  · exact lexlt_ir _ (Plc.rest hs hp hn _ h)
theorem Plc.get (hs : SrtC M) (hp : Plc M (a, b) k) : cget M a b = if isAt M (a, b) k = true then some ((M[k]?.getD ((0, 0), 0)).2) else none := by
  by_cases h : isAt M (a, b) k = true
  · rw [if_pos h]
    obtain ⟨hk, he⟩ := isAt_true h
    rw [List.getElem?_eq_getElem hk]
    refine hs.get.2 ?_
    have : M[k] ∈ M := List.getElem_mem _
    rw [← he]; exact this
  · rw [if_neg h]
    have hn : isAt M (a, b) k = false := by simpa using h
    cases e : cget M a b with
    | none => rfl
    | some v => exact absurd (hs.get.1 e) (Plc.away hs hp hn v)
theorem Plc.isSome (hs : SrtC M) (hp : Plc M (a, b) k) : (cget M a b).isSome = isAt M (a, b) k := by
  rw [Plc.get hs hp]
  by_cases h : isAt M (a, b) k = true
  · rw [if_pos h, h]; rfl
  · rw [if_neg h]; simp at h; rw [h]; rfl
theorem Plc.del_none (hs : SrtC M) (hp : Plc M (a, b) k) (hn : isAt M (a, b) k = false) : cdel M a b = M := by
  refine SrtC.ext (hs.del a b) hs (fun x => ?_)
  rw [mem_cdel]
  constructor
  · exact fun h => h.1
  · intro h
    refine ⟨h, fun e => ?_⟩
    obtain ⟨p, u⟩ := x
    simp only at e
    rw [e] at h
    exact Plc.away hs hp hn u h
end
end Go.Proofs.Ytlfngdfbimcjhaa
