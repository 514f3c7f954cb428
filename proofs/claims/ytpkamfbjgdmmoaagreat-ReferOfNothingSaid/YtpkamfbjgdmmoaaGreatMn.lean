/-
  What else is wanted.
-/
import Derived.ChangeArms
import Derived.Test.YtpkamfbjgdmmoaaGreatMsm

section
namespace Go.Proofs.YtpkamfbjgdmmoaaGreat
open Go.ChangeShapes Go.WideShapes Go.ChangeAt Go.RowKit

section
variable {H : Type} {enc : TypeId × Value → H} {P : Program} {w : World} {base : Nat} {spare : Nat → Bool} {held : Bool}

def leafFits : Leaf → Value → Prop
  | some k, v => ∃ n, v = .int k n ∧ (Lit.int k n).wf = true
  | .none, v => ∃ b, v = .bool b

def Fits : List Leaf → List Value → Prop
  | [], [] => True
  | l :: ls, v :: vs => leafFits l v ∧ Fits ls vs
  | _, _ => False

theorem fits_append : ∀ {a b : List Leaf} {x y : List Value}, Fits a x → Fits b y → Fits (a ++ b) (x ++ y)
  | [], _, [], _, _, h => h
  | _ :: _, _, _ :: _, _, h, k => ⟨h.1, fits_append h.2 k⟩
  | [], _, _ :: _, _, h, _ => h.elim
  | _ :: _, _, [], _, h, _ => h.elim

theorem fits_length : ∀ {a : List Leaf} {x : List Value}, Fits a x → x.length = a.length
  | [], [], _ => rfl
  | _ :: _, _ :: _, h => by simp [fits_length h.2]
  | [], _ :: _, h => h.elim
  | _ :: _, [], h => h.elim

theorem fits_int {k : IntKind} {ls : List Leaf} {cs : List Value} (h : Fits (some k :: ls) cs) : ∃ n vs, cs = .int k n :: vs ∧ (Lit.int k n).wf = true ∧ Fits ls vs := by
  match cs, h with
  | v :: vs, h => obtain ⟨⟨n, rfl, hn⟩, hr⟩ := h; exact ⟨n, vs, rfl, hn, hr⟩
theorem fits_bool {ls : List Leaf} {cs : List Value} (h : Fits (.none :: ls) cs) : ∃ b vs, cs = .bool b :: vs ∧ Fits ls vs := by
  match cs, h with
  | v :: vs, h => obtain ⟨⟨b, rfl⟩, hr⟩ := h; exact ⟨b, vs, rfl, hr⟩
theorem fits_nil {cs : List Value} (h : Fits [] cs) : cs = [] := by
  match cs, h with
  | [], _ => rfl

theorem fields_fit {of : TypeId → Option (List Leaf)} {cs : List Value} : ∀ (fs : List Field) (off : Nat) (ls : List Leaf), fieldLeaves P of off fs = some ls →
    (∀ f ∈ fs, ∀ a, of f.type = some a → Fits a ((cs.drop f.offset).take (P.cellsOf f.type))) → ∃ pre rest, cs.drop off = pre ++ rest ∧ Fits ls pre
  | [], off, ls, h, _ => by
    simp only [fieldLeaves, Option.some.injEq] at h; subst h
    exact ⟨[], _, rfl, trivial⟩
  | f :: fs, off, ls, h, hf => by
    simp only [fieldLeaves] at h
    split at h
    · rename_i a b ha hb
      split at h
      · rename_i hc
        simp only [Option.some.injEq] at h; subst h
        have k := hf f (List.mem_cons_self ..) a ha
        obtain ⟨pre, rest, hd, hfit⟩ := fields_fit fs _ b hb (fun g hg => hf g (List.mem_cons_of_mem _ hg))
        rw [hc.1] at k
        refine ⟨(cs.drop off).take (P.cellsOf f.type) ++ pre, rest, ?_, fits_append k hfit⟩
        rw [List.append_assoc, ← hd, ← List.drop_drop, List.take_append_drop]
      · cases h
    · cases h

theorem repeat_length (a : List Leaf) : ∀ n, (repeatLeaves a n).length = n * a.length
  | 0 => by simp [repeatLeaves]
  | n + 1 => by rw [repeatLeaves, List.length_append, repeat_length a n, Nat.succ_mul]; omega

theorem repeat_fit {a : List Leaf} {c : Nat} : ∀ (m : Nat) (cs : List Value), (∀ i, i < m → Fits a ((cs.drop (i * c)).take c)) → ∃ pre rest, cs = pre ++ rest ∧ Fits (repeatLeaves a m) pre
  | 0, cs, _ => ⟨[], cs, rfl, trivial⟩
  | m + 1, cs, h => by
    have h0 := h 0 (by omega)
    simp only [Nat.zero_mul, List.drop_zero] at h0
    obtain ⟨pre, rest, hd, hf⟩ := repeat_fit (a := a) (c := c) m (cs.drop c) (fun i hi => by
      have := h (i + 1) (by omega)
      rw [Nat.succ_mul] at this
      rwa [List.drop_drop, Nat.add_comm c])
    exact ⟨cs.take c ++ pre, rest, by rw [List.append_assoc, ← hd, List.take_append_drop], fits_append h0 hf⟩

theorem flat_fits : ∀ (n : Nat) (t : TypeId) (ls : List Leaf), leaves P n t = some ls → ∀ (fuel : Nat) (cs : List Value) (x : DataW H × List MemPlace), DataW.trod enc P w base spare held fuel t cs = some x → Fits ls cs
  | 0, t, ls, h, _, _, _, _ => by simp [leaves] at h
  | n + 1, t, ls, h, fuel, cs, x, hx => by
    simp only [leaves] at h
    split at h
    · rename_i hu
      simp only [Option.some.injEq] at h; subst h
      cases fuel with
      | zero => simp [DataW.trod] at hx
      | succ m =>
        unfold DataW.trod at hx; rw [hu] at hx
        split at hx <;> simp_all [Fits, leafFits]
    · rename_i k hu
      simp only [Option.some.injEq] at h; subst h
      cases fuel with
      | zero => simp [DataW.trod] at hx
      | succ m =>
        unfold DataW.trod at hx; rw [hu] at hx
        split at hx <;> simp_all [Fits, leafFits]
    · rename_i fs hu
      split at h
      · rename_i l hl
        split at h
        · rename_i hc
          simp only [Option.some.injEq] at h; subst h
          obtain ⟨xs, m, rfl, hxx, hlen, hxl, hf⟩ := DataW.trod_struct hu hx
          obtain ⟨pre, rest, hd, hfit⟩ := fields_fit (P := P) (cs := cs) fs.toList 0 _ hl (fun f hmem a ha => by
            obtain ⟨i, hi, hie⟩ := List.getElem_of_mem hmem
            have hi' : i < xs.length := by rw [hxl]; simpa using hi
            have e1 : fs[i]? = some f := by rw [← Array.getElem?_toList, List.getElem?_eq_getElem hi, hie]
            have e2 := hf i f e1
            rw [List.getElem?_eq_getElem hi'] at e2
            exact flat_fits n f.type a ha m _ _ e2)
          have e := fits_length hfit
          rw [List.drop_zero] at hd
          have : rest = [] := by
            have h1 := congrArg List.length hd
            rw [List.length_append] at h1
            have : rest.length = 0 := by omega
            simpa using this
          subst this
          rw [hd, List.append_nil]; exact hfit
        · cases h
      · cases h
    · rename_i m e hu
      split at h
      · rename_i a ha
        split at h
        · rename_i hc
          simp only [Option.some.injEq] at h; subst h
          obtain ⟨xs, k, rfl, _, hlen, hxl, hf⟩ := DataW.trod_array hu hx
          obtain ⟨pre, rest, hd, hfit⟩ := repeat_fit (a := a) (c := P.cellsOf e) m cs (fun i hi => by
            have hi' : i < xs.length := by omega
            have e2 := hf i hi
            rw [List.getElem?_eq_getElem hi'] at e2
            exact flat_fits n e a ha k _ _ e2)
          have e3 := fits_length hfit
          rw [repeat_length] at e3
          have : rest = [] := by
            have h1 := congrArg List.length hd
            rw [List.length_append, e3, hc.1, hc.2] at h1
            have : rest.length = 0 := by omega
            simpa using this
          subst this
          rw [hd, List.append_nil]; exact hfit
        · cases h
      · cases h
    · cases h

/-- A struct by value comes as its cells, each within its kind. -/
theorem open_flat {r : Reach} {b0 : Nat} {t : TypeId} {fs : Array Field} {ls : List Leaf} {v : Value} {d : DataW H} {p : List MemPlace} (n : Nat) (hs : P.underlying t = some (.struct fs)) (hl : leaves P n t = some ls)
    (hv : Value.okWide P w r b0 t v) (h : DataW.Trod enc P w base spare held t v d p) : ∃ cs : List Value, v = .agg cs.toArray ∧ Fits ls cs := by
  obtain ⟨cs, rfl, _⟩ := okWide_struct hs hv
  obtain ⟨fuel, hf⟩ := h
  exact ⟨cs.toList, rfl, flat_fits n t ls hl fuel _ _ (by simpa [Value.cells] using hf)⟩

end
end Go.Proofs.YtpkamfbjgdmmoaaGreat
end
