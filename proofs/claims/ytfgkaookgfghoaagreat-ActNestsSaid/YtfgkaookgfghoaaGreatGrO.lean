/-
  A map of maps: what it holds; the operations on maps, at a walk's steps.
-/
import Derived.Test.YtfgkaookgfghoaaGreatGrR
import Derived.Test.YtfgkaookgfghoaaGreatIter
import Derived.OwnWalkIn
import Derived.Maps.OwnIn
import Derived.Maps.OwnOps
namespace Go.Proofs.YtfgkaookgfghoaaGreat
open Go.RowKit Go.Maps
set_option linter.unusedVariables false
set_option linter.unusedSimpArgs false

section
variable {P : Program} {w : World} {ops : Array Oper} {rest : List Oper} {o : Oper} {a : Act} {Q : Exit → Act → World → Prop}
theorem wpl_look (hg : o.guard = none) (m x : Operand) (t : TypeId) (c : Bool) (hop : o.op = Op.lookup t m x c) {mv kv r : Value} (hm : a.eval m = mv) (hx : a.eval x = kv) (hr : (Instr.lookup t mv kv c).run P w = .ok r w)
    (h : wpList P ops Q rest (a.put o.dst r) w) : wpList P ops Q (o :: rest) a w := by
  refine wpList_plain hg fun K hK => ?_
  unfold Oper.wp
  simp [execOp, hop, hm, hx, hr, Result.andThen]
  exact hK _ _ h
theorem wpl_upd {w' : World} (hg : o.guard = none) (m x v : Operand) (t : TypeId) (hop : o.op = Op.mapUpdate t m x v) {mv kv vv : Value} (hm : a.eval m = mv) (hx : a.eval x = kv) (hv : a.eval v = vv) (hr : (Instr.mapUpdate t mv kv vv).run P w = .ok () w')
    (h : wpList P ops Q rest (a.put o.dst undef) w') : wpList P ops Q (o :: rest) a w := by
  refine wpList_plain hg fun K hK => ?_
  unfold Oper.wp
  simp [execOp, hop, hm, hx, hv, hr, Result.andThen]
  exact hK _ _ h
theorem wpl_drop {w' : World} (hg : o.guard = none) (m x : Operand) (t k : TypeId) (hop : o.op = Op.call { callee := Callee.builtin Builtin.delete, args := #[m, x], argTypes := #[t, k] }) {mv kv : Value} (hm : a.eval m = mv) (hx : a.eval x = kv) (hr : (Builtin.delete_ #[t, k] o.type #[mv, kv]).run P w = .ok (.tuple #[]) w')
    (h : wpList P ops Q rest (a.put o.dst (.tuple #[])) w') : wpList P ops Q (o :: rest) a w := by
  refine wpList_plain hg fun K hK => ?_
  unfold Oper.wp
  simp [execOp, hop, resolve, invoke, builtin, hm, hx, hr, Result.andThen]
  exact hK _ _ h
theorem wpl_len (hg : o.guard = none) (m : Operand) (t : TypeId) (hop : o.op = Op.call { callee := Callee.builtin Builtin.len, args := #[m], argTypes := #[t] }) {mv r : Value} (hm : a.eval m = mv) (hr : (Builtin.len_ #[t] o.type #[mv]).run P w = .ok r w)
    (h : wpList P ops Q rest (a.put o.dst r) w) : wpList P ops Q (o :: rest) a w := by
  refine wpList_plain hg fun K hK => ?_
  unfold Oper.wp
  simp [execOp, hop, resolve, invoke, builtin, hm, hr, Result.andThen]
  exact hK _ _ h
theorem wplIn_look {F : Fence} {nF : Nat} (hg : o.guard = none) (m x : Operand) (t : TypeId) (c : Bool) (hop : o.op = Op.lookup t m x c) {mv kv r : Value} (hm : a.eval m = mv) (hx : a.eval x = kv) (hr : (Instr.lookup t mv kv c).run P w = .ok r w)
    (h : wpListIn F nF P ops Q rest (a.put o.dst r) w) : wpListIn F nF P ops Q (o :: rest) a w := by
  refine wpListIn_plain hg fun K hK => ?_
  unfold Oper.wpIn
  refine ⟨by simp [Oper.about, hop], ?_⟩
  rw [Oper.semAt_plain F _ _ (by rw [hop]; intro c hc'; cases hc')]
  simp [execOp, hop, hm, hx, hr, Result.andThen]
  exact hK _ _ h
end

/-- B is a map whose elements are maps: at a the one that holds rows a, where that is not empty. -/
structure OutAt {β : Type} (c : Cod β) (B : Nat) (rm : List (Int × Option Nat)) (rows : Int → List (Int × β)) (w : World) : Prop where
  map : MapAt codM B rm w
  has : ∀ a, rows a ≠ [] → ∃ b, sget rm a = some (some b)
  at_ : ∀ a x, sget rm a = some x → ∃ b, x = some b ∧ rows a ≠ [] ∧ b ≠ B ∧ MapAt c b (rows a) w
  inj : ∀ a a' b, sget rm a = some (some b) → sget rm a' = some (some b) → a = a'

/-- Its blocks. -/
def oblk (B : Nat) (rm : List (Int × Option Nat)) : FP := fun k => k = B ∨ ∃ a, sget rm a = some (some k)

section
variable {β : Type} {c : Cod β} {B : Nat} {rm : List (Int × Option Nat)} {rows : Int → List (Int × β)} {w : World}
theorem OutAt.block {w' : World} (h : OutAt c B rm rows w) (hb : ∀ k, oblk B rm k → w'.heap[k]? = w.heap[k]?) : OutAt c B rm rows w' := by
  refine ⟨h.map.block (hb B (.inl rfl)), h.has, fun a x hx => ?_, h.inj⟩
  obtain ⟨b, rfl, h1, h2, h3⟩ := h.at_ a x hx
  exact ⟨b, rfl, h1, h2, h3.block (hb b (.inr ⟨a, hx⟩))⟩
theorem OutAt.lt (h : OutAt c B rm rows w) {k : Nat} (hk : oblk B rm k) : k < w.heap.size := by
  rcases hk with rfl | ⟨a, ha⟩
  · exact h.map.lt
  · obtain ⟨b, e, _, _, h3⟩ := h.at_ a _ ha
    cases e
    exact h3.lt
theorem OutAt.isMap (h : OutAt c B rm rows w) {k : Nat} (hk : oblk B rm k) : ∃ es clock, w.heap[k]? = some (.map es clock) := by
  rcases hk with rfl | ⟨a, ha⟩
  · exact h.map.isMap
  · obtain ⟨b, e, _, _, h3⟩ := h.at_ a _ ha
    cases e
    exact h3.isMap
theorem OutAt.made (c : Cod β) (w : World) : OutAt c w.heap.size [] (fun _ => []) (w.alloc (.map #[] 0)) :=
  ⟨MapAt.made _ _, fun a h => absurd rfl h, fun a x h => by simp [sget] at h, fun a a' b h => by simp [sget] at h⟩
theorem OutAt.congr {rows' : Int → List (Int × β)} (h : OutAt c B rm rows w) (e : ∀ a, rows' a = rows a) : OutAt c B rm rows' w := by
  have : rows' = rows := funext e
  rw [this]; exact h
/-- What the lookup of a row finds. -/
theorem OutAt.isNil (h : OutAt c B rm rows w) {a : Int} (e : sget rm a = none) : rows a = [] := by
  by_cases hr : rows a = []
  · exact hr
  · obtain ⟨b, hb⟩ := h.has a hr
    rw [e] at hb; cases hb
theorem OutAt.keys (h : OutAt c B rm rows w) (a : Int) : a ∈ rm.map (·.1) ↔ rows a ≠ [] := by
  constructor
  · intro hm
    obtain ⟨⟨a', x⟩, hx, rfl⟩ := List.mem_map.1 hm
    obtain ⟨b, _, h1, _⟩ := h.at_ _ x (h.map.srt.get.2 hx)
    exact h1
  · intro hr
    obtain ⟨b, hb⟩ := h.has a hr
    exact List.mem_map.2 ⟨_, sget_mem hb, rfl⟩
/-- A row is written: it was there. -/
theorem OutAt.upd {w' : World} {a : Int} {b : Nat} {r' : List (Int × β)} (h : OutAt c B rm rows w) (hb : sget rm a = some (some b)) (hr : r' ≠ []) (hm : MapAt c b r' w') (hg : w.grownBy w' (some b)) : OutAt c B rm (fun i => if i = a then r' else rows i) w' := by
  have hB : b ≠ B := by obtain ⟨b', e, _, h2, _⟩ := h.at_ a _ hb; cases e; exact h2
  refine ⟨h.map.kept hg (by simp; exact fun e => hB e.symm), fun i hi => ?_, fun i x hx => ?_, h.inj⟩
  · by_cases e : i = a
    · subst e; exact ⟨b, hb⟩
    · simp only [e, if_false] at hi; exact h.has i hi
  · by_cases e : i = a
    · subst e
      rw [hb] at hx; cases hx
      exact ⟨b, rfl, by simpa using hr, hB, by simpa using hm⟩
    · obtain ⟨b', rfl, h1, h2, h3⟩ := h.at_ i x hx
      refine ⟨b', rfl, by simpa [e] using h1, h2, ?_⟩
      simp only [e, if_false]
      refine h3.kept hg ?_
      simp only [ne_eq, Option.some.injEq]
      rintro rfl
      exact e (h.inj i a _ hx hb)
/-- A row is laid: it was not there. -/
theorem OutAt.lay {w' : World} {a : Int} {b : Nat} {r' : List (Int × β)} (h : OutAt c B rm rows w) (hb : sget rm a = none) (hm' : MapAt codM B (sput rm a (some b)) w') (hbB : b ≠ B) (hfresh : w.heap.size ≤ b) (hr : r' ≠ []) (hm : MapAt c b r' w') (hk : ∀ k, k < w.heap.size → k ≠ B → w'.heap[k]? = w.heap[k]?) :
    OutAt c B (sput rm a (some b)) (fun i => if i = a then r' else rows i) w' := by
  have hnew : ∀ i, sget rm i ≠ some (some b) := fun i hi => by
    have := h.lt (.inr ⟨i, hi⟩); omega
  refine ⟨hm', fun i hi => ?_, fun i x hx => ?_, fun i j b' hi hj => ?_⟩
  · rw [h.map.srt.get_put]
    by_cases e : i = a
    · subst e; exact ⟨b, by simp⟩
    · simp only [e, if_false] at hi ⊢; exact h.has i hi
  · rw [h.map.srt.get_put] at hx
    by_cases e : i = a
    · subst e
      simp at hx; subst hx
      exact ⟨b, rfl, by simpa using hr, hbB, by simpa using hm⟩
    · simp only [e, if_false] at hx ⊢
      obtain ⟨b', rfl, h1, h2, h3⟩ := h.at_ i x hx
      exact ⟨b', rfl, h1, h2, h3.block (hk b' h3.lt h2)⟩
  · rw [h.map.srt.get_put] at hi hj
    by_cases e : i = a <;> by_cases e' : j = a
    · rw [e, e']
    · simp only [e, e', if_true, if_false, Option.some.injEq] at hi hj
      subst hi
      exact absurd hj (hnew j)
    · simp only [e, e', if_true, if_false, Option.some.injEq] at hi hj
      subst hj
      exact absurd hi (hnew i)
    · simp only [e, e', if_false] at hi hj
      exact h.inj i j b' hi hj
/-- A row is gone. -/
theorem OutAt.gone {w' : World} {a : Int} {b : Nat} (h : OutAt c B rm rows w) (hb : sget rm a = some (some b)) (hm' : MapAt codM B (sdel rm a) w') (hk : ∀ k, k < w.heap.size → k ≠ B → k ≠ b → w'.heap[k]? = w.heap[k]?) :
    OutAt c B (sdel rm a) (fun i => if i = a then [] else rows i) w' := by
  refine ⟨hm', fun i hi => ?_, fun i x hx => ?_, fun i j b' hi hj => ?_⟩
  · rw [h.map.srt.get_del]
    by_cases e : i = a
    · subst e; simp at hi
    · simp only [e, if_false] at hi ⊢; exact h.has i hi
  · rw [h.map.srt.get_del] at hx
    by_cases e : i = a
    · subst e; simp at hx
    · simp only [e, if_false] at hx ⊢
      obtain ⟨b', rfl, h1, h2, h3⟩ := h.at_ i x hx
      refine ⟨b', rfl, h1, h2, h3.block (hk b' h3.lt h2 ?_)⟩
      rintro rfl
      exact e (h.inj i a _ hx hb)
  · rw [h.map.srt.get_del] at hi hj
    by_cases e : i = a
    · simp [e] at hi
    · by_cases e' : j = a
      · simp [e'] at hj
      · simp only [e, e', if_false] at hi hj
        exact h.inj i j b' hi hj
end
end Go.Proofs.YtfgkaookgfghoaaGreat
