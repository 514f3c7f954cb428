/-
  Maps by numbers, as sorted rows of pairs: looked up, written, cleared, counted.
-/
import Derived.Test.YtfgkaookgfghoaaGreatGrM
import Derived.Test.YtfgkaookgfghoaaGreatChecked
import Derived.Maps.OwnSet
import Derived.Lib.Hide
import Derived.Lib.SlKeysI
import Derived.Below
namespace Go.Proofs.YtfgkaookgfghoaaGreat
open Go.RowKit Go.Maps
set_option linter.unusedVariables false
set_option linter.unusedSimpArgs false

/-- How a map's elements are read. -/
structure Cod (β : Type) where
  enc : β → Value
  R : Value → Option (DataW Unit × List MemPlace)
  dat : β → DataW Unit
  hR : ∀ x, R (enc x) = some (dat x, [])
  inv : ∀ v z, R v = some z → ∃ x, v = enc x ∧ z = (dat x, [])
  inj : ∀ x y, dat x = dat y → x = y

def codI : Cod Int where
  enc := .int .i64
  R := fun v => match v with | .int .i64 a => some (.lit (.int .i64 a), []) | _ => none
  dat := fun a => .lit (.int .i64 a)
  hR := fun _ => rfl
  inv := fun v z h => by
    split at h
    · cases h; exact ⟨_, rfl, rfl⟩
    · cases h
  inj := fun x y h => by simpa using h
def codU : Cod Unit where
  enc := fun _ => .agg #[]
  R := unitElem
  dat := fun _ => .agg []
  hR := fun _ => unitElem_mk
  inv := fun v z h => by
    obtain ⟨rfl, h2⟩ := unitElem_inv h
    exact ⟨(), rfl, h2⟩
  inj := fun _ _ _ => rfl
def codS : Cod ByteArray where
  enc := .string
  R := fun v => match v with | .string s => some (.lit (.string s.data.toList), []) | _ => none
  dat := fun s => .lit (.string s.data.toList)
  hR := fun _ => rfl
  inv := fun v z h => by
    split at h
    · cases h; exact ⟨_, rfl, rfl⟩
    · cases h
  inj := fun x y h => by
    have h' : x.data.toList = y.data.toList := by simpa using h
    cases x; cases y
    simpa [Array.toList_inj] using h'
def codM : Cod (Option Nat) where
  enc := .map
  R := fun v => match v with | .map none => some (.nil, []) | .map (some b) => some (.lit (.int .i64 b), []) | _ => none
  dat := fun b => match b with | none => .nil | some b => .lit (.int .i64 b)
  hR := fun b => by cases b <;> rfl
  inv := fun v z h => by
    split at h
    · cases h; exact ⟨none, rfl, rfl⟩
    · cases h; exact ⟨some _, rfl, rfl⟩
    · cases h
  inj := fun x y h => by
    cases x <;> cases y <;> simp at h ⊢
    omega

theorem keyedI : Keyed Tryz.prog 3 := int_keyed Tryz.underlying3
theorem keyI {k : Int} (h : (Lit.int .i64 k).wf = true) : keyOf Tryz.prog 3 (.int .i64 k) = some (.int .i64 k) := keyOf_int_mk Tryz.underlying3 h

section
variable {β : Type} {c : Cod β} {b : Nat} {m : List (Int × β)} {w : World}

/-- Block b is a map that holds m. -/
structure MapAt (c : Cod β) (b : Nat) (m : List (Int × β)) (w : World) : Prop where
  srt : SrtK m
  own : ∃ n D, w.ownsMap Tryz.prog 3 c.R b n D ∧ (∀ k, Maps.has D (.int .i64 k) = (sget m k).isSome) ∧ ∀ k v, sget m k = some v → ∀ z, D.atKey (.int .i64 k) z = c.dat v

theorem MapAt.lt (h : MapAt c b m w) : b < w.heap.size := by obtain ⟨n, D, ho, _⟩ := h.own; exact ho.lt
theorem MapAt.kept {w' : World} {row : Option Nat} (h : MapAt c b m w) (hg : w.grownBy w' row) (hne : some b ≠ row) : MapAt c b m w' := by
  obtain ⟨n, D, ho, h1, h2⟩ := h.own
  exact ⟨h.srt, n, D, ho.kept hg hne, h1, h2⟩
theorem MapAt.block {w' : World} (h : MapAt c b m w) (hb : w'.heap[b]? = w.heap[b]?) : MapAt c b m w' := by
  obtain ⟨n, D, ⟨es, clock, hh, F, hs, hD⟩, h1, h2⟩ := h.own
  exact ⟨h.srt, n, D, ⟨es, clock, hb.trans hh, F, hs, hD⟩, h1, h2⟩
/-- How the map's block stands in the heap: it is a map. -/
theorem MapAt.isMap (h : MapAt c b m w) : ∃ es clock, w.heap[b]? = some (.map es clock) := by
  obtain ⟨n, D, ⟨es, clock, hh, _⟩, _⟩ := h.own
  exact ⟨es, clock, hh⟩
theorem MapAt.made (c : Cod β) (w : World) : MapAt c w.heap.size [] (w.alloc (.map #[] 0)) :=
  ⟨List.Pairwise.nil, 0, _, World.ownsMap_made _ _ _ _, fun k => by simp [Maps.has, sget], fun k v h => by simp [sget] at h⟩
/-- The keys, as they lie in the datum. -/
theorem MapAt.keys {n : Nat} {D : DataW Unit} (hs : SrtK m) (ho : w.ownsMap Tryz.prog 3 c.R b n D) (h1 : ∀ k, Maps.has D (.int .i64 k) = (sget m k).isSome) : (m.map (·.1)).Perm (intKeys D) := by
  have hc : CollectedI D (fun _ => false) (m.map (·.1)) := by
    refine ⟨?_, fun x => ?_⟩
    · refine (List.pairwise_map.2 (hs.imp (fun {a b} hab => ?_)))
      omega
    · rw [h1]
      simp only [List.mem_map, and_true]
      constructor
      · rintro ⟨y, hy, rfl⟩
        have : sget m y.1 = some y.2 := hs.get.2 hy
        simp [this]
      · intro h
        obtain ⟨v, hv⟩ := Option.isSome_iff_exists.1 h
        exact ⟨_, sget_mem hv, rfl⟩
  exact hc.perm ho keyedI Tryz.underlying3 (fun _ => rfl)
theorem MapAt.size {n : Nat} {D : DataW Unit} (hs : SrtK m) (ho : w.ownsMap Tryz.prog 3 c.R b n D) (h1 : ∀ k, Maps.has D (.int .i64 k) = (sget m k).isSome) : Maps.size D = m.length := by
  have h := (MapAt.keys hs ho h1).length_eq
  obtain ⟨es, clock, hb, F, hs', rfl⟩ := ho
  simpa [intKeys, Maps.size] using h.symm
theorem MapAt.wf (h : MapAt c b m w) {x : Int × β} (hx : x ∈ m) : (Lit.int .i64 x.1).wf = true := by
  obtain ⟨n, D, ho, h1, _⟩ := h.own
  exact intKeys_wf ho Tryz.underlying3 x.1 ((MapAt.keys h.srt ho h1).mem_iff.1 (List.mem_map_of_mem hx))
/-- What stands at a key. -/
theorem MapAt.atKey (h : MapAt c b m w) {e : TypeId} {z0 : β} {n : Nat} {D : DataW Unit} (h1 : ∀ k, Maps.has D (.int .i64 k) = (sget m k).isSome) (h2 : ∀ k v, sget m k = some v → ∀ z, D.atKey (.int .i64 k) z = c.dat v) (k : Int) : D.atKey (.int .i64 k) (c.dat z0) = c.dat ((sget m k).getD z0) := by
  cases e : sget m k with
  | some v => exact h2 k v e _
  | none =>
    refine atKey_of_not_has ?_ _
    rw [h1, e]; rfl
theorem MapAt.look {t e : TypeId} {z0 : β} (h : MapAt c b m w) (ht : Tryz.prog.underlying t = some (.map 3 e)) (hz : (zeroValue e).run Tryz.prog w = .ok (c.enc z0) w) {k : Int} (hk : (Lit.int .i64 k).wf = true) :
    (Instr.lookup t (.map (some b)) (.int .i64 k) false).run Tryz.prog w = .ok (c.enc ((sget m k).getD z0)) w := by
  obtain ⟨n, D, ho, h1, h2⟩ := h.own
  obtain ⟨v, ps, hr, hv⟩ := ho.lookup keyedI ht hz (c.hR z0) (keyI hk)
  rw [h.atKey (e := e) (n := n) h1 h2] at hv
  obtain ⟨x, rfl, hx⟩ := c.inv _ _ hv
  have := c.inj _ _ (congrArg Prod.fst hx)
  rw [hr, this]
theorem MapAt.look_ok {t e : TypeId} {z0 : β} (h : MapAt c b m w) (ht : Tryz.prog.underlying t = some (.map 3 e)) (hz : (zeroValue e).run Tryz.prog w = .ok (c.enc z0) w) {k : Int} (hk : (Lit.int .i64 k).wf = true) :
    (Instr.lookup t (.map (some b)) (.int .i64 k) true).run Tryz.prog w = .ok (.tuple #[c.enc ((sget m k).getD z0), .bool (sget m k).isSome]) w := by
  obtain ⟨n, D, ho, h1, h2⟩ := h.own
  obtain ⟨v, ps, hr, hv⟩ := ho.look_ok keyedI ht hz (c.hR z0) (keyI hk)
  rw [h.atKey (e := e) (n := n) h1 h2] at hv
  obtain ⟨x, rfl, hx⟩ := c.inv _ _ hv
  have := c.inj _ _ (congrArg Prod.fst hx)
  rw [hr, this, h1]
theorem MapAt.len {t e : TypeId} (h : MapAt c b m w) (ht : Tryz.prog.underlying t = some (.map 3 e)) (ty : TypeId) : (Builtin.len_ #[t] ty #[.map (some b)]).run Tryz.prog w = .ok (.int .i64 m.length) w := by
  obtain ⟨n, D, ho, h1, h2⟩ := h.own
  rw [ho.len ht, MapAt.size h.srt ho h1]
theorem MapAt.drop {t e : TypeId} (h : MapAt c b m w) (ht : Tryz.prog.underlying t = some (.map 3 e)) {k : Int} (hk : (Lit.int .i64 k).wf = true) (ty : TypeId) :
    ∃ w', (Builtin.delete_ #[t, 3] ty #[.map (some b), .int .i64 k]).run Tryz.prog w = .ok (.tuple #[]) w' ∧ MapAt c b (sdel m k) w' ∧ w.grownBy w' (some b) ∧ w'.heap.size = w.heap.size := by
  obtain ⟨n, D, ho, h1, h2⟩ := h.own
  obtain ⟨w', hr, ho', ht'⟩ := ho.drop keyedI ht (keyI hk) ty
  refine ⟨w', hr, ⟨h.srt.del k, n, _, ho', fun j => ?_, fun j v hj z => ?_⟩, ht'.grown, ?_⟩
  · rw [h.srt.get_del]
    by_cases e : j = k
    · subst e; simpa using has_del_same
    · rw [has_del_other (by simp [e]), h1]; simp [e]
  · rw [h.srt.get_del] at hj
    by_cases e : j = k
    · subst e; simp at hj
    · rw [atKey_del_other (by simp [e])]
      simp [e] at hj
      exact h2 j v hj z
  · obtain ⟨es, clock, es', clock', _, rfl⟩ := ht'
    simp [Go.ChangeMaps.setBlock]
theorem MapAt.store {t e : TypeId} (h : MapAt c b m w) (ht : Tryz.prog.underlying t = some (.map 3 e)) (hn : m.length < maxLen) {k : Int} (hk : (Lit.int .i64 k).wf = true) (v : β) :
    ∃ w', (Instr.mapUpdate t (.map (some b)) (.int .i64 k) (c.enc v)).run Tryz.prog w = .ok () w' ∧ MapAt c b (sput m k v) w' ∧ w.grownBy w' (some b) ∧ w'.heap.size = w.heap.size := by
  obtain ⟨n, D, ho, h1, h2⟩ := h.own
  have hsz := MapAt.size h.srt ho h1
  have hmap := ho.isMap
  have ho1 : w.ownsMap Tryz.prog 3 c.R b m.length D := by
    obtain ⟨es, clock, hb, F, hs, rfl⟩ := ho
    refine ⟨es, clock, hb, F, ?_, rfl⟩
    rw [← hsz]
    simp [Maps.size, length_sorted]
  obtain ⟨w', hr, ho', ht'⟩ := ho1.store keyedI ht hn (keyI hk) (c.hR v)
  refine ⟨w', hr, ⟨h.srt.put k v, _, _, ho', fun j => ?_, fun j u hj z => ?_⟩, ht'.grown, ?_⟩
  · rw [h.srt.get_put]
    by_cases e : j = k
    · subst e; simpa using has_put_same hmap (keyedI.key (keyI hk)) _
    · rw [has_put_other (by simp [e]), h1]; simp [e]
  · rw [h.srt.get_put] at hj
    by_cases e : j = k
    · subst e; simp at hj; subst hj
      exact atKey_put_same hmap (keyedI.key (keyI hk)) _ _
    · rw [atKey_put_other (by simp [e])]
      simp [e] at hj
      exact h2 j u hj z
  · obtain ⟨es, clock, es', clock', _, rfl⟩ := ht'
    simp [Go.ChangeMaps.setBlock]
end

/-- A nil map. -/
theorem nil_look {w : World} {t e : TypeId} {z : Value} (ht : Tryz.prog.underlying t = some (.map 3 e)) (hz : (zeroValue e).run Tryz.prog w = .ok z w) {k : Int} (hk : (Lit.int .i64 k).wf = true) (c : Bool) :
    (Instr.lookup t (.map none) (.int .i64 k) c).run Tryz.prog w = .ok (if c then .tuple #[z, .bool false] else z) w := Maps.look_nil c keyedI ht hz (keyI hk)
end Go.Proofs.YtfgkaookgfghoaaGreat
