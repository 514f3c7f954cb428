/-
  Joined texts.
-/
import Derived.Maps.OwnSet
import Derived.Maps.RangeWalk
import Derived.Lib.BytesEntry
import Derived.Lib.Bytealg
import Derived.StillTailTactics
import Derived.OwnWalkIn
import Derived.Maps.OwnIn
import Derived.Maps.OwnOps
import Derived.Shelf.Abstract
import Derived.Shelf.RegionOpen
import Derived.TacticsInMore
import Derived.LoopNIn
import Derived.LoopIn
import Derived.Sort.MapsRangeIn
import Derived.Shelf.SlSortCmp.SmallK
import Derived.Shelf.SlSortCmp.NoneTotal
import Derived.Ground.SlsfProg
import Derived.Shelf.SlGeneric
import Derived.Test.YtcfcfijmfgnpfaaGreatDoorProg
import Derived.Test.YtcfcfijmfgnpfaaGreatDoorMgh

section
namespace Go.Proofs.YtcfcfijmfgnpfaaGreatDoor
open Go.RowKit Go.Maps
set_option linter.unusedVariables false
set_option linter.unusedSimpArgs false

theorem dlit_ne {a b : Dg} (h : a ≠ b) : dlit a ≠ dlit b := fun e => h (dlit_inj e)
theorem dlit_same (a b : Dg) : (dlit a).sameKey (dlit b) = decide (a = b) := by
  by_cases h : a = b
  · subst h
    simp [WideAt.sameKey_self (keyedH.key (keyD a))]
  · simp [h, Maps.sameKey_ne (dlit_ne h)]
/-- No key twice; a key is on the list just where the map has it and it is no longer to come. -/
def CollD {H : Type} (D0 : DataW H) (left : Lit → Bool) (ss : List Dg) : Prop := ss.Nodup ∧ ∀ x, x ∈ ss ↔ (has D0 (dlit x) = true ∧ left (dlit x) = false)
theorem CollD.start {H : Type} (D0 : DataW H) : CollD D0 (has D0) [] := ⟨List.nodup_nil, fun x => by cases has D0 (dlit x) <;> simp⟩
theorem CollD.step {H : Type} {D0 : DataW H} {left : Lit → Bool} {ss : List Dg} (h : CollD D0 left ss) {x : Dg} {y : DataW H} (hlk : left (dlit x) = true) (hat : ∀ zd, D0.atKey (dlit x) zd = y) : CollD D0 (fun z => left z && !z.sameKey (dlit x)) (ss ++ [x]) := by
  have hhas : has D0 (dlit x) = true := has_true_of_atKey hat
  have hnew : x ∉ ss := fun hx => by have := ((h.2 x).1 hx).2; rw [hlk] at this; cases this
  refine ⟨List.nodup_append.2 ⟨h.1, by simp, fun a ha b hb => by simp at hb; subst hb; exact fun e => hnew (e ▸ ha)⟩, fun y => ?_⟩
  by_cases hy : y = x
  · subst hy; simp [hhas, dlit_same]
  · simp [h.2 y, hy, dlit_same]
/-- A map's keys. -/
theorem own_keys {H : Type} {R : Value → Option (DataW H × List MemPlace)} {w : World} {b n : Nat} {D : DataW H} (h : w.ownsMap Tryz.prog 41 R b n D) : ∃ es : List (Dg × DataW H), es.Pairwise (fun p q => p.1 ≠ q.1) ∧ Maps.size D = es.length ∧ ∀ d, has D (dlit d) = true ↔ ∃ v, (d, v) ∈ es := by
  obtain ⟨es, hD, hpw, _⟩ := h.entries keyedH
  obtain ⟨es', hD', hko⟩ := h.keysOf
  obtain rfl : es = es' := by rw [hD] at hD'; simpa using hD'
  subst hD
  have hk : ∀ p ∈ es, ∃ d, p.1 = dlit d := fun p hp => by
    obtain ⟨v, hv⟩ := hko p hp
    obtain ⟨d, -, e⟩ := keyD_inv hv
    exact ⟨d, e⟩
  have main : ∀ es : List (Lit × DataW H), es.Pairwise (fun p q => p.1 ≠ q.1) → (∀ p ∈ es, ∃ d, p.1 = dlit d) → ∃ fs : List (Dg × DataW H), es = fs.map (fun x => (dlit x.1, x.2)) ∧ fs.Pairwise (fun p q => p.1 ≠ q.1) := by
    intro es
    induction es with
    | nil => exact fun _ _ => ⟨[], rfl, List.Pairwise.nil⟩
    | cons p es ih =>
      intro h1 h2
      obtain ⟨fs, e, hf⟩ := ih (List.pairwise_cons.1 h1).2 (fun q hq => h2 q (List.mem_cons_of_mem _ hq))
      obtain ⟨d, hd⟩ := h2 p (by simp)
      refine ⟨(d, p.2) :: fs, by rw [List.map_cons, ← e, ← hd], List.pairwise_cons.2 ⟨fun q hq he => ?_, hf⟩⟩
      have h3 := (List.pairwise_cons.1 h1).1 (dlit q.1, q.2) (by rw [e]; exact List.mem_map_of_mem hq)
      exact h3 (by rw [hd]; exact congrArg dlit he)
  obtain ⟨fs, e, hf⟩ := main es hpw hk
  refine ⟨fs, hf, by rw [e]; simp [Maps.size], fun d => ?_⟩
  rw [has_eq, List.any_eq_true, e]
  constructor
  · rintro ⟨p, hp, hs⟩
    obtain ⟨q, hq, rfl⟩ := List.mem_map.1 hp
    rw [dlit_same] at hs
    have := of_decide_eq_true hs
    exact ⟨q.2, by rw [← this]; exact hq⟩
  · rintro ⟨v, hv⟩
    exact ⟨_, List.mem_map_of_mem hv, by simp [dlit_same]⟩

section
variable {β : Type} {c : Cod β} {b : Nat} {m : List (Dg × β)} {w : World}
theorem SrtD.nodup (h : SrtD m) : (m.map (·.1)).Nodup := List.pairwise_map.2 (h.imp (fun {x y} hlt e => by have h2 : dlt x.1 y.1 := hlt; rw [e] at h2; exact dlt_irr _ h2))
/-- Block b is a map that holds m. -/
structure MapD (c : Cod β) (b : Nat) (m : List (Dg × β)) (w : World) : Prop where
  srt : SrtD m
  own : ∃ n D, w.ownsMap Tryz.prog 41 c.R b n D ∧ (∀ k, Maps.has D (dlit k) = (dget m k).isSome) ∧ ∀ k v, dget m k = some v → ∀ z, D.atKey (dlit k) z = c.dat v
theorem MapD.lt (h : MapD c b m w) : b < w.heap.size := by obtain ⟨n, D, ho, _⟩ := h.own; exact ho.lt
theorem MapD.kept {w' : World} {row : Option Nat} (h : MapD c b m w) (hg : w.grownBy w' row) (hne : some b ≠ row) : MapD c b m w' := by
  obtain ⟨n, D, ho, h1, h2⟩ := h.own
  exact ⟨h.srt, n, D, ho.kept hg hne, h1, h2⟩
theorem MapD.block {w' : World} (h : MapD c b m w) (hb : w'.heap[b]? = w.heap[b]?) : MapD c b m w' := by
  obtain ⟨n, D, ⟨es, clock, hh, F, hs, hD⟩, h1, h2⟩ := h.own
  exact ⟨h.srt, n, D, ⟨es, clock, hb.trans hh, F, hs, hD⟩, h1, h2⟩
theorem MapD.isMap (h : MapD c b m w) : ∃ es clock, w.heap[b]? = some (.map es clock) := by
  obtain ⟨n, D, ⟨es, clock, hh, _⟩, _⟩ := h.own
  exact ⟨es, clock, hh⟩
theorem MapD.made (c : Cod β) (w : World) : MapD c w.heap.size [] (w.alloc (.map #[] 0)) :=
  ⟨List.Pairwise.nil, 0, _, World.ownsMap_made _ _ _ _, fun k => by simp [Maps.has, dget], fun k v h => by simp [dget] at h⟩
theorem MapD.perm {n : Nat} {D : DataW Unit} (hs : SrtD m) (ho : w.ownsMap Tryz.prog 41 c.R b n D) (h1 : ∀ k, Maps.has D (dlit k) = (dget m k).isSome) {ss : List Dg} (hn : ss.Nodup) (hm : ∀ x, x ∈ ss ↔ has D (dlit x) = true) : ss.Perm (m.map (·.1)) := by
  refine (List.perm_ext_iff_of_nodup hn hs.nodup).2 fun x => ?_
  rw [hm, h1]
  constructor
  · intro h
    obtain ⟨v, hv⟩ := Option.isSome_iff_exists.1 h
    exact List.mem_map.2 ⟨_, dget_mem hv, rfl⟩
  · intro h
    obtain ⟨y, hy, rfl⟩ := List.mem_map.1 h
    have : dget m y.1 = some y.2 := hs.get.2 hy
    simp [this]
theorem MapD.size {n : Nat} {D : DataW Unit} (hs : SrtD m) (ho : w.ownsMap Tryz.prog 41 c.R b n D) (h1 : ∀ k, Maps.has D (dlit k) = (dget m k).isSome) : Maps.size D = m.length := by
  obtain ⟨es, hp, e, hm⟩ := own_keys ho
  have h := (MapD.perm hs ho h1 (ss := es.map (·.1)) (List.pairwise_map.2 hp) (fun x => by
    rw [hm, List.mem_map]
    exact ⟨fun ⟨q, h1, h2⟩ => ⟨q.2, by rw [← h2]; exact h1⟩, fun ⟨v, hv⟩ => ⟨_, hv, rfl⟩⟩)).length_eq
  rw [e]
  simpa using h
theorem MapD.atKey {z0 : β} {D : DataW Unit} (h1 : ∀ k, Maps.has D (dlit k) = (dget m k).isSome) (h2 : ∀ k v, dget m k = some v → ∀ z, D.atKey (dlit k) z = c.dat v) (k : Dg) : D.atKey (dlit k) (c.dat z0) = c.dat ((dget m k).getD z0) := by
  cases e : dget m k with
  | some v => exact h2 k v e _
  | none =>
    refine atKey_of_not_has ?_ _
    rw [h1, e]; rfl
theorem MapD.look {t e : TypeId} {z0 : β} (h : MapD c b m w) (ht : Tryz.prog.underlying t = some (.map 41 e)) (hz : (zeroValue e).run Tryz.prog w = .ok (c.enc z0) w) (k : Dg) :
    (Instr.lookup t (.map (some b)) (dv k) false).run Tryz.prog w = .ok (c.enc ((dget m k).getD z0)) w := by
  obtain ⟨n, D, ho, h1, h2⟩ := h.own
  obtain ⟨v, ps, hr, hv⟩ := ho.lookup keyedH ht hz (c.hR z0) (keyD k)
  rw [MapD.atKey h1 h2] at hv
  obtain ⟨x, rfl, hx⟩ := c.inv _ _ hv
  have := c.inj _ _ (congrArg Prod.fst hx)
  rw [hr, this]
theorem MapD.look_ok {t e : TypeId} {z0 : β} (h : MapD c b m w) (ht : Tryz.prog.underlying t = some (.map 41 e)) (hz : (zeroValue e).run Tryz.prog w = .ok (c.enc z0) w) (k : Dg) :
    (Instr.lookup t (.map (some b)) (dv k) true).run Tryz.prog w = .ok (.tuple #[c.enc ((dget m k).getD z0), .bool (dget m k).isSome]) w := by
  obtain ⟨n, D, ho, h1, h2⟩ := h.own
  obtain ⟨v, ps, hr, hv⟩ := ho.look_ok keyedH ht hz (c.hR z0) (keyD k)
  rw [MapD.atKey h1 h2] at hv
  obtain ⟨x, rfl, hx⟩ := c.inv _ _ hv
  have := c.inj _ _ (congrArg Prod.fst hx)
  rw [hr, this, h1]
theorem MapD.len {t e : TypeId} (h : MapD c b m w) (ht : Tryz.prog.underlying t = some (.map 41 e)) (ty : TypeId) : (Builtin.len_ #[t] ty #[.map (some b)]).run Tryz.prog w = .ok (.int .i64 m.length) w := by
  obtain ⟨n, D, ho, h1, h2⟩ := h.own
  rw [ho.len ht, MapD.size h.srt ho h1]
theorem MapD.drop {t e : TypeId} (h : MapD c b m w) (ht : Tryz.prog.underlying t = some (.map 41 e)) (k : Dg) (ty : TypeId) :
    ∃ w', (Builtin.delete_ #[t, 41] ty #[.map (some b), dv k]).run Tryz.prog w = .ok (.tuple #[]) w' ∧ MapD c b (ddel m k) w' ∧ w.grownBy w' (some b) ∧ w'.heap.size = w.heap.size := by
  obtain ⟨n, D, ho, h1, h2⟩ := h.own
  obtain ⟨w', hr, ho', ht'⟩ := ho.drop keyedH ht (keyD k) ty
  refine ⟨w', hr, ⟨h.srt.del k, n, _, ho', fun j => ?_, fun j v hj z => ?_⟩, ht'.grown, ?_⟩
  · rw [h.srt.get_del]
    by_cases e : j = k
    · subst e; simpa using has_del_same
    · rw [has_del_other (dlit_ne e), h1]; simp [e]
  · rw [h.srt.get_del] at hj
    by_cases e : j = k
    · subst e; simp at hj
    · rw [atKey_del_other (dlit_ne e)]
      simp [e] at hj
      exact h2 j v hj z
  · obtain ⟨es, clock, es', clock', _, rfl⟩ := ht'
    simp [Go.ChangeMaps.setBlock]
theorem MapD.store {t e : TypeId} (h : MapD c b m w) (ht : Tryz.prog.underlying t = some (.map 41 e)) (hn : m.length < maxLen) (k : Dg) (v : β) :
    ∃ w', (Instr.mapUpdate t (.map (some b)) (dv k) (c.enc v)).run Tryz.prog w = .ok () w' ∧ MapD c b (dput m k v) w' ∧ w.grownBy w' (some b) ∧ w'.heap.size = w.heap.size := by
  obtain ⟨n, D, ho, h1, h2⟩ := h.own
  have hsz := MapD.size h.srt ho h1
  have hmap := ho.isMap
  have ho1 : w.ownsMap Tryz.prog 41 c.R b m.length D := by
    obtain ⟨es, clock, hb, F, hs, rfl⟩ := ho
    refine ⟨es, clock, hb, F, ?_, rfl⟩
    rw [← hsz]
    simp [Maps.size, length_sorted]
  obtain ⟨w', hr, ho', ht'⟩ := ho1.store keyedH ht hn (keyD k) (c.hR v)
  refine ⟨w', hr, ⟨h.srt.put k v, _, _, ho', fun j => ?_, fun j u hj z => ?_⟩, ht'.grown, ?_⟩
  · rw [h.srt.get_put]
    by_cases e : j = k
    · subst e; simpa using has_put_same hmap (keyedH.key (keyD j)) _
    · rw [has_put_other (dlit_ne e), h1]; simp [e]
  · rw [h.srt.get_put] at hj
    by_cases e : j = k
    · subst e; simp at hj; subst hj
      exact atKey_put_same hmap (keyedH.key (keyD j)) _ _
    · rw [atKey_put_other (dlit_ne e)]
      simp [e] at hj
      exact h2 j u hj z
  · obtain ⟨es, clock, es', clock', _, rfl⟩ := ht'
    simp [Go.ChangeMaps.setBlock]
end
theorem nil_lookD {w : World} {t e : TypeId} {z : Value} (ht : Tryz.prog.underlying t = some (.map 41 e)) (hz : (zeroValue e).run Tryz.prog w = .ok z w) (k : Dg) (c : Bool) :
    (Instr.lookup t (.map none) (dv k) c).run Tryz.prog w = .ok (if c then .tuple #[z, .bool false] else z) w := Maps.look_nil c keyedH ht hz (keyD k)
theorem nil_dropD {w : World} {t e : TypeId} (ht : Tryz.prog.underlying t = some (.map 41 e)) (k : Dg) (ty : TypeId) :
    (Builtin.delete_ #[t, 41] ty #[.map none, dv k]).run Tryz.prog w = .ok (.tuple #[]) w := Maps.drop_nil keyedH ht (keyD k) ty
end Go.Proofs.YtcfcfijmfgnpfaaGreatDoor
end

section
namespace Go.Proofs.YtcfcfijmfgnpfaaGreatDoor
open Go.RowKit Go.Maps
set_option linter.unusedVariables false
set_option linter.unusedSimpArgs false

theorem Bs_one' (l : List Nat) : ∀ u ∈ Bs l, u.oneCell' = true := by
  intro u hu
  obtain ⟨x, -, rfl⟩ := List.mem_map.1 hu
  rfl
theorem Dg.blen (d : Dg) : (Bs d.s).length = 32 := by rw [Bs_length, d.len]
def dg0 : Dg := ⟨List.replicate 32 0, rfl, by decide⟩
theorem hshInfo : (Tryz.prog.info? 41).map (fun i => (i.zero, i.size, i.bytes)) = some (some (.agg (Bs dg0.s).toArray), 32, 32) := by kernel_rfl
/-- Rows of digests. -/
def hshR : RowTy Tryz.prog Dg where
  T := 41
  S := 131
  k := 32
  f := fun d => Bs d.s
  len := fun d => d.blen
  one := fun d u hu => Bs_one' _ u hu
  pos := by decide
  small := by decide
  slice := Tryz.underlying131
  info := by
    obtain ⟨i0, hi, hz⟩ := Option.map_eq_some_iff.1 hshInfo
    simp only [Prod.mk.injEq] at hz
    obtain ⟨h1, h2, h3⟩ := hz
    exact ⟨i0, _, _, hi, h1, h2, rfl, h3, by decide⟩
  row := ⟨_, Tryz.underlying41, rfl⟩
def prOf_H (x : Dg × Int) : List Value := Bs x.1.s ++ [.int .i64 x.2]
theorem prOf_H_len (x : Dg × Int) : (prOf_H x).length = 33 := by rw [prOf_H, List.length_append, x.1.blen]; rfl
theorem pairInfo_H : (Tryz.prog.info? 129).map (fun i => (i.zero, i.size, i.bytes)) = some (some (.agg (prOf_H (dg0, 0)).toArray), 33, 40) := by kernel_rfl
/-- Rows of digests with numbers. -/
def pair_H : RowTy Tryz.prog (Dg × Int) where
  T := 129
  S := 127
  k := 33
  f := prOf_H
  len := prOf_H_len
  one := fun x u hu => by
    rcases List.mem_append.1 hu with h | h
    · exact Bs_one' _ u h
    · rw [List.mem_singleton] at h; subst h; rfl
  pos := by decide
  small := by decide
  slice := Tryz.underlying127
  info := by
    obtain ⟨i0, hi, hz⟩ := Option.map_eq_some_iff.1 pairInfo_H
    simp only [Prod.mk.injEq] at hz
    obtain ⟨h1, h2, h3⟩ := hz
    exact ⟨i0, _, _, hi, h1, h2, rfl, h3, by decide⟩
  row := ⟨_, Tryz.underlying129, rfl⟩
theorem list32H : ∀ l : List Nat, l.length = 32 → ∃ a0 a1 a2 a3 a4 a5 a6 a7 a8 a9 b0 b1 b2 b3 b4 b5 b6 b7 b8 b9 c0 c1 c2 c3 c4 c5 c6 c7 c8 c9 d0 d1, l = [a0, a1, a2, a3, a4, a5, a6, a7, a8, a9, b0, b1, b2, b3, b4, b5, b6, b7, b8, b9, c0, c1, c2, c3, c4, c5, c6, c7, c8, c9, d0, d1]
  | [a0, a1, a2, a3, a4, a5, a6, a7, a8, a9, b0, b1, b2, b3, b4, b5, b6, b7, b8, b9, c0, c1, c2, c3, c4, c5, c6, c7, c8, c9, d0, d1], _ => ⟨_, _, _, _, _, _, _, _, _, _, _, _, _, _, _, _, _, _, _, _, _, _, _, _, _, _, _, _, _, _, _, _, rfl⟩
def bsH (ps : Array (Nat × Value)) : Sem Value := Instr.buildSlice 131 1 ps
theorem bsH_hide (ps : Array (Nat × Value)) : Instr.buildSlice 131 1 ps = bsH ps := rfl
set_option maxRecDepth 100000 in
theorem run_bsH (d : Dg) (w : World) : (bsH #[(0, dv d)]).run Tryz.prog w = .ok (.slice (some ⟨w.heap.size, 0, none⟩) 1 1) (w.alloc (.cells (Bs d.s).toArray 41)) := by
  obtain ⟨s, h, hl⟩ := d
  obtain ⟨a0, a1, a2, a3, a4, a5, a6, a7, a8, a9, b0, b1, b2, b3, b4, b5, b6, b7, b8, b9, c0, c1, c2, c3, c4, c5, c6, c7, c8, c9, d0, d1, rfl⟩ := list32H s h
  obtain ⟨i0, hi, hz⟩ := Option.map_eq_some_iff.1 hshInfo
  simp only [Prod.mk.injEq] at hz
  obtain ⟨h1, h2, h3⟩ := hz
  exact run_buildSlice w _ _ 1 _ _ i0 _ Tryz.underlying131 hi h1 (by rw [h2]; decide) (by rw [h2]; decide) (by rw [h2]; kernel_rfl)
def buildPrH (ps : Array (Nat × Value)) : Sem Value := Instr.build 129 ps
theorem buildPrH_hide (ps : Array (Nat × Value)) : Instr.build 129 ps = buildPrH ps := rfl
set_option maxRecDepth 100000 in
theorem run_buildPrH (d : Dg) (k : Int) (w : World) : (buildPrH #[(0, dv d), (1, .int .i64 k)]).run Tryz.prog w = .ok (.agg (prOf_H (d, k)).toArray) w := by
  obtain ⟨s, h, hl⟩ := d
  obtain ⟨a0, a1, a2, a3, a4, a5, a6, a7, a8, a9, b0, b1, b2, b3, b4, b5, b6, b7, b8, b9, c0, c1, c2, c3, c4, c5, c6, c7, c8, c9, d0, d1, rfl⟩ := list32H s h
  kernel_rfl
def bsPrH (ps : Array (Nat × Value)) : Sem Value := Instr.buildSlice 127 1 ps
theorem bsPrH_hide (ps : Array (Nat × Value)) : Instr.buildSlice 127 1 ps = bsPrH ps := rfl
set_option maxRecDepth 100000 in
theorem run_bsPrH (x : Dg × Int) (w : World) : (bsPrH #[(0, .agg (prOf_H x).toArray)]).run Tryz.prog w = .ok (.slice (some ⟨w.heap.size, 0, none⟩) 1 1) (w.alloc (.cells (prOf_H x).toArray 129)) := by
  obtain ⟨⟨s, h, hl⟩, k⟩ := x
  obtain ⟨a0, a1, a2, a3, a4, a5, a6, a7, a8, a9, b0, b1, b2, b3, b4, b5, b6, b7, b8, b9, c0, c1, c2, c3, c4, c5, c6, c7, c8, c9, d0, d1, rfl⟩ := list32H s h
  obtain ⟨i0, hi, hz⟩ := Option.map_eq_some_iff.1 pairInfo_H
  simp only [Prod.mk.injEq] at hz
  obtain ⟨h1, h2, h3⟩ := hz
  exact run_buildSlice w _ _ 1 _ _ i0 _ Tryz.underlying127 hi h1 (by rw [h2]; decide) (by rw [h2]; decide) (by rw [h2]; kernel_rfl)
/-- A digest loaded. -/
def ldH (p : Value) : Sem Value := Instr.loadAt 41 p
theorem ldH_hide (p : Value) : Instr.loadAt 41 p = ldH p := rfl
theorem run_ldH {w : World} {b k : Nat} {d : Dg} (hr : w.rangeAt b k (Bs d.s)) : (ldH (.pointer (some ⟨b, k, none⟩))).run Tryz.prog w = .ok (dv d) w := run_loadR (r := hshR) (t := d) hr

/-- What is noted: whose it is, where its bytes lie. -/
structure Nt where
  who : Int
  b : Option Nat
  n : Nat
  c : Nat
def Nt.v (x : Nt) : Value := .slice (x.b.map fun g => ⟨g, 0, none⟩) x.n x.c
def ntL (x : Nt) : List Value := [.int .i64 x.who, x.v]
def nt0 : Nt := ⟨0, none, 0, 0⟩
def codNt : Cod Nt where
  enc := fun x => .agg #[.int .i64 x.who, x.v]
  R := fun v => match v with
    | .agg xs => match xs.toList with
      | [.int .i64 a, .slice none n c] => some (.agg [.lit (.int .i64 a), .nil, .lit (.int .i64 n), .lit (.int .i64 c)], [])
      | [.int .i64 a, .slice (some ⟨g, 0, none⟩) n c] => some (.agg [.lit (.int .i64 a), .lit (.int .i64 g), .lit (.int .i64 n), .lit (.int .i64 c)], [])
      | _ => none
    | _ => none
  dat := fun x => .agg [.lit (.int .i64 x.who), (match x.b with | none => .nil | some g => .lit (.int .i64 g)), .lit (.int .i64 x.n), .lit (.int .i64 x.c)]
  hR := fun x => by obtain ⟨w, b, n, c⟩ := x; cases b <;> rfl
  inv := fun v z h => by
    split at h
    · rename_i xs
      split at h
      · rename_i a n c e
        cases h
        exact ⟨⟨a, none, n, c⟩, by rw [show xs = xs.toList.toArray from rfl, e]; rfl, rfl⟩
      · rename_i a g n c e
        cases h
        exact ⟨⟨a, some g, n, c⟩, by rw [show xs = xs.toList.toArray from rfl, e]; rfl, rfl⟩
      · cases h
    · cases h
  inj := fun x y h => by
    obtain ⟨w, b, n, c⟩ := x
    obtain ⟨w', b', n', c'⟩ := y
    cases b <;> cases b' <;> simp at h
    · obtain ⟨rfl, h2, h3⟩ := h
      have h2 : n = n' := by omega
      have h3 : c = c' := by omega
      rw [h2, h3]
    · rename_i g g'
      obtain ⟨rfl, h1, h2, h3⟩ := h
      have h1 : g = g' := by omega
      have h2 : n = n' := by omega
      have h3 : c = c' := by omega
      rw [h2, h3, h1]
end Go.Proofs.YtcfcfijmfgnpfaaGreatDoor
end

section
namespace Go.Proofs.YtcfcfijmfgnpfaaGreatDoor
open Go.RowKit Go.Maps
set_option linter.unusedVariables false
set_option linter.unusedSimpArgs false

def cmpD (a b : Dg) : Int := if lexN a.s b.s then -1 else if lexN b.s a.s then 1 else 0
theorem u8_lt {x y : Nat} (hx : x < 256) (hy : y < 256) : UInt8.ofNat x < UInt8.ofNat y ↔ x < y := by
  rw [UInt8.lt_iff_toNat_lt]
  simp only [UInt8.toNat_ofNat']
  rw [Nat.mod_eq_of_lt (show x < 2 ^ 8 from hx), Nat.mod_eq_of_lt (show y < 2 ^ 8 from hy)]
theorem compareB : ∀ {a b : List Nat}, (∀ x ∈ a, x < 256) → (∀ x ∈ b, x < 256) → Lib.compareBytes (a.map UInt8.ofNat) (b.map UInt8.ofNat) = if lexN a b then -1 else if lexN b a then 1 else 0
  | [], [], _, _ => by simp [Lib.compareBytes, lexN]
  | [], _ :: _, _, _ => by simp [Lib.compareBytes, lexN]
  | _ :: _, [], _, _ => by simp [Lib.compareBytes, lexN]
  | x :: a, y :: b, ha, hb => by
    have hx := ha x (by simp)
    have hy := hb y (by simp)
    have ih := compareB (a := a) (b := b) (fun z hz => ha z (List.mem_cons_of_mem _ hz)) (fun z hz => hb z (List.mem_cons_of_mem _ hz))
    simp only [List.map_cons, Lib.compareBytes, u8_lt hx hy, u8_lt hy hx, lexN, ih]
    by_cases h1 : x < y
    · simp [h1]
    · by_cases h2 : y < x
      · have h3 : x ≠ y := by omega
        simp [h1, h2, h3]
      · have h3 : x = y := by omega
        subst h3
        simp
theorem bytesOf_map (l : List Nat) : Lib.bytesOf (l.map fun (x : Nat) => (x : Int)) = l.map UInt8.ofNat := by
  unfold Lib.bytesOf
  rw [List.map_map]
  refine List.map_congr_left (fun x _ => ?_)
  simp
theorem run_bytesD {w : World} {b n c : Nat} {d : Dg} (h : ∀ i (hi : i < d.s.length), w.cell? ⟨b, i, none⟩ = some (.int .u8 ((d.s[i] : Nat) : Int))) (hn : n = 32) : (Extern.Bytes.bytesOf (.slice (some ⟨b, 0, none⟩) n c)).run Tryz.prog w = .ok ⟨(d.s.map UInt8.ofNat).toArray⟩ w := by
  have hl := Lib.run_loadBytesX (P := Tryz.prog) w (d.s.map fun (x : Nat) => (x : Int)) ⟨b, 0, none⟩ .empty (fun j x hj => by
    rw [List.getElem?_map] at hj
    obtain ⟨y, hy, rfl⟩ := Option.map_eq_some_iff.1 hj
    obtain ⟨hi, rfl⟩ := List.getElem?_eq_some_iff.1 hy
    have := h j hi
    rw [show (⟨b, 0, none⟩ : Addr).add j = ⟨b, j, none⟩ by simp [Addr.add]; omega]
    exact this)
  rw [bytesOf_map, List.length_map, d.len, ← hn] at hl
  simp only [Extern.Bytes.bytesOf]
  rw [hl]
  simp
theorem run_compareD {w : World} {b1 b2 c1 c2 : Nat} {x y : Dg} (h1 : ∀ i (hi : i < x.s.length), w.cell? ⟨b1, i, none⟩ = some (.int .u8 ((x.s[i] : Nat) : Int))) (h2 : ∀ i (hi : i < y.s.length), w.cell? ⟨b2, i, none⟩ = some (.int .u8 ((y.s[i] : Nat) : Int))) :
    (Extern.BytealgCompare.compare #[.slice (some ⟨b1, 0, none⟩) 32 c1, .slice (some ⟨b2, 0, none⟩) 32 c2]).run Tryz.prog w = .ok (.int .i64 (cmpD x y)) w := by
  change Sem.run Tryz.prog (do pure (goInt (Extern.BytealgCompare.cmp (← Extern.Bytes.bytesOf (.slice (some ⟨b1, 0, none⟩) 32 c1)) (← Extern.Bytes.bytesOf (.slice (some ⟨b2, 0, none⟩) 32 c2))))) w = _
  simp only [Sem.run_bind, Sem.run_pure, run_bytesD h1 rfl, run_bytesD h2 rfl, Result.andThen]
  rw [Lib.cmp_eq]
  show Result.ok (goInt (Lib.compareBytes (x.s.map UInt8.ofNat) (y.s.map UInt8.ofNat))) w = _
  rw [compareB x.lt y.lt]
  rfl
set_option maxHeartbeats 1000000 in
set_option maxRecDepth 100000 in
theorem bytes_Compare {w : World} {b1 b2 c1 c2 : Nat} {x y : Dg} (h1 : ∀ i (hi : i < x.s.length), w.cell? ⟨b1, i, none⟩ = some (.int .u8 ((x.s[i] : Nat) : Int))) (h2 : ∀ i (hi : i < y.s.length), w.cell? ⟨b2, i, none⟩ = some (.int .u8 ((y.s[i] : Nat) : Int))) :
    Calls Tryz.prog 95 #[.slice (some ⟨b1, 0, none⟩) 32 c1, .slice (some ⟨b2, 0, none⟩) 32 c2] w fun e w' => e = .returned (.int .i64 (cmpD x y)) ∧ w' = w := by
  have hr := run_compareD (c1 := c1) (c2 := c2) h1 h2
  obtain ⟨r, hrr⟩ : ∃ r, r = cmpD x y := ⟨_, rfl⟩
  rw [← hrr] at hr ⊢
  clear h1 h2 hrr
  go_enter Tryz.func95, Tryz.ntmps95
  go_wp2
  rw [run_callFunc_extern Tryz.func115 (by kernel_rfl) (by kernel_rfl) (by kernel_rfl) (e := Extern.BytealgCompare.compare) (by kernel_rfl), hr]
  simp only [Result.andThen]
  rw [Oper.upon_value]
  go_wp2
  go_ret
  exact ⟨rfl, rfl⟩
end Go.Proofs.YtcfcfijmfgnpfaaGreatDoor
end

section
namespace Go.Proofs.YtcfcfijmfgnpfaaGreatDoor
open Go.RowKit
set_option linter.unusedVariables false

/-- AN ITERATOR's PROMISE, whatever the body does with its data once it has begun: function gf, which has captured lb, tells xs, one behind the other, to whatever body, till that says no; its data lie in the blocks of G, as they lay in w. -/
def IterF {α : Type} (P : Program) (n : Nat) (gf : Nat) (lb : Array Value) (encs : α → Array Value) (xs : List α) (G : FP) (w : World) : Prop :=
  ∀ (l B : Nat) (Ψ : FP) (J Jx : List α → FP → World → Prop) (Φ0 : FP) (W : World), Grow w W → (∀ k, G k → k < w.heap.size ∧ W.heap[k]? = w.heap[k]?) → (∀ k, Ψ k → k < B) → Stab B J → Stab B Jx →
    (∀ pre x Φ W1, (pre ++ [x]) <+: xs → J pre Φ W1 → RoundOk P n l encs Ψ J Jx pre x Φ W1) → J [] Φ0 W →
    CallsIn Fence.wide (n + 1) P gf (#[.func (.yield l) #[] #[]] ++ lb) W fun e W' => (∃ v, e = .returned v) ∧ Leaves Ψ Φ0 W (fun Φ' W' => J xs Φ' W' ∨ ∃ pre, pre <+: xs ∧ Jx pre Φ' W') W'

section
variable {P : Program} {α : Type}
/-- **A LOOP OVER AN ITERATOR, in a function's own frame.** -/
theorem range_outerF {n : Nat} {g : Operand} {ps : Array Tmp} {assign body : Code} {Q : Exit → Act → World → Prop} {a : Act} {w : World} {gf : Nat} {lb : Array Value} (hg : a.eval g = .func (.func gf) #[] lb) (eg : ∀ args w, (callFunc gf args).run P w = .ok (.enter gf args) w)
    {encs : α → Array Value} {xs : List α} {G : FP} {w0 : World} (hit : IterF P n gf lb encs xs G w0) (hg0 : Grow w0 w) (hG : ∀ k, G k → k < w0.heap.size ∧ w.heap[k]? = w0.heap[k]?) (hps : ∀ x, (encs x).size = ps.size)
    (Ψ : FP) (hΨ : ∀ k, Ψ k → k < w.heap.size) (I : List α → FP → World → Prop) (Ix : Code → List α → FP → World → Prop) (hI : Stab w.heap.size I) (hIx : ∀ c, Stab w.heap.size (Ix c)) (h0 : I [] (fun _ => False) w) (a₁ : α → Act)
    (hassign : ∀ (l : Nat) (x : α) (W : World) (K : Act → World → Prop), K (a₁ x) W → assign.wpIn (Fence.wide.inRound l) n P (Exit.then K (fun _ _ _ => False)) { tmps := (ps.zip (encs x)).foldl (fun t (p, v) => t.setIfInBounds p v) a.tmps, defers := [] } W)
    (hbody : ∀ (l : Nat) (pre : List α) (x : α) (Φ : FP) (W : World), (pre ++ [x]) <+: xs → I pre Φ W → w.heap.size < l → (∀ k, Φ k → l + 1 ≤ k) → (∃ r, W.heap[l]? = some (.loop r)) → body.wpIn (Fence.wide.inRound l) n P (bodyI Ψ Φ I Ix (pre ++ [x]) W) (a₁ x) W)
    (hdone : ∀ (D : Nat) (Φ : FP) (W : World), I xs Φ W → Only Ψ (fun _ => False) w W → w.heap.size ≤ D → ¬ Φ D → W.heap[D]? = some (.deferred (some [])) → Q .normal { a with defers := { target := .collected D, args := #[] } :: a.defers } W)
    (hstop : ∀ (D : Nat) (Φ : FP) (c : Code) (pre : List α) (W : World), pre <+: xs → Ix c pre Φ W → Only Ψ (fun _ => False) w W → w.heap.size ≤ D → ¬ Φ D → W.heap[D]? = some (.deferred (some [])) → c.wpIn Fence.wide (n + 2) P Q { a with defers := { target := .collected D, args := #[] } :: a.defers } W) :
    (Code.rangeFunc g ps assign body).wpIn Fence.wide (n + 2) P Q a w := by
  refine wpIn_rangeFunc ?_
  intro fn hfn
  obtain ⟨W1, hW1⟩ : ∃ W1, (w.alloc (.deferred (some []))).alloc (.loop (recOf fn a.tmps ps assign body w.heap.size .ready none)) = W1 := ⟨_, rfl⟩
  have hL1 : W1.heap[w.heap.size + 1]? = some (.loop (recOf fn a.tmps ps assign body w.heap.size .ready none)) := by
    rw [← hW1]; have := World.alloc_heap_new (w.alloc (.deferred (some []))) (.loop (recOf fn a.tmps ps assign body w.heap.size .ready none)); rwa [World.size_alloc] at this
  have hK1 : W1.heap[w.heap.size]? = some (.deferred (some [])) := by
    rw [← hW1]; exact (Below.heap_alloc _ _ _ (by simp)).trans (World.alloc_heap_new w _)
  have hB1 : Below w.heap.size w W1 := by rw [← hW1]; exact ((Below.refl _ w).alloc (Nat.le_refl _) _).alloc (by simp) _
  have hsz : W1.heap.size = w.heap.size + 2 := by rw [← hW1]; simp
  have hi1 : I [] (fun _ => False) W1 := (hI _ _ _ h0).2.2 _ (Grow.of_below hB1) (fun k hk => hk.elim (fun h => hB1.block k h) (fun h => h.elim))
  refine ⟨w.heap.size + 1, [{ target := .collected w.heap.size, args := #[] }], W1, { target := .fn (.func gf) lb, args := #[.func (.yield (w.heap.size + 1)) #[] #[]] }, W1, gf,
    #[.func (.yield (w.heap.size + 1)) #[] #[]] ++ lb, W1, ?_, ?_, ?_, ?_, fun h => by simp [Fence.wide] at h, ?_⟩
  · rw [← hW1]; exact run_enterLoop_outer _ _ _ _ _
  · simp only [resolve, hg]
    simp [go_sem]
  · intro f' hf'; simp [Target.leads] at hf'; subst hf'; trivial
  · simp [invoke, go_sem, eg]
  · have hD : ∀ d, some w.heap.size = some d → w.heap.size ≤ d ∧ d < w.heap.size + 1 := fun d hd => by cases hd; omega
    refine (hit (w.heap.size + 1) (w.heap.size + 2) (fun k => Ψ k ∨ k = w.heap.size + 1) (InvJ I (w.heap.size + 1) (some w.heap.size) (recOf fn a.tmps ps assign body w.heap.size .ready none))
      (fun pre Φ W => ∃ c, InvJ (Ix c) (w.heap.size + 1) (some w.heap.size) (recOf fn a.tmps ps assign body w.heap.size .done (some c)) pre Φ W) (fun _ => False) W1 (hg0.trans (Grow.of_below hB1))
      (fun k hk => ⟨(hG k hk).1, (hB1.block k (Nat.lt_of_lt_of_le (hG k hk).1 hg0.size)).trans (hG k hk).2⟩) (fun k hk => ?_) (InvJ.stab hI (by omega) (fun d hd => (hD d hd).2)) ?_ ?_ ⟨hi1, fun _ h => h.elim, hL1, fun d hd => by cases hd; exact hK1⟩).mono ?_
    · rcases hk with h | h
      · have := hΨ k h; omega
      · omega
    · rintro pre Φ W ⟨c, hc⟩
      obtain ⟨h1, h2, h3⟩ := InvJ.stab (hIx c) (by omega) (fun d hd => (hD d hd).2) _ _ _ hc
      exact ⟨h1, h2, fun W' hg' hk => ⟨c, h3 W' hg' hk⟩⟩
    · intro pre x Φ W hpx hJ
      exact round_of_body hI hIx (by omega) hΨ hps hD a₁ hJ (fun W K hK => hassign _ x W K hK) (fun W hi hΦ hr => hbody _ pre x Φ W hpx hi (by omega) hΦ hr)
    · have fine : ∀ W2, Only (fun k => Ψ k ∨ k = w.heap.size + 1) (fun _ => False) W1 W2 → ∀ r, Only Ψ (fun _ => False) w (W2.putObj (w.heap.size + 1) (.loop r)) := fun W2 ho r =>
        ⟨((Grow.of_below hB1).trans ho.grow).trans (put_grow _ _ _), fun k hk h1 h2 => (put_other (by omega)).trans ((ho.block k (by omega) (fun h => h.elim h1 (by omega)) h2).trans (hB1.block k hk))⟩
      rintro e W2 ⟨⟨v, rfl⟩, Φ', hn, ho, (⟨hi, hΦ, hl, hk⟩ | ⟨pre, hpre, c, hi, hΦ, hl, hk⟩)⟩
      · have hnD : ¬ Φ' w.heap.size := fun h => by have := hΦ _ h; omega
        refine ⟨none, _, run_endLoop (P := P) hl (by simp [recOf]), hdone _ Φ' _ ?_ (fine W2 ho _) (Nat.le_refl _) hnD ((put_other (by omega)).trans (hk _ rfl))⟩
        exact (hI _ _ _ hi).2.2 _ (put_grow _ _ _) (fun k hk' => put_other (hk'.elim (fun h => by omega) (fun h => by have := hΦ k h; omega)))
      · have hnD : ¬ Φ' w.heap.size := fun h => by have := hΦ _ h; omega
        refine ⟨some c, _, run_endLoop (P := P) hl (by simp [recOf]), hstop _ Φ' c pre _ hpre ?_ (fine W2 ho _) (Nat.le_refl _) hnD ((put_other (by omega)).trans (hk _ rfl))⟩
        exact (hIx c _ _ _ hi).2.2 _ (put_grow _ _ _) (fun k hk' => put_other (hk'.elim (fun h => by omega) (fun h => by have := hΦ k h; omega)))

/-- **A LOOP OVER AN ITERATOR, in a round of another loop.** -/
theorem range_innerF {n l₀ : Nat} {r₀ : Loop} {g : Operand} {ps : Array Tmp} {assign body : Code} {Q : Exit → Act → World → Prop} {a : Act} {w : World} {gf : Nat} {lb : Array Value} (hr0 : w.heap[l₀]? = some (.loop r₀)) (hg : a.eval g = .func (.func gf) #[] lb) (eg : ∀ args w, (callFunc gf args).run P w = .ok (.enter gf args) w)
    {encs : α → Array Value} {xs : List α} {G : FP} {w0 : World} (hit : IterF P n gf lb encs xs G w0) (hg0 : Grow w0 w) (hG : ∀ k, G k → k < w0.heap.size ∧ w.heap[k]? = w0.heap[k]?) (hps : ∀ x, (encs x).size = ps.size)
    (Ψ : FP) (hΨ : ∀ k, Ψ k → k < w.heap.size) (I : List α → FP → World → Prop) (Ix : Code → List α → FP → World → Prop) (hI : Stab w.heap.size I) (hIx : ∀ c, Stab w.heap.size (Ix c)) (h0 : I [] (fun _ => False) w) (a₁ : α → Act)
    (hassign : ∀ (l : Nat) (x : α) (W : World) (K : Act → World → Prop), K (a₁ x) W → assign.wpIn (Fence.wide.inRound l) n P (Exit.then K (fun _ _ _ => False)) { tmps := (ps.zip (encs x)).foldl (fun t (p, v) => t.setIfInBounds p v) a.tmps, defers := [] } W)
    (hbody : ∀ (l : Nat) (pre : List α) (x : α) (Φ : FP) (W : World), (pre ++ [x]) <+: xs → I pre Φ W → w.heap.size ≤ l → (∀ k, Φ k → l + 1 ≤ k) → (∃ r, W.heap[l]? = some (.loop r)) → body.wpIn (Fence.wide.inRound l) n P (bodyI Ψ Φ I Ix (pre ++ [x]) W) (a₁ x) W)
    (hdone : ∀ (Φ : FP) (W : World), I xs Φ W → Only Ψ (fun _ => False) w W → Q .normal { a with defers := [] ++ a.defers } W)
    (hstop : ∀ (Φ : FP) (c : Code) (pre : List α) (W : World), pre <+: xs → Ix c pre Φ W → Only Ψ (fun _ => False) w W → c.wpIn (Fence.wide.inRound l₀) (n + 2) P Q { a with defers := [] ++ a.defers } W) :
    (Code.rangeFunc g ps assign body).wpIn (Fence.wide.inRound l₀) (n + 2) P Q a w := by
  refine wpIn_rangeFunc ?_
  intro fn hfn
  obtain ⟨W1, hW1⟩ : ∃ W1, w.alloc (.loop (recOf fn a.tmps ps assign body r₀.defers .ready none)) = W1 := ⟨_, rfl⟩
  have hL1 : W1.heap[w.heap.size]? = some (.loop (recOf fn a.tmps ps assign body r₀.defers .ready none)) := by
    rw [← hW1]; exact World.alloc_heap_new w _
  have hB1 : Below w.heap.size w W1 := by rw [← hW1]; exact (Below.refl _ w).alloc (Nat.le_refl _) _
  have hsz : W1.heap.size = w.heap.size + 1 := by rw [← hW1]; simp
  have hi1 : I [] (fun _ => False) W1 := (hI _ _ _ h0).2.2 _ (Grow.of_below hB1) (fun k hk => hk.elim (fun h => hB1.block k h) (fun h => h.elim))
  refine ⟨w.heap.size, [], W1, { target := .fn (.func gf) lb, args := #[.func (.yield w.heap.size) #[] #[]] }, W1, gf,
    #[.func (.yield w.heap.size) #[] #[]] ++ lb, W1, ?_, ?_, ?_, ?_, fun h => by simp [Fence.wide] at h, ?_⟩
  · rw [← hW1]; exact run_enterLoop_inner hr0 _ _ _ _ _
  · simp only [resolve, hg]
    simp [go_sem]
  · intro f' hf'; simp [Target.leads] at hf'; subst hf'; trivial
  · simp [invoke, go_sem, eg]
  · have hD : ∀ d, (none : Option Nat) = some d → w.heap.size ≤ d ∧ d < w.heap.size := fun d hd => by cases hd
    refine CallsIn.inRound l₀ ((hit w.heap.size (w.heap.size + 1) (fun k => Ψ k ∨ k = w.heap.size) (InvJ I w.heap.size none (recOf fn a.tmps ps assign body r₀.defers .ready none))
      (fun pre Φ W => ∃ c, InvJ (Ix c) w.heap.size none (recOf fn a.tmps ps assign body r₀.defers .done (some c)) pre Φ W) (fun _ => False) W1 (hg0.trans (Grow.of_below hB1))
      (fun k hk => ⟨(hG k hk).1, (hB1.block k (Nat.lt_of_lt_of_le (hG k hk).1 hg0.size)).trans (hG k hk).2⟩) (fun k hk => ?_) (InvJ.stab hI (by omega) (fun d hd => (hD d hd).2)) ?_ ?_ ⟨hi1, fun _ h => h.elim, hL1, fun d hd => by cases hd⟩).mono ?_)
    · rcases hk with h | h
      · have := hΨ k h; omega
      · omega
    · rintro pre Φ W ⟨c, hc⟩
      obtain ⟨h1, h2, h3⟩ := InvJ.stab (hIx c) (by omega) (fun d hd => (hD d hd).2) _ _ _ hc
      exact ⟨h1, h2, fun W' hg' hk => ⟨c, h3 W' hg' hk⟩⟩
    · intro pre x Φ W hpx hJ
      exact round_of_body hI hIx (by omega) hΨ hps hD a₁ hJ (fun W K hK => hassign _ x W K hK) (fun W hi hΦ hr => hbody _ pre x Φ W hpx hi (by omega) hΦ hr)
    · have fine : ∀ W2, Only (fun k => Ψ k ∨ k = w.heap.size) (fun _ => False) W1 W2 → ∀ r, Only Ψ (fun _ => False) w (W2.putObj w.heap.size (.loop r)) := fun W2 ho r =>
        ⟨((Grow.of_below hB1).trans ho.grow).trans (put_grow _ _ _), fun k hk h1 h2 => (put_other (by omega)).trans ((ho.block k (by omega) (fun h => h.elim h1 (by omega)) h2).trans (hB1.block k hk))⟩
      rintro e W2 ⟨⟨v, rfl⟩, Φ', hn, ho, (⟨hi, hΦ, hl, hk⟩ | ⟨pre, hpre, c, hi, hΦ, hl, hk⟩)⟩
      · refine ⟨none, _, run_endLoop (P := P) hl (by simp [recOf]), hdone Φ' _ ?_ (fine W2 ho _)⟩
        exact (hI _ _ _ hi).2.2 _ (put_grow _ _ _) (fun k hk' => put_other (hk'.elim (fun h => by omega) (fun h => by have := hΦ k h; omega)))
      · refine ⟨some c, _, run_endLoop (P := P) hl (by simp [recOf]), hstop Φ' c pre _ hpre ?_ (fine W2 ho _)⟩
        exact (hIx c _ _ _ hi).2.2 _ (put_grow _ _ _) (fun k hk' => put_other (hk'.elim (fun h => by omega) (fun h => by have := hΦ k h; omega)))
end
end Go.Proofs.YtcfcfijmfgnpfaaGreatDoor
end

section
namespace Go.Proofs.YtcfcfijmfgnpfaaGreatDoor
open Go.RowKit
set_option linter.unusedVariables false

section
variable {P : Program} {α : Type}
/-- One round, out of its body's walk: the record turns busy, then ready, or done. -/
theorem round_of_bodyA {n l : Nat} {fn : FuncId} {encs : α → Array Value} {ps : Array Tmp} {assign body : Code} {tm : Array Value} {dfr : Nat} {Ψ : FP} {I : List α → FP → World → Prop} {Ix : Code → List α → FP → World → Prop} {B : Nat} (hI : Stab B I) (hIx : ∀ c, Stab B (Ix c))
    (hBJ : B ≤ l) (hΨ : ∀ k, Ψ k → k < B) (hps : ∀ x, (encs x).size = ps.size) {D : Option Nat} (hD : ∀ d, D = some d → B ≤ d ∧ d < l) (aOf : α → Nat → Act) (At : α → Nat → World → Prop) (hAt : ∀ x N W W', At x N W → W'.heap[N]? = W.heap[N]? → At x N W') {pre : List α} {x : α} {Φ : FP} {W : World}
    (hJ : InvJ I l D (recOf fn tm ps assign body dfr .ready none) pre Φ W)
    (hassign : ∀ (W : World) (K : Act → World → Prop), (∀ W', Below W.heap.size W W' → W.heap.size < W'.heap.size → At x W.heap.size W' → K (aOf x W.heap.size) W') → assign.wpIn (Fence.wide.inRound l) n P (Exit.then K (fun _ _ _ => False)) { tmps := (ps.zip (encs x)).foldl (fun t (p, v) => t.setIfInBounds p v) tm, defers := [] } W)
    (hbody : ∀ N W, I pre Φ W → (∀ k, Φ k → l + 1 ≤ k ∧ k < N) → (∃ r, W.heap[l]? = some (.loop r)) → l < N → N < W.heap.size → At x N W → body.wpIn (Fence.wide.inRound l) n P (bodyI Ψ Φ I Ix (pre ++ [x]) W) (aOf x N) W) :
    RoundOk P n l encs (fun k => Ψ k ∨ k = l) (InvJ I l D (recOf fn tm ps assign body dfr .ready none))
      (fun pre Φ W => ∃ c, InvJ (Ix c) l D (recOf fn tm ps assign body dfr .done (some c)) pre Φ W) pre x Φ W := by
  obtain ⟨hi, hΦ, hl, hDW⟩ := hJ
  have hlt : l < W.heap.size := (Array.getElem?_eq_some_iff.1 hl).1
  have hy := run_yield (P := P) (args := encs x) hl (hps x)
  refine ⟨fn, _, assign, body, hy, roundIn_of_wpIn trivial (hassign W _ fun V hV hVs hVA => ?_)⟩
  have hlV : V.heap[l]? = some (.loop (recOf fn tm ps assign body dfr .ready none)) := (hV.block l hlt).trans hl
  refine ⟨_, run_beginRound hlV rfl, ?_⟩
  obtain ⟨W2, hW2⟩ : ∃ W2, W2 = V.putObj l (.loop { recOf fn tm ps assign body dfr .ready none with state := .busy }) := ⟨_, rfl⟩
  rw [← hW2]
  have hl2 : W2.heap[l]? = some (.loop (recOf fn tm ps assign body dfr .busy none)) := by rw [hW2]; exact World.putObj_heap_same (Nat.lt_of_lt_of_le hlt hV.size)
  have hnl : ∀ k, Φ k → k ≠ l := fun k hk e => by have := hΦ k hk; omega
  have ho2 : ∀ k, k ≠ l → k < W.heap.size → W2.heap[k]? = W.heap[k]? := fun k hk hkW => by rw [hW2]; exact (put_other hk).trans (hV.block k hkW)
  have hIW := hI _ _ _ hi
  have hi2 : I pre Φ W2 := hIW.2.2 _ (by rw [hW2]; exact (Grow.of_below hV).trans (put_grow _ _ _)) (fun k hk => ho2 k (hk.elim (fun h => by omega) (fun h => hnl k h)) (hk.elim (fun h => by omega) (fun h => (hIW.1 k h).2)))
  have hA2 : At x W.heap.size W2 := hAt _ _ _ _ hVA (by rw [hW2]; exact put_other (by omega))
  have hsz : W2.heap.size = V.heap.size := by rw [hW2]; simp [World.putObj]
  have hg2 : Grow W W2 := by rw [hW2]; exact (Grow.of_below hV).trans (put_grow _ _ _)
  have hWV : W.heap.size ≤ W2.heap.size := by rw [hsz]; exact hV.size
  clear hW2
  refine wpIn_mono (hbody _ _ hi2 (fun k hk => ⟨hΦ k hk, (hIW.1 k hk).2⟩) ⟨_, hl2⟩ hlt (by rw [hsz]; exact hVs) hA2) ?_
  have fin : ∀ (jump : Option Code) (Φ' : FP) (W3 : World) (R : List α → FP → World → Prop), Only Ψ Φ W2 W3 → (∀ k, Φ' k → Φ k ∨ W2.heap.size ≤ k) → Stab B R → R (pre ++ [x]) Φ' W3 →
      ∃ W4, (Instr.endRound l jump).run P W3 = .ok (.bool jump.isNone) W4 ∧ (∀ k, Φ' k → Φ k ∨ W.heap.size ≤ k) ∧ Only (fun k => Ψ k ∨ k = l) Φ W W4 ∧
        InvJ R l D (recOf fn tm ps assign body dfr (if jump.isNone then .ready else .done) jump) (pre ++ [x]) Φ' W4 := by
    intro jump Φ' W3 R ho hn hS hR
    have hl3 : W3.heap[l]? = some (.loop (recOf fn tm ps assign body dfr .busy none)) := (ho.block l (by omega) (fun h => by have := hΨ l h; omega) (fun h => hnl l h rfl)).trans hl2
    have hlt3 : l < W3.heap.size := (Array.getElem?_eq_some_iff.1 hl3).1
    have hn : ∀ k, Φ' k → Φ k ∨ W.heap.size ≤ k := fun k hk => (hn k hk).imp id (fun h => Nat.le_trans hWV h)
    have hΦ' : ∀ k, Φ' k → l + 1 ≤ k := fun k hk => (hn k hk).elim (hΦ k) (fun h => by omega)
    refine ⟨_, run_endRound (P := P) jump hl3, hn, ⟨(hg2.trans ho.grow).trans (put_grow _ _ _), fun k hk h1 h2 => ?_⟩, (hS _ _ _ hR).2.2 _ (put_grow _ _ _) (fun k hk => put_other ?_), hΦ', World.putObj_heap_same hlt3, fun d hd => ?_⟩
    · have hkl : k ≠ l := fun e => h1 (.inr e)
      exact (put_other hkl).trans ((ho.block k (by omega) (fun h => h1 (.inl h)) h2).trans (ho2 k hkl hk))
    · rcases hk with h | h
      · omega
      · have := hΦ' k h; omega
    · obtain ⟨d1, d2⟩ := hD d hd
      exact (put_other (by omega)).trans ((ho.block d (by omega) (fun h => by have := hΨ d h; omega) (fun h => by have := hΦ d h; omega)).trans ((ho2 d (by omega) (by omega)).trans (hDW d hd)))
  rintro e a3 W3 hp
  cases e with
  | normal =>
    obtain ⟨Φ', hn, ho, hR⟩ := hp
    obtain ⟨W4, hr, h1, h2, h3⟩ := fin none Φ' W3 I ho hn hI hR
    exact ⟨_, _, hr, Φ', h1, h2, .inl ⟨rfl, h3⟩⟩
  | ret =>
    obtain ⟨Φ', hn, ho, hR⟩ := hp
    obtain ⟨W4, hr, h1, h2, h3⟩ := fin (some .ret) Φ' W3 (Ix .ret) ho hn (hIx _) hR
    exact ⟨_, _, hr, Φ', h1, h2, .inr ⟨rfl, .ret, h3⟩⟩
  | exit id =>
    obtain ⟨Φ', hn, ho, hR⟩ := hp
    obtain ⟨W4, hr, h1, h2, h3⟩ := fin (some (.exit id)) Φ' W3 (Ix (.exit id)) ho hn (hIx _) hR
    exact ⟨_, _, hr, Φ', h1, h2, .inr ⟨rfl, .exit id, h3⟩⟩
  | goto t =>
    obtain ⟨Φ', hn, ho, hR⟩ := hp
    obtain ⟨W4, hr, h1, h2, h3⟩ := fin (some (.goto t)) Φ' W3 (Ix (.goto t)) ho hn (hIx _) hR
    exact ⟨_, _, hr, Φ', h1, h2, .inr ⟨rfl, .goto t, h3⟩⟩
  | panic ch => exact hp.elim
  | outgrown => exact hp.elim

/-- **A LOOP OVER AN ITERATOR, in a function's own frame.** -/
theorem range_outerA {n : Nat} {g : Operand} {ps : Array Tmp} {assign body : Code} {Q : Exit → Act → World → Prop} {a : Act} {w : World} {gf : Nat} {lb : Array Value} (hg : a.eval g = .func (.func gf) #[] lb) (eg : ∀ args w, (callFunc gf args).run P w = .ok (.enter gf args) w)
    {encs : α → Array Value} {xs : List α} {G : FP} {w0 : World} (hit : IterF P n gf lb encs xs G w0) (hg0 : Grow w0 w) (hG : ∀ k, G k → k < w0.heap.size ∧ w.heap[k]? = w0.heap[k]?) (hps : ∀ x, (encs x).size = ps.size)
    (Ψ : FP) (hΨ : ∀ k, Ψ k → k < w.heap.size) (I : List α → FP → World → Prop) (Ix : Code → List α → FP → World → Prop) (hI : Stab w.heap.size I) (hIx : ∀ c, Stab w.heap.size (Ix c)) (h0 : I [] (fun _ => False) w) (aOf : α → Nat → Act) (At : α → Nat → World → Prop) (hAt : ∀ x N W W', At x N W → W'.heap[N]? = W.heap[N]? → At x N W')
    (hassign : ∀ (l : Nat) (x : α) (W : World) (K : Act → World → Prop), (∀ W', Below W.heap.size W W' → W.heap.size < W'.heap.size → At x W.heap.size W' → K (aOf x W.heap.size) W') → assign.wpIn (Fence.wide.inRound l) n P (Exit.then K (fun _ _ _ => False)) { tmps := (ps.zip (encs x)).foldl (fun t (p, v) => t.setIfInBounds p v) a.tmps, defers := [] } W)
    (hbody : ∀ (l : Nat) (pre : List α) (x : α) (Φ : FP) (N : Nat) (W : World), (pre ++ [x]) <+: xs → I pre Φ W → w.heap.size < l → (∀ k, Φ k → l + 1 ≤ k ∧ k < N) → (∃ r, W.heap[l]? = some (.loop r)) → l < N → N < W.heap.size → At x N W → body.wpIn (Fence.wide.inRound l) n P (bodyI Ψ Φ I Ix (pre ++ [x]) W) (aOf x N) W)
    (hdone : ∀ (D : Nat) (Φ : FP) (W : World), I xs Φ W → Only Ψ (fun _ => False) w W → w.heap.size ≤ D → ¬ Φ D → W.heap[D]? = some (.deferred (some [])) → Q .normal { a with defers := { target := .collected D, args := #[] } :: a.defers } W)
    (hstop : ∀ (D : Nat) (Φ : FP) (c : Code) (pre : List α) (W : World), pre <+: xs → Ix c pre Φ W → Only Ψ (fun _ => False) w W → w.heap.size ≤ D → ¬ Φ D → W.heap[D]? = some (.deferred (some [])) → c.wpIn Fence.wide (n + 2) P Q { a with defers := { target := .collected D, args := #[] } :: a.defers } W) :
    (Code.rangeFunc g ps assign body).wpIn Fence.wide (n + 2) P Q a w := by
  refine wpIn_rangeFunc ?_
  intro fn hfn
  obtain ⟨W1, hW1⟩ : ∃ W1, (w.alloc (.deferred (some []))).alloc (.loop (recOf fn a.tmps ps assign body w.heap.size .ready none)) = W1 := ⟨_, rfl⟩
  have hL1 : W1.heap[w.heap.size + 1]? = some (.loop (recOf fn a.tmps ps assign body w.heap.size .ready none)) := by
    rw [← hW1]; have := World.alloc_heap_new (w.alloc (.deferred (some []))) (.loop (recOf fn a.tmps ps assign body w.heap.size .ready none)); rwa [World.size_alloc] at this
  have hK1 : W1.heap[w.heap.size]? = some (.deferred (some [])) := by
    rw [← hW1]; exact (Below.heap_alloc _ _ _ (by simp)).trans (World.alloc_heap_new w _)
  have hB1 : Below w.heap.size w W1 := by rw [← hW1]; exact ((Below.refl _ w).alloc (Nat.le_refl _) _).alloc (by simp) _
  have hsz : W1.heap.size = w.heap.size + 2 := by rw [← hW1]; simp
  have hi1 : I [] (fun _ => False) W1 := (hI _ _ _ h0).2.2 _ (Grow.of_below hB1) (fun k hk => hk.elim (fun h => hB1.block k h) (fun h => h.elim))
  refine ⟨w.heap.size + 1, [{ target := .collected w.heap.size, args := #[] }], W1, { target := .fn (.func gf) lb, args := #[.func (.yield (w.heap.size + 1)) #[] #[]] }, W1, gf,
    #[.func (.yield (w.heap.size + 1)) #[] #[]] ++ lb, W1, ?_, ?_, ?_, ?_, fun h => by simp [Fence.wide] at h, ?_⟩
  · rw [← hW1]; exact run_enterLoop_outer _ _ _ _ _
  · simp only [resolve, hg]
    simp [go_sem]
  · intro f' hf'; simp [Target.leads] at hf'; subst hf'; trivial
  · simp [invoke, go_sem, eg]
  · have hD : ∀ d, some w.heap.size = some d → w.heap.size ≤ d ∧ d < w.heap.size + 1 := fun d hd => by cases hd; omega
    refine (hit (w.heap.size + 1) (w.heap.size + 2) (fun k => Ψ k ∨ k = w.heap.size + 1) (InvJ I (w.heap.size + 1) (some w.heap.size) (recOf fn a.tmps ps assign body w.heap.size .ready none))
      (fun pre Φ W => ∃ c, InvJ (Ix c) (w.heap.size + 1) (some w.heap.size) (recOf fn a.tmps ps assign body w.heap.size .done (some c)) pre Φ W) (fun _ => False) W1 (hg0.trans (Grow.of_below hB1))
      (fun k hk => ⟨(hG k hk).1, (hB1.block k (Nat.lt_of_lt_of_le (hG k hk).1 hg0.size)).trans (hG k hk).2⟩) (fun k hk => ?_) (InvJ.stab hI (by omega) (fun d hd => (hD d hd).2)) ?_ ?_ ⟨hi1, fun _ h => h.elim, hL1, fun d hd => by cases hd; exact hK1⟩).mono ?_
    · rcases hk with h | h
      · have := hΨ k h; omega
      · omega
    · rintro pre Φ W ⟨c, hc⟩
      obtain ⟨h1, h2, h3⟩ := InvJ.stab (hIx c) (by omega) (fun d hd => (hD d hd).2) _ _ _ hc
      exact ⟨h1, h2, fun W' hg' hk => ⟨c, h3 W' hg' hk⟩⟩
    · intro pre x Φ W hpx hJ
      exact round_of_bodyA hI hIx (by omega) hΨ hps hD aOf At hAt hJ (fun W K hK => hassign _ x W K hK) (fun N W hi hΦ hr h1 h2 h3 => hbody _ pre x Φ N W hpx hi (by omega) hΦ hr h1 h2 h3)
    · have fine : ∀ W2, Only (fun k => Ψ k ∨ k = w.heap.size + 1) (fun _ => False) W1 W2 → ∀ r, Only Ψ (fun _ => False) w (W2.putObj (w.heap.size + 1) (.loop r)) := fun W2 ho r =>
        ⟨((Grow.of_below hB1).trans ho.grow).trans (put_grow _ _ _), fun k hk h1 h2 => (put_other (by omega)).trans ((ho.block k (by omega) (fun h => h.elim h1 (by omega)) h2).trans (hB1.block k hk))⟩
      rintro e W2 ⟨⟨v, rfl⟩, Φ', hn, ho, (⟨hi, hΦ, hl, hk⟩ | ⟨pre, hpre, c, hi, hΦ, hl, hk⟩)⟩
      · have hnD : ¬ Φ' w.heap.size := fun h => by have := hΦ _ h; omega
        refine ⟨none, _, run_endLoop (P := P) hl (by simp [recOf]), hdone _ Φ' _ ?_ (fine W2 ho _) (Nat.le_refl _) hnD ((put_other (by omega)).trans (hk _ rfl))⟩
        exact (hI _ _ _ hi).2.2 _ (put_grow _ _ _) (fun k hk' => put_other (hk'.elim (fun h => by omega) (fun h => by have := hΦ k h; omega)))
      · have hnD : ¬ Φ' w.heap.size := fun h => by have := hΦ _ h; omega
        refine ⟨some c, _, run_endLoop (P := P) hl (by simp [recOf]), hstop _ Φ' c pre _ hpre ?_ (fine W2 ho _) (Nat.le_refl _) hnD ((put_other (by omega)).trans (hk _ rfl))⟩
        exact (hIx c _ _ _ hi).2.2 _ (put_grow _ _ _) (fun k hk' => put_other (hk'.elim (fun h => by omega) (fun h => by have := hΦ k h; omega)))

end
end Go.Proofs.YtcfcfijmfgnpfaaGreatDoor
end

section
namespace Go.Proofs.YtcfcfijmfgnpfaaGreatDoor
open Go.RowKit
set_option linter.unusedVariables false
section
variable {P : Program} {α : Type}
theorem range_outerAI {n : Nat} {g : Operand} {ps : Array Tmp} {assign body : Code} {Q : Exit → Act → World → Prop} {a : Act} {w : World} {gf : Nat} {lb : Array Value} (hg : a.eval g = .func (.func gf) #[] lb) (eg : ∀ args w, (callFunc gf args).run P w = .ok (.enter gf args) w)
    {encs : α → Array Value} {xs : List α} {G : FP} {w0 : World} (hit : Iter P n gf lb encs xs G w0) (hg0 : Grow w0 w) (hG : ∀ k, G k → k < w0.heap.size ∧ w.heap[k]? = w0.heap[k]?) (hps : ∀ x, (encs x).size = ps.size)
    (Ψ : FP) (hΨ : ∀ k, Ψ k → k < w.heap.size ∧ ¬ G k) (I : List α → FP → World → Prop) (Ix : Code → List α → FP → World → Prop) (hI : Stab w.heap.size I) (hIx : ∀ c, Stab w.heap.size (Ix c)) (h0 : I [] (fun _ => False) w) (aOf : α → Nat → Act) (At : α → Nat → World → Prop) (hAt : ∀ x N W W', At x N W → W'.heap[N]? = W.heap[N]? → At x N W')
    (hassign : ∀ (l : Nat) (x : α) (W : World) (K : Act → World → Prop), (∀ W', Below W.heap.size W W' → W.heap.size < W'.heap.size → At x W.heap.size W' → K (aOf x W.heap.size) W') → assign.wpIn (Fence.wide.inRound l) n P (Exit.then K (fun _ _ _ => False)) { tmps := (ps.zip (encs x)).foldl (fun t (p, v) => t.setIfInBounds p v) a.tmps, defers := [] } W)
    (hbody : ∀ (l : Nat) (pre : List α) (x : α) (Φ : FP) (N : Nat) (W : World), (pre ++ [x]) <+: xs → I pre Φ W → w.heap.size < l → (∀ k, Φ k → l + 1 ≤ k ∧ k < N) → (∃ r, W.heap[l]? = some (.loop r)) → l < N → N < W.heap.size → At x N W → body.wpIn (Fence.wide.inRound l) n P (bodyI Ψ Φ I Ix (pre ++ [x]) W) (aOf x N) W)
    (hdone : ∀ (D : Nat) (Φ : FP) (W : World), I xs Φ W → Only Ψ (fun _ => False) w W → w.heap.size ≤ D → ¬ Φ D → W.heap[D]? = some (.deferred (some [])) → Q .normal { a with defers := { target := .collected D, args := #[] } :: a.defers } W)
    (hstop : ∀ (D : Nat) (Φ : FP) (c : Code) (pre : List α) (W : World), pre <+: xs → Ix c pre Φ W → Only Ψ (fun _ => False) w W → w.heap.size ≤ D → ¬ Φ D → W.heap[D]? = some (.deferred (some [])) → c.wpIn Fence.wide (n + 2) P Q { a with defers := { target := .collected D, args := #[] } :: a.defers } W) :
    (Code.rangeFunc g ps assign body).wpIn Fence.wide (n + 2) P Q a w := by
  refine wpIn_rangeFunc ?_
  intro fn hfn
  obtain ⟨W1, hW1⟩ : ∃ W1, (w.alloc (.deferred (some []))).alloc (.loop (recOf fn a.tmps ps assign body w.heap.size .ready none)) = W1 := ⟨_, rfl⟩
  have hL1 : W1.heap[w.heap.size + 1]? = some (.loop (recOf fn a.tmps ps assign body w.heap.size .ready none)) := by
    rw [← hW1]; have := World.alloc_heap_new (w.alloc (.deferred (some []))) (.loop (recOf fn a.tmps ps assign body w.heap.size .ready none)); rwa [World.size_alloc] at this
  have hK1 : W1.heap[w.heap.size]? = some (.deferred (some [])) := by
    rw [← hW1]; exact (Below.heap_alloc _ _ _ (by simp)).trans (World.alloc_heap_new w _)
  have hB1 : Below w.heap.size w W1 := by rw [← hW1]; exact ((Below.refl _ w).alloc (Nat.le_refl _) _).alloc (by simp) _
  have hsz : W1.heap.size = w.heap.size + 2 := by rw [← hW1]; simp
  have hi1 : I [] (fun _ => False) W1 := (hI _ _ _ h0).2.2 _ (Grow.of_below hB1) (fun k hk => hk.elim (fun h => hB1.block k h) (fun h => h.elim))
  refine ⟨w.heap.size + 1, [{ target := .collected w.heap.size, args := #[] }], W1, { target := .fn (.func gf) lb, args := #[.func (.yield (w.heap.size + 1)) #[] #[]] }, W1, gf,
    #[.func (.yield (w.heap.size + 1)) #[] #[]] ++ lb, W1, ?_, ?_, ?_, ?_, fun h => by simp [Fence.wide] at h, ?_⟩
  · rw [← hW1]; exact run_enterLoop_outer _ _ _ _ _
  · simp only [resolve, hg]
    simp [go_sem]
  · intro f' hf'; simp [Target.leads] at hf'; subst hf'; trivial
  · simp [invoke, go_sem, eg]
  · have hD : ∀ d, some w.heap.size = some d → w.heap.size ≤ d ∧ d < w.heap.size + 1 := fun d hd => by cases hd; omega
    refine (hit (w.heap.size + 1) (w.heap.size + 2) (fun k => Ψ k ∨ k = w.heap.size + 1) (InvJ I (w.heap.size + 1) (some w.heap.size) (recOf fn a.tmps ps assign body w.heap.size .ready none))
      (fun pre Φ W => ∃ c, InvJ (Ix c) (w.heap.size + 1) (some w.heap.size) (recOf fn a.tmps ps assign body w.heap.size .done (some c)) pre Φ W) (fun _ => False) W1 (hg0.trans (Grow.of_below hB1))
      (fun k hk => ⟨(hG k hk).1, (hB1.block k (Nat.lt_of_lt_of_le (hG k hk).1 hg0.size)).trans (hG k hk).2⟩) (fun k hk => ?_) (fun _ h => h.elim) (InvJ.stab hI (by omega) (fun d hd => (hD d hd).2)) ?_ ?_ ⟨hi1, fun _ h => h.elim, hL1, fun d hd => by cases hd; exact hK1⟩).mono ?_
    · rcases hk with h | h
      · exact ⟨by have := (hΨ k h).1; omega, (hΨ k h).2⟩
      · exact ⟨by omega, fun hg' => by have := (hG k hg').1; have := hg0.size; omega⟩
    · rintro pre Φ W ⟨c, hc⟩
      obtain ⟨h1, h2, h3⟩ := InvJ.stab (hIx c) (by omega) (fun d hd => (hD d hd).2) _ _ _ hc
      exact ⟨h1, h2, fun W' hg' hk => ⟨c, h3 W' hg' hk⟩⟩
    · intro pre x Φ W hpx hJ
      exact round_of_bodyA hI hIx (by omega) (fun k hk => (hΨ k hk).1) hps hD aOf At hAt hJ (fun W K hK => hassign _ x W K hK) (fun N W hi hΦ hr h1 h2 h3 => hbody _ pre x Φ N W hpx hi (by omega) hΦ hr h1 h2 h3)
    · have fine : ∀ W2, Only (fun k => Ψ k ∨ k = w.heap.size + 1) (fun _ => False) W1 W2 → ∀ r, Only Ψ (fun _ => False) w (W2.putObj (w.heap.size + 1) (.loop r)) := fun W2 ho r =>
        ⟨((Grow.of_below hB1).trans ho.grow).trans (put_grow _ _ _), fun k hk h1 h2 => (put_other (by omega)).trans ((ho.block k (by omega) (fun h => h.elim h1 (by omega)) h2).trans (hB1.block k hk))⟩
      rintro e W2 ⟨⟨v, rfl⟩, Φ', hn, ho, (⟨hi, hΦ, hl, hk⟩ | ⟨pre, hpre, c, hi, hΦ, hl, hk⟩)⟩
      · have hnD : ¬ Φ' w.heap.size := fun h => by have := hΦ _ h; omega
        refine ⟨none, _, run_endLoop (P := P) hl (by simp [recOf]), hdone _ Φ' _ ?_ (fine W2 ho _) (Nat.le_refl _) hnD ((put_other (by omega)).trans (hk _ rfl))⟩
        exact (hI _ _ _ hi).2.2 _ (put_grow _ _ _) (fun k hk' => put_other (hk'.elim (fun h => by omega) (fun h => by have := hΦ k h; omega)))
      · have hnD : ¬ Φ' w.heap.size := fun h => by have := hΦ _ h; omega
        refine ⟨some c, _, run_endLoop (P := P) hl (by simp [recOf]), hstop _ Φ' c pre _ hpre ?_ (fine W2 ho _) (Nat.le_refl _) hnD ((put_other (by omega)).trans (hk _ rfl))⟩
        exact (hIx c _ _ _ hi).2.2 _ (put_grow _ _ _) (fun k hk' => put_other (hk'.elim (fun h => by omega) (fun h => by have := hΦ k h; omega)))

end
end Go.Proofs.YtcfcfijmfgnpfaaGreatDoor
end

section
namespace Go.Proofs.YtcfcfijmfgnpfaaGreatDoor
open Go.RowKit
set_option linter.unusedVariables false
/-- AN ITERATOR's PROMISE: function gf, which has captured lb, tells what 'ok' lets, in the end what 'fin' says, to whatever body, till that says no; its data lie in the blocks of G, as they lay in w. -/
def IterS {α : Type} (P : Program) (n : Nat) (gf : Nat) (lb : Array Value) (encs : α → Array Value) (ok fin : List α → Prop) (G : FP) (w : World) : Prop :=
  ∀ (l B : Nat) (Ψ : FP) (J Jx : List α → FP → World → Prop) (Φ0 : FP) (W : World), Grow w W → (∀ k, G k → k < w.heap.size ∧ W.heap[k]? = w.heap[k]?) → (∀ k, Ψ k → k < B ∧ ¬ G k) → (∀ k, Φ0 k → ¬ G k) → Stab B J → Stab B Jx →
    (∀ pre x Φ W1, ok (pre ++ [x]) → J pre Φ W1 → RoundOk P n l encs Ψ J Jx pre x Φ W1) → J [] Φ0 W →
    CallsIn Fence.wide (n + 1) P gf (#[.func (.yield l) #[] #[]] ++ lb) W fun e W' => (∃ v, e = .returned v) ∧ Leaves Ψ Φ0 W (fun Φ' W' => (∃ ys, fin ys ∧ J ys Φ' W') ∨ ∃ pre, ok pre ∧ Jx pre Φ' W') W'

section
variable {P : Program} {α : Type}
theorem range_outerAS {n : Nat} {g : Operand} {ps : Array Tmp} {assign body : Code} {Q : Exit → Act → World → Prop} {a : Act} {w : World} {gf : Nat} {lb : Array Value} (hg : a.eval g = .func (.func gf) #[] lb) (eg : ∀ args w, (callFunc gf args).run P w = .ok (.enter gf args) w)
    {encs : α → Array Value} {ok fin : List α → Prop} {G : FP} {w0 : World} (hit : IterS P n gf lb encs ok fin G w0) (hg0 : Grow w0 w) (hG : ∀ k, G k → k < w0.heap.size ∧ w.heap[k]? = w0.heap[k]?) (hps : ∀ x, (encs x).size = ps.size)
    (Ψ : FP) (hΨ : ∀ k, Ψ k → k < w.heap.size ∧ ¬ G k) (I : List α → FP → World → Prop) (Ix : Code → List α → FP → World → Prop) (hI : Stab w.heap.size I) (hIx : ∀ c, Stab w.heap.size (Ix c)) (h0 : I [] (fun _ => False) w) (aOf : α → Nat → Act) (At : α → Nat → World → Prop) (hAt : ∀ x N W W', At x N W → W'.heap[N]? = W.heap[N]? → At x N W')
    (hassign : ∀ (l : Nat) (x : α) (W : World) (K : Act → World → Prop), (∀ W', Below W.heap.size W W' → W.heap.size < W'.heap.size → At x W.heap.size W' → K (aOf x W.heap.size) W') → assign.wpIn (Fence.wide.inRound l) n P (Exit.then K (fun _ _ _ => False)) { tmps := (ps.zip (encs x)).foldl (fun t (p, v) => t.setIfInBounds p v) a.tmps, defers := [] } W)
    (hbody : ∀ (l : Nat) (pre : List α) (x : α) (Φ : FP) (N : Nat) (W : World), ok (pre ++ [x]) → I pre Φ W → w.heap.size < l → (∀ k, Φ k → l + 1 ≤ k ∧ k < N) → (∃ r, W.heap[l]? = some (.loop r)) → l < N → N < W.heap.size → At x N W → body.wpIn (Fence.wide.inRound l) n P (bodyI Ψ Φ I Ix (pre ++ [x]) W) (aOf x N) W)
    (hdone : ∀ (D : Nat) (Φ : FP) (W : World) (ys : List α), fin ys → I ys Φ W → Only Ψ (fun _ => False) w W → w.heap.size ≤ D → ¬ Φ D → W.heap[D]? = some (.deferred (some [])) → Q .normal { a with defers := { target := .collected D, args := #[] } :: a.defers } W)
    (hstop : ∀ (D : Nat) (Φ : FP) (c : Code) (pre : List α) (W : World), ok pre → Ix c pre Φ W → Only Ψ (fun _ => False) w W → w.heap.size ≤ D → ¬ Φ D → W.heap[D]? = some (.deferred (some [])) → c.wpIn Fence.wide (n + 2) P Q { a with defers := { target := .collected D, args := #[] } :: a.defers } W) :
    (Code.rangeFunc g ps assign body).wpIn Fence.wide (n + 2) P Q a w := by
  refine wpIn_rangeFunc ?_
  intro fn hfn
  obtain ⟨W1, hW1⟩ : ∃ W1, (w.alloc (.deferred (some []))).alloc (.loop (recOf fn a.tmps ps assign body w.heap.size .ready none)) = W1 := ⟨_, rfl⟩
  have hL1 : W1.heap[w.heap.size + 1]? = some (.loop (recOf fn a.tmps ps assign body w.heap.size .ready none)) := by
    rw [← hW1]; have := World.alloc_heap_new (w.alloc (.deferred (some []))) (.loop (recOf fn a.tmps ps assign body w.heap.size .ready none)); rwa [World.size_alloc] at this
  have hK1 : W1.heap[w.heap.size]? = some (.deferred (some [])) := by
    rw [← hW1]; exact (Below.heap_alloc _ _ _ (by simp)).trans (World.alloc_heap_new w _)
  have hB1 : Below w.heap.size w W1 := by rw [← hW1]; exact ((Below.refl _ w).alloc (Nat.le_refl _) _).alloc (by simp) _
  have hsz : W1.heap.size = w.heap.size + 2 := by rw [← hW1]; simp
  have hi1 : I [] (fun _ => False) W1 := (hI _ _ _ h0).2.2 _ (Grow.of_below hB1) (fun k hk => hk.elim (fun h => hB1.block k h) (fun h => h.elim))
  refine ⟨w.heap.size + 1, [{ target := .collected w.heap.size, args := #[] }], W1, { target := .fn (.func gf) lb, args := #[.func (.yield (w.heap.size + 1)) #[] #[]] }, W1, gf,
    #[.func (.yield (w.heap.size + 1)) #[] #[]] ++ lb, W1, ?_, ?_, ?_, ?_, fun h => by simp [Fence.wide] at h, ?_⟩
  · rw [← hW1]; exact run_enterLoop_outer _ _ _ _ _
  · simp only [resolve, hg]
    simp [go_sem]
  · intro f' hf'; simp [Target.leads] at hf'; subst hf'; trivial
  · simp [invoke, go_sem, eg]
  · have hD : ∀ d, some w.heap.size = some d → w.heap.size ≤ d ∧ d < w.heap.size + 1 := fun d hd => by cases hd; omega
    refine (hit (w.heap.size + 1) (w.heap.size + 2) (fun k => Ψ k ∨ k = w.heap.size + 1) (InvJ I (w.heap.size + 1) (some w.heap.size) (recOf fn a.tmps ps assign body w.heap.size .ready none))
      (fun pre Φ W => ∃ c, InvJ (Ix c) (w.heap.size + 1) (some w.heap.size) (recOf fn a.tmps ps assign body w.heap.size .done (some c)) pre Φ W) (fun _ => False) W1 (hg0.trans (Grow.of_below hB1))
      (fun k hk => ⟨(hG k hk).1, (hB1.block k (Nat.lt_of_lt_of_le (hG k hk).1 hg0.size)).trans (hG k hk).2⟩) (fun k hk => ?_) (fun _ h => h.elim) (InvJ.stab hI (by omega) (fun d hd => (hD d hd).2)) ?_ ?_ ⟨hi1, fun _ h => h.elim, hL1, fun d hd => by cases hd; exact hK1⟩).mono ?_
    · rcases hk with h | h
      · exact ⟨by have := (hΨ k h).1; omega, (hΨ k h).2⟩
      · exact ⟨by omega, fun hg' => by have := (hG k hg').1; have := hg0.size; omega⟩
    · rintro pre Φ W ⟨c, hc⟩
      obtain ⟨h1, h2, h3⟩ := InvJ.stab (hIx c) (by omega) (fun d hd => (hD d hd).2) _ _ _ hc
      exact ⟨h1, h2, fun W' hg' hk => ⟨c, h3 W' hg' hk⟩⟩
    · intro pre x Φ W hpx hJ
      exact round_of_bodyA hI hIx (by omega) (fun k hk => (hΨ k hk).1) hps hD aOf At hAt hJ (fun W K hK => hassign _ x W K hK) (fun N W hi hΦ hr h1 h2 h3 => hbody _ pre x Φ N W hpx hi (by omega) hΦ hr h1 h2 h3)
    · have fine : ∀ W2, Only (fun k => Ψ k ∨ k = w.heap.size + 1) (fun _ => False) W1 W2 → ∀ r, Only Ψ (fun _ => False) w (W2.putObj (w.heap.size + 1) (.loop r)) := fun W2 ho r =>
        ⟨((Grow.of_below hB1).trans ho.grow).trans (put_grow _ _ _), fun k hk h1 h2 => (put_other (by omega)).trans ((ho.block k (by omega) (fun h => h.elim h1 (by omega)) h2).trans (hB1.block k hk))⟩
      rintro e W2 ⟨⟨v, rfl⟩, Φ', hn, ho, (⟨ys, hys, hi, hΦ, hl, hk⟩ | ⟨pre, hpre, c, hi, hΦ, hl, hk⟩)⟩
      · have hnD : ¬ Φ' w.heap.size := fun h => by have := hΦ _ h; omega
        refine ⟨none, _, run_endLoop (P := P) hl (by simp [recOf]), hdone _ Φ' _ ys hys ?_ (fine W2 ho _) (Nat.le_refl _) hnD ((put_other (by omega)).trans (hk _ rfl))⟩
        exact (hI _ _ _ hi).2.2 _ (put_grow _ _ _) (fun k hk' => put_other (hk'.elim (fun h => by omega) (fun h => by have := hΦ k h; omega)))
      · have hnD : ¬ Φ' w.heap.size := fun h => by have := hΦ _ h; omega
        refine ⟨some c, _, run_endLoop (P := P) hl (by simp [recOf]), hstop _ Φ' c pre _ hpre ?_ (fine W2 ho _) (Nat.le_refl _) hnD ((put_other (by omega)).trans (hk _ rfl))⟩
        exact (hIx c _ _ _ hi).2.2 _ (put_grow _ _ _) (fun k hk' => put_other (hk'.elim (fun h => by omega) (fun h => by have := hΦ k h; omega)))

end
end Go.Proofs.YtcfcfijmfgnpfaaGreatDoor
end

section
namespace Go.Proofs.YtcfcfijmfgnpfaaGreatDoor
open Go.RowKit Go.Maps
set_option linter.unusedVariables false
set_option linter.unusedSimpArgs false

section
variable {P : Program} {w : World} {ops : Array Oper} {rest : List Oper} {o : Oper} {a : Act} {Q : Exit → Act → World → Prop}
theorem wpl_look (hg : o.guard = none) (m x : Operand) (t : TypeId) (c : Bool) (hop : o.op = Op.lookup t m x c) {mv kv r : Value} (hm : a.eval m = mv) (hx : a.eval x = kv) (hr : (Instr.lookup t mv kv c).run P w = .ok r w)
    (h : wpList P ops Q rest (a.put o.dst r) w) : wpList P ops Q (o :: rest) a w := by
  refine wpList_plain hg fun K hK => ?_
  unfold Oper.wp
  simp [execOp, hop, hm, hx, hr, Result.andThen]
  exact hK _ _ h
theorem wpl_upd {w' : World} (hg : o.guard = none) (m x v : Operand) (t : TypeId) (hop : o.op = Op.mapUpdate t m x v) {mv kv vv : Value} (hm : a.eval m = mv) (hx : a.eval x = kv) (hv : a.eval v = vv) (hr : (Instr.mapUpdate t mv kv vv).run P w = .ok () w')
    (h : wpList P ops Q rest (a.put o.dst undef) w') : wpList P ops Q (o :: rest) a w := by
  refine wpList_plain hg fun K hK => ?_
  unfold Oper.wp
  simp [execOp, hop, hm, hx, hv, hr, Result.andThen]
  exact hK _ _ h
theorem wpl_drop {w' : World} (hg : o.guard = none) (m x : Operand) (t k : TypeId) (hop : o.op = Op.call { callee := Callee.builtin Builtin.delete, args := #[m, x], argTypes := #[t, k] }) {mv kv : Value} (hm : a.eval m = mv) (hx : a.eval x = kv) (hr : (Builtin.delete_ #[t, k] o.type #[mv, kv]).run P w = .ok (.tuple #[]) w')
    (h : wpList P ops Q rest (a.put o.dst (.tuple #[])) w') : wpList P ops Q (o :: rest) a w := by
  refine wpList_plain hg fun K hK => ?_
  unfold Oper.wp
  simp [execOp, hop, resolve, invoke, builtin, hm, hx, hr, Result.andThen]
  exact hK _ _ h
theorem wpl_len (hg : o.guard = none) (m : Operand) (t : TypeId) (hop : o.op = Op.call { callee := Callee.builtin Builtin.len, args := #[m], argTypes := #[t] }) {mv r : Value} (hm : a.eval m = mv) (hr : (Builtin.len_ #[t] o.type #[mv]).run P w = .ok r w)
    (h : wpList P ops Q rest (a.put o.dst r) w) : wpList P ops Q (o :: rest) a w := by
  refine wpList_plain hg fun K hK => ?_
  unfold Oper.wp
  simp [execOp, hop, resolve, invoke, builtin, hm, hr, Result.andThen]
  exact hK _ _ h
theorem wplIn_look {F : Fence} {nF : Nat} (hg : o.guard = none) (m x : Operand) (t : TypeId) (c : Bool) (hop : o.op = Op.lookup t m x c) {mv kv r : Value} (hm : a.eval m = mv) (hx : a.eval x = kv) (hr : (Instr.lookup t mv kv c).run P w = .ok r w)
    (h : wpListIn F nF P ops Q rest (a.put o.dst r) w) : wpListIn F nF P ops Q (o :: rest) a w := by
  refine wpListIn_plain hg fun K hK => ?_
  unfold Oper.wpIn
  refine ⟨by simp [Oper.about, hop], ?_⟩
  rw [Oper.semAt_plain F _ _ (by rw [hop]; intro c hc'; cases hc')]
  simp [execOp, hop, hm, hx, hr, Result.andThen]
  exact hK _ _ h
end

/-- B is a map whose elements are maps: at a the one that holds rows a, where that is not empty. -/
structure OutAt {β : Type} (c : Cod β) (B : Nat) (rm : List (Int × Option Nat)) (rows : Int → List (Int × β)) (w : World) : Prop where
  map : MapAt codM B rm w
  has : ∀ a, rows a ≠ [] → ∃ b, sget rm a = some (some b)
  at_ : ∀ a x, sget rm a = some x → ∃ b, x = some b ∧ rows a ≠ [] ∧ b ≠ B ∧ MapAt c b (rows a) w
  inj : ∀ a a' b, sget rm a = some (some b) → sget rm a' = some (some b) → a = a'

/-- Its blocks. -/
def oblk (B : Nat) (rm : List (Int × Option Nat)) : FP := fun k => k = B ∨ ∃ a, sget rm a = some (some k)

section
variable {β : Type} {c : Cod β} {B : Nat} {rm : List (Int × Option Nat)} {rows : Int → List (Int × β)} {w : World}
theorem OutAt.block {w' : World} (h : OutAt c B rm rows w) (hb : ∀ k, oblk B rm k → w'.heap[k]? = w.heap[k]?) : OutAt c B rm rows w' := by
  refine ⟨h.map.block (hb B (.inl rfl)), h.has, fun a x hx => ?_, h.inj⟩
  obtain ⟨b, rfl, h1, h2, h3⟩ := h.at_ a x hx
  exact ⟨b, rfl, h1, h2, h3.block (hb b (.inr ⟨a, hx⟩))⟩
theorem OutAt.lt (h : OutAt c B rm rows w) {k : Nat} (hk : oblk B rm k) : k < w.heap.size := by
  rcases hk with rfl | ⟨a, ha⟩
  · exact h.map.lt
  · obtain ⟨b, e, _, _, h3⟩ := h.at_ a _ ha
    cases e
    exact h3.lt
theorem OutAt.isMap (h : OutAt c B rm rows w) {k : Nat} (hk : oblk B rm k) : ∃ es clock, w.heap[k]? = some (.map es clock) := by
  rcases hk with rfl | ⟨a, ha⟩
  · exact h.map.isMap
  · obtain ⟨b, e, _, _, h3⟩ := h.at_ a _ ha
    cases e
    exact h3.isMap
theorem OutAt.made (c : Cod β) (w : World) : OutAt c w.heap.size [] (fun _ => []) (w.alloc (.map #[] 0)) :=
  ⟨MapAt.made _ _, fun a h => absurd rfl h, fun a x h => by simp [sget] at h, fun a a' b h => by simp [sget] at h⟩
theorem OutAt.congr {rows' : Int → List (Int × β)} (h : OutAt c B rm rows w) (e : ∀ a, rows' a = rows a) : OutAt c B rm rows' w := by
  have : rows' = rows := funext e
  rw [this]; exact h
/-- What the lookup of a row finds. -/
theorem OutAt.isNil (h : OutAt c B rm rows w) {a : Int} (e : sget rm a = none) : rows a = [] := by
  by_cases hr : rows a = []
  · exact hr
  · obtain ⟨b, hb⟩ := h.has a hr
    rw [e] at hb; cases hb
theorem OutAt.keys (h : OutAt c B rm rows w) (a : Int) : a ∈ rm.map (·.1) ↔ rows a ≠ [] := by
  constructor
  · intro hm
    obtain ⟨⟨a', x⟩, hx, rfl⟩ := List.mem_map.1 hm
    obtain ⟨b, _, h1, _⟩ := h.at_ _ x (h.map.srt.get.2 hx)
    exact h1
  · intro hr
    obtain ⟨b, hb⟩ := h.has a hr
    exact List.mem_map.2 ⟨_, sget_mem hb, rfl⟩
/-- A row is written: it was there. -/
theorem OutAt.upd {w' : World} {a : Int} {b : Nat} {r' : List (Int × β)} (h : OutAt c B rm rows w) (hb : sget rm a = some (some b)) (hr : r' ≠ []) (hm : MapAt c b r' w') (hg : w.grownBy w' (some b)) : OutAt c B rm (fun i => if i = a then r' else rows i) w' := by
  have hB : b ≠ B := by obtain ⟨b', e, _, h2, _⟩ := h.at_ a _ hb; cases e; exact h2
  refine ⟨h.map.kept hg (by simp; exact fun e => hB e.symm), fun i hi => ?_, fun i x hx => ?_, h.inj⟩
  · by_cases e : i = a
    · subst e; exact ⟨b, hb⟩
    · simp only [e, if_false] at hi; exact h.has i hi
  · by_cases e : i = a
    · subst e
      rw [hb] at hx; cases hx
      exact ⟨b, rfl, by simpa using hr, hB, by simpa using hm⟩
    · obtain ⟨b', rfl, h1, h2, h3⟩ := h.at_ i x hx
      refine ⟨b', rfl, by simpa [e] using h1, h2, ?_⟩
      simp only [e, if_false]
      refine h3.kept hg ?_
      simp only [ne_eq, Option.some.injEq]
      rintro rfl
      exact e (h.inj i a _ hx hb)
/-- A row is laid: it was not there. -/
theorem OutAt.lay {w' : World} {a : Int} {b : Nat} {r' : List (Int × β)} (h : OutAt c B rm rows w) (hb : sget rm a = none) (hm' : MapAt codM B (sput rm a (some b)) w') (hbB : b ≠ B) (hfresh : w.heap.size ≤ b) (hr : r' ≠ []) (hm : MapAt c b r' w') (hk : ∀ k, k < w.heap.size → k ≠ B → w'.heap[k]? = w.heap[k]?) :
    OutAt c B (sput rm a (some b)) (fun i => if i = a then r' else rows i) w' := by
  have hnew : ∀ i, sget rm i ≠ some (some b) := fun i hi => by
    have := h.lt (.inr ⟨i, hi⟩); omega
  refine ⟨hm', fun i hi => ?_, fun i x hx => ?_, fun i j b' hi hj => ?_⟩
  · rw [h.map.srt.get_put]
    by_cases e : i = a
    · subst e; exact ⟨b, by simp⟩
    · simp only [e, if_false] at hi ⊢; exact h.has i hi
  · rw [h.map.srt.get_put] at hx
    by_cases e : i = a
    · subst e
      simp at hx; subst hx
      exact ⟨b, rfl, by simpa using hr, hbB, by simpa using hm⟩
    · simp only [e, if_false] at hx ⊢
      obtain ⟨b', rfl, h1, h2, h3⟩ := h.at_ i x hx
      exact ⟨b', rfl, h1, h2, h3.block (hk b' h3.lt h2)⟩
  · rw [h.map.srt.get_put] at hi hj
    by_cases e : i = a <;> by_cases e' : j = a
    · rw [e, e']
    · simp only [e, e', if_true, if_false, Option.some.injEq] at hi hj
      subst hi
      exact absurd hj (hnew j)
    · simp only [e, e', if_true, if_false, Option.some.injEq] at hi hj
      subst hj
      exact absurd hi (hnew i)
    · simp only [e, e', if_false] at hi hj
      exact h.inj i j b' hi hj
/-- A row is gone. -/
theorem OutAt.gone {w' : World} {a : Int} {b : Nat} (h : OutAt c B rm rows w) (hb : sget rm a = some (some b)) (hm' : MapAt codM B (sdel rm a) w') (hk : ∀ k, k < w.heap.size → k ≠ B → k ≠ b → w'.heap[k]? = w.heap[k]?) :
    OutAt c B (sdel rm a) (fun i => if i = a then [] else rows i) w' := by
  refine ⟨hm', fun i hi => ?_, fun i x hx => ?_, fun i j b' hi hj => ?_⟩
  · rw [h.map.srt.get_del]
    by_cases e : i = a
    · subst e; simp at hi
    · simp only [e, if_false] at hi ⊢; exact h.has i hi
  · rw [h.map.srt.get_del] at hx
    by_cases e : i = a
    · subst e; simp at hx
    · simp only [e, if_false] at hx ⊢
      obtain ⟨b', rfl, h1, h2, h3⟩ := h.at_ i x hx
      refine ⟨b', rfl, h1, h2, h3.block (hk b' h3.lt h2 ?_)⟩
      rintro rfl
      exact e (h.inj i a _ hx hb)
  · rw [h.map.srt.get_del] at hi hj
    by_cases e : i = a
    · simp [e] at hi
    · by_cases e' : j = a
      · simp [e'] at hj
      · simp only [e, e', if_false] at hi hj
        exact h.inj i j b' hi hj
end
end Go.Proofs.YtcfcfijmfgnpfaaGreatDoor
end

section
namespace Go.Proofs.YtcfcfijmfgnpfaaGreatDoor
open Go.RowKit Go.Maps
set_option linter.unusedVariables false
set_option linter.unusedSimpArgs false

theorem sput_ne {β : Type} (m : List (Int × β)) (k : Int) (v : β) : sput m k v ≠ [] := List.ne_nil_of_mem (mem_sput.2 (.inl rfl))
theorem only_grown {w w' : World} {B : Nat} {Ψ : FP} (hg : w.grownBy w' (some B)) (hΨ : Ψ B) : Only Ψ (fun _ => False) w w' :=
  ⟨⟨hg.os, hg.tape, hg.output, hg.size⟩, fun k hk h1 _ => hg.block k hk (fun e => by cases e; exact h1 hΨ)⟩
theorem only_alloc {w : World} (o : Obj) {Ψ : FP} : Only Ψ (fun _ => False) w (w.alloc o) := Only.of_later ((Below.refl _ w).alloc (Nat.le_refl _) o)
theorem only_trans {Ψ : FP} {A B C : World} (h : Only Ψ (fun _ => False) A B) (k : Only Ψ (fun _ => False) B C) : Only Ψ (fun _ => False) A C := h.trans k (fun _ h => h.elim)
/-- What a change of a map of maps leaves. -/
def OutTo {β : Type} (c : Cod β) (B : Nat) (rm : List (Int × Option Nat)) (rows : Int → List (Int × β)) (w w' : World) : Prop :=
  ∃ rm', OutAt c B rm' rows w' ∧ Only (oblk B rm) (fun _ => False) w w' ∧ ∀ k, oblk B rm' k → oblk B rm k ∨ w.heap.size ≤ k
theorem OutTo.alloc {β : Type} {c : Cod β} {B : Nat} {rm : List (Int × Option Nat)} {rows : Int → List (Int × β)} {w w' : World} {o : Obj} (h : OutTo c B rm rows (w.alloc o) w') : OutTo c B rm rows w w' := by
  obtain ⟨rm', h1, h2, h3⟩ := h
  exact ⟨rm', h1, only_trans (only_alloc o) h2, fun k hk => (h3 k hk).imp id (fun h => by simp at h; omega)⟩
theorem oblk_put {B : Nat} {rm : List (Int × Option Nat)} (hs : SrtK rm) {a : Int} {b k : Nat} (h : oblk B (sput rm a (some b)) k) : oblk B rm k ∨ k = b := by
  rcases h with h | ⟨i, hi⟩
  · exact .inl (.inl h)
  · rw [hs.get_put] at hi
    by_cases e : i = a
    · simp [e] at hi; exact .inr hi.symm
    · simp [e] at hi; exact .inl (.inr ⟨i, hi⟩)
theorem oblk_del {B : Nat} {rm : List (Int × Option Nat)} (hs : SrtK rm) {a : Int} {k : Nat} (h : oblk B (sdel rm a) k) : oblk B rm k := by
  rcases h with h | ⟨i, hi⟩
  · exact .inl h
  · rw [hs.get_del] at hi
    by_cases e : i = a
    · simp [e] at hi
    · simp [e] at hi; exact .inr ⟨i, hi⟩

end Go.Proofs.YtcfcfijmfgnpfaaGreatDoor
end

section
namespace Go.Proofs.YtcfcfijmfgnpfaaGreatDoor
open Go.RowKit Go.Shelf
attribute [local go_sem] Oper.semAt_some
set_option linter.unusedVariables false
set_option linter.unusedSimpArgs false

/-- What a loop that collects holds: its row in a box. -/
structure ColC {P : Program} {α : Type} (r : RowTy P α) (N0 lb : Nat) (pre : List α) (Φ : FP) (W : World) (v : Value) : Prop where
  bx : Boxed W lb r.S v
  own : OwnR r N0 v pre W
  iff : ∀ k, Φ k ↔ v.ownBlock = some k
  sz : N0 ≤ W.heap.size
def ColI {P : Program} {α : Type} (r : RowTy P α) (N0 lb : Nat) (pre : List α) (Φ : FP) (W : World) : Prop := ∃ v, ColC r N0 lb pre Φ W v
theorem ColI.stab {P : Program} {α : Type} {r : RowTy P α} {N0 lb : Nat} (h1 : lb < N0) : Stab N0 (ColI r N0 lb) := by
  rintro pre Φ W ⟨v, h⟩
  exact ⟨fun k hk => h.own.block ((h.iff k).1 hk), h.sz, fun W' hg hk => ⟨v, (hk lb (.inl h1)).trans h.bx, h.own.of (Nat.le_refl _) (fun k e => hk k (.inr ((h.iff k).2 e))), h.iff, Nat.le_trans h.sz hg.size⟩⟩
/-- One more was collected: appended, stored. -/
theorem ColC.step {P : Program} {α : Type} {r : RowTy P α} {N0 lb : Nat} {pre : List α} {x : α} {Φ Ψ : FP} {W V w3 : World} {v v' : Value} (h : ColC r N0 lb pre Φ W v) (hlb : lb < N0) (hΨ : Ψ lb) (hV : Below W.heap.size W V) (ho : OwnR r N0 v' (pre ++ [x]) w3) (hg : V.grownBy w3 v.ownBlock) (hat : v'.ownBlock = v.ownBlock ∨ v'.ownBlock = some V.heap.size) :
    Leaves Ψ Φ W (fun Φ' W' => ColI r N0 lb (pre ++ [x]) Φ' W') (w3.setCell ⟨lb, 0, none⟩ v') := by
  have hsz := h.sz
  have hVs := hV.size
  have hgs := hg.size
  have hb3 : Boxed w3 lb r.S v := (hg.block lb (by omega) (fun e => by have := (h.own.block e.symm).1; omega)).trans ((hV.block lb (by omega)).trans h.bx)
  have hkeep : ∀ k, k ≠ lb → (w3.setCell ⟨lb, 0, none⟩ v').heap[k]? = w3.heap[k]? := fun k hk => Below.heap_setCell _ _ _ k hk
  refine ⟨fun k => v'.ownBlock = some k, fun k hk => ?_, ⟨⟨hg.os.trans hV.os, hg.tape.trans hV.tape, hg.output.trans hV.output, by simp [World.setCell]; omega⟩, fun k hk h1 h2 => ?_⟩, v', hb3.set _, ho.of (Nat.le_refl _) (fun k hk => hkeep k (by have := (ho.block hk).1; omega)), fun k => Iff.rfl, by simp [World.setCell]; omega⟩
  · rcases hat with e | e
    · exact .inl ((h.iff k).2 (by rw [← e]; exact hk))
    · rw [hk] at e
      injection e with e
      exact .inr (by omega)
  · rw [hkeep k (fun e => h1 (by rw [e]; exact hΨ)), hg.block k (by omega) (fun e => h2 ((h.iff k).2 e.symm))]
    exact hV.block k hk

def prOf_I (x : Int × Int) : List Value := [.int .i64 x.1, .int .i64 x.2]
theorem pairInfo_I : (Tryz.prog.info? 228).map (fun i => (i.zero, i.size, i.bytes)) = some (some (.agg #[.int .i64 0, .int .i64 0]), 2, 16) := by kernel_rfl
def pair_I : RowTy Tryz.prog (Int × Int) where
  T := 228
  S := 226
  k := 2
  f := prOf_I
  len := fun _ => rfl
  one := fun x u hu => by
    simp only [prOf_I, List.mem_cons, List.not_mem_nil, or_false] at hu
    rcases hu with rfl | rfl <;> rfl
  pos := by decide
  small := by decide
  slice := Tryz.underlying226
  info := by
    obtain ⟨i0, hi, hz⟩ := Option.map_eq_some_iff.1 pairInfo_I
    simp only [Prod.mk.injEq] at hz
    obtain ⟨h1, h2, h3⟩ := hz
    exact ⟨i0, _, _, hi, h1, h2, rfl, h3, by decide⟩
  row := ⟨_, Tryz.underlying228, rfl⟩
def encs_I (x : Int × Int) : Array Value := #[.int .i64 x.1, .int .i64 x.2]
set_option maxHeartbeats 4000000 in
set_option maxRecDepth 100000 in
theorem still_Now_I {m : Nat} (gf : Nat) (lbx : Array Value) (xs : List (Int × Int)) (w : World) (eg : ∀ args w, (callFunc gf args).run Tryz.prog w = .ok (.enter gf args) w) (hit : Iter Tryz.prog m gf lbx encs_I xs (fun k => k < w.heap.size) w) (hlen : xs.length ≤ 1000000) :
    Calls Tryz.prog 146 #[.func (.func gf) #[] lbx] w fun e w' => ∃ v, e = .returned (.func (.func 151) #[] #[.pointer (some ⟨w.heap.size, 0, none⟩)]) ∧ Boxed w' w.heap.size 226 v ∧ OwnR pair_I (w.heap.size + 1) v xs w' ∧ Below w.heap.size w w' := by
  refine (callsIn_wide (n := m + 2)).1 ?_
  refine callsIn_of_wp_marks Tryz.func146 rfl trivial ?_ rfl
  simp only [Tryz.ntmps146, List.size_toArray, List.length_cons, List.length_nil, Nat.reduceAdd, Nat.reduceSub, Array.replicate_succ, Array.replicate_zero, List.push_toArray, List.append_toArray, List.nil_append, List.cons_append]
  gi_wp2_with fail
  obtain ⟨w1, hw1⟩ : ∃ w1, w1 = w.alloc (.cells #[.slice none 0 0] 226) := ⟨_, rfl⟩
  rw [← hw1]
  obtain ⟨lb, hlb⟩ : ∃ lb, lb = w.heap.size := ⟨_, rfl⟩
  have hB : Below w.heap.size w w1 := by rw [hw1]; exact (Below.refl _ w).alloc (Nat.le_refl _) _
  have hsz : w1.heap.size = lb + 1 := by rw [hw1, hlb]; simp
  have x0 : Boxed w1 lb 226 (.slice none 0 0) := by rw [hw1, hlb]; exact Boxed.new w _ _
  have HB1 := Lib.hid hB
  have HIT := Lib.hid hit
  have HSZ := Lib.hid hsz
  have l1 : lb < w1.heap.size := by omega
  have l2 : w.heap.size ≤ lb := by omega
  have HEG := Lib.hid eg
  rw [← hlb]
  have HLB := Lib.hid hlb
  have HLN := Lib.hid hlen
  clear hw1 hit hB hsz hlb eg hlen
  refine range_outer (n := m) (gf := gf) (lb := lbx) rfl HEG.out HIT.out (Grow.of_below HB1.out) (fun k hk => ⟨hk, HB1.out.block k hk⟩) (fun _ => rfl)
    (fun k => k = lb) (by rintro k rfl; exact ⟨l1, fun h => by omega⟩) (ColI pair_I w1.heap.size lb) (fun _ _ _ _ => False) (ColI.stab l1) (fun c _ _ _ h => h.elim)
    ⟨_, x0, OwnR.nil _ _, fun k => ⟨fun h => h.elim, fun h => by cases h⟩, Nat.le_refl _⟩
    (fun x => { tmps := #[.func (.func gf) #[] lbx, undef, .nilFunc, .pointer (some ⟨lb, 0, none⟩), .int .i64 x.1, .int .i64 x.2, .func (.func gf) #[] lbx, .int .i64 x.1, .int .i64 x.2, undef, undef, undef, undef, undef, undef, undef], defers := [] }) ?assign ?body ?done ?stop
  case assign =>
    intro l x W K hK
    simp only [encs_I]
    gi_wp2
    exact hK
  case body =>
    rintro l pre x Φ W hpx ⟨v1, hI⟩ hl1 hΦ -
    have hpl := hpx.length_le
    rw [List.length_append, List.length_singleton] at hpl
    have hpl2 : pre.length ≤ 1000000 := by have := HLN.out; omega
    obtain ⟨ao1, cap1, rfl⟩ := hI.own.lenOf
    obtain ⟨pl, hm⟩ : ∃ pl, pl = pre.length := ⟨_, rfl⟩
    rw [← hm] at hI
    have c0 := hI.bx.cell
    have hlW : lb < W.heap.size := by have := hI.sz; omega
    have HI := Lib.hid hI
    have HPH := Lib.hid hΦ
    have HM := Lib.hid hm
    have HPL := Lib.hid hpl2
    have hsW : w1.heap.size ≤ W.heap.size := hI.sz

    clear hI hΦ hm hpl hpl2
    gi_wp2_with (first

      | (refine wplIn_appR (r := pair_I) (y := x) rfl rfl rfl rfl ((OwnR.of HI.out.own (Nat.le_refl _) (fun k hk => Below.heap_alloc _ _ _ (HI.out.own.block hk).2))) (rangeAt_whole (T := 228) (by exact World.alloc_heap_new _ _)) HPL.out (by have h := hsW; rw [World.size_alloc]; omega) ?_; intro v' w3 hO hg3 hat3 hne; have cB : w3.cell? ⟨lb, 0, none⟩ = some (.slice ao1 pl cap1) := (World.cell?_of_block (a := ⟨lb, 0, none⟩) ((hg3.block lb (by rw [World.size_alloc]; omega) (fun e => by have := (HI.out.own.block e.symm).1; omega)).trans (Below.heap_alloc _ _ _ hlW))).trans c0; have fB : w3.frozen? ⟨lb, 0, none⟩ = false := ((HI.out.bx.alloc _).kept hg3 (fun e => by have := (HI.out.own.block e.symm).1; omega)).frozen; obtain ⟨ao2, cap2, rfl⟩ := hO.lenOf; obtain ⟨m2, hm2⟩ : ∃ m2, m2 = (pre ++ [x]).length := ⟨_, rfl⟩; rw [← hm2] at hO hat3; rw [← hm2]; have HO := Lib.hid hO; have HG3 := Lib.hid hg3; have HAT := Lib.hid hat3; clear hO hg3 hat3 hm2 hne)
      | fail)
    exact ColC.step HI.out l1 rfl ((Below.refl _ W).alloc (Nat.le_refl _) _) HO.out HG3.out HAT.out
  case done =>
    rintro D Φ W3 ⟨v3, hC⟩ hon hD hnD hK
    have hiff := hC.iff
    have HC := Lib.hid hC
    have HON := Lib.hid hon
    have HKK := Lib.hid hK
    clear hC hon hK
    gi_wp2
    refine ⟨by simp, .inl ⟨_, _, rfl, run_takeDeferred HKK.out, ?_⟩⟩
    have hC := HC.out
    have hO2 := HON.out
    have hw2 := HB1.out
    have hsz := HSZ.out
    have hlb := HLB.out
    subst hlb
    refine ⟨_, by simp [results, Tryz.results146, go_sem] <;> rfl, v3, rfl, (put_other (by omega)).trans hC.bx, hC.own.of (by omega) (fun k hk => put_other (fun e => hnD ((hiff D).2 (by rw [← e]; exact hk)))), ?_⟩
    refine ⟨hO2.grow.os.trans hw2.os, hO2.grow.tape.trans hw2.tape, hO2.grow.output.trans hw2.output, by have h1 := hO2.grow.size; have h2 := hw2.size; simp [World.putObj]; omega, fun k hk => ?_⟩
    rw [put_other (by omega), hO2.block k (by omega) (by omega) (fun h => h)]
    exact hw2.block k (by omega)
  case stop =>
    rintro D Φ c pre W3 hpre h
    exact h.elim

def prOf_P (x : (Int × Int) × Int) : List Value := [.int .i64 x.1.1, .int .i64 x.1.2, .int .i64 x.2]
def encs_P (x : (Int × Int) × Int) : Array Value := #[.agg #[.int .i64 x.1.1, .int .i64 x.1.2], .int .i64 x.2]
end Go.Proofs.YtcfcfijmfgnpfaaGreatDoor
end

section
namespace Go.Proofs.YtcfcfijmfgnpfaaGreatDoor
open Go.RowKit Go.Maps
attribute [local go_sem] Oper.semAt_some
set_option linter.unusedVariables false
set_option linter.unusedSimpArgs false

theorem ranges_block {k : TypeId} {R : Value → Option (DataW Unit × List MemPlace)} {w w' : World} {b r n : Nat} {D : DataW Unit} {left : Lit → Bool} {cnt : Nat} (h : w.ranges Tryz.prog k R b r n D left cnt) (h1 : w'.heap[b]? = w.heap[b]?) (h2 : w'.heap[r]? = w.heap[r]?) : w'.ranges Tryz.prog k R b r n D left cnt := by
  obtain ⟨es, clock, since, seen, c0, hb, F, hs, hD, hr, rest⟩ := h
  exact ⟨es, clock, since, seen, c0, h1.trans hb, F, hs, hD, h2.trans hr, rest⟩
theorem nodup_leD {α : Type} [DecidableEq α] : ∀ {ks l : List α}, ks.Nodup → (∀ x ∈ ks, x ∈ l) → ks.length ≤ l.length
  | [], l, _, _ => Nat.zero_le _
  | k :: ks, l, hn, hs => by
    have hk := List.nodup_cons.1 hn
    have := nodup_leD (l := l.erase k) hk.2 (fun x hx => (List.mem_erase_of_ne (fun e => hk.1 (by rw [← e]; exact hx))).2 (hs x (List.mem_cons_of_mem _ hx)))
    rw [List.length_erase_of_mem (hs k (by simp))] at this
    have := List.length_pos_of_mem (hs k (by simp))
    simp
    omega
/-- What may have been told of m's keys; what has been told in the end. -/
def KOk {β : Type} (m : List (Dg × β)) (ss : List Dg) : Prop := ss.Nodup ∧ ss.length ≤ m.length
def KFin {β : Type} (m : List (Dg × β)) (ss : List Dg) : Prop := ss.Perm (m.map (·.1))
def encs_D (d : Dg) : Array Value := #[dv d]
theorem collD_len {β : Type} {c : Cod β} {b : Nat} {m : List (Dg × β)} {w : World} (h : MapD c b m w) {n : Nat} {D : DataW Unit} (ho : w.ownsMap Tryz.prog 41 c.R b n D) (h1 : ∀ k, Maps.has D (dlit k) = (dget m k).isSome) {left : Lit → Bool} {ss : List Dg} (hC : CollD D left ss) : KOk m ss := by
  refine ⟨hC.1, ?_⟩
  have := nodup_leD hC.1 (l := m.map (·.1)) (fun x hx => by
    have := ((hC.2 x).1 hx).1
    rw [h1] at this
    obtain ⟨v, hv⟩ := Option.isSome_iff_exists.1 this
    exact List.mem_map.2 ⟨_, dget_mem hv, rfl⟩)
  simpa using this
set_option maxHeartbeats 4000000 in
set_option maxRecDepth 100000 in
attribute [local go_sem ↓] ldH_hide in
theorem keys1_iter (n : Nat) (bx b : Nat) (m : List (Dg × Nt)) (w : World) (hbx : Boxed w bx 91 (.map (some b))) (hm : MapD codNt b m w) (G : FP) (hGb : G bx) (hGm : G b) :
    IterS Tryz.prog n 94 #[.pointer (some ⟨bx, 0, none⟩)] encs_D (KOk m) (KFin m) G w := by
  intro lp B Ψ J Jx Φ0 W hgw hG hΨ hΦ0 hJ hJx hround h0
  have hc1 : W.cell? ⟨bx, 0, none⟩ = some (.map (some b)) := (World.cell?_of_block (hG bx hGb).2).trans hbx.cell
  have hmW : MapD codNt b m W := hm.block (hG b hGm).2
  have hbs : b < W.heap.size := hmW.lt
  obtain ⟨nn, D, hown, hh1, hh2⟩ := hmW.own
  obtain ⟨hs1, hs2, hs3⟩ := hJ _ _ _ h0
  have hnb : ¬ Ψ b := fun h => (hΨ b h).2 hGm
  have hnf : ¬ Φ0 b := fun h => hΦ0 b h hGm
  have hkl : ∀ {left : Lit → Bool} {ss : List Dg}, CollD D left ss → KOk m ss := fun hC => collD_len hmW hown hh1 hC
  have hfin : ∀ {left : Lit → Bool} {ss : List Dg}, CollD D left ss → (∀ kl, left kl = false) → KFin m ss := fun hC hl => MapD.perm hmW.srt hown hh1 hC.1 (fun x => by rw [hC.2 x, hl]; simp)
  refine callsIn_of_wp Tryz.func94 rfl trivial ?_ rfl
  simp only [Tryz.ntmps94, List.size_toArray, List.length_cons, List.length_nil, Nat.reduceAdd, Nat.reduceSub, Array.replicate_succ, Array.replicate_zero, List.push_toArray, List.append_toArray, List.nil_append, List.cons_append]
  have HK := Lib.hid (show ∀ (left : Lit → Bool) (ss : List Dg), CollD D left ss → KOk m ss from fun _ _ => hkl)
  have HF := Lib.hid (show ∀ (left : Lit → Bool) (ss : List Dg), CollD D left ss → (∀ kl, left kl = false) → KFin m ss from fun _ _ => hfin)
  have HRD := Lib.hid hround
  have HJ := Lib.hid hJ
  have HH0 := Lib.hid h0
  have HS1 := Lib.hid (And.intro hs1 (And.intro hs3 (fun k hk => (hΨ k hk).1)))
  have HO := Lib.hid hown
  have HNB := Lib.hid (And.intro hnb hnf)
  clear hround hJ hJx hG hΨ hΦ0 hbx hGb hGm h0 hs3 hkl hfin hh1 hh2 hm hmW hown hs1 hnb hnf
  gi_wp2_with (first
    | (gi_at_range; refine wpListIn_range_own _ rfl _ 91 rfl 41 101 keyedH Tryz.underlying91 codNt.R b nn D rfl HO.out ?_; intro w0 hrg0 hg0 hz0)
    | fail)
  go_frame
  have hJ0 : J [] Φ0 w0 := HS1.out.2.1 w0 ⟨hg0.os, hg0.tape, hg0.output, hg0.size⟩ (fun k hk => hg0.block k (hk.elim (fun h => by omega) (fun h => (HS1.out.1 k h).2)) (by simp))
  have hO0 : Only Ψ Φ0 W w0 := ⟨⟨hg0.os, hg0.tape, hg0.output, hg0.size⟩, fun k hk _ _ => hg0.block k hk (by simp)⟩
  obtain ⟨r, hr⟩ : ∃ r, r = W.heap.size := ⟨_, rfl⟩
  rw [← hr] at hrg0 ⊢
  have HR0 := Lib.hid (And.intro hrg0 (And.intro hJ0 hO0))
  have HRR := Lib.hid (And.intro hr hz0)
  clear hg0 hJ0 hO0 hrg0 hr hz0
  gi_loopw [3] (fun _ wr => ∃ (left : Lit → Bool) (cnt : Nat) (ss : List Dg) (Φ : FP), wr.ranges Tryz.prog 41 codNt.R b r nn D left cnt ∧ CollD D left ss ∧ J ss Φ wr ∧ Only Ψ Φ0 W wr ∧ (∀ j, Φ j → Φ0 j ∨ r + 1 ≤ j))
    (fun _ wr => wr.rangeLeft b r)
  case atStart => exact ⟨_, _, [], Φ0, HR0.out.1, CollD.start D, HR0.out.2.1, HR0.out.2.2, fun j h => .inl h⟩
  case round =>
    obtain ⟨left, cnt, ss, Φ, hrg, hC, hJs, ho, hn⟩ := hrel
    have HRG := Lib.hid hrg
    have HC := Lib.hid hC
    have HJS := Lib.hid (And.intro hJs (And.intro ho hn))
    clear hrg hC hJs ho hn
    gi_wp2_with (first
      | (gi_at_next; refine wpListIn_next_ranges _ rfl _ rfl 41 keyedH codNt.R dv codNt.enc (fun key kl hk => by obtain ⟨x, hx, _⟩ := keyD_inv hk; exact ⟨x, hx⟩) (fun v y hv => by obtain ⟨x, hx, _⟩ := codNt.inv v y hv; exact ⟨x, hx⟩) b r nn _ _ _ rfl HRG.out ?_ ?_)
      | fail)
    · intro hc0 hl0
      gi_wp2
      refine bodyPost_end (results_none rfl _ _ _) rfl ?_
      exact ⟨⟨_, rfl⟩, Φ, fun j hj => (HJS.out.2.2 j hj).imp id (fun h => by have := HRR.out.1; omega), HJS.out.2.1, .inl ⟨ss, HF.out _ _ HC.out hl0, HJS.out.1⟩⟩
    · intro x c kl yd yp w2 cnt2 hkey hlk hv hat hrg2 hlt hg2 hs2 hen
      obtain ⟨x', ex, rfl⟩ := keyD_inv hkey
      obtain rfl : x = x' := dv_inj ex
      have hC2 := HC.out.step hlk hat
      obtain ⟨q1, q2, q3⟩ := HJ.out _ _ _ HJS.out.1
      have hrn : r < wr.heap.size := HRG.out.lt
      obtain ⟨W1, hW1⟩ : ∃ W1, W1 = w2.alloc (.cells (Bs x.s).toArray 41) := ⟨_, rfl⟩
      have hb1 : Below w2.heap.size w2 W1 := by rw [hW1]; exact (Below.refl _ w2).alloc (Nat.le_refl _) _
      have hrB : B ≤ r := by have := HRR.out.1; omega
      have hg2' : Grow wr w2 := ⟨hg2.os, hg2.tape, hg2.output, hg2.size⟩
      have hrf : ∀ j, Φ j → j ≠ r := fun j hj => by
        rcases HJS.out.2.2 j hj with h | h
        · have := (HS1.out.1 j h).2; have := HRR.out.1; omega
        · omega
      have hJ2 : J ss Φ W1 := q3 W1 (hg2'.trans (Grow.of_below hb1)) (fun j hj => by
        have hjw : j < wr.heap.size := hj.elim (fun h => by omega) (fun h => (q1 j h).2)
        rw [hb1.block j (by rw [hs2]; exact hjw)]
        exact hg2.block j hjw (by simp; exact hj.elim (fun h => by omega) (fun h => hrf j h)))
      have ho2 : Only Ψ Φ0 W W1 := ⟨(HJS.out.2.1.grow.trans hg2').trans (Grow.of_below hb1), fun j hj p1 p2 => by
        have hjr : j ≠ r := by have := HRR.out.1; omega
        have hjw : j < wr.heap.size := Nat.lt_of_lt_of_le hj HJS.out.2.1.grow.size
        rw [hb1.block j (by rw [hs2]; exact hjw), hg2.block j hjw (by simp; exact hjr)]
        exact HJS.out.2.1.block j hj p1 p2⟩
      have hrg3 := ranges_block hrg2 (hb1.block b (by rw [hs2]; have := HJS.out.2.1.grow.size; omega)) (hb1.block r (by rw [hs2]; exact hrn))
      have hcx : W1.heap[w2.heap.size]? = some (.cells (Bs x.s).toArray 41 (0, 0)) := by rw [hW1]; exact World.alloc_heap_new _ _
      have lN : (ldH (.pointer (some ⟨w2.heap.size, 0, none⟩))).run Tryz.prog W1 = .ok (dv x) W1 := run_ldH (rangeAt_whole (T := hshR.T) hcx)
      obtain ⟨fn, tm, asg, bd, hyy, hR⟩ := HRD.out ss x Φ W1 (HK.out _ _ hC2) hJ2
      simp only [encs_D] at hyy
      have HR := Lib.hid hR
      have HW1 := Lib.hid (And.intro hW1 (And.intro ho2 hrg3))
      have HC2 := Lib.hid (And.intro hC2 hlt)
      have HS2 := Lib.hid (And.intro hs2 hrn)
      have HRF := Lib.hid hrf
      have HB := Lib.hid hrB
      have hsz1 : w2.heap.size ≤ W1.heap.size := hb1.size
      clear hkey ex hlk hv hat hrg2 hlt hg2 hs2 hC2 q1 q2 q3 hb1 hg2' hrf hJ2 ho2 hrg3 hcx hR hW1 hrn hrB
      gi_wp2_with (first
        | (refine wplIn_allocR (r := hshR) rfl rfl rfl ?_; intro C hC')
        | (refine wplIn_storeR (r := hshR) (t := x) (C := C) _ _ rfl rfl rfl rfl rfl (World.alloc_heap_new w2 _) hC' ?_; rw [World.setRow_alloc_new]; rw [show w2.alloc (.cells (hshR.f x).toArray hshR.T) = W1 from HW1.out.1.symm])
        | fail)
      refine HR.out.mono ?_
      rintro e W' ⟨Φ', hn', ho', (⟨rfl, hJ'⟩ | ⟨rfl, hJ'⟩)⟩
      all_goals
        have ho3 : Only Ψ Φ0 W W' := ⟨HW1.out.2.1.grow.trans ho'.grow, fun j hj p1 p2 => (ho'.block j (Nat.lt_of_lt_of_le hj HW1.out.2.1.grow.size) p1 (fun h => (HJS.out.2.2 j h).elim p2 (fun e => by have := HRR.out.1; omega))).trans (HW1.out.2.1.block j hj p1 p2)⟩
        have hn3 : ∀ j, Φ' j → Φ0 j ∨ r + 1 ≤ j := fun j hj => (hn' j hj).elim (HJS.out.2.2 j) (fun h => .inr (by have := HS2.out.1; have := HS2.out.2; omega))
      · have hbk : W'.heap[b]? = W1.heap[b]? := ho'.block b (by have := HJS.out.2.1.grow.size; have := HS2.out.1; omega) HNB.out.1 (fun h => (HJS.out.2.2 b h).elim HNB.out.2 (fun e => by have := HRR.out.1; omega))
        have hrk : W'.heap[r]? = W1.heap[r]? := ho'.block r (by have := HS2.out.1; have := HS2.out.2; omega) (fun h => by have := HS1.out.2.2 r h; have := HB.out; omega) (fun h => HRF.out r h rfl)
        have hrg4 := ranges_block HW1.out.2.2 hbk hrk
        gi_wp2
        exact ⟨⟨_, cnt2, ss ++ [x], Φ', hrg4, HC2.out.1, hJ', ho3, hn3⟩, by rw [hrg4.left_eq, HRG.out.left_eq]; exact HC2.out.2⟩
      · gi_wp2
        refine bodyPost_ret (results_none rfl _ _ _) rfl ?_
        exact ⟨⟨_, rfl⟩, Φ', fun j hj => (hn3 j hj).imp id (fun h => by have := HRR.out.1; omega), ho3, .inr ⟨_, HK.out _ _ HC2.out.1, hJ'⟩⟩
end Go.Proofs.YtcfcfijmfgnpfaaGreatDoor
end

section
namespace Go.Proofs.YtcfcfijmfgnpfaaGreatDoor
open Go.RowKit Go.Maps
attribute [local go_sem] Oper.semAt_some
set_option linter.unusedVariables false
set_option linter.unusedSimpArgs false

theorem foldl_one (a : Array Value) (p : Nat) (v : Value) : ((#[p] : Array Tmp).zip #[v]).foldl (fun t (x : Nat × Value) => t.setIfInBounds x.1 x.2) a = a.setIfInBounds p v := by simp
set_option maxHeartbeats 4000000 in
set_option maxRecDepth 100000 in
attribute [local go_sem ↓] ldH_hide bsH_hide in
theorem slices_AppendSeq_H {m : Nat} (gf : Nat) (lbx : Array Value) (ok fin : List Dg → Prop) (w : World) (eg : ∀ args w, (callFunc gf args).run Tryz.prog w = .ok (.enter gf args) w) (hit : IterS Tryz.prog m gf lbx encs_D ok fin (fun k => k < w.heap.size) w) (hlen : ∀ ss, ok ss → ss.length ≤ 1000000) :
    Calls Tryz.prog 112 #[.slice none 0 0, .func (.func gf) #[] lbx] w fun e w' => ∃ v ss, e = .returned v ∧ fin ss ∧ OwnR hshR w.heap.size v ss w' ∧ Below w.heap.size w w' := by
  refine (callsIn_wide (n := m + 2)).1 ?_
  refine callsIn_of_wp_marks Tryz.func112 rfl trivial ?_ rfl
  simp only [Tryz.ntmps112, List.size_toArray, List.length_cons, List.length_nil, Nat.reduceAdd, Nat.reduceSub, Array.replicate_succ, Array.replicate_zero, List.push_toArray, List.append_toArray, List.nil_append, List.cons_append]
  gi_wp2_with fail
  obtain ⟨w1, hw1⟩ : ∃ w1, w1 = w.alloc (.cells #[.slice none 0 0] 131) := ⟨_, rfl⟩
  rw [← hw1]
  obtain ⟨lb, hlb⟩ : ∃ lb, lb = w.heap.size := ⟨_, rfl⟩
  have hB : Below w.heap.size w w1 := by rw [hw1]; exact (Below.refl _ w).alloc (Nat.le_refl _) _
  have hsz : w1.heap.size = lb + 1 := by rw [hw1, hlb]; simp
  have x0 : Boxed w1 lb 131 (.slice none 0 0) := by rw [hw1, hlb]; exact Boxed.new w _ _
  have HB1 := Lib.hid hB
  have HIT := Lib.hid hit
  have HSZ := Lib.hid hsz
  have l1 : lb < w1.heap.size := by omega
  have l2 : w.heap.size ≤ lb := by omega
  have HEG := Lib.hid eg
  rw [← hlb]
  have HLB := Lib.hid hlb
  have HLN := Lib.hid hlen
  clear hw1 hit hB hsz hlb eg hlen
  refine range_outerAS (n := m) (gf := gf) (lb := lbx) rfl HEG.out HIT.out (Grow.of_below HB1.out) (fun k hk => ⟨hk, HB1.out.block k hk⟩) (fun _ => rfl)
    (fun k => k = lb) (by rintro k rfl; exact ⟨l1, fun h => by omega⟩) (ColI hshR w1.heap.size lb) (fun _ _ _ _ => False) (ColI.stab l1) (fun c _ _ _ h => h.elim)
    ⟨_, x0, OwnR.nil _ _, fun k => ⟨fun h => h.elim, fun h => by cases h⟩, Nat.le_refl _⟩
    (fun x N => { tmps := #[.slice none 0 0, .func (.func gf) #[] lbx, .pointer (some ⟨lb, 0, none⟩), undef, .slice none 0 0, .pointer (some ⟨N, 0, none⟩), .func (.func gf) #[] lbx, dv x, undef, undef, undef, undef, undef], defers := [] })
    (fun x N W => W.heap[N]? = some (.cells (Bs x.s).toArray 41 (0, 0))) (fun x N W W' h e => e.trans h) ?assign ?body ?done ?stop
  case assign =>
    intro l x W K hK
    simp only [encs_D]
    rw [foldl_one]
    simp only [List.setIfInBounds_toArray, List.set_cons_succ, List.set_cons_zero]
    gi_wp2_with (first
      | (refine wplIn_allocR (r := hshR) rfl rfl rfl ?_; intro C hC')
      | (refine wplIn_storeR (r := hshR) (t := x) (C := C) (b := W.heap.size) _ _ rfl rfl rfl rfl rfl (World.alloc_heap_new W _) hC' ?_; rw [World.setRow_alloc_new])
      | fail)
    exact hK _ ((Below.refl _ W).alloc (Nat.le_refl _) _) (by simp) (World.alloc_heap_new _ _)
  case body =>
    rintro l pre x Φ N W hpx ⟨v1, hI⟩ hl1 hΦ - hlN hNW hAt
    have hpl := HLN.out _ hpx
    rw [List.length_append, List.length_singleton] at hpl
    have hpl2 : pre.length ≤ 1000000 := by omega
    obtain ⟨ao1, cap1, rfl⟩ := hI.own.lenOf
    obtain ⟨pl, hm⟩ : ∃ pl, pl = pre.length := ⟨_, rfl⟩
    rw [← hm] at hI
    have c0 := hI.bx.cell
    have hlW : lb < W.heap.size := by have := hI.sz; omega
    have HI := Lib.hid hI
    have HPH := Lib.hid hΦ
    have HM := Lib.hid hm
    have HPL := Lib.hid hpl2
    have hsW : w1.heap.size ≤ W.heap.size := hI.sz
    have lN : (ldH (.pointer (some ⟨N, 0, none⟩))).run Tryz.prog W = .ok (dv x) W := run_ldH (rangeAt_whole (T := hshR.T) hAt)
    have bS := run_bsH x W
    clear hI hΦ hm hpl hpl2
    gi_wp2_with (first
      | (refine wplIn_appR (r := hshR) (y := x) rfl rfl rfl rfl ((OwnR.of HI.out.own (Nat.le_refl _) (fun k hk => Below.heap_alloc _ _ _ (HI.out.own.block hk).2))) (rangeAt_whole (T := 41) (by exact World.alloc_heap_new _ _)) HPL.out (by have h := hsW; rw [World.size_alloc]; omega) ?_; intro v' w3 hO hg3 hat3 hne; have cB : w3.cell? ⟨lb, 0, none⟩ = some (.slice ao1 pl cap1) := (World.cell?_of_block (a := ⟨lb, 0, none⟩) ((hg3.block lb (by rw [World.size_alloc]; omega) (fun e => by have := (HI.out.own.block e.symm).1; omega)).trans (Below.heap_alloc _ _ _ hlW))).trans c0; have fB : w3.frozen? ⟨lb, 0, none⟩ = false := ((HI.out.bx.alloc _).kept hg3 (fun e => by have := (HI.out.own.block e.symm).1; omega)).frozen; obtain ⟨ao2, cap2, rfl⟩ := hO.lenOf; obtain ⟨m2, hm2⟩ : ∃ m2, m2 = (pre ++ [x]).length := ⟨_, rfl⟩; rw [← hm2] at hO hat3; rw [← hm2]; have HO := Lib.hid hO; have HG3 := Lib.hid hg3; have HAT := Lib.hid hat3; clear hO hg3 hat3 hm2 hne)
      | fail)
    exact ColC.step HI.out l1 rfl ((Below.refl _ W).alloc (Nat.le_refl _) _) HO.out HG3.out HAT.out
  case done =>
    rintro D Φ W3 ys hys ⟨v3, hC⟩ hon hD hnD hK
    have hiff := hC.iff
    have c3 := hC.bx.cell
    obtain ⟨ao3, cap3, rfl⟩ := hC.own.lenOf
    obtain ⟨m3, hm3⟩ : ∃ m3, m3 = ys.length := ⟨_, rfl⟩
    rw [← hm3] at hC c3 hiff
    have HC := Lib.hid hC
    have HON := Lib.hid hon
    have HKK := Lib.hid hK
    have HM3 := Lib.hid hm3
    clear hC hon hK hm3
    gi_wp2
    refine ⟨by simp, .inl ⟨_, _, rfl, run_takeDeferred HKK.out, ?_⟩⟩
    have hC := HC.out
    have hO2 := HON.out
    have hw2 := HB1.out
    have hsz := HSZ.out
    have hlb := HLB.out
    subst hlb
    refine ⟨_, by simp [results, Tryz.results112, go_sem] <;> rfl, .slice ao3 m3 cap3, ys, rfl, hys, hC.own.of (by omega) (fun k hk => put_other (fun e => hnD ((hiff D).2 (by rw [← e]; exact hk)))), ?_⟩
    refine ⟨hO2.grow.os.trans hw2.os, hO2.grow.tape.trans hw2.tape, hO2.grow.output.trans hw2.output, by have h1 := hO2.grow.size; have h2 := hw2.size; simp [World.putObj]; omega, fun k hk => ?_⟩
    rw [put_other (by omega), hO2.block k (by omega) (by omega) (fun h => h)]
    exact hw2.block k (by omega)
  case stop =>
    rintro D Φ c pre W3 hpre h
    exact h.elim
theorem slices_Collect_H {m : Nat} (gf : Nat) (lbx : Array Value) (ok fin : List Dg → Prop) (w : World) (eg : ∀ args w, (callFunc gf args).run Tryz.prog w = .ok (.enter gf args) w) (hit : IterS Tryz.prog m gf lbx encs_D ok fin (fun k => k < w.heap.size) w) (hlen : ∀ ss, ok ss → ss.length ≤ 1000000) :
    Calls Tryz.prog 92 #[.func (.func gf) #[] lbx] w fun e w' => ∃ v ss, e = .returned v ∧ fin ss ∧ OwnR hshR w.heap.size v ss w' ∧ Below w.heap.size w w' := by
  have hA := slices_AppendSeq_H gf lbx ok fin w eg hit hlen
  have HA := Lib.hid hA
  clear hA eg hit hlen
  go_enter Tryz.func92, Tryz.ntmps92
  go_wp2_with (first
    | (go_at_call 112; refine HA.out.mono ?_; rintro e w1 ⟨v, ss, rfl, hf, ho, hb⟩; have H1 := Lib.hid (And.intro hf (And.intro ho hb)); clear hf ho hb)
    | fail)
  go_ret
  exact ⟨_, _, rfl, H1.out⟩
end Go.Proofs.YtcfcfijmfgnpfaaGreatDoor
end

section
namespace Go.Proofs
open Go.Shelf
def Tryz.sortH_ren : Go.Shelf.Ren := ⟨fun | 6 => 93 | 15 => 114 | 14 => 113 | 28 => 134 | 29 => 135 | 20 => 126 | 21 => 127 | 22 => 128 | 23 => 129 | 24 => 130 | 25 => 131 | 26 => 132 | 27 => 133 | 46 => 139 | 47 => 140 | 48 => 141 | 49 => 142 | 50 => 143 | 57 => 149 | n => n, fun | 22 => 131 | 24 => 41 | 25 => 136 | 3 => 3 | 39 => 142 | 0 => 0 | 53 => 206 | 55 => 139 | 4 => 4 | 46 => 200 | 45 => 199 | 50 => 104 | 5 => 5 | 9 => 9 | 66 => 212 | 70 => 169 | 76 => 222 | 77 => 223 | n => n, fun | n => n⟩
theorem Tryz.sortH : Go.Proofs.SlLaysF0.n6 Tryz.prog Tryz.sortH_ren := {
  mixed := by kernel_rfl
  f6 := ⟨Tryz.f93.name, by decide, Tryz.func93.trans (congrArg some (by kernel_rfl))⟩
  f14 := ⟨Tryz.f113.name, by decide, Tryz.func113.trans (congrArg some (by kernel_rfl))⟩
  f15 := Tryz.func114.trans (congrArg some (by kernel_rfl))
  f20 := ⟨Tryz.f126.name, by decide, Tryz.func126.trans (congrArg some (by kernel_rfl))⟩
  f21 := ⟨Tryz.f127.name, by decide, Tryz.func127.trans (congrArg some (by kernel_rfl))⟩
  f22 := ⟨Tryz.f128.name, by decide, Tryz.func128.trans (congrArg some (by kernel_rfl))⟩
  f23 := ⟨Tryz.f129.name, by decide, Tryz.func129.trans (congrArg some (by kernel_rfl))⟩
  f24 := ⟨Tryz.f130.name, by decide, Tryz.func130.trans (congrArg some (by kernel_rfl))⟩
  f25 := ⟨Tryz.f131.name, by decide, Tryz.func131.trans (congrArg some (by kernel_rfl))⟩
  f26 := ⟨Tryz.f132.name, by decide, Tryz.func132.trans (congrArg some (by kernel_rfl))⟩
  f27 := ⟨Tryz.f133.name, by decide, Tryz.func133.trans (congrArg some (by kernel_rfl))⟩
  f28 := Tryz.func134.trans (congrArg some (by kernel_rfl))
  f29 := Tryz.func135.trans (congrArg some (by kernel_rfl))
  f46 := ⟨Tryz.f139.name, by decide, Tryz.func139.trans (congrArg some (by kernel_rfl))⟩
  f47 := Tryz.func140.trans (congrArg some (by kernel_rfl))
  f48 := Tryz.func141.trans (congrArg some (by kernel_rfl))
  f49 := ⟨Tryz.f142.name, by decide, Tryz.func142.trans (congrArg some (by kernel_rfl))⟩
  f50 := ⟨Tryz.f143.name, by decide, Tryz.func143.trans (congrArg some (by kernel_rfl))⟩
  f57 := ⟨Tryz.f149.name, by decide, Tryz.func149.trans (congrArg some (by kernel_rfl))⟩
  t0 := Tryz.underlying0
  a0 := Tryz.isAgg0
  z0 := Tryz.sizeOf0
  v0 := Tryz.zeroValue0
  t3 := Tryz.underlying3
  a3 := Tryz.isAgg3
  z3 := Tryz.sizeOf3
  v3 := Tryz.zeroValue3
  t4 := Tryz.underlying4
  a4 := Tryz.isAgg4
  z4 := Tryz.sizeOf4
  v4 := Tryz.zeroValue4
  t5 := Tryz.underlying5
  a5 := Tryz.isAgg5
  z5 := Tryz.sizeOf5
  v5 := Tryz.zeroValue5
  t9 := Tryz.underlying9
  a9 := Tryz.isAgg9
  z9 := Tryz.sizeOf9
  v9 := Tryz.zeroValue9
  t22 := Tryz.underlying131
  a22 := Tryz.isAgg131
  z22 := Tryz.sizeOf131
  v22 := Tryz.zeroValue131
  t25 := Tryz.underlying136
  a25 := Tryz.isAgg136
  z25 := Tryz.sizeOf136
  v25 := Tryz.zeroValue136
  t39 := Tryz.underlying142
  a39 := Tryz.isAgg142
  z39 := Tryz.sizeOf142
  v39 := Tryz.zeroValue142
  t45 := Tryz.underlying199
  a45 := Tryz.isAgg199
  z45 := Tryz.sizeOf199
  v45 := Tryz.zeroValue199
  t46 := Tryz.underlying200
  a46 := Tryz.isAgg200
  z46 := Tryz.sizeOf200
  v46 := Tryz.zeroValue200
  t50 := Tryz.underlying104
  a50 := Tryz.isAgg104
  z50 := Tryz.sizeOf104
  v50 := Tryz.zeroValue104
  t53 := Tryz.underlying206
  a53 := Tryz.isAgg206
  z53 := Tryz.sizeOf206
  v53 := Tryz.zeroValue206
  t55 := Tryz.underlying139
  a55 := Tryz.isAgg139
  z55 := Tryz.sizeOf139
  v55 := Tryz.zeroValue139
  t66 := Tryz.underlying212
  a66 := Tryz.isAgg212
  z66 := Tryz.sizeOf212
  v66 := Tryz.zeroValue212
  t70 := Tryz.underlying169
  a70 := Tryz.isAgg169
  z70 := Tryz.sizeOf169
  v70 := Tryz.zeroValue169
  t76 := Tryz.underlying222
  a76 := Tryz.isAgg222
  z76 := Tryz.sizeOf222
  v76 := Tryz.zeroValue222
  t77 := Tryz.underlying223
  a77 := Tryz.isAgg223
  z77 := Tryz.sizeOf223
  v77 := Tryz.zeroValue223 }
end Go.Proofs
end
