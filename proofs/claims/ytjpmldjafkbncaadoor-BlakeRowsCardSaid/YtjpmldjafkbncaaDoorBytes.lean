/-
  Slices of bytes: what the call owns, what it only reads; appended, cut; opened where they come in.
-/
import Derived.Test.YtjpmldjafkbncaaDoorChecked
import Derived.Test.YtjpmldjafkbncaaDoorFlat
import Derived.WalkKit
import Derived.Lib.Hide
import Derived.Below
import Derived.IntWalk
import Derived.Laws.AppendOwn
import Derived.Laws.AppendOwnNone
import Derived.Deep.Matrix
namespace Go.Proofs.YtjpmldjafkbncaaDoor
open Go.RowKit
set_option linter.unusedVariables false

theorem info5 : (Tryd.prog.info? 5).map (fun i => (i.zero, i.size, i.bytes)) = some (some (.int .u8 0), 1, 1) := by kernel_rfl
/-- Bytes as the cells of a row. -/
def Bs (l : List Nat) : List Value := l.map fun (b : Nat) => Value.int .u8 (b : Int)
theorem Bs_append (a b : List Nat) : Bs (a ++ b) = Bs a ++ Bs b := by simp [Bs]
theorem Bs_length (a : List Nat) : (Bs a).length = a.length := by simp [Bs]
/-- A slice value owns these bytes' cells. -/
def OwnB (B : Nat) (v : Value) (l : List Value) (w : World) : Prop := w.ownsRow B 5 1 v l.length l
/-- A slice comes back that owns these cells; below B nothing has turned. -/
def OwnRet (B : Nat) (xs : List Value) (w : World) (e : Ending) (w' : World) : Prop :=
  ∃ v', e = .returned v' ∧ OwnB B v' xs w' ∧ Below B w w' ∧ B ≤ w'.heap.size
theorem Bs_one (l : List Nat) : ∀ u ∈ Bs l, u.oneCell' = true := by
  intro u hu
  simp only [Bs, List.mem_map] at hu
  obtain ⟨b, -, rfl⟩ := hu
  rfl
/-- A cell that is there lies in a block that is there. -/
theorem cell_block {w : World} {a : Addr} {i : Nat} {v : Value} (h : w.cell? (a.add i) = some v) : a.block < w.heap.size := by
  have h1 := World.block_lt_of_cell? w _ h
  have : (a.add i).block = a.block := by unfold Addr.add; split <;> rfl
  rwa [this] at h1
/-- A slice of bytes reads as these. -/
def RdB (w : World) (v : Value) (l : List Nat) : Prop :=
  (v = .slice none 0 0 ∧ l = []) ∨ ∃ a cap, v = .slice (some a) l.length cap ∧ l.length ≤ cap ∧ ∀ i, i < l.length → w.cell? (a.add i) = some (.int .u8 ((l.getD i 0 : Nat) : Int))
/-- A slice of integers reads as these. -/
def RdI (w : World) (v : Value) (l : List Int) : Prop :=
  (v = .slice none 0 0 ∧ l = []) ∨ ∃ a cap, v = .slice (some a) l.length cap ∧ l.length ≤ cap ∧ ∀ i, i < l.length → w.cell? (a.add i) = some (.int .i64 (l.getD i 0))
theorem RdB.below {w w' : World} {v : Value} {l : List Nat} (h : RdB w v l) (hb : Below w.heap.size w w') : RdB w' v l := by
  rcases h with h | ⟨a, cap, hv, hc, hcell⟩
  · exact .inl h
  · refine .inr ⟨a, cap, hv, hc, fun i hi => ?_⟩
    have hl := cell_block (hcell i hi)
    have : (a.add i).block = a.block := by unfold Addr.add; split <;> rfl
    rw [hb.cell (by rw [this]; exact hl)]; exact hcell i hi
theorem RdI.below {w w' : World} {v : Value} {l : List Int} (h : RdI w v l) (hb : Below w.heap.size w w') : RdI w' v l := by
  rcases h with h | ⟨a, cap, hv, hc, hcell⟩
  · exact .inl h
  · refine .inr ⟨a, cap, hv, hc, fun i hi => ?_⟩
    have hl := cell_block (hcell i hi)
    have : (a.add i).block = a.block := by unfold Addr.add; split <;> rfl
    rw [hb.cell (by rw [this]; exact hl)]; exact hcell i hi
theorem OwnB.reads {B : Nat} {v : Value} {l : List Nat} {w : World} (h : OwnB B v (Bs l) w) : RdB w v l := by
  have h' := h
  obtain ⟨h1, h2⟩ := h
  rcases h2 with ⟨rfl, h0⟩ | ⟨g, cap, cur, rfl, hg, hh, hc, hr⟩
  · rw [Bs_length] at h0
    exact .inl ⟨rfl, List.length_eq_zero_iff.1 h0⟩
  · have hlt := World.ownsRow.lt h' g rfl
    rw [Bs_length] at hc ⊢
    refine .inr ⟨⟨g, 0, none⟩, cap, rfl, hc, fun i hi => ?_⟩
    exact World.ownsRow.cells h' rfl i _ (by simp [Bs, hi])
theorem RdB.lenOf {w : World} {v : Value} {l : List Nat} (h : RdB w v l) : ∃ ao cap, v = .slice ao l.length cap := by
  rcases h with ⟨rfl, rfl⟩ | ⟨a, cap, rfl, -⟩
  · exact ⟨_, _, rfl⟩
  · exact ⟨_, _, rfl⟩
theorem own_app {B : Nat} {v : Value} {xs l : List Nat} {w : World} (h : w.ownsRow B 5 1 v ((Bs xs).length + l.length) (Bs xs ++ Bs l)) : OwnB B v (Bs (xs ++ l)) w := by
  unfold OwnB; rw [Bs_append, List.length_append, Bs_length l]; exact h
theorem RdB.cells {w : World} {a : Addr} {cap n : Nat} {l : List Nat} (h : RdB w (.slice (some a) n cap) l) : n = l.length ∧ ∀ j u, (Bs l)[j]? = some u → w.cell? (a.add j) = some u := by
  rcases h with ⟨h1, h2⟩ | ⟨a', cap', h1, hc, hcell⟩
  · cases h1
  · injection h1 with h1 h2 h3
    injection h1 with h1
    subst h1 h2
    refine ⟨rfl, fun j u hj => ?_⟩
    simp only [Bs, List.getElem?_map] at hj
    by_cases hl : j < l.length
    · rw [List.getElem?_eq_getElem hl] at hj
      simp at hj
      rw [hcell j hl, ← hj]; simp [hl]
    · rw [List.getElem?_eq_none (by omega)] at hj; simp at hj
/-- 'append(v, u...)' of bytes. -/
theorem wp_app_B {w : World} {ops : Array Oper} {rest : List Oper} {o : Oper} {a : Act} {Q : Exit → Act → World → Prop} {s x : Operand} {B : Nat} {v u : Value} {xs l : List Nat} (hgd : o.guard = none)
    (ho : o.op = .call { callee := .builtin .append, args := #[s, x], argTypes := #[22, 22] }) (hs : a.eval s = v) (hx : a.eval x = u)
    (hown : OwnB B v (Bs xs) w) (hr : RdB w u l) (hlen : xs.length + l.length ≤ 1099511627776) (hB : B ≤ w.heap.size)
    (h : ∀ v' w', OwnB B v' (Bs (xs ++ l)) w' → Below B w w' → B ≤ w'.heap.size → w.grownBy w' v.ownBlock → wpList Tryd.prog ops Q rest (a.put o.dst v') w') : wpList Tryd.prog ops Q (o :: rest) a w := by
  obtain ⟨i0, hi, hz0, hz1, hz2⟩ := info_parts info5
  have hr' := hr
  rcases hr with ⟨rfl, rfl⟩ | ⟨ad, cap, rfl, hc, hcell⟩
  · refine wpList_append_own_none hgd s x _ ho B 5 i0 1 Tryd.underlying22 hi v _ _ hs hown hx ?_
    exact h v w (by rw [List.append_nil]; exact hown) (Below.refl _ _) hB ⟨rfl, rfl, rfl, Nat.le_refl _, fun _ _ _ => rfl⟩
  · refine wpList_append_own _ hgd s x _ ho B 5 i0 (.int .u8 0) 1 1 Tryd.underlying22 hi hz0 hz1 hz2 rfl (by decide) v _ _ hs hown ad l.length cap (Bs l) hx (by rw [Bs_length, Nat.mul_one]) hr'.cells.2 (Bs_one l) (by rw [Bs_length]; unfold maxLen; omega) (by rw [Bs_length]; omega) hB ?_
    intro v' w' h1 h2 _
    exact h v' w' (own_app h1) ((Below.refl _ _).grown h2 hB (fun k hk => (World.ownsRow.lt hown k hk).1)) (Nat.le_trans hB h2.size) h2
theorem grown_alloc {w w' : World} {o : Obj} {r : Option Nat} (h : (w.alloc o).grownBy w' r) : w.grownBy w' r :=
  ⟨h.os, h.tape, h.output, by have := h.size; simp at this; omega, fun k hk hr => (h.block k (by simp; omega) hr).trans (Below.heap_alloc w o k hk)⟩
/-- What owns some bytes reads as they do, at its own address. -/
theorem own_open {B : Nat} {v : Value} {l : List Nat} {w : World} (h : OwnB B v (Bs l) w) (hl : 0 < l.length) :
    ∃ g cap, v = .slice (some ⟨g, 0, none⟩) l.length cap ∧ B ≤ g ∧ g < w.heap.size ∧ l.length ≤ cap ∧ (∀ i, i < l.length → w.cell? ((⟨g, 0, none⟩ : Addr).add i) = some (.int .u8 ((l.getD i 0 : Nat) : Int))) ∧ (∀ i, w.frozen? ⟨g, i, none⟩ = false) := by
  have h' := h
  obtain ⟨h1, h2⟩ := h
  rcases h2 with ⟨rfl, h0⟩ | ⟨g, cap, cur, rfl, hg, hh, hc, hr⟩
  · rw [Bs_length] at h0; omega
  · have hlt := World.ownsRow.lt h' g rfl
    rw [Bs_length] at hc ⊢
    refine ⟨g, cap, rfl, hg, hlt.2, hc, fun i hi => World.ownsRow.cells h' rfl i _ (by simp [Bs, hi]), fun i => ?_⟩
    unfold World.frozen?; rw [hh]; simp
/-- The first bytes of what reads as bytes. -/
theorem rd_take {w : World} {a : Addr} {cap n : Nat} {l : List Nat} (h : RdB w (.slice (some a) n cap) l) {k : Nat} (hk : k ≤ n) : RdB w (.slice (some a) k cap) (l.take k) := by
  rcases h with ⟨h1, h2⟩ | ⟨a', cap', h1, hc, hcell⟩
  · cases h1
  · injection h1 with h1 h2 h3
    injection h1 with h1
    subst h1 h2 h3
    have hlen : (l.take k).length = k := by simp; omega
    refine .inr ⟨a, cap, by rw [hlen], by rw [hlen]; omega, fun i hi => ?_⟩
    rw [hlen] at hi
    rw [hcell i (by omega)]
    simp only [List.getD_eq_getElem?_getD, List.getElem?_take]
    rw [if_pos hi]
theorem add_at (b o i : Nat) : (⟨b, o, none⟩ : Addr).add i = ⟨b, o + i, none⟩ := by
  unfold Addr.add; split
  · rename_i h; subst h; rfl
  · rfl
theorem rd_drop {w : World} {a : Addr} {cap n : Nat} {l : List Nat} (h : RdB w (.slice (some a) n cap) l) {s k : Nat} (hk : s + k ≤ n) (hs : a.spot = none) : RdB w (.slice (some ⟨a.block, a.off + s, none⟩) k (cap - s)) ((l.drop s).take k) := by
  rcases h with ⟨h1, h2⟩ | ⟨a', cap', h1, hc, hcell⟩
  · cases h1
  · injection h1 with h1 h2 h3
    injection h1 with h1
    subst h1 h2 h3
    have hlen : ((l.drop s).take k).length = k := by simp; omega
    obtain ⟨b, o, sp⟩ := a
    simp only at hs; subst hs
    refine .inr ⟨⟨b, o + s, none⟩, cap - s, by rw [hlen], by rw [hlen]; omega, fun i hi => ?_⟩
    rw [hlen] at hi
    have := hcell (s + i) (by omega)
    rw [add_at] at this ⊢
    rw [show o + s + i = o + (s + i) by omega, this]
    simp only [List.getD_eq_getElem?_getD, List.getElem?_take, List.getElem?_drop]
    rw [if_pos hi]
open Go.ChangeShapes Go.WideShapes Go.ChangeAt Go.Deep
section
variable {H : Type} {enc : TypeId × Value → H} {P : Program} {w : World} {base : Nat} {held : Bool}

theorem wf_u8 {n : Int} (h : (Lit.int .u8 n).wf = true) : 0 ≤ n ∧ n < 256 := by
  simp [Lit.wf, IntKind.min, IntKind.max, IntKind.signed, IntKind.bits] at h
  omega

theorem open_RdI0 {t e : TypeId} {k : IntKind} {v : Value} {d : DataW H} {p : List MemPlace} (ht : P.underlying t = some (.slice e)) (he : P.underlying e = some (.int k)) (hc : P.cellsOf e = 1)
    (h : ∃ fuel, DataW.trod enc P w base (fun _ => true) held fuel t [v] = some (d, p)) : (v = .slice none 0 0) ∨
      ∃ (a : Addr) (len cap : Nat) (zs : List Int), v = .slice (some a) len cap ∧ len ≤ cap ∧ cap ≤ maxLen ∧ zs.length = cap ∧ (∀ i, i < cap → w.cell? (a.add i) = some (.int k (zs.getD i 0))) ∧ (∀ n ∈ zs, (Lit.int k n).wf = true) := by
  obtain ⟨fuel, hf⟩ := h
  rcases open_ints ht he hc hf with ⟨hcs, -⟩ | ⟨a, len, cap, zs, hcs, hb, hl, hm, hz, -, hcell, hwz⟩
  · exact .inl (by simpa using hcs)
  · simp only [if_true] at hz
    exact .inr ⟨a, len, cap, zs, by simpa using hcs, hl, hm, hz, fun i hi => hcell i (by omega), hwz⟩

theorem RdB_of {a : Addr} {len cap : Nat} {zs : List Int} (hl : len ≤ cap) (hm : cap ≤ maxLen) (hz : zs.length = cap) (hcell : ∀ i, i < cap → w.cell? (a.add i) = some (.int .u8 (zs.getD i 0))) (hw : ∀ n ∈ zs, (Lit.int .u8 n).wf = true) :
    ∃ l : List Nat, l.length = len ∧ RdB w (.slice (some a) len cap) l ∧ (∀ b ∈ l, b < 256) := by
  have hlen : ((zs.take len).map Int.toNat).length = len := by simp; omega
  refine ⟨(zs.take len).map Int.toNat, hlen, .inr ⟨a, cap, by rw [hlen], by rw [hlen]; exact hl, fun i hi => ?_⟩, ?_⟩
  · rw [hlen] at hi
    rw [hcell i (by omega)]
    have hiz : i < zs.length := by omega
    have := wf_u8 (hw zs[i] (List.getElem_mem hiz))
    have e1 : zs.getD i 0 = zs[i] := by simp [hiz]
    have e2 : ((zs.take len).map Int.toNat).getD i 0 = zs[i].toNat := by simp [hi, hiz]
    rw [e1, e2, Int.toNat_of_nonneg this.1]
  · intro b hb
    simp only [List.mem_map] at hb
    obtain ⟨z, hz', rfl⟩ := hb
    have := wf_u8 (hw z (List.mem_of_mem_take hz'))
    omega

theorem cells_slice {v : Value} {r : Reach} {b0 : Nat} {t e : TypeId} (ht : P.underlying t = some (.slice e)) (hv : Value.okWide P w r b0 t v) : v.cells.toList = [v] := by
  unfold Value.okWide at hv
  rw [ht] at hv
  simp only [Cell.okWide, Cell.ok, ht] at hv
  cases v <;> simp [Value.cells] at hv ⊢

theorem open_RdB {t e : TypeId} {v : Value} {d : DataW H} {p : List MemPlace} {r : Reach} {b0 : Nat} (ht : P.underlying t = some (.slice e)) (he : P.underlying e = some (.int .u8)) (hc : P.cellsOf e = 1)
    (hv : Value.okWide P w r b0 t v) (h : DataW.Trod enc P w base (fun _ => true) held t v d p) : ∃ l : List Nat, RdB w v l ∧ (∀ b ∈ l, b < 256) ∧ l.length ≤ maxLen := by
  obtain ⟨fuel, hf⟩ := h
  rw [cells_slice ht hv] at hf
  rcases open_RdI0 ht he hc ⟨fuel, hf⟩ with rfl | ⟨a, len, cap, zs, rfl, hl, hm, hz, hcell, hw⟩
  · exact ⟨[], .inl ⟨rfl, rfl⟩, by simp, by simp⟩
  · obtain ⟨l, h1, h2, h3⟩ := RdB_of hl hm hz hcell hw
    exact ⟨l, h2, h3, by omega⟩

theorem open_RdI {t e : TypeId} {v : Value} {d : DataW H} {p : List MemPlace} {r : Reach} {b0 : Nat} (ht : P.underlying t = some (.slice e)) (he : P.underlying e = some (.int .i64)) (hc : P.cellsOf e = 1)
    (hv : Value.okWide P w r b0 t v) (h : DataW.Trod enc P w base (fun _ => true) held t v d p) : ∃ l : List Int, RdI w v l ∧ (∀ n ∈ l, (Lit.int .i64 n).wf = true) ∧ l.length ≤ maxLen := by
  obtain ⟨fuel, hf⟩ := h
  rw [cells_slice ht hv] at hf
  rcases open_RdI0 ht he hc ⟨fuel, hf⟩ with rfl | ⟨a, len, cap, zs, rfl, hl, hm, hz, hcell, hw⟩
  · exact ⟨[], .inl ⟨rfl, rfl⟩, by simp, by simp⟩
  · have hlen : (zs.take len).length = len := by simp; omega
    refine ⟨zs.take len, .inr ⟨a, cap, by rw [hlen], by rw [hlen]; exact hl, fun i hi => ?_⟩, fun n hn => hw n (List.mem_of_mem_take hn), by rw [hlen]; omega⟩
    rw [hlen] at hi
    rw [hcell i (by omega)]
    have hiz : i < zs.length := by omega
    simp [hiz, hi]

/-- A slice of slices of bytes reads as these rows. -/
def RdBB (w : World) (v : Value) (l : List (List Nat)) : Prop :=
  (v = .slice none 0 0 ∧ l = []) ∨ ∃ a cap, v = .slice (some a) l.length cap ∧ l.length ≤ cap ∧ ∀ i, i < l.length → ∃ u, w.cell? (a.add i) = some u ∧ RdB w u (l.getD i [])

theorem RdBB.below {w w' : World} {v : Value} {l : List (List Nat)} (h : RdBB w v l) (hb : Below w.heap.size w w') : RdBB w' v l := by
  rcases h with h | ⟨a, cap, hv, hc, hcell⟩
  · exact .inl h
  · refine .inr ⟨a, cap, hv, hc, fun i hi => ?_⟩
    obtain ⟨u, h1, h2⟩ := hcell i hi
    have hl := cell_block h1
    have : (a.add i).block = a.block := by unfold Addr.add; split <;> rfl
    exact ⟨u, by rw [hb.cell (by rw [this]; exact hl)]; exact h1, h2.below hb⟩

theorem open_RdBB {t e q : TypeId} {v : Value} {d : DataW H} {p : List MemPlace} {r : Reach} {b0 : Nat} (ht : P.underlying t = some (.slice e)) (he : P.underlying e = some (.slice q)) (hq : P.underlying q = some (.int .u8)) (ce : P.cellsOf e = 1) (cq : P.cellsOf q = 1)
    (hv : Value.okWide P w r b0 t v) (h : DataW.Trod enc P w base (fun _ => true) held t v d p) : ∃ l : List (List Nat), RdBB w v l ∧ (∀ x ∈ l, (∀ b ∈ x, b < 256) ∧ x.length ≤ maxLen) ∧ l.length ≤ maxLen := by
  obtain ⟨fuel, hf⟩ := h
  rw [cells_slice ht hv] at hf
  rcases open_slice1 ht ce hf with ⟨hcs, -⟩ | ⟨a, len, cap, m, n, V, D, Pl, hcs, hb, hl, hm, hmm, -, hx⟩
  · have : v = .slice none 0 0 := by simpa using hcs
    subst this
    exact ⟨[], .inl ⟨rfl, rfl⟩, by simp, by simp⟩
  · simp only [if_true] at hmm
    have hmm' := hmm.symm
    subst hmm'
    have hvv : v = .slice (some a) len cap := by simpa using hcs
    subst hvv
    have each : ∀ i, i < cap → ∃ l : List Nat, RdB w (V i) l ∧ (∀ b ∈ l, b < 256) ∧ l.length ≤ maxLen := by
      intro i hi
      rcases open_RdI0 he hq cq ⟨_, (hx i hi).2⟩ with h0 | ⟨a', len', cap', zs, h0, hl', hm', hz, hcell, hw⟩
      · exact ⟨[], .inl ⟨h0, rfl⟩, by simp, by simp⟩
      · obtain ⟨l, h1, h2, h3⟩ := RdB_of hl' hm' hz hcell hw
        exact ⟨l, by rw [h0]; exact h2, h3, by omega⟩
    obtain ⟨L, hL⟩ := choose_lt each
    have hlen : ((List.range len).map L).length = len := by simp
    refine ⟨(List.range len).map L, .inr ⟨a, cap, by rw [hlen], by rw [hlen]; exact hl, fun i hi => ?_⟩, fun x hx => ?_, by rw [hlen]; omega⟩
    · rw [hlen] at hi
      refine ⟨V i, (hx i (by omega)).1, ?_⟩
      have : ((List.range len).map L).getD i [] = L i := by simp [hi]
      rw [this]; exact (hL i (by omega)).1
    · simp only [List.mem_map, List.mem_range] at hx
      obtain ⟨i, hi, rfl⟩ := hx
      exact (hL i (by omega)).2
end
end Go.Proofs.YtjpmldjafkbncaaDoor
