/-
  Bytes appended to what the call owns, in one law for whatever reads as bytes.
-/
import Derived.Test.YtbndegkgpoemnaaCom9
import Derived.Laws.AppendOwnNone
namespace Go.Proofs.Ytbndegkgpoemnaa
open Go.RowKit
set_option linter.unusedVariables false

theorem own_app {B : Nat} {v : Value} {xs l : List Nat} {w : World} (h : w.ownsRow B 5 1 v ((Bs xs).length + l.length) (Bs xs ++ Bs l)) : OwnB B v (Bs (xs ++ l)) w := by
  unfold OwnB; rw [Bs_append, List.length_append, Bs_length l]; exact h

theorem RdB.cells {w : World} {a : Addr} {cap n : Nat} {l : List Nat} (h : RdB w (.slice (some a) n cap) l) : n = l.length ∧ ∀ j u, (Bs l)[j]? = some u → w.cell? (a.add j) = some u := by
  rcases h with ⟨h1, h2⟩ | ⟨a', cap', h1, hc, hcell⟩
  · cases h1
  · injection h1 with h1 h2 h3
    injection h1 with h1
    subst h1 h2
    refine ⟨rfl, fun j u hj => ?_⟩
    simp only [Bs, List.getElem?_map] at hj
    by_cases hl : j < l.length
    · rw [List.getElem?_eq_getElem hl] at hj
      simp at hj
      rw [hcell j hl, ← hj]; simp [hl]
    · rw [List.getElem?_eq_none (by omega)] at hj; simp at hj

/-- 'append(v, u...)' of bytes. -/
theorem wp_app_B {w : World} {ops : Array Oper} {rest : List Oper} {o : Oper} {a : Act} {Q : Exit → Act → World → Prop} {s x : Operand} {B : Nat} {v u : Value} {xs l : List Nat} (hgd : o.guard = none)
    (ho : o.op = .call { callee := .builtin .append, args := #[s, x], argTypes := #[31, 31] }) (hs : a.eval s = v) (hx : a.eval x = u)
    (hown : OwnB B v (Bs xs) w) (hr : RdB w u l) (hlen : xs.length + l.length ≤ 1099511627776) (hB : B ≤ w.heap.size)
    (h : ∀ v' w', OwnB B v' (Bs (xs ++ l)) w' → Below B w w' → B ≤ w'.heap.size → w.grownBy w' v.ownBlock → wpList Try.prog ops Q rest (a.put o.dst v') w') : wpList Try.prog ops Q (o :: rest) a w := by
  obtain ⟨i0, hi, hz0, hz1, hz2⟩ := info_parts info5
  have hr' := hr
  rcases hr with ⟨rfl, rfl⟩ | ⟨ad, cap, rfl, hc, hcell⟩
  · refine wpList_append_own_none hgd s x _ ho B 5 i0 1 Try.underlying31 hi v _ _ hs hown hx ?_
    exact h v w (by rw [List.append_nil]; exact hown) (Below.refl _ _) hB ⟨rfl, rfl, rfl, Nat.le_refl _, fun _ _ _ => rfl⟩
  · refine wpList_append_own _ hgd s x _ ho B 5 i0 (.int .u8 0) 1 1 Try.underlying31 hi hz0 hz1 hz2 rfl (by decide) v _ _ hs hown ad l.length cap (Bs l) hx (by rw [Bs_length, Nat.mul_one]) hr'.cells.2 (Bs_one l) (by rw [Bs_length]; unfold maxLen; omega) (by rw [Bs_length]; omega) hB ?_
    intro v' w' h1 h2 _
    exact h v' w' (own_app h1) ((Below.refl _ _).grown h2 hB (fun k hk => (World.ownsRow.lt hown k hk).1)) (Nat.le_trans hB h2.size) h2

theorem grown_alloc {w w' : World} {o : Obj} {r : Option Nat} (h : (w.alloc o).grownBy w' r) : w.grownBy w' r :=
  ⟨h.os, h.tape, h.output, by have := h.size; simp at this; omega, fun k hk hr => (h.block k (by simp; omega) hr).trans (Below.heap_alloc w o k hk)⟩

/-- What owns some bytes reads as they do, at its own address. -/
theorem own_open {B : Nat} {v : Value} {l : List Nat} {w : World} (h : OwnB B v (Bs l) w) (hl : 0 < l.length) :
    ∃ g cap, v = .slice (some ⟨g, 0, none⟩) l.length cap ∧ B ≤ g ∧ g < w.heap.size ∧ l.length ≤ cap ∧ (∀ i, i < l.length → w.cell? ((⟨g, 0, none⟩ : Addr).add i) = some (.int .u8 ((l.getD i 0 : Nat) : Int))) ∧ (∀ i, w.frozen? ⟨g, i, none⟩ = false) := by
  have h' := h
  obtain ⟨h1, h2⟩ := h
  rcases h2 with ⟨rfl, h0⟩ | ⟨g, cap, cur, rfl, hg, hh, hc, hr⟩
  · rw [Bs_length] at h0; omega
  · have hlt := World.ownsRow.lt h' g rfl
    rw [Bs_length] at hc ⊢
    refine ⟨g, cap, rfl, hg, hlt.2, hc, fun i hi => World.ownsRow.cells h' rfl i _ (by simp [Bs, hi]), fun i => ?_⟩
    unfold World.frozen?; rw [hh]; simp

/-- The first bytes of what reads as bytes. -/
theorem rd_take {w : World} {a : Addr} {cap n : Nat} {l : List Nat} (h : RdB w (.slice (some a) n cap) l) {k : Nat} (hk : k ≤ n) : RdB w (.slice (some a) k cap) (l.take k) := by
  rcases h with ⟨h1, h2⟩ | ⟨a', cap', h1, hc, hcell⟩
  · cases h1
  · injection h1 with h1 h2 h3
    injection h1 with h1
    subst h1 h2 h3
    have hlen : (l.take k).length = k := by simp; omega
    refine .inr ⟨a, cap, by rw [hlen], by rw [hlen]; omega, fun i hi => ?_⟩
    rw [hlen] at hi
    rw [hcell i (by omega)]
    simp only [List.getD_eq_getElem?_getD, List.getElem?_take]
    rw [if_pos hi]

end Go.Proofs.Ytbndegkgpoemnaa
