/-
  AgendaCarries: a row of numbers beside an agenda; the tasks as they come.
-/
import Derived.Test.YtbpgiahbnijidaaAk3
namespace Go.Proofs.Ytbpgiahbnijidaa
open Go.RowKit Go.Shelf
set_option linter.unusedVariables false
set_option linter.unusedSimpArgs false

def Is (l : List Int) : List Value := l.map fun x => Value.int .i64 x
/-- Numbers that the call owns. -/
def OwnN (B : Nat) (v : Value) (l : List Int) (w : World) : Prop := w.ownsRow B 3 1 v l.length (Is l)
theorem infoI : (Try.prog.info? 3).map (fun i => (i.zero, i.size, i.bytes)) = some (some (.int .i64 0), 1, 8) := by kernel_rfl
theorem OwnN.nil (w : World) (B : Nat) : OwnN B (.slice none 0 0) [] w := World.ownsRow_nil w B _ 1
theorem OwnN.lenOf {B : Nat} {v : Value} {l : List Int} {w : World} (h : OwnN B v l w) : ∃ ao cap, v = .slice ao l.length cap := by
  rcases h.2 with ⟨rfl, e⟩ | ⟨g, cap, cur, rfl, -⟩
  · exact ⟨none, 0, by rw [e]⟩
  · exact ⟨_, _, rfl⟩
theorem OwnN.block {B : Nat} {v : Value} {l : List Int} {w : World} (h : OwnN B v l w) {k : Nat} (hk : v.ownBlock = some k) : B ≤ k ∧ k < w.heap.size := World.ownsRow.lt h k hk
theorem OwnN.of {B S' : Nat} {v : Value} {l : List Int} {w w' : World} (h : OwnN B v l w) (hS : S' ≤ B) (hk : ∀ k, v.ownBlock = some k → w'.heap[k]? = w.heap[k]?) : OwnN S' v l w' := by
  obtain ⟨h1, h2⟩ := h
  refine ⟨h1, ?_⟩
  rcases h2 with h2 | ⟨g, cap, cur, rfl, hb, hg, hn, hm, hs, ht⟩
  · exact .inl h2
  · exact .inr ⟨g, cap, cur, rfl, by omega, (hk g rfl).trans hg, hn, hm, hs, ht⟩
theorem OwnN.kind {B : Nat} {v : Value} {l : List Int} {w : World} (h : OwnN B v l w) {k : Nat} (hk : v.ownBlock = some k) : ∃ cur, w.heap[k]? = some (.cells cur 3 (0, 0)) := by
  rcases h.2 with ⟨rfl, _⟩ | ⟨g, cap, cur, rfl, _, hg, _⟩
  · cases hk
  · cases hk; exact ⟨_, hg⟩
theorem OwnT.kind {B : Nat} {v : Value} {l : List Tk} {w : World} (h : OwnT B v l w) {k : Nat} (hk : v.ownBlock = some k) : ∃ cur, w.heap[k]? = some (.cells cur 32 (0, 0)) := by
  rcases h.2 with ⟨rfl, _⟩ | ⟨g, cap, cur, rfl, _, hg, _⟩
  · cases hk
  · cases hk; exact ⟨_, hg⟩
theorem kinds_ne {w : World} {k : Nat} {a b : Array Value} {s t : TypeId} (h1 : w.heap[k]? = some (.cells a s (0, 0))) (h2 : w.heap[k]? = some (.cells b t (0, 0))) : s = t := by
  have := h1.symm.trans h2
  simp at this
  exact this.2
theorem OwnN.val {B : Nat} {v : Value} {l : List Int} {w : World} (h : OwnN B v l w) {i : Nat} (hi : i < l.length) : ∃ g, v.ownBlock = some g ∧ (∃ cap, v = .slice (some ⟨g, 0, none⟩) l.length cap) ∧ w.cell? ⟨g, i, none⟩ = some (.int .i64 (l.getD i 0)) := by
  rcases h.2 with ⟨rfl, e⟩ | ⟨g, cap, cur, rfl, _, hg, _, _, hs, ht⟩
  · omega
  · refine ⟨g, rfl, ⟨_, rfl⟩, ?_⟩
    rw [World.cell?, hg]
    have h1 : (Is l)[i]? = some (.int .i64 (l.getD i 0)) := by simp [Is, hi]
    rw [← ht, List.getElem?_take_of_lt (by omega)] at h1
    simpa using h1
/-- An agenda, and a row of numbers beside it. -/
structure Car (wb : World) (g : Nat) (ts : List Tk) (vo : Value) (ns : List Int) (w : World) : Prop where
  ag : ∃ v, AgA wb.heap.size g v ts w
  old : Below wb.heap.size wb w
  got : OwnN wb.heap.size vo ns w
section
variable {wb w : World} {g : Nat} {ts : List Tk} {vo : Value} {ns : List Int}
theorem Car.new (h : AgSt wb g ts w) : Car wb g ts (.slice none 0 0) [] w := by
  obtain ⟨v, hA, hB⟩ := h
  exact ⟨⟨v, hA⟩, hB, OwnN.nil _ _⟩
theorem Car.ne (h : Car wb g ts vo ns w) : vo.ownBlock ≠ some g := fun e => by
  obtain ⟨v, hA⟩ := h.ag
  obtain ⟨cur, hc⟩ := h.got.kind e
  exact absurd (kinds_ne hc hA.at_) (by decide)
theorem Car.due (now most : Int) (h : Car wb g ts vo ns w) (hl : ts.length ≤ 12) : Calls Try.prog 17 #[.pointer (some ⟨g, 0, none⟩), .int .i64 now, .int .i64 most] w fun e w' => ∃ v', e = .returned v' ∧ OwnT wb.heap.size v' (dueL ts now most) w' ∧ Car wb g (ts.drop (dueL ts now most).length) vo ns w' := by
  have hne := h.ne
  obtain ⟨⟨v, hA⟩, hB, hG⟩ := h
  refine (agenda_Due _ g v ts now most w hA hl hB.size).mono fun e w' ⟨v', he, hO, v2, hA2, ho, _⟩ => ⟨v', he, OwnT.of hO hB.size (fun k hk => rfl), ⟨v2, hA2⟩, ?_, ?_⟩
  · refine hB.trans (ho.below hB.size (fun k hk => ?_) (fun k hk => hk.elim))
    rcases hk with rfl | hk
    · exact hA.lo
    · exact (hA.own.block hk).1
  · refine hG.of (Nat.le_refl _) (fun k hk => ho.block k (hG.block hk).2 ?_ (fun h => h))
    rintro (rfl | h2)
    · exact hne hk
    · obtain ⟨c1, e1⟩ := hG.kind hk
      obtain ⟨c2, e2⟩ := hA.own.kind h2
      exact absurd (kinds_ne e1 e2) (by decide)
/-- What an append to the row of numbers leaves. -/
theorem Car.app (h : Car wb g ts vo ns w) {vo' : Value} {ns' : List Int} {w' : World} (hg : w.grownBy w' vo.ownBlock) (hO : OwnN wb.heap.size vo' ns' w') : Car wb g ts vo' ns' w' := by
  have hne := h.ne
  obtain ⟨⟨v, hA⟩, hB, hG⟩ := h
  refine ⟨⟨v, ⟨(hg.block g hA.lt (fun e => hne e.symm)).trans hA.at_, hA.own.of (Nat.le_refl _) (fun k hk => hg.block k (hA.own.block hk).2 (fun e => ?_)), hA.ne, hA.lo⟩⟩, hB.grown hg hB.size (fun k hk => (hG.block hk).1), hO⟩
  obtain ⟨c1, e1⟩ := hG.kind e.symm
  obtain ⟨c2, e2⟩ := hA.own.kind hk
  exact absurd (kinds_ne e1 e2) (by decide)
theorem Car.task (h : Car wb g ts vo ns w) {v : Value} {d : List Tk} (hd : OwnT wb.heap.size v d w) {w' : World} (hg : w.grownBy w' vo.ownBlock) : OwnT wb.heap.size v d w' :=
  hd.of (Nat.le_refl _) (fun k hk => hg.block k (hd.block hk).2 (fun e => by
    obtain ⟨c1, e1⟩ := h.got.kind e.symm
    obtain ⟨c2, e2⟩ := hd.kind hk
    exact absurd (kinds_ne e1 e2) (by decide)))
end
section
variable {w : World} {ops : Array Oper} {rest : List Oper} {o : Oper} {a : Act} {Q : Exit → Act → World → Prop}
theorem wp_app_N {s x : Operand} {B ub : Nat} {v : Value} {xs : List Int} {y : Int} (hgd : o.guard = none)
    (ho : o.op = .call { callee := .builtin .append, args := #[s, x], argTypes := #[47, 47] }) (hs : a.eval s = v) (hx : a.eval x = .slice (some ⟨ub, 0, none⟩) 1 1)
    (hown : OwnN B v xs w) (hc : w.cell? ⟨ub, 0, none⟩ = some (.int .i64 y)) (hlen : xs.length ≤ 1000) (hB : B ≤ w.heap.size)
    (h : ∀ v' w', OwnN B v' (xs ++ [y]) w' → w.grownBy w' v.ownBlock → wpList Try.prog ops Q rest (a.put o.dst v') w') : wpList Try.prog ops Q (o :: rest) a w := by
  obtain ⟨i0, hi, hz⟩ := Option.map_eq_some_iff.1 infoI
  simp only [Prod.mk.injEq] at hz
  obtain ⟨hz0, hz1, hz2⟩ := hz
  refine wpList_append_own _ hgd s x _ ho B 3 i0 (.int .i64 0) 1 8 Try.underlying47 hi hz0 hz1 hz2 rfl (by decide) v _ _ hs hown ⟨ub, 0, none⟩ 1 1 [.int .i64 y] hx (by simp)
    (fun j u hj => by
      cases j with
      | zero => simp only [List.getElem?_cons_zero, Option.some.injEq] at hj; subst hj; rw [Addr.add_mid]; exact hc
      | succ j => simp at hj) (by simp [Value.oneCell']) (by unfold maxLen; omega) (by omega) hB ?_
  intro v' w' h1 h2 h3
  refine h v' w' ?_ h2
  unfold OwnN
  rw [List.length_append]
  simpa [Is] using h1
end
end Go.Proofs.Ytbpgiahbnijidaa
