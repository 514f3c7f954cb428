/-
  A tally less another one; slices of tallies that the call owns; one laid ahead of them.
-/
import Derived.Test.YtgoomkailpnjaaaTal3
import Derived.Test.YtgoomkailpnjaaaConv1
import Derived.Laws.AppendOwnNone
namespace Go.Proofs.Ytgoomkailpnjaaa
open Go.RowKit
set_option linter.unusedVariables false

def Tal.neg (x : Tal) : Tal := ⟨-x.a, -x.n, -x.s⟩
def smallB (x : Tal) : Bool := inB x.a 1099511627776 && inB x.n 1099511627776 && inB x.s 1099511627776
theorem smallB_out {x : Tal} (h : smallB x = true) : (0 ≤ x.a ∧ x.a ≤ 1099511627776) ∧ (0 ≤ x.n ∧ x.n ≤ 1099511627776) ∧ (0 ≤ x.s ∧ x.s ≤ 1099511627776) := by
  simp only [smallB, Bool.and_eq_true] at h
  exact ⟨inB_out h.1.1, inB_out h.1.2, inB_out h.2⟩

theorem RdT.one (w : World) (a n s : Int) (t : TypeId) {b : Nat} (hb : b = w.heap.size) : RdT (w.alloc (.cells #[.int .i64 a, .int .i64 n, .int .i64 s] t)) (.slice (some ⟨b, 0, none⟩) 1 1) [⟨a, n, s⟩] := by
  subst hb
  refine .inr ⟨⟨w.heap.size, 0, none⟩, 1, rfl, Nat.le_refl _, fun i hi => ?_⟩
  have : i = 0 := by simp at hi; omega
  subst this
  exact ⟨_, _, rfl, by simp, by simp, by simp, by simp⟩

set_option maxHeartbeats 1000000 in
theorem conv_Sub (x y : Tal) (w : World) (hx : x.In) (hy : smallB y = true) (h : (x.add y.neg).In) :
    Calls Try.prog 33 #[talV x, talV y] w fun e w' => e = .returned (talV (x.add y.neg)) ∧ Below w.heap.size w w' := by
  obtain ⟨⟨y1, y2⟩, ⟨y3, y4⟩, y5, y6⟩ := smallB_out hy
  have HX := Lib.hid hx
  have HI := Lib.hid h
  have hz : Tal.sum x [⟨-y.a, -y.n, -y.s⟩] = x.add y.neg := rfl
  have HZ := Lib.hid hz
  have hin : ∀ j, j ≤ [(⟨-y.a, -y.n, -y.s⟩ : Tal)].length → (Tal.sum x ([(⟨-y.a, -y.n, -y.s⟩ : Tal)].take j)).In := by
    intro j hj
    match j, hj with
    | 0, _ => exact hx
    | 1, _ => exact h
  have HJ := Lib.hid hin
  clear hx h hy hz hin
  go_enter Try.func33, Try.ntmps33
  go_wp2_with (first | (go_at_call 32; (with_reducible refine (conv_Add x _ [⟨-y.a, -y.n, -y.s⟩] _ (RdT.one _ _ _ _ _ (by simp)) HJ.out (by simp)).mono ?_); rintro e w1 ⟨rfl, hb1⟩; rw [HZ.out]; have L3 := hb1.size; simp only [World.size_alloc] at L3 hb1; have hz := TB.keep (TB.alloc (TB.newAt (w := (w.alloc (.cells #[.int .i64 x.a, .int .i64 x.n, .int .i64 x.s] 33)).alloc (.cells #[.int .i64 y.a, .int .i64 y.n, .int .i64 y.s] 33)) (x := Tal.zero) (b := w.heap.size + 1 + 1) (by simp)) _) hb1 (by omega); obtain ⟨z1, z2, z3⟩ := hz.c; have f0 := hz.frozen 0; have f1 := hz.frozen 1; have f2 := hz.frozen 2; have H1 := Lib.hid hb1; clear hb1 hz) | fail)
  refine bodyPost_ret (v := .agg #[.int .i64 (x.add y.neg).a, .int .i64 (x.add y.neg).n, .int .i64 (x.add y.neg).s]) (by simp [results, Try.results33, go_sem, *]) rfl ⟨rfl, ?_⟩
  have hb : Below w.heap.size w w1 := ((((Below.refl _ w).alloc (Nat.le_refl _) _).alloc (by simp) _).alloc (by simp; omega) _).alloc (by simp; omega) _ |>.trans (H1.out.mono (by omega))
  exact ((hb.setCell (by simp; omega) _).setCell (by simp; omega) _).setCell (by simp; omega) _

set_option maxHeartbeats 1000000 in
theorem law_small (x : Tal) (w : World) :
    Calls Try.prog 30 #[talV x] w fun e w' => e = .returned (.bool (smallB x)) ∧ Below w.heap.size w w' := by
  unfold talV
  have E : smallB x = (inB x.a 1099511627776 && inB x.n 1099511627776 && inB x.s 1099511627776) := rfl
  rw [E]
  go_enter Try.func30, Try.ntmps30
  cases h1 : inB x.a 1099511627776 <;> cases h2 : inB x.n 1099511627776
  all_goals
    go_wp2_with (go_at_call 18; refine (law5_in _ _ _).mono ?_; rintro e w' ⟨rfl, rfl⟩)
    go_ret
    exact ⟨by simp, (Below.refl _ _).alloc (Nat.le_refl _) _⟩

theorem infoT : (Try.prog.info? 33).map (fun i => (i.zero, i.size, i.bytes)) = some (some (.agg #[.int .i64 0, .int .i64 0, .int .i64 0]), 3, 24) := by kernel_rfl

/-- Tallies as cells. -/
def Ts (l : List Tal) : List Value := l.flatMap fun x => [.int .i64 x.a, .int .i64 x.n, .int .i64 x.s]
theorem Ts_length (l : List Tal) : (Ts l).length = l.length * 3 := by
  induction l with
  | nil => rfl
  | cons x l ih => simp only [Ts, List.flatMap_cons, List.length_append] at ih ⊢; rw [ih]; simp; omega
theorem Ts_one (l : List Tal) : ∀ u ∈ Ts l, u.oneCell' = true := by
  intro u hu
  simp only [Ts, List.mem_flatMap] at hu
  obtain ⟨x, -, hu⟩ := hu
  simp at hu
  rcases hu with rfl | rfl | rfl <;> rfl
theorem Ts_at (l : List Tal) : ∀ i (h : i < l.length), (Ts l)[i * 3]? = some (.int .i64 l[i].a) ∧ (Ts l)[i * 3 + 1]? = some (.int .i64 l[i].n) ∧ (Ts l)[i * 3 + 2]? = some (.int .i64 l[i].s) := by
  induction l with
  | nil => intro i h; simp at h
  | cons x l ih =>
    intro i h
    have e : Ts (x :: l) = [.int .i64 x.a, .int .i64 x.n, .int .i64 x.s] ++ Ts l := rfl
    rw [e]
    cases i with
    | zero => simp
    | succ i =>
      have := ih i (by simp at h; omega)
      have e1 : (i + 1) * 3 = i * 3 + 3 := by omega
      rw [e1]
      simpa using this

/-- A slice of tallies that is owned from B on. -/
def OwnT (B : Nat) (v : Value) (l : List Tal) (w : World) : Prop := w.ownsRow B 33 3 v l.length (Ts l)

theorem OwnT.reads {B : Nat} {v : Value} {l : List Tal} {w : World} (h : OwnT B v l w) : RdT w v l := by
  have h' := h
  obtain ⟨h1, h2⟩ := h
  rcases h2 with ⟨rfl, h0⟩ | ⟨g, cap, cur, rfl, hg, hh, hc, hr⟩
  · exact .inl ⟨rfl, List.length_eq_zero_iff.1 h0⟩
  · have hlt := World.ownsRow.lt h' g rfl
    refine .inr ⟨⟨g, 0, none⟩, cap, rfl, hc, fun i hi => ?_⟩
    have hat := Ts_at l i hi
    have c := World.ownsRow.cells h' (g := g) rfl
    have c1 := c _ _ hat.1
    have c2 := c _ _ hat.2.1
    have c3 := c _ _ hat.2.2
    simp only [Addr.add_lit] at c1 c2 c3
    exact ⟨_, _, rfl, hlt.2, c1, c2, c3⟩

theorem OwnT.one (w : World) (x : Tal) : OwnT w.heap.size (.slice (some ⟨w.heap.size, 0, none⟩) 1 1) [x] (w.alloc (.cells #[.int .i64 x.a, .int .i64 x.n, .int .i64 x.s] 33)) :=
  ⟨rfl, .inr ⟨w.heap.size, 1, _, rfl, Nat.le_refl _, heap_alloc_new w _, Nat.le_refl _, by decide, rfl, rfl⟩⟩

theorem RdT.cells {w : World} {a : Addr} {cap n : Nat} {l : List Tal} (h : RdT w (.slice (some a) n cap) l) : n = l.length ∧ ∀ j u, (Ts l)[j]? = some u → w.cell? (a.add j) = some u := by
  rcases h with ⟨h1, h2⟩ | ⟨a', cap', h1, hc, hcell⟩
  · cases h1
  · injection h1 with h1 h2 h3
    injection h1 with h1
    subst h1 h2
    refine ⟨rfl, fun j u hj => ?_⟩
    have hlt : j < l.length * 3 := by
      rw [← Ts_length]; exact (List.getElem?_eq_some_iff.1 hj).1
    have hd : j = j / 3 * 3 + j % 3 := by omega
    have hq : j / 3 < l.length := by omega
    obtain ⟨blk, off, rfl, hl, c1, c2, c3⟩ := hcell (j / 3) hq
    obtain ⟨t1, t2, t3⟩ := Ts_at l (j / 3) hq
    have hm : j % 3 = 0 ∨ j % 3 = 1 ∨ j % 3 = 2 := by omega
    rcases hm with e | e | e
    · rw [hd, e, Nat.add_zero, t1] at hj
      rw [← hj, ← c1, Addr.add_lit]; congr 2; omega
    · rw [hd, e, t2] at hj
      rw [← hj, ← c2, Addr.add_lit]; congr 2; omega
    · rw [hd, e, t3] at hj
      rw [← hj, ← c3, Addr.add_lit]; congr 2; omega

/-- 'append(v, u...)' of tallies. -/
theorem wp_app_T {w : World} {ops : Array Oper} {rest : List Oper} {o : Oper} {a : Act} {Q : Exit → Act → World → Prop} {s x : Operand} {B : Nat} {v u : Value} {xs l : List Tal} (hgd : o.guard = none)
    (ho : o.op = .call { callee := .builtin .append, args := #[s, x], argTypes := #[36, 36] }) (hs : a.eval s = v) (hx : a.eval x = u)
    (hown : OwnT B v xs w) (hr : RdT w u l) (hlen : xs.length + l.length ≤ 1099511627776) (hB : B ≤ w.heap.size)
    (h : ∀ v' w', OwnT B v' (xs ++ l) w' → w.grownBy w' v.ownBlock → wpList Try.prog ops Q rest (a.put o.dst v') w') : wpList Try.prog ops Q (o :: rest) a w := by
  obtain ⟨i0, hi, hz0, hz1, hz2⟩ := info_parts infoT
  have hr' := hr
  rcases hr with ⟨rfl, rfl⟩ | ⟨ad, cap, rfl, hc, hcell⟩
  · refine wpList_append_own_none hgd s x _ ho B 33 i0 3 Try.underlying36 hi v _ _ hs hown hx ?_
    exact h v w (by rw [List.append_nil]; exact hown) ⟨rfl, rfl, rfl, Nat.le_refl _, fun _ _ _ => rfl⟩
  · refine wpList_append_own _ hgd s x _ ho B 33 i0 _ 3 24 Try.underlying36 hi hz0 hz1 hz2 rfl (by decide) v _ _ hs hown ad l.length cap (Ts l) hx (Ts_length l) hr'.cells.2 (Ts_one l) (by unfold maxLen; omega) (by omega) hB ?_
    intro v' w' h1 h2 _
    refine h v' w' ?_ h2
    unfold OwnT
    have e : Ts (xs ++ l) = Ts xs ++ Ts l := by simp [Ts]
    rw [e, List.length_append]; exact h1
end Go.Proofs.Ytgoomkailpnjaaa
