/-
  agenda's Due.
-/
import Derived.Test.YtbpgiahbnijidaaTskA
import Derived.Test.YtbpgiahbnijidaaIterA
import Derived.Stop.RegionWithIn
namespace Go.Proofs.Ytbpgiahbnijidaa
open Go.RowKit Go.Shelf
attribute [local go_sem] Oper.semAt_some
set_option linter.unusedVariables false
set_option linter.unusedSimpArgs false

section
variable {F : Fence} {nF : Nat} {w : World} {ops : Array Oper} {rest : List Oper} {o : Oper} {a : Act} {Q : Exit → Act → World → Prop}
theorem wplIn_appT_at {s x : Operand} {B ub : Nat} {v : Value} {xs : List Tk} {t : Tk} (hgd : o.guard = none) (ho : o.op = .call { callee := .builtin .append, args := #[s, x], argTypes := #[26, 26] }) (hs : a.eval s = v) (hx : a.eval x = .slice (some ⟨ub, 0, none⟩) 1 1)
    (hown : OwnT B v xs w) (hu : w.heap[ub]? = some (.cells (tc t).toArray 32 (0, 0))) (hlen : xs.length ≤ 900) (hB : B ≤ w.heap.size)
    (h : ∀ v' w', OwnT B v' (xs ++ [t]) w' → w.grownBy w' v.ownBlock → (v'.ownBlock = v.ownBlock ∨ v'.ownBlock = some w.heap.size) → wpListIn F nF Try.prog ops Q rest (a.put o.dst v') w') : wpListIn F nF Try.prog ops Q (o :: rest) a w := by
  obtain ⟨i0, hi, hz⟩ := Option.map_eq_some_iff.1 infoT
  simp only [Prod.mk.injEq] at hz
  obtain ⟨hz0, hz1, hz2⟩ := hz
  obtain ⟨z, hzz, hzs⟩ := Option.map_eq_some_iff.1 hz0
  refine wpListIn_append_own_at _ hgd s x _ ho B 32 i0 z 36 64 Try.underlying26 hi hzz hz1 hz2 hzs (by decide) v _ _ hs hown ⟨ub, 0, none⟩ 1 1 (tc t) hx (by rw [tc_len])
    (fun j u hj => by rw [Addr.add_mid]; exact rangeAt_box hu j u hj) (tc_one t) (by unfold maxLen; omega) (by omega) hB ?_
  intro v' w' h1 h2 _ h4
  refine h v' w' ?_ h2 h4
  unfold OwnT
  rw [Tc_append, Tc_one, List.length_append]
  exact h1
theorem wplIn_buildT {t : Tk} {x : Operand} (hgd : o.guard = none) (ho : o.op = .buildSlice 26 1 #[(0, x)]) (hx : a.eval x = .agg (tc t).toArray)
    (h : wpListIn F nF Try.prog ops Q rest (a.put o.dst (.slice (some ⟨w.heap.size, 0, none⟩) 1 1)) (w.alloc (.cells (tc t).toArray 32))) : wpListIn F nF Try.prog ops Q (o :: rest) a w := by
  refine wpListIn_plain hgd fun K hK => ?_
  unfold Oper.wpIn
  refine ⟨by simp [Oper.about, ho], ?_⟩
  rw [Oper.semAt_plain F _ _ (by rw [ho]; intro c hc'; cases hc')]
  unfold execOp
  have hr : (Instr.buildSlice 26 1 #[(0, Value.agg (tc t).toArray)]).run Try.prog w = _ := run_buildTask t w
  simp only [ho, List.map_toArray, List.map_cons, List.map_nil, hx, Sem.run_bind, Sem.run_pure, hr, Result.andThen_ok]
  exact hK _ _ h
end
/-- What is due. -/
def dueL : List Tk → Int → Int → List Tk
  | [], _, _ => []
  | t :: ts, now, most => if t.due ≤ now ∧ 0 < most then t :: dueL ts now (most - 1) else []
theorem dueL_all : ∀ {ts : List Tk} {now most : Int}, (∀ t ∈ ts, t.due ≤ now) → (ts = [] ∨ (ts.length : Int) ≤ most) → dueL ts now most = ts
  | [], _, _, _, _ => rfl
  | t :: ts, now, most, h, hm => by
    have hl : ((t :: ts).length : Int) ≤ most := hm.resolve_left (by simp)
    simp only [List.length_cons] at hl
    unfold dueL
    rw [if_pos ⟨h t (by simp), by omega⟩, dueL_all (fun u hu => h u (by simp [hu])) (.inr (by omega))]
theorem dueL_stop : ∀ {pre ts : List Tk} {x : Tk} {now most : Int}, (pre ++ [x]) <+: ts → (∀ t ∈ pre, t.due ≤ now) → (pre = [] ∨ (pre.length : Int) ≤ most) → (now < x.due ∨ most ≤ (pre.length : Int)) → dueL ts now most = pre
  | [], ts, x, now, most, ⟨r, hr⟩, _, _, hx => by
    subst hr
    simp only [List.nil_append, List.cons_append, dueL]
    rw [if_neg (by simp at hx; omega)]
  | t :: pre, ts, x, now, most, ⟨r, hr⟩, h, hm, hx => by
    subst hr
    have hl : ((t :: pre).length : Int) ≤ most := hm.resolve_left (by simp)
    simp only [List.length_cons] at hl hx
    simp only [List.cons_append, dueL]
    rw [if_pos ⟨h t (by simp), by omega⟩]
    congr 1
    exact dueL_stop ⟨r, rfl⟩ (fun u hu => h u (by simp [hu])) (.inr (by omega)) (hx.imp id (fun h => by omega))
theorem dueL_len : ∀ (ts : List Tk) (now most : Int), dueL ts now most = ts.take (dueL ts now most).length
  | [], _, _ => rfl
  | t :: ts, now, most => by
    unfold dueL
    split
    · have := dueL_len ts now (most - 1)
      simp only [List.length_cons, List.take_succ_cons]
      rw [← this]
    · rfl
theorem dueL_le (ts : List Tk) (now most : Int) : (dueL ts now most).length ≤ ts.length := by
  have := congrArg List.length (dueL_len ts now most)
  rw [List.length_take] at this
  omega
/-- What Due's loop holds. -/
structure DueC (N0 db nb mb : Nat) (now most : Int) (pre : List Tk) (Φ : FP) (W : World) (v : Value) : Prop where
  bx : Boxed W db 26 v
  own : OwnT N0 v pre W
  iff : ∀ k, Φ k ↔ v.ownBlock = some k
  bn : Boxed W nb 3 (.int .i64 now)
  bm : Boxed W mb 3 (.int .i64 most)
  due : ∀ t ∈ pre, t.due ≤ now
  cnt : pre = [] ∨ (pre.length : Int) ≤ most
  sz : N0 ≤ W.heap.size
def DueI (N0 db nb mb : Nat) (now most : Int) (pre : List Tk) (Φ : FP) (W : World) : Prop := ∃ v, DueC N0 db nb mb now most pre Φ W v
def DueX (N0 db nb mb : Nat) (now most : Int) (c : Code) (pre' : List Tk) (Φ : FP) (W : World) : Prop :=
  c = .exit 0 ∧ ∃ pre x, pre' = pre ++ [x] ∧ (now < x.due ∨ most ≤ (pre.length : Int)) ∧ DueI N0 db nb mb now most pre Φ W
theorem DueC.keep {N0 db nb mb : Nat} {now most : Int} {pre : List Tk} {Φ : FP} {W W' : World} {v : Value} (h : DueC N0 db nb mb now most pre Φ W v) (h1 : db < N0) (h2 : nb < N0) (h3 : mb < N0) (hs : W.heap.size ≤ W'.heap.size) (hk : ∀ k, k < N0 ∨ Φ k → W'.heap[k]? = W.heap[k]?) : DueC N0 db nb mb now most pre Φ W' v :=
  ⟨(hk db (.inl h1)).trans h.bx, h.own.of (Nat.le_refl _) (fun k e => hk k (.inr ((h.iff k).2 e))), h.iff, (hk nb (.inl h2)).trans h.bn, (hk mb (.inl h3)).trans h.bm, h.due, h.cnt, Nat.le_trans h.sz hs⟩
theorem DueI.stab {N0 db nb mb : Nat} {now most : Int} (h1 : db < N0) (h2 : nb < N0) (h3 : mb < N0) : Stab N0 (DueI N0 db nb mb now most) := by
  rintro pre Φ W ⟨v, h⟩
  exact ⟨fun k hk => h.own.block ((h.iff k).1 hk), h.sz, fun W' hg hk => ⟨v, h.keep h1 h2 h3 hg.size hk⟩⟩
theorem DueX.stab {N0 db nb mb : Nat} {now most : Int} (h1 : db < N0) (h2 : nb < N0) (h3 : mb < N0) (c : Code) : Stab N0 (DueX N0 db nb mb now most c) := by
  rintro pre' Φ W ⟨e, pre, x, e2, hx, v, h⟩
  exact ⟨fun k hk => h.own.block ((h.iff k).1 hk), h.sz, fun W' hg hk => ⟨e, pre, x, e2, hx, v, h.keep h1 h2 h3 hg.size hk⟩⟩

theorem region_calm {n : Nat} {P : Program} {c : Code} {K : Act → World → Prop} {Q : Exit → Act → World → Prop} {a : Act} {w : World} (h : c.wp P (Exit.then K (fun _ _ _ => False)) a w) : c.wpIn Fence.wide n P (Exit.then K Q) a w :=
  wpIn_mono (wpIn_wide.2 h) (fun e a w hq => by cases e <;> first | exact hq | exact hq.elim)
/-- What Due leaves, behind its loop and what may have been taken away. -/
theorem due_post {B g db nb mb D : Nat} {now most : Int} {v v1 : Value} {ts ts' L : List Tk} {Φ : FP} {w w1 W3 W5 : World} (hA : AgA B g v ts w) (hb : Below w.heap.size w w1) (hdb : w.heap.size ≤ db) (hdb2 : db < w1.heap.size) (hon : Only (fun k => k = db) (fun _ => False) w1 W3) (hI : DueC w1.heap.size db nb mb now most L Φ W3 v1) (hD : w1.heap.size ≤ D) (hnD : ¬ Φ D) (hK : W3.heap[D]? = some (.deferred (some [])))
    (h2 : Left2 B g v ts' W3 W5) : W5.heap[D]? = some (.deferred (some [])) ∧ OwnT w.heap.size v1 L (W5.putObj D (.deferred none)) ∧ Left2 B g v ts' w (W5.putObj D (.deferred none)) := by
  obtain ⟨v2, hA5, ho, hfr⟩ := h2
  have hgl := hA.lt
  have hs1 := hb.size
  have hs3 := hon.grow.size
  have hvl : ∀ k, v.ownBlock = some k → k < w.heap.size := fun k hk => (hA.own.block hk).2
  have hDl : D < W3.heap.size := (Array.getElem?_eq_some_iff.1 hK).1
  have hK5 : W5.heap[D]? = some (.deferred (some [])) := (ho.block D hDl (by rintro (h | h); omega; have := hvl D h; omega) (fun h => h)).trans hK
  refine ⟨hK5, hI.own.of (by omega) (fun k hk => ?_), v2, ⟨(put_other (by omega)).trans hA5.at_, hA5.own.of (Nat.le_refl _) (fun k hk => put_other (fun e => ?_)), hA5.ne, hA5.lo⟩, ⟨?_, fun k hk h1 _ => ?_⟩, fun k hk => (hfr k hk).imp id (fun h => by omega)⟩
  · have h1 := hI.own.block hk
    have hkD : k ≠ D := fun e => hnD (by rw [← e]; exact (hI.iff k).2 hk)
    exact (put_other hkD).trans (ho.block k h1.2 (by rintro (h | h); omega; have := hvl k h; omega) (fun h => h))
  · subst e
    rcases hA5.own.2 with ⟨h, -⟩ | ⟨j, c, cur, h, -, h3, -⟩
    · rw [h] at hk; cases hk
    · rw [h] at hk
      have e' : j = k := by simpa [Value.ownBlock] using hk
      rw [e', hK5] at h3
      cases h3
  · exact (((Grow.of_below hb).trans hon.grow).trans ho.grow).trans (put_grow _ _ _)
  · rw [put_other (by omega), ho.block k (by omega) h1 (fun h => h), hon.block k (by omega) (by omega) (fun h => h)]
    exact hb.block k hk

set_option maxHeartbeats 8000000 in
set_option maxRecDepth 100000 in
theorem agenda_Due (B g : Nat) (v : Value) (ts : List Tk) (now most : Int) (w : World) (hA : AgA B g v ts w) (hl : ts.length ≤ 12) (hB : B ≤ w.heap.size) :
    Calls Try.prog 17 #[.pointer (some ⟨g, 0, none⟩), .int .i64 now, .int .i64 most] w fun e w' => ∃ v', e = .returned v' ∧ OwnT w.heap.size v' (dueL ts now most) w' ∧ Left2 B g v (ts.drop (dueL ts now most).length) w w' := by
  refine (callsIn_wide (n := 2)).1 ?_
  obtain ⟨ao, cap, rfl⟩ := hA.own.reads.lenOf
  obtain ⟨n, hn⟩ : ∃ n, n = ts.length := ⟨_, rfl⟩
  rw [← hn] at hA ⊢
  have HN := Lib.hid hn
  clear hn
  have HA := Lib.hid hA
  have HL := Lib.hid hl
  have HBZ := Lib.hid hB
  clear hA hl hB
  refine callsIn_of_wp_marks Try.func17 rfl trivial ?_ rfl
  simp only [Try.ntmps17, List.size_toArray, List.length_cons, List.length_nil, Nat.reduceAdd, Nat.reduceSub, Array.replicate_succ, Array.replicate_zero, List.push_toArray, List.append_toArray, List.nil_append, List.cons_append]
  gi_wp2_with (first | (gi_at_call 22; refine (callsIn_wide.2 (agenda_All _ ⟨_, rfl⟩ _)).mono ?_; rintro e w1 ⟨rfl, hw1⟩) | (refine ⟨trivial, ?_⟩; gi_at_call 22; refine (callsIn_wide.2 (agenda_All _ ⟨_, rfl⟩ _)).mono ?_; rintro e w1 ⟨rfl, hw1⟩) | fail)
  rw [← hw1]
  obtain ⟨nb, hnb⟩ : ∃ nb, nb = w.heap.size := ⟨_, rfl⟩
  obtain ⟨mb, hmb⟩ : ∃ mb, mb = nb + 1 := ⟨_, rfl⟩
  obtain ⟨db, hdb⟩ : ∃ db, db = mb + 1 := ⟨_, rfl⟩
  obtain ⟨ab, hab⟩ : ∃ ab, ab = db + 1 := ⟨_, rfl⟩
  have hB : Below w.heap.size w w1 := by rw [hw1]; exact ((((Below.refl _ w).alloc (Nat.le_refl _) _).alloc (by simp) _).alloc (by simp; omega) _).alloc (by simp; omega) _
  have hsz : w1.heap.size = nb + 4 := by rw [hw1, hnb]; simp
  have x0 : Boxed w1 nb 3 (.int .i64 now) := by rw [hw1, hnb]; exact (((Boxed.new w _ _).alloc _).alloc _).alloc _
  have x1 : Boxed w1 mb 3 (.int .i64 most) := by
    have := Boxed.new (w.alloc (.cells #[.int .i64 now] 3)) 3 (.int .i64 most)
    rw [World.size_alloc] at this
    rw [hw1, hmb, hnb]; exact (this.alloc _).alloc _
  have x2 : Boxed w1 db 26 (.slice none 0 0) := by
    have := Boxed.new ((w.alloc (.cells #[.int .i64 now] 3)).alloc (.cells #[.int .i64 most] 3)) 26 (.slice none 0 0)
    rw [World.size_alloc, World.size_alloc] at this
    rw [hw1, hdb, hmb, hnb]; exact this.alloc _
  have x3 : Boxed w1 ab 23 (.pointer (some ⟨g, 0, none⟩)) := by
    have := Boxed.new (((w.alloc (.cells #[.int .i64 now] 3)).alloc (.cells #[.int .i64 most] 3)).alloc (.cells #[.slice none 0 0] 26)) 23 (.pointer (some ⟨g, 0, none⟩))
    rw [World.size_alloc, World.size_alloc, World.size_alloc] at this
    rw [hw1, hab, hdb, hmb, hnb]; exact this
  rw [← hnb, ← hmb, ← hdb, ← hab]
  have hA1 := HA.out.later hB
  have hit := all_iter 0 ab g (.slice ao n cap) ts w1 x3.cell hA1.at_ hA1.own.reads (by have := HL.out; omega) (fun k => k < w1.heap.size) (by omega) hA1.lt (fun a n0 c e hne => by
    have hk : (Value.slice ao n cap).ownBlock = some a.block := by rw [e]; rfl
    exact (hA1.own.block hk).2)
  have HA1 := Lib.hid hA1
  have HB1 := Lib.hid hB
  have HX2 := Lib.hid x2
  have HNB := Lib.hid hnb
  have l0 : nb < mb := by omega
  have l1 : mb < db := by omega
  have l2 : db < ab := by omega
  have l3 : ab < w1.heap.size := by omega
  have l4 : w.heap.size ≤ nb := by omega
  clear x3 hw1 hmb hdb hab hsz hA1 hB hnb
  refine range_outerA (n := 0) (gf := 29) (lb := #[.pointer (some ⟨ab, 0, none⟩)]) rfl enters_all hit (Grow.refl _) (fun k hk => ⟨hk, rfl⟩) (fun _ => rfl)
    (fun k => k = db) (by rintro k rfl; omega) (DueI w1.heap.size db nb mb now most) (DueX w1.heap.size db nb mb now most) (DueI.stab (by omega) (by omega) (by omega)) (fun c => DueX.stab (by omega) (by omega) (by omega) c)
    ⟨_, x2, OwnT.nil _ _, fun k => ⟨fun h => h.elim, fun h => by cases h⟩, x0, x1, by simp, .inl rfl, Nat.le_refl _⟩
    (fun x N => { tmps := #[.pointer (some ⟨g, 0, none⟩), .int .i64 now, .int .i64 most, undef, .pointer (some ⟨nb, 0, none⟩), .pointer (some ⟨mb, 0, none⟩), .slice none 0 0, .pointer (some ⟨db, 0, none⟩), .pointer (some ⟨N, 0, none⟩), .pointer (some ⟨g, 0, none⟩), .func (.func 29) #[] #[.pointer (some ⟨ab, 0, none⟩)], .agg (tc x).toArray, undef, undef, undef, undef, undef, undef, undef, undef, undef, undef, undef, undef, undef, undef, undef, undef, undef, undef, undef, undef, undef, undef, undef, undef, undef, undef, undef, undef], defers := [] })
    (fun x N W => W.heap[N]? = some (.cells (tc x).toArray 32 (0, 0))) (fun x N W W' h e => e.trans h) ?assign ?body ?done ?stop
  case assign =>
    intro l x W K hK
    refine frame_eq (b := { tmps := #[.pointer (some ⟨g, 0, none⟩), .int .i64 now, .int .i64 most, undef, .pointer (some ⟨nb, 0, none⟩), .pointer (some ⟨mb, 0, none⟩), .slice none 0 0, .pointer (some ⟨db, 0, none⟩), undef, .pointer (some ⟨g, 0, none⟩), .func (.func 29) #[] #[.pointer (some ⟨ab, 0, none⟩)], .agg (tc x).toArray, undef, undef, undef, undef, undef, undef, undef, undef, undef, undef, undef, undef, undef, undef, undef, undef, undef, undef, undef, undef, undef, undef, undef, undef, undef, undef, undef, undef], defers := [] }) (by simp) ?_
    gi_wp2_with (first
        | (refine wplIn_allocT rfl rfl ?_; intro C hC)
        | (refine wplIn_storeT (t := x) (C := C) _ _ rfl rfl rfl rfl (heap_alloc_new W _) hC ?_)
        | fail)
    refine hK _ ?_ (by simp) (setRow_heap _ _ _ _ _ _ (heap_alloc_new W _))
    exact ((Below.refl _ W).alloc (Nat.le_refl _) _).trans ⟨rfl, rfl, rfl, by simp, fun k hk => setRow_other _ _ k _ (by omega)⟩
  case body =>
    rintro l pre x Φ N W hpx ⟨v1, hI⟩ hl hΦ - hlN hNW hAt
    have hpl : pre.length ≤ 12 := by have h1 := hpx.length_le; have h2 := HL.out; simp at h1; omega
    obtain ⟨ao1, cap1, rfl⟩ := hI.own.reads.lenOf
    have cD : W.cell? ⟨N, 1, none⟩ = some (.int .i64 x.due) := by rw [World.cell?, hAt]; rfl
    have c0 := hI.bx.cell
    have f0 := hI.bx.frozen
    have c1 := hI.bn.cell
    have c2 := hI.bm.cell
    have hpi : (pre.length : Int) ≤ 12 := by omega
    have HI := Lib.hid hI
    have HAT := Lib.hid hAt
    have HPX := Lib.hid hpx
    have HPH := Lib.hid hΦ
    clear hI hAt hpx hΦ
    have stop : (now < x.due ∨ most ≤ (pre.length : Int)) → bodyI (fun k => k = db) Φ (DueI w1.heap.size db nb mb now most) (DueX w1.heap.size db nb mb now most) (pre ++ [x]) W (.exit 0) { tmps := #[], defers := [] } W := fun h =>
      ⟨Φ, fun k hk => .inl hk, Only.refl _ _ _, rfl, pre, x, rfl, h, _, HI.out⟩
    have HST := Lib.hid stop
    clear stop
    by_cases g1 : now < x.due
    · gi_wp2
      exact HST.out (.inl g1)
    by_cases g2 : most ≤ (pre.length : Int)
    · gi_wp2
      exact HST.out (.inr g2)
    have hdl : db < W.heap.size := by have := HI.out.sz; omega
    have hown : OwnT w1.heap.size (.slice ao1 pre.length cap1) pre (W.alloc (.cells (tc x).toArray 32)) := HI.out.own.of (Nat.le_refl _) (fun k hk => Below.heap_alloc _ _ _ (HI.out.own.block hk).2)
    have HOW := Lib.hid hown
    clear hown
    gi_wp2_with (first
      | (refine wplIn_loadT (t := x) _ rfl rfl rfl (rangeAt_box HAT.out) ?_)
      | (refine wplIn_buildT (t := x) rfl rfl rfl ?_)
      | (gi_at_builtin; refine wplIn_appT_at (B := w1.heap.size) (ub := W.heap.size) (v := .slice ao1 pre.length cap1) (xs := pre) (t := x) rfl rfl rfl rfl HOW.out (heap_alloc_new W _) (by omega) (by have := HI.out.sz; simp; omega) ?_; intro v' w3 hO hg3 hat3; have hbx : Boxed w3 db 26 (.slice ao1 pre.length cap1) := (hg3.block db (by simp; omega) (fun e => by have := (HI.out.own.block e.symm).1; omega)).trans ((Below.heap_alloc _ _ _ hdl).trans HI.out.bx); obtain ⟨ao2, cap2, hv2⟩ := hO.reads.lenOf; rw [show (pre ++ [x]).length = pre.length + 1 by simp] at hv2; subst hv2; have c3 := hbx.cell; have f3 := hbx.frozen; have HO := Lib.hid hO; have HG3 := Lib.hid hg3; have HAT3 := Lib.hid hat3; have HBX := Lib.hid hbx; clear hO hg3 hat3 hbx)
      | fail)
    obtain ⟨W4, hW4⟩ : ∃ W4, W4 = w3.setCell ⟨db, 0, none⟩ (.slice ao2 (pre.length + 1) cap2) := ⟨_, rfl⟩
    rw [← hW4]
    have hg3 := HG3.out
    have hs3 : W.heap.size + 1 ≤ w3.heap.size := by have := hg3.size; simpa using this
    have hkeep : ∀ k, k ≠ db → W4.heap[k]? = w3.heap[k]? := fun k h => by rw [hW4]; exact heap_setCell_other _ _ _ _ h
    have hs4 : W4.heap.size = w3.heap.size := by rw [hW4]; simp [World.setCell]
    have hOb : ∀ k, (Value.slice ao2 (pre.length + 1) cap2).ownBlock = some k → w1.heap.size ≤ k ∧ k < w3.heap.size := fun k hk => HO.out.block hk
    have hold : ∀ k, k < W.heap.size → k ≠ db → ¬ Φ k → W4.heap[k]? = W.heap[k]? := fun k hk h1 h2 => by
      rw [hkeep k h1, hg3.block k (by simp; omega) (fun e => h2 ((HI.out.iff k).2 e.symm))]
      exact Below.heap_alloc _ _ _ hk
    have hnΦ : ∀ k, k < w1.heap.size → ¬ Φ k := fun k hk h => by have := HPH.out k h; omega
    refine ⟨fun k => (Value.slice ao2 (pre.length + 1) cap2).ownBlock = some k, fun k hk => ?_, ⟨⟨?_, ?_, ?_, by omega⟩, fun k hk h1 h2 => hold k hk h1 h2⟩, .slice ao2 (pre.length + 1) cap2, ?_⟩
    · rcases HAT3.out with h | h
      · exact .inl ((HI.out.iff k).2 (by rw [← h]; exact hk))
      · rw [hk] at h
        injection h with h
        exact .inr (by rw [h]; simp)
    · rw [hW4]; exact hg3.os
    · rw [hW4]; exact hg3.tape
    · rw [hW4]; exact hg3.output
    · refine ⟨by rw [hW4]; exact HBX.out.set _, HO.out.of (Nat.le_refl _) (fun k hk => hkeep k (by have := (hOb k hk).1; omega)), fun k => Iff.rfl, (hold nb (by omega) (by omega) (hnΦ nb (by omega))).trans HI.out.bn, (hold mb (by omega) (by omega) (hnΦ mb (by omega))).trans HI.out.bm, fun t ht => ?_, .inr ?_, by omega⟩
      · rcases List.mem_append.1 ht with h | h
        · exact HI.out.due t h
        · rw [List.mem_singleton] at h; subst h; omega
      · simp only [List.length_append, List.length_cons, List.length_nil]; omega
  case done =>
    rintro D Φ W3 ⟨v1, hI⟩ hon hD hnD hK
    have hd : dueL ts now most = ts := dueL_all hI.due hI.cnt
    have hA3 : AgA B g (.slice ao n cap) ts W3 := by
      have h1 := HA1.out
      have hgl := HA.out.lt
      exact ⟨(hon.block g h1.lt (by omega) (fun h => h)).trans h1.at_, h1.own.of (Nat.le_refl _) (fun k hk => hon.block k (h1.own.block hk).2 (by have := (HA.out.own.block hk).2; omega) (fun h => h)), h1.ne, h1.lo⟩
    obtain ⟨ao1, cap1, rfl⟩ := hI.own.reads.lenOf
    obtain ⟨d, hdd⟩ : ∃ d, d = (ts).length := ⟨_, rfl⟩
    rw [← hdd] at hI
    have c0 := hI.bx.cell
    have cg : W3.cell? ⟨g, 0, none⟩ = some (.slice ao n cap) := by rw [World.cell?, hA3.at_]; rfl
    have hdn : d ≤ ts.length := by have h1 := dueL_le ts now most; rw [hd] at h1; omega
    have HD := Lib.hid hd
    have HDD := Lib.hid hdd
    have HI := Lib.hid hI
    have HON := Lib.hid hon
    have HA3 := Lib.hid hA3
    have HK := Lib.hid hK
    have HDN := Lib.hid hdn
    clear hI hon hA3 hK hd hdd hdn
    by_cases hz : d = 0
    · have hz' : ((0 : Int) < (d : Int)) = False := by simp; omega
      have h2 : Left2 B g (.slice ao n cap) (ts.drop (dueL ts now most).length) W3 W3 := by
        rw [HD.out, ← HDD.out, hz, List.drop_zero]
        exact Left2.same HA3.out (Below.refl _ _)
      obtain ⟨k5, o5, l5⟩ := due_post (db := db) HA.out HB1.out (by omega) (by omega) HON.out HI.out hD hnD HK.out h2
      have K5 := Lib.hid k5
      have O5 := Lib.hid o5
      have L5 := Lib.hid l5
      clear k5 o5 l5 h2
      subst hz
      gi_wp2
      refine ⟨by simp, .inl ⟨_, _, rfl, run_takeDeferred K5.out, ?_⟩⟩
      exact ⟨.slice ao1 0 cap1, by simp [results, Try.results17, go_sem], _, rfl, by rw [HD.out]; exact O5.out, L5.out⟩
    · have hz' : (0 : Int) < (d : Int) := by omega
      have hAd := HA3.out.later (show Below W3.heap.size W3 W3.drew from (Below.refl _ W3).drew)
      obtain ⟨m, hm⟩ : ∃ m, m = (delAt ts 0 d).length := ⟨_, rfl⟩
      have HM := Lib.hid hm
      have HAD := Lib.hid hAd
      have hgw := HA.out.lt
      have hdg : ¬ db = g := by omega
      have hdg2 : ¬ g = db := by omega
      clear hm hAd
      gi_wp2
      refine region_calm ?_
      go_region_with (first
        | (go_at_call 28; refine (delete_ts B _ ts 0 d _ HAD.out.own (by omega) HDN.out (by have := HL.out; omega)).mono ?_; rintro e wn ⟨v', rfl, hO, hg8, hob⟩; have HFR := Lib.hid (Fresh.same (w := W3.drew) hob); have hA9 : wn.heap[g]? = some (.cells #[.slice ao n cap] 57 (0, 0)) := (hg8.block g HAD.out.lt (fun e => HAD.out.ne e.symm)).trans HAD.out.at_; obtain ⟨ao', cap', hv'⟩ := hO.reads.lenOf; rw [← HM.out] at hv'; subst hv'; have hc9 : wn.cell? ⟨g, 0, none⟩ = some (.slice ao n cap) := (by rw [World.cell?, hA9]; rfl); have hdb9 : wn.cell? ⟨db, 0, none⟩ = some (.slice ao1 d cap1) := ((World.cell?_of_block (a := ⟨db, 0, none⟩) (hg8.block db (by have h1 := HON.out.grow.size; show db < W3.heap.size; omega) (fun e => by have h1 := (HA.out.own.block e.symm).2; omega))).trans c0); have hf9 : wn.frozen? ⟨g, 0, none⟩ = false := (by simp [World.frozen?, hA9]); have HO9 := Lib.hid hO; have HG9 := Lib.hid hg8; have HA9 := Lib.hid hA9; clear hO hg8 hA9 hob)
        | fail)
      all_goals
        have h2 : Left2 B g (.slice ao n cap) (ts.drop (dueL ts now most).length) W3 (wn.setCell ⟨g, 0, none⟩ (.slice ao' m cap')) := by
          rw [HD.out, ← HDD.out, show ts.drop d = delAt ts 0 d from by simp [delAt]]
          exact left2_store HA3.out (show Below W3.heap.size W3 W3.drew from (Below.refl _ W3).drew) HG9.out HO9.out HA9.out HFR.out
        obtain ⟨k5, o5, l5⟩ := due_post (db := db) HA.out HB1.out (by omega) (by omega) HON.out HI.out hD hnD HK.out h2
        have K5 := Lib.hid k5
        have O5 := Lib.hid o5
        have L5 := Lib.hid l5
        clear k5 o5 l5 h2
        gi_wp2
        refine ⟨by simp, .inl ⟨_, _, rfl, run_takeDeferred K5.out, ?_⟩⟩
        exact ⟨.slice ao1 d cap1, by simp [results, Try.results17, go_sem], _, rfl, by rw [HD.out]; exact O5.out, L5.out⟩
  case stop =>
    rintro D Φ c pre' W3 hpre ⟨rfl, pre, x, rfl, hx, v1, hI⟩ hon hD hnD hK
    have hd : dueL ts now most = pre := dueL_stop hpre hI.due hI.cnt hx
    have hA3 : AgA B g (.slice ao n cap) ts W3 := by
      have h1 := HA1.out
      have hgl := HA.out.lt
      exact ⟨(hon.block g h1.lt (by omega) (fun h => h)).trans h1.at_, h1.own.of (Nat.le_refl _) (fun k hk => hon.block k (h1.own.block hk).2 (by have := (HA.out.own.block hk).2; omega) (fun h => h)), h1.ne, h1.lo⟩
    obtain ⟨ao1, cap1, rfl⟩ := hI.own.reads.lenOf
    obtain ⟨d, hdd⟩ : ∃ d, d = (pre).length := ⟨_, rfl⟩
    rw [← hdd] at hI
    have c0 := hI.bx.cell
    have cg : W3.cell? ⟨g, 0, none⟩ = some (.slice ao n cap) := by rw [World.cell?, hA3.at_]; rfl
    have hdn : d ≤ ts.length := by have h1 := dueL_le ts now most; rw [hd] at h1; omega
    have HD := Lib.hid hd
    have HDD := Lib.hid hdd
    have HI := Lib.hid hI
    have HON := Lib.hid hon
    have HA3 := Lib.hid hA3
    have HK := Lib.hid hK
    have HDN := Lib.hid hdn
    clear hI hon hA3 hK hd hdd hdn
    by_cases hz : d = 0
    · have hz' : ((0 : Int) < (d : Int)) = False := by simp; omega
      have h2 : Left2 B g (.slice ao n cap) (ts.drop (dueL ts now most).length) W3 W3 := by
        rw [HD.out, ← HDD.out, hz, List.drop_zero]
        exact Left2.same HA3.out (Below.refl _ _)
      obtain ⟨k5, o5, l5⟩ := due_post (db := db) HA.out HB1.out (by omega) (by omega) HON.out HI.out hD hnD HK.out h2
      have K5 := Lib.hid k5
      have O5 := Lib.hid o5
      have L5 := Lib.hid l5
      clear k5 o5 l5 h2
      subst hz
      gi_wp2
      refine ⟨by simp, .inl ⟨_, _, rfl, run_takeDeferred K5.out, ?_⟩⟩
      exact ⟨.slice ao1 0 cap1, by simp [results, Try.results17, go_sem], _, rfl, by rw [HD.out]; exact O5.out, L5.out⟩
    · have hz' : (0 : Int) < (d : Int) := by omega
      have hAd := HA3.out.later (show Below W3.heap.size W3 W3.drew from (Below.refl _ W3).drew)
      obtain ⟨m, hm⟩ : ∃ m, m = (delAt ts 0 d).length := ⟨_, rfl⟩
      have HM := Lib.hid hm
      have HAD := Lib.hid hAd
      have hgw := HA.out.lt
      have hdg : ¬ db = g := by omega
      have hdg2 : ¬ g = db := by omega
      clear hm hAd
      gi_wp2
      refine region_calm ?_
      go_region_with (first
        | (go_at_call 28; refine (delete_ts B _ ts 0 d _ HAD.out.own (by omega) HDN.out (by have := HL.out; omega)).mono ?_; rintro e wn ⟨v', rfl, hO, hg8, hob⟩; have HFR := Lib.hid (Fresh.same (w := W3.drew) hob); have hA9 : wn.heap[g]? = some (.cells #[.slice ao n cap] 57 (0, 0)) := (hg8.block g HAD.out.lt (fun e => HAD.out.ne e.symm)).trans HAD.out.at_; obtain ⟨ao', cap', hv'⟩ := hO.reads.lenOf; rw [← HM.out] at hv'; subst hv'; have hc9 : wn.cell? ⟨g, 0, none⟩ = some (.slice ao n cap) := (by rw [World.cell?, hA9]; rfl); have hdb9 : wn.cell? ⟨db, 0, none⟩ = some (.slice ao1 d cap1) := ((World.cell?_of_block (a := ⟨db, 0, none⟩) (hg8.block db (by have h1 := HON.out.grow.size; show db < W3.heap.size; omega) (fun e => by have h1 := (HA.out.own.block e.symm).2; omega))).trans c0); have hf9 : wn.frozen? ⟨g, 0, none⟩ = false := (by simp [World.frozen?, hA9]); have HO9 := Lib.hid hO; have HG9 := Lib.hid hg8; have HA9 := Lib.hid hA9; clear hO hg8 hA9 hob)
        | fail)
      all_goals
        have h2 : Left2 B g (.slice ao n cap) (ts.drop (dueL ts now most).length) W3 (wn.setCell ⟨g, 0, none⟩ (.slice ao' m cap')) := by
          rw [HD.out, ← HDD.out, show ts.drop d = delAt ts 0 d from by simp [delAt]]
          exact left2_store HA3.out (show Below W3.heap.size W3 W3.drew from (Below.refl _ W3).drew) HG9.out HO9.out HA9.out HFR.out
        obtain ⟨k5, o5, l5⟩ := due_post (db := db) HA.out HB1.out (by omega) (by omega) HON.out HI.out hD hnD HK.out h2
        have K5 := Lib.hid k5
        have O5 := Lib.hid o5
        have L5 := Lib.hid l5
        clear k5 o5 l5 h2
        gi_wp2
        refine ⟨by simp, .inl ⟨_, _, rfl, run_takeDeferred K5.out, ?_⟩⟩
        exact ⟨.slice ao1 d cap1, by simp [results, Try.results17, go_sem], _, rfl, by rw [HD.out]; exact O5.out, L5.out⟩
end Go.Proofs.Ytbpgiahbnijidaa
