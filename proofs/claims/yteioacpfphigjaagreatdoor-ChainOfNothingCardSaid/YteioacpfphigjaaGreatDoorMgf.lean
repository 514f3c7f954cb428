/-
  Joined texts.
-/
import Derived.Stop.RegionWithIn
import Derived.Deep.MidRow
import Derived.BigRegion
import Derived.RegionTactic
import Derived.Shelf.Abstract
import Derived.Shelf.RegionOpen
import Derived.LoopNIn
import Derived.LoopIn
import Derived.Deep.RegionHeld3
import Derived.Deep.QuietTactic
import Derived.Test.YteioacpfphigjaaGreatDoorMge

section
namespace Go.Proofs.YteioacpfphigjaaGreatDoor
open Go.RowKit Go.Shelf
attribute [local go_sem] Oper.semAt_some
set_option linter.unusedVariables false
set_option linter.unusedSimpArgs false

section
variable {F : Fence} {nF : Nat} {w : World} {ops : Array Oper} {rest : List Oper} {o : Oper} {a : Act} {Q : Exit → Act → World → Prop}
theorem wplIn_appT_at {s x : Operand} {B ub : Nat} {v : Value} {xs : List Tk} {t : Tk} (hgd : o.guard = none) (ho : o.op = .call { callee := .builtin .append, args := #[s, x], argTypes := #[84, 84] }) (hs : a.eval s = v) (hx : a.eval x = .slice (some ⟨ub, 0, none⟩) 1 1)
    (hown : OwnT B v xs w) (hu : w.heap[ub]? = some (.cells (tc t).toArray 87 (0, 0))) (hlen : xs.length ≤ 900) (hB : B ≤ w.heap.size)
    (h : ∀ v' w', OwnT B v' (xs ++ [t]) w' → w.grownBy w' v.ownBlock → (v'.ownBlock = v.ownBlock ∨ v'.ownBlock = some w.heap.size) → wpListIn F nF Tryz.prog ops Q rest (a.put o.dst v') w') : wpListIn F nF Tryz.prog ops Q (o :: rest) a w := by
  obtain ⟨i0, hi, hz⟩ := Option.map_eq_some_iff.1 infoT
  simp only [Prod.mk.injEq] at hz
  obtain ⟨hz0, hz1, hz2⟩ := hz
  obtain ⟨z, hzz, hzs⟩ := Option.map_eq_some_iff.1 hz0
  refine wpListIn_append_own_at _ hgd s x _ ho B 87 i0 z 36 64 Tryz.underlying84 hi hzz hz1 hz2 hzs (by decide) v _ _ hs hown ⟨ub, 0, none⟩ 1 1 (tc t) hx (by rw [tc_len])
    (fun j u hj => by rw [Addr.add_mid]; exact rangeAt_box hu j u hj) (tc_one t) (by unfold maxLen; omega) (by omega) hB ?_
  intro v' w' h1 h2 _ h4
  refine h v' w' ?_ h2 h4
  unfold OwnT
  rw [Tc_append, Tc_one, List.length_append]
  exact h1
theorem wplIn_buildT {t : Tk} {x : Operand} (hgd : o.guard = none) (ho : o.op = .buildSlice 84 1 #[(0, x)]) (hx : a.eval x = .agg (tc t).toArray)
    (h : wpListIn F nF Tryz.prog ops Q rest (a.put o.dst (.slice (some ⟨w.heap.size, 0, none⟩) 1 1)) (w.alloc (.cells (tc t).toArray 87))) : wpListIn F nF Tryz.prog ops Q (o :: rest) a w := by
  refine wpListIn_plain hgd fun K hK => ?_
  unfold Oper.wpIn
  refine ⟨by simp [Oper.about, ho], ?_⟩
  rw [Oper.semAt_plain F _ _ (by rw [ho]; intro c hc'; cases hc')]
  unfold execOp
  have hr : (Instr.buildSlice 84 1 #[(0, Value.agg (tc t).toArray)]).run Tryz.prog w = _ := run_buildTask t w
  simp only [ho, List.map_toArray, List.map_cons, List.map_nil, hx, Sem.run_bind, Sem.run_pure, hr, Result.andThen_ok]
  exact hK _ _ h
end
/-- What is due. -/
def dueL : List Tk → Int → Int → List Tk
  | [], _, _ => []
  | t :: ts, now, most => if t.due ≤ now ∧ 0 < most then t :: dueL ts now (most - 1) else []
theorem dueL_all : ∀ {ts : List Tk} {now most : Int}, (∀ t ∈ ts, t.due ≤ now) → (ts = [] ∨ (ts.length : Int) ≤ most) → dueL ts now most = ts
  | [], _, _, _, _ => rfl
  | t :: ts, now, most, h, hm => by
    have hl : ((t :: ts).length : Int) ≤ most := hm.resolve_left (by simp)
    simp only [List.length_cons] at hl
    unfold dueL
    rw [if_pos ⟨h t (by simp), by omega⟩, dueL_all (fun u hu => h u (by simp [hu])) (.inr (by omega))]
theorem dueL_stop : ∀ {pre ts : List Tk} {x : Tk} {now most : Int}, (pre ++ [x]) <+: ts → (∀ t ∈ pre, t.due ≤ now) → (pre = [] ∨ (pre.length : Int) ≤ most) → (now < x.due ∨ most ≤ (pre.length : Int)) → dueL ts now most = pre
  | [], ts, x, now, most, ⟨r, hr⟩, _, _, hx => by
    subst hr
    simp only [List.nil_append, List.cons_append, dueL]
    rw [if_neg (by simp at hx; omega)]
  | t :: pre, ts, x, now, most, ⟨r, hr⟩, h, hm, hx => by
    subst hr
    have hl : ((t :: pre).length : Int) ≤ most := hm.resolve_left (by simp)
    simp only [List.length_cons] at hl hx
    simp only [List.cons_append, dueL]
    rw [if_pos ⟨h t (by simp), by omega⟩]
    congr 1
    exact dueL_stop ⟨r, rfl⟩ (fun u hu => h u (by simp [hu])) (.inr (by omega)) (hx.imp id (fun h => by omega))
theorem dueL_len : ∀ (ts : List Tk) (now most : Int), dueL ts now most = ts.take (dueL ts now most).length
  | [], _, _ => rfl
  | t :: ts, now, most => by
    unfold dueL
    split
    · have := dueL_len ts now (most - 1)
      simp only [List.length_cons, List.take_succ_cons]
      rw [← this]
    · rfl
theorem dueL_le (ts : List Tk) (now most : Int) : (dueL ts now most).length ≤ ts.length := by
  have := congrArg List.length (dueL_len ts now most)
  rw [List.length_take] at this
  omega
/-- What Due's loop holds. -/
structure DueC (N0 db nb mb : Nat) (now most : Int) (pre : List Tk) (Φ : FP) (W : World) (v : Value) : Prop where
  bx : Boxed W db 84 v
  own : OwnT N0 v pre W
  iff : ∀ k, Φ k ↔ v.ownBlock = some k
  bn : Boxed W nb 3 (.int .i64 now)
  bm : Boxed W mb 3 (.int .i64 most)
  due : ∀ t ∈ pre, t.due ≤ now
  cnt : pre = [] ∨ (pre.length : Int) ≤ most
  sz : N0 ≤ W.heap.size
def DueI (N0 db nb mb : Nat) (now most : Int) (pre : List Tk) (Φ : FP) (W : World) : Prop := ∃ v, DueC N0 db nb mb now most pre Φ W v
def DueX (N0 db nb mb : Nat) (now most : Int) (c : Code) (pre' : List Tk) (Φ : FP) (W : World) : Prop :=
  c = .exit 0 ∧ ∃ pre x, pre' = pre ++ [x] ∧ (now < x.due ∨ most ≤ (pre.length : Int)) ∧ DueI N0 db nb mb now most pre Φ W
theorem DueC.keep {N0 db nb mb : Nat} {now most : Int} {pre : List Tk} {Φ : FP} {W W' : World} {v : Value} (h : DueC N0 db nb mb now most pre Φ W v) (h1 : db < N0) (h2 : nb < N0) (h3 : mb < N0) (hs : W.heap.size ≤ W'.heap.size) (hk : ∀ k, k < N0 ∨ Φ k → W'.heap[k]? = W.heap[k]?) : DueC N0 db nb mb now most pre Φ W' v :=
  ⟨(hk db (.inl h1)).trans h.bx, h.own.of (Nat.le_refl _) (fun k e => hk k (.inr ((h.iff k).2 e))), h.iff, (hk nb (.inl h2)).trans h.bn, (hk mb (.inl h3)).trans h.bm, h.due, h.cnt, Nat.le_trans h.sz hs⟩
theorem DueI.stab {N0 db nb mb : Nat} {now most : Int} (h1 : db < N0) (h2 : nb < N0) (h3 : mb < N0) : Stab N0 (DueI N0 db nb mb now most) := by
  rintro pre Φ W ⟨v, h⟩
  exact ⟨fun k hk => h.own.block ((h.iff k).1 hk), h.sz, fun W' hg hk => ⟨v, h.keep h1 h2 h3 hg.size hk⟩⟩
theorem DueX.stab {N0 db nb mb : Nat} {now most : Int} (h1 : db < N0) (h2 : nb < N0) (h3 : mb < N0) (c : Code) : Stab N0 (DueX N0 db nb mb now most c) := by
  rintro pre' Φ W ⟨e, pre, x, e2, hx, v, h⟩
  exact ⟨fun k hk => h.own.block ((h.iff k).1 hk), h.sz, fun W' hg hk => ⟨e, pre, x, e2, hx, v, h.keep h1 h2 h3 hg.size hk⟩⟩

theorem region_calmT {n : Nat} {P : Program} {c : Code} {K : Act → World → Prop} {Q : Exit → Act → World → Prop} {a : Act} {w : World} (h : c.wp P (Exit.then K (fun _ _ _ => False)) a w) : c.wpIn Fence.wide n P (Exit.then K Q) a w :=
  wpIn_mono (wpIn_wide.2 h) (fun e a w hq => by cases e <;> first | exact hq | exact hq.elim)
/-- What Due leaves, behind its loop and what may have been taken away. -/
theorem due_post {B g db nb mb D : Nat} {now most : Int} {v v1 : Value} {ts ts' L : List Tk} {Φ : FP} {w w1 W3 W5 : World} (hA : AgA B g v ts w) (hb : Below w.heap.size w w1) (hdb : w.heap.size ≤ db) (hdb2 : db < w1.heap.size) (hon : Only (fun k => k = db) (fun _ => False) w1 W3) (hI : DueC w1.heap.size db nb mb now most L Φ W3 v1) (hD : w1.heap.size ≤ D) (hnD : ¬ Φ D) (hK : W3.heap[D]? = some (.deferred (some [])))
    (h2 : Left2 B g v ts' W3 W5) : W5.heap[D]? = some (.deferred (some [])) ∧ OwnT w.heap.size v1 L (W5.putObj D (.deferred none)) ∧ Left2 B g v ts' w (W5.putObj D (.deferred none)) := by
  obtain ⟨v2, hA5, ho, hfr⟩ := h2
  have hgl := hA.lt
  have hs1 := hb.size
  have hs3 := hon.grow.size
  have hvl : ∀ k, v.ownBlock = some k → k < w.heap.size := fun k hk => (hA.own.block hk).2
  have hDl : D < W3.heap.size := (Array.getElem?_eq_some_iff.1 hK).1
  have hK5 : W5.heap[D]? = some (.deferred (some [])) := (ho.block D hDl (by rintro (h | h); omega; have := hvl D h; omega) (fun h => h)).trans hK
  refine ⟨hK5, hI.own.of (by omega) (fun k hk => ?_), v2, ⟨(put_other (by omega)).trans hA5.at_, hA5.own.of (Nat.le_refl _) (fun k hk => put_other (fun e => ?_)), hA5.ne, hA5.lo⟩, ⟨?_, fun k hk h1 _ => ?_⟩, fun k hk => (hfr k hk).imp id (fun h => by omega)⟩
  · have h1 := hI.own.block hk
    have hkD : k ≠ D := fun e => hnD (by rw [← e]; exact (hI.iff k).2 hk)
    exact (put_other hkD).trans (ho.block k h1.2 (by rintro (h | h); omega; have := hvl k h; omega) (fun h => h))
  · subst e
    rcases hA5.own.2 with ⟨h, -⟩ | ⟨j, c, cur, h, -, h3, -⟩
    · rw [h] at hk; cases hk
    · rw [h] at hk
      have e' : j = k := by simpa [Value.ownBlock] using hk
      rw [e', hK5] at h3
      cases h3
  · exact (((Grow.of_below hb).trans hon.grow).trans ho.grow).trans (put_grow _ _ _)
  · rw [put_other (by omega), ho.block k (by omega) h1 (fun h => h), hon.block k (by omega) (by omega) (fun h => h)]
    exact hb.block k hk

set_option maxHeartbeats 8000000 in
set_option maxRecDepth 100000 in
theorem agenda_Due (B g : Nat) (v : Value) (ts : List Tk) (now most : Int) (w : World) (hA : AgA B g v ts w) (hl : ts.length ≤ 12) (hB : B ≤ w.heap.size) :
    Calls Tryz.prog 41 #[.pointer (some ⟨g, 0, none⟩), .int .i64 now, .int .i64 most] w fun e w' => ∃ v', e = .returned v' ∧ OwnT w.heap.size v' (dueL ts now most) w' ∧ Left2 B g v (ts.drop (dueL ts now most).length) w w' := by
  refine (callsIn_wide (n := 2)).1 ?_
  obtain ⟨ao, cap, rfl⟩ := hA.own.reads.lenOf
  obtain ⟨n, hn⟩ : ∃ n, n = ts.length := ⟨_, rfl⟩
  rw [← hn] at hA ⊢
  have HN := Lib.hid hn
  clear hn
  have HA := Lib.hid hA
  have HL := Lib.hid hl
  have HBZ := Lib.hid hB
  clear hA hl hB
  refine callsIn_of_wp_marks Tryz.func41 rfl trivial ?_ rfl
  simp only [Tryz.ntmps41, List.size_toArray, List.length_cons, List.length_nil, Nat.reduceAdd, Nat.reduceSub, Array.replicate_succ, Array.replicate_zero, List.push_toArray, List.append_toArray, List.nil_append, List.cons_append]
  gi_wp2_with (first | (gi_at_call 106; refine (callsIn_wide.2 (agenda_All _ ⟨_, rfl⟩ _)).mono ?_; rintro e w1 ⟨rfl, hw1⟩) | (refine ⟨trivial, ?_⟩; gi_at_call 106; refine (callsIn_wide.2 (agenda_All _ ⟨_, rfl⟩ _)).mono ?_; rintro e w1 ⟨rfl, hw1⟩) | fail)
  rw [← hw1]
  obtain ⟨nb, hnb⟩ : ∃ nb, nb = w.heap.size := ⟨_, rfl⟩
  obtain ⟨mb, hmb⟩ : ∃ mb, mb = nb + 1 := ⟨_, rfl⟩
  obtain ⟨db, hdb⟩ : ∃ db, db = mb + 1 := ⟨_, rfl⟩
  obtain ⟨ab, hab⟩ : ∃ ab, ab = db + 1 := ⟨_, rfl⟩
  have hB : Below w.heap.size w w1 := by rw [hw1]; exact ((((Below.refl _ w).alloc (Nat.le_refl _) _).alloc (by simp) _).alloc (by simp; omega) _).alloc (by simp; omega) _
  have hsz : w1.heap.size = nb + 4 := by rw [hw1, hnb]; simp
  have x0 : Boxed w1 nb 3 (.int .i64 now) := by rw [hw1, hnb]; exact (((Boxed.new w _ _).alloc _).alloc _).alloc _
  have x1 : Boxed w1 mb 3 (.int .i64 most) := by
    have := Boxed.new (w.alloc (.cells #[.int .i64 now] 3)) 3 (.int .i64 most)
    rw [World.size_alloc] at this
    rw [hw1, hmb, hnb]; exact (this.alloc _).alloc _
  have x2 : Boxed w1 db 84 (.slice none 0 0) := by
    have := Boxed.new ((w.alloc (.cells #[.int .i64 now] 3)).alloc (.cells #[.int .i64 most] 3)) 84 (.slice none 0 0)
    rw [World.size_alloc, World.size_alloc] at this
    rw [hw1, hdb, hmb, hnb]; exact this.alloc _
  have x3 : Boxed w1 ab 46 (.pointer (some ⟨g, 0, none⟩)) := by
    have := Boxed.new (((w.alloc (.cells #[.int .i64 now] 3)).alloc (.cells #[.int .i64 most] 3)).alloc (.cells #[.slice none 0 0] 84)) 46 (.pointer (some ⟨g, 0, none⟩))
    rw [World.size_alloc, World.size_alloc, World.size_alloc] at this
    rw [hw1, hab, hdb, hmb, hnb]; exact this
  rw [← hnb, ← hmb, ← hdb, ← hab]
  have hA1 := HA.out.later hB
  have hit := all_iter 0 ab g (.slice ao n cap) ts w1 x3.cell hA1.at_ hA1.own.reads (by have := HL.out; omega) (fun k => k < w1.heap.size) (by omega) hA1.lt (fun a n0 c e hne => by
    have hk : (Value.slice ao n cap).ownBlock = some a.block := by rw [e]; rfl
    exact (hA1.own.block hk).2)
  have HA1 := Lib.hid hA1
  have HB1 := Lib.hid hB
  have HX2 := Lib.hid x2
  have HNB := Lib.hid hnb
  have l0 : nb < mb := by omega
  have l1 : mb < db := by omega
  have l2 : db < ab := by omega
  have l3 : ab < w1.heap.size := by omega
  have l4 : w.heap.size ≤ nb := by omega
  clear x3 hw1 hmb hdb hab hsz hA1 hB hnb
  refine range_outerA (n := 0) (gf := 168) (lb := #[.pointer (some ⟨ab, 0, none⟩)]) rfl enters_all hit (Grow.refl _) (fun k hk => ⟨hk, rfl⟩) (fun _ => rfl)
    (fun k => k = db) (by rintro k rfl; omega) (DueI w1.heap.size db nb mb now most) (DueX w1.heap.size db nb mb now most) (DueI.stab (by omega) (by omega) (by omega)) (fun c => DueX.stab (by omega) (by omega) (by omega) c)
    ⟨_, x2, OwnT.nil _ _, fun k => ⟨fun h => h.elim, fun h => by cases h⟩, x0, x1, by simp, .inl rfl, Nat.le_refl _⟩
    (fun x N => { tmps := #[.pointer (some ⟨g, 0, none⟩), .int .i64 now, .int .i64 most, undef, .pointer (some ⟨nb, 0, none⟩), .pointer (some ⟨mb, 0, none⟩), .slice none 0 0, .pointer (some ⟨db, 0, none⟩), .pointer (some ⟨N, 0, none⟩), .pointer (some ⟨g, 0, none⟩), .func (.func 168) #[] #[.pointer (some ⟨ab, 0, none⟩)], .agg (tc x).toArray, undef, undef, undef, undef, undef, undef, undef, undef, undef, undef, undef, undef, undef, undef, undef, undef, undef, undef, undef, undef, undef, undef, undef, undef, undef, undef, undef, undef], defers := [] })
    (fun x N W => W.heap[N]? = some (.cells (tc x).toArray 87 (0, 0))) (fun x N W W' h e => e.trans h) ?assign ?body ?done ?stop
  case assign =>
    intro l x W K hK
    refine frame_eq (b := { tmps := #[.pointer (some ⟨g, 0, none⟩), .int .i64 now, .int .i64 most, undef, .pointer (some ⟨nb, 0, none⟩), .pointer (some ⟨mb, 0, none⟩), .slice none 0 0, .pointer (some ⟨db, 0, none⟩), undef, .pointer (some ⟨g, 0, none⟩), .func (.func 168) #[] #[.pointer (some ⟨ab, 0, none⟩)], .agg (tc x).toArray, undef, undef, undef, undef, undef, undef, undef, undef, undef, undef, undef, undef, undef, undef, undef, undef, undef, undef, undef, undef, undef, undef, undef, undef, undef, undef, undef, undef], defers := [] }) (by simp) ?_
    gi_wp2_with (first
        | (refine wplIn_allocT rfl rfl ?_; intro C hC)
        | (refine wplIn_storeT (t := x) (C := C) _ _ rfl rfl rfl rfl (heap_alloc_new W _) hC ?_)
        | fail)
    refine hK _ ?_ (by simp) (setRow_heap _ _ _ _ _ _ (heap_alloc_new W _))
    exact ((Below.refl _ W).alloc (Nat.le_refl _) _).trans ⟨rfl, rfl, rfl, by simp, fun k hk => setRow_other _ _ k _ (by omega)⟩
  case body =>
    rintro l pre x Φ N W hpx ⟨v1, hI⟩ hl hΦ - hlN hNW hAt
    have hpl : pre.length ≤ 12 := by have h1 := hpx.length_le; have h2 := HL.out; simp at h1; omega
    obtain ⟨ao1, cap1, rfl⟩ := hI.own.reads.lenOf
    have cD : W.cell? ⟨N, 1, none⟩ = some (.int .i64 x.due) := by rw [World.cell?, hAt]; rfl
    have c0 := hI.bx.cell
    have f0 := hI.bx.frozen
    have c1 := hI.bn.cell
    have c2 := hI.bm.cell
    have hpi : (pre.length : Int) ≤ 12 := by omega
    have HI := Lib.hid hI
    have HAT := Lib.hid hAt
    have HPX := Lib.hid hpx
    have HPH := Lib.hid hΦ
    clear hI hAt hpx hΦ
    have stop : (now < x.due ∨ most ≤ (pre.length : Int)) → bodyI (fun k => k = db) Φ (DueI w1.heap.size db nb mb now most) (DueX w1.heap.size db nb mb now most) (pre ++ [x]) W (.exit 0) { tmps := #[], defers := [] } W := fun h =>
      ⟨Φ, fun k hk => .inl hk, Only.refl _ _ _, rfl, pre, x, rfl, h, _, HI.out⟩
    have HST := Lib.hid stop
    clear stop
    by_cases g1 : now < x.due
    · gi_wp2
      exact HST.out (.inl g1)
    by_cases g2 : most ≤ (pre.length : Int)
    · gi_wp2
      exact HST.out (.inr g2)
    have hdl : db < W.heap.size := by have := HI.out.sz; omega
    have hown : OwnT w1.heap.size (.slice ao1 pre.length cap1) pre (W.alloc (.cells (tc x).toArray 87)) := HI.out.own.of (Nat.le_refl _) (fun k hk => Below.heap_alloc _ _ _ (HI.out.own.block hk).2)
    have HOW := Lib.hid hown
    clear hown
    gi_wp2_with (first
      | (refine wplIn_loadT (t := x) _ rfl rfl rfl (rangeAt_box HAT.out) ?_)
      | (refine wplIn_buildT (t := x) rfl rfl rfl ?_)
      | (gi_at_builtin; refine wplIn_appT_at (B := w1.heap.size) (ub := W.heap.size) (v := .slice ao1 pre.length cap1) (xs := pre) (t := x) rfl rfl rfl rfl HOW.out (heap_alloc_new W _) (by omega) (by have := HI.out.sz; simp; omega) ?_; intro v' w3 hO hg3 hat3; have hbx : Boxed w3 db 84 (.slice ao1 pre.length cap1) := (hg3.block db (by simp; omega) (fun e => by have := (HI.out.own.block e.symm).1; omega)).trans ((Below.heap_alloc _ _ _ hdl).trans HI.out.bx); obtain ⟨ao2, cap2, hv2⟩ := hO.reads.lenOf; rw [show (pre ++ [x]).length = pre.length + 1 by simp] at hv2; subst hv2; have c3 := hbx.cell; have f3 := hbx.frozen; have HO := Lib.hid hO; have HG3 := Lib.hid hg3; have HAT3 := Lib.hid hat3; have HBX := Lib.hid hbx; clear hO hg3 hat3 hbx)
      | fail)
    obtain ⟨W4, hW4⟩ : ∃ W4, W4 = w3.setCell ⟨db, 0, none⟩ (.slice ao2 (pre.length + 1) cap2) := ⟨_, rfl⟩
    rw [← hW4]
    have hg3 := HG3.out
    have hs3 : W.heap.size + 1 ≤ w3.heap.size := by have := hg3.size; simpa using this
    have hkeep : ∀ k, k ≠ db → W4.heap[k]? = w3.heap[k]? := fun k h => by rw [hW4]; exact heap_setCell_other _ _ _ _ h
    have hs4 : W4.heap.size = w3.heap.size := by rw [hW4]; simp [World.setCell]
    have hOb : ∀ k, (Value.slice ao2 (pre.length + 1) cap2).ownBlock = some k → w1.heap.size ≤ k ∧ k < w3.heap.size := fun k hk => HO.out.block hk
    have hold : ∀ k, k < W.heap.size → k ≠ db → ¬ Φ k → W4.heap[k]? = W.heap[k]? := fun k hk h1 h2 => by
      rw [hkeep k h1, hg3.block k (by simp; omega) (fun e => h2 ((HI.out.iff k).2 e.symm))]
      exact Below.heap_alloc _ _ _ hk
    have hnΦ : ∀ k, k < w1.heap.size → ¬ Φ k := fun k hk h => by have := HPH.out k h; omega
    refine ⟨fun k => (Value.slice ao2 (pre.length + 1) cap2).ownBlock = some k, fun k hk => ?_, ⟨⟨?_, ?_, ?_, by omega⟩, fun k hk h1 h2 => hold k hk h1 h2⟩, .slice ao2 (pre.length + 1) cap2, ?_⟩
    · rcases HAT3.out with h | h
      · exact .inl ((HI.out.iff k).2 (by rw [← h]; exact hk))
      · rw [hk] at h
        injection h with h
        exact .inr (by rw [h]; simp)
    · rw [hW4]; exact hg3.os
    · rw [hW4]; exact hg3.tape
    · rw [hW4]; exact hg3.output
    · refine ⟨by rw [hW4]; exact HBX.out.set _, HO.out.of (Nat.le_refl _) (fun k hk => hkeep k (by have := (hOb k hk).1; omega)), fun k => Iff.rfl, (hold nb (by omega) (by omega) (hnΦ nb (by omega))).trans HI.out.bn, (hold mb (by omega) (by omega) (hnΦ mb (by omega))).trans HI.out.bm, fun t ht => ?_, .inr ?_, by omega⟩
      · rcases List.mem_append.1 ht with h | h
        · exact HI.out.due t h
        · rw [List.mem_singleton] at h; subst h; omega
      · simp only [List.length_append, List.length_cons, List.length_nil]; omega
  case done =>
    rintro D Φ W3 ⟨v1, hI⟩ hon hD hnD hK
    have hd : dueL ts now most = ts := dueL_all hI.due hI.cnt
    have hA3 : AgA B g (.slice ao n cap) ts W3 := by
      have h1 := HA1.out
      have hgl := HA.out.lt
      exact ⟨(hon.block g h1.lt (by omega) (fun h => h)).trans h1.at_, h1.own.of (Nat.le_refl _) (fun k hk => hon.block k (h1.own.block hk).2 (by have := (HA.out.own.block hk).2; omega) (fun h => h)), h1.ne, h1.lo⟩
    obtain ⟨ao1, cap1, rfl⟩ := hI.own.reads.lenOf
    obtain ⟨d, hdd⟩ : ∃ d, d = (ts).length := ⟨_, rfl⟩
    rw [← hdd] at hI
    have c0 := hI.bx.cell
    have cg : W3.cell? ⟨g, 0, none⟩ = some (.slice ao n cap) := by rw [World.cell?, hA3.at_]; rfl
    have hdn : d ≤ ts.length := by have h1 := dueL_le ts now most; rw [hd] at h1; omega
    have HD := Lib.hid hd
    have HDD := Lib.hid hdd
    have HI := Lib.hid hI
    have HON := Lib.hid hon
    have HA3 := Lib.hid hA3
    have HK := Lib.hid hK
    have HDN := Lib.hid hdn
    clear hI hon hA3 hK hd hdd hdn
    by_cases hz : d = 0
    · have hz' : ((0 : Int) < (d : Int)) = False := by simp; omega
      have h2 : Left2 B g (.slice ao n cap) (ts.drop (dueL ts now most).length) W3 W3 := by
        rw [HD.out, ← HDD.out, hz, List.drop_zero]
        exact Left2.same HA3.out (Below.refl _ _)
      obtain ⟨k5, o5, l5⟩ := due_post (db := db) HA.out HB1.out (by omega) (by omega) HON.out HI.out hD hnD HK.out h2
      have K5 := Lib.hid k5
      have O5 := Lib.hid o5
      have L5 := Lib.hid l5
      clear k5 o5 l5 h2
      subst hz
      gi_wp2
      refine ⟨by simp, .inl ⟨_, _, rfl, run_takeDeferred K5.out, ?_⟩⟩
      exact ⟨.slice ao1 0 cap1, by simp [results, Tryz.results41, go_sem], _, rfl, by rw [HD.out]; exact O5.out, L5.out⟩
    · have hz' : (0 : Int) < (d : Int) := by omega
      have hAd := HA3.out.later (show Below W3.heap.size W3 W3.drew from (Below.refl _ W3).drew)
      obtain ⟨m, hm⟩ : ∃ m, m = (delAt ts 0 d).length := ⟨_, rfl⟩
      have HM := Lib.hid hm
      have HAD := Lib.hid hAd
      have hgw := HA.out.lt
      have hdg : ¬ db = g := by omega
      have hdg2 : ¬ g = db := by omega
      clear hm hAd
      gi_wp2
      refine region_calmT ?_
      go_region_with (first
        | (go_at_call 107; refine (delete_ts B _ ts 0 d _ HAD.out.own (by omega) HDN.out (by have := HL.out; omega)).mono ?_; rintro e wn ⟨v', rfl, hO, hg8, hob⟩; have HFR := Lib.hid (Fresh.same (w := W3.drew) hob); have hA9 : wn.heap[g]? = some (.cells #[.slice ao n cap] 195 (0, 0)) := (hg8.block g HAD.out.lt (fun e => HAD.out.ne e.symm)).trans HAD.out.at_; obtain ⟨ao', cap', hv'⟩ := hO.reads.lenOf; rw [← HM.out] at hv'; subst hv'; have hc9 : wn.cell? ⟨g, 0, none⟩ = some (.slice ao n cap) := (by rw [World.cell?, hA9]; rfl); have hdb9 : wn.cell? ⟨db, 0, none⟩ = some (.slice ao1 d cap1) := ((World.cell?_of_block (a := ⟨db, 0, none⟩) (hg8.block db (by have h1 := HON.out.grow.size; show db < W3.heap.size; omega) (fun e => by have h1 := (HA.out.own.block e.symm).2; omega))).trans c0); have hf9 : wn.frozen? ⟨g, 0, none⟩ = false := (by simp [World.frozen?, hA9]); have HO9 := Lib.hid hO; have HG9 := Lib.hid hg8; have HA9 := Lib.hid hA9; clear hO hg8 hA9 hob)
        | fail)
      all_goals
        have h2 : Left2 B g (.slice ao n cap) (ts.drop (dueL ts now most).length) W3 (wn.setCell ⟨g, 0, none⟩ (.slice ao' m cap')) := by
          rw [HD.out, ← HDD.out, show ts.drop d = delAt ts 0 d from by simp [delAt]]
          exact left2_store HA3.out (show Below W3.heap.size W3 W3.drew from (Below.refl _ W3).drew) HG9.out HO9.out HA9.out HFR.out
        obtain ⟨k5, o5, l5⟩ := due_post (db := db) HA.out HB1.out (by omega) (by omega) HON.out HI.out hD hnD HK.out h2
        have K5 := Lib.hid k5
        have O5 := Lib.hid o5
        have L5 := Lib.hid l5
        clear k5 o5 l5 h2
        gi_wp2
        refine ⟨by simp, .inl ⟨_, _, rfl, run_takeDeferred K5.out, ?_⟩⟩
        exact ⟨.slice ao1 d cap1, by simp [results, Tryz.results41, go_sem], _, rfl, by rw [HD.out]; exact O5.out, L5.out⟩
  case stop =>
    rintro D Φ c pre' W3 hpre ⟨rfl, pre, x, rfl, hx, v1, hI⟩ hon hD hnD hK
    have hd : dueL ts now most = pre := dueL_stop hpre hI.due hI.cnt hx
    have hA3 : AgA B g (.slice ao n cap) ts W3 := by
      have h1 := HA1.out
      have hgl := HA.out.lt
      exact ⟨(hon.block g h1.lt (by omega) (fun h => h)).trans h1.at_, h1.own.of (Nat.le_refl _) (fun k hk => hon.block k (h1.own.block hk).2 (by have := (HA.out.own.block hk).2; omega) (fun h => h)), h1.ne, h1.lo⟩
    obtain ⟨ao1, cap1, rfl⟩ := hI.own.reads.lenOf
    obtain ⟨d, hdd⟩ : ∃ d, d = (pre).length := ⟨_, rfl⟩
    rw [← hdd] at hI
    have c0 := hI.bx.cell
    have cg : W3.cell? ⟨g, 0, none⟩ = some (.slice ao n cap) := by rw [World.cell?, hA3.at_]; rfl
    have hdn : d ≤ ts.length := by have h1 := dueL_le ts now most; rw [hd] at h1; omega
    have HD := Lib.hid hd
    have HDD := Lib.hid hdd
    have HI := Lib.hid hI
    have HON := Lib.hid hon
    have HA3 := Lib.hid hA3
    have HK := Lib.hid hK
    have HDN := Lib.hid hdn
    clear hI hon hA3 hK hd hdd hdn
    by_cases hz : d = 0
    · have hz' : ((0 : Int) < (d : Int)) = False := by simp; omega
      have h2 : Left2 B g (.slice ao n cap) (ts.drop (dueL ts now most).length) W3 W3 := by
        rw [HD.out, ← HDD.out, hz, List.drop_zero]
        exact Left2.same HA3.out (Below.refl _ _)
      obtain ⟨k5, o5, l5⟩ := due_post (db := db) HA.out HB1.out (by omega) (by omega) HON.out HI.out hD hnD HK.out h2
      have K5 := Lib.hid k5
      have O5 := Lib.hid o5
      have L5 := Lib.hid l5
      clear k5 o5 l5 h2
      subst hz
      gi_wp2
      refine ⟨by simp, .inl ⟨_, _, rfl, run_takeDeferred K5.out, ?_⟩⟩
      exact ⟨.slice ao1 0 cap1, by simp [results, Tryz.results41, go_sem], _, rfl, by rw [HD.out]; exact O5.out, L5.out⟩
    · have hz' : (0 : Int) < (d : Int) := by omega
      have hAd := HA3.out.later (show Below W3.heap.size W3 W3.drew from (Below.refl _ W3).drew)
      obtain ⟨m, hm⟩ : ∃ m, m = (delAt ts 0 d).length := ⟨_, rfl⟩
      have HM := Lib.hid hm
      have HAD := Lib.hid hAd
      have hgw := HA.out.lt
      have hdg : ¬ db = g := by omega
      have hdg2 : ¬ g = db := by omega
      clear hm hAd
      gi_wp2
      refine region_calmT ?_
      go_region_with (first
        | (go_at_call 107; refine (delete_ts B _ ts 0 d _ HAD.out.own (by omega) HDN.out (by have := HL.out; omega)).mono ?_; rintro e wn ⟨v', rfl, hO, hg8, hob⟩; have HFR := Lib.hid (Fresh.same (w := W3.drew) hob); have hA9 : wn.heap[g]? = some (.cells #[.slice ao n cap] 195 (0, 0)) := (hg8.block g HAD.out.lt (fun e => HAD.out.ne e.symm)).trans HAD.out.at_; obtain ⟨ao', cap', hv'⟩ := hO.reads.lenOf; rw [← HM.out] at hv'; subst hv'; have hc9 : wn.cell? ⟨g, 0, none⟩ = some (.slice ao n cap) := (by rw [World.cell?, hA9]; rfl); have hdb9 : wn.cell? ⟨db, 0, none⟩ = some (.slice ao1 d cap1) := ((World.cell?_of_block (a := ⟨db, 0, none⟩) (hg8.block db (by have h1 := HON.out.grow.size; show db < W3.heap.size; omega) (fun e => by have h1 := (HA.out.own.block e.symm).2; omega))).trans c0); have hf9 : wn.frozen? ⟨g, 0, none⟩ = false := (by simp [World.frozen?, hA9]); have HO9 := Lib.hid hO; have HG9 := Lib.hid hg8; have HA9 := Lib.hid hA9; clear hO hg8 hA9 hob)
        | fail)
      all_goals
        have h2 : Left2 B g (.slice ao n cap) (ts.drop (dueL ts now most).length) W3 (wn.setCell ⟨g, 0, none⟩ (.slice ao' m cap')) := by
          rw [HD.out, ← HDD.out, show ts.drop d = delAt ts 0 d from by simp [delAt]]
          exact left2_store HA3.out (show Below W3.heap.size W3 W3.drew from (Below.refl _ W3).drew) HG9.out HO9.out HA9.out HFR.out
        obtain ⟨k5, o5, l5⟩ := due_post (db := db) HA.out HB1.out (by omega) (by omega) HON.out HI.out hD hnD HK.out h2
        have K5 := Lib.hid k5
        have O5 := Lib.hid o5
        have L5 := Lib.hid l5
        clear k5 o5 l5 h2
        gi_wp2
        refine ⟨by simp, .inl ⟨_, _, rfl, run_takeDeferred K5.out, ?_⟩⟩
        exact ⟨.slice ao1 d cap1, by simp [results, Tryz.results41, go_sem], _, rfl, by rw [HD.out]; exact O5.out, L5.out⟩
end Go.Proofs.YteioacpfphigjaaGreatDoor
end

section
namespace Go.Proofs.YteioacpfphigjaaGreatDoor
open Go.RowKit Go.Shelf
attribute [local go_sem] Oper.semAt_some
set_option linter.unusedVariables false
set_option linter.unusedSimpArgs false

def NolI (N0 db : Nat) (pre : List Tk) (Φ : FP) (W : World) : Prop := (∀ k, ¬ Φ k) ∧ Boxed W db 84 (.slice none 0 0) ∧ N0 ≤ W.heap.size
theorem NolI.stab {N0 db : Nat} (h1 : db < N0) : Stab N0 (NolI N0 db) := by
  rintro pre Φ W ⟨a, b, f⟩
  exact ⟨fun k hk => absurd hk (a k), f, fun W' hg hk => ⟨a, (hk db (.inl h1)).trans b, Nat.le_trans f hg.size⟩⟩
set_option maxHeartbeats 4000000 in
set_option maxRecDepth 100000 in
theorem Due_none {g : Nat} (now most : Int) (w : World) (hg : w.heap[g]? = some (.cells #[.slice none 0 0] 195 (0, 0))) :
    Calls Tryz.prog 41 #[.pointer (some ⟨g, 0, none⟩), .int .i64 now, .int .i64 most] w fun e w' => e = .returned (.slice none 0 0) ∧ Below w.heap.size w w' := by
  have hgl : g < w.heap.size := (Array.getElem?_eq_some_iff.1 hg).1
  have HG := Lib.hid (And.intro hg hgl)
  clear hg hgl
  refine (callsIn_wide (n := 2)).1 ?_
  refine callsIn_of_wp_marks Tryz.func41 rfl trivial ?_ rfl
  simp only [Tryz.ntmps41, List.size_toArray, List.length_cons, List.length_nil, Nat.reduceAdd, Nat.reduceSub, Array.replicate_succ, Array.replicate_zero, List.push_toArray, List.append_toArray, List.nil_append, List.cons_append]
  gi_wp2_with (first | (gi_at_call 106; refine (callsIn_wide.2 (agenda_All _ ⟨_, rfl⟩ _)).mono ?_; rintro e w1 ⟨rfl, hw1⟩) | (refine ⟨trivial, ?_⟩; gi_at_call 106; refine (callsIn_wide.2 (agenda_All _ ⟨_, rfl⟩ _)).mono ?_; rintro e w1 ⟨rfl, hw1⟩) | fail)
  rw [← hw1]
  obtain ⟨nb, hnb⟩ : ∃ nb, nb = w.heap.size := ⟨_, rfl⟩
  obtain ⟨mb, hmb⟩ : ∃ mb, mb = nb + 1 := ⟨_, rfl⟩
  obtain ⟨db, hdb⟩ : ∃ db, db = mb + 1 := ⟨_, rfl⟩
  obtain ⟨ab, hab⟩ : ∃ ab, ab = db + 1 := ⟨_, rfl⟩
  have hB : Below w.heap.size w w1 := by rw [hw1]; exact ((((Below.refl _ w).alloc (Nat.le_refl _) _).alloc (by simp) _).alloc (by simp; omega) _).alloc (by simp; omega) _
  have hsz : w1.heap.size = nb + 4 := by rw [hw1, hnb]; simp
  have x0 : Boxed w1 nb 3 (.int .i64 now) := by rw [hw1, hnb]; exact (((Boxed.new w _ _).alloc _).alloc _).alloc _
  have x1 : Boxed w1 mb 3 (.int .i64 most) := by
    have := Boxed.new (w.alloc (.cells #[.int .i64 now] 3)) 3 (.int .i64 most)
    rw [World.size_alloc] at this
    rw [hw1, hmb, hnb]; exact (this.alloc _).alloc _
  have x2 : Boxed w1 db 84 (.slice none 0 0) := by
    have := Boxed.new ((w.alloc (.cells #[.int .i64 now] 3)).alloc (.cells #[.int .i64 most] 3)) 84 (.slice none 0 0)
    rw [World.size_alloc, World.size_alloc] at this
    rw [hw1, hdb, hmb, hnb]; exact this.alloc _
  have x3 : Boxed w1 ab 46 (.pointer (some ⟨g, 0, none⟩)) := by
    have := Boxed.new (((w.alloc (.cells #[.int .i64 now] 3)).alloc (.cells #[.int .i64 most] 3)).alloc (.cells #[.slice none 0 0] 84)) 46 (.pointer (some ⟨g, 0, none⟩))
    rw [World.size_alloc, World.size_alloc, World.size_alloc] at this
    rw [hw1, hab, hdb, hmb, hnb]; exact this
  rw [← hnb, ← hmb, ← hdb, ← hab]
  have hit := all_iter 0 ab g (.slice none 0 0) [] w1 x3.cell ((hB.block g HG.out.2).trans HG.out.1) (.inl ⟨rfl, rfl⟩) (by decide) (fun k => k < w1.heap.size) (by show ab < _; omega) (by have := HG.out.2; have := hB.size; show g < _; omega) (fun a n c e h => absurd rfl h)
  have HB1 := Lib.hid hB
  have HX2 := Lib.hid x2
  have HNB := Lib.hid hnb
  have l0 : nb < mb := by omega
  have l1 : mb < db := by omega
  have l2 : db < ab := by omega
  have l3 : ab < w1.heap.size := by omega
  have l4 : w.heap.size ≤ nb := by omega
  clear x3 hw1 hmb hdb hab hsz hB hnb
  refine range_outerA (n := 0) (gf := 168) (lb := #[.pointer (some ⟨ab, 0, none⟩)]) rfl enters_all hit (Grow.refl _) (fun k hk => ⟨hk, rfl⟩) (fun _ => rfl)
    (fun k => k = db) (by rintro k rfl; omega) (NolI w1.heap.size db) (fun _ _ _ _ => False) (NolI.stab (by omega)) (fun c _ _ _ h => h.elim)
    ⟨fun _ h => h, x2, Nat.le_refl _⟩
    (fun x N => { tmps := #[.pointer (some ⟨g, 0, none⟩), .int .i64 now, .int .i64 most, undef, .pointer (some ⟨nb, 0, none⟩), .pointer (some ⟨mb, 0, none⟩), .slice none 0 0, .pointer (some ⟨db, 0, none⟩), .pointer (some ⟨N, 0, none⟩), .pointer (some ⟨g, 0, none⟩), .func (.func 168) #[] #[.pointer (some ⟨ab, 0, none⟩)], .agg (tc x).toArray, undef, undef, undef, undef, undef, undef, undef, undef, undef, undef, undef, undef, undef, undef, undef, undef, undef, undef, undef, undef, undef, undef, undef, undef, undef, undef, undef, undef], defers := [] })
    (fun x N W => W.heap[N]? = some (.cells (tc x).toArray 87 (0, 0))) (fun x N W W' h e => e.trans h) ?assign ?body ?done ?stop
  case assign =>
    intro l x W K hK
    refine frame_eq (b := { tmps := #[.pointer (some ⟨g, 0, none⟩), .int .i64 now, .int .i64 most, undef, .pointer (some ⟨nb, 0, none⟩), .pointer (some ⟨mb, 0, none⟩), .slice none 0 0, .pointer (some ⟨db, 0, none⟩), undef, .pointer (some ⟨g, 0, none⟩), .func (.func 168) #[] #[.pointer (some ⟨ab, 0, none⟩)], .agg (tc x).toArray, undef, undef, undef, undef, undef, undef, undef, undef, undef, undef, undef, undef, undef, undef, undef, undef, undef, undef, undef, undef, undef, undef, undef, undef, undef, undef, undef, undef], defers := [] }) (by simp) ?_
    gi_wp2_with (first
        | (refine wplIn_allocT rfl rfl ?_; intro C hC)
        | (refine wplIn_storeT (t := x) (C := C) _ _ rfl rfl rfl rfl (heap_alloc_new W _) hC ?_)
        | fail)
    refine hK _ ?_ (by simp) (setRow_heap _ _ _ _ _ _ (heap_alloc_new W _))
    exact ((Below.refl _ W).alloc (Nat.le_refl _) _).trans ⟨rfl, rfl, rfl, by simp, fun k hk => setRow_other _ _ k _ (by omega)⟩
  case body =>
    rintro l pre x Φ N W hpx
    have h1 := hpx.length_le
    simp at h1
  case done =>
    rintro D Φ W3 ⟨hΦ, b1, hz⟩ hon hD hnD hK
    have c0 := b1.cell
    have HON := Lib.hid hon
    have HKK := Lib.hid hK
    clear b1 hon hK hΦ
    gi_wp2
    refine ⟨by simp, .inl ⟨_, _, rfl, run_takeDeferred HKK.out, ?_⟩⟩
    refine ⟨.slice none 0 0, by simp [results, Tryz.results41, go_sem], rfl, ?_⟩
    have hg : Grow W3 (W3.putObj D (.deferred none)) := put_grow _ _ _
    have hO2 := HON.out
    have hw2 := HB1.out
    refine ⟨hg.os.trans (hO2.grow.os.trans hw2.os), hg.tape.trans (hO2.grow.tape.trans hw2.tape), hg.output.trans (hO2.grow.output.trans hw2.output), by have := hg.size; have := hO2.grow.size; have := hw2.size; omega, fun k hk => ?_⟩
    have := hw2.size
    rw [put_other (by omega), hO2.block k (by omega) (fun h => by omega) (fun h => h)]
    exact hw2.block k hk
  case stop =>
    rintro D Φ c pre W3 hpre h
    exact h.elim
end Go.Proofs.YteioacpfphigjaaGreatDoor
end

section
namespace Go.Proofs.YteioacpfphigjaaGreatDoor
set_option linter.unusedVariables false
set_option linter.unusedSimpArgs false

/-- Accounts: what is free, what is held. -/
abbrev Acc := Nat → Int × Int
def acc0 : Acc := fun _ => (0, 0)
def upd (A : Acc) (a : Nat) (x : Int × Int) : Acc := fun k => if k = a then x else A k
theorem upd_same (A : Acc) (a : Nat) (x : Int × Int) : upd A a x a = x := by simp [upd]
theorem upd_other (A : Acc) {a k : Nat} (x : Int × Int) (h : k ≠ a) : upd A a x k = A k := by simp [upd, h]
def both (A : Acc) (k : Nat) : Int := (A k).1 + (A k).2
/-- What the first n accounts have. -/
def sumTo (A : Acc) : Nat → Int
  | 0 => 0
  | n + 1 => sumTo A n + both A n
theorem sumTo_upd (A : Acc) (a : Nat) (x : Int × Int) : ∀ n, sumTo (upd A a x) n = sumTo A n + (if a < n then (x.1 + x.2) - both A a else 0)
  | 0 => by simp [sumTo]
  | n + 1 => by
    rw [sumTo, sumTo, sumTo_upd A a x n]
    by_cases h : n = a
    · subst h
      have : both (upd A n x) n = x.1 + x.2 := by simp [both, upd_same]
      rw [this, if_neg (by omega), if_pos (by omega)]; omega
    · have : both (upd A a x) n = both A n := by simp [both, upd_other A x h]
      rw [this]
      by_cases h2 : a < n
      · rw [if_pos h2, if_pos (by omega)]; omega
      · rw [if_neg h2, if_neg (by omega)]; omega
/-- No account is below nought; all of them are within what may be. -/
structure AccOk (A : Acc) : Prop where
  free : ∀ k, 0 ≤ (A k).1
  held : ∀ k, 0 ≤ (A k).2
  all : sumTo A 10 ≤ 1073741824
theorem sumTo_mono {A : Acc} (h : ∀ k, 0 ≤ both A k) : ∀ {m n : Nat}, m ≤ n → sumTo A m ≤ sumTo A n := by
  intro m n hmn
  induction hmn with
  | refl => exact Int.le_refl _
  | step _ ih => rw [sumTo]; have := h; exact Int.le_trans ih (by have := h (by assumption); omega)
theorem AccOk.sum {A : Acc} (h : AccOk A) (k : Nat) : 0 ≤ both A k := by have := h.free k; have := h.held k; unfold both; omega
theorem AccOk.part {A : Acc} (h : AccOk A) {n : Nat} (hn : n ≤ 10) : 0 ≤ sumTo A n ∧ sumTo A n ≤ 1073741824 := by
  have h1 := sumTo_mono h.sum (Nat.zero_le n)
  have h2 := sumTo_mono h.sum hn
  have h3 := h.all
  rw [sumTo] at h1
  omega
theorem AccOk.one {A : Acc} (h : AccOk A) {k : Nat} (hk : k < 10) : both A k ≤ 1073741824 := by
  have h1 := h.part (n := k) (by omega)
  have h2 := h.part (n := k + 1) (by omega)
  rw [sumTo] at h2
  omega
theorem AccOk.zero : AccOk acc0 := ⟨fun k => by simp [acc0], fun k => by simp [acc0], by decide⟩
theorem AccOk.upd {A : Acc} (h : AccOk A) {a : Nat} {x : Int × Int} (ha : a < 10) (h1 : 0 ≤ x.1) (h2 : 0 ≤ x.2) (hs : sumTo A 10 + (x.1 + x.2) - both A a ≤ 1073741824) : AccOk (upd A a x) := by
  refine ⟨fun k => ?_, fun k => ?_, ?_⟩
  · by_cases e : k = a
    · subst e; rw [upd_same]; exact h1
    · rw [upd_other A x e]; exact h.free k
  · by_cases e : k = a
    · subst e; rw [upd_same]; exact h2
    · rw [upd_other A x e]; exact h.held k
  · rw [sumTo_upd, if_pos ha]; omega
/-- The greatest lock of a row. -/
def maxTo (l : List (Int × Int)) : Int := l.foldl (fun n x => max n x.2) 0
theorem maxTo_snoc (l : List (Int × Int)) (x : Int × Int) : maxTo (l ++ [x]) = max (maxTo l) x.2 := by simp [maxTo, List.foldl_append]
theorem foldl_max : ∀ (l : List (Int × Int)) (n : Int), n ≤ l.foldl (fun n x => max n x.2) n ∧ (∀ x ∈ l, x.2 ≤ l.foldl (fun n x => max n x.2) n) ∧ (l.foldl (fun n x => max n x.2) n = n ∨ ∃ x ∈ l, l.foldl (fun n x => max n x.2) n = x.2)
  | [], n => ⟨Int.le_refl _, fun x hx => absurd hx List.not_mem_nil, .inl rfl⟩
  | y :: l, n => by
    obtain ⟨h1, h2, h3⟩ := foldl_max l (max n y.2)
    rw [List.foldl_cons]
    refine ⟨by omega, fun x hx => ?_, ?_⟩
    · rcases List.mem_cons.1 hx with rfl | hx
      · omega
      · exact h2 x hx
    · rcases h3 with h3 | ⟨x, hx, h3⟩
      · rcases Int.le_total n y.2 with h | h
        · exact .inr ⟨y, List.mem_cons_self, by rw [h3]; omega⟩
        · exact .inl (by rw [h3]; omega)
      · exact .inr ⟨x, List.mem_cons_of_mem _ hx, h3⟩
theorem maxTo_nonneg (l : List (Int × Int)) : 0 ≤ maxTo l := (foldl_max l 0).1
theorem maxTo_le {l : List (Int × Int)} {x : Int × Int} (h : x ∈ l) : x.2 ≤ maxTo l := (foldl_max l 0).2.1 x h
theorem maxTo_is (l : List (Int × Int)) : maxTo l = 0 ∨ ∃ x ∈ l, maxTo l = x.2 := (foldl_max l 0).2.2
/-- What is locked of an account. -/
def lockedOf (M : Cls Int) (a : Int) : Int := maxTo (rowOf M a)
def isAcc (a : Int) : Prop := 0 ≤ a ∧ a < 10
instance (a : Int) : Decidable (isAcc a) := by unfold isAcc; infer_instance
def isBal (n : Int) : Prop := 0 ≤ n ∧ n ≤ 1073741824
instance (a : Int) : Decidable (isBal a) := by unfold isBal; infer_instance
/-- May n be taken from what a has free? -/
def spendE (A : Acc) (M : Cls Int) (a n : Int) (back : Bool) : Int :=
  if ¬ isAcc a ∨ ¬ isBal n then 1 else if (A a.toNat).1 < n then 6 else if 0 < n ∧ back = false ∧ (A a.toNat).1 - n < lockedOf M a then 7 else 0
def spendA (A : Acc) (a n : Int) : Acc := upd A a.toNat ((A a.toNat).1 - n, (A a.toNat).2)
theorem spendE_ok {A : Acc} {M : Cls Int} {a n : Int} {b : Bool} (h : spendE A M a n b = 0) : isAcc a ∧ isBal n ∧ n ≤ (A a.toNat).1 := by
  unfold spendE at h
  split at h
  · cases h
  · rename_i h1
    split at h
    · cases h
    · rename_i h2
      exact ⟨by simpa using fun k => h1 (.inl k), by simpa using fun k => h1 (.inr k), by omega⟩
theorem spendA_ok {A : Acc} (h : AccOk A) {a n : Int} (ha : isAcc a) (hn : isBal n) (hf : n ≤ (A a.toNat).1) : AccOk (spendA A a n) := by
  unfold isAcc at ha
  unfold isBal at hn
  have := h.held a.toNat
  have := h.all
  exact h.upd (by omega) (by simp only; omega) (by simpa using h.held _) (by unfold both; simp only; omega)
end Go.Proofs.YteioacpfphigjaaGreatDoor
end

section
namespace Go.Proofs.YteioacpfphigjaaGreatDoor
open Go.RowKit Go.Maps Go.Shelf
set_option linter.unusedVariables false
set_option linter.unusedSimpArgs false

theorem IterF.later {P : Program} {α : Type} {n gf : Nat} {lb : Array Value} {encs : α → Array Value} {xs : List α} {G G' : FP} {w W : World} (h : IterF P n gf lb encs xs G w) (hg : Grow w W) (hG : ∀ k, G k → k < w.heap.size ∧ W.heap[k]? = w.heap[k]?) (hs : ∀ k, G k → G' k) : IterF P n gf lb encs xs G' W := by
  intro l B Ψ J Jx Φ0 W2 hg2 hG2 hΨ hJ hJx hr h0
  exact h l B Ψ J Jx Φ0 W2 (hg.trans hg2) (fun k hk => ⟨(hG k hk).1, (hG2 k (hs k hk)).2.trans (hG k hk).2⟩) hΨ hJ hJx hr h0
/-- A way's value: what it tells, in world w. -/
def Way {α : Type} (P : Program) (encs : α → Array Value) (f : Value) (xs : List α) (w : World) : Prop :=
  ∃ gf lb, f = .func (.func gf) #[] lb ∧ (∀ args w, (callFunc gf args).run P w = .ok (.enter gf args) w) ∧ ∀ n, IterF P n gf lb encs xs (fun k => k < w.heap.size) w
theorem Way.below {P : Program} {α : Type} {encs : α → Array Value} {f : Value} {xs : List α} {w W : World} (h : Way P encs f xs w) (hb : Below w.heap.size w W) : Way P encs f xs W := by
  obtain ⟨gf, lb, e, eg, hi⟩ := h
  exact ⟨gf, lb, e, eg, fun n => (hi n).later (Grow.of_below hb) (fun k hk => ⟨hk, hb.block k hk⟩) (fun k hk => Nat.lt_of_lt_of_le hk hb.size)⟩

set_option maxRecDepth 100000 in
set_option maxHeartbeats 2000000 in
theorem grid_Row_I {g : Nat} {M : Cls Int} {F : FP} {w : World} (h : GrAt codI 301 g M F w) (hlen : M.length ≤ 100000) {s : Int} (hs : (Lit.int .i64 s).wf = true) :
    Calls Tryz.prog 241 #[.pointer (some ⟨g, 0, none⟩), .int .i64 s] w fun e w' => ∃ f, e = .returned f ∧ Way Tryz.prog encs_I f (rowOf M s) w' ∧ Below w.heap.size w w' := by
  have c1 := grid_row_I (some ⟨g, 0, none⟩) s w
  have hway : ∀ w', w' = ((w.alloc (.cells #[.pointer (some ⟨g, 0, none⟩)] 113)).alloc (.cells #[.int .i64 s] 3)).alloc (.cells #[.func (.func 270) #[] #[.pointer (some ⟨w.heap.size, 0, none⟩), .pointer (some ⟨w.heap.size + 1, 0, none⟩)]] 91) →
      Way Tryz.prog encs_I (.func (.func 269) #[] #[.pointer (some ⟨w.heap.size + 2, 0, none⟩)]) (rowOf M s) w' ∧ Below w.heap.size w w' := by
    intro w' hw'
    have hB : Below w.heap.size w w' := by rw [hw']; exact (((Below.refl _ w).alloc (Nat.le_refl _) _).alloc (by simp) _).alloc (by simp; omega) _
    have hsz : w'.heap.size = w.heap.size + 3 := by rw [hw']; simp
    have b0 : Boxed w' w.heap.size 113 (.pointer (some ⟨g, 0, none⟩)) := by rw [hw']; exact ((Boxed.new w _ _).alloc _).alloc _
    have b1 : Boxed w' (w.heap.size + 1) 3 (.int .i64 s) := by
      have := Boxed.new (w.alloc (.cells #[.pointer (some ⟨g, 0, none⟩)] 113)) 3 (.int .i64 s)
      rw [World.size_alloc] at this
      rw [hw']; exact this.alloc _
    have b2 : Boxed w' (w.heap.size + 2) 91 (.func (.func 270) #[] #[.pointer (some ⟨w.heap.size, 0, none⟩), .pointer (some ⟨w.heap.size + 1, 0, none⟩)]) := by
      have := Boxed.new ((w.alloc (.cells #[.pointer (some ⟨g, 0, none⟩)] 113)).alloc (.cells #[.int .i64 s] 3)) 91 (.func (.func 270) #[] #[.pointer (some ⟨w.heap.size, 0, none⟩), .pointer (some ⟨w.heap.size + 1, 0, none⟩)])
      rw [World.size_alloc, World.size_alloc] at this
      rw [hw']; exact this
    have hg' : GrAt codI 301 g M F w' := h.keep (Grow.of_below hB) (fun k hk => hB.block k (h.2.2.1 k hk))
    have hi := row_iter_I 0 w.heap.size (w.heap.size + 1) g M F s w' b0.cell b1.cell hg' hlen hs (fun k => k < w'.heap.size) (by omega) (by omega) (fun k hk => hg'.2.2.1 k hk)
    refine ⟨⟨_, _, rfl, enters_begun_I, fun n => ?_⟩, hB⟩
    exact begun_iter_I n (w.heap.size + 2) _ _ (rowOf M s) (fun k => k < w'.heap.size) w' b2 enters_row1_I hi (by omega) (fun k hk => hk) (by have := row_length M s; omega)
  have HW := Lib.hid hway
  have HC := Lib.hid c1
  clear c1 hway h hlen hs
  go_enter Tryz.func241, Tryz.ntmps241
  go_wp2_with (first
    | (go_at_call 260; refine HC.out.mono ?_; rintro e w1 ⟨rfl, rfl⟩)
    | (go_at_call 259; refine (still_Begun_I _ _ ⟨_, _, rfl⟩).mono ?_; rintro e w2 ⟨rfl, rfl⟩)
    | fail)
  go_ret
  exact ⟨_, rfl, (HW.out _ rfl).1, (HW.out _ rfl).2⟩
set_option maxRecDepth 100000 in
set_option maxHeartbeats 2000000 in
theorem grid_Row_nil_I (s : Int) (w : World) :
    Calls Tryz.prog 241 #[.pointer none, .int .i64 s] w fun e w' => ∃ f, e = .returned f ∧ Way Tryz.prog encs_I f [] w' ∧ Below w.heap.size w w' := by
  have c1 := grid_row_I none s w
  have hway : ∀ w', w' = ((w.alloc (.cells #[.pointer none] 113)).alloc (.cells #[.int .i64 s] 3)).alloc (.cells #[.func (.func 270) #[] #[.pointer (some ⟨w.heap.size, 0, none⟩), .pointer (some ⟨w.heap.size + 1, 0, none⟩)]] 91) →
      Way Tryz.prog encs_I (.func (.func 269) #[] #[.pointer (some ⟨w.heap.size + 2, 0, none⟩)]) [] w' ∧ Below w.heap.size w w' := by
    intro w' hw'
    have hB : Below w.heap.size w w' := by rw [hw']; exact (((Below.refl _ w).alloc (Nat.le_refl _) _).alloc (by simp) _).alloc (by simp; omega) _
    have hsz : w'.heap.size = w.heap.size + 3 := by rw [hw']; simp
    have b0 : Boxed w' w.heap.size 113 (.pointer none) := by rw [hw']; exact ((Boxed.new w _ _).alloc _).alloc _
    have b2 : Boxed w' (w.heap.size + 2) 91 (.func (.func 270) #[] #[.pointer (some ⟨w.heap.size, 0, none⟩), .pointer (some ⟨w.heap.size + 1, 0, none⟩)]) := by
      have := Boxed.new ((w.alloc (.cells #[.pointer none] 113)).alloc (.cells #[.int .i64 s] 3)) 91 (.func (.func 270) #[] #[.pointer (some ⟨w.heap.size, 0, none⟩), .pointer (some ⟨w.heap.size + 1, 0, none⟩)])
      rw [World.size_alloc, World.size_alloc] at this
      rw [hw']; exact this
    have hi := row_iter_nil_I 0 w.heap.size (w.heap.size + 1) w' b0.cell (fun k => k < w'.heap.size) (by omega)
    refine ⟨⟨_, _, rfl, enters_begun_I, fun n => ?_⟩, hB⟩
    exact begun_iter_I n (w.heap.size + 2) _ _ [] (fun k => k < w'.heap.size) w' b2 enters_row1_I hi (by omega) (fun k hk => hk) (by simp)
  have HW := Lib.hid hway
  have HC := Lib.hid c1
  clear c1 hway
  go_enter Tryz.func241, Tryz.ntmps241
  go_wp2_with (first
    | (go_at_call 260; refine HC.out.mono ?_; rintro e w1 ⟨rfl, rfl⟩)
    | (go_at_call 259; refine (still_Begun_I _ _ ⟨_, _, rfl⟩).mono ?_; rintro e w2 ⟨rfl, rfl⟩)
    | fail)
  go_ret
  exact ⟨_, rfl, (HW.out _ rfl).1, (HW.out _ rfl).2⟩

end Go.Proofs.YteioacpfphigjaaGreatDoor
end

section
namespace Go.Proofs.YteioacpfphigjaaGreatDoor
open Go.RowKit Go.Maps Go.Shelf
set_option linter.unusedVariables false
set_option linter.unusedSimpArgs false

/-- A table of the call's own. -/
def GrOwn {β : Type} (c : Cod β) (T : TypeId) (N g : Nat) (M : Cls β) (w : World) : Prop := ∃ F, GrAt c T g M F w ∧ ∀ k, F k → N ≤ k
section
variable {β : Type} {c : Cod β} {T : TypeId} {N g : Nat} {M M' : Cls β} {w w' : World} {F : FP}
theorem GrOwn.to (h : GrTo c T g M' F w w') (hF : ∀ k, F k → N ≤ k) (hN : N ≤ w.heap.size) : GrOwn c T N g M' w' ∧ Below N w w' := by
  obtain ⟨F', h1, h2, h3⟩ := h
  exact ⟨⟨F', h1, fun k hk => (h2 k hk).elim (hF k) (fun h => by omega)⟩, h3.below hN hF (fun k h => h.elim)⟩
theorem GrOwn.below (h : GrOwn c T N g M w) (hb : Below w.heap.size w w') : GrOwn c T N g M w' := by
  obtain ⟨F, h1, h2⟩ := h
  exact ⟨F, h1.keep (Grow.of_below hb) (fun k hk => hb.block k (h1.2.2.1 k hk)), h2⟩
theorem GrOwn.srt (h : GrOwn c T N g M w) : SrtC M := by obtain ⟨F, h1, _⟩ := h; exact h1.1
theorem Below.of_all {N : Nat} {w w' : World} (h : Below w.heap.size w w') (hN : N ≤ w.heap.size) : Below N w w' := h.mono hN
end
theorem grid_New_own_I (w : World) : Calls Tryz.prog 126 #[] w fun e w' => ∃ g, e = .returned (.pointer (some ⟨g, 0, none⟩)) ∧ GrOwn codI 301 w.heap.size g [] w' ∧ Below w.heap.size w w' := by
  refine (grid_New_I w).mono ?_
  rintro e w' ⟨rfl, rfl⟩
  exact ⟨_, rfl, ⟨_, GrAt.new_I w, fun k hk => by omega⟩, (Below.refl _ w).alloc (Nat.le_refl _) _⟩
theorem grid_Set_own_I {N g : Nat} {M : Cls Int} {w : World} (h : GrOwn codI 301 N g M w) (hN : N ≤ w.heap.size) (hlen : M.length ≤ 1000000) {a b v : Int} (ha : (Lit.int .i64 a).wf = true) (hb : (Lit.int .i64 b).wf = true) :
    Calls Tryz.prog 167 #[.pointer (some ⟨g, 0, none⟩), .int .i64 a, .int .i64 b, .int .i64 v] w fun e w' => e = .returned (.tuple #[]) ∧ GrOwn codI 301 N g (cput M a b v) w' ∧ Below N w w' := by
  obtain ⟨F, h1, h2⟩ := h
  refine (grid_Set_I h1 hlen ha hb v).mono ?_
  rintro e w' ⟨rfl, h3⟩
  exact ⟨rfl, GrOwn.to h3 h2 hN⟩
theorem grid_Del_own_I {N g : Nat} {M : Cls Int} {w : World} (h : GrOwn codI 301 N g M w) (hN : N ≤ w.heap.size) (hlen : M.length ≤ 1000000) {a b : Int} (ha : (Lit.int .i64 a).wf = true) (hb : (Lit.int .i64 b).wf = true) :
    Calls Tryz.prog 166 #[.pointer (some ⟨g, 0, none⟩), .int .i64 a, .int .i64 b] w fun e w' => e = .returned (.bool (cget M a b).isSome) ∧ GrOwn codI 301 N g (cdel M a b) w' ∧ Below N w w' := by
  obtain ⟨F, h1, h2⟩ := h
  refine (grid_Del_I h1 hlen ha hb).mono ?_
  rintro e w' ⟨rfl, h3⟩
  exact ⟨rfl, GrOwn.to h3 h2 hN⟩
theorem OwnN.two {B : Nat} {v : Value} {x y : Int} {w : World} (h : OwnN B v [x, y] w) : ∃ b cap, v = .slice (some ⟨b, 0, none⟩) 2 cap ∧ w.cell? ⟨b, 0, none⟩ = some (.int .i64 x) ∧ w.cell? ⟨b, 1, none⟩ = some (.int .i64 y) := by
  obtain ⟨b, cap, rfl, h0, _, _⟩ := h.at (k := 0) (by simp)
  obtain ⟨b', cap', e, h1, _, _⟩ := h.at (k := 1) (by simp)
  injection e with e1 e2 e3
  injection e1 with e1
  injection e1 with e1
  subst e1
  exact ⟨b, cap, rfl, h0, h1⟩
def M3 : Cls Int := cput (cput (cput [] 5 1 7) 2 1 8) 2 3 9
theorem M3_col : colOf M3 1 = [(2, 8), (5, 7)] := by decide +kernel
theorem M3_len : M3.length = 3 := by decide +kernel
end Go.Proofs.YteioacpfphigjaaGreatDoor
end

section
namespace Go.Proofs.YteioacpfphigjaaGreatDoor
open Go.RowKit Go.Maps Go.Shelf
set_option linter.unusedVariables false
set_option linter.unusedSimpArgs false

/-- The accounts' cells. -/
def accs (A : Acc) : Nat → List Value
  | 0 => []
  | n + 1 => accs A n ++ [.int .i64 (A n).1, .int .i64 (A n).2]
theorem accs_len (A : Acc) : ∀ n, (accs A n).length = 2 * n
  | 0 => rfl
  | n + 1 => by rw [accs, List.length_append, accs_len A n]; simp; omega
theorem accs_at (A : Acc) : ∀ {n k : Nat}, k < n → (accs A n)[k * 2]? = some (.int .i64 (A k).1) ∧ (accs A n)[k * 2 + 1]? = some (.int .i64 (A k).2)
  | n + 1, k, h => by
    rw [accs]
    by_cases e : k = n
    · subst e
      have hl := accs_len A k
      rw [List.getElem?_append_right (by omega), List.getElem?_append_right (by omega), show k * 2 - (accs A k).length = 0 by omega, show k * 2 + 1 - (accs A k).length = 1 by omega]
      exact ⟨rfl, rfl⟩
    · have hl := accs_len A n
      have := accs_at A (n := n) (k := k) (by omega)
      rw [List.getElem?_append_left (by omega), List.getElem?_append_left (by omega)]
      exact this
theorem accs_free (A : Acc) {n a : Nat} (h : a < n) (v : Int) : (accs A n).set (a * 2) (.int .i64 v) = accs (upd A a (v, (A a).2)) n := by
  refine List.ext_getElem? (fun i => ?_)
  have hl := accs_len A n
  have hl' := accs_len (upd A a (v, (A a).2)) n
  by_cases hi : i < 2 * n
  · obtain ⟨k, e⟩ : ∃ k, i = k * 2 ∨ i = k * 2 + 1 := ⟨i / 2, by omega⟩
    have hk : k < n := by omega
    have h1 := accs_at A hk
    have h2 := accs_at (upd A a (v, (A a).2)) hk
    rcases e with e | e
    · subst e
      rw [h2.1]
      by_cases c : k = a
      · subst c; rw [List.getElem?_set_self (by omega), upd_same]
      · rw [List.getElem?_set_ne (by omega), h1.1, upd_other A _ c]
    · subst e
      rw [h2.2, List.getElem?_set_ne (by omega), h1.2]
      by_cases c : k = a
      · subst c; rw [upd_same]
      · rw [upd_other A _ c]
  · rw [List.getElem?_eq_none (by simp; omega), List.getElem?_eq_none (by omega)]
theorem accs_held (A : Acc) {n a : Nat} (h : a < n) (v : Int) : (accs A n).set (a * 2 + 1) (.int .i64 v) = accs (upd A a ((A a).1, v)) n := by
  refine List.ext_getElem? (fun i => ?_)
  have hl := accs_len A n
  have hl' := accs_len (upd A a ((A a).1, v)) n
  by_cases hi : i < 2 * n
  · obtain ⟨k, e⟩ : ∃ k, i = k * 2 ∨ i = k * 2 + 1 := ⟨i / 2, by omega⟩
    have hk : k < n := by omega
    have h1 := accs_at A hk
    have h2 := accs_at (upd A a ((A a).1, v)) hk
    rcases e with e | e
    · subst e
      rw [h2.1, List.getElem?_set_ne (by omega), h1.1]
      by_cases c : k = a
      · subst c; rw [upd_same]
      · rw [upd_other A _ c]
    · subst e
      rw [h2.2]
      by_cases c : k = a
      · subst c; rw [List.getElem?_set_self (by omega), upd_same]
      · rw [List.getElem?_set_ne (by omega), h1.2, upd_other A _ c]
  · rw [List.getElem?_eq_none (by simp; omega), List.getElem?_eq_none (by omega)]

/-- The ledger's cells. -/
def lcells (A : Acc) (gl : Nat) : List Value := accs A 10 ++ [.pointer (some ⟨gl, 0, none⟩)]
/-- A ledger of the call's own: its struct lies in g, its locks' table in gl. -/
structure LdAt (N g gl : Nat) (A : Acc) (M : Cls Int) (w : World) : Prop where
  blk : w.heap[g]? = some (.cells (lcells A gl).toArray 115 (0, 0))
  gr : ∃ F, GrAt codI 301 gl M F w ∧ ∀ k, F k → N ≤ k ∧ k ≠ g
  lo : N ≤ g
  ok : AccOk A
  len : M.length ≤ 10000
section
variable {N g gl : Nat} {A : Acc} {M : Cls Int} {w w' : World}
theorem LdAt.lt (h : LdAt N g gl A M w) : g < w.heap.size := (Array.getElem?_eq_some_iff.1 h.blk).1
theorem LdAt.below (h : LdAt N g gl A M w) (hb : Below w.heap.size w w') : LdAt N g gl A M w' := by
  obtain ⟨F, h1, h2⟩ := h.gr
  exact ⟨(hb.block g h.lt).trans h.blk, ⟨F, h1.keep (Grow.of_below hb) (fun k hk => hb.block k (h1.2.2.1 k hk)), h2⟩, h.lo, h.ok, h.len⟩
theorem lcells_acc {k : Nat} (hk : k < 10) : (lcells A gl)[k * 2]? = some (.int .i64 (A k).1) ∧ (lcells A gl)[k * 2 + 1]? = some (.int .i64 (A k).2) := by
  have hl := accs_len A 10
  unfold lcells
  rw [List.getElem?_append_left (by omega), List.getElem?_append_left (by omega)]
  exact accs_at A hk
theorem lcells_ptr : (lcells A gl)[20]? = some (.pointer (some ⟨gl, 0, none⟩)) := by
  have hl := accs_len A 10
  unfold lcells
  rw [List.getElem?_append_right (by omega), hl]
  rfl
theorem cell_of {b i : Nat} {l : List Value} {T : TypeId} {v : Value} (h : w.heap[b]? = some (.cells l.toArray T (0, 0))) (hv : l[i]? = some v) : w.cell? ⟨b, i, none⟩ = some v := by
  rw [World.cell?, h]; simpa using hv
theorem LdAt.free (h : LdAt N g gl A M w) {k : Nat} (hk : k < 10) : w.cell? ⟨g, k * 2, none⟩ = some (.int .i64 (A k).1) := cell_of h.blk (lcells_acc hk).1
theorem LdAt.held (h : LdAt N g gl A M w) {k : Nat} (hk : k < 10) : w.cell? ⟨g, k * 2 + 1, none⟩ = some (.int .i64 (A k).2) := cell_of h.blk (lcells_acc hk).2
theorem LdAt.ptr (h : LdAt N g gl A M w) : w.cell? ⟨g, 20, none⟩ = some (.pointer (some ⟨gl, 0, none⟩)) := cell_of h.blk lcells_ptr
theorem LdAt.frozen (h : LdAt N g gl A M w) (i : Nat) : w.frozen? ⟨g, i, none⟩ = false := by simp [World.frozen?, h.blk]
theorem setCell_at {b i : Nat} {l : List Value} {T : TypeId} {v : Value} (h : w.heap[b]? = some (.cells l.toArray T (0, 0))) : (w.setCell ⟨b, i, none⟩ v).heap[b]? = some (.cells (l.set i v).toArray T (0, 0)) := by
  simp [World.setCell, Array.getElem?_modify, h]
theorem grow_set {b i : Nat} {v : Value} : Grow w (w.setCell ⟨b, i, none⟩ v) := ⟨rfl, rfl, rfl, by simp [World.setCell]⟩
theorem below_set {b i : Nat} {v : Value} (h : N ≤ b) : Below N w (w.setCell ⟨b, i, none⟩ v) := ⟨rfl, rfl, rfl, by simp [World.setCell], fun k hk => Below.heap_setCell _ _ _ k (by show k ≠ b; omega)⟩
theorem LdAt.put {i : Nat} {v : Value} {A' : Acc} (h : LdAt N g gl A M w) (hA : (lcells A gl).set i v = lcells A' gl) (hok : AccOk A') : LdAt N g gl A' M (w.setCell ⟨g, i, none⟩ v) ∧ Below N w (w.setCell ⟨g, i, none⟩ v) := by
  obtain ⟨F, h1, h2⟩ := h.gr
  refine ⟨⟨?_, ⟨F, h1.keep grow_set (fun k hk => Below.heap_setCell _ _ _ k (h2 k hk).2), h2⟩, h.lo, hok, h.len⟩, below_set h.lo⟩
  rw [setCell_at h.blk, hA]
theorem lcells_free {a : Nat} (ha : a < 10) (v : Int) : (lcells A gl).set (a * 2) (.int .i64 v) = lcells (upd A a (v, (A a).2)) gl := by
  unfold lcells
  rw [List.set_append_left _ _ (by rw [accs_len]; omega), accs_free A ha]
theorem lcells_held {a : Nat} (ha : a < 10) (v : Int) : (lcells A gl).set (a * 2 + 1) (.int .i64 v) = lcells (upd A a ((A a).1, v)) gl := by
  unfold lcells
  rw [List.set_append_left _ _ (by rw [accs_len]; omega), accs_held A ha]
theorem LdAt.setFree (h : LdAt N g gl A M w) {a : Nat} (ha : a < 10) (v : Int) (hok : AccOk (upd A a (v, (A a).2))) : LdAt N g gl (upd A a (v, (A a).2)) M (w.setCell ⟨g, a * 2, none⟩ (.int .i64 v)) ∧ Below N w (w.setCell ⟨g, a * 2, none⟩ (.int .i64 v)) := h.put (lcells_free ha v) hok
end

theorem isAcc_nat {a : Int} (h : isAcc a) : ∃ k : Nat, a = k ∧ k < 10 := by unfold isAcc at h; exact ⟨a.toNat, by omega, by omega⟩
set_option maxRecDepth 100000 in
theorem ledger_account {g k : Nat} (hk : k < 10) (w : World) : Calls Tryz.prog 68 #[.pointer (some ⟨g, 0, none⟩), .int .i64 (k : Int)] w fun e w' => e = .returned (.pointer (some ⟨g, k * 2, none⟩)) ∧ w' = w := by
  have c1 : decide (0 ≤ (k : Int) ∧ (k : Int) < 10) = true := by simp; omega
  have h1 : (k : Int) < 10 := by omega
  have h0 : ¬ (k : Int) < 0 := by omega
  have C1 := Lib.hid c1
  clear c1
  go_enter Tryz.func68, Tryz.ntmps68
  go_wp2_with (first | (go_at_call 60; refine (bound_Account _ _).mono ?_; rw [C1.out]; rintro e w' ⟨rfl, rfl⟩) | fail)
  exact bodyPost_ret (v := .pointer (some ⟨g, k * 2, none⟩)) (by simp [results, Tryz.results68, go_sem]) rfl ⟨rfl, rfl⟩
theorem ledger_account_no {g : Nat} {a : Int} (ha : ¬ isAcc a) (w : World) : Calls Tryz.prog 68 #[.pointer (some ⟨g, 0, none⟩), .int .i64 a] w fun e w' => e = .returned (.pointer none) ∧ w' = w := by
  have c1 : decide (0 ≤ a ∧ a < 10) = false := by unfold isAcc at ha; exact decide_eq_false ha
  have C1 := Lib.hid c1
  clear c1 ha
  go_enter Tryz.func68, Tryz.ntmps68
  go_wp2_with (first | (go_at_call 60; refine (bound_Account _ _).mono ?_; rw [C1.out]; rintro e w' ⟨rfl, rfl⟩) | fail)
  exact bodyPost_ret (v := .pointer none) (by simp [results, Tryz.results68, go_sem]) rfl ⟨rfl, rfl⟩
theorem ledger_account_nil (a : Int) (w : World) : Calls Tryz.prog 68 #[.pointer none, .int .i64 a] w fun e w' => e = .returned (.pointer none) ∧ w' = w := by
  go_enter Tryz.func68, Tryz.ntmps68
  go_wp2
  exact bodyPost_ret (v := .pointer none) (by simp [results, Tryz.results68, go_sem]) rfl ⟨rfl, rfl⟩
def accOf (A : Acc) (a : Int) : Int × Int := if isAcc a then A a.toNat else (0, 0)
theorem ledger_Free {N g gl : Nat} {A : Acc} {M : Cls Int} {w : World} (h : LdAt N g gl A M w) (a : Int) : Calls Tryz.prog 48 #[.pointer (some ⟨g, 0, none⟩), .int .i64 a] w fun e w' => e = .returned (.int .i64 (accOf A a).1) ∧ w' = w := by
  by_cases ha : isAcc a
  · rw [accOf, if_pos ha]
    obtain ⟨k, rfl, hk⟩ := isAcc_nat ha
    have hc := h.free hk
    rw [Int.toNat_natCast]
    obtain ⟨v, hv⟩ : ∃ v, v = (A k).1 := ⟨_, rfl⟩
    rw [← hv] at hc ⊢
    clear hv h ha
    have HK := Lib.hid hk
    clear hk
    go_enter Tryz.func48, Tryz.ntmps48
    go_wp2_with (first | (go_at_call 68; refine (ledger_account HK.out w).mono ?_; rintro e w' ⟨rfl, rfl⟩) | fail)
    exact bodyPost_ret (v := .int .i64 v) (by simp [results, Tryz.results48, go_sem]) rfl ⟨rfl, rfl⟩
  · rw [accOf, if_neg ha]
    have HA := Lib.hid ha
    clear h ha
    go_enter Tryz.func48, Tryz.ntmps48
    go_wp2_with (first | (go_at_call 68; refine (ledger_account_no HA.out w).mono ?_; rintro e w' ⟨rfl, rfl⟩) | fail)
    exact bodyPost_ret (v := .int .i64 0) (by simp [results, Tryz.results48, go_sem]) rfl ⟨rfl, rfl⟩
theorem ledger_Free_nil (a : Int) (w : World) : Calls Tryz.prog 48 #[.pointer none, .int .i64 a] w fun e w' => e = .returned (.int .i64 0) ∧ w' = w := by
  go_enter Tryz.func48, Tryz.ntmps48
  go_wp2_with (first | (go_at_call 68; refine (ledger_account_nil a w).mono ?_; rintro e w' ⟨rfl, rfl⟩) | fail)
  exact bodyPost_ret (v := .int .i64 0) (by simp [results, Tryz.results48, go_sem]) rfl ⟨rfl, rfl⟩
end Go.Proofs.YteioacpfphigjaaGreatDoor
end

section
namespace Go.Proofs.YteioacpfphigjaaGreatDoor
open Go.RowKit Go.Maps
set_option linter.unusedVariables false
set_option linter.unusedSimpArgs false

section
variable {P : Program} {α : Type}
theorem range_outerF1 {n : Nat} {g : Operand} {ps : Array Tmp} {assign body : Code} {id : Nat} {Q0 : Exit → Act → World → Prop} {a : Act} {w : World} {gf : Nat} {lb : Array Value} (hg : a.eval g = .func (.func gf) #[] lb) (eg : ∀ args w, (callFunc gf args).run P w = .ok (.enter gf args) w)
    {encs : α → Array Value} {xs : List α} {G : FP} {w0 : World} (hit : IterF P n gf lb encs xs G w0) (hg0 : Grow w0 w) (hG : ∀ k, G k → k < w0.heap.size ∧ w.heap[k]? = w0.heap[k]?) (hps : ∀ x, (encs x).size = ps.size)
    (Ψ : FP) (hΨ : ∀ k, Ψ k → k < w.heap.size) (I : List α → FP → World → Prop) (Ix : Code → List α → FP → World → Prop) (hI : Stab w.heap.size I) (hIx : ∀ c, Stab w.heap.size (Ix c)) (h0 : I [] (fun _ => False) w) (a₁ : α → Act)
    (hassign : ∀ (l : Nat) (x : α) (W : World) (K : Act → World → Prop), K (a₁ x) W → assign.wpIn (Fence.wide.inRound l) n P (Exit.then K (fun _ _ _ => False)) { tmps := (ps.zip (encs x)).foldl (fun t (p, v) => t.setIfInBounds p v) a.tmps, defers := [] } W)
    (hbody : ∀ (l : Nat) (pre : List α) (x : α) (Φ : FP) (W : World), (pre ++ [x]) <+: xs → I pre Φ W → w.heap.size < l → (∀ k, Φ k → l + 1 ≤ k) → (∃ r, W.heap[l]? = some (.loop r)) → body.wpIn (Fence.wide.inRound l) n P (bodyI Ψ Φ I Ix (pre ++ [x]) W) (a₁ x) W)
    (Fin : FP → World → Prop) (hF1 : ∀ Φ W, I xs Φ W → Fin Φ W) (hF2 : ∀ c pre Φ W, pre <+: xs → Ix c pre Φ W → c = .exit id ∧ Fin Φ W)
    (hfin : ∀ (D : Nat) (Φ : FP) (W : World), Fin Φ W → Only Ψ (fun _ => False) w W → w.heap.size ≤ D → ¬ Φ D → W.heap[D]? = some (.deferred (some [])) → Exit.inBlock id Q0 .normal { a with defers := { target := .collected D, args := #[] } :: a.defers } W) :
    (Code.rangeFunc g ps assign body).wpIn Fence.wide (n + 2) P (Exit.inBlock id Q0) a w := by
  refine range_outerF hg eg hit hg0 hG hps Ψ hΨ I Ix hI hIx h0 a₁ hassign hbody (fun D Φ W h => hfin D Φ W (hF1 Φ W h)) ?_
  intro D Φ c pre W hpre hix hon hD hnD hK
  obtain ⟨rfl, hf⟩ := hF2 c pre Φ W hpre hix
  have h := hfin D Φ W hf hon hD hnD hK
  refine wpIn_exit ?_
  unfold Exit.inBlock at h ⊢
  simpa using h
theorem range_outerU {n : Nat} {g : Operand} {ps : Array Tmp} {assign body : Code} {id : Nat} {Q0 : Exit → Act → World → Prop} {a : Act} {w : World} {gf : Nat} {lb : Array Value} (hg : a.eval g = .func (.func gf) #[] lb) (eg : ∀ args w, (callFunc gf args).run P w = .ok (.enter gf args) w)
    {encs : α → Array Value} {xs : List α} {G : FP} {w0 : World} (hit : IterF P n gf lb encs xs G w0) (hg0 : Grow w0 w) (hG : ∀ k, G k → k < w0.heap.size ∧ w.heap[k]? = w0.heap[k]?) (hps : ∀ x, (encs x).size = ps.size)
    (Ψ : FP) (hΨ : ∀ k, Ψ k → k < w.heap.size) (I : List α → FP → World → Prop) (Ix : Code → List α → FP → World → Prop) (hI : Stab w.heap.size I) (hIx : ∀ c, Stab w.heap.size (Ix c)) (h0 : I [] (fun _ => False) w) (up : α → Array Value → Array Value)
    (hassign : ∀ (l : Nat) (x : α) (W : World) (K : Act → World → Prop), K { tmps := up x a.tmps, defers := [] } W → assign.wpIn (Fence.wide.inRound l) n P (Exit.then K (fun _ _ _ => False)) { tmps := (ps.zip (encs x)).foldl (fun t (p, v) => t.setIfInBounds p v) a.tmps, defers := [] } W)
    (hbody : ∀ (l : Nat) (pre : List α) (x : α) (Φ : FP) (W : World), (pre ++ [x]) <+: xs → I pre Φ W → w.heap.size < l → (∀ k, Φ k → l + 1 ≤ k) → (∃ r, W.heap[l]? = some (.loop r)) → body.wpIn (Fence.wide.inRound l) n P (bodyI Ψ Φ I Ix (pre ++ [x]) W) { tmps := up x a.tmps, defers := [] } W)
    (Fin : FP → World → Prop) (hF1 : ∀ Φ W, I xs Φ W → Fin Φ W) (hF2 : ∀ c pre Φ W, pre <+: xs → Ix c pre Φ W → c = .exit id ∧ Fin Φ W)
    (hfin : ∀ (D : Nat) (Φ : FP) (W : World), Fin Φ W → Only Ψ (fun _ => False) w W → w.heap.size ≤ D → ¬ Φ D → W.heap[D]? = some (.deferred (some [])) → Exit.inBlock id Q0 .normal { a with defers := { target := .collected D, args := #[] } :: a.defers } W) :
    (Code.rangeFunc g ps assign body).wpIn Fence.wide (n + 2) P (Exit.inBlock id Q0) a w :=
  range_outerF1 hg eg hit hg0 hG hps Ψ hΨ I Ix hI hIx h0 (fun x => { tmps := up x a.tmps, defers := [] }) hassign hbody Fin hF1 hF2 hfin
end

/-- A cross: row 3 and column 3, k of each. -/
structure Cross (M : Cls Int) (k : Nat) : Prop where
  s : SrtC M
  m : ∀ a b v, ((a, b), v) ∈ M ↔ (a = 3 ∧ 0 ≤ b ∧ b < k ∧ v = b) ∨ (b = 3 ∧ 0 ≤ a ∧ a < k ∧ v = a)
  l : M.length ≤ 2 * k
theorem Cross.nil : Cross [] 0 := ⟨List.Pairwise.nil, fun a b v => by simp; omega, Nat.le_refl _⟩
theorem length_put_le {M : Cls Int} (h : SrtC M) (a b v : Int) : (cput M a b v).length ≤ M.length + 1 := by
  rw [h.length_put]; split <;> omega
theorem Cross.step {M : Cls Int} {k : Nat} (h : Cross M k) : Cross (cput (cput M 3 k k) k 3 k) (k + 1) := by
  refine ⟨(h.s.put _ _ _).put _ _ _, fun a b v => ?_, ?_⟩
  · rw [mem_cput, mem_cput, h.m a b v]
    simp only [ne_eq, Prod.mk.injEq]
    have e : ((k + 1 : Nat) : Int) = (k : Int) + 1 := by omega
    rw [e]
    constructor
    · rintro (⟨⟨rfl, rfl⟩, rfl⟩ | ⟨⟨⟨rfl, rfl⟩, rfl⟩ | ⟨h, h1⟩, h2⟩) <;> omega
    · intro h
      by_cases e1 : a = k ∧ b = 3
      · left; omega
      · right
        refine ⟨?_, e1⟩
        by_cases e2 : a = 3 ∧ b = k
        · left; omega
        · right
          refine ⟨?_, e2⟩
          omega
  · have h1 := length_put_le h.s 3 k k
    have h2 := length_put_le (h.s.put 3 k k) k 3 k
    have := h.l
    omega
def diag (n : Nat) : List (Int × Int) := (List.range n).map (fun i : Nat => ((i : Int), (i : Int)))
theorem diag_len (n : Nat) : (diag n).length = n := by simp [diag]
theorem diag_at {n k : Nat} (h : k < (diag n).length) : (diag n)[k] = ((k : Int), (k : Int)) := by simp [diag]
theorem diag_srt (n : Nat) : SrtK (diag n) := by
  refine List.pairwise_map.2 (List.Pairwise.imp ?_ List.pairwise_lt_range)
  intro a b h
  show (a : Int) < (b : Int)
  omega
theorem mem_diag {n : Nat} {x : Int × Int} : x ∈ diag n ↔ 0 ≤ x.1 ∧ x.1 < n ∧ x.2 = x.1 := by
  simp only [diag, List.mem_map, List.mem_range]
  constructor
  · rintro ⟨i, hi, rfl⟩
    exact ⟨by show (0:Int) ≤ (i : Int); omega, by show (i : Int) < n; omega, rfl⟩
  · rintro ⟨h1, h2, h3⟩
    refine ⟨x.1.toNat, by omega, ?_⟩
    apply Prod.ext
    · show ((x.1.toNat : Nat) : Int) = x.1; omega
    · show ((x.1.toNat : Nat) : Int) = x.2; omega
theorem Cross.row {M : Cls Int} {k : Nat} (h : Cross M k) : rowOf M 3 = diag k :=
  (h.s.row 3).ext (diag_srt k) (fun x => by rw [mem_rowOf, mem_diag, h.m]; omega)
theorem Cross.col {M : Cls Int} {k : Nat} (h : Cross M k) : colOf M 3 = diag k :=
  (h.s.col 3).ext (diag_srt k) (fun x => by rw [mem_colOf, mem_diag, h.m]; omega)
/-- A prefix of the diagonal. -/
theorem diag_pre {n : Nat} {pre : List (Int × Int)} {x : Int × Int} (h : (pre ++ [x]) <+: diag n) : x = ((pre.length : Int), (pre.length : Int)) ∧ pre.length < n := by
  have hl := h.length_le
  rw [List.length_append, List.length_singleton, diag_len] at hl
  obtain ⟨t, ht⟩ := h
  have e : (diag n)[pre.length]? = some x := by
    rw [← ht, List.append_assoc, List.getElem?_append_right (Nat.le_refl _), Nat.sub_self]
    rfl
  have hk : pre.length < (diag n).length := by rw [diag_len]; omega
  have e2 := List.getElem?_eq_getElem hk
  rw [e, diag_at hk] at e2
  exact ⟨Option.some.inj e2, by omega⟩
/-- What such a loop holds: the limit in its box, the count in its own. -/
structure StpI (N0 sb jb t j : Nat) (Φ : FP) (W : World) : Prop where
  bs : Boxed W sb 3 (.int .i64 (t : Nat))
  bj : Boxed W jb 3 (.int .i64 (j : Nat))
  no : ∀ k, ¬ Φ k
  sz : N0 ≤ W.heap.size
theorem StpI.keep {N0 sb jb t j : Nat} {Φ : FP} {W W' : World} (h : StpI N0 sb jb t j Φ W) (h1 : sb < N0) (h2 : jb < N0) (hg : Grow W W') (hk : ∀ k, (k < N0 ∨ Φ k) → W'.heap[k]? = W.heap[k]?) : StpI N0 sb jb t j Φ W' :=
  ⟨(hk sb (.inl h1)).trans h.bs, (hk jb (.inl h2)).trans h.bj, h.no, Nat.le_trans h.sz hg.size⟩
def StpA (N0 sb jb t : Nat) (pre : List (Int × Int)) (Φ : FP) (W : World) : Prop := pre.length < t ∧ StpI N0 sb jb t pre.length Φ W
def StpX (id N0 sb jb t : Nat) (c : Code) (pre : List (Int × Int)) (Φ : FP) (W : World) : Prop := c = .exit id ∧ pre.length = t ∧ StpI N0 sb jb t pre.length Φ W
theorem StpA.stab {N0 sb jb t : Nat} (h1 : sb < N0) (h2 : jb < N0) : Stab N0 (StpA N0 sb jb t) := by
  rintro pre Φ W ⟨h0, h⟩
  exact ⟨fun k hk => (h.no k hk).elim, h.sz, fun W' hg hk => ⟨h0, h.keep h1 h2 hg hk⟩⟩
theorem StpX.stab {id N0 sb jb t : Nat} (h1 : sb < N0) (h2 : jb < N0) (c : Code) : Stab N0 (StpX id N0 sb jb t c) := by
  rintro pre Φ W ⟨h0, h01, h⟩
  exact ⟨fun k hk => (h.no k hk).elim, h.sz, fun W' hg hk => ⟨h0, h01, h.keep h1 h2 hg hk⟩⟩
/-- One more. -/
theorem StpI.step {N0 sb jb t j : Nat} {Φ : FP} {W : World} (h : StpI N0 sb jb t j Φ W) (hne : sb ≠ jb) (j1 : Nat) :
    StpI N0 sb jb t j1 Φ (W.setCell ⟨jb, 0, none⟩ (.int .i64 (j1 : Nat))) ∧ Only (fun k => k = jb) Φ W (W.setCell ⟨jb, 0, none⟩ (.int .i64 (j1 : Nat))) :=
  ⟨⟨(Below.heap_setCell _ _ _ sb hne).trans h.bs, h.bj.set _, h.no, by rw [show (W.setCell ⟨jb, 0, none⟩ (.int .i64 (j1 : Nat))).heap.size = W.heap.size by simp [World.setCell]]; exact h.sz⟩,
    ⟨⟨rfl, rfl, rfl, by simp [World.setCell]⟩, fun k hk h1 h2 => Below.heap_setCell _ _ _ k h1⟩⟩
end Go.Proofs.YteioacpfphigjaaGreatDoor
end

section
namespace Go.Proofs.YteioacpfphigjaaGreatDoor
open Go.RowKit Go.Maps Go.Shelf
attribute [local go_sem] Oper.semAt_some
set_option linter.unusedVariables false
set_option linter.unusedSimpArgs false

theorem wpl_index {P : Program} {w : World} {ops : Array Oper} {rest : List Oper} {o : Oper} {a : Act} {Q : Exit → Act → World → Prop} (hg : o.guard = none) (x i : Operand) (t : TypeId) (hop : o.op = Op.index t x i) {xv iv r : Value} (hx : a.eval x = xv) (hi : a.eval i = iv) (hr : (Instr.index t xv iv).run P w = .ok r w)
    (h : wpList P ops Q rest (a.put o.dst r) w) : wpList P ops Q (o :: rest) a w := by
  refine wpList_plain hg fun K hK => ?_
  unfold Oper.wp
  simp [execOp, hop, hx, hi, hr, Result.andThen]
  exact hK _ _ h
theorem accInfo : (Tryz.prog.info? 112).map (·.size) = some 20 := by kernel_rfl
theorem acc1Info : (Tryz.prog.info? 111).map (·.size) = some 2 := by kernel_rfl
theorem run_acc0 (A : Acc) (w : World) : (Instr.index 112 (.agg (accs A 10).toArray) (.int .i64 0)).run Tryz.prog w = .ok (.agg #[.int .i64 (A 0).1, .int .i64 (A 0).2]) w := by kernel_rfl
theorem run_acc1 (A : Acc) (w : World) : (Instr.index 112 (.agg (accs A 10).toArray) (.int .i64 1)).run Tryz.prog w = .ok (.agg #[.int .i64 (A 1).1, .int .i64 (A 1).2]) w := by kernel_rfl
theorem run_acc2 (A : Acc) (w : World) : (Instr.index 112 (.agg (accs A 10).toArray) (.int .i64 2)).run Tryz.prog w = .ok (.agg #[.int .i64 (A 2).1, .int .i64 (A 2).2]) w := by kernel_rfl
theorem run_acc3 (A : Acc) (w : World) : (Instr.index 112 (.agg (accs A 10).toArray) (.int .i64 3)).run Tryz.prog w = .ok (.agg #[.int .i64 (A 3).1, .int .i64 (A 3).2]) w := by kernel_rfl
theorem run_acc4 (A : Acc) (w : World) : (Instr.index 112 (.agg (accs A 10).toArray) (.int .i64 4)).run Tryz.prog w = .ok (.agg #[.int .i64 (A 4).1, .int .i64 (A 4).2]) w := by kernel_rfl
theorem run_acc5 (A : Acc) (w : World) : (Instr.index 112 (.agg (accs A 10).toArray) (.int .i64 5)).run Tryz.prog w = .ok (.agg #[.int .i64 (A 5).1, .int .i64 (A 5).2]) w := by kernel_rfl
theorem run_acc6 (A : Acc) (w : World) : (Instr.index 112 (.agg (accs A 10).toArray) (.int .i64 6)).run Tryz.prog w = .ok (.agg #[.int .i64 (A 6).1, .int .i64 (A 6).2]) w := by kernel_rfl
theorem run_acc7 (A : Acc) (w : World) : (Instr.index 112 (.agg (accs A 10).toArray) (.int .i64 7)).run Tryz.prog w = .ok (.agg #[.int .i64 (A 7).1, .int .i64 (A 7).2]) w := by kernel_rfl
theorem run_acc8 (A : Acc) (w : World) : (Instr.index 112 (.agg (accs A 10).toArray) (.int .i64 8)).run Tryz.prog w = .ok (.agg #[.int .i64 (A 8).1, .int .i64 (A 8).2]) w := by kernel_rfl
theorem run_acc9 (A : Acc) (w : World) : (Instr.index 112 (.agg (accs A 10).toArray) (.int .i64 9)).run Tryz.prog w = .ok (.agg #[.int .i64 (A 9).1, .int .i64 (A 9).2]) w := by kernel_rfl
theorem run_acc (A : Acc) {k : Nat} (hk : k < 10) (w : World) : (Instr.index 112 (.agg (accs A 10).toArray) (.int .i64 (k : Int))).run Tryz.prog w = .ok (.agg #[.int .i64 (A k).1, .int .i64 (A k).2]) w :=
  match k, hk with
  | 0, _ => run_acc0 A w
  | 1, _ => run_acc1 A w
  | 2, _ => run_acc2 A w
  | 3, _ => run_acc3 A w
  | 4, _ => run_acc4 A w
  | 5, _ => run_acc5 A w
  | 6, _ => run_acc6 A w
  | 7, _ => run_acc7 A w
  | 8, _ => run_acc8 A w
  | 9, _ => run_acc9 A w
set_option maxRecDepth 100000 in
set_option maxHeartbeats 1000000 in
theorem ledger_Issued {N g gl : Nat} {A : Acc} {M : Cls Int} {w : World} (h : LdAt N g gl A M w) : Calls Tryz.prog 27 #[.pointer (some ⟨g, 0, none⟩)] w fun e w' => e = .returned (.int .i64 (sumTo A 10)) ∧ Below w.heap.size w w' := by
  have hrg : w.rangeAt g 0 (accs A 10) := fun i v hv => by
    have hl := accs_len A 10
    have hi := (List.getElem?_eq_some_iff.1 hv).1
    rw [Nat.zero_add]
    refine cell_of h.blk ?_
    unfold lcells
    rw [List.getElem?_append_left hi]; exact hv
  have hok := h.ok
  obtain ⟨cs, hcs⟩ : ∃ cs, cs = (accs A 10).toArray := ⟨_, rfl⟩
  have hix := fun (k : Nat) (hk : k < 10) (w : World) => run_acc A hk w
  rw [← hcs] at hix
  have HRG := Lib.hid hrg
  have HIX := Lib.hid hix
  have HOK := Lib.hid hok
  have HCS := Lib.hid hcs
  clear h hrg hix hok hcs
  go_enter Tryz.func27, Tryz.ntmps27
  go_wp2_with (first
    | (refine wpList_load_mid rfl 112 _ rfl g 0 rfl (accs A 10) _ HRG.out Tryz.underlying112 rfl (by rw [accs_len]; exact accInfo) ?_; rw [← HCS.out])
    | fail)
  have tok1 : True := trivial
  go_loopw [3, 12] (fun s i wr => ∃ k : Nat, k ≤ 10 ∧ i = .int .i64 k ∧ s = .int .i64 (sumTo A k) ∧ Below w.heap.size w wr) (fun _ i _ => 10 - (intOf i).toNat)
  case atStart => exact ⟨0, by omega, rfl, rfl, Below.refl _ w⟩
  case round =>
    obtain ⟨k, hk, rfl, rfl, hb⟩ := hrel
    have HB := Lib.hid hb
    clear hb
    by_cases hlt : k < 10
    · have hlt' : (k : Int) < 10 := by omega
      obtain ⟨p, hp⟩ : ∃ p, p = (A k).1 := ⟨_, rfl⟩
      obtain ⟨q, hq⟩ : ∃ q, q = (A k).2 := ⟨_, rfl⟩
      obtain ⟨s0, hs0⟩ : ∃ s0, s0 = sumTo A k := ⟨_, rfl⟩
      have hix := HIX.out k hlt
      rw [← hp, ← hq] at hix
      have HI := Lib.hid hix
      have hn1 : IntKind.i64.wrap (p + q) = p + q := IntWalk.i64_in _ (by have := HOK.out.one hlt; have := HOK.out.free k; have := HOK.out.held k; unfold both at *; omega)
      have hn2 : IntKind.i64.wrap (s0 + (p + q)) = s0 + (p + q) := IntWalk.i64_in _ (by have := HOK.out.one hlt; have := HOK.out.sum k; have := HOK.out.part (n := k) (by omega); unfold both at *; omega)
      have hs1 : sumTo A (k + 1) = s0 + (p + q) := by rw [sumTo, hs0, hp, hq]; rfl
      have HS1 := Lib.hid hs1
      rw [← hs0]
      clear hix hs1 hp hq hs0
      go_wp2_with (first
        | (refine wpl_index rfl _ _ _ rfl rfl rfl (HI.out _) ?_)
        | fail)
      go_roundw
      case rel => exact ⟨k + 1, by omega, by go_num, by rw [HS1.out], HB.out.trans ((Below.refl _ wr).alloc (Nat.le_refl _) _ |>.mono HB.out.size)⟩
      case measure => simp [intOf]; omega
    · have hge : ¬ (k : Int) < 10 := by omega
      obtain rfl : k = 10 := by omega
      go_wp2_with fail
      exact bodyPost_ret (v := .int .i64 (sumTo A 10)) (by simp [results, Tryz.results27, go_sem]) rfl ⟨rfl, HB.out⟩
end Go.Proofs.YteioacpfphigjaaGreatDoor
end

section
namespace Go.Proofs.YteioacpfphigjaaGreatDoor
open Go.RowKit Go.Maps Go.Shelf
attribute [local go_sem] Oper.semAt_some
set_option linter.unusedVariables false
set_option linter.unusedSimpArgs false

theorem marks_leave {F : Fence} {n : Nat} {P : Program} {fn : Func} {tmps : Array Value} {R : Ending → World → Prop} : ∀ (Ds : List Nat) (w : World), Ds.Nodup → (∀ D ∈ Ds, w.heap[D]? = some (.deferred (some []))) →
    (∀ w', Grow w w' → (∀ k, k ∉ Ds → w'.heap[k]? = w.heap[k]?) → LeavesIn F n P fn tmps R [] .returning w') → LeavesInM F n P fn tmps R (Ds.map fun D => { target := .collected D, args := #[] }) .returning w
  | [], w, _, _, h => h w (Grow.refl w) (fun _ _ => rfl)
  | D :: Ds, w, hn, hd, h => by
    have hn' := List.nodup_cons.1 hn
    refine ⟨by simp, .inl ⟨D, _, rfl, run_takeDeferred (hd D (by simp)), ?_⟩⟩
    refine marks_leave Ds _ hn'.2 (fun D' hD' => ?_) (fun w' hg hk => h w' ((put_grow w D _).trans hg) (fun k hk' => ?_))
    · rw [put_other (fun e => hn'.1 (by rw [← e]; exact hD'))]
      exact hd D' (List.mem_cons_of_mem _ hD')
    · simp only [List.mem_cons, not_or] at hk'
      rw [hk k hk'.2, put_other hk'.1]
theorem RoundIn.inAny {n m l lp : Nat} {P : Program} {fn : FuncId} {tm : Array Value} {asg bd : Code} {W : World} {R : Ending → World → Prop} (h : RoundIn Fence.wide n P lp fn tm asg bd W R) : RoundIn (Fence.wide.inRound l) m P lp fn tm asg bd W R :=
  ⟨trivial, fun c cs _ => h.2 c cs (room_wide _)⟩
/-- The loops behind. -/
def Marks (lo : Nat) (ds : List Deferred) (Φ : FP) (w : World) : Prop :=
  ∃ Ds : List Nat, ds = Ds.map (fun D => { target := .collected D, args := #[] }) ∧ Ds.Nodup ∧ ∀ D ∈ Ds, lo ≤ D ∧ ¬ Φ D ∧ w.heap[D]? = some (.deferred (some []))
theorem Marks.nil (lo : Nat) (Φ : FP) (w : World) : Marks lo [] Φ w := ⟨[], rfl, List.nodup_nil, fun D h => by cases h⟩
theorem Marks.lt {lo : Nat} {ds : List Deferred} {Φ : FP} {w : World} (h : Marks lo ds Φ w) : True := trivial
theorem Marks.step {lo : Nat} {ds : List Deferred} {Φ Φ' : FP} {w w' : World} (h : Marks lo ds Φ w) {D : Nat} (hlo : lo ≤ D) (hD : w.heap.size ≤ D) (hnD : ¬ Φ' D) (hK : w'.heap[D]? = some (.deferred (some [])))
    (hk : ∀ k, k < w.heap.size → lo ≤ k → ¬ Φ k → w'.heap[k]? = w.heap[k]?) (hΦ : ∀ k, Φ' k → Φ k ∨ w.heap.size ≤ k) : Marks lo ({ target := .collected D, args := #[] } :: ds) Φ' w' := by
  obtain ⟨Ds, rfl, hn, hd⟩ := h
  have hlt : ∀ D' ∈ Ds, D' < w.heap.size := fun D' hD' => (Array.getElem?_eq_some_iff.1 (hd D' hD').2.2).1
  refine ⟨D :: Ds, rfl, List.nodup_cons.2 ⟨fun hm => by have := hlt D hm; omega, hn⟩, fun D' hD' => ?_⟩
  rcases List.mem_cons.1 hD' with rfl | hm
  · exact ⟨hlo, hnD, hK⟩
  · obtain ⟨h1, h2, h3⟩ := hd D' hm
    exact ⟨h1, fun hp => (hΦ D' hp).elim h2 (fun h => by have := hlt D' hm; omega), (hk D' (hlt D' hm) h1 h2).trans h3⟩
/-- One row's cells. -/
def cellsOf (M : Cls Int) (a : Int) : Cls Int := (rowOf M a).map (fun x => ((a, x.1), x.2))
def upTo (M : Cls Int) (ks : List Int) : Cls Int := ks.flatMap (cellsOf M)
theorem upTo_snoc (M : Cls Int) (ks : List Int) (a : Int) : upTo M (ks ++ [a]) = upTo M ks ++ cellsOf M a := by simp [upTo]
theorem cellsOf_take {M : Cls Int} {a : Int} {pre : List (Int × Int)} {x : Int × Int} (h : pre ++ [x] <+: rowOf M a) : pre.map (fun y => ((a, y.1), y.2)) ++ [((a, x.1), x.2)] <+: cellsOf M a := by
  obtain ⟨t, ht⟩ := h
  refine ⟨t.map (fun y => ((a, y.1), y.2)), ?_⟩
  unfold cellsOf
  rw [← ht]
  simp
/-- .. where it was left. -/
def CelX (Φ0 : FP) (base : Nat) (a : Int) (Jx : Cls Int → FP → World → Prop) (done : Cls Int) (c : Code) (pre : List (Int × Int)) (Φ : FP) (W' : World) : Prop :=
  c = .ret ∧ ∃ Φo, Jx (done ++ pre.map (fun y => ((a, y.1), y.2))) Φo W' ∧ (∀ k, Φo k → Φ0 k ∨ base ≤ k) ∧ (∀ k, Φ k ↔ Φo k ∧ base ≤ k) ∧ base ≤ W'.heap.size
theorem CelX.stab {B base : Nat} {Φ0 : FP} {a : Int} {J : Cls Int → FP → World → Prop} {done : Cls Int} (hJ : Stab B J) (hB : B ≤ base) (c : Code) : Stab base (CelX Φ0 base a J done c) := by
  rintro pre Φ W' ⟨hcc, Φo, hj, ho, hi, hs⟩
  obtain ⟨h1, h2, h3⟩ := hJ _ _ _ hj
  refine ⟨fun k hk => ⟨((hi k).1 hk).2, (h1 k ((hi k).1 hk).1).2⟩, hs, fun W'' hg hk => ⟨hcc, Φo, h3 W'' hg (fun k hk' => ?_), ho, hi, Nat.le_trans hs hg.size⟩⟩
  rcases hk' with h | h
  · exact hk k (.inl (by omega))
  · by_cases hb : k < base
    · exact hk k (.inl hb)
    · exact hk k (.inr ((hi k).2 ⟨h, by omega⟩))

end Go.Proofs.YteioacpfphigjaaGreatDoor
end

section
namespace Go.Proofs.YteioacpfphigjaaGreatDoor
open Go.RowKit Go.Maps Go.Shelf
attribute [local go_sem] Oper.semAt_some
set_option linter.unusedVariables false
set_option linter.unusedSimpArgs false

section
variable {P : Program} {α : Type}
/-- A range that is never left, whatever stands in the frame. -/
theorem range_outerV {n : Nat} {g : Operand} {ps : Array Tmp} {assign body : Code} {Q : Exit → Act → World → Prop} {a : Act} {w : World} {gf : Nat} {lb : Array Value} (hg : a.eval g = .func (.func gf) #[] lb) (eg : ∀ args w, (callFunc gf args).run P w = .ok (.enter gf args) w)
    {encs : α → Array Value} {xs : List α} {G : FP} {w0 : World} (hit : IterF P n gf lb encs xs G w0) (hg0 : Grow w0 w) (hG : ∀ k, G k → k < w0.heap.size ∧ w.heap[k]? = w0.heap[k]?) (hps : ∀ x, (encs x).size = ps.size)
    (Ψ : FP) (hΨ : ∀ k, Ψ k → k < w.heap.size) (I : List α → FP → World → Prop) (hI : Stab w.heap.size I) (h0 : I [] (fun _ => False) w) (up : α → Array Value → Array Value)
    (hassign : ∀ (l : Nat) (x : α) (W : World) (K : Act → World → Prop), K { tmps := up x a.tmps, defers := [] } W → assign.wpIn (Fence.wide.inRound l) n P (Exit.then K (fun _ _ _ => False)) { tmps := (ps.zip (encs x)).foldl (fun t (p, v) => t.setIfInBounds p v) a.tmps, defers := [] } W)
    (hbody : ∀ (l : Nat) (pre : List α) (x : α) (Φ : FP) (W : World), (pre ++ [x]) <+: xs → I pre Φ W → w.heap.size < l → (∀ k, Φ k → l + 1 ≤ k) → (∃ r, W.heap[l]? = some (.loop r)) → body.wpIn (Fence.wide.inRound l) n P (bodyI Ψ Φ I (fun _ _ _ _ => False) (pre ++ [x]) W) { tmps := up x a.tmps, defers := [] } W)
    (hdone : ∀ (D : Nat) (Φ : FP) (W : World), I xs Φ W → Only Ψ (fun _ => False) w W → w.heap.size ≤ D → ¬ Φ D → W.heap[D]? = some (.deferred (some [])) → Q .normal { a with defers := { target := .collected D, args := #[] } :: a.defers } W) :
    (Code.rangeFunc g ps assign body).wpIn Fence.wide (n + 2) P Q a w :=
  range_outerF hg eg hit hg0 hG hps Ψ hΨ I (fun _ _ _ _ => False) hI (fun c _ _ _ h => h.elim) h0 (fun x => { tmps := up x a.tmps, defers := [] }) hassign hbody hdone (fun D Φ c pre W _ h => h.elim)
end

set_option maxRecDepth 100000 in
theorem ledger_row {N g gl : Nat} {A : Acc} {M : Cls Int} {w : World} (h : LdAt N g gl A M w) {a : Int} (ha : (Lit.int .i64 a).wf = true) : Calls Tryz.prog 202 #[.pointer (some ⟨g, 0, none⟩), .int .i64 a] w fun e w' => ∃ f, e = .returned f ∧ Way Tryz.prog encs_I f (rowOf M a) w' ∧ Below w.heap.size w w' := by
  have hp := h.ptr
  obtain ⟨F, hF, -⟩ := h.gr
  have HF := Lib.hid (And.intro hF (And.intro h.len ha))
  clear h hF ha
  go_enter Tryz.func202, Tryz.ntmps202
  go_wp2_with (first | (go_at_call 241; refine (grid_Row_I HF.out.1 (by have := HF.out.2.1; omega) HF.out.2.2).mono ?_; rintro e w' ⟨f, rfl, hw, hb⟩; have HW := Lib.hid (And.intro hw hb); clear hw hb) | fail)
  go_ret
  exact ⟨_, rfl, HW.out⟩
theorem ledger_row_nil (a : Int) (w : World) : Calls Tryz.prog 202 #[.pointer none, .int .i64 a] w fun e w' => ∃ f, e = .returned f ∧ Way Tryz.prog encs_I f [] w' ∧ Below w.heap.size w w' := by
  go_enter Tryz.func202, Tryz.ntmps202
  go_wp2_with (first | (go_at_call 241; refine (grid_Row_nil_I a w).mono ?_; rintro e w' ⟨f, rfl, hw, hb⟩; have HW := Lib.hid (And.intro hw hb); clear hw hb) | fail)
  go_ret
  exact ⟨_, rfl, HW.out⟩

/-- What Locked's range holds. -/
def LckJ (N0 gb : Nat) (pre : List (Int × Int)) (Φ : FP) (W : World) : Prop := (∀ k, ¬ Φ k) ∧ Boxed W gb 3 (.int .i64 (maxTo pre)) ∧ N0 ≤ W.heap.size
theorem LckJ.stab {N0 gb : Nat} (h1 : gb < N0) : Stab N0 (LckJ N0 gb) := by
  rintro pre Φ W ⟨h0, h, hs⟩
  exact ⟨fun k hk => (h0 k hk).elim, hs, fun W' hg hk => ⟨h0, (hk gb (.inl h1)).trans h, Nat.le_trans hs hg.size⟩⟩
set_option maxHeartbeats 4000000 in
set_option maxRecDepth 100000 in
theorem locked_of (l : Value) (a : Int) (xs : List (Int × Int)) (w : World) (hrow : ∀ w', Below w.heap.size w w' → Calls Tryz.prog 202 #[l, .int .i64 a] w' fun e w'' => ∃ f, e = .returned f ∧ Way Tryz.prog encs_I f xs w'' ∧ Below w'.heap.size w' w'') :
    Calls Tryz.prog 143 #[l, .int .i64 a] w fun e w' => e = .returned (.int .i64 (maxTo xs)) ∧ Below w.heap.size w w' := by
  refine (callsIn_wide (n := 2)).1 ?_
  refine callsIn_of_wp_marks Tryz.func143 rfl trivial ?_ rfl
  simp only [Tryz.ntmps143, List.size_toArray, List.length_cons, List.length_nil, Nat.reduceAdd, Nat.reduceSub, Array.replicate_succ, Array.replicate_zero, List.push_toArray, List.append_toArray, List.nil_append, List.cons_append]
  have HROW := Lib.hid hrow
  clear hrow
  obtain ⟨w1, hw1⟩ : ∃ w1, w1 = w.alloc (.cells #[.int .i64 0] 3) := ⟨_, rfl⟩
  have hb1 : Below w.heap.size w w1 := by rw [hw1]; exact (Below.refl _ w).alloc (Nat.le_refl _) _
  have x0 : Boxed w1 w.heap.size 3 (.int .i64 0) := by rw [hw1]; exact Boxed.new w _ _
  have hs1 : w1.heap.size = w.heap.size + 1 := by rw [hw1]; simp
  have HW1 := Lib.hid hw1
  have H1 := Lib.hid (And.intro hb1 (And.intro x0 hs1))
  clear hw1 hb1 x0 hs1
  gi_wp2_with (first
    | (refine ⟨trivial, ?_⟩; gi_at_call 202; rw [← HW1.out]; refine (callsIn_wide.2 (HROW.out w1 H1.out.1)).mono ?_; rintro e w2 ⟨f, rfl, hway, hb⟩; obtain ⟨gf, lb, rfl, hit⟩ := hway; have H2 := Lib.hid (And.intro hit hb); clear hit hb)
    | fail)
  obtain ⟨gb, hgb⟩ : ∃ gb, gb = w.heap.size := ⟨_, rfl⟩
  obtain ⟨hb1, x0, hs1⟩ := H1.out
  rw [← hgb] at x0 hs1 ⊢
  obtain ⟨hit, hb2⟩ := H2.out
  have x2 : Boxed w2 gb 3 (.int .i64 (maxTo [])) := (hb2.block gb (by omega)).trans x0
  have hs2 := hb2.size
  have hgl : gb < w2.heap.size := by omega
  have HGB := Lib.hid hgb
  clear hgb
  refine range_outerV (n := 0) (gf := gf) (lb := lb) rfl hit.1 (hit.2 0) (Grow.refl w2) (fun k hk => ⟨hk, rfl⟩) (fun _ => rfl)
    (fun k => k = gb) (by rintro k rfl; exact hgl) (LckJ w2.heap.size gb) (LckJ.stab hgl) ⟨fun _ h => h, x2, Nat.le_refl _⟩
    (fun x T => ((T.setIfInBounds 11 (.int .i64 x.1)).setIfInBounds 12 (.int .i64 x.2)).setIfInBounds 7 (.int .i64 x.2)) ?assign ?body ?done
  case assign =>
    intro l x W K hK
    simp only [encs_I]
    gi_wp2
    exact hK
  case body =>
    rintro l pre x Φ W hpx ⟨hno, hbx, hsz⟩ hl hΦ -
    have c1 := hbx.cell
    have f1 := hbx.frozen
    have hset : Boxed (W.setCell ⟨gb, 0, none⟩ (.int .i64 (max (maxTo pre) x.2))) gb 3 (.int .i64 (max (maxTo pre) x.2)) := hbx.set _
    obtain ⟨m, hm⟩ : ∃ m, m = maxTo pre := ⟨_, rfl⟩
    obtain ⟨y, hy⟩ : ∃ y, y = x.2 := ⟨_, rfl⟩
    rw [← hm] at c1 hset
    rw [← hy] at hset ⊢
    have hmx : maxTo (pre ++ [x]) = max m y := by rw [maxTo_snoc, hm, hy]
    have HS := Lib.hid (And.intro hset (And.intro hno (And.intro hsz hmx)))
    clear hbx hset hno hsz hmx hm hy
    gi_wp2_with fail
    obtain ⟨hset, hno, hsz, hmx⟩ := HS.out
    exact ⟨Φ, fun k h => .inl h, ⟨grow_set, fun k hk h1 h2 => Below.heap_setCell _ _ _ k h1⟩, hno, by rw [hmx]; exact hset, by simp [World.setCell]; exact hsz⟩
  case done =>
    rintro D Φ W3 ⟨hno, hbx, hsz⟩ hon hD hnD hK
    have c1 := hbx.cell
    have HD := Lib.hid (And.intro hno (And.intro hon (And.intro hD hK)))
    clear hno hbx hon hD hK hnD
    gi_wp2_with fail
    obtain ⟨hno, hon, hD, hK⟩ := HD.out
    have hgb := HGB.out
    refine marks_leave [D] W3 (by simp) (fun d hd => ?_) (fun w' hg hk => ⟨.int .i64 (maxTo xs), by simp [results, Tryz.results143, go_sem], rfl, ?_⟩)
    · simp only [List.mem_cons, List.not_mem_nil, or_false] at hd
      subst hd; exact hK
    · have hg0 : Grow w w' := ((Grow.of_below hb1).trans (Grow.of_below hb2)).trans (hon.grow.trans hg)
      refine ⟨hg0.os, hg0.tape, hg0.output, hg0.size, fun j hj => ?_⟩
      rw [hk j (by simp; omega), hon.block j (by omega) (by omega) (fun h => h), hb2.block j (by omega)]
      exact hb1.block j hj
theorem ledger_Locked {N g gl : Nat} {A : Acc} {M : Cls Int} {w : World} (h : LdAt N g gl A M w) {a : Int} (ha : (Lit.int .i64 a).wf = true) : Calls Tryz.prog 143 #[.pointer (some ⟨g, 0, none⟩), .int .i64 a] w fun e w' => e = .returned (.int .i64 (lockedOf M a)) ∧ Below w.heap.size w w' :=
  locked_of _ a (rowOf M a) w (fun w' hb => ledger_row (h.below hb) ha)
theorem ledger_Locked_nil (a : Int) (w : World) : Calls Tryz.prog 143 #[.pointer none, .int .i64 a] w fun e w' => e = .returned (.int .i64 0) ∧ Below w.heap.size w w' :=
  locked_of _ a [] w (fun w' hb => ledger_row_nil a w')
end Go.Proofs.YteioacpfphigjaaGreatDoor
end

section
namespace Go.Proofs.YteioacpfphigjaaGreatDoor
open Go.RowKit Go.Maps Go.Shelf
set_option linter.unusedVariables false
set_option linter.unusedSimpArgs false

theorem LdAt.drewd {N g gl : Nat} {A : Acc} {M : Cls Int} {w : World} (h : LdAt N g gl A M w) : LdAt N g gl A M w.drew := h.below (Below.refl _ w).drew
def spent (A : Acc) (M : Cls Int) (a n : Int) (back : Bool) : Acc := if spendE A M a n back = 0 then spendA A a n else A
set_option maxRecDepth 100000 in
set_option maxHeartbeats 4000000 in
theorem ledger_spend {N g gl : Nat} {A : Acc} {M : Cls Int} {w : World} (h : LdAt N g gl A M w) (hN : N ≤ w.heap.size) {a n : Int} (ha : (Lit.int .i64 a).wf = true) (back : Bool) :
    Calls Tryz.prog 69 #[.pointer (some ⟨g, 0, none⟩), .int .i64 a, .int .i64 n, .bool back] w fun e w' => e = .returned (.int .i64 (spendE A M a n back)) ∧ LdAt N g gl (spent A M a n back) M w' ∧ Below N w w' := by
  by_cases hac : isAcc a
  · obtain ⟨k, rfl, hk⟩ := isAcc_nat hac
    have HK := Lib.hid hk
    by_cases hbal : isBal n
    · have hbal' := hbal
      unfold isBal at hbal'
      have hd : decide (0 ≤ n ∧ n ≤ 1073741824) = true := decide_eq_true hbal'
      have HD := Lib.hid hd
      have hfree := h.free hk
      have hfroz := h.frozen (k * 2)
      obtain ⟨f, hf⟩ : ∃ f, f = (A k).1 := ⟨_, rfl⟩
      rw [← hf] at hfree
      have hf0 : 0 ≤ f := by rw [hf]; exact h.ok.free k
      have hf1 : f ≤ 1073741824 := by have := h.ok.one hk; have := h.ok.held k; unfold both at *; omega
      have HB := Lib.hid hbal'
      have HH := Lib.hid (And.intro h (And.intro hN (And.intro ha hac)))
      by_cases hlo : f < n
      · have e : spendE A M k n back = 6 := by unfold spendE; rw [if_neg (by simp [hac, hbal]), if_pos (by rw [Int.toNat_natCast, ← hf]; exact hlo)]
        have e2 : spent A M k n back = A := by unfold spent; rw [e]; rfl
        rw [e, e2]
        clear hk hac hbal hbal' hd h hN ha hf e e2
        go_enter Tryz.func69, Tryz.ntmps69
        go_wp2_with (first
          | (go_at_call 68; refine (ledger_account HK.out w).mono ?_; rintro e w' ⟨rfl, rfl⟩)
          | (go_at_call 61; refine (bound_Balance _ _).mono ?_; rw [HD.out]; rintro e w' ⟨rfl, rfl⟩)
          | fail)
        exact bodyPost_ret (v := .int .i64 6) (by simp [results, Tryz.results69, go_sem]) rfl ⟨rfl, HH.out.1, Below.refl _ _⟩
      · have hn1 : IntKind.i64.wrap (f - n) = f - n := IntWalk.i64_in _ (by omega)
        have hpay : ∀ w', LdAt N g gl A M w' → LdAt N g gl (spendA A k n) M (w'.setCell ⟨g, k * 2, none⟩ (.int .i64 (f - n))) ∧ Below N w' (w'.setCell ⟨g, k * 2, none⟩ (.int .i64 (f - n))) := fun w' h' => by
          have := h'.setFree hk (f - n) (by have := spendA_ok h.ok hac hbal (by rw [Int.toNat_natCast, ← hf]; omega); rw [spendA, Int.toNat_natCast, ← hf] at this; exact this)
          rw [spendA, Int.toNat_natCast, ← hf]; exact this
        have HP := Lib.hid hpay
        have hno : ¬ f < n := hlo
        have hspend : ∀ c : Bool, (0 < n ∧ back = false ∧ f - n < lockedOf M k ↔ c = true) → spendE A M k n back = if c then 7 else 0 := fun c hc => by
          unfold spendE
          rw [if_neg (by simp [hac, hbal]), Int.toNat_natCast, ← hf, if_neg hlo]
          cases c
          · rw [if_neg (by rw [hc]; simp)]; rfl
          · rw [if_pos (hc.2 rfl)]; rfl
        by_cases hn0 : 0 < n ∧ back = false
        · obtain ⟨hn0, rfl⟩ := hn0
          obtain ⟨lk, hlk⟩ : ∃ lk, lk = lockedOf M k := ⟨_, rfl⟩
          have hlck : ∀ w', LdAt N g gl A M w' → Calls Tryz.prog 143 #[.pointer (some ⟨g, 0, none⟩), .int .i64 k] w' fun e w'' => e = .returned (.int .i64 lk) ∧ Below w'.heap.size w' w'' := fun w' h' => by rw [hlk]; exact ledger_Locked h' ha
          have hld : LdAt N g gl A M w.drew := h.drewd
          have hfd : w.drew.cell? ⟨g, k * 2, none⟩ = some (.int .i64 f) := hfree
          have hwd : ∀ w2, Below w.drew.heap.size w.drew w2 → w2.cell? ⟨g, k * 2, none⟩ = some (.int .i64 f) ∧ (LdAt N g gl A M w2 ∧ Below N w w2) := fun w2 hb => by
            have h2 : LdAt N g gl A M w2 := h.below ⟨hb.os, hb.tape, hb.output, hb.size, hb.block⟩
            refine ⟨by rw [hf]; exact h2.free hk, h2, ⟨hb.os, hb.tape, hb.output, hb.size, fun j hj => hb.block j (show j < w.heap.size by omega)⟩⟩
          have HFD := Lib.hid hfd
          have HW := Lib.hid hwd
          have HL := Lib.hid (hlck w.drew hld)
          clear hlck hld hfd hwd
          rw [← hlk] at hspend
          by_cases hc : f - n < lk
          · have e := hspend true (by simp [hn0, hc])
            have e2 : spent A M k n false = A := by unfold spent; rw [e]; rfl
            rw [e, e2]
            clear hk hac hbal hbal' hd h hN ha hf e e2 hlo hpay hspend hlk
            go_enter Tryz.func69, Tryz.ntmps69
            go_upto_region 6 with (first
              | (go_at_call 68; refine (ledger_account HK.out w).mono ?_; rintro e w' ⟨rfl, hw⟩; rw [hw]; clear hw w')
              | (go_at_call 61; refine (bound_Balance _ _).mono ?_; rw [HD.out]; rintro e w' ⟨rfl, hw⟩; rw [hw]; clear hw w')
              | fail)
            go_region_held3 (fun wc => wc.cell? ⟨g, k * 2, none⟩ = some (.int .i64 f)) (first | exact hfree | exact HFD.out | exact H2.out.1) (first
              | (go_at_call 143; with_reducible refine HL.out.mono ?_; rintro e w2 ⟨rfl, hb⟩; have H2 := Lib.hid (And.intro (HW.out w2 hb).1 (HW.out w2 hb).2); clear hb)
              | fail)
            all_goals
              go_wp2_with fail
              exact bodyPost_ret (v := .int .i64 7) (by simp [results, Tryz.results69, go_sem]) rfl ⟨rfl, H2.out.2.1, H2.out.2.2⟩
          · have e := hspend false (by simp [hc])
            have e2 : spent A M k n false = spendA A k n := by unfold spent; rw [e]; rfl
            rw [e, e2]
            clear hk hac hbal hbal' hd h hN ha hf e e2 hlo hpay hspend hlk
            go_enter Tryz.func69, Tryz.ntmps69
            go_upto_region 6 with (first
              | (go_at_call 68; refine (ledger_account HK.out w).mono ?_; rintro e w' ⟨rfl, hw⟩; rw [hw]; clear hw w')
              | (go_at_call 61; refine (bound_Balance _ _).mono ?_; rw [HD.out]; rintro e w' ⟨rfl, hw⟩; rw [hw]; clear hw w')
              | fail)
            go_region_held3 (fun wc => wc.cell? ⟨g, k * 2, none⟩ = some (.int .i64 f)) (first | exact hfree | exact HFD.out | exact H2.out.1) (first
              | (go_at_call 143; with_reducible refine HL.out.mono ?_; rintro e w2 ⟨rfl, hb⟩; have H2 := Lib.hid (And.intro (HW.out w2 hb).1 (HW.out w2 hb).2); clear hb)
              | fail)
            all_goals
              have hfree2 := H2.out.1
              have hfroz2 := H2.out.2.1.frozen (k * 2)
              go_wp2_with fail
              exact bodyPost_ret (v := .int .i64 0) (by simp [results, Tryz.results69, go_sem]) rfl ⟨rfl, (HP.out _ H2.out.2.1).1, H2.out.2.2.trans (HP.out _ H2.out.2.1).2⟩
        · have hex : ¬ 0 < n ∨ (0 < n ∧ back = true) := by
            rcases Bool.eq_false_or_eq_true back with h | h
            · by_cases h0 : 0 < n
              · exact .inr ⟨h0, h⟩
              · exact .inl h0
            · exact .inl (fun h0 => hn0 ⟨h0, h⟩)
          have e := hspend false (by constructor; exact fun h => absurd ⟨h.1, h.2.1⟩ hn0; simp)
          have e2 : spent A M k n back = spendA A k n := by unfold spent; rw [e]; rfl
          rw [e, e2]
          clear hn0
          rcases hex with hn0 | ⟨hn0, rfl⟩
          · obtain rfl : n = 0 := by omega
            have hpay2 := hpay
            simp only [Int.sub_zero] at hpay2 hn1
            have HP := Lib.hid hpay2
            clear hpay2 hn0
            clear hk hac hbal hbal' hd h hN ha hf e e2 hlo hpay hspend hno HB HD
            go_enter Tryz.func69, Tryz.ntmps69
            go_upto_region 6 with (first
              | (go_at_call 68; refine (ledger_account HK.out w).mono ?_; rintro e w' ⟨rfl, hw⟩; rw [hw]; clear hw w')
              | (go_at_call 61; refine (bound_Balance _ _).mono ?_; rw [show decide ((0:Int) ≤ 0 ∧ (0:Int) ≤ 1073741824) = true from rfl]; rintro e w' ⟨rfl, hw⟩; rw [hw]; clear hw w')
              | fail)
            go_quiet (fail)
            go_wp2_with fail
            exact bodyPost_ret (v := .int .i64 0) (by simp [results, Tryz.results69, go_sem]) rfl ⟨rfl, (HP.out (w.drewN nq) (HH.out.1.below ⟨rfl, rfl, rfl, Nat.le_refl _, fun _ _ => rfl⟩)).1, Below.trans (b := w.drewN nq) ⟨rfl, rfl, rfl, Nat.le_refl _, fun _ _ => rfl⟩ (HP.out (w.drewN nq) (HH.out.1.below ⟨rfl, rfl, rfl, Nat.le_refl _, fun _ _ => rfl⟩)).2⟩
          · clear hk hac hbal hbal' hd h hN ha hf e e2 hlo hpay hspend
            go_enter Tryz.func69, Tryz.ntmps69
            go_upto_region 6 with (first
              | (go_at_call 68; refine (ledger_account HK.out w).mono ?_; rintro e w' ⟨rfl, hw⟩; rw [hw]; clear hw w')
              | (go_at_call 61; refine (bound_Balance _ _).mono ?_; rw [HD.out]; rintro e w' ⟨rfl, hw⟩; rw [hw]; clear hw w')
              | fail)
            go_quiet (fail)
            go_wp2_with fail
            exact bodyPost_ret (v := .int .i64 0) (by simp [results, Tryz.results69, go_sem]) rfl ⟨rfl, (HP.out (w.drewN nq) (HH.out.1.below ⟨rfl, rfl, rfl, Nat.le_refl _, fun _ _ => rfl⟩)).1, Below.trans (b := w.drewN nq) ⟨rfl, rfl, rfl, Nat.le_refl _, fun _ _ => rfl⟩ (HP.out (w.drewN nq) (HH.out.1.below ⟨rfl, rfl, rfl, Nat.le_refl _, fun _ _ => rfl⟩)).2⟩
    · have e : spendE A M k n back = 1 := by unfold spendE; rw [if_pos (.inr hbal)]
      have e2 : spent A M k n back = A := by unfold spent; rw [e]; rfl
      have hd : decide (0 ≤ n ∧ n ≤ 1073741824) = false := by unfold isBal at hbal; exact decide_eq_false hbal
      have HD := Lib.hid hd
      have HH := Lib.hid h
      rw [e, e2]
      clear hk hac hbal hd h hN ha e e2
      go_enter Tryz.func69, Tryz.ntmps69
      go_wp2_with (first
        | (go_at_call 68; refine (ledger_account HK.out w).mono ?_; rintro e w' ⟨rfl, hw⟩; rw [hw]; clear hw w')
        | (go_at_call 61; refine (bound_Balance _ _).mono ?_; rw [HD.out]; rintro e w' ⟨rfl, hw⟩; rw [hw]; clear hw w')
        | fail)
      exact bodyPost_ret (v := .int .i64 1) (by simp [results, Tryz.results69, go_sem]) rfl ⟨rfl, HH.out, Below.refl _ _⟩
  · have e : spendE A M a n back = 1 := by unfold spendE; rw [if_pos (.inl hac)]
    have e2 : spent A M a n back = A := by unfold spent; rw [e]; rfl
    have HD := Lib.hid hac
    have HH := Lib.hid h
    rw [e, e2]
    clear hac h hN ha e e2
    go_enter Tryz.func69, Tryz.ntmps69
    go_wp2_with (first
      | (go_at_call 68; refine (ledger_account_no HD.out w).mono ?_; rintro e w' ⟨rfl, hw⟩; rw [hw]; clear hw w')
      | fail)
    exact bodyPost_ret (v := .int .i64 1) (by simp [results, Tryz.results69, go_sem]) rfl ⟨rfl, HH.out, Below.refl _ _⟩
theorem ledger_spend_nil (a n : Int) (back : Bool) (w : World) : Calls Tryz.prog 69 #[.pointer none, .int .i64 a, .int .i64 n, .bool back] w fun e w' => e = .returned (.int .i64 1) ∧ w' = w := by
  go_enter Tryz.func69, Tryz.ntmps69
  go_wp2_with (first
    | (go_at_call 68; refine (ledger_account_nil a w).mono ?_; rintro e w' ⟨rfl, hw⟩; rw [hw]; clear hw w')
    | fail)
  exact bodyPost_ret (v := .int .i64 1) (by simp [results, Tryz.results69, go_sem]) rfl ⟨rfl, rfl⟩
end Go.Proofs.YteioacpfphigjaaGreatDoor
end

section
namespace Go.Proofs.YteioacpfphigjaaGreatDoor
open Go.RowKit Go.Maps Go.Shelf
set_option linter.unusedVariables false
set_option linter.unusedSimpArgs false

section
variable {N g gl : Nat} {A : Acc} {M : Cls Int} {w w' : World}
theorem LdAt.setHeld (h : LdAt N g gl A M w) {a : Nat} (ha : a < 10) (v : Int) (hok : AccOk (upd A a ((A a).1, v))) : LdAt N g gl (upd A a ((A a).1, v)) M (w.setCell ⟨g, a * 2 + 1, none⟩ (.int .i64 v)) ∧ Below N w (w.setCell ⟨g, a * 2 + 1, none⟩ (.int .i64 v)) := h.put (lcells_held ha v) hok
end
/-- More for an account that has so much. -/
def giveA (A : Acc) (a : Nat) (n : Int) : Acc := upd A a ((A a).1 + n, (A a).2)
theorem giveA_ok {A : Acc} (h : AccOk A) {a : Nat} (ha : a < 10) {n : Int} (hn : 0 ≤ n) (hs : sumTo A 10 + n ≤ 1073741824) : AccOk (giveA A a n) := by
  have := h.free a
  exact h.upd ha (by simp only; omega) (h.held a) (by unfold both; simp only; omega)
theorem sum_spendA (A : Acc) {a : Int} (ha : isAcc a) (n : Int) : sumTo (spendA A a n) 10 = sumTo A 10 - n := by
  unfold isAcc at ha
  rw [spendA, sumTo_upd, if_pos (by omega)]; unfold both; simp only; omega
theorem sum_giveA (A : Acc) {a : Nat} (ha : a < 10) (n : Int) : sumTo (giveA A a n) 10 = sumTo A 10 + n := by
  rw [giveA, sumTo_upd, if_pos ha]; unfold both; simp only; omega
def takeA (A : Acc) (a : Nat) (m : Int) : Acc := upd A a ((A a).1, (A a).2 - m)
theorem takeA_ok {A : Acc} (h : AccOk A) {a : Nat} (ha : a < 10) {m : Int} (h0 : 0 ≤ m) (h1 : m ≤ (A a).2) : AccOk (takeA A a m) ∧ sumTo (takeA A a m) 10 = sumTo A 10 - m := by
  have e : sumTo (takeA A a m) 10 = sumTo A 10 - m := by rw [takeA, sumTo_upd, if_pos ha]; unfold both; simp only; omega
  exact ⟨⟨fun k => by unfold takeA; by_cases c : k = a; subst c; rw [upd_same]; exact h.free k; rw [upd_other A _ c]; exact h.free k, fun k => by unfold takeA; by_cases c : k = a; subst c; rw [upd_same]; simp only; omega; rw [upd_other A _ c]; exact h.held k, by have := h.all; omega⟩, e⟩
def heldM (A : Acc) (a n : Int) : Int := if isAcc a then min (max n 0) (A a.toNat).2 else 0
def unheld (A : Acc) (a n b : Int) : Acc := if isAcc a then giveA (takeA A a.toNat (heldM A a n)) b.toNat (heldM A a n) else A

set_option maxRecDepth 100000 in
set_option maxHeartbeats 4000000 in
theorem ledger_unhold {N g gl : Nat} {A : Acc} {M : Cls Int} {w : World} (h : LdAt N g gl A M w) {a b : Int} (hb : isAcc b) (n : Int) :
    Calls Tryz.prog 146 #[.pointer (some ⟨g, 0, none⟩), .int .i64 a, .int .i64 n, .int .i64 b] w fun e w' => e = .returned (.int .i64 (heldM A a n)) ∧ LdAt N g gl (unheld A a n b) M w' ∧ Below N w w' := by
  by_cases hac : isAcc a
  · have hm0 : heldM A a n = min (max n 0) (A a.toNat).2 := by rw [heldM, if_pos hac]
    have hu0 : unheld A a n b = giveA (takeA A a.toNat (heldM A a n)) b.toNat (heldM A a n) := by rw [unheld, if_pos hac]
    obtain ⟨m, hm⟩ : ∃ m, m = heldM A a n := ⟨_, rfl⟩
    rw [hu0, ← hm]
    rw [← hm] at hm0
    clear hm hu0
    obtain ⟨k, rfl, hk⟩ := isAcc_nat hac
    obtain ⟨j, rfl, hj⟩ := isAcc_nat hb
    rw [Int.toNat_natCast] at hm0 ⊢
    rw [Int.toNat_natCast]
    have h0 : 0 ≤ (A k).2 := h.ok.held k
    have hmn : 0 ≤ m ∧ m ≤ (A k).2 := by omega
    obtain ⟨ok1, sm1⟩ := takeA_ok h.ok hk hmn.1 hmn.2
    have ok2 := giveA_ok ok1 hj hmn.1 (by rw [sm1]; have := h.ok.all; omega)
    have hh := h.held hk
    have hf := h.frozen (k * 2 + 1)
    obtain ⟨u, hu⟩ : ∃ u, u = (A k).2 := ⟨_, rfl⟩
    have hu1 : u ≤ 1073741824 := by have := h.ok.one hk; have := h.ok.free k; unfold both at *; omega
    obtain ⟨w1, hw1⟩ : ∃ w1, w1 = w.setCell ⟨g, k * 2 + 1, none⟩ (.int .i64 (u - m)) := ⟨_, rfl⟩
    have p1 := h.setHeld hk (u - m) (by rw [hu]; exact ok1)
    rw [← hw1] at p1
    have p1' : LdAt N g gl (takeA A k m) M w1 := by unfold takeA; rw [← hu]; exact p1.1
    have hfr := p1'.free hj
    obtain ⟨f, hff⟩ : ∃ f, f = (takeA A k m j).1 := ⟨_, rfl⟩
    have hf0 : 0 ≤ f := by rw [hff]; exact ok1.free j
    have hf1 : f ≤ 1073741824 := by have := ok1.one hj; have := ok1.held j; unfold both at *; omega
    have p2 := p1'.setFree hj (f + m) (by rw [hff]; exact ok2)
    have hfz := p1'.frozen (j * 2)
    have hn1 : IntKind.i64.wrap (u - m) = u - m := IntWalk.i64_in _ (by omega)
    have hn2 : IntKind.i64.wrap (f + m) = f + m := IntWalk.i64_in _ (by omega)
    have hmm : min (max n 0) u = m := by rw [hu]; exact hm0.symm
    rw [← hu] at hh
    rw [← hff] at hfr
    have hend : LdAt N g gl (giveA (takeA A k m) j m) M (w1.setCell ⟨g, j * 2, none⟩ (.int .i64 (f + m))) ∧ Below N w (w1.setCell ⟨g, j * 2, none⟩ (.int .i64 (f + m))) := ⟨by unfold giveA; rw [← hff]; exact p2.1, p1.2.trans p2.2⟩
    have HE := Lib.hid hend
    have HK := Lib.hid (And.intro hk hj)
    have HW1 := Lib.hid hw1
    have HFR := Lib.hid (And.intro hfr hfz)
    clear h hac hb hm0 hk hj h0 hmn ok1 sm1 ok2 hu p1 p1' hff p2 hend hw1 hfr hfz
    go_enter Tryz.func146, Tryz.ntmps146
    go_upto_region 6 with (first
      | (go_at_call 68; refine (ledger_account HK.out.1 _).mono ?_; rintro e w' ⟨rfl, hw⟩; rw [hw]; clear hw w')
      | fail)
    rw [← HW1.out]
    obtain ⟨hfr, hfz⟩ := HFR.out
    clear hf hh
    go_wp2_with (first
      | (go_at_call 68; refine (ledger_account HK.out.2 _).mono ?_; rintro e w' ⟨rfl, hw⟩; rw [hw]; clear hw w')
      | fail)
    go_ret
    exact ⟨rfl, HE.out⟩
  · have e1 : heldM A a n = 0 := by rw [heldM, if_neg hac]
    have e2 : unheld A a n b = A := by rw [unheld, if_neg hac]
    have HH := Lib.hid (And.intro h hac)
    rw [e1, e2]
    clear h hb hac e1 e2
    go_enter Tryz.func146, Tryz.ntmps146
    go_wp2_with (first
      | (go_at_call 68; refine (ledger_account_no HH.out.2 _).mono ?_; rintro e w' ⟨rfl, hw⟩; rw [hw]; clear hw w')
      | fail)
    exact bodyPost_ret (v := .int .i64 0) (by simp [results, Tryz.results146, go_sem]) rfl ⟨rfl, HH.out.1, Below.refl _ _⟩
end Go.Proofs.YteioacpfphigjaaGreatDoor
end
