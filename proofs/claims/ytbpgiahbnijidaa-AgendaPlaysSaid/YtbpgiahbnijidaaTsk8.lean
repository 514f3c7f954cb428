/-
  agenda's find.
-/
import Derived.Test.YtbpgiahbnijidaaTsk7
import Derived.Test.YtbpgiahbnijidaaIterA
namespace Go.Proofs.Ytbpgiahbnijidaa
open Go.RowKit Go.Shelf
attribute [local go_sem] Oper.semAt_some
set_option linter.unusedVariables false
set_option linter.unusedSimpArgs false

theorem enters_all : ∀ args w, (callFunc 29 args).run Try.prog w = .ok (.enter 29 args) w := enters_of Try.func29 (by kernel_rfl) rfl
/-- What All hands back. -/
theorem agenda_All (p : Value) (hp : ∃ q, p = .pointer q) (w : World) : Calls Try.prog 22 #[p] w fun e w' => e = .returned (.func (.func 29) #[] #[.pointer (some ⟨w.heap.size, 0, none⟩)]) ∧ w' = w.alloc (.cells #[p] 23) := by
  obtain ⟨q, rfl⟩ := hp
  go_enter Try.func22, Try.ntmps22
  go_wp2
  go_ret
  exact ⟨rfl, rfl⟩
theorem frame_eq {c : Code} {F : Fence} {n : Nat} {P : Program} {Q : Exit → Act → World → Prop} {a b : Act} {w : World} (e : a = b) (h : c.wpIn F n P Q b w) : c.wpIn F n P Q a w := e ▸ h
/-- The place of the task of a name, -1 if there is none. -/
def idxN (ts : List Tk) (name : Int) : Int := match ts.findIdx? (fun t => t.name == name) with
  | some i => (i : Int)
  | none => -1
theorem idxN_none {ts : List Tk} {name : Int} (h : ∀ t ∈ ts, t.name ≠ name) : idxN ts name = -1 := by
  unfold idxN
  have : ts.findIdx? (fun t => t.name == name) = none := by
    rw [List.findIdx?_eq_none_iff]
    intro t ht
    simpa using h t ht
  rw [this]
theorem idxN_at {ts p : List Tk} {t : Tk} {name : Int} (hp : (p ++ [t]) <+: ts) (ht : t.name = name) (h : ∀ u ∈ p, u.name ≠ name) : idxN ts name = (p.length : Int) := by
  obtain ⟨r, rfl⟩ := hp
  unfold idxN
  have h1 : p.findIdx? (fun t => t.name == name) = none := by
    rw [List.findIdx?_eq_none_iff]
    intro u hu
    simpa using h u hu
  have : (p ++ [t] ++ r).findIdx? (fun t => t.name == name) = some p.length := by
    rw [List.append_assoc, List.findIdx?_append, h1]
    simp [List.findIdx?_cons, ht]
  rw [this]
/-- What find's loop holds. -/
def FindI (N0 ib nb rb : Nat) (name : Int) (pre : List Tk) (Φ : FP) (W : World) : Prop :=
  (∀ k, ¬ Φ k) ∧ Boxed W ib 3 (.int .i64 (pre.length : Nat)) ∧ Boxed W nb 3 (.int .i64 name) ∧ Boxed W rb 3 (.int .i64 0) ∧ (∀ t ∈ pre, t.name ≠ name) ∧ N0 ≤ W.heap.size
def FindX (N0 rb : Nat) (name : Int) (c : Code) (pre : List Tk) (Φ : FP) (W : World) : Prop :=
  c = .ret ∧ (∀ k, ¬ Φ k) ∧ (∃ p t, pre = p ++ [t] ∧ t.name = name ∧ (∀ u ∈ p, u.name ≠ name) ∧ Boxed W rb 3 (.int .i64 (p.length : Nat))) ∧ N0 ≤ W.heap.size
theorem FindI.stab {N0 ib nb rb : Nat} {name : Int} (h1 : ib < N0) (h2 : nb < N0) (h3 : rb < N0) : Stab N0 (FindI N0 ib nb rb name) := by
  rintro pre Φ W ⟨a, b, c, d, e, f⟩
  exact ⟨fun k hk => absurd hk (a k), f, fun W' hg hk => ⟨a, (hk ib (.inl h1)).trans b, (hk nb (.inl h2)).trans c, (hk rb (.inl h3)).trans d, e, Nat.le_trans f hg.size⟩⟩
theorem FindX.stab {N0 rb : Nat} {name : Int} (h3 : rb < N0) (c : Code) : Stab N0 (FindX N0 rb name c) := by
  rintro pre Φ W ⟨a, b, ⟨p, t, c1, c2, c3, c4⟩, f⟩
  exact ⟨fun k hk => absurd hk (b k), f, fun W' hg hk => ⟨a, b, ⟨p, t, c1, c2, c3, (hk rb (.inl h3)).trans c4⟩, Nat.le_trans f hg.size⟩⟩

set_option maxHeartbeats 4000000 in
set_option maxRecDepth 100000 in
theorem agenda_find (g : Nat) (v : Value) (ts : List Tk) (name : Int) (w : World) (hg : w.heap[g]? = some (.cells #[v] 57 (0, 0))) (hr : RdT w v ts) (hl : ts.length ≤ 900) :
    Calls Try.prog 23 #[.pointer (some ⟨g, 0, none⟩), .int .i64 name] w fun e w' => e = .returned (.int .i64 (idxN ts name)) ∧ Below w.heap.size w w' := by
  refine (callsIn_wide (n := 2)).1 ?_
  have HG := Lib.hid hg
  have HR := Lib.hid hr
  have HL := Lib.hid hl
  clear hg hr hl
  refine callsIn_of_wp_marks Try.func23 rfl trivial ?_ rfl
  simp only [Try.ntmps23, List.size_toArray, List.length_cons, List.length_nil, Nat.reduceAdd, Nat.reduceSub, Array.replicate_succ, Array.replicate_zero, List.push_toArray, List.append_toArray, List.nil_append, List.cons_append]
  gi_wp2_with (first | (gi_at_call 22; refine (callsIn_wide.2 (agenda_All _ ⟨_, rfl⟩ _)).mono ?_; rintro e w1 ⟨rfl, hw1⟩) | (refine ⟨trivial, ?_⟩; gi_at_call 22; refine (callsIn_wide.2 (agenda_All _ ⟨_, rfl⟩ _)).mono ?_; rintro e w1 ⟨rfl, hw1⟩) | fail)
  rw [← hw1]
  obtain ⟨s, hs⟩ : ∃ s, s = w.heap.size := ⟨_, rfl⟩
  obtain ⟨rb, hrb⟩ : ∃ rb, rb = s + 1 := ⟨_, rfl⟩
  obtain ⟨ib, hib⟩ : ∃ ib, ib = rb + 1 := ⟨_, rfl⟩
  obtain ⟨ab, hab⟩ : ∃ ab, ab = ib + 1 := ⟨_, rfl⟩
  have hB : Below w.heap.size w w1 := by rw [hw1]; exact ((((Below.refl _ w).alloc (Nat.le_refl _) _).alloc (by simp) _).alloc (by simp; omega) _).alloc (by simp; omega) _
  have hsz : w1.heap.size = s + 4 := by rw [hw1, hs]; simp
  have x0 : Boxed w1 s 3 (.int .i64 name) := by rw [hw1, hs]; exact (((Boxed.new w _ _).alloc _).alloc _).alloc _
  have x1 : Boxed w1 rb 3 (.int .i64 0) := by
    have := Boxed.new (w.alloc (.cells #[.int .i64 name] 3)) 3 (.int .i64 0)
    rw [World.size_alloc] at this
    rw [hw1, hrb, hs]; exact (this.alloc _).alloc _
  have x2 : Boxed w1 ib 3 (.int .i64 0) := by
    have := Boxed.new ((w.alloc (.cells #[.int .i64 name] 3)).alloc (.cells #[.int .i64 0] 3)) 3 (.int .i64 0)
    rw [World.size_alloc, World.size_alloc] at this
    rw [hw1, hib, hrb, hs]; exact this.alloc _
  have x3 : Boxed w1 ab 23 (.pointer (some ⟨g, 0, none⟩)) := by
    have := Boxed.new (((w.alloc (.cells #[.int .i64 name] 3)).alloc (.cells #[.int .i64 0] 3)).alloc (.cells #[.int .i64 0] 3)) 23 (.pointer (some ⟨g, 0, none⟩))
    rw [World.size_alloc, World.size_alloc, World.size_alloc] at this
    rw [hw1, hab, hib, hrb, hs]; exact this
  rw [← hs, ← hrb, ← hib, ← hab]
  have hgl : g < w.heap.size := by
    by_cases h : g < w.heap.size
    · exact h
    · have := HG.out; rw [Array.getElem?_eq_none (by omega)] at this; cases this
  have hit := all_iter 0 ab g v ts w1 x3.cell ((hB.block g hgl).trans HG.out) (HR.out.below hB) HL.out (fun k => k < w1.heap.size) (by omega) (by omega) (fun a n c e hne => by
    have hr := HR.out.below hB
    rcases hr with ⟨h, -⟩ | ⟨b, off, cap, h, -, h3⟩
    · rw [h] at e; cases e
    · rw [h] at e
      injection e with e1
      injection e1 with e1
      rw [← e1]
      refine rangeAt_lt h3 (fun e0 => ?_)
      have := Tc_len ts
      rw [e0] at this
      have h0 := List.length_pos_iff.2 hne
      simp at this
      omega)
  have HX1 := Lib.hid x1
  have HBB := Lib.hid hB
  have HSW := Lib.hid hs
  have l0 : s < rb := by omega
  have l1 : rb < ib := by omega
  have l2 : ib < ab := by omega
  have l3 : ab < w1.heap.size := by omega
  clear x3 hw1 hs hrb hib hab hsz
  refine range_outerA (n := 0) (gf := 29) (lb := #[.pointer (some ⟨ab, 0, none⟩)]) rfl enters_all hit (Grow.refl _) (fun k hk => ⟨hk, rfl⟩) (fun _ => rfl)
    (fun k => k = ib ∨ k = rb) (by rintro k (rfl | rfl) <;> omega) (FindI w1.heap.size ib s rb name) (FindX w1.heap.size rb name) (FindI.stab (by omega) (by omega) (by omega)) (fun c => FindX.stab (by omega) c)
    ⟨fun _ h => h, x2, x0, x1, by simp, Nat.le_refl _⟩
    (fun x N => { tmps := #[.pointer (some ⟨g, 0, none⟩), .int .i64 name, undef, .pointer (some ⟨s, 0, none⟩), .pointer (some ⟨rb, 0, none⟩), .pointer (some ⟨ib, 0, none⟩), .pointer (some ⟨N, 0, none⟩), .pointer (some ⟨g, 0, none⟩), .func (.func 29) #[] #[.pointer (some ⟨ab, 0, none⟩)], .agg (tc x).toArray, undef, undef, undef, undef, undef, undef, undef], defers := [] })
    (fun x N W => W.heap[N]? = some (.cells (tc x).toArray 32 (0, 0))) (fun x N W W' h e => e.trans h) ?assign ?body ?done ?stop
  case assign =>
    intro l x W K hK
    refine frame_eq (b := { tmps := #[.pointer (some ⟨g, 0, none⟩), .int .i64 name, undef, .pointer (some ⟨s, 0, none⟩), .pointer (some ⟨rb, 0, none⟩), .pointer (some ⟨ib, 0, none⟩), undef, .pointer (some ⟨g, 0, none⟩), .func (.func 29) #[] #[.pointer (some ⟨ab, 0, none⟩)], .agg (tc x).toArray, undef, undef, undef, undef, undef, undef, undef], defers := [] }) (by simp) ?_
    gi_wp2_with (first
        | (refine wplIn_allocT rfl rfl ?_; intro C hC)
        | (refine wplIn_storeT (t := x) (C := C) _ _ rfl rfl rfl rfl (heap_alloc_new W _) hC ?_)
        | fail)
    refine hK _ ?_ (by simp) (setRow_heap _ _ _ _ _ _ (heap_alloc_new W _))
    exact ((Below.refl _ W).alloc (Nat.le_refl _) _).trans ⟨rfl, rfl, rfl, by simp, fun k hk => setRow_other _ _ k _ (by omega)⟩
  case body =>
    rintro l pre x Φ N W hpx ⟨hΦ, b1, b2, b3, hne, hz⟩ hl - - hlN hNW hAt
    have cN : W.cell? ⟨N, 0, none⟩ = some (.int .i64 x.name) := by rw [World.cell?, hAt]; rfl
    have c2 := b2.cell
    have c1 := b1.cell
    have f1 := b1.frozen
    have c3 := b3.cell
    have f3 := b3.frozen
    have hpl : pre.length ≤ 900 := by have h1 := hpx.length_le; have h2 := HL.out; simp at h1; omega
    have hpi : (pre.length : Int) ≤ 900 := by omega
    have HB1 := Lib.hid b1
    have HB2 := Lib.hid b2
    have HB3 := Lib.hid b3
    have HN := Lib.hid hne
    have HPh := Lib.hid hΦ
    clear b1 b2 b3 hne hAt hΦ
    have fin : ∀ (b : Nat) (u : Value) (R : List Tk → FP → World → Prop), (b = ib ∨ b = rb) → R (pre ++ [x]) (fun _ => False) (W.setCell ⟨b, 0, none⟩ u) → Leaves (fun k => k = ib ∨ k = rb) Φ W (fun Φ' W' => R (pre ++ [x]) Φ' W') (W.setCell ⟨b, 0, none⟩ u) := fun b u R hb hR =>
      ⟨_, fun k h => h.elim, ⟨⟨rfl, rfl, rfl, by simp [World.setCell]⟩, fun k hk h1 h2 => Below.heap_setCell _ _ _ k (fun e => h1 (by subst e; exact hb))⟩, hR⟩
    by_cases he : x.name = name
    · have he' : (x.name == name) = true := by simpa using he
      have hR : FindX w1.heap.size rb name .ret (pre ++ [x]) (fun _ => False) (W.setCell ⟨rb, 0, none⟩ (.int .i64 (pre.length : Nat))) :=
        ⟨rfl, fun _ h => h, ⟨pre, x, rfl, he, HN.out, HB3.out.set _⟩, by simpa [World.setCell] using hz⟩
      have HRR := Lib.hid (fin rb _ (FindX w1.heap.size rb name .ret) (.inr rfl) hR)
      clear fin hR
      gi_wp2
      exact HRR.out
    · have he' : (x.name == name) = false := by simpa using he
      have hR : FindI w1.heap.size ib s rb name (pre ++ [x]) (fun _ => False) (W.setCell ⟨ib, 0, none⟩ (.int .i64 ((pre.length : Nat) + 1))) :=
        ⟨fun _ h => h, by have := HB1.out.set (.int .i64 ((pre.length : Nat) + 1)); simpa using this, HB2.out.other (by omega) _, HB3.out.other (by omega) _, fun t ht => by
          rcases List.mem_append.1 ht with h | h
          · exact HN.out t h
          · rw [List.mem_singleton] at h; subst h; exact he, by simpa [World.setCell] using hz⟩
      have HRR := Lib.hid (fin ib _ (FindI w1.heap.size ib s rb name) (.inl rfl) hR)
      clear fin hR
      gi_wp2
      exact HRR.out
  case done =>
    rintro D Φ W3 ⟨hΦ, b1, b2, b3, hne, hz⟩ hon hD hnD hK
    have hsw := HSW.out
    have hidx := idxN_none hne
    have HI := Lib.hid hidx
    have c3 := b3.cell
    have f3 := b3.frozen
    have HB3 := Lib.hid b3
    have HON := Lib.hid hon
    have HKK := Lib.hid hK
    clear b1 b2 b3 hon hne hidx hK hsw
    gi_wp2
    obtain ⟨W5, hW5⟩ : ∃ W5, W5 = W3.setCell ⟨rb, 0, none⟩ (.int .i64 (-1)) := ⟨_, rfl⟩
    rw [← hW5]
    have hsame : ∀ k, k ≠ rb → W5.heap[k]? = W3.heap[k]? := fun k h1 => by rw [hW5]; exact Below.heap_setCell _ _ _ k h1
    have hx2 : Boxed W5 rb 3 (.int .i64 (-1)) := by rw [hW5]; exact HB3.out.set _
    have hgw : Grow W3 W5 := by rw [hW5]; exact ⟨rfl, rfl, rfl, by simp [World.setCell]⟩
    have hK5 : W5.heap[D]? = some (.deferred (some [])) := (hsame D (by omega)).trans HKK.out
    have hk2 : Boxed (W5.putObj D (.deferred none)) rb 3 (.int .i64 (-1)) := (put_other (by omega)).trans hx2
    have hcc2 := hk2.cell
    refine ⟨by simp, .inl ⟨_, _, rfl, run_takeDeferred hK5, ?_⟩⟩
    refine ⟨.int .i64 (-1), by simp [results, Try.results23, go_sem, hcc2], by rw [HI.out], ?_⟩
    have hg : Grow W3 (W5.putObj D (.deferred none)) := hgw.trans (put_grow _ _ _)
    have hO2 := HON.out
    have hw2 := HBB.out
    have hsw := HSW.out
    refine ⟨hg.os.trans (hO2.grow.os.trans hw2.os), hg.tape.trans (hO2.grow.tape.trans hw2.tape), hg.output.trans (hO2.grow.output.trans hw2.output), by have := hg.size; have := hO2.grow.size; have := hw2.size; omega, fun k hk => ?_⟩
    rw [put_other (by omega), hsame k (by omega), hO2.block k (by omega) (fun h => by omega) (fun h => h)]
    exact hw2.block k hk
  case stop =>
    rintro D Φ c pre W3 hpre ⟨rfl, hΦ, ⟨p, t, rfl, ht, hp, b3⟩, hz⟩ hon hD hnD hK
    have hidx := idxN_at hpre ht hp
    have HI := Lib.hid hidx
    have c3 := b3.cell
    have HB3 := Lib.hid b3
    have HON := Lib.hid hon
    have HKK := Lib.hid hK
    clear b3 hon hidx hK
    gi_wp2
    have hk2 : Boxed (W3.putObj D (.deferred none)) rb 3 (.int .i64 (p.length : Nat)) := (put_other (by omega)).trans HB3.out
    have hcc2 := hk2.cell
    refine ⟨by simp, .inl ⟨_, _, rfl, run_takeDeferred HKK.out, ?_⟩⟩
    refine ⟨.int .i64 (p.length : Nat), by simp [results, Try.results23, go_sem, hcc2], by rw [HI.out], ?_⟩
    have hg : Grow W3 (W3.putObj D (.deferred none)) := put_grow _ _ _
    have hO2 := HON.out
    have hw2 := HBB.out
    have hsw := HSW.out
    refine ⟨hg.os.trans (hO2.grow.os.trans hw2.os), hg.tape.trans (hO2.grow.tape.trans hw2.tape), hg.output.trans (hO2.grow.output.trans hw2.output), by have := hg.size; have := hO2.grow.size; have := hw2.size; omega, fun k hk => ?_⟩
    rw [put_other (by omega), hO2.block k (by omega) (fun h => by omega) (fun h => h)]
    exact hw2.block k hk
end Go.Proofs.Ytbpgiahbnijidaa
