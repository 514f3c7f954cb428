/-
  The law's casts: an account's votes as a row.
-/
import Derived.Test.YtlnjcfgihklppaaGreatRg5
namespace Go.Proofs.YtlnjcfgihklppaaGreat
open Go.RowKit Go.Maps Go.Shelf
attribute [local go_sem] Oper.semAt_some
set_option linter.unusedVariables false
set_option linter.unusedSimpArgs false

theorem castInfo : (Tryz.prog.info? 62).map (fun i => (i.zero, i.size, i.bytes)) = some (some (.agg #[.int .i64 0, .int .i64 0, .bool false, .int .i64 0, .int .i64 0, .int .i64 0, .int .i64 0]), 7, 56) := by kernel_rfl
def castR : RowTy Tryz.prog (Int × Bal) where
  T := 62
  S := 36
  k := 7
  f := prOf_V
  len := fun _ => rfl
  one := fun x u hu => by
    simp only [prOf_V, List.mem_cons, List.not_mem_nil, or_false] at hu
    rcases hu with rfl | rfl | rfl | rfl | rfl | rfl | rfl <;> rfl
  pos := by decide
  small := by decide
  slice := Tryz.underlying36
  info := by
    obtain ⟨i0, hi, hz⟩ := Option.map_eq_some_iff.1 castInfo
    simp only [Prod.mk.injEq] at hz
    obtain ⟨h1, h2, h3⟩ := hz
    exact ⟨i0, _, _, hi, h1, h2, rfl, h3, by decide⟩
  row := ⟨_, Tryz.underlying62, rfl⟩
set_option maxHeartbeats 4000000 in
set_option maxRecDepth 100000 in
theorem law11_casts (p : Option Addr) (who tk : Int) (xs : List (Int × Bal)) (w : World) (hcall : ∀ w', Below w.heap.size w w' → Calls Tryz.prog 40 #[.pointer p, .int .i64 who, .int .i64 tk] w' fun e w'' => ∃ gf lbx, e = .returned (.func (.func gf) #[] lbx) ∧ (∀ args w, (callFunc gf args).run Tryz.prog w = .ok (.enter gf args) w) ∧ Iter Tryz.prog 0 gf lbx encs_V xs (fun k => k < w''.heap.size) w'' ∧ Below w'.heap.size w' w'') (hlen : xs.length ≤ 100) :
    Calls Tryz.prog 16 #[.pointer p, .int .i64 who, .int .i64 tk] w fun e w' => ∃ v, e = .returned (.tuple #[v, .bool true]) ∧ OwnR castR w.heap.size v xs w' ∧ Below w.heap.size w w' := by
  refine (callsIn_wide (n := 2)).1 ?_
  have q1 : ∀ g lb w, (binOp .eql 100 (.func g #[] lb) .nilFunc).run Tryz.prog w = .ok (.bool false) w := fun g lb w => by kernel_rfl
  refine callsIn_of_wp_marks Tryz.func16 rfl trivial ?_ rfl
  simp only [Tryz.ntmps16, List.size_toArray, List.length_cons, List.length_nil, Nat.reduceAdd, Nat.reduceSub, Array.replicate_succ, Array.replicate_zero, List.push_toArray, List.append_toArray, List.nil_append, List.cons_append]
  have hb2 : Below w.heap.size w ((w.alloc (.cells #[.slice none 0 0] 36)).alloc (.cells #[.bool false] 4)) := ((Below.refl _ w).alloc (Nat.le_refl _) _).alloc (by simp) _
  have hc := hcall _ hb2
  have HC := Lib.hid (And.intro hc hb2)
  have HLN := Lib.hid hlen
  clear hcall hlen hc hb2
  gi_wp2_with (first
    | (gi_at_call 40; refine (callsIn_wide.2 HC.out.1).mono ?_; rintro e wa ⟨gf, lbx, rfl, eg, hit, hba⟩; have HIT := Lib.hid (And.intro hit (And.intro eg hba)); clear hit eg hba)
    | (refine ⟨trivial, ?_⟩; gi_at_call 40; refine (callsIn_wide.2 HC.out.1).mono ?_; rintro e wa ⟨gf, lbx, rfl, eg, hit, hba⟩; have HIT := Lib.hid (And.intro hit (And.intro eg hba)); clear hit eg hba)
    | fail)
  obtain ⟨s, hs⟩ : ∃ s, s = w.heap.size := ⟨_, rfl⟩
  obtain ⟨rb, hrb⟩ : ∃ rb, rb = s + 1 := ⟨_, rfl⟩
  obtain ⟨ob, hob⟩ : ∃ ob, ob = wa.heap.size := ⟨_, rfl⟩
  obtain ⟨w1, hw1⟩ : ∃ w1, w1 = wa.alloc (.cells #[.slice none 0 0] 36) := ⟨_, rfl⟩
  rw [← hw1]
  have hBa : Below w.heap.size w wa := HC.out.2.trans (HIT.out.2.2.mono HC.out.2.size)
  have hsza : s + 2 ≤ wa.heap.size := by have := HIT.out.2.2.size; rw [World.size_alloc, World.size_alloc] at this; omega
  have hB1a : Below wa.heap.size wa w1 := by rw [hw1]; exact (Below.refl _ _).alloc (Nat.le_refl _) _
  have hB : Below w.heap.size w w1 := hBa.trans (hB1a.mono hBa.size)
  have hsz : w1.heap.size = ob + 1 := by rw [hw1, hob]; simp
  have hx0 : Boxed ((w.alloc (.cells #[.slice none 0 0] 36)).alloc (.cells #[.bool false] 4)) s 36 (.slice none 0 0) := by rw [hs]; exact (Boxed.new w _ _).alloc _
  have hx1 : Boxed ((w.alloc (.cells #[.slice none 0 0] 36)).alloc (.cells #[.bool false] 4)) rb 4 (.bool false) := by
    have := Boxed.new (w.alloc (.cells #[.slice none 0 0] 36)) 4 (.bool false)
    rw [World.size_alloc] at this
    rw [hrb, hs]; exact this
  have x0 : Boxed w1 s 36 (.slice none 0 0) := (hB1a.block s (by omega)).trans ((HIT.out.2.2.block s hx0.lt).trans hx0)
  have x1 : Boxed w1 rb 4 (.bool false) := (hB1a.block rb (by omega)).trans ((HIT.out.2.2.block rb hx1.lt).trans hx1)
  have x2 : Boxed w1 ob 36 (.slice none 0 0) := by rw [hw1, hob]; exact Boxed.new wa _ _
  rw [← hs, ← hrb, ← hob]
  have l0 : s < rb := by omega
  have l1 : rb < ob := by omega
  have l2 : ob < w1.heap.size := by omega
  have HB1 := Lib.hid (And.intro hB hB1a)
  have HS := Lib.hid (And.intro hs (And.intro hsz hob))
  have HR := Lib.hid (And.intro x0 x1)
  clear hw1 hs hrb hB hB1a hBa hsz hsza hx0 hx1 x0 x1 hob
  refine range_outerAU (n := 0) (gf := gf) (lb := lbx) rfl HIT.out.2.1 HIT.out.1 (Grow.of_below HB1.out.2) (fun k hk => ⟨hk, HB1.out.2.block k hk⟩) (fun _ => rfl)
    (fun k => k = ob) (by rintro k rfl; exact ⟨l2, fun h => by have := HS.out.2.2; omega⟩) (ColI castR w1.heap.size ob) (fun _ _ _ _ => False) (ColI.stab l2) (fun c _ _ _ h => h.elim)
    ⟨_, x2, OwnR.nil _ _, fun k => ⟨fun h => h.elim, fun h => by cases h⟩, Nat.le_refl _⟩
    (fun x N T => (((T.setIfInBounds 19 (.int .i64 x.1)).setIfInBounds 20 (balVal x)).setIfInBounds 10 (.int .i64 x.1)).setIfInBounds 11 (.pointer (some ⟨N, 0, none⟩)))
    (fun x N W => W.heap[N]? = some (.cells #[.int .i64 x.2.k, .bool x.2.aye, .int .i64 x.2.l, .int .i64 x.2.a, .int .i64 x.2.n, .int .i64 x.2.s] 23 (0, 0))) (fun x N W W' h e => e.trans h) ?assign ?body ?done ?stop
  case assign =>
    intro l x W K hK
    simp only [encs_V]
    gi_wp2
    exact hK _ ((Below.refl _ W).alloc (Nat.le_refl _) _) (by simp) (World.alloc_heap_new _ _)
  case body =>
    rintro l pre x Φ N W hpx ⟨v1, hI⟩ hl1 hΦ - hlN hNW hAt
    have hpl := hpx.length_le
    rw [List.length_append, List.length_singleton] at hpl
    have hpl2 : pre.length ≤ 99 := by have := HLN.out; omega
    obtain ⟨ao1, cap1, rfl⟩ := hI.own.lenOf
    obtain ⟨pl, hm⟩ : ∃ pl, pl = pre.length := ⟨_, rfl⟩
    rw [← hm] at hI
    have c0 := hI.bx.cell
    have hlW : ob < W.heap.size := by have := hI.sz; omega
    have hsW : w1.heap.size ≤ W.heap.size := hI.sz
    have cN0 : W.cell? ⟨N, 0, none⟩ = some (.int .i64 x.2.k) := by rw [World.cell?, hAt]; rfl
    have cN1 : W.cell? ⟨N, 1, none⟩ = some (.bool x.2.aye) := by rw [World.cell?, hAt]; rfl
    have cN2 : W.cell? ⟨N, 2, none⟩ = some (.int .i64 x.2.l) := by rw [World.cell?, hAt]; rfl
    have cN3 : W.cell? ⟨N, 3, none⟩ = some (.int .i64 x.2.a) := by rw [World.cell?, hAt]; rfl
    have cN4 : W.cell? ⟨N, 4, none⟩ = some (.int .i64 x.2.n) := by rw [World.cell?, hAt]; rfl
    have cN5 : W.cell? ⟨N, 5, none⟩ = some (.int .i64 x.2.s) := by rw [World.cell?, hAt]; rfl
    have HI := Lib.hid hI
    have HPH := Lib.hid hΦ
    have HPL := Lib.hid hpl2
    clear hI hΦ hm hpl hpl2 hAt
    gi_wp2_with (first
      | (refine wplIn_appR (r := castR) (y := x) rfl rfl rfl rfl ((OwnR.of HI.out.own (Nat.le_refl _) (fun k hk => Below.heap_alloc _ _ _ (HI.out.own.block hk).2))) (rangeAt_whole (T := 62) (by exact World.alloc_heap_new _ _)) (by have := HPL.out; omega) (by have h := hsW; rw [World.size_alloc]; omega) ?_; intro v' w3 hO hg3 hat3 hne; have cB : w3.cell? ⟨ob, 0, none⟩ = some (.slice ao1 pl cap1) := (World.cell?_of_block (a := ⟨ob, 0, none⟩) ((hg3.block ob (by rw [World.size_alloc]; omega) (fun e => by have := (HI.out.own.block e.symm).1; omega)).trans (Below.heap_alloc _ _ _ hlW))).trans c0; have fB : w3.frozen? ⟨ob, 0, none⟩ = false := ((HI.out.bx.alloc _).kept hg3 (fun e => by have := (HI.out.own.block e.symm).1; omega)).frozen; obtain ⟨ao2, m2, cap2, hm2, rfl⟩ : ∃ ao m cap, m = pre.length + 1 ∧ v' = .slice ao m cap := by { obtain ⟨a, c, e⟩ := hO.lenOf; exact ⟨a, _, c, by simp, e⟩ }; have hm3 : (m2 : Int) ≤ 100 := by { have := HPL.out; omega }; have hcmp : decide ((100 : Int) < (m2 : Int)) = false := decide_eq_false (by omega); have HO := Lib.hid hO; have HG3 := Lib.hid hg3; have HAT := Lib.hid hat3; clear hO hg3 hat3 hm2 hne)
      | fail)
    exact ColC.step HI.out l2 rfl ((Below.refl _ W).alloc (Nat.le_refl _) _) HO.out HG3.out HAT.out
  case done =>
    rintro D Φ W3 ⟨v3, hC⟩ hon hD hnD hK
    obtain ⟨x0, x1⟩ := HR.out
    have hkeep : ∀ k, k < ob → W3.heap[k]? = w1.heap[k]? := fun k hk => hon.block k (by omega) (by omega) (fun h => h)
    have y0 : Boxed W3 s 36 (.slice none 0 0) := (hkeep s (by omega)).trans x0
    have y1 : Boxed W3 rb 4 (.bool false) := (hkeep rb (by omega)).trans x1
    obtain ⟨ao1, cp1, rfl⟩ := hC.own.lenOf
    obtain ⟨m1, hm1⟩ : ∃ m, m = xs.length := ⟨_, rfl⟩
    rw [← hm1] at hC
    have c0 := hC.bx.cell
    have c2 := y0.cell
    have c4 := y1.cell
    have f2 := y0.frozen
    have f4 := y1.frozen
    have hiff := hC.iff
    have hpost : ∀ W5, W5 = (W3.setCell ⟨s, 0, none⟩ (.slice ao1 m1 cp1)).setCell ⟨rb, 0, none⟩ (.bool true) →
        W5.heap[D]? = some (.deferred (some [])) ∧ OwnR castR w.heap.size (.slice ao1 m1 cp1) xs (W5.putObj D (.deferred none)) ∧ Below w.heap.size w (W5.putObj D (.deferred none)) ∧
        (W5.putObj D (.deferred none)).cell? ⟨s, 0, none⟩ = some (.slice ao1 m1 cp1) ∧ (W5.putObj D (.deferred none)).cell? ⟨rb, 0, none⟩ = some (.bool true) := by
      intro W5 hW5
      obtain ⟨hs, hsz, hob⟩ := HS.out
      have hDl : D < W3.heap.size := (Array.getElem?_eq_some_iff.1 hK).1
      have hb : ∀ k, ob ≤ k → W5.heap[k]? = W3.heap[k]? := fun k hk => by
        rw [hW5, Below.heap_setCell _ _ _ k (by show k ≠ rb; omega), Below.heap_setCell _ _ _ k (by show k ≠ s; omega)]
      have b0 : Boxed W5 s 36 (.slice ao1 m1 cp1) := by
        rw [hW5]
        exact (Below.heap_setCell _ _ _ s (by show s ≠ rb; omega)).trans (y0.set _)
      have b2 : Boxed W5 rb 4 (.bool true) := by
        rw [hW5]
        have : Boxed (W3.setCell ⟨s, 0, none⟩ (.slice ao1 m1 cp1)) rb 4 (.bool false) := (Below.heap_setCell _ _ _ rb (by show rb ≠ s; omega)).trans y1
        exact this.set _
      have hput : ∀ k, k ≠ D → (W5.putObj D (.deferred none)).heap[k]? = W5.heap[k]? := fun k hk => put_other hk
      have hO2 := hon
      have hw2 := HB1.out.1
      refine ⟨(hb D (by omega)).trans hK, hC.own.of (by omega) (fun k hk => ?_), ⟨?_, ?_, ?_, ?_, fun k hk => ?_⟩, ((Boxed.cell (show Boxed (W5.putObj D (.deferred none)) s _ _ from (hput s (by omega)).trans b0))), ((Boxed.cell (show Boxed (W5.putObj D (.deferred none)) rb _ _ from (hput rb (by omega)).trans b2)))⟩
      · rw [hput k (fun e => hnD ((hiff D).2 (by rw [← e]; exact hk)))]; exact hb k (by have := (hC.own.block hk).1; omega)
      · rw [hW5]; exact hO2.grow.os.trans hw2.os
      · rw [hW5]; exact hO2.grow.tape.trans hw2.tape
      · rw [hW5]; exact hO2.grow.output.trans hw2.output
      · have h1 := hO2.grow.size; have h2 := hw2.size; rw [hW5]; simp [World.putObj, World.setCell]; omega
      · rw [hput k (by omega), hW5, Below.heap_setCell _ _ _ k (by show k ≠ rb; omega), Below.heap_setCell _ _ _ k (by show k ≠ s; omega), hO2.block k (by omega) (by omega) (fun h => h)]
        exact hw2.block k (by omega)
    have HP := Lib.hid hpost
    clear hpost hC hon hK hkeep y0 y1 x0 x1 hm1
    gi_wp2
    obtain ⟨W5, hW5⟩ : ∃ W5, W5 = (W3.setCell ⟨s, 0, none⟩ (.slice ao1 m1 cp1)).setCell ⟨rb, 0, none⟩ (.bool true) := ⟨_, rfl⟩
    rw [← hW5]
    obtain ⟨p1, p2, p4, p5, p7⟩ := HP.out W5 hW5
    refine ⟨by simp, .inl ⟨_, _, rfl, run_takeDeferred p1, ?_⟩⟩
    obtain ⟨W6, hW6⟩ : ∃ W6, W6 = W5.putObj D (.deferred none) := ⟨_, rfl⟩
    rw [← hW6] at p2 p4 p5 p7 ⊢
    clear hW6 hW5
    exact ⟨.tuple #[.slice ao1 m1 cp1, .bool true], by simp [results, Tryz.results16, go_sem, p5, p7], _, rfl, p2, p4⟩
  case stop =>
    rintro D Φ c pre W3 hpre h
    exact h.elim
end Go.Proofs.YtlnjcfgihklppaaGreat
