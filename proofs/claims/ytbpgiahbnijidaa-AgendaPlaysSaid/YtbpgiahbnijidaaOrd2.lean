/-
  AgendaOrder, walked.
-/
import Derived.Test.YtbpgiahbnijidaaOrd1
import Derived.Deep.WholeRow
import Derived.BigRegion
import Derived.RegionTactic
import Derived.Deep.DeepCutAuto
namespace Go.Proofs.Ytbpgiahbnijidaa
open Go.RowKit Go.Shelf
set_option linter.unusedVariables false
set_option linter.unusedSimpArgs false

def allocTask (h : Bool) (v : Value) : Sem Value := Instr.alloc 32 h v
theorem alloc_task (h : Bool) (v : Value) : Instr.alloc 32 h v = allocTask h v := rfl
theorem run_allocTask {ZT : Array Value} (hz : ((Try.prog.info? 32).bind (·.zero)) = some (.agg ZT)) (v : Value) (w : World) : (allocTask true v).run Try.prog w = .ok (.pointer (some ⟨w.heap.size, 0, none⟩)) (w.alloc (.cells ZT 32)) := by
  obtain ⟨i0, hi, hz0⟩ := Option.bind_eq_some_iff.1 hz
  unfold allocTask
  simp [Instr.alloc, zeroValue, typeInfo, hi, hz0, newVar, newRow, Value.cells, go_sem]
def storeTask (p v : Value) : Sem Unit := Instr.storeAt 32 p v
theorem store_task (p v : Value) : Instr.storeAt 32 p v = storeTask p v := rfl
theorem run_storeTask {w : World} {b : Nat} {t : Tk} {C : Array Value} (hh : w.heap[b]? = some (.cells C 32 (0, 0))) (hC : C.size = 36) : (storeTask (.pointer (some ⟨b, 0, none⟩)) (.agg (tc t).toArray)).run Try.prog w = .ok () (w.setRow b (tc t).toArray) := by
  simp only [storeTask, Instr.storeAt, Instr.sureAddr, Sem.run_bind, Sem.run_pure, Result.andThen_ok, run_storeVar_row w b 32 32 C (tc t).toArray hh (by rw [List.size_toArray, tc_len]; exact sizeT) (by simp [tc_len, hC]) (by rw [Array.all_eq_true_iff_forall_mem]; intro u hu; exact tc_one t u (by simpa using hu))]
theorem i64_and (x m : Int) (b : Nat) (hm : (BitVec.ofInt 64 m).toNat = b) (hb : b < 1000000) : ∃ y : Nat, bits .and .i64 x m = (y : Int) ∧ y ≤ b := by
  have h3 : (BitVec.ofInt 64 x).toNat &&& b ≤ b := Nat.and_le_right
  refine ⟨(BitVec.ofInt 64 x).toNat &&& b, ?_, h3⟩
  show IntKind.i64.wrap ((BitVec.ofInt 64 x &&& BitVec.ofInt 64 m).toNat : Int) = _
  rw [BitVec.toNat_and, hm, IntWalk.i64_in _ (by omega)]
theorem rangeAt_block' {w w' : World} {b k : Nat} {t : Tk} (h : w.rangeAt b k (tc t)) (hb : Below w.heap.size w w') : w'.rangeAt b k (tc t) := rangeAt_of_block h (hb.block b (rangeAt_lt' h))
theorem two_cells (w : World) (Z : Array Value) : ((w.alloc (.cells Z 32)).alloc (.cells Z 32)).drew.heap[w.heap.size]? = some (.cells Z 32 (0, 0)) ∧ ((w.alloc (.cells Z 32)).alloc (.cells Z 32)).drew.heap[w.heap.size + 1]? = some (.cells Z 32 (0, 0)) := by
  have h1 := World.alloc_heap_new w (.cells Z 32)
  have h2 := World.alloc_heap_new (w.alloc (.cells Z 32)) (.cells Z 32)
  rw [World.size_alloc] at h2
  exact ⟨(Below.heap_alloc _ _ _ (by simp)).trans h1, h2⟩
theorem range_set {w : World} {b k c : Nat} {t : Tk} (h : w.rangeAt b k (tc t)) (Z cs : Array Value) (hc : w.heap.size ≤ c) : (((w.alloc (.cells Z 32)).alloc (.cells Z 32)).drew.setRow c cs).rangeAt b k (tc t) := by
  have h1 := rangeAt_lt' h
  refine rangeAt_of_block h ?_
  rw [setRow_other _ _ _ _ (by omega)]
  exact (Below.heap_alloc _ _ _ (by simp; omega)).trans (Below.heap_alloc _ _ _ h1)
theorem two_new (w : World) : Two w w.heap.size (w.heap.size + 1) [] [] ((w.alloc (.cells #[.slice none 0 0] 57)).alloc (.cells #[.slice none 0 0] 57)) := by
  have b1 := Boxed.new w 57 (.slice none 0 0)
  have b2 := Boxed.new (w.alloc (.cells #[.slice none 0 0] 57)) 57 (.slice none 0 0)
  rw [World.size_alloc] at b2
  exact ⟨((Below.refl _ w).alloc (Nat.le_refl _) _).alloc (by simp) _, ⟨_, _, ⟨b1.alloc _, OwnT.nil _ _, (by intro h; cases h), Nat.le_refl _⟩, ⟨b2, OwnT.nil _ _, (by intro h; cases h), by omega⟩, (by intro k h; cases h)⟩, by omega⟩
/-- The tasks that AgendaOrder puts. -/
def ordF (l : List Tk) (i : Nat) : Tk := nrm (l.getD i (mkT 0 0)) (i : Nat) (bits .and .i64 (l.getD i (mkT 0 0)).due 63) (bits .and .i64 (l.getD i (mkT 0 0)).prio 7)
theorem ordF_ok (l : List Tk) (i : Nat) : ¬ BadT (ordF l i) ∧ (ordF l i).due ≤ 63 := by
  obtain ⟨y, h1, h2⟩ := i64_and (l.getD i (mkT 0 0)).due 63 63 (by decide) (by omega)
  obtain ⟨z, h3, h4⟩ := i64_and (l.getD i (mkT 0 0)).prio 7 7 (by decide) (by omega)
  unfold BadT ordF nrm
  dsimp only
  rw [h1, h3]
  omega
/-- Two tasks in places of their own. -/
structure Pair (w0 : World) (b9 b10 : Nat) (t u : Tk) (W : World) : Prop where
  old : Below w0.heap.size w0 W
  ne : b9 ≠ b10
  l9 : w0.heap.size ≤ b9
  l10 : w0.heap.size ≤ b10
  c9 : W.heap[b9]? = some (.cells (tc t).toArray 32 (0, 0))
  c10 : W.heap[b10]? = some (.cells (tc u).toArray 32 (0, 0))
theorem pair_new {w : World} {b9 b10 : Nat} {t u : Tk} (Z : Array Value) (h : (b9 = w.heap.size ∧ b10 = w.heap.size + 1) ∨ (b10 = w.heap.size ∧ b9 = w.heap.size + 1)) :
    Pair w b9 b10 t u ((((w.alloc (.cells Z 32)).alloc (.cells Z 32)).drew.setRow b9 (tc t).toArray).setRow b10 (tc u).toArray) ∧ Pair w b9 b10 t u ((((w.alloc (.cells Z 32)).alloc (.cells Z 32)).drew.setRow b10 (tc u).toArray).setRow b9 (tc t).toArray) := by
  obtain ⟨hz1, hz2⟩ := two_cells w Z
  have hz9 : ((w.alloc (.cells Z 32)).alloc (.cells Z 32)).drew.heap[b9]? = some (.cells Z 32 (0, 0)) := by rcases h with ⟨e, -⟩ | ⟨-, e⟩ <;> rw [e] <;> assumption
  have hz10 : ((w.alloc (.cells Z 32)).alloc (.cells Z 32)).drew.heap[b10]? = some (.cells Z 32 (0, 0)) := by rcases h with ⟨-, e⟩ | ⟨e, -⟩ <;> rw [e] <;> assumption
  have hB : Below w.heap.size w ((w.alloc (.cells Z 32)).alloc (.cells Z 32)).drew := (((Below.refl _ w).alloc (Nat.le_refl _) _).alloc (by simp) _).drew
  have hne : b9 ≠ b10 := by omega
  have h9 : w.heap.size ≤ b9 := by omega
  have h10 : w.heap.size ≤ b10 := by omega
  generalize ((w.alloc (.cells Z 32)).alloc (.cells Z 32)).drew = D at hz9 hz10 hB ⊢
  have row : ∀ (W : World) b cs, w.heap.size ≤ b → Below w.heap.size w W → Below w.heap.size w (W.setRow b cs) := fun W b cs hb h => h.trans ⟨rfl, rfl, rfl, by simp, fun k hk => setRow_other W b k cs (by omega)⟩
  refine ⟨⟨row _ _ _ h10 (row _ _ _ h9 hB), hne, h9, h10, ?_, ?_⟩, ⟨row _ _ _ h9 (row _ _ _ h10 hB), hne, h9, h10, ?_, ?_⟩⟩
  · rw [setRow_other _ _ _ _ hne]; exact setRow_heap _ _ _ _ _ _ hz9
  · exact setRow_heap _ _ _ _ _ _ ((setRow_other _ _ _ _ hne.symm).trans hz10)
  · exact setRow_heap _ _ _ _ _ _ ((setRow_other _ _ _ _ hne).trans hz9)
  · rw [setRow_other _ _ _ _ hne.symm]; exact setRow_heap _ _ _ _ _ _ hz10
theorem Pair.drew {w : World} {b9 b10 : Nat} {t u : Tk} {W : World} (h : Pair w b9 b10 t u W) : Pair w b9 b10 t u W.drew := ⟨h.old.drew, h.ne, h.l9, h.l10, h.c9, h.c10⟩
theorem Pair.swap {w : World} {b9 b10 : Nat} {t u : Tk} {W : World} (h : Pair w b9 b10 t u W) : Pair w b10 b9 u t W := ⟨h.old, h.ne.symm, h.l10, h.l9, h.c10, h.c9⟩
theorem Pair.set {w : World} {b9 b10 : Nat} {t u t' : Tk} {W : World} (h : Pair w b9 b10 t u W) (i : Nat) (x : Value) (ht : (tc t).toArray.setIfInBounds i x = (tc t').toArray) : Pair w b9 b10 t' u (W.setCell ⟨b9, i, none⟩ x) :=
  ⟨h.old.trans ⟨rfl, rfl, rfl, by simp [World.setCell], fun k hk => heap_setCell_other _ _ _ _ (by show k ≠ b9; have := h.l9; omega)⟩, h.ne, h.l9, h.l10, by rw [← ht]; exact heap_setCell_same _ _ _ _ _ _ h.c9, (heap_setCell_other _ _ _ _ (by show b10 ≠ b9; exact h.ne.symm)).trans h.c10⟩
theorem Pair.cell {w : World} {b9 b10 : Nat} {t u : Tk} {W : World} (h : Pair w b9 b10 t u W) (i : Nat) : W.cell? ⟨b9, i, none⟩ = (tc t)[i]? := by
  rw [World.cell?, h.c9]; simp
theorem Pair.frozen {w : World} {b9 b10 : Nat} {t u : Tk} {W : World} (h : Pair w b9 b10 t u W) (i : Nat) : W.frozen? ⟨b9, i, none⟩ = false := frozen_of_row _ _ _ _ _ h.c9
/-- A new number in the i-th place. -/
def put0 (t : Tk) (x : Int) : Tk := ⟨x, t.due, t.prio, t.sum, t.track, t.ok⟩
def put1 (t : Tk) (x : Int) : Tk := ⟨t.name, x, t.prio, t.sum, t.track, t.ok⟩
def put2 (t : Tk) (x : Int) : Tk := ⟨t.name, t.due, x, t.sum, t.track, t.ok⟩
theorem set0 (t : Tk) (x : Int) : (tc t).toArray.setIfInBounds 0 (.int .i64 x) = (tc (put0 t x)).toArray := by simp [tc, put0]
theorem set1 (t : Tk) (x : Int) : (tc t).toArray.setIfInBounds 1 (.int .i64 x) = (tc (put1 t x)).toArray := by simp [tc, put1]
theorem set2 (t : Tk) (x : Int) : (tc t).toArray.setIfInBounds 2 (.int .i64 x) = (tc (put2 t x)).toArray := by simp [tc, put2]
attribute [local go_sem ↓] loadAt_task alloc_task store_task
set_option maxHeartbeats 4000000 in
set_option maxRecDepth 100000 in
theorem agendaOrder_main (v : Value) (l : List Tk) (k0 : Int) (w : World) (hr : RdT w v l) (h1 : 1 ≤ l.length) (h2 : l.length ≤ 12) :
    Calls Try.prog 4 #[v, .int .i64 k0] w fun e w' => e = .returned (.bool true) ∧ Below w.heap.size w w' := by
  obtain ⟨ao, cap, rfl⟩ := hr.lenOf
  obtain ⟨L, hL⟩ : ∃ L, L = l.length := ⟨_, rfl⟩
  rw [← hL] at hr h1 h2 ⊢
  have HR := Lib.hid hr
  have HL := Lib.hid hL
  clear hr hL
  obtain ⟨kk, hkk, hkk2⟩ := i64_and k0 1023 1023 (by decide) (by omega)
  have hLp : (1 : Int) ≤ (L : Int) := by omega
  have hL0 : ¬ ((L : Int) = 0) := by omega
  have hL12 : (L : Int) ≤ 12 := by omega
  have GL : decide ((12 : Int) < (L : Int)) = false := by simp; omega
  obtain ⟨n, hn⟩ : ∃ n, n = kk % L := ⟨_, rfl⟩
  have hnL : n < L := by rw [hn]; exact Nat.mod_lt _ (by omega)
  have HT : (kk : Int).tmod (L : Int) = (n : Int) := by rw [hn, Int.tmod_eq_emod_of_nonneg (by omega)]; omega
  clear hn
  obtain ⟨Z, hZ, hZs⟩ := zeroTA
  have RA := run_allocTask hZ
  clear hZ
  obtain ⟨g1, hg1⟩ : ∃ g1, g1 = w.heap.size := ⟨_, rfl⟩
  obtain ⟨g2, hg2⟩ : ∃ g2, g2 = g1 + 1 := ⟨_, rfl⟩
  go_enter Try.func4, Try.ntmps4
  go_wp2_with (first
    | (go_at_call 11; refine (agenda_New _).mono ?_; rintro e w1 ⟨rfl, rfl⟩)
    | fail)
  have h2n := two_new w
  obtain ⟨W0, hW0⟩ : ∃ W0, W0 = ((w.alloc (.cells #[.slice none 0 0] 57)).alloc (.cells #[.slice none 0 0] 57)) := ⟨_, rfl⟩
  rw [← hW0] at h2n ⊢
  rw [← hg1] at h2n ⊢
  rw [← hg2] at h2n ⊢
  have H2 := Lib.hid h2n
  clear h2n hW0 hg1 hg2 hkk
  go_loopw [8] (fun i wr => ∃ (k : Nat) (xs ys : List Tk), k ≤ L ∧ i = .int .i64 k ∧ Puts (ordF l) k xs ∧ Puts (fun i => ordF l (rot L n i)) k ys ∧ Two w g1 g2 xs ys wr) (fun i _ => L - (intOf i).toNat)
  case atStart => exact ⟨0, [], [], by omega, rfl, Puts.nil _, Puts.nil _, H2.out⟩
  case round =>
    obtain ⟨k, xs, ys, hk, rfl, hx, hy, h2w⟩ := hrel
    clear H2
    by_cases hlt : k < L
    · have hlt' : (k : Int) < L := by omega
      obtain ⟨r, hr⟩ : ∃ r, r = rot L n k := ⟨_, rfl⟩
      have hrL : r < L := by rw [hr]; exact rot_lt hnL hlt
      obtain ⟨q, hq⟩ : ∃ q, q = k + n := ⟨_, rfl⟩
      have WQ := n64_add k n q hq.symm (by omega)
      have HTQ : (q : Int).tmod (L : Int) = (r : Int) := by
        rw [hq, Int.tmod_eq_emod_of_nonneg (by omega), hr, ← rot_mod hnL hlt]; omega
      have hrr := HR.out.below h2w.old
      have hkl : k < l.length := by have := HL.out; omega
      have hrl : r < l.length := by have := HL.out; omega
      obtain ⟨b, off, rfl, r1, -⟩ := hrr.at hkl
      obtain ⟨b', off', hbb, r2, -⟩ := hrr.at hrl
      have ek : l[k] = l.getD k (mkT 0 0) := by simp [hkl]
      have er : l[r] = l.getD r (mkT 0 0) := by simp [hrl]
      rw [ek] at r1
      rw [er] at r2
      clear ek er hkl hrl
      injection hbb with hbb
      injection hbb with e1 e2
      subst e1 e2
      obtain ⟨t, ht⟩ : ∃ t, t = l.getD k (mkT 0 0) := ⟨_, rfl⟩
      obtain ⟨u, hu⟩ : ∃ u, u = l.getD r (mkT 0 0) := ⟨_, rfl⟩
      rw [← ht] at r1
      rw [← hu] at r2
      have LA := run_loadTask_at r1
      have LB := run_loadTask_at r2
      have ra1 := rangeAt_block' r1 (Below.refl _ wr |>.alloc (Nat.le_refl _) (.cells Z 32))
      have rb1 := rangeAt_block' r2 (Below.refl _ wr |>.alloc (Nat.le_refl _) (.cells Z 32))
      have ra2 := rangeAt_block' r1 ((Below.refl _ wr |>.alloc (Nat.le_refl _) (.cells Z 32)).alloc (by simp) (.cells Z 32))
      have rb2 := rangeAt_block' r2 ((Below.refl _ wr |>.alloc (Nat.le_refl _) (.cells Z 32)).alloc (by simp) (.cells Z 32))
      have LA1 := run_loadTask_at (rangeAt_drew r1)
      have LB1 := run_loadTask_at (rangeAt_drew r2)
      have LA2 := run_loadTask_at (rangeAt_drew ra1)
      have LB2 := run_loadTask_at (rangeAt_drew rb1)
      have LA3 := run_loadTask_at (rangeAt_drew ra2)
      have LB3 := run_loadTask_at (rangeAt_drew rb2)
      clear ra1 rb1 ra2 rb2
      have LA4 := run_loadTask_at (range_set r1 Z (tc t).toArray (Nat.le_refl _))
      have LA5 := run_loadTask_at (range_set r1 Z (tc u).toArray (Nat.le_refl _))
      have LA6 := run_loadTask_at (range_set r1 Z (tc t).toArray (Nat.le_succ _))
      have LA7 := run_loadTask_at (range_set r1 Z (tc u).toArray (Nat.le_succ _))
      have LB4 := run_loadTask_at (range_set r2 Z (tc t).toArray (Nat.le_refl _))
      have LB5 := run_loadTask_at (range_set r2 Z (tc u).toArray (Nat.le_refl _))
      have LB6 := run_loadTask_at (range_set r2 Z (tc t).toArray (Nat.le_succ _))
      have LB7 := run_loadTask_at (range_set r2 Z (tc u).toArray (Nat.le_succ _))
      obtain ⟨hz1, hz2⟩ := two_cells wr Z
      have hne1 : wr.heap.size ≠ wr.heap.size + 1 := by omega
      have hne2 : wr.heap.size + 1 ≠ wr.heap.size := by omega
      have ST1 := run_storeTask (t := t) hz1 hZs
      have ST2 := run_storeTask (t := u) hz1 hZs
      have ST3 := run_storeTask (t := t) hz2 hZs
      have ST4 := run_storeTask (t := u) hz2 hZs
      have SS1 := run_storeTask (t := u) ((setRow_other _ _ _ (tc t).toArray hne2).trans hz2) hZs
      have SS2 := run_storeTask (t := t) ((setRow_other _ _ _ (tc u).toArray hne2).trans hz2) hZs
      have SS3 := run_storeTask (t := u) ((setRow_other _ _ _ (tc t).toArray hne1).trans hz1) hZs
      have SS4 := run_storeTask (t := t) ((setRow_other _ _ _ (tc u).toArray hne1).trans hz1) hZs
      clear hz1 hz2 hne1 hne2
      have HX := Lib.hid hx
      have HY := Lib.hid hy
      have H2 := Lib.hid h2w
      have HT1 := Lib.hid ht
      have HU1 := Lib.hid hu
      have HRR := Lib.hid hr
      have HK := Lib.hid hk
      clear hx hy h2w ht hu hr hq hk hrr r1 r2
      go_upto_region 10 with fail
      go_cut [9, 10] (fun p9 p10 wx => ∃ b9 b10, p9 = .pointer (some ⟨b9, 0, none⟩) ∧ p10 = .pointer (some ⟨b10, 0, none⟩) ∧ Pair wr b9 b10 t u wx)
      case first =>
        go_region
        all_goals go_wp2_with fail
        all_goals go_meet
        all_goals first
          | exact ⟨_, _, rfl, rfl, (pair_new Z (.inl ⟨rfl, rfl⟩)).1⟩
          | exact ⟨_, _, rfl, rfl, (pair_new Z (.inl ⟨rfl, rfl⟩)).2⟩
          | exact ⟨_, _, rfl, rfl, (pair_new Z (.inr ⟨rfl, rfl⟩)).1⟩
          | exact ⟨_, _, rfl, rfl, (pair_new Z (.inr ⟨rfl, rfl⟩)).2⟩
      case rest =>
        obtain ⟨b9, b10, rfl, rfl, hp⟩ := hcut
        have C9 : wc.cell? ⟨b9, 0, none⟩ = some (.int .i64 t.name) := by rw [hp.cell]; rfl
        have C10 : wc.cell? ⟨b10, 0, none⟩ = some (.int .i64 u.name) := by rw [hp.swap.cell]; rfl
        have F9 := hp.frozen 0
        have F10 := hp.swap.frozen 0
        have N1 : ¬ b9 = b10 := hp.ne
        have N2 : ¬ b10 = b9 := hp.ne.symm
        have HP := Lib.hid hp
        clear hp
        go_upto_region 11 with fail
        go_cut [] (fun wx => Pair wr b9 b10 (put0 t k) (put0 u r) wx)
        case first =>
          go_region
          all_goals go_wp2_with fail
          all_goals go_meet
          all_goals first
            | exact ((HP.out.set 0 _ (set0 _ _)).swap.set 0 _ (set0 _ _)).swap.drew
            | exact ((HP.out.swap.set 0 _ (set0 _ _)).swap.set 0 _ (set0 _ _)).drew
            | exact ((HP.out.drew.set 0 _ (set0 _ _)).swap.set 0 _ (set0 _ _)).swap
            | exact ((HP.out.drew.swap.set 0 _ (set0 _ _)).swap.set 0 _ (set0 _ _))
        case rest =>
          have hp := hcut
          clear hcut HP C9 C10 F9 F10 N1 N2
          have C9 : wc.cell? ⟨b9, 1, none⟩ = some (.int .i64 t.due) := by rw [hp.cell]; rfl
          have C10 : wc.cell? ⟨b10, 1, none⟩ = some (.int .i64 u.due) := by rw [hp.swap.cell]; rfl
          have F9 := hp.frozen 1
          have F10 := hp.swap.frozen 1
          have N1 : ¬ b9 = b10 := hp.ne
          have N2 : ¬ b10 = b9 := hp.ne.symm
          have HP := Lib.hid hp
          clear hp
          go_upto_region 12 with fail
          go_cut [] (fun wx => Pair wr b9 b10 (put1 (put0 t k) (bits .and .i64 t.due 63)) (put1 (put0 u r) (bits .and .i64 u.due 63)) wx)
          case first =>
            go_region
            all_goals go_wp2_with fail
            all_goals go_meet
            all_goals first
              | exact ((HP.out.set 1 _ (set1 _ _)).swap.set 1 _ (set1 _ _)).swap.drew
              | exact ((HP.out.swap.set 1 _ (set1 _ _)).swap.set 1 _ (set1 _ _)).drew
              | exact ((HP.out.drew.set 1 _ (set1 _ _)).swap.set 1 _ (set1 _ _)).swap
              | exact ((HP.out.drew.swap.set 1 _ (set1 _ _)).swap.set 1 _ (set1 _ _))
          case rest =>
            have hp := hcut
            clear hcut HP C9 C10 F9 F10 N1 N2
            have C9 : wc.cell? ⟨b9, 2, none⟩ = some (.int .i64 t.prio) := by rw [hp.cell]; rfl
            have C10 : wc.cell? ⟨b10, 2, none⟩ = some (.int .i64 u.prio) := by rw [hp.swap.cell]; rfl
            have F9 := hp.frozen 2
            have F10 := hp.swap.frozen 2
            have N1 : ¬ b9 = b10 := hp.ne
            have N2 : ¬ b10 = b9 := hp.ne.symm
            have HP := Lib.hid hp
            clear hp
            go_upto_region 13 with fail
            go_cut [] (fun wx => Pair wr b9 b10 (put2 (put1 (put0 t k) (bits .and .i64 t.due 63)) (bits .and .i64 t.prio 7)) (put2 (put1 (put0 u r) (bits .and .i64 u.due 63)) (bits .and .i64 u.prio 7)) wx)
            case first =>
              go_region
              all_goals go_wp2_with fail
              all_goals go_meet
              all_goals first
                | exact ((HP.out.set 2 _ (set2 _ _)).swap.set 2 _ (set2 _ _)).swap.drew
                | exact ((HP.out.swap.set 2 _ (set2 _ _)).swap.set 2 _ (set2 _ _)).drew
                | exact ((HP.out.drew.set 2 _ (set2 _ _)).swap.set 2 _ (set2 _ _)).swap
                | exact ((HP.out.drew.swap.set 2 _ (set2 _ _)).swap.set 2 _ (set2 _ _))
            case rest =>
              have hp := hcut
              clear hcut HP C9 C10 F9 F10 N1 N2
              have eA : put2 (put1 (put0 t k) (bits .and .i64 t.due 63)) (bits .and .i64 t.prio 7) = ordF l k := by rw [HT1.out]; rfl
              have eB : put2 (put1 (put0 u r) (bits .and .i64 u.due 63)) (bits .and .i64 u.prio 7) = ordF l r := by rw [HU1.out]; rfl
              rw [eA, eB] at hp
              have hx := HX.out
              have hy := HY.out
              obtain ⟨pA, qA⟩ := hx.put (ordF_ok l k).1 (by omega) (fun i hi => by show ((i : Nat) : Int) ≠ ((k : Nat) : Int); omega)
              obtain ⟨pB, qB⟩ := hy.put (ordF_ok l _).1 (by omega) (fun i hi => by
                show ((rot L n i : Nat) : Int) ≠ ((rot L n k : Nat) : Int)
                intro e
                have := rot_inj hnL (show i < L by omega) hlt (by omega)
                omega)
              rw [← HRR.out] at pB qB
              obtain ⟨A, hA⟩ : ∃ A, A = ordF l k := ⟨_, rfl⟩
              obtain ⟨B, hB⟩ : ∃ B, B = ordF l r := ⟨_, rfl⟩
              rw [← hA, ← hB] at hp
              rw [← hA] at pA qA
              rw [← hB] at pB qB
              have HP := Lib.hid hp
              have PA := Lib.hid pA
              have PB := Lib.hid pB
              have QA := Lib.hid qA
              have QB := Lib.hid qB
              have LX := Lib.hid (show xs.length ≤ 12 by rw [hx.len]; omega)
              have LY := Lib.hid (show ys.length ≤ 12 by rw [hy.len]; omega)
              have SX := Lib.hid hx.srt
              have SY := Lib.hid hy.srt
              have K12 := Lib.hid (show k + 1 ≤ L by omega)
              clear hp pA pB qA qB hA hB eA eB hx hy WQ HTQ
              go_wp2_with (first
                | (refine wpl_loadT (t := A) _ rfl rfl rfl (rangeAt_box HP.out.c9) ?_)
                | (go_at_call 12; with_reducible refine (Two.put A H2.out HP.out.old SX.out LX.out).mono ?_; rw [PA.out]; rintro e w2 ⟨rfl, h2, hkp⟩; have c10 := (hkp b10 HP.out.l10 (Array.getElem?_eq_some_iff.1 HP.out.c10).1).trans HP.out.c10; have H3 := Lib.hid h2.swap; have C10 := Lib.hid c10; clear h2 hkp c10)
                | (refine wpl_loadT_g (t := B) _ (by rfl) rfl rfl (rangeAt_box C10.out) ?_)
                | (go_at_call 12; with_reducible refine (Two.put B H3.out (Below.refl _ _) SY.out LY.out).mono ?_; rw [PB.out]; rintro e w3 ⟨rfl, h3, -⟩; have H4 := Lib.hid h3.swap; clear h3)
                | fail)
              go_roundw
              case rel => exact ⟨k + 1, _, _, K12.out, by go_num, QA.out, QB.out, H4.out⟩
              case measure => simp [intOf]; have := K12.out; omega
    · have hkL : k = L := by omega
      rw [hkL] at hx hy
      have hyx := puts_eq hnL hx hy
      have hlen := hx.len
      have hdue : dueL xs 63 100 = xs := dueL_all (fun t ht => by obtain ⟨i, -, rfl⟩ := (hx.mem t).1 ht; exact (ordF_ok l i).2) (.inr (by omega))
      rw [hyx] at h2w
      have hl12 : xs.length ≤ 12 := by omega
      have hl900 : xs.length ≤ 900 := by omega
      have GK : ¬ ((k : Int) < (L : Int)) := by omega
      have HX1 := Lib.hid h2w.one
      have HY0 := Lib.hid h2w.other
      have HLEN := Lib.hid hlen
      have HDU := Lib.hid hdue
      have L12 := Lib.hid hl12
      have L900 := Lib.hid hl900
      clear hx hy hyx hlen hdue h2w hl12 hl900 hkL hlt hk
      obtain ⟨wq, hwq⟩ : ∃ wq, wq = wr := ⟨_, rfl⟩
      subst hwq
      go_wp2_with (first
        | (go_at_call 19; with_reducible refine (st_all HX1.out L12.out).mono ?_; rintro e w1 ⟨v1, rfl, ho1, hb1⟩; have HO1 := Lib.hid ho1; have HB1 := Lib.hid hb1; have HY1 := Lib.hid (HY0.out.later hb1); clear ho1 hb1)
        | (go_at_call 19; with_reducible refine (st_all HY1.out L12.out).mono ?_; rintro e w2 ⟨v2, rfl, ho2, hb2⟩; have HO2 := Lib.hid (HO1.out.of (Nat.le_refl _) (fun k hk => hb2.block k (HO1.out.block hk).2)); have HR2 := Lib.hid ho2.reads; have HB2 := Lib.hid (HB1.out.trans (hb2.mono HB1.out.size)); clear ho2 hb2)
        | (go_at_call 16; with_reducible refine (law_same v1 v2 xs _ HO2.out.reads HR2.out L900.out).mono ?_; rintro e w3 ⟨rfl, hb3⟩; have HO3 := Lib.hid (HO2.out.of (Nat.le_refl _) (fun k hk => hb3.block k (HO2.out.block hk).2)); have HB3 := Lib.hid (HB2.out.trans (hb3.mono HB2.out.size)); clear hb3)
        | (go_at_call 17; with_reducible refine (st_due_new 63 100 HX1.out HB3.out L12.out).mono ?_; rw [HDU.out]; rintro e w4 ⟨vd, rfl, hrd, hs4, hk4⟩; have HO4 := Lib.hid (HO3.out.of (Nat.le_refl _) (fun k hk => hk4 k (HO3.out.block hk).1 (HO3.out.block hk).2)); have HRD := Lib.hid hrd; have HS4 := Lib.hid hs4; clear hrd hs4 hk4)
        | (go_at_call 16; with_reducible refine (law_same vd v1 xs _ HRD.out HO4.out.reads L900.out).mono ?_; rintro e w5 ⟨rfl, hb5⟩; have HS5 := Lib.hid (HS4.out.later hb5); clear hb5)
        | (go_at_call 20; with_reducible refine (st_len HS5.out).mono ?_; rw [show ((xs.drop xs.length).length : Nat) = 0 from by simp]; rintro e w6 ⟨rfl, rfl⟩)
        | (go_at_call 21; with_reducible refine (law_known _).mono ?_; rintro e wk ⟨rfl, hk⟩; have HK := Lib.hid hk; clear hk)
        | fail)
      exact bodyPost_ret (v := .bool true) (by simp [results, Try.results4, go_sem]) rfl ⟨rfl, (by obtain ⟨_, _, hB⟩ := HS5.out; exact hB.trans (HK.out.mono hB.size))⟩
end Go.Proofs.Ytbpgiahbnijidaa
