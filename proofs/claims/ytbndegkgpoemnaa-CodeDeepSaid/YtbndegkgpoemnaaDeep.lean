/-
  The law CodeDeep, walked.
-/
import Derived.Test.YtbndegkgpoemnaaKn7
import Derived.Test.YtbndegkgpoemnaaRowTy
import Derived.Deep.DeepCutAuto
import Derived.Deep.CutBlock
namespace Go.Proofs.Ytbndegkgpoemnaa
open Go.RowKit
set_option linter.unusedVariables false
set_option linter.unusedSimpArgs false

/-- A call, none of whose calls lies in block z. -/
def RdO (z : Nat) (w : World) : Nat → Value → Cl → Prop
  | 0, _, _ => False
  | d + 1, v, c => ∃ ao cap, v = .agg #[.int .i64 c.k, .int .i64 c.t, .int .i64 c.n, .slice ao c.kids.length cap] ∧
      ∀ i (hi : i < c.kids.length), ∃ b off vs, ao = some ⟨b, off, none⟩ ∧ (b < w.heap.size ∧ b ≠ z) ∧ w.rangeAt b (off + i * 4) vs ∧ RdO z w d (.agg vs.toArray) c.kids[i]
theorem RdO.toC {z : Nat} {w : World} : ∀ {d : Nat} {v : Value} {c : Cl}, RdO z w d v c → RdC w d v c
  | 0, _, _, h => h.elim
  | d + 1, v, c, ⟨ao, cap, e, h⟩ => ⟨ao, cap, e, fun i hi => by
    obtain ⟨b, off, vs, e1, e2, e3, e4⟩ := h i hi
    exact ⟨b, off, vs, e1, e2.1, e3, RdO.toC e4⟩⟩
theorem RdO.keep {z : Nat} {w w' : World} (hs : w.heap.size ≤ w'.heap.size) (hk : ∀ k, k < w.heap.size → k ≠ z → w'.heap[k]? = w.heap[k]?) : ∀ {d : Nat} {v : Value} {c : Cl}, RdO z w d v c → RdO z w' d v c
  | 0, _, _, h => h.elim
  | d + 1, v, c, ⟨ao, cap, e, h⟩ => ⟨ao, cap, e, fun i hi => by
    obtain ⟨b, off, vs, e1, e2, e3, e4⟩ := h i hi
    exact ⟨b, off, vs, e1, ⟨Nat.lt_of_lt_of_le e2.1 hs, e2.2⟩, rangeAt_keep e3 (hk b e2.1 e2.2), RdO.keep hs hk e4⟩⟩
def nest : Nat → Cl
  | 0 => .mk 1 0 1 []
  | i + 1 => .mk 5 0 0 [nest i]
def wide (j : Nat) : Cl := .mk 5 0 0 ((List.range j).map fun i => .mk 1 0 (i : Nat) [])
theorem nest_ok {n : Nat} (h : n ≤ 6) : okC 3 (nest n) = decide ((n : Int) ≤ 3) := by
  have : n = 0 ∨ n = 1 ∨ n = 2 ∨ n = 3 ∨ n = 4 ∨ n = 5 ∨ n = 6 := by omega
  rcases this with rfl | rfl | rfl | rfl | rfl | rfl | rfl <;> decide +kernel
theorem wide_ok {n : Nat} (h : n ≤ 6) : okC 3 (wide n) = (decide ((1 : Int) ≤ n) && decide ((n : Int) ≤ 4)) := by
  have : n = 0 ∨ n = 1 ∨ n = 2 ∨ n = 3 ∨ n = 4 ∨ n = 5 ∨ n = 6 := by omega
  rcases this with rfl | rfl | rfl | rfl | rfl | rfl | rfl <;> decide +kernel
/-- The state of the first loop. -/
structure Nst (w : World) (cb j : Nat) (W : World) : Prop where
  old : Below w.heap.size w W
  at_ : ∃ vs : List Value, W.heap[cb]? = some (.cells vs.toArray 28 (0, 0)) ∧ RdO cb W (j + 1) (.agg vs.toArray) (nest j)
theorem Nst.step {w W W1 W2 : World} {cb j : Nat} (hc : w.heap.size ≤ cb) (h : Nst w cb j W) {vs : List Value} (hvs : W.heap[cb]? = some (.cells vs.toArray 28 (0, 0)))
    (h1 : W1 = W.alloc (.cells vs.toArray 28)) (h2 : W2 = W1.setRow cb #[.int .i64 5, .int .i64 0, .int .i64 0, .slice (some ⟨W.heap.size, 0, none⟩) 1 1]) : Nst w cb (j + 1) W2 := by
  obtain ⟨vs0, hat, hrd⟩ := h.at_
  have hlt : cb < W.heap.size := (Array.getElem?_eq_some_iff.1 hat).1
  have e : vs = vs0 := by
    rw [hvs] at hat
    injection hat with hat
    injection hat with hat
    simpa using congrArg Array.toList hat
  subst e
  have hb1 : Below W.heap.size W W1 := by rw [h1]; exact (Below.refl _ W).alloc (Nat.le_refl _) _
  have hs1 : W1.heap.size = W.heap.size + 1 := by rw [h1]; simp
  have hs2 : W2.heap.size = W.heap.size + 1 := by rw [h2]; simp [hs1]
  have hat1 := (hb1.block cb hlt).trans hvs
  have hk2 : ∀ k, k ≠ cb → W2.heap[k]? = W1.heap[k]? := fun k hk => by rw [h2]; exact setRow_other _ _ _ _ hk
  have hnew : W1.heap[W.heap.size]? = some (.cells vs.toArray 28 (0, 0)) := by rw [h1]; exact World.alloc_heap_new _ _
  refine ⟨h.old.trans ((hb1.mono h.old.size).trans ⟨by rw [h2]; rfl, by rw [h2]; rfl, by rw [h2]; rfl, by omega, fun k hk => hk2 k (by omega)⟩), [.int .i64 5, .int .i64 0, .int .i64 0, .slice (some ⟨W.heap.size, 0, none⟩) 1 1], ?_, ?_⟩
  · rw [h2]; exact setRow_heap _ _ _ _ _ _ hat1
  · refine ⟨some ⟨W.heap.size, 0, none⟩, 1, rfl, fun i hi => ?_⟩
    have hi0 : i = 0 := by
      have : i < [nest j].length := hi
      simpa using this
    subst hi0
    refine ⟨W.heap.size, 0, vs, rfl, ⟨by omega, by omega⟩, ?_, ?_⟩
    · refine rangeAt_keep (w := W1) ?_ (hk2 _ (by omega))
      intro k u hk
      rw [Nat.zero_mul, Nat.add_zero, Nat.zero_add, World.cell?, hnew]; simpa using hk
    · exact RdO.keep (by omega) (fun k hk hne => (hk2 k hne).trans (hb1.block k hk)) hrd
theorem wpl_storeC {w : World} {ops : Array Oper} {rest : List Oper} {o : Oper} {a : Act} {Q : Exit → Act → World → Prop} {b : Nat} {old vs : Array Value} (x y : Operand) (hgd : o.guard = none) (ho : o.op = .store 28 x y) (hx : a.eval x = .pointer (some ⟨b, 0, none⟩)) (hy : a.eval y = .agg vs)
    (hh : w.heap[b]? = some (.cells old 28 (0, 0))) (hl : vs.size = 4) (hl0 : old.size = 4) (h1 : vs.all (fun u => u.oneCell') = true)
    (h : wpList Try.prog ops Q rest (a.put o.dst undef) (w.setRow b vs)) : wpList Try.prog ops Q (o :: rest) a w := by
  refine wpList_plain hgd fun K hK => ?_
  unfold Oper.wp execOp
  have hr : (Instr.storeAt 28 (.pointer (some ⟨b, 0, none⟩)) (.agg vs)).run Try.prog w = .ok () (w.setRow b vs) := by
    simp only [Instr.storeAt, Instr.sureAddr, Sem.run_bind, Sem.run_pure, Result.andThen_ok, run_storeVar_row w b 28 28 old vs hh (by rw [hl]; exact sizeC) (by rw [hl, hl0]) h1]
  simp only [ho, hx, hy, Sem.run_bind, Sem.run_pure, hr, Result.andThen_ok]
  exact hK _ _ h
theorem callInfo : (Try.prog.info? 28).map (fun i => (i.zero, i.size, i.bytes)) = some (some (.agg #[.int .i64 0, .int .i64 0, .int .i64 0, .slice none 0 0]), 4, 48) := by kernel_rfl
def kc (i : Nat) : List Value := [.int .i64 1, .int .i64 0, .int .i64 (i : Int), .slice none 0 0]
def kidR : RowTy Try.prog Nat where
  T := 28
  S := 26
  k := 4
  f := kc
  len := fun _ => rfl
  one := fun x u hu => by
    simp only [kc, List.mem_cons, List.not_mem_nil, or_false] at hu
    rcases hu with rfl | rfl | rfl | rfl <;> rfl
  pos := by decide
  small := by decide
  slice := Try.underlying26
  info := by
    obtain ⟨i0, hi, hz⟩ := Option.map_eq_some_iff.1 callInfo
    simp only [Prod.mk.injEq] at hz
    obtain ⟨h1, h2, h3⟩ := hz
    exact ⟨i0, _, _, hi, h1, h2, rfl, h3, by decide⟩
  row := ⟨_, Try.underlying28, rfl⟩
theorem rdC_wide {w : World} {v : Value} {j : Nat} (h : RdR kidR w v (List.range j)) : ∃ ao cap, v = .slice ao j cap ∧ RdC w 2 (.agg #[.int .i64 5, .int .i64 0, .int .i64 0, .slice ao j cap]) (wide j) := by
  obtain ⟨ao, cap, rfl⟩ := h.lenOf
  rw [List.length_range] at h ⊢
  have hk : (wide j).kids.length = j := by simp [wide, Cl.kids]
  refine ⟨ao, cap, rfl, ao, cap, by rw [hk]; rfl, fun i hi => ?_⟩
  have hij : i < j := by rw [hk] at hi; exact hi
  obtain ⟨b, off, e1, e2, e3⟩ := h.at (i := i) (by simpa using hij)
  refine ⟨b, off, kc i, e1, e3, ?_, ?_⟩
  · have : (List.range j)[i]'(by simpa using hij) = i := by simp
    rw [this] at e2
    exact e2
  · have hkid : (wide j).kids[i] = .mk 1 0 (i : Nat) [] := by simp [wide, Cl.kids]
    rw [hkid]
    exact rdC0
theorem ones4 (a b c : Int) (ao : Option Addr) (m n : Nat) : (#[Value.int .i64 a, .int .i64 b, .int .i64 c, .slice ao m n].all (fun u => u.oneCell')) = true := by simp [Value.oneCell']
/-- The state of the second loop. -/
structure Wid (w1 : World) (db j : Nat) (W : World) : Prop where
  old : Below w1.heap.size w1 W
  lo : w1.heap.size ≤ db
  at_ : ∃ v, W.heap[db]? = some (.cells #[.int .i64 5, .int .i64 0, .int .i64 0, v] 28 (0, 0)) ∧ OwnR kidR (db + 1) v (List.range j) W
theorem Wid.step {w1 W W2 : World} {db j : Nat} {v v' : Value} (h : Wid w1 db j W) (hat : W.heap[db]? = some (.cells #[.int .i64 5, .int .i64 0, .int .i64 0, v] 28 (0, 0))) (ho : OwnR kidR (db + 1) v (List.range j) W)
    (hO : OwnR kidR (db + 1) v' (List.range j ++ [j]) W2) (hg : (W.alloc (.cells (kc j).toArray 28)).grownBy W2 v.ownBlock) : W2.heap[db]? = some (.cells #[.int .i64 5, .int .i64 0, .int .i64 0, v] 28 (0, 0)) ∧ Wid w1 db (j + 1) (W2.setCell ⟨db, 3, none⟩ v') := by
  have hlt : db < W.heap.size := (Array.getElem?_eq_some_iff.1 hat).1
  have hb1 : Below W.heap.size W (W.alloc (.cells (kc j).toArray 28)) := (Below.refl _ W).alloc (Nat.le_refl _) _
  have hs1 : (W.alloc (.cells (kc j).toArray 28)).heap.size = W.heap.size + 1 := by simp
  have hat2 : W2.heap[db]? = some (.cells #[.int .i64 5, .int .i64 0, .int .i64 0, v] 28 (0, 0)) := by
    rw [hg.block db (by omega) (fun e => by have := (ho.block e.symm).1; omega), hb1.block db hlt]; exact hat
  refine ⟨hat2, ?_, h.lo, v', ?_, ?_⟩
  · have h0 := h.old.size
    have h1 := h.lo
    have hb3 : Below w1.heap.size w1 W2 := Below.grown (h.old.alloc h0 _) hg (by omega) (fun k hk => by have := (ho.block hk).1; omega)
    exact hb3.trans ⟨rfl, rfl, rfl, by simp [World.setCell], fun k hk => Below.heap_setCell _ _ _ k (by show k ≠ db; omega)⟩
  · simp [World.setCell, Array.getElem?_modify, hat2]
  · rw [List.range_succ]
    exact hO.of (Nat.le_refl _) (fun k hk => Below.heap_setCell _ _ _ k (by show k ≠ db; have := (hO.block hk).1; omega))
set_option maxHeartbeats 4000000 in
set_option maxRecDepth 100000 in
theorem codeDeep_walk (n wd : Int) (wn : (Lit.int .i64 n).wf = true) (ww : (Lit.int .i64 wd).wf = true) (w : World) : Calls Try.prog 6 #[.int .i64 n, .int .i64 wd] w fun e w' => e = .returned (.bool true) ∧ Below w.heap.size w w' := by
  clear wn ww
  go_enter Try.func6, Try.ntmps6
  by_cases hbad : n < 0 ∨ 6 < n ∨ wd < 0 ∨ 6 < wd
  · have hex : n < 0 ∨ (¬ n < 0 ∧ 6 < n) ∨ (¬ n < 0 ∧ ¬ 6 < n ∧ wd < 0) ∨ (¬ n < 0 ∧ ¬ 6 < n ∧ ¬ wd < 0 ∧ 6 < wd) := by omega
    clear hbad
    rcases hex with h1 | ⟨h1, h2⟩ | ⟨h1, h2, h3⟩ | ⟨h1, h2, h3, h4⟩
    all_goals go_wp2_with (first
      | (go_at_call 19; refine (law_known _).mono ?_; rintro e w9 ⟨rfl, hb⟩; have H9 := Lib.hid hb; clear hb)
      | fail)
    all_goals go_ret
    all_goals exact ⟨rfl, H9.out⟩
  obtain ⟨N, rfl⟩ : ∃ N : Nat, n = N := ⟨n.toNat, by omega⟩
  obtain ⟨M, rfl⟩ : ∃ M : Nat, wd = M := ⟨wd.toNat, by omega⟩
  have hN : N ≤ 6 := by omega
  have hM : M ≤ 6 := by omega
  have h1 : ¬ (N : Int) < 0 := by omega
  have h2 : ¬ 6 < (N : Int) := by omega
  have h3 : ¬ (M : Int) < 0 := by omega
  have h4 : ¬ 6 < (M : Int) := by omega
  clear hbad
  go_wp2_with fail
  obtain ⟨w1, hw1⟩ : ∃ w1, w1 = w.alloc (.cells #[.int .i64 1, .int .i64 0, .int .i64 1, .slice none 0 0] 28) := ⟨_, rfl⟩
  obtain ⟨cb, hcb⟩ : ∃ cb, cb = w.heap.size := ⟨_, rfl⟩
  have hns : Nst w cb 0 w1 := by
    refine ⟨by rw [hw1]; exact (Below.refl _ w).alloc (Nat.le_refl _) _, [.int .i64 1, .int .i64 0, .int .i64 1, .slice none 0 0], by rw [hw1, hcb]; exact World.alloc_heap_new _ _, none, 0, rfl, fun i hi => ?_⟩
    have : i < ([] : List Cl).length := hi
    simp at this
  rw [← hw1, ← hcb]
  have HCB := Lib.hid (show w.heap.size ≤ cb by omega)
  have H1 := Lib.hid hns
  clear hw1 hcb hns
  go_loopw [6] (fun i wr => ∃ j : Nat, j ≤ N ∧ i = .int .i64 j ∧ Nst w cb j wr) (fun i _ => N - (intOf i).toNat)
  case atStart => exact ⟨0, by omega, rfl, H1.out⟩
  case round =>
    obtain ⟨j, hj, rfl, hst⟩ := hrel
    clear H1 h1 h2 h3 h4
    by_cases hlt : j < N
    · have hlt' : (j : Int) < N := by omega
      obtain ⟨vs, hvs, hrd⟩ := hst.at_
      obtain ⟨a4, c4, e4⟩ := hrd.toC.cells
      obtain ⟨c1, c2, c3, c5, e5⟩ : ∃ c1 c2 c3 c5, vs = [.int .i64 c1, .int .i64 c2, .int .i64 c3, .slice a4 c5 c4] := ⟨_, _, _, _, e4⟩
      clear e4
      subst e5
      have hrg : wr.rangeAt cb 0 [.int .i64 c1, .int .i64 c2, .int .i64 c3, .slice a4 c5 c4] := rangeAt_whole hvs
      have hh : (wr.alloc (.cells #[.int .i64 c1, .int .i64 c2, .int .i64 c3, .slice a4 c5 c4] 28)).heap[cb]? = some (.cells #[.int .i64 c1, .int .i64 c2, .int .i64 c3, .slice a4 c5 c4] 28 (0, 0)) := (Below.heap_alloc _ _ _ (Array.getElem?_eq_some_iff.1 hvs).1).trans hvs
      have HST := Lib.hid (Nst.step HCB.out hst hvs rfl rfl)
      have HRG := Lib.hid hrg
      have HH := Lib.hid hh
      clear hvs hrd hrg hh hst
      go_wp2_with (first
        | (refine wpl_loadC _ rfl rfl rfl HRG.out rfl ?_)
        | (refine wpl_storeC (vs := #[.int .i64 5, .int .i64 0, .int .i64 0, .slice (some ⟨wr.heap.size, 0, none⟩) 1 1]) _ _ rfl rfl rfl rfl HH.out rfl rfl (ones4 5 0 0 _ 1 1) ?_)
        | fail)
      go_roundw
      case rel => exact ⟨j + 1, by omega, by go_num, HST.out⟩
      case measure => simp [intOf]; omega
    · obtain rfl : j = N := by omega
      have hge : ¬ (j : Int) < j := by omega
      have HS := Lib.hid hst
      clear hlt hst hj
      go_wp2_with fail
      obtain ⟨w2, hw2⟩ : ∃ w2, w2 = wr.alloc (.cells #[.int .i64 5, .int .i64 0, .int .i64 0, .slice none 0 0] 28) := ⟨_, rfl⟩
      obtain ⟨db, hdb⟩ : ∃ db, db = wr.heap.size := ⟨_, rfl⟩
      have hwi : Wid wr db 0 w2 := ⟨by rw [hw2]; exact (Below.refl _ wr).alloc (Nat.le_refl _) _, by omega, .slice none 0 0, by rw [hw2, hdb]; exact World.alloc_heap_new _ _, OwnR.nil _ _⟩
      rw [← hw2, ← hdb]
      have H2 := Lib.hid hwi
      clear hw2 hdb hwi
      go_loopw [8] (fun i wy => ∃ m : Nat, m ≤ M ∧ i = .int .i64 m ∧ Wid wr db m wy) (fun i _ => M - (intOf i).toNat)
      case atStart => exact ⟨0, by omega, rfl, H2.out⟩
      case round =>
        obtain ⟨m, hm, rfl, hwi⟩ := hrel
        clear H2
        by_cases hlt : m < M
        · have hlt' : (m : Int) < M := by omega
          obtain ⟨v, hat, ho⟩ := hwi.at_
          obtain ⟨a5, c5, hv⟩ := ho.lenOf
          rw [List.length_range] at hv
          subst hv
          have d3 : wr.cell? ⟨db, 3, none⟩ = some (.slice a5 m c5) := by rw [World.cell?, hat]; rfl
          have HW := Lib.hid (And.intro hwi (And.intro hat ho))
          clear hwi hat ho
          go_wp2_with (first
            | (at_builtin; refine wpl_appR (r := kidR) (y := m) rfl rfl rfl rfl (OwnR.of HW.out.2.2 (Nat.le_refl _) (fun k hk => Below.heap_alloc _ _ _ (HW.out.2.2.block hk).2)) (rangeAt_whole (T := 28) (by exact World.alloc_heap_new _ _)) (by simp; omega) (by have := (Array.getElem?_eq_some_iff.1 HW.out.2.1).1; rw [World.size_alloc]; omega) ?_; intro v' w3 hO hg hf hn; obtain ⟨a6, c6, rfl⟩ : ∃ a c, v' = .slice a (m + 1) c := (by { obtain ⟨a, c, e⟩ := hO.lenOf; exact ⟨a, c, by rw [e]; simp⟩ }); obtain ⟨hat3, hst3⟩ := Wid.step HW.out.1 HW.out.2.1 HW.out.2.2 hO hg; have p3 : w3.cell? ⟨db, 3, none⟩ = some (.slice a5 m c5) := by { rw [World.cell?, hat3]; rfl }; have f3 : w3.frozen? ⟨db, 3, none⟩ = false := by { simp only [World.frozen?, hat3]; rfl }; have HST := Lib.hid hst3; clear hO hg hf hn hat3 hst3)
            | fail)
          go_roundw
          case rel => exact ⟨m + 1, by omega, by go_num, HST.out⟩
          case measure => simp [intOf]; omega
        · obtain rfl : m = M := by omega
          have hge : ¬ (m : Int) < m := by omega
          obtain ⟨v, hat, ho⟩ := hwi.at_
          obtain ⟨a5, c5, rfl, hrw⟩ := rdC_wide ho.reads
          obtain ⟨vs, hvs, hrd⟩ := HS.out.at_
          obtain ⟨a4, c4, e4⟩ := hrd.toC.cells
          obtain ⟨c1, c2, c3, c6, e5⟩ : ∃ c1 c2 c3 c6, vs = [.int .i64 c1, .int .i64 c2, .int .i64 c3, .slice a4 c6 c4] := ⟨_, _, _, _, e4⟩
          clear e4
          subst e5
          have hrg1 : wr.rangeAt cb 0 [.int .i64 c1, .int .i64 c2, .int .i64 c3, .slice a4 c6 c4] := rangeAt_whole ((hwi.old.block cb (Array.getElem?_eq_some_iff.1 hvs).1).trans hvs)
          have hrg2 : ∀ W2, Below wr.heap.size wr W2 → W2.rangeAt db 0 [.int .i64 5, .int .i64 0, .int .i64 0, .slice a5 m c5] := fun W2 hb => rangeAt_whole ((hb.block db (Array.getElem?_eq_some_iff.1 hat).1).trans hat)
          have hcel : ∀ W2, Below wr.heap.size wr W2 → W2.cell? ⟨db, 0, none⟩ = some (.int .i64 5) ∧ W2.cell? ⟨db, 1, none⟩ = some (.int .i64 0) ∧ W2.cell? ⟨db, 2, none⟩ = some (.int .i64 0) ∧ W2.cell? ⟨db, 3, none⟩ = some (.slice a5 m c5) := fun W2 hb => ⟨hrg2 W2 hb 0 _ rfl, hrg2 W2 hb 1 _ rfl, hrg2 W2 hb 2 _ rfl, hrg2 W2 hb 3 _ rfl⟩
          have HCEL := Lib.hid hcel
          clear hcel
          have hca := code_IsCall (j + 1) (nest j) _ wr (RdC.below hwi.old hrd.toC)
          rw [nest_ok hN] at hca
          have hcb2 : ∀ W2, Below wr.heap.size wr W2 → Calls Try.prog 24 #[.agg #[.int .i64 5, .int .i64 0, .int .i64 0, .slice a5 m c5]] W2 fun e w' => e = .returned (.bool (decide ((1 : Int) ≤ m) && decide ((m : Int) ≤ 4))) ∧ Below W2.heap.size W2 w' := fun W2 hb => by
            rw [← wide_ok hM]; exact code_IsCall 2 (wide m) _ W2 (RdC.below hb hrw)
          have hbw : Below w.heap.size w wr := HS.out.old.trans (hwi.old.mono HS.out.old.size)
          have HA := Lib.hid (And.intro hrg1 (And.intro hrg2 (And.intro hca (And.intro hcb2 hbw))))
          clear hat ho hrw hvs hrd hrg1 hrg2 hca hcb2 hbw hwi hlt hm
          have hex : (¬ (1 : Int) ≤ m) ∨ ((1 : Int) ≤ m ∧ (m : Int) ≤ 4) ∨ ((1 : Int) ≤ m ∧ ¬ (m : Int) ≤ 4) := by omega
          have hex2 : (j : Int) ≤ 3 ∨ ¬ (j : Int) ≤ 3 := by omega
          rcases hex with q1 | ⟨q1, q2⟩ | ⟨q1, q2⟩ <;> rcases hex2 with q3 | q3
          all_goals
            have tok1 : True := trivial
            have tok2 : True := trivial
            go_wp2_with (first
              | (have _t := tok1; refine wpl_loadC _ rfl rfl rfl HA.out.1 rfl ?_; clear tok1)
              | (go_at_call 24; have _t := tok2; refine HA.out.2.2.1.mono ?_; rintro e w4 ⟨rfl, hb⟩; obtain ⟨g0, g1, g2, g3⟩ := HCEL.out w4 hb; have H4 := Lib.hid hb; clear hb tok2)
              | (go_at_call 24; refine (HA.out.2.2.2.1 _ H4.out).mono ?_; rintro e w5 ⟨rfl, hb⟩; have H5 := Lib.hid (H4.out.trans (hb.mono H4.out.size)); clear hb)
              | (go_at_call 19; refine (law_known _).mono ?_; rintro e w9 ⟨rfl, hb⟩; have H9 := Lib.hid (H5.out.trans (hb.mono H5.out.size)); clear hb)
              | fail)
            go_ret
            exact ⟨rfl, HA.out.2.2.2.2.trans (H9.out.mono HA.out.2.2.2.2.size)⟩
end Go.Proofs.Ytbndegkgpoemnaa
