/-
  The law PreStops: the way over all, left.
-/
import Derived.Test.YtcfcfijmfgnpfaaGreatDoorPn1
import Derived.Test.YtcfcfijmfgnpfaaGreatDoorPj2
import Derived.TacticsInMore
import Derived.LoopNIn
import Derived.LoopIn
namespace Go.Proofs.YtcfcfijmfgnpfaaGreatDoor
open Go.RowKit Go.Maps Go.Shelf
attribute [local go_sem] Oper.semAt_some
set_option linter.unusedVariables false
set_option linter.unusedSimpArgs false

section
variable {P : Program} {α : Type}
theorem range_outerJ {n : Nat} {g : Operand} {ps : Array Tmp} {assign body : Code} {id : Nat} {Q0 : Exit → Act → World → Prop} {a : Act} {w : World} {gf : Nat} {lb : Array Value} (hg : a.eval g = .func (.func gf) #[] lb) (eg : ∀ args w, (callFunc gf args).run P w = .ok (.enter gf args) w)
    {encs : α → Array Value} {xs : List α} {G : FP} {w0 : World} (hit : Iter P n gf lb encs xs G w0) (hg0 : Grow w0 w) (hG : ∀ k, G k → k < w0.heap.size ∧ w.heap[k]? = w0.heap[k]?) (hps : ∀ x, (encs x).size = ps.size)
    (Ψ : FP) (hΨ : ∀ k, Ψ k → k < w.heap.size ∧ ¬ G k) (I : List α → FP → World → Prop) (Ix : Code → List α → FP → World → Prop) (hI : Stab w.heap.size I) (hIx : ∀ c, Stab w.heap.size (Ix c)) (h0 : I [] (fun _ => False) w) (up : α → Array Value → Array Value)
    (hassign : ∀ (l : Nat) (x : α) (W : World) (K : Act → World → Prop), K { tmps := up x a.tmps, defers := [] } W → assign.wpIn (Fence.wide.inRound l) n P (Exit.then K (fun _ _ _ => False)) { tmps := (ps.zip (encs x)).foldl (fun t (p, v) => t.setIfInBounds p v) a.tmps, defers := [] } W)
    (hbody : ∀ (l : Nat) (pre : List α) (x : α) (Φ : FP) (W : World), (pre ++ [x]) <+: xs → I pre Φ W → w.heap.size < l → (∀ k, Φ k → l + 1 ≤ k) → (∃ r, W.heap[l]? = some (.loop r)) → body.wpIn (Fence.wide.inRound l) n P (bodyI Ψ Φ I Ix (pre ++ [x]) W) { tmps := up x a.tmps, defers := [] } W)
    (Fin : FP → World → Prop) (hF1 : ∀ Φ W, I xs Φ W → Fin Φ W) (hF2 : ∀ c pre Φ W, pre <+: xs → Ix c pre Φ W → c = .exit id ∧ Fin Φ W)
    (hfin : ∀ (D : Nat) (Φ : FP) (W : World), Fin Φ W → Only Ψ (fun _ => False) w W → w.heap.size ≤ D → ¬ Φ D → W.heap[D]? = some (.deferred (some [])) → Exit.inBlock id Q0 .normal { a with defers := { target := .collected D, args := #[] } :: a.defers } W) :
    (Code.rangeFunc g ps assign body).wpIn Fence.wide (n + 2) P (Exit.inBlock id Q0) a w := by
  refine range_outer hg eg hit hg0 hG hps Ψ hΨ I Ix hI hIx h0 (fun x => { tmps := up x a.tmps, defers := [] }) hassign hbody (fun D Φ W h => hfin D Φ W (hF1 Φ W h)) ?_
  intro D Φ c pre W hpre hix hon hD hnD hK
  obtain ⟨rfl, hf⟩ := hF2 c pre Φ W hpre hix
  have h := hfin D Φ W hf hon hD hnD hK
  refine wpIn_exit ?_
  unfold Exit.inBlock at h ⊢
  simpa using h
end
/-- What the loop holds: the limit in its box, the count in its own. -/
structure SpI (N0 sb jb t j : Nat) (Φ : FP) (W : World) : Prop where
  bs : Boxed W sb 3 (.int .i64 (t : Nat))
  bj : Boxed W jb 3 (.int .i64 (j : Nat))
  no : ∀ k, ¬ Φ k
  sz : N0 ≤ W.heap.size
theorem SpI.keep {N0 sb jb t j : Nat} {Φ : FP} {W W' : World} (h : SpI N0 sb jb t j Φ W) (h1 : sb < N0) (h2 : jb < N0) (hg : Grow W W') (hk : ∀ k, (k < N0 ∨ Φ k) → W'.heap[k]? = W.heap[k]?) : SpI N0 sb jb t j Φ W' :=
  ⟨(hk sb (.inl h1)).trans h.bs, (hk jb (.inl h2)).trans h.bj, h.no, Nat.le_trans h.sz hg.size⟩
def SpA (N0 sb jb t : Nat) (pre : List (Dg × Int)) (Φ : FP) (W : World) : Prop := pre.length < t ∧ SpI N0 sb jb t pre.length Φ W
def SpX (id N0 sb jb t : Nat) (c : Code) (pre : List (Dg × Int)) (Φ : FP) (W : World) : Prop := c = .exit id ∧ pre.length = t ∧ SpI N0 sb jb t pre.length Φ W
theorem SpA.stab {N0 sb jb t : Nat} (h1 : sb < N0) (h2 : jb < N0) : Stab N0 (SpA N0 sb jb t) := by
  rintro pre Φ W ⟨h0, h⟩
  exact ⟨fun k hk => (h.no k hk).elim, h.sz, fun W' hg hk => ⟨h0, h.keep h1 h2 hg hk⟩⟩
theorem SpX.stab {id N0 sb jb t : Nat} (h1 : sb < N0) (h2 : jb < N0) (c : Code) : Stab N0 (SpX id N0 sb jb t c) := by
  rintro pre Φ W ⟨h0, h01, h⟩
  exact ⟨fun k hk => (h.no k hk).elim, h.sz, fun W' hg hk => ⟨h0, h01, h.keep h1 h2 hg hk⟩⟩
theorem SpI.step {N0 sb jb t j : Nat} {Φ : FP} {W : World} (h : SpI N0 sb jb t j Φ W) (hne : sb ≠ jb) (j1 : Nat) :
    SpI N0 sb jb t j1 Φ (W.setCell ⟨jb, 0, none⟩ (.int .i64 (j1 : Nat))) ∧ Only (fun k => k = jb) Φ W (W.setCell ⟨jb, 0, none⟩ (.int .i64 (j1 : Nat))) :=
  ⟨⟨(Below.heap_setCell _ _ _ sb hne).trans h.bs, h.bj.set _, h.no, by rw [show (W.setCell ⟨jb, 0, none⟩ (.int .i64 (j1 : Nat))).heap.size = W.heap.size by simp [World.setCell]]; exact h.sz⟩,
    ⟨⟨rfl, rfl, rfl, by simp [World.setCell]⟩, fun k hk h1 h2 => Below.heap_setCell _ _ _ k h1⟩⟩
theorem mem_Pf : ∀ {h : Nat} {x : Dg × (Int × Cl)}, x ∈ Pf h → x.2.1 = 1
  | 0, x, hx => by cases hx
  | h + 1, x, hx => by
    rcases mem_dput.1 hx with rfl | ⟨hx, -⟩
    · rfl
    · exact mem_Pf hx
theorem told_pre {h : Nat} {pre : List (Dg × Int)} {x : Dg × Int} (hp : (pre ++ [x]) <+: toldP (Pf h)) : x.2 = 1 := by
  have hm : x ∈ toldP (Pf h) := hp.subset (List.mem_append_right _ (List.mem_singleton.2 rfl))
  obtain ⟨y, hy, rfl⟩ := List.mem_map.1 hm
  exact mem_Pf hy
set_option maxHeartbeats 8000000 in
set_option maxRecDepth 100000 in
theorem preStops_walk (n st : Int) (w : World) (hG : Glob w) (wn : (Lit.int .i64 n).wf = true) (ws : (Lit.int .i64 st).wf = true) :
    Calls Tryz.prog 7 #[.int .i64 n, .int .i64 st] w fun e w' => e = .returned (.bool true) ∧ Below w.heap.size w w' := by
  refine (callsIn_wide (n := 2)).1 ?_
  have q1 : ∀ g lb w, (binOp .eql 72 (.func g #[] lb) .nilFunc).run Tryz.prog w = .ok (.bool false) w := fun g lb w => by kernel_rfl
  refine callsIn_of_wp_marks Tryz.func7 rfl trivial ?_ rfl
  simp only [Tryz.ntmps7, List.size_toArray, List.length_cons, List.length_nil, Nat.reduceAdd, Nat.reduceSub, Array.replicate_succ, Array.replicate_zero, List.push_toArray, List.append_toArray, List.nil_append, List.cons_append]
  by_cases hbad : n < 0 ∨ 6 < n ∨ st < 1 ∨ 10 < st
  · have hex : n < 0 ∨ (¬ n < 0 ∧ 6 < n) ∨ (¬ n < 0 ∧ ¬ 6 < n ∧ st < 1) ∨ (¬ n < 0 ∧ ¬ 6 < n ∧ ¬ st < 1 ∧ 10 < st) := by omega
    clear hbad
    rcases hex with h | ⟨h1, h⟩ | ⟨h1, h2, h⟩ | ⟨h1, h2, h3, h⟩
    all_goals gi_wp2_with (first | (refine ⟨trivial, ?_⟩) | fail)
    all_goals exact ⟨.bool true, by simp [results, Tryz.results7, go_sem], rfl, ((Below.refl _ w).alloc (Nat.le_refl _) _).alloc (by simp) _⟩
  obtain ⟨m, rfl⟩ : ∃ m : Nat, n = m := ⟨n.toNat, by omega⟩
  obtain ⟨t, rfl⟩ : ∃ t : Nat, st = t := ⟨st.toNat, by omega⟩
  have h1 : ¬ (m : Int) < 0 := by omega
  have h2 : ¬ 6 < (m : Int) := by omega
  have h3 : ¬ (t : Int) < 1 := by omega
  have h4 : ¬ 10 < (t : Int) := by omega
  have hm6 : m ≤ 6 := by omega
  have ht1 : 1 ≤ t := by omega
  have ht70 : t ≤ 10 := by omega
  have hw1 : (Lit.int .i64 1).wf = true := by decide
  clear hbad wn ws
  have Q1 := Lib.hid q1
  obtain ⟨w0, hw0⟩ : ∃ w0, w0 = ((w.alloc (.cells #[.int .i64 (t : Nat)] 3)).alloc (.cells #[.bool false] 4)) := ⟨_, rfl⟩
  have hB0 : Below w.heap.size w w0 := by rw [hw0]; exact ((Below.refl _ w).alloc (Nat.le_refl _) _).alloc (by simp) _
  have x0 : Boxed w0 w.heap.size 3 (.int .i64 (t : Nat)) := by rw [hw0]; exact (Boxed.new w _ _).alloc _
  have x1 : Boxed w0 (w.heap.size + 1) 4 (.bool false) := by
    have := Boxed.new (w.alloc (.cells #[.int .i64 (t : Nat)] 3)) 4 (.bool false)
    rw [World.size_alloc] at this
    rw [hw0]; exact this
  have hs0 : w0.heap.size = w.heap.size + 2 := by rw [hw0]; simp
  obtain ⟨s, hs⟩ : ∃ s, s = w.heap.size := ⟨_, rfl⟩
  obtain ⟨rb, hrb⟩ : ∃ rb, rb = s + 1 := ⟨_, rfl⟩
  have c0 : ((w.alloc (.cells #[.int .i64 (t : Nat)] 3)).alloc (.cells #[.bool false] 4)).cell? ⟨w.heap.size, 0, none⟩ = some (.int .i64 (t : Nat)) := by rw [← hw0]; exact x0.cell
  have hG0 := hG.below hB0 hG.lt
  have H0 := Lib.hid (And.intro hB0 (And.intro x0 (And.intro x1 (And.intro hs0 (And.intro hs hrb)))))
  have HW0 := Lib.hid (And.intro hw0 hG0)
  have HW0G := Lib.hid hG0
  have d0 := x0.cell
  have d1 := x1.cell
  have d2 := x1.frozen
  clear hB0 x0 x1 hs0 hw0 hs hrb q1 hG hG0
  gi_wp2_with (first
    | (refine ⟨trivial, ?_⟩; gi_at_call 36; rw [← HW0.out.1]; refine (callsIn_wide.2 (law8_apart m (by omega) w0)).mono ?_; rintro e w1 ⟨⟨b, rfl, hap⟩, hb⟩; have e0 := (World.cell?_of_block (a := ⟨w.heap.size, 0, none⟩) (hb.block _ (World.block_lt_of_cell? _ _ d0))).trans d0; have e1 := (World.cell?_of_block (a := ⟨w.heap.size + 1, 0, none⟩) (hb.block _ (World.block_lt_of_cell? _ _ d1))).trans d1; have e2 := (World.frozen?_of_block (a := ⟨w.heap.size + 1, 0, none⟩) (hb.block _ (World.block_lt_of_cell? _ _ d1))).trans d2; obtain ⟨wz, hz⟩ : ∃ wz, wz = w1.alloc (.cells #[.int .i64 0, .int .i64 100] 3) := ⟨_, rfl⟩; have hrz : RdI wz (.slice (some ⟨w1.heap.size, 0, none⟩) 2 2) [0, 100] := by { rw [hz]; exact RdI.lit w1 3 [0, 100] 2 rfl }; have hbz : Below w1.heap.size w1 wz := by { rw [hz]; exact (Below.refl _ w1).alloc (Nat.le_refl _) _ }; have HZ := Lib.hid (And.intro hz (And.intro hrz hbz)); have HB1 := Lib.hid hb; have HAP := Lib.hid hap; clear hz hrz hbz hb hap; cases b)
    | (refine ⟨trivial, ?_⟩; gi_at_call 11; rw [← HZ.out.1]; refine (callsIn_wide.2 (ledger_New_ok HZ.out.2.1 (by decide) newOk_k)).mono ?_; rintro e w2 ⟨g, gl, rfl, hl, hb⟩; have H2 := Lib.hid (And.intro hl hb); clear hl hb)
    | (refine ⟨trivial, ?_⟩; gi_at_call 13; refine (callsIn_wide.2 (pre_New w2)).mono ?_; rintro e w' ⟨rfl, hw'⟩; have hp := P8.begin (HB1.out.trans (HZ.out.2.2.mono HB1.out.size)) H2.out.1 H2.out.2; rw [← hw'] at hp; obtain ⟨pb, hpb⟩ : ∃ b, b = w2.heap.size := ⟨_, rfl⟩; rw [← hpb] at hp; rw [← hpb]; have H3 := Lib.hid hp; clear hp hw' hpb)
    | fail)
  · obtain ⟨hB0, x0, x1, hs0, hs, hrb⟩ := H0.out
    have hb := HB1.out
    have b1 : Boxed w1 (w.heap.size + 1) 4 (.bool false) := (hb.block _ (by omega)).trans x1
    have hc := (b1.set (.bool true)).cell
    refine ⟨.bool true, by simp [results, Tryz.results7, go_sem, hc], rfl, hB0.trans ((hb.mono hB0.size).trans ?_)⟩
    exact ⟨rfl, rfl, rfl, by simp [World.setCell], fun k hk => Below.heap_setCell _ _ _ k (by show k ≠ w.heap.size + 1; omega)⟩
  have hap : ApartR m := HAP.out (by trivial)
  gi_loopw [8] (fun i wr => ∃ k : Nat, k ≤ m ∧ i = .int .i64 k ∧ P8 g pb (Af 100 k) [] (Pf k) [] [] w0 wr) (fun i _ => m - (intOf i).toNat)
  case atStart => exact ⟨0, Nat.zero_le _, rfl, by rw [Af_0]; exact H3.out⟩
  case round =>
    obtain ⟨k, hk, rfl, hp⟩ := hrel
    have HP := Lib.hid (And.intro hp (And.intro hk hap))
    clear hp hap
    by_cases hlt : k < m
    · have hlt' : (k : Int) < m := by omega
      have k6 : (k : Int) ≤ 6 := by omega
      have he : noteE (Af 100 k) [] (Pf k) 1 (rmk k) = 0 := by rw [noteE_f (by omega) HP.out.2.2 100 hlt (Nat.le_refl k), if_neg (by omega), if_neg (by omega)]
      have hr := Af_step (f := 100) (h := k) (by rw [Af_spend, if_neg (by omega)])
      have HN := Lib.hid (And.intro he (And.intro hr hlt))
      clear he hr hlt hk
      gi_wp2_with (first
        | (refine ⟨trivial, ?_⟩; gi_at_call 16; refine (callsIn_wide.2 (HP.out.1.note HW0.out.2 (rdC_leaf _ 1 0 k) hw1)).mono ?_; rw [show (⟨1, 0, (k : Int), []⟩ : Cl) = rmk k from rfl]; unfold noteH noteA noteP; rw [HN.out.1, if_pos rfl, if_pos rfl, if_pos rfl, HN.out.2.1]; rintro e w4 ⟨rfl, hp⟩; have H4 := Lib.hid (show P8 g pb (Af 100 (k + 1)) [] (Pf (k + 1)) [] [] w0 w4 from hp); clear hp)
        | fail)
      go_roundw
      case rel => exact ⟨k + 1, HN.out.2.2, by go_num, H4.out⟩
      case measure => simp [intOf]; have := HN.out.2.2; omega
    · have hge : ¬ (k : Int) < m := by omega
      obtain rfl : k = m := by omega
      clear hlt hk
      have hll := Pf_len HP.out.2.2 (Nat.le_refl k)
      have HLL := Lib.hid hll
      clear hll
      gi_wp2_with (first
        | (refine ⟨trivial, ?_⟩; gi_at_call 37; refine (callsIn_wide.2 (HP.out.1.all (by rw [HLL.out]; omega))).mono ?_; rintro e wa ⟨bx, v0, rfl, hbx, ho, hn, hba⟩; have H5 := Lib.hid (And.intro hbx (And.intro ho (And.intro hn hba))); have q1 := Q1.out; clear hbx ho hn hba)
        | fail)
      obtain ⟨hB0, x0, x1, hs0, hs, hrb⟩ := H0.out
      rw [← hs] at x0 x1 hs0 ⊢
      rw [← hrb] at x1 ⊢
      obtain ⟨xs, hxs⟩ : ∃ xs, xs = toldP (Pf k) := ⟨_, rfl⟩
      have hxl : xs.length = k := by rw [hxs]; simp [toldP, HLL.out]
      have hx1 : ∀ (pre : List (Dg × Int)) (x : Dg × Int), (pre ++ [x]) <+: xs → x.2 = 1 := fun pre x h => told_pre (h := k) (by rw [← hxs]; exact h)
      have hit0 := now1_iter_H 0 bx v0 xs wa H5.out.1 (by rw [hxs]; exact H5.out.2.1.reads) (by omega) (fun k => k < wa.heap.size) H5.out.1.lt (fun k hk => (H5.out.2.1.block hk).2)
      have HIT := Lib.hid (And.intro hit0 enters_now_H)
      have HXS := Lib.hid (And.intro hxl hx1)
      obtain ⟨jb, hjb⟩ : ∃ jb, jb = wa.heap.size := ⟨_, rfl⟩
      obtain ⟨wA, hwA⟩ : ∃ wA, wA = wa.alloc (.cells #[.int .i64 0] 3) := ⟨_, rfl⟩
      rw [← hwA]
      have hb3 : Below w0.heap.size w0 wa := HP.out.1.bl.trans (H5.out.2.2.2.mono HP.out.1.bl.size)
      have hB3A : Below wa.heap.size wa wA := by rw [hwA]; exact (Below.refl _ wa).alloc (Nat.le_refl _) _
      have hsA : wA.heap.size = jb + 1 := by rw [hwA, hjb]; simp
      have h03 := hb3.size
      have y0 : Boxed wA s 3 (.int .i64 (t : Nat)) := (hB3A.block s (by omega)).trans ((hb3.block s (by omega)).trans x0)
      have y1 : Boxed wA rb 4 (.bool false) := (hB3A.block rb (by omega)).trans ((hb3.block rb (by omega)).trans x1)
      have y2 : Boxed wA jb 3 (.int .i64 0) := by rw [hwA, hjb]; exact Boxed.new wa _ _
      rw [← hjb]
      have l0 : s < rb := by omega
      have l1 : rb < jb := by omega
      have l2 : jb < wA.heap.size := by omega
      have HA := Lib.hid (And.intro hB0 (And.intro hb3 (And.intro hB3A (And.intro hs (And.intro hsA (And.intro hjb (And.intro hs0 hrb)))))))
      have HY := Lib.hid y1
      clear hB0 x0 x1 hs0 hs hrb hb3 hjb hwA hB3A hsA y1 c0 H0 HW0 hxs hxl hx1 hit0 d0 d1 d2 e0 e1 e2 h03 H5 HLL HAP
      refine range_outerJ (n := 0) (gf := 72) (lb := #[.pointer (some ⟨bx, 0, none⟩)]) rfl HIT.out.2 HIT.out.1 (Grow.of_below HA.out.2.2.1) (fun k hk => ⟨hk, HA.out.2.2.1.block k hk⟩) (fun _ => rfl)
        (fun k => k = jb) (by rintro k rfl; exact ⟨l2, fun h => by have := HA.out.2.2.2.2.2.1; omega⟩) (SpA wA.heap.size s jb t) (SpX 2 wA.heap.size s jb t) (SpA.stab (by omega) (by omega)) (SpX.stab (by omega) (by omega))
        ⟨by show 0 < t; omega, y0, y2, fun _ h => h, Nat.le_refl _⟩
        (fun x T => ((T.setIfInBounds 63 (dv x.1)).setIfInBounds 64 (.int .i64 x.2)).setIfInBounds 12 (.int .i64 x.2)) ?assign ?body (fun Φ W => (∀ k, ¬ Φ k) ∧ Boxed W jb 3 (.int .i64 (min k t : Nat))) ?f1 ?f2 ?fin
      case assign =>
        intro l x W K hK
        simp only [encs_H]
        gi_wp2
        exact hK
      case body =>
        rintro l pre x Φ W hpx ⟨hpt, hI⟩ hl hΦ -
        have hx1 := HXS.out.2 pre x hpx
        obtain ⟨i, hi⟩ : ∃ i, i = x.2 := ⟨_, rfl⟩
        rw [← hi] at hx1 ⊢
        subst hx1
        obtain ⟨p, hp⟩ : ∃ p, p = pre.length := ⟨_, rfl⟩
        have hlen : (pre ++ [x]).length = p + 1 := by simp [hp]
        rw [← hp] at hpt hI
        obtain ⟨p1, hp1⟩ : ∃ p1, p1 = p + 1 := ⟨_, rfl⟩
        rw [← hp1] at hlen
        have he1 : ((p1 : Nat) : Int) = (p : Int) + 1 := by omega
        have hp9 : (p : Int) ≤ 10 := by omega
        have hI2 := (hI.step (by omega) p1).1
        have hO2 := (hI.step (by omega) p1).2
        rw [he1] at hO2
        have c1 := hI.bj.cell
        have c0 := hI.bs.cell
        have f1 := hI.bj.frozen
        have d1 := hI2.bj.cell
        have d0 := hI2.bs.cell
        rw [he1] at d0 d1 hI2
        have HI2 := Lib.hid (And.intro hI2 hO2)
        have HLE := Lib.hid hlen
        have hts : t ≤ p1 ↔ (t : Int) ≤ (p : Int) + 1 := by omega
        have HP1 := Lib.hid (And.intro hp1 hpt)
        clear hI hI2 hO2 hlen hpx hp he1 hp1 hi
        by_cases hge : t ≤ p1
        · have dge : decide ((t : Int) ≤ (p : Int) + 1) = true := decide_eq_true (hts.1 hge)
          gi_wp2_with fail
          exact ⟨Φ, fun k h => .inl h, HI2.out.2, rfl, by rw [HLE.out]; have := HP1.out; omega, by rw [HLE.out]; exact HI2.out.1⟩
        · have dge : decide ((t : Int) ≤ (p : Int) + 1) = false := decide_eq_false (fun h => hge (hts.2 h))
          gi_wp2_with fail
          exact ⟨Φ, fun k h => .inl h, HI2.out.2, by rw [HLE.out]; omega, by rw [HLE.out]; exact HI2.out.1⟩
      case f1 =>
        rintro Φ W ⟨h0, hI⟩
        rw [HXS.out.1] at h0 hI
        rw [Nat.min_eq_left (by omega)]
        exact ⟨hI.no, hI.bj⟩
      case f2 =>
        rintro c pre Φ W hpre ⟨rfl, h0, hI⟩
        have := hpre.length_le
        rw [HXS.out.1] at this
        rw [h0] at hI
        rw [Nat.min_eq_right (by omega)]
        exact ⟨rfl, hI.no, hI.bj⟩
      case fin =>
        intro D Φ W3 ⟨hno, hbj⟩ hon hD hnD hK
        have hWs : wA.heap.size ≤ W3.heap.size := hon.grow.size
        have hk3 : ∀ k, k < wA.heap.size → k ≠ jb → W3.heap[k]? = wA.heap[k]? := fun k hk hne => hon.block k hk hne (fun h => h)
        have z0 : Boxed W3 s 3 (.int .i64 (t : Nat)) := (hk3 s (by omega) (by omega)).trans y0
        have z1 : Boxed W3 rb 4 (.bool false) := (hk3 rb (by omega) (by omega)).trans HY.out
        have c0 := z0.cell
        have c1 := hbj.cell
        have emin : ((min k t : Nat) : Int) = min (k : Int) (t : Int) := by omega
        rw [emin] at c1
        have HD := Lib.hid (And.intro hK hD)
        have HON := Lib.hid (And.intro hon (HW0G.out.below (HA.out.2.1.trans ((HA.out.2.2.1.mono HA.out.2.1.size).trans ⟨hon.grow.os, hon.grow.tape, hon.grow.output, hon.grow.size, fun j hj => hon.block j (by have := HA.out.2.1.size; have := HA.out.2.2.1.size; omega) (by have := HA.out; omega) (fun h => h)⟩)) HW0G.out.lt))
        have HZ := Lib.hid z1
        clear hK hon hbj hno hnD hk3 y0 y2 HY z0 z1 emin
        gi_wp2_with (first
          | (refine ⟨trivial, ?_⟩; gi_at_call 14; refine (callsIn_wide.2 (law8_known _ HON.out.2)).mono ?_; rintro e w9 ⟨rfl, hb⟩; have b9 : Boxed w9 rb 4 (.bool false) := (hb.block rb HZ.out.lt).trans HZ.out; have g1 := b9.cell; have g2 := b9.frozen; have H9 := Lib.hid hb; have HB9 := Lib.hid b9; clear hb b9)
          | fail)
        obtain ⟨w10, hw10⟩ : ∃ w10, w10 = w9.setCell ⟨rb, 0, none⟩ (.bool true) := ⟨_, rfl⟩
        rw [← hw10]
        obtain ⟨hK, hD⟩ := HD.out
        have hon := HON.out.1
        obtain ⟨hB0, hb3, hB3A, hs, hsA, hjb, hs0, hrb⟩ := HA.out
        have h9 := H9.out
        have hDl : D < W3.heap.size := (Array.getElem?_eq_some_iff.1 hK).1
        have hs39 : W3.heap.size ≤ w9.heap.size := h9.size
        have hs03 := hb3.size
        have hs00 := hB0.size
        have ho10 : ∀ k, k ≠ rb → w10.heap[k]? = w9.heap[k]? := fun k hk => by rw [hw10]; exact Below.heap_setCell _ _ _ k hk
        have hs10 : w10.heap.size = w9.heap.size := by rw [hw10]; simp [World.setCell]
        have b10 : Boxed w10 rb 4 (.bool true) := by rw [hw10]; exact HB9.out.set _
        refine marks_leave [D] w10 (by simp) (fun d hd => ?_) (fun w' hg hk => ⟨.bool true, ?_, rfl, ?_⟩)
        · simp only [List.mem_cons, List.not_mem_nil, or_false] at hd
          subst hd
          rw [ho10 _ (by omega), h9.block _ hDl]; exact hK
        · have hb : Boxed w' rb 4 (.bool true) := (hk rb (by simp; omega)).trans b10
          have hc := hb.cell
          simp [results, Tryz.results7, go_sem, hc]
        · have hgA : Grow wA w' := (hon.grow.trans (Grow.of_below h9)).trans (Grow.trans (by rw [hw10]; exact ⟨rfl, rfl, rfl, by simp [World.setCell]⟩) hg)
          have hg0 : Grow w w' := ((Grow.of_below hB0).trans (Grow.of_below hb3)).trans ((Grow.of_below hB3A).trans hgA)
          refine ⟨hg0.os, hg0.tape, hg0.output, hg0.size, fun j hj => ?_⟩
          rw [hk j (by simp; omega), ho10 j (by omega), h9.block j (by omega), hon.block j (by omega) (by omega) (fun h => h), hB3A.block j (by omega), hb3.block j (by omega)]
          exact hB0.block j hj
end Go.Proofs.YtcfcfijmfgnpfaaGreatDoor
