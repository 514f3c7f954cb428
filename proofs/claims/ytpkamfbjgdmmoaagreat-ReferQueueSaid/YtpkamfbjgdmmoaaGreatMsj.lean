/-
  Joined texts.
-/
import Derived.BigRegion
import Derived.RegionTactic
import Derived.Deep.RegionHeld3
import Derived.TacticsInMore
import Derived.LoopNIn
import Derived.LoopIn
import Derived.Test.YtpkamfbjgdmmoaaGreatMsi

section
namespace Go.Proofs.YtpkamfbjgdmmoaaGreat
open Go.RowKit Go.Maps Go.Shelf
attribute [local go_sem] Oper.semAt_some
set_option linter.unusedVariables false
set_option linter.unusedSimpArgs false

theorem cho_two (W0 : World) (o1 o2 : Obj) : ((W0.alloc o1).alloc o2).drew.heap[W0.heap.size]? = some o1 ∧ ((W0.alloc o1).alloc o2).drew.heap[W0.heap.size + 1]? = some o2 := by
  have h2 := World.alloc_heap_new (W0.alloc o1) o2
  rw [World.size_alloc] at h2
  exact ⟨(Below.heap_alloc _ _ _ (by simp)).trans (World.alloc_heap_new _ _), h2⟩
theorem cho_row (V : World) (b j : Nat) (cs : Array Value) (h : j ≠ b) : (V.setRow b cs).heap[j]? = V.heap[j]? := by
  simp only [World.setRow, Array.getElem?_modify]
  rw [if_neg (fun e => h e.symm)]
theorem cho_rowAt {W : World} {b : Nat} {C : Array Value} {T : TypeId} (cs : Array Value) (h : W.heap[b]? = some (.cells C T (0, 0))) : (W.setRow b cs).heap[b]? = some (.cells cs T (0, 0)) := by
  simp [World.setRow, Array.getElem?_modify, h]
theorem cho_old (W0 : World) (o1 o2 : Obj) (j : Nat) (hj : j < W0.heap.size) : ((W0.alloc o1).alloc o2).drew.heap[j]? = W0.heap[j]? := (Below.heap_alloc _ _ _ (by simp; omega)).trans (Below.heap_alloc _ _ _ hj)
theorem cho_oldR (W0 : World) (o1 o2 : Obj) (b : Nat) (cs : Array Value) (hb : W0.heap.size ≤ b) (j : Nat) (hj : j < W0.heap.size) : (((W0.alloc o1).alloc o2).drew.setRow b cs).heap[j]? = W0.heap[j]? := (cho_row _ b j cs (by omega)).trans (cho_old W0 o1 o2 j hj)
theorem cho_cells1 (W0 : World) (Z cs : Array Value) : (((W0.alloc (.cells Z 26)).alloc (.cells #[.int .i64 0] 3)).drew.setRow W0.heap.size cs).cell? ⟨W0.heap.size + 1, 0, none⟩ = some (.int .i64 0) ∧ (((W0.alloc (.cells Z 26)).alloc (.cells #[.int .i64 0] 3)).drew.setRow W0.heap.size cs).frozen? ⟨W0.heap.size + 1, 0, none⟩ = false := by
  have h := (cho_row _ W0.heap.size (W0.heap.size + 1) cs (by omega)).trans (cho_two W0 (.cells Z 26) (.cells #[.int .i64 0] 3)).2
  exact ⟨by rw [World.cell?, h]; rfl, by rw [World.frozen?, h]; rfl⟩
theorem cho_cells2 (W0 : World) (Z cs : Array Value) : (((W0.alloc (.cells #[.int .i64 0] 3)).alloc (.cells Z 26)).drew.setRow (W0.heap.size + 1) cs).cell? ⟨W0.heap.size, 0, none⟩ = some (.int .i64 0) ∧ (((W0.alloc (.cells #[.int .i64 0] 3)).alloc (.cells Z 26)).drew.setRow (W0.heap.size + 1) cs).frozen? ⟨W0.heap.size, 0, none⟩ = false := by
  have h := (cho_row _ (W0.heap.size + 1) W0.heap.size cs (by omega)).trans (cho_two W0 (.cells #[.int .i64 0] 3) (.cells Z 26)).1
  exact ⟨by rw [World.cell?, h]; rfl, by rw [World.frozen?, h]; rfl⟩
/-- Behind the region: a track's copy, and a number that is 0. -/
def ChoEnd (W0 : World) (t : Trk) (b8 b9 : Nat) (wx : World) : Prop :=
  wx.heap[b8]? = some (.cells (trkR.f t).toArray 26 (0, 0)) ∧ Boxed wx b9 3 (.int .i64 0) ∧ Below W0.heap.size W0 wx ∧ W0.heap.size ≤ b8 ∧ W0.heap.size ≤ b9
theorem cho_end {W0 V : World} {t : Trk} {b8 b9 : Nat} (h8 : V.heap[b8]? = some (.cells (trkR.f t).toArray 26 (0, 0))) (h9 : V.heap[b9]? = some (.cells #[.int .i64 0] 3 (0, 0))) (hb : Below W0.heap.size W0 V) (hne : b8 ≠ b9) (l8 : W0.heap.size ≤ b8) (l9 : W0.heap.size ≤ b9) : ChoEnd W0 t b8 b9 (V.setCell ⟨b9, 0, none⟩ (.int .i64 0)) := by
  refine ⟨(Below.heap_setCell _ _ _ b8 hne).trans h8, (show Boxed V b9 3 (.int .i64 0) from h9).set _, ?_, l8, l9⟩
  exact hb.trans ⟨rfl, rfl, rfl, by simp [World.setCell], fun k hk => Below.heap_setCell _ _ _ k (by show k ≠ b9; omega)⟩
theorem cho_end1 (W0 : World) (Z : Array Value) (t : Trk) : ChoEnd W0 t W0.heap.size (W0.heap.size + 1) ((((W0.alloc (.cells Z 26)).alloc (.cells #[.int .i64 0] 3)).drew.setRow W0.heap.size (trkR.f t).toArray).setCell ⟨W0.heap.size + 1, 0, none⟩ (.int .i64 0)) := by
  obtain ⟨h1, h2⟩ := cho_two W0 (.cells Z 26) (.cells #[.int .i64 0] 3)
  refine cho_end (cho_rowAt _ h1) ((cho_row _ _ _ _ (by omega)).trans h2) ?_ (by omega) (Nat.le_refl _) (by omega)
  exact ⟨rfl, rfl, rfl, by simp [World.setRow, World.drew]; omega, fun k hk => cho_oldR W0 _ _ _ _ (Nat.le_refl _) k hk⟩
theorem cho_end2 (W0 : World) (Z : Array Value) (t : Trk) : ChoEnd W0 t (W0.heap.size + 1) W0.heap.size ((((W0.alloc (.cells #[.int .i64 0] 3)).alloc (.cells Z 26)).drew.setRow (W0.heap.size + 1) (trkR.f t).toArray).setCell ⟨W0.heap.size, 0, none⟩ (.int .i64 0)) := by
  obtain ⟨h1, h2⟩ := cho_two W0 (.cells #[.int .i64 0] 3) (.cells Z 26)
  refine cho_end (cho_rowAt _ h2) ((cho_row _ _ _ _ (by omega)).trans h1) ?_ (by omega) (by omega) (Nat.le_refl _)
  exact ⟨rfl, rfl, rfl, by simp [World.setRow, World.drew]; omega, fun k hk => cho_oldR W0 _ _ _ _ (by omega) k hk⟩
/-- What choose's range holds. -/
def ChI (t : Trk) (i now : Int) (N0 b9 wb : Nat) (w2 : World) (pre : List (Int × Rfm)) (Φ : FP) (W : World) : Prop :=
  ∃ v, Boxed W b9 3 (.int .i64 (decP i pre)) ∧ Boxed W wb 22 v ∧ OwnN N0 v (waitP t i now pre) W ∧ (∀ k, Φ k ↔ v.ownBlock = some k) ∧ (∀ k, k < N0 → k ≠ b9 → k ≠ wb → W.heap[k]? = w2.heap[k]?) ∧ N0 ≤ W.heap.size
section
variable {t : Trk} {i now : Int} {N0 b9 wb : Nat} {w2 W V W' : World} {pre : List (Int × Rfm)} {Φ : FP} {x : Int × Rfm}
theorem ChI.stab (h1 : b9 < N0) (h2 : wb < N0) : Stab N0 (ChI t i now N0 b9 wb w2) := by
  rintro pre Φ W ⟨v, e1, e2, e3, e4, e5, e6⟩
  exact ⟨fun k hk => e3.block ((e4 k).1 hk), e6, fun W' hg hk => ⟨v, (hk b9 (.inl h1)).trans e1, (hk wb (.inl h2)).trans e2, e3.of (Nat.le_refl _) (fun k e => hk k (.inr ((e4 k).2 e))), e4, fun k hk' h3 h4 => (hk k (.inl hk')).trans (e5 k hk' h3 h4), Nat.le_trans e6 hg.size⟩⟩
theorem ChI.skip (h : ChI t i now N0 b9 wb w2 pre Φ W) (hd : isDec i x.2 = false) (hw : isWait t i now x.2 = false) (hb : Below W.heap.size W W') (h1 : b9 < N0) (h2 : wb < N0) : Leaves (fun k => k = b9 ∨ k = wb) Φ W (fun Φ' W' => ChI t i now N0 b9 wb w2 (pre ++ [x]) Φ' W') W' := by
  obtain ⟨v, e1, e2, e3, e4, e5, e6⟩ := h
  refine ⟨Φ, fun k hk => .inl hk, Only.of_later hb, v, ?_, ?_, ?_, e4, fun k hk h3 h4 => (hb.block k (by omega)).trans (e5 k hk h3 h4), Nat.le_trans e6 hb.size⟩
  · rw [decP_snoc, hd]; exact (hb.block b9 (by omega)).trans e1
  · exact (hb.block wb (by omega)).trans e2
  · rw [waitP_snoc, hw]
    simp only [Bool.false_eq_true, if_false, List.append_nil]
    exact e3.of (Nat.le_refl _) (fun k hk => hb.block k (e3.block hk).2)
theorem ChI.dec (h : ChI t i now N0 b9 wb w2 pre Φ W) (hd : isDec i x.2 = true) (hw : isWait t i now x.2 = false) (hne : b9 ≠ wb) (h1 : b9 < N0) (h2 : wb < N0) : Leaves (fun k => k = b9 ∨ k = wb) Φ W (fun Φ' W' => ChI t i now N0 b9 wb w2 (pre ++ [x]) Φ' W') (W.setCell ⟨b9, 0, none⟩ (.int .i64 ((decP i pre : Nat) + 1))) := by
  obtain ⟨v, e1, e2, e3, e4, e5, e6⟩ := h
  have ho : ∀ k, k ≠ b9 → (W.setCell ⟨b9, 0, none⟩ (.int .i64 ((decP i pre : Nat) + 1))).heap[k]? = W.heap[k]? := fun k hk => Below.heap_setCell _ _ _ k hk
  refine ⟨Φ, fun k hk => .inl hk, ⟨⟨rfl, rfl, rfl, by simp [World.setCell]⟩, fun k hk h3 h4 => ho k (fun e => h3 (.inl e))⟩, v, ?_, ?_, ?_, e4, fun k hk h3 h4 => (ho k h3).trans (e5 k hk h3 h4), by simp [World.setCell]; exact e6⟩
  · rw [decP_snoc, hd, if_pos rfl]
    exact e1.set _
  · exact (ho wb hne.symm).trans e2
  · rw [waitP_snoc, hw]
    simp only [Bool.false_eq_true, if_false, List.append_nil]
    exact e3.of (Nat.le_refl _) (fun k hk => ho k (by have := (e3.block hk).1; omega))
theorem ChI.app {v v' : Value} {w3 : World} (e1 : Boxed W b9 3 (.int .i64 (decP i pre))) (e2 : Boxed W wb 22 v) (e3 : OwnN N0 v (waitP t i now pre) W) (e4 : ∀ k, Φ k ↔ v.ownBlock = some k) (e5 : ∀ k, k < N0 → k ≠ b9 → k ≠ wb → W.heap[k]? = w2.heap[k]?) (e6 : N0 ≤ W.heap.size) (hd : isDec i x.2 = false) (hw : isWait t i now x.2 = true) (hne : b9 ≠ wb) (h1 : b9 < N0) (h2 : wb < N0)
    (hV : Below W.heap.size W V) (hO : OwnN N0 v' (waitP t i now pre ++ [x.1]) w3) (hg : V.grownBy w3 v.ownBlock) (hat : v'.ownBlock = v.ownBlock ∨ v'.ownBlock = some V.heap.size) : Leaves (fun k => k = b9 ∨ k = wb) Φ W (fun Φ' W' => ChI t i now N0 b9 wb w2 (pre ++ [x]) Φ' W') (w3.setCell ⟨wb, 0, none⟩ v') := by
  have hsV := hV.size
  have hsg := hg.size
  have hk3 : ∀ k, k < W.heap.size → v.ownBlock ≠ some k → w3.heap[k]? = W.heap[k]? := fun k hk hn => (hg.block k (by omega) (fun e => hn e.symm)).trans (hV.block k hk)
  have hnv : ∀ k, k < N0 → v.ownBlock ≠ some k := fun k hk e => by have := (e3.block e).1; omega
  have ho : ∀ k, k ≠ wb → (w3.setCell ⟨wb, 0, none⟩ v').heap[k]? = w3.heap[k]? := fun k hk => Below.heap_setCell _ _ _ k hk
  have x2 : Boxed w3 wb 22 v := (hk3 wb (by omega) (hnv wb h2)).trans e2
  refine ⟨fun k => v'.ownBlock = some k, fun k hk => ?_, ⟨⟨hg.os.trans hV.os, hg.tape.trans hV.tape, hg.output.trans hV.output, by simp [World.setCell]; omega⟩, fun k hk h3 h4 => ?_⟩, v', ?_, x2.set _, ?_, fun k => Iff.rfl, fun k hk h3 h4 => (ho k h4).trans ((hk3 k (by omega) (hnv k hk)).trans (e5 k hk h3 h4)), by simp [World.setCell]; omega⟩
  · rcases hat with e | e
    · exact .inl ((e4 k).2 (by rw [← e]; exact hk))
    · rw [hk] at e
      injection e with e
      exact .inr (by omega)
  · exact (ho k (fun e => h3 (.inr e))).trans (hk3 k hk (fun e => h4 ((e4 k).2 e)))
  · rw [decP_snoc, hd]
    exact (ho b9 hne).trans ((hk3 b9 (by omega) (hnv b9 h1)).trans e1)
  · rw [waitP_snoc, hw, if_pos rfl]
    exact hO.of (Nat.le_refl _) (fun k hk => ho k (by have := (hO.block hk).1; omega))
end
set_option maxHeartbeats 8000000 in
set_option maxRecDepth 100000 in
attribute [local go_sem ↓] alloc_trk load_trk store_trk loadSt_R_hide in
theorem refer_choose {r g vb N : Nat} {ts : List Trk} {R : List Rfm} {S : Vs} {A : Acc} {M : Cls Int} {Z : FP} {w : World} (h : RvAt r g vb N ts R S A M Z w) (hi : Rin ts R) {k : Nat} (hk : k < ts.length) {now : Int} (hn : soon now) :
    Calls Tryz.prog 56 #[.pointer (some ⟨r, 0, none⟩), .pointer (some ⟨vb, 0, none⟩), .int .i64 k, .int .i64 now] w fun e w' => (∃ u, e = .returned u) ∧ RvTo r g vb N ts (chooseR ts[k] R S k now) S A M Z w w' := by
  obtain ⟨vp, hvp⟩ : ∃ vp : Option Addr, vp = some ⟨vb, 0, none⟩ := ⟨_, rfl⟩
  rw [← hvp]
  refine (callsIn_wide (n := 2)).1 ?_
  have hre := h
  obtain ⟨FR, hrx, -⟩ := h.re
  obtain ⟨tb, cap, gb, hc0, -, h2, h6⟩ := hrx.cells
  have hrlt : r < w.heap.size := hrx.lt hrx.own
  obtain ⟨n, hn'⟩ : ∃ n, n = ts.length := ⟨_, rfl⟩
  have hkn : (k : Int) < n := by omega
  obtain ⟨Z0, hZ, hZs⟩ := zeroTrk
  have RA := run_allocTrk hZ
  obtain ⟨t, ht⟩ : ∃ t, t = ts[k] := ⟨_, rfl⟩
  have hok : trackB t = true := by rw [ht]; exact hi.ok _ (List.getElem_mem _)
  have hr0 := trk_at h2 hk
  rw [← ht] at hr0 ⊢
  rw [← hn'] at hc0
  have HRE := Lib.hid (And.intro hre (And.intro hi (And.intro hn (And.intro hok hvp))))
  have HR0 := Lib.hid (And.intro hr0 h6)
  have HC0 := Lib.hid (And.intro hc0 hrlt)
  clear h hre hrx hc0 hrlt h2 h6 hr0 hn' ht hZ hi hn hok hk hvp
  refine callsIn_of_wp_marks Tryz.func56 rfl trivial ?_ rfl
  simp only [Tryz.ntmps56, List.size_toArray, List.length_cons, List.length_nil, Nat.reduceAdd, Nat.reduceSub, Array.replicate_succ, Array.replicate_zero, List.push_toArray, List.append_toArray, List.nil_append, List.cons_append]
  gi_wp2_with fail
  obtain ⟨W0, hW0⟩ : ∃ W0, W0 = ((w.alloc (.cells #[.pointer vp] 34)).alloc (.cells #[.int .i64 k] 3)).alloc (.cells #[.int .i64 now] 3) := ⟨_, rfl⟩
  rw [← hW0]
  obtain ⟨p5, hp5⟩ : ∃ p5, p5 = w.heap.size := ⟨_, rfl⟩
  obtain ⟨p6, hp6⟩ : ∃ p6, p6 = p5 + 1 := ⟨_, rfl⟩
  obtain ⟨p7, hp7⟩ : ∃ p7, p7 = p6 + 1 := ⟨_, rfl⟩
  rw [← hp5, ← hp6, ← hp7]
  have hb0 : Below w.heap.size w W0 := by rw [hW0]; exact (((Below.refl _ w).alloc (Nat.le_refl _) _).alloc (by simp) _).alloc (by simp; omega) _
  have hsz : W0.heap.size = w.heap.size + 3 := by rw [hW0]; simp
  have hrl : r < w.heap.size := HC0.out.2
  have c0 : W0.cell? ⟨r, 0, none⟩ = some (.slice (some ⟨tb, 0, none⟩) n cap) := by rw [hb0.cell (p := ⟨r, 0, none⟩) hrl]; exact HC0.out.1
  have c6 : W0.cell? ⟨p6, 0, none⟩ = some (.int .i64 k) := by
    have e := World.alloc_heap_new (w.alloc (.cells #[.pointer vp] 34)) (.cells #[.int .i64 k] 3)
    rw [World.size_alloc] at e
    rw [hW0, hp6, hp5, World.cell?, Below.heap_alloc _ _ _ (by simp), e]; rfl
  have hkr : ∀ W' : World, (∀ j, j < W0.heap.size → W'.heap[j]? = W0.heap[j]?) → W'.cell? ⟨r, 0, none⟩ = some (.slice (some ⟨tb, 0, none⟩) n cap) ∧ W'.cell? ⟨p6, 0, none⟩ = some (.int .i64 k) ∧ (loadTrk (.pointer (some ⟨tb, k * 18, none⟩))).run Tryz.prog W' = .ok (.agg (trkR.f t).toArray) W' := fun W' he =>
    ⟨(World.cell?_of_block (a := ⟨r, 0, none⟩) (he r (by omega))).trans c0, (World.cell?_of_block (a := ⟨p6, 0, none⟩) (he p6 (by omega))).trans c6, run_loadTrk (rangeAt_block (rangeAt_block HR0.out.1 (hb0.block tb HR0.out.2)) (he tb (by have := HR0.out.2; omega)))⟩
  have HKR := Lib.hid hkr
  have HW0 := Lib.hid (And.intro hb0 (And.intro hsz hW0))
  have HPP := Lib.hid (And.intro hp5 (And.intro hp6 hp7))
  clear hkr hb0 hsz hW0 c0 c6 hp5 hp6 hp7 hrl
  have ST1 := run_storeTrk (t := t) (cho_two W0 (.cells Z0 26) (.cells #[.int .i64 0] 3)).1 hZs
  have ST2 := run_storeTrk (t := t) (cho_two W0 (.cells #[.int .i64 0] 3) (.cells Z0 26)).2 hZs
  have SA1 := fun cs => (cho_cells1 W0 Z0 cs).1
  have SB1 := fun cs => (cho_cells1 W0 Z0 cs).2
  have SA2 := fun cs => (cho_cells2 W0 Z0 cs).1
  have SB2 := fun cs => (cho_cells2 W0 Z0 cs).2
  have K0 := Lib.hid (HKR.out W0.drew (fun _ _ => rfl))
  have K1 := Lib.hid (HKR.out (W0.alloc (.cells Z0 26)).drew (fun j hj => Below.heap_alloc _ _ _ hj))
  have K2 := Lib.hid (HKR.out (W0.alloc (.cells #[.int .i64 0] 3)).drew (fun j hj => Below.heap_alloc _ _ _ hj))
  have K3 := Lib.hid (HKR.out _ (cho_old W0 (.cells Z0 26) (.cells #[.int .i64 0] 3)))
  have K4 := Lib.hid (HKR.out _ (cho_old W0 (.cells #[.int .i64 0] 3) (.cells Z0 26)))
  have K5 := Lib.hid (HKR.out _ (cho_oldR W0 (.cells Z0 26) (.cells #[.int .i64 0] 3) W0.heap.size (trkR.f t).toArray (Nat.le_refl _)))
  have K6 := Lib.hid (HKR.out _ (cho_oldR W0 (.cells #[.int .i64 0] 3) (.cells Z0 26) (W0.heap.size + 1) (trkR.f t).toArray (Nat.le_succ _)))
  have K7 := Lib.hid (HKR.out _ (fun j hj => (cho_end1 W0 Z0 t).2.2.1.block j hj))
  have K8 := Lib.hid (HKR.out _ (fun j hj => (cho_end2 W0 Z0 t).2.2.1.block j hj))
  refine region_meet (R := fun a wx => ∃ b8 b9, a = { tmps := #[.pointer (some ⟨r, 0, none⟩), .pointer vp, .int .i64 k, .int .i64 now, undef, .pointer (some ⟨p5, 0, none⟩), .pointer (some ⟨p6, 0, none⟩), .pointer (some ⟨p7, 0, none⟩), .pointer (some ⟨b8, 0, none⟩), .pointer (some ⟨b9, 0, none⟩), undef, undef, undef, undef, undef, undef, undef, .pointer (some ⟨r, 0, none⟩), .pointer (some ⟨r, 0, none⟩), .pointer (some ⟨r, 0, none⟩), .slice (some ⟨tb, 0, none⟩) n cap, .int .i64 k, .pointer (some ⟨tb, k * 18, none⟩), .agg (trkR.f t).toArray, undef, undef, undef, undef, undef, undef, undef, undef, undef, undef, undef, undef, undef, undef, undef, undef, undef, undef, undef, undef, undef, undef, undef, undef, undef, undef, undef, undef, undef, undef, undef, undef, undef, undef, undef, undef, undef, undef, undef, undef, undef, undef, undef, undef, undef, undef, undef, undef, undef, undef, undef, undef, undef, undef, undef, undef, undef, undef, undef, undef, undef, undef, undef, undef, undef, undef, undef, undef], defers := [] } ∧ ChoEnd W0 t b8 b9 wx) ?h1 ?h2
  case h1 => as_aux_lemma =>
    go_region_held3 (fun w' => w'.cell? ⟨r, 0, none⟩ = some (.slice (some ⟨tb, 0, none⟩) n cap) ∧ w'.cell? ⟨p6, 0, none⟩ = some (.int .i64 k) ∧ (loadTrk (.pointer (some ⟨tb, k * 18, none⟩))).run Tryz.prog w' = .ok (.agg (trkR.f t).toArray) w') (first | exact K0.out | exact K1.out | exact K2.out | exact K3.out | exact K4.out | exact K5.out | exact K6.out | exact K7.out | exact K8.out) (fail)
    all_goals first
      | exact ⟨_, _, rfl, cho_end1 W0 Z0 t⟩
      | exact ⟨_, _, rfl, cho_end2 W0 Z0 t⟩
  case h2 =>
    rintro _ wx ⟨b8, b9, rfl, h8, h9, hbx, l8, l9⟩
    have hbw : Below w.heap.size w wx := HW0.out.1.trans (hbx.mono HW0.out.1.size)
    obtain ⟨wb, hwb⟩ : ∃ wb, wb = wx.heap.size := ⟨_, rfl⟩
    obtain ⟨W1, hW1⟩ : ∃ W1, W1 = wx.alloc (.cells #[.slice none 0 0] 22) := ⟨_, rfl⟩
    have hb1 : Below wx.heap.size wx W1 := by rw [hW1]; exact (Below.refl _ wx).alloc (Nat.le_refl _) _
    have x10 : Boxed W1 wb 22 (.slice none 0 0) := by rw [hW1, hwb]; exact Boxed.new wx _ _
    have hs1 : W1.heap.size = wb + 1 := by rw [hW1, hwb]; simp
    have b8l : b8 < wx.heap.size := (Array.getElem?_eq_some_iff.1 h8).1
    have b9l : b9 < wx.heap.size := h9.lt
    have h8' : W1.heap[b8]? = some (.cells (trkR.f t).toArray 26 (0, 0)) := (hb1.block b8 b8l).trans h8
    have h9' : Boxed W1 b9 3 (.int .i64 0) := (hb1.block b9 b9l).trans h9
    have hbw1 : Below w.heap.size w W1 := hbw.trans (hb1.mono hbw.size)
    obtain ⟨hp5, hp6, hp7⟩ := HPP.out
    obtain ⟨-, hsz0, hW0⟩ := HW0.out
    have x5 : Boxed W0 p5 34 (.pointer vp) := by rw [hW0, hp5]; exact ((Boxed.new w _ _).alloc _).alloc _
    have x6 : Boxed W0 p6 3 (.int .i64 k) := by
      have := Boxed.new (w.alloc (.cells #[.pointer vp] 34)) 3 (.int .i64 k)
      rw [World.size_alloc] at this
      rw [hW0, hp6, hp5]; exact this.alloc _
    have x7 : Boxed W0 p7 3 (.int .i64 now) := by
      have := Boxed.new ((w.alloc (.cells #[.pointer vp] 34)).alloc (.cells #[.int .i64 k] 3)) 3 (.int .i64 now)
      rw [World.size_alloc, World.size_alloc] at this
      rw [hW0, hp7, hp6, hp5]; exact this
    have hb01 : Below W0.heap.size W0 W1 := hbx.trans (hb1.mono hbx.size)
    have y5 : Boxed W1 p5 34 (.pointer vp) := (hb01.block p5 (by omega)).trans x5
    have y6 : Boxed W1 p6 3 (.int .i64 k) := (hb01.block p6 (by omega)).trans x6
    have y7 : Boxed W1 p7 3 (.int .i64 now) := (hb01.block p7 (by omega)).trans x7
    obtain ⟨hrv, hin, hnow, hok, hvp⟩ := HRE.out
    obtain ⟨FR1, hre1, -⟩ := (hrv.below hbw1).re
    have hall := refer_All hre1 (by have := hin.len; omega)
    have hbs := hbx.size
    have hnb : b9 ≠ wb ∧ b8 ≠ wb ∧ p5 ≠ wb ∧ p6 ≠ wb ∧ p7 ≠ wb ∧ p5 ≠ b9 ∧ p6 ≠ b9 ∧ p7 ≠ b9 ∧ w.heap.size ≤ b9 ∧ w.heap.size ≤ wb ∧ w.heap.size ≤ p5 ∧ p5 < W1.heap.size ∧ p6 < W1.heap.size ∧ p7 < W1.heap.size ∧ b8 < W1.heap.size ∧ b9 < W1.heap.size ∧ wb < W1.heap.size := by omega
    have hb89 : b8 ≠ b9 := fun e => by
      have a1 := h8'
      have a2 : W1.heap[b9]? = some (.cells #[.int .i64 0] 3 (0, 0)) := h9'
      rw [e, a2] at a1
      injection a1 with a1
      injection a1 with a1 a2 a3
      have h18 : (trkR.f t).toArray.size = 18 := by rw [List.size_toArray, trkR.len]; rfl
      first | rw [← a1] at h18 | rw [a1] at h18
      simp at h18
    have H1 := Lib.hid (And.intro x10 (And.intro h8' (And.intro h9' (And.intro hbw1 (And.intro y5 (And.intro y6 (And.intro y7 (And.intro hnb hb89))))))))
    have HW1 := Lib.hid hW1
    have HWB := Lib.hid hwb
    have HALL := Lib.hid hall
    clear h8 h9 hbx l8 l9 hbw hW1 hb1 x10 b8l b9l h8' h9' hre1 hwb ST1 ST2 SA1 SB1 SA2 SB2 K0 K1 K2 K3 K4 K5 K6 K7 K8 RA hZs hkn hs1 hbw1 hp5 hp6 hp7 hsz0 hW0 x5 x6 x7 hb01 y5 y6 y7 hrv hin hnow hok hvp hall hbs hnb hb89
    gi_wp2_with (first
      | (refine ⟨trivial, ?_⟩; gi_at_call 57; rw [← HW1.out]; refine (callsIn_wide.2 HALL.out).mono ?_; rintro e w2 ⟨ab, v2, rfl, hbx, ho, hl, hb⟩; have H2 := Lib.hid (And.intro hbx (And.intro ho (And.intro hl hb))); clear hbx ho hl hb)
      | (gi_at_call 57; rw [← HW1.out]; refine (callsIn_wide.2 HALL.out).mono ?_; rintro e w2 ⟨ab, v2, rfl, hbx, ho, hl, hb⟩; have H2 := Lib.hid (And.intro hbx (And.intro ho (And.intro hl hb))); clear hbx ho hl hb)
      | fail)
    rw [← HWB.out]
    obtain ⟨hab, ho2, hl2, hb2⟩ := H2.out
    obtain ⟨x10, h8, h9, hbw1, y5, y6, y7, hnb, hb89⟩ := H1.out
    obtain ⟨hrv, hin, hnow, hok, hvp⟩ := HRE.out
    obtain ⟨n1, n2, n3, n4, n5, n6, n7, n8, n9, n10, n11, n12, n13, n14, n15, n16, n17⟩ := hnb
    have hs2 := hb2.size
    have hit := now1_iter_R 0 ab v2 (rowR 0 R) w2 hab ho2.reads (by rw [rowR_len]; have := hin.len; omega) (fun k => k = ab ∨ v2.ownBlock = some k) (.inl rfl) (fun k hk => .inr hk)
    have hGl : ∀ k, (k = ab ∨ v2.ownBlock = some k) → k < w2.heap.size := fun k hk => hk.elim (fun e => by rw [e]; exact hab.lt) (fun e => (ho2.block e).2)
    have hGn : ∀ k, (k = ab ∨ v2.ownBlock = some k) → W1.heap.size ≤ k := fun k hk => hk.elim (fun e => by omega) (fun e => by have := (ho2.block e).1; omega)
    have l9 : b9 < w2.heap.size := by omega
    have lw : wb < w2.heap.size := by omega
    have i9 : Boxed w2 b9 3 (.int .i64 0) := (hb2.block b9 n16).trans h9
    have iw : Boxed w2 wb 22 (.slice none 0 0) := (hb2.block wb n17).trans x10
    have i8 : w2.heap[b8]? = some (.cells (trkR.f t).toArray 26 (0, 0)) := (hb2.block b8 n15).trans h8
    have i5 : Boxed w2 p5 34 (.pointer vp) := (hb2.block p5 n12).trans y5
    have i6 : Boxed w2 p6 3 (.int .i64 k) := (hb2.block p6 n13).trans y6
    have i7 : Boxed w2 p7 3 (.int .i64 now) := (hb2.block p7 n14).trans y7
    have HI2 := Lib.hid (And.intro i8 (And.intro i5 (And.intro i6 (And.intro i7 (And.intro (hbw1.trans (hb2.mono hbw1.size)) (show p5 < w2.heap.size ∧ p6 < w2.heap.size ∧ p7 < w2.heap.size ∧ b8 < w2.heap.size by omega))))))
    have HNB := Lib.hid (And.intro n1 (And.intro n2 (And.intro n3 (And.intro n4 (And.intro n5 (And.intro n6 (And.intro n7 (And.intro n8 (And.intro hb89 (And.intro n9 n10))))))))))
    have HL9 := Lib.hid (And.intro l9 lw)
    have hpd : ∀ x ∈ rowR 0 R, soon x.2.sb := fun x hx => by
      obtain ⟨j, hj, -⟩ := mem_rowR.1 hx
      exact hin.sb _ (List.mem_of_getElem? hj)
    have hpr : 0 ≤ t.prep ∧ t.prep ≤ 1000 := by
      simp only [trackB, Bool.and_eq_true] at hok
      exact withinB_out hok.1.1.1.1.1.1.2
    have hmo : 1 ≤ t.most ∧ t.most ≤ 12 := by
      simp only [trackB, Bool.and_eq_true] at hok
      exact withinB_out hok.1.1.1.1.1.1.1.1.1
    have HPD := Lib.hid (And.intro hpd (And.intro hnow (And.intro hpr (And.intro hmo (show (rowR 0 R).length ≤ 12 by rw [rowR_len]; exact hin.len)))))
    clear hpd hpr hmo hrv hin hnow hok hvp y5 y6 y7 x10 h8 h9 hbw1 i8 i5 i6 i7 hb89 hab ho2 hl2 hb2 hs2 n2 n3 n4 n5 n6 n7 n8 n9 n10 n11 n12 n13 n14 n15
    refine range_outerAU (n := 0) (gf := 119) (lb := #[.pointer (some ⟨ab, 0, none⟩)]) rfl enters_now_R hit (Grow.refl w2) (fun k hk => ⟨hGl k hk, rfl⟩) (fun _ => rfl)
      (fun k => k = b9 ∨ k = wb) (by rintro k (rfl | rfl); exact ⟨l9, fun hg => by have := hGn _ hg; omega⟩; exact ⟨lw, fun hg => by have := hGn _ hg; omega⟩) (ChI t k now w2.heap.size b9 wb w2) (fun _ _ _ _ => False) (ChI.stab l9 lw) (fun c _ _ _ h => h.elim)
      ⟨.slice none 0 0, i9, iw, OwnN.nil _ _, fun k => ⟨fun h => h.elim, fun h => by cases h⟩, fun _ _ _ _ => rfl, Nat.le_refl _⟩
      (fun x N T => (((T.setIfInBounds 26 (.int .i64 x.1)).setIfInBounds 27 (.agg (rfS.f x.2).toArray)).setIfInBounds 11 (.int .i64 x.1)).setIfInBounds 12 (.pointer (some ⟨N, 0, none⟩)))
      (fun x N W => W.heap[N]? = some (.cells (rfS.f x.2).toArray 56 (0, 0))) (fun x N W W' h e => e.trans h) ?assign ?body ?done ?stop
    case stop => exact fun _ _ _ _ _ _ h => h.elim
    case assign =>
      intro l x W K hK
      simp only [encs_R]
      gi_wp2_with (first
        | (refine wplIn_allocS (s := rfS) rfl rfl rfl ?_)
        | (refine wplIn_storeS (s := rfS) (t := x.2) (b := W.heap.size) _ _ rfl rfl rfl rfl rfl (World.alloc_heap_new W _) (zeroS rfS) ?_; rw [newS])
        | fail)
      exact hK _ ((Below.refl _ W).alloc (Nat.le_refl _) _) (by simp) (World.alloc_heap_new _ _)
    case body => as_aux_lemma =>
      rintro l pre x Φ Nx W hpx hJ hl hΦ - hlN hNW hAt
      have hxm : x ∈ rowR 0 R := hpx.subset (by simp)
      have hJ0 := hJ
      obtain ⟨v, e1, e2, e3, e4, e5, e6⟩ := hJ
      obtain ⟨i8, i5, i6, i7, hbw, q5, q6, q7, q8⟩ := HI2.out
      obtain ⟨n1, n2, n3, n4, n5, n6, n7, n8, hb89, n9, n10⟩ := HNB.out
      have c9 := e1.cell
      have f9 := e1.frozen
      have cw := e2.cell
      have fw := e2.frozen
      have c6 : W.cell? ⟨p6, 0, none⟩ = some (.int .i64 k) := Boxed.cell (t := 3) ((e5 p6 q6 n7 n4).trans i6)
      have c7 : W.cell? ⟨p7, 0, none⟩ = some (.int .i64 now) := Boxed.cell (t := 3) ((e5 p7 q7 n8 n5).trans i7)
      have hr8 : W.rangeAt b8 0 (trkR.f t) := rangeAt_whole (T := 26) ((e5 b8 q8 hb89 n2).trans i8)
      have c82 : W.cell? ⟨b8, 2, none⟩ = some (.int .i64 t.prep) := by have := hr8 2 _ (show (trkR.f t)[2]? = some (.int .i64 t.prep) from rfl); rwa [Nat.zero_add] at this
      obtain ⟨x0, x1, -, x35, -, -, x38, x39, -, -⟩ := rf_at (rangeAt_whole (T := 56) hAt)
      have hsb := HPD.out.1 x hxm
      obtain ⟨hnow, hpr, hmo, hln⟩ := HPD.out.2
      obtain ⟨st, hst⟩ : ∃ st, st = x.2.st := ⟨_, rfl⟩
      obtain ⟨tr, htr⟩ : ∃ tr, tr = x.2.tr := ⟨_, rfl⟩
      obtain ⟨sb, hsb'⟩ : ∃ sb, sb = x.2.sb := ⟨_, rfl⟩
      obtain ⟨bk, hbk⟩ : ∃ bk, bk = x.2.bk := ⟨_, rfl⟩
      obtain ⟨si, hsi⟩ : ∃ si, si = x.2.si := ⟨_, rfl⟩
      obtain ⟨pp, hpp⟩ : ∃ pp, pp = t.prep := ⟨_, rfl⟩
      have eD : isDec k x.2 = (decide (st = 1) && decide (tr = k) && !decide (si = -1)) := by unfold isDec; rw [hst, htr, hsi]
      have eW : isWait t k now x.2 = (decide (st = 1) && decide (tr = k) && decide (si = -1) && !decide (bk = -1) && decide (pp ≤ now - sb)) := by unfold isWait; rw [hst, htr, hsi, hbk, hsb', hpp]
      rw [← hst] at x0
      rw [← htr] at x1
      rw [← hsb'] at x35 hsb
      rw [← hbk] at x38
      rw [← hsi] at x39
      rw [← hpp] at c82 hpr
      unfold soon at hnow hsb
      have wr1 := fun (_ : True) => (show IntKind.i64.wrap (now - sb) = now - sb from IntWalk.i64_in _ (by omega))
      obtain ⟨d, hd⟩ : ∃ d, d = decP k pre := ⟨_, rfl⟩
      have hdl : d ≤ 12 := by rw [hd]; have h1 := decP_le k pre; have h2 := hpx.length_le; rw [List.length_append, List.length_singleton] at h2; omega
      rw [← hd] at c9
      have hwl : (waitP t k now pre).length ≤ 100000 := by have h1 := waitP_len t k now pre; have h2 := hpx.length_le; rw [List.length_append, List.length_singleton] at h2; omega
      have HWL := Lib.hid hwl
      clear hwl
      have wr2 := fun (_ : True) => (show IntKind.i64.wrap ((d : Int) + 1) = (d : Int) + 1 from IntWalk.i64_in _ (by omega))
      have WR := Lib.hid (And.intro wr1 wr2)
      clear wr1 wr2
      have skip : isDec k x.2 = false → isWait t k now x.2 = false → ∀ W', Below W.heap.size W W' → Leaves (fun k => k = b9 ∨ k = wb) Φ W (fun Φ' W' => ChI t k now w2.heap.size b9 wb w2 (pre ++ [x]) Φ' W') W' := fun h1 h2 W' hb => hJ0.skip h1 h2 hb HL9.out.1 HL9.out.2
      have SK := Lib.hid skip
      have HJ := Lib.hid hJ0
      have HED := Lib.hid (And.intro eD eW)
      have HE := Lib.hid (And.intro e1 (And.intro e2 (And.intro e3 (And.intro e4 (And.intro e5 e6)))))
      have HDL := Lib.hid (And.intro hd hdl)
      obtain ⟨ref, href⟩ : ∃ ref, ref = x.1 := ⟨_, rfl⟩
      rw [← href]
      have HREF := Lib.hid href
      have hWl : wb < W.heap.size := by have := HL9.out.2; omega
      have HAL := Lib.hid (show (∀ o, w2.heap.size ≤ (W.alloc o).heap.size) ∧ (∀ o, wb < (W.alloc o).heap.size) from ⟨fun o => by rw [World.size_alloc]; omega, fun o => by rw [World.size_alloc]; omega⟩)
      have HOW := Lib.hid (show some wb ≠ v.ownBlock from fun e => by have := (e3.block e.symm).1; have := HL9.out.2; omega)
      clear skip hJ0 e1 e2 e3 e4 e5 e6 eD eW i8 i5 i6 i7 hbw q5 q6 q7 q8 n1 n2 n3 n4 n5 n6 n7 n8 hb89 n9 n10 hst htr hsb' hbk hsi hpp hsb hnow hpr hmo hln hd hdl href hr8 hAt hxm hit hGl hGn hpx i9 iw
      have wr1 := WR.out.1 trivial
      have wr2 := WR.out.2 trivial
      by_cases z1 : st = 1
      · have b1 : (st != 1) = false := by simp [z1]
        by_cases z2 : tr = k
        · have b2 : (tr != (k : Int)) = false := by simp [z2]
          by_cases z3 : si = -1
          · have b3 : (si != -1) = false := by simp [z3]
            have hD : isDec k x.2 = false := by rw [HED.out.1]; simp [z3]
            by_cases z4 : bk = -1
            · have b4 : (bk != -1) = false := by simp [z4]
              have hW : isWait t k now x.2 = false := by rw [HED.out.2]; simp [z4]
              have HQ := Lib.hid (And.intro hD hW)
              clear hD hW z1 z2 z3 z4
              gi_wp2_with fail
              exact SK.out HQ.out.1 HQ.out.2 _ (Below.refl _ _)
            · have b4 : (bk != -1) = true := by simp [z4]
              by_cases z5 : pp ≤ now - sb
              · have b5 : decide (pp ≤ now - sb) = true := decide_eq_true z5
                have hW : isWait t k now x.2 = true := by rw [HED.out.2]; simp [z1, z2, z3, z4, z5]
                have HQ := Lib.hid (And.intro hD hW)
                obtain ⟨ao1, cap1, rfl⟩ := HE.out.2.2.1.lenOf
                obtain ⟨pl, hpl⟩ : ∃ pl, pl = (waitP t k now pre).length := ⟨_, rfl⟩
                rw [← hpl] at cw HE HOW
                have HPL := Lib.hid hpl
                have hA1 : ∀ o, w2.heap.size ≤ (W.alloc o).heap.size := HAL.out.1
                have hA2 : ∀ o, wb < (W.alloc o).heap.size := HAL.out.2
                have hA3 : some wb ≠ (Value.slice ao1 pl cap1).ownBlock := HOW.out
                have HA := Lib.hid (And.intro hA1 (And.intro hA2 hA3))
                clear hA1 hA2 hA3
                clear hD hW z1 z2 z3 z4 z5 hpl
                gi_wp2_with (first
                  | (refine wplIn_appN_at (B := w2.heap.size) (ub := W.heap.size) (xs := waitP t k now pre) (y := ref) rfl rfl rfl rfl (HE.out.2.2.1.of (Nat.le_refl _) (fun k hk => Below.heap_alloc _ _ _ (HE.out.2.2.1.block hk).2)) (by rw [World.cell?, World.alloc_heap_new]; rfl) HWL.out (HA.out.1 _) ?_; intro v' w3 hO hg hat; have cB : w3.cell? ⟨wb, 0, none⟩ = some (.slice ao1 pl cap1) := (World.cell?_of_block (a := ⟨wb, 0, none⟩) ((hg.block wb (HA.out.2.1 _) HA.out.2.2).trans (Below.heap_alloc _ _ _ hWl))).trans cw; have fB : w3.frozen? ⟨wb, 0, none⟩ = false := ((HE.out.2.1.alloc _).kept hg HA.out.2.2).frozen; obtain ⟨ao2, cap2, rfl⟩ := hO.lenOf; obtain ⟨m2, hm2⟩ : ∃ m2, m2 = (waitP t k now pre ++ [ref]).length := ⟨_, rfl⟩; rw [← hm2] at hO hat; rw [← hm2]; have HO := Lib.hid (And.intro hO (And.intro hg hat)); clear hO hg hat hm2)
                  | fail)
                obtain ⟨e1, e2, e3, e4, e5, e6⟩ := HE.out
                obtain ⟨hO, hg, hat⟩ := HO.out
                rw [HREF.out] at hO hg hat
                exact ChI.app e1 e2 e3 e4 e5 e6 HQ.out.1 HQ.out.2 HNB.out.1 HL9.out.1 HL9.out.2 ((Below.refl _ W).alloc (Nat.le_refl _) _) hO hg hat
              · have b5 : decide (pp ≤ now - sb) = false := decide_eq_false z5
                have hW : isWait t k now x.2 = false := by rw [HED.out.2]; simp [z5]
                have HQ := Lib.hid (And.intro hD hW)
                clear hD hW z1 z2 z3 z4 z5
                gi_wp2_with fail
                exact SK.out HQ.out.1 HQ.out.2 _ (Below.refl _ _)
          · have b3 : (si != -1) = true := by simp [z3]
            have hD : isDec k x.2 = true := by rw [HED.out.1]; simp [z1, z2, z3]
            have hW : isWait t k now x.2 = false := by rw [HED.out.2]; simp [z3]
            have HQ := Lib.hid (And.intro hD hW)
            clear hD hW z1 z2 z3
            gi_wp2_with fail
            have := HJ.out.dec HQ.out.1 HQ.out.2 HNB.out.1 HL9.out.1 HL9.out.2
            rw [← HDL.out.1] at this
            exact this
        · have b2 : (tr != (k : Int)) = true := by simpa using z2
          have hD : isDec k x.2 = false := by rw [HED.out.1]; simp [z2]
          have hW : isWait t k now x.2 = false := by rw [HED.out.2]; simp [z2]
          have HQ := Lib.hid (And.intro hD hW)
          clear hD hW z1 z2
          gi_wp2_with fail
          exact SK.out HQ.out.1 HQ.out.2 _ (Below.refl _ _)
      · have b1 : (st != 1) = true := by simpa using z1
        have hD : isDec k x.2 = false := by rw [HED.out.1]; simp [z1]
        have hW : isWait t k now x.2 = false := by rw [HED.out.2]; simp [z1]
        have HQ := Lib.hid (And.intro hD hW)
        clear hD hW z1
        gi_wp2_with fail
        exact SK.out HQ.out.1 HQ.out.2 _ (Below.refl _ _)
    case done => as_aux_lemma =>
      rintro D Φ W3 ⟨v3, e1, e2, e3, e4, e5, e6⟩ hon hD hnD hK
      obtain ⟨i8, i5, i6, i7, hbw, q5, q6, q7, q8⟩ := HI2.out
      obtain ⟨n1, n2, n3, n4, n5, n6, n7, n8, hb89, n9, n10⟩ := HNB.out
      obtain ⟨hrv, hin, hnow, hok, hvp⟩ := HRE.out
      have hws : w.heap.size ≤ w2.heap.size := hbw.size
      have hbW3 : Below w.heap.size w W3 := hbw.trans (hon.below hws (fun k hk => hk.elim (fun e => by rw [e]; exact n9) (fun e => by rw [e]; exact n10)) (fun k h => h.elim))
      have hr3 := hrv.below hbW3
      have hln : (waitP t k now (rowR 0 R)).length ≤ 12 := Nat.le_trans (waitP_len _ _ _ _) HPD.out.2.2.2.2
      have j5 : Boxed W3 p5 34 (.pointer vp) := (e5 p5 q5 n6 n3).trans i5
      have hvZ : ∀ k, v3.ownBlock = some k → ¬ Z k := fun k hk hz => by have := (e3.block hk).1; have := hrv.lt hz; omega
      have hs3 := hon.grow.size
      have hvp5 : v3.ownBlock ≠ some p5 := fun e => by have := (e3.block e).1; omega
      have hcmp : ∀ (x y : Int) (wr : World), Grow W3 wr → (∀ j, j < W3.heap.size → v3.ownBlock ≠ some j → wr.heap[j]? = W3.heap[j]?) → Calls Tryz.prog 94 #[.int .i64 x, .int .i64 y, .pointer (some ⟨p5, 0, none⟩)] wr fun e w' => e = .returned (.int .i64 (cmpA S x y)) ∧ Below wr.heap.size wr w' := fun x y wr hg ho => by
        obtain ⟨F, hvo, -⟩ := (hr3.keep hg (fun k hk => ho k (hr3.lt hk) (fun e => hvZ k e hk))).vo
        exact choose_cmp hvo (by rw [← hvp]; exact Boxed.cell (t := 34) ((ho p5 (by omega) hvp5).trans j5)) x y
      have hsort := sortStable_small (q := p5) (cf := cmpA S) e3 hln hcmp
      have cw := e2.cell
      have f8 : W3.heap[b8]? = some (.cells (trkR.f t).toArray 26 (0, 0)) := (e5 b8 q8 hb89 n2).trans i8
      have j7 : Boxed W3 p7 3 (.int .i64 now) := (e5 p7 q7 n8 n5).trans i7
      obtain ⟨hnowb, hpr, hmo, -⟩ := HPD.out.2
      obtain ⟨l0, hl0⟩ : ∃ l0, l0 = waitP t k now (rowR 0 R) := ⟨_, rfl⟩
      obtain ⟨d, hd⟩ : ∃ d, d = decP k (rowR 0 R) := ⟨_, rfl⟩
      have hdl : d ≤ 12 := by rw [hd]; exact Nat.le_trans (decP_le _ _) HPD.out.2.2.2.2
      rw [← hl0] at e3 hln hsort
      rw [← hd] at e1
      obtain ⟨l4, hl4⟩ : ∃ l4, l4 = isort (cmpA S) l0 := ⟨_, rfl⟩
      rw [← hl4] at hsort
      have hl4n : l4.length = l0.length := by rw [hl4]; exact isort_len _ _
      obtain ⟨m, hm⟩ : ∃ m, m = min l0.length (max (t.most - d) 0).toNat := ⟨_, rfl⟩
      have hch : chosen t R S k now = l4.take m := by
        unfold chosen
        simp only
        rw [← hl0, ← hd, ← hl4, hl4n, ← hm]
      have hmem : ∀ x ∈ l4.take m, ∃ kk : Nat, x = kk ∧ kk < R.length := fun x hx => mem_chosen (t := t) (S := S) (i := k) (now := now) (by rw [hch]; exact hx)
      have hDl : D < W3.heap.size := (Array.getElem?_eq_some_iff.1 hK).1
      have hDv : v3.ownBlock ≠ some D := fun e => hnD ((e4 D).2 e)
      have hDZ : ¬ Z D := fun hz => by have := hrv.lt hz; omega
      -- behind the sort
      have hsort2 : Calls Tryz.prog 93 #[v3, .func (.func 94) #[] #[.pointer (some ⟨p5, 0, none⟩)]] W3 fun e w4 => (∃ u, e = .returned u) ∧ OwnN w2.heap.size v3 l4 w4 ∧ RvAt r g vb N ts R S A M Z w4 ∧ Below w.heap.size w w4 ∧ Boxed w4 wb 22 v3 ∧ Boxed w4 b9 3 (.int .i64 d) ∧ Boxed w4 p7 3 (.int .i64 now) ∧ w4.heap[b8]? = some (.cells (trkR.f t).toArray 26 (0, 0)) ∧ w4.heap[D]? = some (.deferred (some [])) ∧ D < w4.heap.size := by
        refine hsort.mono ?_
        rintro e w4 ⟨he, ho4, hg4, hoff⟩
        have hv2 : ∀ k, k < w2.heap.size → v3.ownBlock ≠ some k := fun k hk e => by have := (e3.block e).1; omega
        refine ⟨he, ho4, hr3.keep hg4 (fun k hk => hoff k (hr3.lt hk) (fun e => hvZ k e hk)), ⟨hg4.os.trans hbW3.os, hg4.tape.trans hbW3.tape, hg4.output.trans hbW3.output, Nat.le_trans hbW3.size hg4.size, fun k hk => (hoff k (by omega) (hv2 k (by omega))).trans (hbW3.block k hk)⟩, (hoff wb (by have := HL9.out.2; omega) (hv2 wb HL9.out.2)).trans e2, (hoff b9 (by have := HL9.out.1; omega) (hv2 b9 HL9.out.1)).trans e1, (hoff p7 (by omega) (hv2 p7 q7)).trans j7, (hoff b8 (by omega) (hv2 b8 q8)).trans f8, (hoff D hDl hDv).trans hK, Nat.lt_of_lt_of_le hDl hg4.size⟩
      have HSORT := Lib.hid hsort2
      have HFIN := Lib.hid (show chooseR t R S k now = selR R now (l4.take m) by unfold chooseR; rw [hch])
      have HMEM := Lib.hid hmem
      have HM := Lib.hid (And.intro hm (And.intro hl4n (And.intro hdl (And.intro hmo (And.intro hln (And.intro hDZ (And.intro hin (And.intro hws (Nat.le_trans hws hD)))))))))
      clear e1 e2 e3 e4 e5 e6 hon hD hnD hK i8 i5 i6 i7 hbw q5 q6 q7 q8 n1 n2 n3 n4 n5 n6 n7 n8 hb89 n9 n10 hrv hin hnow hok hvp hws hbW3 hr3 hln j5 hvZ hs3 hvp5 hcmp hsort f8 j7 hnowb hpr hmo hd hdl hl0 hl4 hl4n hm hch hmem hDl hDv hDZ hsort2 hit hGl hGn i9 iw l9 lw
      gi_upto_region 12 with (first
        | (refine ⟨trivial, ?_⟩; gi_at_call 93; refine (callsIn_wide.2 HSORT.out).mono ?_; rintro e w4 ⟨⟨u, rfl⟩, h4⟩; have H4 := Lib.hid h4; clear h4)
        | (gi_at_call 93; refine (callsIn_wide.2 HSORT.out).mono ?_; rintro e w4 ⟨⟨u, rfl⟩, h4⟩; have H4 := Lib.hid h4; clear h4)
        | fail)
      obtain ⟨ho4, hr4, hb4, x4w, x49, x47, x48, hD4, hDl4⟩ := H4.out
      obtain ⟨hm, hl4n, hdl, hmo, hln, hDZ, hin, hws, hDw⟩ := HM.out
      have cw := x4w.cell
      have c9 := x49.cell
      have hr8 : w4.rangeAt b8 0 (trkR.f t) := rangeAt_whole (T := 26) x48
      have c80 : w4.cell? ⟨b8, 0, none⟩ = some (.int .i64 t.most) := by have := hr8 0 _ (show (trkR.f t)[0]? = some (.int .i64 t.most) from rfl); rwa [Nat.zero_add] at this
      obtain ⟨dm, hdm⟩ : ∃ dm, dm = t.most - (d : Int) := ⟨_, rfl⟩
      obtain ⟨mx, hmx⟩ : ∃ mx, mx = max dm 0 := ⟨_, rfl⟩
      obtain ⟨ln, hlnn⟩ : ∃ ln, ln = l0.length := ⟨_, rfl⟩
      rw [← hlnn] at hl4n hln
      have hm2 : m = min ln mx.toNat := by rw [hm, hmx, hdm, ← hlnn]
      have E1 : IntKind.i64.wrap (t.most - (d : Int)) = dm := by rw [hdm]; exact IntWalk.i64_in _ (by omega)
      have E2 : (if dm < 0 then (0 : Int) else dm) = mx := by rw [hmx]; omega
      have E2' : max dm 0 = mx := hmx.symm
      have E3 : (if mx < (ln : Int) then mx else (ln : Int)) = (m : Int) := by rw [hm2]; omega
      have E3' : min (ln : Int) mx = (m : Int) := by rw [hm2]; omega
      have hmln : m ≤ ln := by rw [hm2]; omega
      obtain ⟨mo, hmo'⟩ : ∃ mo, mo = t.most := ⟨_, rfl⟩
      rw [← hmo'] at c80 E1
      have H4b := Lib.hid (And.intro ho4 (And.intro hr4 (And.intro hb4 (And.intro x47 (And.intro hD4 hDl4)))))
      have HMb := Lib.hid (And.intro hl4n (And.intro hln (And.intro hDZ (And.intro hin (And.intro hws hDw)))))
      clear hr4 hb4 x4w x49 x47 x48 hD4 hDl4 hm hdl hmo hln hDZ hin hws hDw hdm hmx hlnn hm2 hr8 hmo'
      rcases ho4.2 with ⟨hv, hn0⟩ | ⟨b, cap3, cur, hv, hb, hg, hn, hcm, hcs, hct⟩
      · subst hv
        have hl00 : ln = 0 := by rw [← hl4n]; exact hn0
        have hm0 : m = 0 := by omega
        have hl40 : l4.length = 0 := hn0
        rw [hl00, hm0] at E3 E3'
        rw [hm0] at HFIN
        obtain ⟨ho4', hr4, hb4, x47, hD4, hDl4⟩ := H4b.out
        obtain ⟨hl4n', hln, hDZ, hin, hws, hDw⟩ := HMb.out
        have X0 : RvToX r g vb N ts (selR R now (l4.take 0)) S A M Z (fun _ => False) w4 w4 := RvToX.start hr4 (fun j hj => hj.elim)
        have HX := Lib.hid X0
        have HFF := Lib.hid (And.intro hD4 (And.intro hDl4 (And.intro hDZ (And.intro hb4 hDw))))
        clear X0 ho4' hr4 hb4 x47 hD4 hDl4 hl4n' hln hDZ hin hws hDw hl00 hm0 hmln ho4 hl4n hn0 hl40
        gi_wp2_with fail
        clear E1 E2 E2' E3 E3'
        gi_loopw [75] (fun i wr => i = .int .i64 0 ∧ wr = w4) (fun _ _ => 0)
        case atStart => exact ⟨rfl, rfl⟩
        case round => as_aux_lemma =>
          obtain ⟨rfl, rfl⟩ := hrel
          gi_wp2_with fail
          obtain ⟨hD4, hDl4, hDZ, hb4, hDw⟩ := HFF.out
          have hDr := (HX.out.old hDl4 hDZ (fun h => h)).trans hD4
          obtain ⟨-, Z1, g1, g2, g3⟩ := HX.out
          have hs4 := hb4.size
          refine marks_leave [D] _ (by simp) (fun d' hd' => ?_) (fun w' hg' hk' => ⟨_, results_none rfl _ _ _, ⟨_, rfl⟩, ?_⟩)
          · simp only [List.mem_cons, List.not_mem_nil, or_false] at hd'
            subst hd'; exact hDr
          · rw [HFIN.out]
            have hDf : ∀ q, Z1 q → q ≠ D := fun q hq e => (g2 q hq).elim (fun e' => hDZ (e ▸ e')) (fun e' => by omega)
            have hne : ∀ q, q < w.heap.size → q ∉ [D] := fun q hq e => by rw [List.mem_singleton] at e; omega
            exact ⟨Z1, g1.keep hg' (fun q hq => hk' q (fun e => hDf q hq (List.mem_singleton.1 e))), fun q hq => (g2 q hq).imp id (fun e => Nat.le_trans hs4 e), (Grow.of_below hb4).trans (g3.grow.trans hg'), fun q hq h1 h2 => (hk' q (hne q hq)).trans ((g3.block q (Nat.lt_of_lt_of_le hq hs4) (fun e => e.elim h1 (fun h => h)) (fun h => h)).trans (hb4.block q hq))⟩
      · subst hv
        rw [hl4n] at cw
        have hn' : ln ≤ cap3 := by rw [← hl4n]; exact hn
        clear ho4 hb hg hn hcm hcs hct hl4n
        have hs4 : w.heap.size ≤ w4.heap.size := H4b.out.2.2.1.size
        have X0 : RvToX r g vb N ts (selR R now (l4.take 0)) S A M Z (fun _ => False) w4 w4 := RvToX.start H4b.out.2.1 (fun j hj => hj.elim)
        have HX0 := Lib.hid X0
        clear X0
        gi_wp2_with fail
        clear E1 E2 E2' E3 E3'
        gi_loopw [75] (fun i wr => ∃ j : Nat, i = .int .i64 j ∧ j ≤ m ∧ RvToX r g vb N ts (selR R now (l4.take j)) S A M Z (fun _ => False) w4 wr) (fun i _ => m - (intOf i).toNat)
        case atStart => exact ⟨0, rfl, Nat.zero_le _, HX0.out⟩
        case round => as_aux_lemma =>
          obtain ⟨j, rfl, hj, hX⟩ := hrel
          obtain ⟨ho4, hr4, hb4, x47, hD4, hDl4⟩ := H4b.out
          obtain ⟨hl4n, hln, hDZ, hin, hws, hDw⟩ := HMb.out
          have hbl : b < w4.heap.size ∧ ¬ Z b := by
            obtain ⟨hbb, hbl⟩ := ho4.block (k := b) rfl
            exact ⟨hbl, fun hz => by have := (show ∀ k, Z k → k < w.heap.size from fun k hk => by obtain ⟨hrv, -⟩ := HRE.out; exact hrv.lt hk) b hz; omega⟩
          have hp7 : p7 < w4.heap.size ∧ ¬ Z p7 := ⟨x47.lt, fun hz => by have := (show ∀ k, Z k → k < w.heap.size from fun k hk => by obtain ⟨hrv, -⟩ := HRE.out; exact hrv.lt hk) p7 hz; have := HPP.out; omega⟩
          by_cases hlt : j < m
          · have hlt' : (j : Int) < m := by omega
            have hjl : j < l4.length := by omega
            have cj : wr.cell? ⟨b, j, none⟩ = some (.int .i64 (l4.getD j 0)) := (World.cell?_of_block (a := ⟨b, j, none⟩) (hX.old hbl.1 hbl.2 (fun h => h))).trans (ho4.cellAt hjl)
            obtain ⟨kk, hkk, hkl⟩ := HMEM.out (l4.getD j 0) (by rw [List.getD_eq_getElem?_getD, List.getElem?_eq_getElem hjl]; exact List.mem_take_iff_getElem.2 ⟨j, by omega, rfl⟩)
            have c7 : wr.cell? ⟨p7, 0, none⟩ = some (.int .i64 now) := Boxed.cell (t := 3) ((hX.old hp7.1 hp7.2 (fun h => h)).trans x47)
            rw [hkk] at cj
            obtain ⟨Rj, hRj⟩ : ∃ Rj, Rj = selR R now (l4.take j) := ⟨_, rfl⟩
            have hRn : selR R now (l4.take (j + 1)) = Rj.set kk { refAt Rj kk with si := now } := by
              rw [← pre_snoc hjl, selR_snoc, ← hRj]
              have : l4[j] = (kk : Int) := by rw [← hkk, List.getD_eq_getElem?_getD, List.getElem?_eq_getElem hjl]; rfl
              rw [this, Int.toNat_natCast]
            rw [← hRj] at hX
            have hRl : Rj.length = R.length := by rw [hRj]; exact selR_len _ _ _
            obtain ⟨x, hx⟩ : ∃ x, x = refAt Rj kk := ⟨_, rfl⟩
            rw [← hx] at hRn
            obtain ⟨FR, hre, -⟩ := hX.re
            have hget := refer_Get hre (b := kk) (wfS (by omega) (by have := hin.len; omega))
            rw [← hx] at hget
            obtain ⟨qq, hqq⟩ : ∃ qq, qq = refHas Rj kk := ⟨_, rfl⟩
            rw [← hqq] at hget
            have hstep : ∀ w5, Below wr.heap.size wr w5 → ∃ w6 b9x, w6 = w5.alloc (rfS.obj x) ∧ b9x = w5.heap.size ∧ w6.cell? ⟨p7, 0, none⟩ = some (.int .i64 now) ∧ w6.cell? ⟨b9x, 39, none⟩ = some (.int .i64 x.si) ∧ w6.frozen? ⟨b9x, 39, none⟩ = false ∧ (loadSt_R (.pointer (some ⟨b9x, 0, none⟩))).run Tryz.prog (w6.setCell ⟨b9x, 39, none⟩ (.int .i64 now)) = .ok (.agg (rfS.f { x with si := now }).toArray) (w6.setCell ⟨b9x, 39, none⟩ (.int .i64 now)) ∧
                Calls Tryz.prog 41 #[.pointer (some ⟨r, 0, none⟩), .int .i64 kk, .agg (rfS.f { x with si := now }).toArray] (w6.setCell ⟨b9x, 39, none⟩ (.int .i64 now)) fun e w7 => e = .returned (.tuple #[]) ∧ RvToX r g vb N ts (selR R now (l4.take (j + 1))) S A M Z (fun _ => False) w4 w7 := fun w5 hb5 => by
              have hbx : RfBox (w5.alloc (rfS.obj x)) w5.heap.size x := World.alloc_heap_new w5 _
              have hb6 : Below wr.heap.size wr (w5.alloc (rfS.obj x)) := hb5.alloc hb5.size _
              have hb7 : Below wr.heap.size wr ((w5.alloc (rfS.obj x)).setCell ⟨w5.heap.size, 39, none⟩ (.int .i64 now)) := hb6.trans ⟨rfl, rfl, rfl, by simp [World.setCell], fun q hq => Below.heap_setCell _ _ _ q (by show q ≠ w5.heap.size; have := hb5.size; omega)⟩
              have X7 := (hX.below hb7).1
              obtain ⟨FR7, hre7, lift⟩ := X7.re
              obtain ⟨-, -, -, -, -, -, -, y39, -, -⟩ := rf_at hbx.range
              refine ⟨_, _, rfl, rfl, (World.cell?_of_block (a := ⟨p7, 0, none⟩) (hb6.block p7 (cell_lt c7))).trans c7, y39, hbx.frozen _, run_loadSt_R (hbx.set (rf_set_si x now)).range, ?_⟩
              refine (refer_set hre7 hre7.size (R' := selR R now (l4.take (j + 1))) (k := kk) (by omega) (by rw [hRl]; have := hin.len; omega) _ (by rw [if_pos (by omega), hRn])).mono ?_
              rintro e w8 ⟨he, hto⟩
              exact ⟨he, (lift _ _ hto).1⟩
            have HG := Lib.hid hget
            have HST := Lib.hid hstep
            clear ho4 hr4 hb4 x47 hD4 hDl4 hl4n hln hDZ hin hws hDw hbl hp7 hX hRj hRn hRl hx hre hget hqq hstep hkl hkk
            gi_upto_region 16 with (first
              | (refine ⟨trivial, ?_⟩; gi_at_call 21; refine (callsIn_wide.2 HG.out).mono ?_; rintro e w5 ⟨rfl, hb⟩; have H5 := Lib.hid hb; clear hb)
              | (gi_at_call 21; refine (callsIn_wide.2 HG.out).mono ?_; rintro e w5 ⟨rfl, hb⟩; have H5 := Lib.hid hb; clear hb)
              | (refine wplIn_allocS (s := rfS) rfl rfl rfl ?_)
              | (refine wplIn_storeS (s := rfS) (t := x) (b := w5.heap.size) _ _ rfl rfl rfl rfl rfl (World.alloc_heap_new w5 _) (zeroS rfS) ?_; rw [newS])
              | fail)
            obtain ⟨w6, b9x, hw6, hb9x, c7', c39, f39, lx, hset⟩ := HST.out w5 H5.out
            rw [← hw6, ← hb9x]
            have HSET := Lib.hid hset
            clear hw6 hb9x hset c7
            gi_wp2_with (first
              | (refine ⟨trivial, ?_⟩; gi_at_call 41; refine (callsIn_wide.2 HSET.out).mono ?_; rintro e w7 ⟨rfl, hX⟩; have HX := Lib.hid hX; clear hX)
              | (gi_at_call 41; refine (callsIn_wide.2 HSET.out).mono ?_; rintro e w7 ⟨rfl, hX⟩; have HX := Lib.hid hX; clear hX)
              | fail)
            have hln12 := HMb.out.2.1
            rw [IntWalk.wrap64_in _ (by omega)]
            exact ⟨⟨j + 1, rfl, by omega, HX.out⟩, by simp [intOf]; omega⟩
          · have hjm : j = m := by omega
            subst hjm
            have hge : ¬ (j : Int) < j := by omega
            have HX := Lib.hid hX
            have HFF := Lib.hid (And.intro hD4 (And.intro hDl4 (And.intro hDZ (And.intro hb4 hDw))))
            clear hX ho4 hr4 hb4 x47 hD4 hDl4 hl4n hln hDZ hin hws hDw hbl hp7
            gi_wp2_with fail
            obtain ⟨hD4, hDl4, hDZ, hb4, hDw⟩ := HFF.out
            have hDr := (HX.out.old hDl4 hDZ (fun h => h)).trans hD4
            obtain ⟨-, Z1, g1, g2, g3⟩ := HX.out
            have hs4 := hb4.size
            refine marks_leave [D] wr (by simp) (fun d' hd' => ?_) (fun w' hg' hk' => ⟨_, results_none rfl _ _ _, ⟨_, rfl⟩, ?_⟩)
            · simp only [List.mem_cons, List.not_mem_nil, or_false] at hd'
              subst hd'; exact hDr
            · rw [HFIN.out]
              have hDf : ∀ q, Z1 q → q ≠ D := fun q hq e => (g2 q hq).elim (fun e' => hDZ (e ▸ e')) (fun e' => by omega)
              have hne : ∀ q, q < w.heap.size → q ∉ [D] := fun q hq e => by rw [List.mem_singleton] at e; omega
              exact ⟨Z1, g1.keep hg' (fun q hq => hk' q (fun e => hDf q hq (List.mem_singleton.1 e))), fun q hq => (g2 q hq).imp id (fun e => Nat.le_trans hs4 e), (Grow.of_below hb4).trans (g3.grow.trans hg'), fun q hq h1 h2 => (hk' q (hne q hq)).trans ((g3.block q (Nat.lt_of_lt_of_le hq hs4) (fun e => e.elim h1 (fun h => h)) (fun h => h)).trans (hb4.block q hq))⟩
end Go.Proofs.YtpkamfbjgdmmoaaGreat
end

section
namespace Go.Proofs.YtpkamfbjgdmmoaaGreat
open Go.RowKit
set_option linter.unusedVariables false

section
variable {P : Program} {α : Type}
/-- One round, out of its body's walk: the record turns busy, then ready, or done. -/
theorem round_of_bodyB {n l : Nat} {fn : FuncId} {encs : α → Array Value} {ps : Array Tmp} {assign body : Code} {tm : Array Value} {dfr : Nat} {Ψ : FP} {I : List α → FP → World → Prop} {Ix : Code → List α → FP → World → Prop} {B : Nat} (hI : Stab B I) (hIx : ∀ c, Stab B (Ix c))
    (hBJ : B ≤ l) (hΨ : ∀ k, Ψ k → k < B) (hps : ∀ x, (encs x).size = ps.size) {D : Option Nat} (hD : ∀ d, D = some d → B ≤ d ∧ d < l) (aOf : α → Nat → Act) (At : α → Nat → World → Prop) (hAt : ∀ x N W W', At x N W → W'.heap[N]? = W.heap[N]? → At x N W') {pre : List α} {x : α} {Φ : FP} {W : World}
    (hJ : InvJ I l D (recOf fn tm ps assign body dfr .ready none) pre Φ W)
    (hassign : ∀ (W : World) (K : Act → World → Prop), (∀ W', Below W.heap.size W W' → W.heap.size < W'.heap.size → At x W.heap.size W' → K (aOf x W.heap.size) W') → assign.wpIn (Fence.wide.inRound l) n P (Exit.then K (fun _ _ _ => False)) { tmps := (ps.zip (encs x)).foldl (fun t (p, v) => t.setIfInBounds p v) tm, defers := [] } W)
    (hbody : ∀ N W, I pre Φ W → (∀ k, Φ k → l + 1 ≤ k ∧ k < N) → (∃ r, W.heap[l]? = some (.loop r)) → l < N → N < W.heap.size → At x N W → body.wpIn (Fence.wide.inRound l) n P (bodyI Ψ (fun k => Φ k ∨ k = N) I Ix (pre ++ [x]) W) (aOf x N) W) :
    RoundOk P n l encs (fun k => Ψ k ∨ k = l) (InvJ I l D (recOf fn tm ps assign body dfr .ready none))
      (fun pre Φ W => ∃ c, InvJ (Ix c) l D (recOf fn tm ps assign body dfr .done (some c)) pre Φ W) pre x Φ W := by
  obtain ⟨hi, hΦ, hl, hDW⟩ := hJ
  have hlt : l < W.heap.size := (Array.getElem?_eq_some_iff.1 hl).1
  have hy := run_yield (P := P) (args := encs x) hl (hps x)
  refine ⟨fn, _, assign, body, hy, roundIn_of_wpIn trivial (hassign W _ fun V hV hVs hVA => ?_)⟩
  have hlV : V.heap[l]? = some (.loop (recOf fn tm ps assign body dfr .ready none)) := (hV.block l hlt).trans hl
  refine ⟨_, run_beginRound hlV rfl, ?_⟩
  obtain ⟨W2, hW2⟩ : ∃ W2, W2 = V.putObj l (.loop { recOf fn tm ps assign body dfr .ready none with state := .busy }) := ⟨_, rfl⟩
  rw [← hW2]
  have hl2 : W2.heap[l]? = some (.loop (recOf fn tm ps assign body dfr .busy none)) := by rw [hW2]; exact World.putObj_heap_same (Nat.lt_of_lt_of_le hlt hV.size)
  have hnl : ∀ k, Φ k → k ≠ l := fun k hk e => by have := hΦ k hk; omega
  have ho2 : ∀ k, k ≠ l → k < W.heap.size → W2.heap[k]? = W.heap[k]? := fun k hk hkW => by rw [hW2]; exact (put_other hk).trans (hV.block k hkW)
  have hIW := hI _ _ _ hi
  have hi2 : I pre Φ W2 := hIW.2.2 _ (by rw [hW2]; exact (Grow.of_below hV).trans (put_grow _ _ _)) (fun k hk => ho2 k (hk.elim (fun h => by omega) (fun h => hnl k h)) (hk.elim (fun h => by omega) (fun h => (hIW.1 k h).2)))
  have hA2 : At x W.heap.size W2 := hAt _ _ _ _ hVA (by rw [hW2]; exact put_other (by omega))
  have hsz : W2.heap.size = V.heap.size := by rw [hW2]; simp [World.putObj]
  have hg2 : Grow W W2 := by rw [hW2]; exact (Grow.of_below hV).trans (put_grow _ _ _)
  have hWV : W.heap.size ≤ W2.heap.size := by rw [hsz]; exact hV.size
  clear hW2
  refine wpIn_mono (hbody _ _ hi2 (fun k hk => ⟨hΦ k hk, (hIW.1 k hk).2⟩) ⟨_, hl2⟩ hlt (by rw [hsz]; exact hVs) hA2) ?_
  have fin : ∀ (jump : Option Code) (Φ' : FP) (W3 : World) (R : List α → FP → World → Prop), Only Ψ (fun k => Φ k ∨ k = W.heap.size) W2 W3 → (∀ k, Φ' k → (Φ k ∨ k = W.heap.size) ∨ W2.heap.size ≤ k) → Stab B R → R (pre ++ [x]) Φ' W3 →
      ∃ W4, (Instr.endRound l jump).run P W3 = .ok (.bool jump.isNone) W4 ∧ (∀ k, Φ' k → Φ k ∨ W.heap.size ≤ k) ∧ Only (fun k => Ψ k ∨ k = l) Φ W W4 ∧
        InvJ R l D (recOf fn tm ps assign body dfr (if jump.isNone then .ready else .done) jump) (pre ++ [x]) Φ' W4 := by
    intro jump Φ' W3 R ho hn hS hR
    have hl3 : W3.heap[l]? = some (.loop (recOf fn tm ps assign body dfr .busy none)) := (ho.block l (by omega) (fun h => by have := hΨ l h; omega) (fun h => h.elim (fun h => hnl l h rfl) (fun e => by omega))).trans hl2
    have hlt3 : l < W3.heap.size := (Array.getElem?_eq_some_iff.1 hl3).1
    have hn : ∀ k, Φ' k → Φ k ∨ W.heap.size ≤ k := fun k hk => (hn k hk).elim (fun h => h.imp id (fun e => by omega)) (fun h => .inr (Nat.le_trans hWV h))
    have hΦ' : ∀ k, Φ' k → l + 1 ≤ k := fun k hk => (hn k hk).elim (hΦ k) (fun h => by omega)
    refine ⟨_, run_endRound (P := P) jump hl3, hn, ⟨(hg2.trans ho.grow).trans (put_grow _ _ _), fun k hk h1 h2 => ?_⟩, (hS _ _ _ hR).2.2 _ (put_grow _ _ _) (fun k hk => put_other ?_), hΦ', World.putObj_heap_same hlt3, fun d hd => ?_⟩
    · have hkl : k ≠ l := fun e => h1 (.inr e)
      exact (put_other hkl).trans ((ho.block k (by omega) (fun h => h1 (.inl h)) (fun h => h.elim h2 (fun e => by omega))).trans (ho2 k hkl hk))
    · rcases hk with h | h
      · omega
      · have := hΦ' k h; omega
    · obtain ⟨d1, d2⟩ := hD d hd
      exact (put_other (by omega)).trans ((ho.block d (by omega) (fun h => by have := hΨ d h; omega) (fun h => h.elim (fun h => by have := hΦ d h; omega) (fun e => by omega))).trans ((ho2 d (by omega) (by omega)).trans (hDW d hd)))
  rintro e a3 W3 hp
  cases e with
  | normal =>
    obtain ⟨Φ', hn, ho, hR⟩ := hp
    obtain ⟨W4, hr, h1, h2, h3⟩ := fin none Φ' W3 I ho hn hI hR
    exact ⟨_, _, hr, Φ', h1, h2, .inl ⟨rfl, h3⟩⟩
  | ret =>
    obtain ⟨Φ', hn, ho, hR⟩ := hp
    obtain ⟨W4, hr, h1, h2, h3⟩ := fin (some .ret) Φ' W3 (Ix .ret) ho hn (hIx _) hR
    exact ⟨_, _, hr, Φ', h1, h2, .inr ⟨rfl, .ret, h3⟩⟩
  | exit id =>
    obtain ⟨Φ', hn, ho, hR⟩ := hp
    obtain ⟨W4, hr, h1, h2, h3⟩ := fin (some (.exit id)) Φ' W3 (Ix (.exit id)) ho hn (hIx _) hR
    exact ⟨_, _, hr, Φ', h1, h2, .inr ⟨rfl, .exit id, h3⟩⟩
  | goto t =>
    obtain ⟨Φ', hn, ho, hR⟩ := hp
    obtain ⟨W4, hr, h1, h2, h3⟩ := fin (some (.goto t)) Φ' W3 (Ix (.goto t)) ho hn (hIx _) hR
    exact ⟨_, _, hr, Φ', h1, h2, .inr ⟨rfl, .goto t, h3⟩⟩
  | panic ch => exact hp.elim
  | outgrown => exact hp.elim

theorem range_outerBI {n : Nat} {g : Operand} {ps : Array Tmp} {assign body : Code} {Q : Exit → Act → World → Prop} {a : Act} {w : World} {gf : Nat} {lb : Array Value} (hg : a.eval g = .func (.func gf) #[] lb) (eg : ∀ args w, (callFunc gf args).run P w = .ok (.enter gf args) w)
    {encs : α → Array Value} {xs : List α} {G : FP} {w0 : World} (hit : Iter P n gf lb encs xs G w0) (hg0 : Grow w0 w) (hG : ∀ k, G k → k < w0.heap.size ∧ w.heap[k]? = w0.heap[k]?) (hps : ∀ x, (encs x).size = ps.size)
    (Ψ : FP) (hΨ : ∀ k, Ψ k → k < w.heap.size ∧ ¬ G k) (I : List α → FP → World → Prop) (Ix : Code → List α → FP → World → Prop) (hI : Stab w.heap.size I) (hIx : ∀ c, Stab w.heap.size (Ix c)) (h0 : I [] (fun _ => False) w) (aOf : α → Nat → Act) (At : α → Nat → World → Prop) (hAt : ∀ x N W W', At x N W → W'.heap[N]? = W.heap[N]? → At x N W')
    (hassign : ∀ (l : Nat) (x : α) (W : World) (K : Act → World → Prop), (∀ W', Below W.heap.size W W' → W.heap.size < W'.heap.size → At x W.heap.size W' → K (aOf x W.heap.size) W') → assign.wpIn (Fence.wide.inRound l) n P (Exit.then K (fun _ _ _ => False)) { tmps := (ps.zip (encs x)).foldl (fun t (p, v) => t.setIfInBounds p v) a.tmps, defers := [] } W)
    (hbody : ∀ (l : Nat) (pre : List α) (x : α) (Φ : FP) (N : Nat) (W : World), (pre ++ [x]) <+: xs → I pre Φ W → w.heap.size < l → (∀ k, Φ k → l + 1 ≤ k ∧ k < N) → (∃ r, W.heap[l]? = some (.loop r)) → l < N → N < W.heap.size → At x N W → body.wpIn (Fence.wide.inRound l) n P (bodyI Ψ (fun k => Φ k ∨ k = N) I Ix (pre ++ [x]) W) (aOf x N) W)
    (hdone : ∀ (D : Nat) (Φ : FP) (W : World), I xs Φ W → Only Ψ (fun _ => False) w W → w.heap.size ≤ D → ¬ Φ D → W.heap[D]? = some (.deferred (some [])) → Q .normal { a with defers := { target := .collected D, args := #[] } :: a.defers } W)
    (hstop : ∀ (D : Nat) (Φ : FP) (c : Code) (pre : List α) (W : World), pre <+: xs → Ix c pre Φ W → Only Ψ (fun _ => False) w W → w.heap.size ≤ D → ¬ Φ D → W.heap[D]? = some (.deferred (some [])) → c.wpIn Fence.wide (n + 2) P Q { a with defers := { target := .collected D, args := #[] } :: a.defers } W) :
    (Code.rangeFunc g ps assign body).wpIn Fence.wide (n + 2) P Q a w := by
  refine wpIn_rangeFunc ?_
  intro fn hfn
  obtain ⟨W1, hW1⟩ : ∃ W1, (w.alloc (.deferred (some []))).alloc (.loop (recOf fn a.tmps ps assign body w.heap.size .ready none)) = W1 := ⟨_, rfl⟩
  have hL1 : W1.heap[w.heap.size + 1]? = some (.loop (recOf fn a.tmps ps assign body w.heap.size .ready none)) := by
    rw [← hW1]; have := World.alloc_heap_new (w.alloc (.deferred (some []))) (.loop (recOf fn a.tmps ps assign body w.heap.size .ready none)); rwa [World.size_alloc] at this
  have hK1 : W1.heap[w.heap.size]? = some (.deferred (some [])) := by
    rw [← hW1]; exact (Below.heap_alloc _ _ _ (by simp)).trans (World.alloc_heap_new w _)
  have hB1 : Below w.heap.size w W1 := by rw [← hW1]; exact ((Below.refl _ w).alloc (Nat.le_refl _) _).alloc (by simp) _
  have hsz : W1.heap.size = w.heap.size + 2 := by rw [← hW1]; simp
  have hi1 : I [] (fun _ => False) W1 := (hI _ _ _ h0).2.2 _ (Grow.of_below hB1) (fun k hk => hk.elim (fun h => hB1.block k h) (fun h => h.elim))
  refine ⟨w.heap.size + 1, [{ target := .collected w.heap.size, args := #[] }], W1, { target := .fn (.func gf) lb, args := #[.func (.yield (w.heap.size + 1)) #[] #[]] }, W1, gf,
    #[.func (.yield (w.heap.size + 1)) #[] #[]] ++ lb, W1, ?_, ?_, ?_, ?_, fun h => by simp [Fence.wide] at h, ?_⟩
  · rw [← hW1]; exact run_enterLoop_outer _ _ _ _ _
  · simp only [resolve, hg]
    simp [go_sem]
  · intro f' hf'; simp [Target.leads] at hf'; subst hf'; trivial
  · simp [invoke, go_sem, eg]
  · have hD : ∀ d, some w.heap.size = some d → w.heap.size ≤ d ∧ d < w.heap.size + 1 := fun d hd => by cases hd; omega
    refine (hit (w.heap.size + 1) (w.heap.size + 2) (fun k => Ψ k ∨ k = w.heap.size + 1) (InvJ I (w.heap.size + 1) (some w.heap.size) (recOf fn a.tmps ps assign body w.heap.size .ready none))
      (fun pre Φ W => ∃ c, InvJ (Ix c) (w.heap.size + 1) (some w.heap.size) (recOf fn a.tmps ps assign body w.heap.size .done (some c)) pre Φ W) (fun _ => False) W1 (hg0.trans (Grow.of_below hB1))
      (fun k hk => ⟨(hG k hk).1, (hB1.block k (Nat.lt_of_lt_of_le (hG k hk).1 hg0.size)).trans (hG k hk).2⟩) (fun k hk => ?_) (fun _ h => h.elim) (InvJ.stab hI (by omega) (fun d hd => (hD d hd).2)) ?_ ?_ ⟨hi1, fun _ h => h.elim, hL1, fun d hd => by cases hd; exact hK1⟩).mono ?_
    · rcases hk with h | h
      · exact ⟨by have := (hΨ k h).1; omega, (hΨ k h).2⟩
      · exact ⟨by omega, fun hg' => by have := (hG k hg').1; have := hg0.size; omega⟩
    · rintro pre Φ W ⟨c, hc⟩
      obtain ⟨h1, h2, h3⟩ := InvJ.stab (hIx c) (by omega) (fun d hd => (hD d hd).2) _ _ _ hc
      exact ⟨h1, h2, fun W' hg' hk => ⟨c, h3 W' hg' hk⟩⟩
    · intro pre x Φ W hpx hJ
      exact round_of_bodyB hI hIx (by omega) (fun k hk => (hΨ k hk).1) hps hD aOf At hAt hJ (fun W K hK => hassign _ x W K hK) (fun N W hi hΦ hr h1 h2 h3 => hbody _ pre x Φ N W hpx hi (by omega) hΦ hr h1 h2 h3)
    · have fine : ∀ W2, Only (fun k => Ψ k ∨ k = w.heap.size + 1) (fun _ => False) W1 W2 → ∀ r, Only Ψ (fun _ => False) w (W2.putObj (w.heap.size + 1) (.loop r)) := fun W2 ho r =>
        ⟨((Grow.of_below hB1).trans ho.grow).trans (put_grow _ _ _), fun k hk h1 h2 => (put_other (by omega)).trans ((ho.block k (by omega) (fun h => h.elim h1 (by omega)) h2).trans (hB1.block k hk))⟩
      rintro e W2 ⟨⟨v, rfl⟩, Φ', hn, ho, (⟨hi, hΦ, hl, hk⟩ | ⟨pre, hpre, c, hi, hΦ, hl, hk⟩)⟩
      · have hnD : ¬ Φ' w.heap.size := fun h => by have := hΦ _ h; omega
        refine ⟨none, _, run_endLoop (P := P) hl (by simp [recOf]), hdone _ Φ' _ ?_ (fine W2 ho _) (Nat.le_refl _) hnD ((put_other (by omega)).trans (hk _ rfl))⟩
        exact (hI _ _ _ hi).2.2 _ (put_grow _ _ _) (fun k hk' => put_other (hk'.elim (fun h => by omega) (fun h => by have := hΦ k h; omega)))
      · have hnD : ¬ Φ' w.heap.size := fun h => by have := hΦ _ h; omega
        refine ⟨some c, _, run_endLoop (P := P) hl (by simp [recOf]), hstop _ Φ' c pre _ hpre ?_ (fine W2 ho _) (Nat.le_refl _) hnD ((put_other (by omega)).trans (hk _ rfl))⟩
        exact (hIx c _ _ _ hi).2.2 _ (put_grow _ _ _) (fun k hk' => put_other (hk'.elim (fun h => by omega) (fun h => by have := hΦ k h; omega)))

theorem range_outerBU {n : Nat} {g : Operand} {ps : Array Tmp} {assign body : Code} {Q : Exit → Act → World → Prop} {a : Act} {w : World} {gf : Nat} {lb : Array Value} (hg : a.eval g = .func (.func gf) #[] lb) (eg : ∀ args w, (callFunc gf args).run P w = .ok (.enter gf args) w)
    {encs : α → Array Value} {xs : List α} {G : FP} {w0 : World} (hit : Iter P n gf lb encs xs G w0) (hg0 : Grow w0 w) (hG : ∀ k, G k → k < w0.heap.size ∧ w.heap[k]? = w0.heap[k]?) (hps : ∀ x, (encs x).size = ps.size)
    (Ψ : FP) (hΨ : ∀ k, Ψ k → k < w.heap.size ∧ ¬ G k) (I : List α → FP → World → Prop) (Ix : Code → List α → FP → World → Prop) (hI : Stab w.heap.size I) (hIx : ∀ c, Stab w.heap.size (Ix c)) (h0 : I [] (fun _ => False) w) (up : α → Nat → Array Value → Array Value) (At : α → Nat → World → Prop) (hAt : ∀ x N W W', At x N W → W'.heap[N]? = W.heap[N]? → At x N W')
    (hassign : ∀ (l : Nat) (x : α) (W : World) (K : Act → World → Prop), (∀ W', Below W.heap.size W W' → W.heap.size < W'.heap.size → At x W.heap.size W' → K { tmps := up x W.heap.size a.tmps, defers := [] } W') → assign.wpIn (Fence.wide.inRound l) n P (Exit.then K (fun _ _ _ => False)) { tmps := (ps.zip (encs x)).foldl (fun t (p, v) => t.setIfInBounds p v) a.tmps, defers := [] } W)
    (hbody : ∀ (l : Nat) (pre : List α) (x : α) (Φ : FP) (N : Nat) (W : World), (pre ++ [x]) <+: xs → I pre Φ W → w.heap.size < l → (∀ k, Φ k → l + 1 ≤ k ∧ k < N) → (∃ r, W.heap[l]? = some (.loop r)) → l < N → N < W.heap.size → At x N W → body.wpIn (Fence.wide.inRound l) n P (bodyI Ψ (fun k => Φ k ∨ k = N) I Ix (pre ++ [x]) W) { tmps := up x N a.tmps, defers := [] } W)
    (hdone : ∀ (D : Nat) (Φ : FP) (W : World), I xs Φ W → Only Ψ (fun _ => False) w W → w.heap.size ≤ D → ¬ Φ D → W.heap[D]? = some (.deferred (some [])) → Q .normal { a with defers := { target := .collected D, args := #[] } :: a.defers } W)
    (hstop : ∀ (D : Nat) (Φ : FP) (c : Code) (pre : List α) (W : World), pre <+: xs → Ix c pre Φ W → Only Ψ (fun _ => False) w W → w.heap.size ≤ D → ¬ Φ D → W.heap[D]? = some (.deferred (some [])) → c.wpIn Fence.wide (n + 2) P Q { a with defers := { target := .collected D, args := #[] } :: a.defers } W) :
    (Code.rangeFunc g ps assign body).wpIn Fence.wide (n + 2) P Q a w :=
  range_outerBI hg eg hit hg0 hG hps Ψ hΨ I Ix hI hIx h0 (fun x N => { tmps := up x N a.tmps, defers := [] }) At hAt hassign hbody hdone hstop
end
end Go.Proofs.YtpkamfbjgdmmoaaGreat
end

section
namespace Go.Proofs.YtpkamfbjgdmmoaaGreat
open Go.RowKit Go.Maps Go.Shelf
set_option linter.unusedVariables false
set_option linter.unusedSimpArgs false

/-- All tracks choose, up to the n-th. -/
def chooseAll (ts : List Trk) (R : List Rfm) (S : Vs) (now : Int) (n : Nat) : List Rfm := (List.range n).foldl (fun R (k : Nat) => chooseR (trkAt ts k) R S k now) R
theorem chooseAll_snoc (ts : List Trk) (R : List Rfm) (S : Vs) (now : Int) (n : Nat) : chooseAll ts R S now (n + 1) = chooseR (trkAt ts n) (chooseAll ts R S now n) S n now := by unfold chooseAll; rw [List.range_succ, List.foldl_append]; rfl
theorem Rin.chooseAll {ts : List Trk} {R : List Rfm} (h : Rin ts R) {now : Int} (hn : soon now) (S : Vs) : ∀ n, Rin ts (chooseAll ts R S now n)
  | 0 => h
  | n + 1 => by rw [chooseAll_snoc]; exact (Rin.chooseAll h hn S n).choose hn _ _ _
theorem chooseAll_len (ts : List Trk) (R : List Rfm) (S : Vs) (now : Int) : ∀ n, (chooseAll ts R S now n).length = R.length
  | 0 => rfl
  | n + 1 => by rw [chooseAll_snoc, chooseR_len, chooseAll_len]
/-- Since when they are decided: not later than now. -/
def Rsi (R : List Rfm) (now : Int) : Prop := ∀ x ∈ R, x.si ≤ now
theorem Rsi.set {R : List Rfm} {now : Int} (h : Rsi R now) (k : Nat) {y : Rfm} (hy : y.si ≤ now) : Rsi (R.set k y) now := fun x hx => (List.mem_or_eq_of_mem_set hx).elim (h x) (fun e => e ▸ hy)
theorem Rsi.sel {R : List Rfm} {now : Int} (h : Rsi R now) : ∀ (l : List Int), Rsi (selR R now l) now := by
  intro l
  unfold selR
  induction l generalizing R with
  | nil => exact h
  | cons a l ih =>
    rw [List.foldl_cons]
    exact ih (h.set _ (Int.le_refl now))
theorem Rsi.chooseAll {R : List Rfm} {now : Int} (h : Rsi R now) (ts : List Trk) (S : Vs) : ∀ n, Rsi (chooseAll ts R S now n) now
  | 0 => h
  | n + 1 => by rw [chooseAll_snoc]; exact (Rsi.chooseAll h ts S n).sel _
abbrev Sv3 := List Rfm × Vs × List Ev
/-- What becomes of one. -/
def svY (ts : List Trk) (is now : Int) (S : Vs) (p : Int × Rfm) : Rfm := { p.2 with un := cfmU (trkAt ts p.2.tr) (tallyOf S p.1) is p.2 now }
def svO (ts : List Trk) (is now : Int) (S : Vs) (p : Int × Rfm) : Int := outE (trkAt ts p.2.tr) (svY ts is now S p) now
def serve1 (ts : List Trk) (is now : Int) (q : Sv3) (p : Int × Rfm) : Sv3 :=
  if p.2.st = 1 then
    if svO ts is now q.2.1 p = 1 then (q.1.set p.1.toNat (svY ts is now q.2.1 p), q.2.1, q.2.2)
    else (q.1.set p.1.toNat (endX (svY ts is now q.2.1 p) (svO ts is now q.2.1 p) now (tallyOf q.2.1 p.1)), closeS q.2.1 p.1 (svO ts is now q.2.1 p) now, q.2.2 ++ [(1, p.1, svO ts is now q.2.1 p)])
  else q
def serveP (ts : List Trk) (is now : Int) (R : List Rfm) (S : Vs) (pre : List (Int × Rfm)) : Sv3 := pre.foldl (serve1 ts is now) (R, S, [])
theorem serveP_snoc (ts : List Trk) (is now : Int) (R : List Rfm) (S : Vs) (pre : List (Int × Rfm)) (p : Int × Rfm) : serveP ts is now R S (pre ++ [p]) = serve1 ts is now (serveP ts is now R S pre) p := by simp [serveP]
def serviceR (ts : List Trk) (is : Int) (R : List Rfm) (S : Vs) (now : Int) : Sv3 := serveP ts is now (chooseAll ts R S now ts.length) S (rowR 0 (chooseAll ts R S now ts.length))
theorem serve1_len (ts : List Trk) (is now : Int) (q : Sv3) (p : Int × Rfm) : (serve1 ts is now q p).1.length = q.1.length := by
  unfold serve1
  split
  · split <;> simp
  · rfl
theorem serveP_len (ts : List Trk) (is now : Int) (R : List Rfm) (S : Vs) (pre : List (Int × Rfm)) : (serveP ts is now R S pre).1.length = R.length := by
  have key : ∀ (l : List (Int × Rfm)) (q : Sv3), (l.foldl (serve1 ts is now) q).1.length = q.1.length := by
    intro l
    induction l with
    | nil => exact fun _ => rfl
    | cons a l ih => exact fun q => by rw [List.foldl_cons, ih, serve1_len]
  exact key _ _
theorem serveP_evl (ts : List Trk) (is now : Int) (R : List Rfm) (S : Vs) (pre : List (Int × Rfm)) : (serveP ts is now R S pre).2.2.length ≤ pre.length := by
  have key : ∀ (l : List (Int × Rfm)) (q : Sv3), (l.foldl (serve1 ts is now) q).2.2.length ≤ q.2.2.length + l.length := by
    intro l
    induction l with
    | nil => exact fun q => Nat.le_refl _
    | cons a l ih =>
      intro q
      rw [List.foldl_cons]
      refine Nat.le_trans (ih _) ?_
      have : (serve1 ts is now q a).2.2.length ≤ q.2.2.length + 1 := by
        unfold serve1
        split
        · split <;> simp
        · omega
      simp only [List.length_cons]
      omega
  have := key pre (R, S, [])
  simpa [serveP] using this
theorem tallyOf_closeS (S : Vs) (r : Int) (st en k : Int) : tallyOf (closeS S r st en) k = tallyOf S k := by
  unfold closeS
  split
  · rename_i h
    unfold closeE at h
    split at h
    · omega
    · rename_i h1
      split at h
      · omega
      · split at h
        · omega
        · rename_i h2 h3
          have h3 : 2 ≤ st ∧ st ≤ 6 := Classical.not_not.1 h3
          have h1 : (0 ≤ r ∧ r < 12) ∧ (S.P r.toNat).st ≠ 0 := Classical.not_not.1 h1
          have h4 : st ≠ 0 := by omega
          obtain ⟨P', hP'⟩ : ∃ P', P' = putP S.P r.toNat ⟨st, (S.P r.toNat).tr, (S.P r.toNat).ay, (S.P r.toNat).na, (S.P r.toNat).su, en⟩ := ⟨_, rfl⟩
          have key : (plHas P' k ↔ plHas S.P k) ∧ (P' k.toNat).t = (S.P k.toNat).t := by
            unfold plHas
            rw [hP']
            by_cases hk : k.toNat = r.toNat
            · rw [hk, putP_same]
              exact ⟨⟨fun e => ⟨e.1, h1.2⟩, fun e => ⟨e.1, h4⟩⟩, rfl⟩
            · rw [putP_other _ _ hk]
              exact ⟨Iff.rfl, rfl⟩
          rw [← hP']
          unfold tallyOf
          show (if plHas P' k then (P' k.toNat).t else (⟨0, 0, 0⟩ : Tl)) = _
          by_cases hh : plHas S.P k
          · rw [if_pos (key.1.2 hh), if_pos hh, key.2]
          · rw [if_neg (fun e => hh (key.1.1 e)), if_neg hh]
  · rfl
theorem tallyOf_serveP (ts : List Trk) (is now : Int) (R : List Rfm) (S : Vs) (pre : List (Int × Rfm)) (k : Int) : tallyOf (serveP ts is now R S pre).2.1 k = tallyOf S k := by
  have key : ∀ (l : List (Int × Rfm)) (q : Sv3), tallyOf (l.foldl (serve1 ts is now) q).2.1 k = tallyOf q.2.1 k := by
    intro l
    induction l with
    | nil => exact fun _ => rfl
    | cons a l ih =>
      intro q
      rw [List.foldl_cons, ih]
      unfold serve1
      split
      · split
        · rfl
        · exact tallyOf_closeS _ _ _ _ _
      · rfl
  exact key _ _
/-- What Service's range holds. -/
def SvI (r g vb N : Nat) (ts : List Trk) (A : Acc) (M : Cls Int) (Z : FP) (is now : Int) (R : List Rfm) (S : Vs) (N0 wb : Nat) (w2 : World) (pre : List (Int × Rfm)) (Φ : FP) (W : World) : Prop :=
  ∃ v Z1, RvAt r g vb N ts (serveP ts is now R S pre).1 (serveP ts is now R S pre).2.1 A M Z1 W ∧ Boxed W wb 48 v ∧ OwnR evR N0 v (serveP ts is now R S pre).2.2 W ∧ (∀ k, Φ k ↔ (Z1 k ∧ N0 ≤ k) ∨ v.ownBlock = some k) ∧ (∀ k, Z1 k → Z k ∨ N0 ≤ k) ∧ (∀ k, v.ownBlock = some k → ¬ Z1 k) ∧ (∀ k, k < N0 → ¬ Z k → k ≠ wb → W.heap[k]? = w2.heap[k]?) ∧ N0 ≤ W.heap.size
section
variable {r g vb N : Nat} {ts : List Trk} {R R' : List Rfm} {S S' : Vs} {A : Acc} {M : Cls Int} {Z Φ : FP} {is now : Int} {N0 wb Nx : Nat} {w2 W V w3 W' : World} {pre : List (Int × Rfm)} {x : Int × Rfm}
theorem SvI.stab (hZ : ∀ k, Z k → k < N0) (hwb : wb < N0) : Stab N0 (SvI r g vb N ts A M Z is now R S N0 wb w2) := by
  rintro pre Φ W ⟨v, Z1, e1, e2, e3, e4, e5, e6, e7, e8⟩
  refine ⟨fun k hk => ?_, e8, fun W' hg hk => ⟨v, Z1, e1.keep hg (fun k h1 => hk k ?_), (hk wb (.inl hwb)).trans e2, e3.of (Nat.le_refl _) (fun k e => hk k (.inr ((e4 k).2 (.inr e)))), e4, e5, e6, fun k hk' h3 h4 => (hk k (.inl hk')).trans (e7 k hk' h3 h4), Nat.le_trans e8 hg.size⟩⟩
  · rcases (e4 k).1 hk with ⟨h1, h2⟩ | h1
    · exact ⟨h2, e1.lt h1⟩
    · exact e3.block h1
  · rcases e5 k h1 with h | h
    · exact .inl (hZ k h)
    · exact .inr ((e4 k).2 (.inl ⟨h1, h⟩))
theorem SvI.start (h : RvAt r g vb N ts R S A M Z w2) (hwb : Boxed w2 wb 48 (.slice none 0 0)) : SvI r g vb N ts A M Z is now R S w2.heap.size wb w2 [] (fun _ => False) w2 :=
  ⟨.slice none 0 0, Z, h, hwb, OwnR.nil _ _, fun k => ⟨fun e => e.elim, fun e => e.elim (fun e => by have := h.lt e.1; omega) (fun e => by cases e)⟩, fun k hk => .inl hk, fun k hk => (by cases hk), fun _ _ _ _ => rfl, Nat.le_refl _⟩
/-- A round begins. -/
theorem SvI.round (h : SvI r g vb N ts A M Z is now R S N0 wb w2 pre Φ W) (hwb : wb < N0) (hwz : ¬ Z wb) (hNx : N0 ≤ Nx) (hNl : Nx < W.heap.size) (hΦN : ∀ k, Φ k → k < Nx) :
    ∃ v Z1, Boxed W wb 48 v ∧ OwnR evR N0 v (serveP ts is now R S pre).2.2 W ∧ RvToX r g vb N ts (serveP ts is now R S pre).1 (serveP ts is now R S pre).2.1 A M Z1 (fun j => j = Nx ∨ j = wb) W W ∧ (∀ k, k < N0 → ¬ Z k → k ≠ wb → W.heap[k]? = w2.heap[k]? ∧ ¬ Z1 k) ∧ (¬ Z1 Nx ∧ ¬ Z1 wb ∧ ∀ k, v.ownBlock = some k → ¬ Z1 k ∧ k ≠ Nx ∧ k ≠ wb) ∧
      (∀ R' S' W', serveP ts is now R S (pre ++ [x]) = (R', S', (serveP ts is now R S pre).2.2) → RvToX r g vb N ts R' S' A M Z1 (fun j => j = Nx ∨ j = wb) W W' → W'.heap[wb]? = W.heap[wb]? → Leaves (fun k => Z k ∨ k = wb) (fun k => Φ k ∨ k = Nx) W (fun Φ' W' => SvI r g vb N ts A M Z is now R S N0 wb w2 (pre ++ [x]) Φ' W') W') ∧
      (∀ R' S' ev w5 V w6 v', serveP ts is now R S (pre ++ [x]) = (R', S', (serveP ts is now R S pre).2.2 ++ [ev]) → RvToX r g vb N ts R' S' A M Z1 (fun j => j = Nx ∨ j = wb) W w5 → w5.heap[wb]? = W.heap[wb]? → Below w5.heap.size w5 V → OwnR evR N0 v' ((serveP ts is now R S pre).2.2 ++ [ev]) w6 → V.grownBy w6 v.ownBlock → (v'.ownBlock = v.ownBlock ∨ v'.ownBlock = some V.heap.size) →
        Leaves (fun k => Z k ∨ k = wb) (fun k => Φ k ∨ k = Nx) W (fun Φ' W' => SvI r g vb N ts A M Z is now R S N0 wb w2 (pre ++ [x]) Φ' W') (w6.setCell ⟨wb, 0, none⟩ v')) := by
  obtain ⟨v, Z1, e1, e2, e3, e4, e5, e6, e7, e8⟩ := h
  have hzN : ¬ Z1 Nx := fun e => (e5 Nx e).elim (fun h => by have := e4 Nx; have := hΦN Nx ((e4 Nx).2 (.inl ⟨e, hNx⟩)); omega) (fun h => by have := hΦN Nx ((e4 Nx).2 (.inl ⟨e, hNx⟩)); omega)
  have hzw : ¬ Z1 wb := fun e => (e5 wb e).elim hwz (fun h => by omega)
  have hvN : ∀ k, v.ownBlock = some k → N0 ≤ k ∧ k < W.heap.size ∧ k < Nx := fun k hk => ⟨(e3.block hk).1, (e3.block hk).2, hΦN k ((e4 k).2 (.inr hk))⟩
  refine ⟨v, Z1, e2, e3, RvToX.start e1 (by rintro j (rfl | rfl); exact ⟨hNl, hzN⟩; exact ⟨by omega, hzw⟩), fun k hk h1 h2 => ⟨e7 k hk h1 h2, fun e => (e5 k e).elim h1 (fun h => by omega)⟩, ⟨hzN, hzw, fun k hk => ⟨e6 k hk, by have := hvN k hk; omega, by have := hvN k hk; omega⟩⟩, ?_, ?_⟩
  · rintro R' S' W' hs ⟨-, Z2, k1, k2, k3⟩ hbw
    have ho : ∀ k, k < W.heap.size → ¬ Z1 k → k ≠ Nx → k ≠ wb → W'.heap[k]? = W.heap[k]? := fun k hk h1 h2 h3 => k3.block k hk (fun e => e.elim h1 (fun e => e.elim h2 h3)) (fun h => h)
    refine ⟨fun k => (Z2 k ∧ N0 ≤ k) ∨ v.ownBlock = some k, fun k hk => ?_, ⟨k3.grow, fun k hk h1 h2 => ho k hk (fun e => ?_) (fun e => h2 (.inr e)) (fun e => h1 (.inr e))⟩, v, Z2, ?_⟩
    · rcases hk with ⟨q1, q2⟩ | q
      · rcases k2 k q1 with q | q
        · exact .inl (.inl ((e4 k).2 (.inl ⟨q, q2⟩)))
        · exact .inr q
      · exact .inl (.inl ((e4 k).2 (.inr q)))
    · rcases e5 k e with q | q
      · exact h1 (.inl q)
      · exact h2 (.inl ((e4 k).2 (.inl ⟨e, q⟩)))
    · rw [hs]
      refine ⟨k1, hbw.trans e2, e3.of (Nat.le_refl _) (fun k hk => ho k (hvN k hk).2.1 (e6 k hk) (by have := hvN k hk; omega) (by have := hvN k hk; omega)), fun k => Iff.rfl, fun k hk => (k2 k hk).elim (e5 k) (fun e => .inr (by omega)), fun k hk e => (k2 k e).elim (e6 k hk) (fun e => by have := hvN k hk; omega), fun k hk h1 h2 => (ho k (by omega) (fun e => (e5 k e).elim h1 (fun e => by omega)) (by omega) h2).trans (e7 k hk h1 h2), Nat.le_trans e8 k3.grow.size⟩
  · rintro R' S' ev w5 V w6 v' hs ⟨-, Z2, k1, k2, k3⟩ hbw hV hO hg hat
    have hs5 := k3.grow.size
    have hsV := hV.size
    have hsg := hg.size
    have ho : ∀ k, k < W.heap.size → ¬ Z1 k → k ≠ Nx → k ≠ wb → w5.heap[k]? = W.heap[k]? := fun k hk h1 h2 h3 => k3.block k hk (fun e => e.elim h1 (fun e => e.elim h2 h3)) (fun h => h)
    have ho6 : ∀ k, k < w5.heap.size → v.ownBlock ≠ some k → w6.heap[k]? = w5.heap[k]? := fun k hk hv => (hg.block k (by omega) (fun e => hv e.symm)).trans (hV.block k hk)
    have ho7 : ∀ k, k ≠ wb → (w6.setCell ⟨wb, 0, none⟩ v').heap[k]? = w6.heap[k]? := fun k hk => Below.heap_setCell _ _ _ k hk
    have hz2 : ∀ k, v.ownBlock = some k → ¬ Z2 k := fun k hk e => (k2 k e).elim (e6 k hk) (fun e => by have := hvN k hk; omega)
    have hz2w : ¬ Z2 wb := fun e => (k2 wb e).elim hzw (fun e => by omega)
    have hvw : v.ownBlock ≠ some wb := fun e => by have := hvN wb e; omega
    refine ⟨fun k => (Z2 k ∧ N0 ≤ k) ∨ v'.ownBlock = some k, fun k hk => ?_, ⟨⟨hg.os.trans (hV.os.trans k3.grow.os), hg.tape.trans (hV.tape.trans k3.grow.tape), hg.output.trans (hV.output.trans k3.grow.output), by simp [World.setCell]; omega⟩, fun k hk h1 h2 => ?_⟩, v', Z2, ?_⟩
    · rcases hk with ⟨q1, q2⟩ | q
      · rcases k2 k q1 with q | q
        · exact .inl (.inl ((e4 k).2 (.inl ⟨q, q2⟩)))
        · exact .inr q
      · rcases hat with e | e
        · exact .inl (.inl ((e4 k).2 (.inr (by rw [← e]; exact q))))
        · rw [q] at e
          injection e with e
          exact .inr (by omega)
    · have hkw : k ≠ wb := fun e => h1 (.inr e)
      have hkv : v.ownBlock ≠ some k := fun e => h2 (.inl ((e4 k).2 (.inr e)))
      refine (ho7 k hkw).trans ((ho6 k (by omega) hkv).trans (ho k hk (fun e => ?_) (fun e => h2 (.inr e)) hkw))
      rcases e5 k e with q | q
      · exact h1 (.inl q)
      · exact h2 (.inl ((e4 k).2 (.inl ⟨e, q⟩)))
    · rw [hs]
      have x2 : Boxed w6 wb 48 v := (ho6 wb (by omega) hvw).trans (hbw.trans e2)
      refine ⟨k1.keep ⟨hg.os.trans hV.os, hg.tape.trans hV.tape, hg.output.trans hV.output, by simp [World.setCell]; omega⟩ (fun k hk => (ho7 k (fun e => hz2w (e ▸ hk))).trans (ho6 k (k1.lt hk) (fun e => hz2 k e hk))), x2.set _, hO.of (Nat.le_refl _) (fun k hk => ho7 k (by have := (hO.block hk).1; omega)), fun k => Iff.rfl, fun k hk => (k2 k hk).elim (e5 k) (fun e => .inr (by omega)), fun k hk e => ?_, fun k hk h1 h2 => (ho7 k h2).trans ((ho6 k (by omega) (fun e => by have := hvN k e; omega)).trans ((ho k (by omega) (fun e => (e5 k e).elim h1 (fun e => by omega)) (by omega) h2).trans (e7 k hk h1 h2))), by simp [World.setCell]; omega⟩
      rcases hat with q | q
      · exact hz2 k (by rw [← q]; exact hk) e
      · rw [hk] at q
        injection q with q
        have := k1.lt e
        omega
end
end Go.Proofs.YtpkamfbjgdmmoaaGreat
end
