/-
  Joined texts.
-/
import Derived.TacticsInMore
import Derived.LoopNIn
import Derived.LoopIn
import Derived.Below
import Derived.Deep.Matrix
import Derived.Test.YtcfcfijmfgnpfaaGreatDoorMgl

section
namespace Go.Proofs.YtcfcfijmfgnpfaaGreatDoor
open Go.RowKit Go.Maps
set_option linter.unusedVariables false
set_option linter.unusedSimpArgs false

theorem zero32d : (#[.int .u8 0, .int .u8 0, .int .u8 0, .int .u8 0, .int .u8 0, .int .u8 0, .int .u8 0, .int .u8 0, .int .u8 0, .int .u8 0, .int .u8 0, .int .u8 0, .int .u8 0, .int .u8 0, .int .u8 0, .int .u8 0, .int .u8 0, .int .u8 0, .int .u8 0, .int .u8 0, .int .u8 0, .int .u8 0, .int .u8 0, .int .u8 0, .int .u8 0, .int .u8 0, .int .u8 0, .int .u8 0, .int .u8 0, .int .u8 0, .int .u8 0, .int .u8 0] : Array Value) = (Bs dg0.s).toArray := by kernel_rfl
theorem results_cellH {fn : Func} {tmps : Array Value} {w : World} {a b r : Nat} {s : Dg} {u : Value} (hf : fn.results = #[.cell a 41, .tmp b]) (ha : tmps.getD a undef = .pointer (some ⟨r, 0, none⟩)) (hu : tmps.getD b undef = u) (h : w.heap[r]? = some (.cells (Bs s.s).toArray 41 (0, 0))) : (results fn tmps).run Tryz.prog w = .ok (.tuple #[.agg (Bs s.s).toArray, u]) w :=
  results_cellT hf ha hu (by
    have q : (Instr.loadAt 41 (.pointer (some ⟨r, 0, none⟩))).run Tryz.prog w = .ok (.agg (Bs s.s).toArray) w := run_loadR (r := hshR) (t := s) (rangeAt_whole (T := 41) h)
    unfold Instr.loadAt at q
    simpa [Instr.sureAddr] using q)
/-- The notes' map is made. -/
theorem PrAt.makeM {pb : Nat} {P : List (Dg × (Int × Cl))} {U : List (Dg × Int)} {F : FP} {o2 : Option Nat} {m : List (Dg × Nt)} {W : World} (hp : PrAt pb P U F none o2 m W) :
    m = [] ∧ PrAt pb P U (fun k => F k ∨ k = W.heap.size) (some W.heap.size) o2 m ((W.alloc (.map #[] 0)).setCell ⟨pb, 0, none⟩ (.map (some W.heap.size))) := by
  have hU : m = [] := by
    rcases hp.mo with ⟨-, e⟩ | ⟨b', e, h⟩
    · exact e
    · cases e
  subst hU
  obtain ⟨V, hV⟩ : ∃ V, V = (W.alloc (.map #[] 0)).setCell ⟨pb, 0, none⟩ (.map (some W.heap.size)) := ⟨_, rfl⟩
  rw [← hV]
  have hpl : pb < W.heap.size := hp.lt pb hp.own
  have hk : ∀ k, k ≠ pb → V.heap[k]? = (W.alloc (.map #[] 0)).heap[k]? := fun k hk => by rw [hV]; exact Below.heap_setCell _ _ _ k hk
  have hk2 : ∀ k, k ≠ pb → k < W.heap.size → V.heap[k]? = W.heap[k]? := fun k h1 h2 => (hk k h1).trans (Below.heap_alloc _ _ _ h2)
  have hVs : V.heap.size = W.heap.size + 1 := by rw [hV]; simp [World.setCell]
  have hnew : V.heap[W.heap.size]? = some (.map #[] 0) := (hk _ (by omega)).trans (World.alloc_heap_new _ _)
  have hpb : V.heap[pb]? = some (.cells #[.map (some W.heap.size), .map o2] 94 (0, 0)) := by
    rw [hV]
    exact setCell_at (l := [.map none, .map o2]) ((Below.heap_alloc _ _ _ hpl).trans hp.blk)
  refine ⟨rfl, hpb, .inr ⟨_, rfl, (MapD.made codNt W).block (w' := V) (by rw [hnew, World.alloc_heap_new])⟩, hp.mu.keep (fun b e => hk2 b (hp.pbNe.2 b e) (hp.mu.lt e)), hp.rel.keep (fun k hF h1 h2 => ⟨.inl hF, ?_⟩), fun b e => by cases e; exact .inr rfl, fun b e => .inl (hp.fu b e), fun b e q => ?_, .inl hp.own, fun k h => ?_⟩
  · by_cases e : k = pb
    · subst e
      obtain ⟨x, hx⟩ := h2
      rw [hp.c0] at hx; cases hx
    · exact hk2 k e h1
  · cases e
    have := hp.mu.lt q; omega
  · rcases h with h | h
    · have := hp.lt k h; omega
    · omega
/-- One more noted. -/
theorem PrAt.setN {pb : Nat} {P : List (Dg × (Int × Cl))} {U : List (Dg × Int)} {F : FP} {o o2 : Option Nat} {m : List (Dg × Nt)} {w w' : World} {b gb : Nat} {s : Dg} {nt : Nt} {q : Int × Cl} (h : PrAt pb P U F o o2 m w) (hb : o = some b) (hm : MapD codNt b (dput m s nt) w') (hg : w.grownBy w' (some b)) (hgb : nt.b = some gb) (hgl : gb < w.heap.size) (hrd : RdB w nt.v (layT q.2)) (hok : okC 3 q.2 = true) (hwho : nt.who = q.1) :
    PrAt pb (dput P s q) U (fun k => F k ∨ k = gb) o o2 (dput m s nt) w' := by
  have hbne := h.pbNe.1 b hb
  have hms : SrtD m := h.mo.srt
  have keepU : ∀ k, k < w.heap.size → U8At w k → w'.heap[k]? = w.heap[k]? := fun k hk hn => hg.block k hk (fun q => by cases q; obtain ⟨es, cl, hh⟩ := h.mo.notCells hb; exact (hn.noMap hh).elim)
  refine ⟨(hg.block pb (h.lt pb h.own) (fun e => by cases e; exact hbne rfl)).trans h.blk, .inr ⟨b, hb, hm⟩, h.mu.keep (fun b' e => hg.block b' (h.mu.lt e) (fun q => by cases q; exact h.ne b hb e)), ⟨h.rel.1.put s q, fun j => ?_⟩, fun b' e => .inl (h.fo b' e), fun b' e => .inl (h.fu b' e), h.ne, .inl h.own, fun k hF => ?_⟩
  · rw [hms.get_put, h.rel.1.get_put]
    by_cases e : j = s
    · simp only [e, if_true]
      refine ⟨by simp, fun x y hx hy => ?_⟩
      cases hx; cases hy
      have h0 : NtOk (fun k => F k ∨ k = gb) w nt q := ⟨hwho, hok, gb, hgb, .inr rfl, hrd⟩
      exact h0.keep (fun k hF hk hn => ⟨hF, keepU k hk hn⟩)
    · simp only [e, if_false]
      exact ⟨(h.rel.2 j).1, fun x y hx hy => ((h.rel.2 j).2 x y hx hy).keep (fun k hF hk hn => ⟨.inl hF, keepU k hk hn⟩)⟩
  · rcases hF with hF | rfl
    · exact Nat.lt_of_lt_of_le (h.lt k hF) hg.size
    · exact Nat.lt_of_lt_of_le hgl hg.size
set_option maxRecDepth 100000 in
set_option maxHeartbeats 2000000 in
theorem pre_Note_acc {pb g : Nat} {A : Acc} {M : Cls Int} {P : List (Dg × (Int × Cl))} {U : List (Dg × Int)} {F : FP} {w : World} (h : ((ldM g A M).star (prM pb P U)).is F w) (hG : Glob w) {d : Nat} {c : Cl} {v : Value} (hrd : RdC w d v c) {who : Int} (hw : (Lit.int .i64 who).wf = true) (hbad : ¬ isAcc who) : Calls Tryz.prog 16 #[.pointer (some ⟨pb, 0, none⟩), .pointer (some ⟨g, 0, none⟩), .int .i64 who, v] w fun e w' => e = .returned (.tuple #[.agg (Bs dg0.s).toArray, .int .i64 1]) ∧ Below w.heap.size w w' := by
  obtain ⟨d', ao, cap, -, rfl, -⟩ := hrd.open
  obtain ⟨k, hk⟩ : ∃ k, k = c.k := ⟨_, rfl⟩
  obtain ⟨t, ht⟩ : ∃ t, t = c.t := ⟨_, rfl⟩
  obtain ⟨n, hn⟩ : ∃ n, n = c.n := ⟨_, rfl⟩
  obtain ⟨m, hm⟩ : ∃ m, m = c.kids.length := ⟨_, rfl⟩
  rw [← hk, ← ht, ← hn, ← hm] at hrd ⊢
  obtain ⟨cb, hcb⟩ : ∃ b, b = w.heap.size := ⟨_, rfl⟩
  obtain ⟨rb, hrb⟩ : ∃ b, b = w.heap.size + 1 := ⟨_, rfl⟩
  obtain ⟨W, hW⟩ : ∃ W, W = (w.alloc (.cells #[.int .i64 k, .int .i64 t, .int .i64 n, .slice ao m cap] 45)).alloc (.cells (Bs dg0.s).toArray 41) := ⟨_, rfl⟩
  have hB : Below w.heap.size w W := by rw [hW]; exact ((Below.refl _ w).alloc (Nat.le_refl _) _).alloc (by simp) _
  have hcr : W.rangeAt cb 0 [.int .i64 k, .int .i64 t, .int .i64 n, .slice ao m cap] := by rw [hW, hcb]; exact rangeAt_block (rangeAt_new _) (Below.heap_alloc _ _ _ (by simp))
  have hrr : W.heap[rb]? = some (.cells (Bs dg0.s).toArray 41 (0, 0)) := by rw [hW, hrb]; have q := World.alloc_heap_new (w.alloc (.cells #[.int .i64 k, .int .i64 t, .int .i64 n, .slice ao m cap] 45)) (.cells (Bs dg0.s).toArray 41); rwa [World.size_alloc] at q
  have hsW : W.heap.size = rb + 1 := by rw [hW, hrb]; simp
  have hrW : RdC W d (.agg #[.int .i64 k, .int .i64 t, .int .i64 n, .slice ao m cap]) c := RdC.below hB hrd
  have hGW := hG.below hB hG.lt
  have hSW := Mem.below h hB
  have HS := Lib.hid hSW
  have HW := Lib.hid (And.intro hW (And.intro hcb (And.intro hrb (And.intro hB hsW))))
  have HR := Lib.hid (And.intro hcr hrr)
  have HG := Lib.hid hGW
  have HRD := Lib.hid hrW
  have c1 : decide (0 ≤ who ∧ who < 10) = false := by unfold isAcc at hbad; exact decide_eq_false hbad
  have C1 := Lib.hid c1
  have hE := fun W2 (hb : Below W.heap.size W W2) => code_EncodeCallT d c _ W2 (RdC.below hb HRD.out)
  have HE := Lib.hid hE
  clear hE c1 hbad
  clear hk ht hn hm hcb hrb hW hB hcr hrr hsW hrW hGW hSW h hG hrd
  go_enter Tryz.func16, Tryz.ntmps16
  go_upto_region 1 with fail
  rw [zero32d, ← HW.out.1, ← HW.out.2.2.1, ← HW.out.2.1]
  go_wp2_with (first
    | (refine wpl_loadC _ rfl rfl rfl HR.out.1 rfl ?_)
    | (go_at_call 43; refine (HE.out W (Below.refl _ _)).mono ?_; rintro e w1 ⟨u, er, rfl, ho, hb⟩; have hr1 := (hb.block rb (by have := HW.out.2.2.2.2; omega)).trans HR.out.2; have H1 := Lib.hid (And.intro hb hr1); clear ho hb hr1)
    | (go_at_call 44; refine (bound_Account _ _).mono ?_; rw [C1.out]; rintro e w' ⟨rfl, hw'⟩; rw [hw']; clear hw' w')
    | (refine wpl_storeR (r := hshR) (t := dg0) (C := (Bs dg0.s).toArray) _ _ rfl rfl rfl rfl rfl H1.out.2 (by rw [List.size_toArray, dg0.blen]; rfl) ?_)
    | fail)
  have hfin := setRow_heap w1 _ _ (Bs dg0.s).toArray _ _ H1.out.2
  exact bodyPost_ret (v := .tuple #[.agg (Bs dg0.s).toArray, .int .i64 1]) (results_cellH Tryz.results16 rfl rfl hfin) rfl ⟨rfl, setRow_below (HW.out.2.2.2.1.trans (H1.out.1.mono HW.out.2.2.2.1.size)) (by have := HW.out.2.2.1; omega)⟩

set_option maxRecDepth 100000 in
set_option maxHeartbeats 2000000 in
theorem pre_Note_bad {pb g : Nat} {A : Acc} {M : Cls Int} {P : List (Dg × (Int × Cl))} {U : List (Dg × Int)} {F : FP} {w : World} (h : ((ldM g A M).star (prM pb P U)).is F w) (hG : Glob w) {d : Nat} {c : Cl} {v : Value} (hrd : RdC w d v c) {who : Int} (hw : (Lit.int .i64 who).wf = true) (hac : isAcc who) (hbad : okC 3 c = false) : Calls Tryz.prog 16 #[.pointer (some ⟨pb, 0, none⟩), .pointer (some ⟨g, 0, none⟩), .int .i64 who, v] w fun e w' => e = .returned (.tuple #[.agg (Bs dg0.s).toArray, .int .i64 1]) ∧ Below w.heap.size w w' := by
  obtain ⟨d', ao, cap, -, rfl, -⟩ := hrd.open
  obtain ⟨k, hk⟩ : ∃ k, k = c.k := ⟨_, rfl⟩
  obtain ⟨t, ht⟩ : ∃ t, t = c.t := ⟨_, rfl⟩
  obtain ⟨n, hn⟩ : ∃ n, n = c.n := ⟨_, rfl⟩
  obtain ⟨m, hm⟩ : ∃ m, m = c.kids.length := ⟨_, rfl⟩
  rw [← hk, ← ht, ← hn, ← hm] at hrd ⊢
  obtain ⟨cb, hcb⟩ : ∃ b, b = w.heap.size := ⟨_, rfl⟩
  obtain ⟨rb, hrb⟩ : ∃ b, b = w.heap.size + 1 := ⟨_, rfl⟩
  obtain ⟨W, hW⟩ : ∃ W, W = (w.alloc (.cells #[.int .i64 k, .int .i64 t, .int .i64 n, .slice ao m cap] 45)).alloc (.cells (Bs dg0.s).toArray 41) := ⟨_, rfl⟩
  have hB : Below w.heap.size w W := by rw [hW]; exact ((Below.refl _ w).alloc (Nat.le_refl _) _).alloc (by simp) _
  have hcr : W.rangeAt cb 0 [.int .i64 k, .int .i64 t, .int .i64 n, .slice ao m cap] := by rw [hW, hcb]; exact rangeAt_block (rangeAt_new _) (Below.heap_alloc _ _ _ (by simp))
  have hrr : W.heap[rb]? = some (.cells (Bs dg0.s).toArray 41 (0, 0)) := by rw [hW, hrb]; have q := World.alloc_heap_new (w.alloc (.cells #[.int .i64 k, .int .i64 t, .int .i64 n, .slice ao m cap] 45)) (.cells (Bs dg0.s).toArray 41); rwa [World.size_alloc] at q
  have hsW : W.heap.size = rb + 1 := by rw [hW, hrb]; simp
  have hrW : RdC W d (.agg #[.int .i64 k, .int .i64 t, .int .i64 n, .slice ao m cap]) c := RdC.below hB hrd
  have hGW := hG.below hB hG.lt
  have hSW := Mem.below h hB
  have HS := Lib.hid hSW
  have HW := Lib.hid (And.intro hW (And.intro hcb (And.intro hrb (And.intro hB hsW))))
  have HR := Lib.hid (And.intro hcr hrr)
  have HG := Lib.hid hGW
  have HRD := Lib.hid hrW
  have c1 : decide (0 ≤ who ∧ who < 10) = true := by unfold isAcc at hac; exact decide_eq_true hac
  have C1 := Lib.hid c1
  have hE := fun W2 (hb : Below W.heap.size W W2) => enc_bad (RdC.below hb HRD.out) hbad
  have HE := Lib.hid hE
  clear hE c1 hbad hac
  clear hk ht hn hm hcb hrb hW hB hcr hrr hsW hrW hGW hSW h hG hrd
  go_enter Tryz.func16, Tryz.ntmps16
  go_upto_region 1 with fail
  rw [zero32d, ← HW.out.1, ← HW.out.2.2.1, ← HW.out.2.1]
  go_wp2_with (first
    | (refine wpl_loadC _ rfl rfl rfl HR.out.1 rfl ?_)
    | (go_at_call 43; refine (HE.out W (Below.refl _ _)).mono ?_; rintro e w1 ⟨u, rfl, hb⟩; have hr1 := (hb.block rb (by have := HW.out.2.2.2.2; omega)).trans HR.out.2; have H1 := Lib.hid (And.intro hb hr1); clear hb hr1)
    | (go_at_call 44; refine (bound_Account _ _).mono ?_; rw [C1.out]; rintro e w' ⟨rfl, hw'⟩; rw [hw']; clear hw' w')
    | (refine wpl_storeR (r := hshR) (t := dg0) (C := (Bs dg0.s).toArray) _ _ rfl rfl rfl rfl rfl H1.out.2 (by rw [List.size_toArray, dg0.blen]; rfl) ?_)
    | fail)
  have hfin := setRow_heap w1 _ _ (Bs dg0.s).toArray _ _ H1.out.2
  exact bodyPost_ret (v := .tuple #[.agg (Bs dg0.s).toArray, .int .i64 1]) (results_cellH Tryz.results16 rfl rfl hfin) rfl ⟨rfl, setRow_below (HW.out.2.2.2.1.trans (H1.out.1.mono HW.out.2.2.2.1.size)) (by have := HW.out.2.2.1; omega)⟩

set_option maxRecDepth 100000 in
set_option maxHeartbeats 4000000 in
theorem pre_Note_has {pb g : Nat} {A : Acc} {M : Cls Int} {P : List (Dg × (Int × Cl))} {U : List (Dg × Int)} {F : FP} {w : World} (h : ((ldM g A M).star (prM pb P U)).is F w) (hG : Glob w) {d : Nat} {c : Cl} {v : Value} (hrd : RdC w d v c) {who : Int} (hw : (Lit.int .i64 who).wf = true) (hac : isAcc who) (hok : okC 3 c = true) (hget : (dget P (dgOf c)).isSome = true) : Calls Tryz.prog 16 #[.pointer (some ⟨pb, 0, none⟩), .pointer (some ⟨g, 0, none⟩), .int .i64 who, v] w fun e w' => e = .returned (.tuple #[.agg (Bs dg0.s).toArray, .int .i64 5]) ∧ Below w.heap.size w w' := by
  obtain ⟨d', ao, cap, -, rfl, -⟩ := hrd.open
  obtain ⟨k, hk⟩ : ∃ k, k = c.k := ⟨_, rfl⟩
  obtain ⟨t, ht⟩ : ∃ t, t = c.t := ⟨_, rfl⟩
  obtain ⟨n, hn⟩ : ∃ n, n = c.n := ⟨_, rfl⟩
  obtain ⟨m, hm⟩ : ∃ m, m = c.kids.length := ⟨_, rfl⟩
  rw [← hk, ← ht, ← hn, ← hm] at hrd ⊢
  obtain ⟨cb, hcb⟩ : ∃ b, b = w.heap.size := ⟨_, rfl⟩
  obtain ⟨rb, hrb⟩ : ∃ b, b = w.heap.size + 1 := ⟨_, rfl⟩
  obtain ⟨W, hW⟩ : ∃ W, W = (w.alloc (.cells #[.int .i64 k, .int .i64 t, .int .i64 n, .slice ao m cap] 45)).alloc (.cells (Bs dg0.s).toArray 41) := ⟨_, rfl⟩
  have hB : Below w.heap.size w W := by rw [hW]; exact ((Below.refl _ w).alloc (Nat.le_refl _) _).alloc (by simp) _
  have hcr : W.rangeAt cb 0 [.int .i64 k, .int .i64 t, .int .i64 n, .slice ao m cap] := by rw [hW, hcb]; exact rangeAt_block (rangeAt_new _) (Below.heap_alloc _ _ _ (by simp))
  have hrr : W.heap[rb]? = some (.cells (Bs dg0.s).toArray 41 (0, 0)) := by rw [hW, hrb]; have q := World.alloc_heap_new (w.alloc (.cells #[.int .i64 k, .int .i64 t, .int .i64 n, .slice ao m cap] 45)) (.cells (Bs dg0.s).toArray 41); rwa [World.size_alloc] at q
  have hsW : W.heap.size = rb + 1 := by rw [hW, hrb]; simp
  have hrW : RdC W d (.agg #[.int .i64 k, .int .i64 t, .int .i64 n, .slice ao m cap]) c := RdC.below hB hrd
  have hGW := hG.below hB hG.lt
  have hSW := Mem.below h hB
  have HS := Lib.hid hSW
  have HW := Lib.hid (And.intro hW (And.intro hcb (And.intro hrb (And.intro hB hsW))))
  have HR := Lib.hid (And.intro hcr hrr)
  have HG := Lib.hid hGW
  have HRD := Lib.hid hrW
  have c1 : decide (0 ≤ who ∧ who < 10) = true := by unfold isAcc at hac; exact decide_eq_true hac
  have C1 := Lib.hid c1
  have hE := fun W2 (hb : Below W.heap.size W W2) => enc_good (RdC.below hb HRD.out) hok
  have hD := fun W2 (hb : Below W.heap.size W W2) => code_Sum d c _ W2 (HG.out.below hb HG.out.lt) (RdC.below hb HRD.out)
  rw [show keyedL [] (sumT c) = (dgOf c).s from rfl] at hD
  obtain ⟨s, hs⟩ : ∃ s, s = dgOf c := ⟨_, rfl⟩
  rw [← hs] at hD hget
  try rw [← hs]
  have HE := Lib.hid (And.intro hE hD)
  have HFN := Lib.hid (show ∀ k, F k → k < w.heap.size from fun k e => ((ldM g A M).star (prM pb P U)).lt h e)
  have HOK := Lib.hid (And.intro hok hs)
  have HGET := Lib.hid hget
  have HACC := Lib.hid hac
  clear hE hD c1 hac hok hget hs
  clear hk ht hn hm hcb hrb hW hB hcr hrr hsW hrW hGW hSW h hG hrd
  go_enter Tryz.func16, Tryz.ntmps16
  go_upto_region 1 with fail
  rw [zero32d, ← HW.out.1, ← HW.out.2.2.1, ← HW.out.2.1]
  go_upto_region 5 with (first
    | (refine wpl_loadC _ rfl rfl rfl HR.out.1 rfl ?_)
    | (go_at_call 43; refine (HE.out.1 W (Below.refl _ _)).mono ?_; rintro e w1 ⟨u, rfl, ho, hb⟩; have hcr1 := rangeAt_block HR.out.1 (hb.block cb (by have := HW.out.2.1; have := HW.out.2.2.1; have := HW.out.2.2.2.2; omega)); have H1 := Lib.hid (And.intro hb (And.intro ho hcr1)); clear ho hb hcr1)
    | (go_at_call 44; refine (bound_Account _ _).mono ?_; rw [C1.out]; rintro e w' ⟨rfl, hw'⟩; rw [hw']; clear hw' w')
    | (refine wpl_loadC _ rfl rfl rfl H1.out.2.2 rfl ?_)
    | (go_at_call 45; refine (HE.out.2 w1 H1.out.1).mono ?_; rintro e w2 ⟨rfl, hb⟩; have H2 := Lib.hid hb; clear hb)
    | (refine wpl_allocR (r := hshR) rfl rfl rfl ?_; intro C hC)
    | (refine wpl_storeR (r := hshR) (t := s) (C := C) (b := w2.heap.size) _ _ rfl rfl rfl rfl rfl (World.alloc_heap_new _ _) hC ?_; rw [World.setRow_alloc_new])
    | fail)
  obtain ⟨X, hX⟩ : ∃ X, X = w2.alloc (.cells (Bs s.s).toArray 41) := ⟨_, rfl⟩
  obtain ⟨sb, hsb⟩ : ∃ b, b = w2.heap.size := ⟨_, rfl⟩
  rw [show w2.alloc (.cells (hshR.f s).toArray hshR.T) = X from hX.symm, ← hsb]
  have hb2 : Below W.heap.size W w2 := H1.out.1.trans (H2.out.mono H1.out.1.size)
  have hbX : Below W.heap.size W X := by rw [hX]; exact hb2.alloc hb2.size _
  have hbw : Below w.heap.size w X := HW.out.2.2.2.1.trans (hbX.mono HW.out.2.2.2.1.size)
  have hSX := Mem.below HS.out hbX
  have hsbr : X.heap[sb]? = some (.cells (Bs s.s).toArray 41 (0, 0)) := by rw [hX, hsb]; exact World.alloc_heap_new _ _
  have hrr := (hbX.block rb (by have := HW.out.2.2.2.2; omega)).trans HR.out.2
  have hsX : X.heap.size = sb + 1 := by rw [hX, hsb]; simp
  have hw1s : w1.heap.size ≤ sb := by rw [hsb]; exact H2.out.size
  have huX : OwnB W.heap.size u (Bs (layT c)) X := by
    have q : OwnB W.heap.size u (Bs (layT c)) w2 := H1.out.2.1.keptR H2.out
    rw [hX]; exact q.keptR ((Below.refl _ w2).alloc (Nat.le_refl _) _)
  obtain ⟨B0, hpX0, -, -⟩ := Mem.r hSX
  obtain ⟨o, o2, mm, hpX⟩ := hpX0
  obtain ⟨x, hlk, hx1, hx2⟩ := hpX.note_look s
  obtain ⟨bo, hbo⟩ : ∃ b, b = (dget P s).isSome := ⟨_, rfl⟩
  obtain ⟨xw, hxw⟩ : ∃ b, b = x.who := ⟨_, rfl⟩
  obtain ⟨ao', xn, xc, hxv⟩ : ∃ ao n c, x.v = .slice ao n c := ⟨_, _, _, rfl⟩
  rw [← hbo, ← hxw, hxv] at hlk
  have hkeep : ∀ V : World, (∀ k, k < X.heap.size → V.heap[k]? = X.heap[k]?) → V.cell? ⟨pb, 0, none⟩ = some (.map o) ∧ V.rangeAt sb 0 (Bs s.s) ∧ (Instr.lookup 91 (.map o) (.agg (Bs s.s).toArray) true).run Tryz.prog V = .ok (.tuple #[.agg #[.int .i64 xw, .slice ao' xn xc], .bool bo]) V := fun V hV =>
    ⟨(World.cell?_of_block (a := ⟨pb, 0, none⟩) (hV pb (hpX.lt pb hpX.own))).trans hpX.c0, rangeAt_block (rangeAt_whole (T := 41) hsbr) (hV sb (by omega)), hlk V (fun b e => hV b (hpX.mo.lt e))⟩
  have hlen := hpX.mo.len (t := 91) Tryz.underlying91
  rw [hpX.rel.len hpX.mo.srt] at hlen
  have hfo := found_of X x
  rw [← hxw, hxv] at hfo
  have HFO := Lib.hid hfo
  have HK := Lib.hid hkeep
  have hu := Tryz.underlying41
  have hsz := infoHD s
  have HX := Lib.hid (And.intro hbw (And.intro hSX (And.intro hsbr (And.intro hrr (And.intro hsX (And.intro hw1s huX))))))
  have BO := Lib.hid hbo
  have HP := Lib.hid hpX
  clear hX hsb hb2 hbX hbw hSX hsbr hrr hsX hw1s huX hpX hlk hx1 hx2 hbo hxw hxv hkeep hfo hlen
  apply wp_meetF (S := fun wc => Found X x wc)
  case h =>
    go_region_held3 (fun w' => w'.cell? ⟨pb, 0, none⟩ = some (.map o) ∧ w'.rangeAt sb 0 (Bs s.s) ∧ (Instr.lookup 91 (.map o) (.agg (Bs s.s).toArray) true).run Tryz.prog w' = .ok (.tuple #[.agg #[.int .i64 xw, .slice ao' xn xc], .bool bo]) w') (first | exact HK.out _ (fun k hk => rfl) | exact HK.out _ (fun k hk => Below.heap_alloc _ _ _ hk)) (fail)
    all_goals exact ⟨rfl, HFO.out⟩
  intro wc hfc
  have hbc : Below w.heap.size w wc := HX.out.1.trans (hfc.2.mono HX.out.1.size)
  have hrc := (hfc.2.block rb (by have := HX.out.2.2.2.2.1; have := (Array.getElem?_eq_some_iff.1 HX.out.2.2.2.1).1; omega)).trans HX.out.2.2.2.1
  have hsc := (hfc.2.block sb (by have := HX.out.2.2.2.2.1; omega)).trans HX.out.2.2.1
  have hSc := Mem.below HX.out.2.1 hfc.2
  have hpc := HP.out.keep (w' := wc) hfc.2.size (fun k hk => hfc.2.block k (HP.out.lt k hk))
  have huc : OwnB W.heap.size u (Bs (layT c)) wc := HX.out.2.2.2.2.2.2.keptR hfc.2
  have c0 := hpc.c0
  have hln := hpc.mo.len (t := 91) Tryz.underlying91
  rw [hpc.rel.len hpc.mo.srt] at hln
  have HC := Lib.hid (And.intro hbc (And.intro hrc (And.intro hsc (And.intro hSc (And.intro huc hpc)))))
  obtain ⟨nb, hnb⟩ : ∃ b, b = X.heap.size := ⟨_, rfl⟩
  rw [← hnb]
  have HNB := Lib.hid (And.intro hnb hfc)
  clear hbc hrc hsc hSc huc hpc hnb hfc
  obtain rfl : bo = true := by rw [BO.out, HGET.out]
  clear BO
  go_wp2_with (first
    | (refine wpl_storeR (r := hshR) (t := dg0) (C := (Bs dg0.s).toArray) _ _ rfl rfl rfl rfl rfl HC.out.2.1 (by rw [List.size_toArray, dg0.blen]; rfl) ?_)
    | fail)
  have hfin := setRow_heap wc _ _ (Bs dg0.s).toArray _ _ HC.out.2.1
  exact bodyPost_ret (v := .tuple #[.agg (Bs dg0.s).toArray, .int .i64 5]) (results_cellH Tryz.results16 rfl rfl hfin) rfl ⟨rfl, setRow_below HC.out.1 (by have := HW.out.2.2.1; omega)⟩

set_option maxRecDepth 100000 in
set_option maxHeartbeats 4000000 in
theorem pre_Note_full {pb g : Nat} {A : Acc} {M : Cls Int} {P : List (Dg × (Int × Cl))} {U : List (Dg × Int)} {F : FP} {w : World} (h : ((ldM g A M).star (prM pb P U)).is F w) (hG : Glob w) {d : Nat} {c : Cl} {v : Value} (hrd : RdC w d v c) {who : Int} (hw : (Lit.int .i64 who).wf = true) (hac : isAcc who) (hok : okC 3 c = true) (hget : (dget P (dgOf c)).isSome = false) (h6 : 6 ≤ P.length) : Calls Tryz.prog 16 #[.pointer (some ⟨pb, 0, none⟩), .pointer (some ⟨g, 0, none⟩), .int .i64 who, v] w fun e w' => e = .returned (.tuple #[.agg (Bs dg0.s).toArray, .int .i64 3]) ∧ Below w.heap.size w w' := by
  obtain ⟨d', ao, cap, -, rfl, -⟩ := hrd.open
  obtain ⟨k, hk⟩ : ∃ k, k = c.k := ⟨_, rfl⟩
  obtain ⟨t, ht⟩ : ∃ t, t = c.t := ⟨_, rfl⟩
  obtain ⟨n, hn⟩ : ∃ n, n = c.n := ⟨_, rfl⟩
  obtain ⟨m, hm⟩ : ∃ m, m = c.kids.length := ⟨_, rfl⟩
  rw [← hk, ← ht, ← hn, ← hm] at hrd ⊢
  obtain ⟨cb, hcb⟩ : ∃ b, b = w.heap.size := ⟨_, rfl⟩
  obtain ⟨rb, hrb⟩ : ∃ b, b = w.heap.size + 1 := ⟨_, rfl⟩
  obtain ⟨W, hW⟩ : ∃ W, W = (w.alloc (.cells #[.int .i64 k, .int .i64 t, .int .i64 n, .slice ao m cap] 45)).alloc (.cells (Bs dg0.s).toArray 41) := ⟨_, rfl⟩
  have hB : Below w.heap.size w W := by rw [hW]; exact ((Below.refl _ w).alloc (Nat.le_refl _) _).alloc (by simp) _
  have hcr : W.rangeAt cb 0 [.int .i64 k, .int .i64 t, .int .i64 n, .slice ao m cap] := by rw [hW, hcb]; exact rangeAt_block (rangeAt_new _) (Below.heap_alloc _ _ _ (by simp))
  have hrr : W.heap[rb]? = some (.cells (Bs dg0.s).toArray 41 (0, 0)) := by rw [hW, hrb]; have q := World.alloc_heap_new (w.alloc (.cells #[.int .i64 k, .int .i64 t, .int .i64 n, .slice ao m cap] 45)) (.cells (Bs dg0.s).toArray 41); rwa [World.size_alloc] at q
  have hsW : W.heap.size = rb + 1 := by rw [hW, hrb]; simp
  have hrW : RdC W d (.agg #[.int .i64 k, .int .i64 t, .int .i64 n, .slice ao m cap]) c := RdC.below hB hrd
  have hGW := hG.below hB hG.lt
  have hSW := Mem.below h hB
  have HS := Lib.hid hSW
  have HW := Lib.hid (And.intro hW (And.intro hcb (And.intro hrb (And.intro hB hsW))))
  have HR := Lib.hid (And.intro hcr hrr)
  have HG := Lib.hid hGW
  have HRD := Lib.hid hrW
  have c1 : decide (0 ≤ who ∧ who < 10) = true := by unfold isAcc at hac; exact decide_eq_true hac
  have C1 := Lib.hid c1
  have hE := fun W2 (hb : Below W.heap.size W W2) => enc_good (RdC.below hb HRD.out) hok
  have hD := fun W2 (hb : Below W.heap.size W W2) => code_Sum d c _ W2 (HG.out.below hb HG.out.lt) (RdC.below hb HRD.out)
  rw [show keyedL [] (sumT c) = (dgOf c).s from rfl] at hD
  obtain ⟨s, hs⟩ : ∃ s, s = dgOf c := ⟨_, rfl⟩
  rw [← hs] at hD hget
  try rw [← hs]
  have HE := Lib.hid (And.intro hE hD)
  have HFN := Lib.hid (show ∀ k, F k → k < w.heap.size from fun k e => ((ldM g A M).star (prM pb P U)).lt h e)
  have HOK := Lib.hid (And.intro hok hs)
  have HGET := Lib.hid hget
  have HACC := Lib.hid hac
  clear hE hD c1 hac hok hget hs
  clear hk ht hn hm hcb hrb hW hB hcr hrr hsW hrW hGW hSW h hG hrd
  go_enter Tryz.func16, Tryz.ntmps16
  go_upto_region 1 with fail
  rw [zero32d, ← HW.out.1, ← HW.out.2.2.1, ← HW.out.2.1]
  go_upto_region 5 with (first
    | (refine wpl_loadC _ rfl rfl rfl HR.out.1 rfl ?_)
    | (go_at_call 43; refine (HE.out.1 W (Below.refl _ _)).mono ?_; rintro e w1 ⟨u, rfl, ho, hb⟩; have hcr1 := rangeAt_block HR.out.1 (hb.block cb (by have := HW.out.2.1; have := HW.out.2.2.1; have := HW.out.2.2.2.2; omega)); have H1 := Lib.hid (And.intro hb (And.intro ho hcr1)); clear ho hb hcr1)
    | (go_at_call 44; refine (bound_Account _ _).mono ?_; rw [C1.out]; rintro e w' ⟨rfl, hw'⟩; rw [hw']; clear hw' w')
    | (refine wpl_loadC _ rfl rfl rfl H1.out.2.2 rfl ?_)
    | (go_at_call 45; refine (HE.out.2 w1 H1.out.1).mono ?_; rintro e w2 ⟨rfl, hb⟩; have H2 := Lib.hid hb; clear hb)
    | (refine wpl_allocR (r := hshR) rfl rfl rfl ?_; intro C hC)
    | (refine wpl_storeR (r := hshR) (t := s) (C := C) (b := w2.heap.size) _ _ rfl rfl rfl rfl rfl (World.alloc_heap_new _ _) hC ?_; rw [World.setRow_alloc_new])
    | fail)
  obtain ⟨X, hX⟩ : ∃ X, X = w2.alloc (.cells (Bs s.s).toArray 41) := ⟨_, rfl⟩
  obtain ⟨sb, hsb⟩ : ∃ b, b = w2.heap.size := ⟨_, rfl⟩
  rw [show w2.alloc (.cells (hshR.f s).toArray hshR.T) = X from hX.symm, ← hsb]
  have hb2 : Below W.heap.size W w2 := H1.out.1.trans (H2.out.mono H1.out.1.size)
  have hbX : Below W.heap.size W X := by rw [hX]; exact hb2.alloc hb2.size _
  have hbw : Below w.heap.size w X := HW.out.2.2.2.1.trans (hbX.mono HW.out.2.2.2.1.size)
  have hSX := Mem.below HS.out hbX
  have hsbr : X.heap[sb]? = some (.cells (Bs s.s).toArray 41 (0, 0)) := by rw [hX, hsb]; exact World.alloc_heap_new _ _
  have hrr := (hbX.block rb (by have := HW.out.2.2.2.2; omega)).trans HR.out.2
  have hsX : X.heap.size = sb + 1 := by rw [hX, hsb]; simp
  have hw1s : w1.heap.size ≤ sb := by rw [hsb]; exact H2.out.size
  have huX : OwnB W.heap.size u (Bs (layT c)) X := by
    have q : OwnB W.heap.size u (Bs (layT c)) w2 := H1.out.2.1.keptR H2.out
    rw [hX]; exact q.keptR ((Below.refl _ w2).alloc (Nat.le_refl _) _)
  obtain ⟨B0, hpX0, -, -⟩ := Mem.r hSX
  obtain ⟨o, o2, mm, hpX⟩ := hpX0
  obtain ⟨x, hlk, hx1, hx2⟩ := hpX.note_look s
  obtain ⟨bo, hbo⟩ : ∃ b, b = (dget P s).isSome := ⟨_, rfl⟩
  obtain ⟨xw, hxw⟩ : ∃ b, b = x.who := ⟨_, rfl⟩
  obtain ⟨ao', xn, xc, hxv⟩ : ∃ ao n c, x.v = .slice ao n c := ⟨_, _, _, rfl⟩
  rw [← hbo, ← hxw, hxv] at hlk
  have hkeep : ∀ V : World, (∀ k, k < X.heap.size → V.heap[k]? = X.heap[k]?) → V.cell? ⟨pb, 0, none⟩ = some (.map o) ∧ V.rangeAt sb 0 (Bs s.s) ∧ (Instr.lookup 91 (.map o) (.agg (Bs s.s).toArray) true).run Tryz.prog V = .ok (.tuple #[.agg #[.int .i64 xw, .slice ao' xn xc], .bool bo]) V := fun V hV =>
    ⟨(World.cell?_of_block (a := ⟨pb, 0, none⟩) (hV pb (hpX.lt pb hpX.own))).trans hpX.c0, rangeAt_block (rangeAt_whole (T := 41) hsbr) (hV sb (by omega)), hlk V (fun b e => hV b (hpX.mo.lt e))⟩
  have hlen := hpX.mo.len (t := 91) Tryz.underlying91
  rw [hpX.rel.len hpX.mo.srt] at hlen
  have hfo := found_of X x
  rw [← hxw, hxv] at hfo
  have HFO := Lib.hid hfo
  have HK := Lib.hid hkeep
  have hu := Tryz.underlying41
  have hsz := infoHD s
  have HX := Lib.hid (And.intro hbw (And.intro hSX (And.intro hsbr (And.intro hrr (And.intro hsX (And.intro hw1s huX))))))
  have BO := Lib.hid hbo
  have HP := Lib.hid hpX
  clear hX hsb hb2 hbX hbw hSX hsbr hrr hsX hw1s huX hpX hlk hx1 hx2 hbo hxw hxv hkeep hfo hlen
  apply wp_meetF (S := fun wc => Found X x wc)
  case h =>
    go_region_held3 (fun w' => w'.cell? ⟨pb, 0, none⟩ = some (.map o) ∧ w'.rangeAt sb 0 (Bs s.s) ∧ (Instr.lookup 91 (.map o) (.agg (Bs s.s).toArray) true).run Tryz.prog w' = .ok (.tuple #[.agg #[.int .i64 xw, .slice ao' xn xc], .bool bo]) w') (first | exact HK.out _ (fun k hk => rfl) | exact HK.out _ (fun k hk => Below.heap_alloc _ _ _ hk)) (fail)
    all_goals exact ⟨rfl, HFO.out⟩
  intro wc hfc
  have hbc : Below w.heap.size w wc := HX.out.1.trans (hfc.2.mono HX.out.1.size)
  have hrc := (hfc.2.block rb (by have := HX.out.2.2.2.2.1; have := (Array.getElem?_eq_some_iff.1 HX.out.2.2.2.1).1; omega)).trans HX.out.2.2.2.1
  have hsc := (hfc.2.block sb (by have := HX.out.2.2.2.2.1; omega)).trans HX.out.2.2.1
  have hSc := Mem.below HX.out.2.1 hfc.2
  have hpc := HP.out.keep (w' := wc) hfc.2.size (fun k hk => hfc.2.block k (HP.out.lt k hk))
  have huc : OwnB W.heap.size u (Bs (layT c)) wc := HX.out.2.2.2.2.2.2.keptR hfc.2
  have c0 := hpc.c0
  have hln := hpc.mo.len (t := 91) Tryz.underlying91
  rw [hpc.rel.len hpc.mo.srt] at hln
  have HC := Lib.hid (And.intro hbc (And.intro hrc (And.intro hsc (And.intro hSc (And.intro huc hpc)))))
  obtain ⟨nb, hnb⟩ : ∃ b, b = X.heap.size := ⟨_, rfl⟩
  rw [← hnb]
  have HNB := Lib.hid (And.intro hnb hfc)
  clear hbc hrc hsc hSc huc hpc hnb hfc
  obtain rfl : bo = false := by rw [BO.out, HGET.out]
  obtain ⟨pl, hpl⟩ : ∃ n, n = P.length := ⟨_, rfl⟩
  rw [← hpl] at hln h6
  have g6 : (6 : Int) ≤ (pl : Int) := by omega
  clear BO hpl h6
  go_wp2_with (first
    | (refine wpl_storeR (r := hshR) (t := dg0) (C := (Bs dg0.s).toArray) _ _ rfl rfl rfl rfl rfl HC.out.2.1 (by rw [List.size_toArray, dg0.blen]; rfl) ?_)
    | fail)
  have hfin := setRow_heap wc _ _ (Bs dg0.s).toArray _ _ HC.out.2.1
  exact bodyPost_ret (v := .tuple #[.agg (Bs dg0.s).toArray, .int .i64 3]) (results_cellH Tryz.results16 rfl rfl hfin) rfl ⟨rfl, setRow_below HC.out.1 (by have := HW.out.2.2.1; omega)⟩
end Go.Proofs.YtcfcfijmfgnpfaaGreatDoor
end

section
namespace Go.Proofs.YtcfcfijmfgnpfaaGreatDoor
open Go.RowKit Go.Maps
set_option linter.unusedVariables false
set_option linter.unusedSimpArgs false

set_option maxRecDepth 100000 in
set_option maxHeartbeats 4000000 in
theorem pre_Note_funds {pb g : Nat} {A : Acc} {M : Cls Int} {P : List (Dg × (Int × Cl))} {U : List (Dg × Int)} {F : FP} {w : World} (h : ((ldM g A M).star (prM pb P U)).is F w) (hG : Glob w) {d : Nat} {c : Cl} {v : Value} (hrd : RdC w d v c) {who : Int} (hw : (Lit.int .i64 who).wf = true) (hac : isAcc who) (hok : okC 3 c = true) (hget : (dget P (dgOf c)).isSome = false) (h6 : P.length < 6) {E : Int} (hE : E = spendE A M who 5 false) (hne : E ≠ 0) : Calls Tryz.prog 16 #[.pointer (some ⟨pb, 0, none⟩), .pointer (some ⟨g, 0, none⟩), .int .i64 who, v] w fun e w' => e = .returned (.tuple #[.agg (Bs dg0.s).toArray, .int .i64 E]) ∧ ((ldM g (reserveA A M who 5) M).star (prM pb P U)).to F w w' := by
  obtain ⟨d', ao, cap, -, rfl, -⟩ := hrd.open
  obtain ⟨k, hk⟩ : ∃ k, k = c.k := ⟨_, rfl⟩
  obtain ⟨t, ht⟩ : ∃ t, t = c.t := ⟨_, rfl⟩
  obtain ⟨n, hn⟩ : ∃ n, n = c.n := ⟨_, rfl⟩
  obtain ⟨m, hm⟩ : ∃ m, m = c.kids.length := ⟨_, rfl⟩
  rw [← hk, ← ht, ← hn, ← hm] at hrd ⊢
  obtain ⟨cb, hcb⟩ : ∃ b, b = w.heap.size := ⟨_, rfl⟩
  obtain ⟨rb, hrb⟩ : ∃ b, b = w.heap.size + 1 := ⟨_, rfl⟩
  obtain ⟨W, hW⟩ : ∃ W, W = (w.alloc (.cells #[.int .i64 k, .int .i64 t, .int .i64 n, .slice ao m cap] 45)).alloc (.cells (Bs dg0.s).toArray 41) := ⟨_, rfl⟩
  have hB : Below w.heap.size w W := by rw [hW]; exact ((Below.refl _ w).alloc (Nat.le_refl _) _).alloc (by simp) _
  have hcr : W.rangeAt cb 0 [.int .i64 k, .int .i64 t, .int .i64 n, .slice ao m cap] := by rw [hW, hcb]; exact rangeAt_block (rangeAt_new _) (Below.heap_alloc _ _ _ (by simp))
  have hrr : W.heap[rb]? = some (.cells (Bs dg0.s).toArray 41 (0, 0)) := by rw [hW, hrb]; have q := World.alloc_heap_new (w.alloc (.cells #[.int .i64 k, .int .i64 t, .int .i64 n, .slice ao m cap] 45)) (.cells (Bs dg0.s).toArray 41); rwa [World.size_alloc] at q
  have hsW : W.heap.size = rb + 1 := by rw [hW, hrb]; simp
  have hrW : RdC W d (.agg #[.int .i64 k, .int .i64 t, .int .i64 n, .slice ao m cap]) c := RdC.below hB hrd
  have hGW := hG.below hB hG.lt
  have hSW := Mem.below h hB
  have HS := Lib.hid hSW
  have HW := Lib.hid (And.intro hW (And.intro hcb (And.intro hrb (And.intro hB hsW))))
  have HR := Lib.hid (And.intro hcr hrr)
  have HG := Lib.hid hGW
  have HRD := Lib.hid hrW
  have c1 : decide (0 ≤ who ∧ who < 10) = true := by unfold isAcc at hac; exact decide_eq_true hac
  have C1 := Lib.hid c1
  have hE := fun W2 (hb : Below W.heap.size W W2) => enc_good (RdC.below hb HRD.out) hok
  have hD := fun W2 (hb : Below W.heap.size W W2) => code_Sum d c _ W2 (HG.out.below hb HG.out.lt) (RdC.below hb HRD.out)
  rw [show keyedL [] (sumT c) = (dgOf c).s from rfl] at hD
  obtain ⟨s, hs⟩ : ∃ s, s = dgOf c := ⟨_, rfl⟩
  rw [← hs] at hD hget
  try rw [← hs]
  have HE := Lib.hid (And.intro hE hD)
  have HFN := Lib.hid (show ∀ k, F k → k < w.heap.size from fun k e => ((ldM g A M).star (prM pb P U)).lt h e)
  have HOK := Lib.hid (And.intro hok hs)
  have HGET := Lib.hid hget
  have HACC := Lib.hid hac
  clear hE hD c1 hac hok hget hs
  clear hk ht hn hm hcb hrb hW hB hcr hrr hsW hrW hGW hSW h hG hrd
  go_enter Tryz.func16, Tryz.ntmps16
  go_upto_region 1 with fail
  rw [zero32d, ← HW.out.1, ← HW.out.2.2.1, ← HW.out.2.1]
  go_upto_region 5 with (first
    | (refine wpl_loadC _ rfl rfl rfl HR.out.1 rfl ?_)
    | (go_at_call 43; refine (HE.out.1 W (Below.refl _ _)).mono ?_; rintro e w1 ⟨u, rfl, ho, hb⟩; have hcr1 := rangeAt_block HR.out.1 (hb.block cb (by have := HW.out.2.1; have := HW.out.2.2.1; have := HW.out.2.2.2.2; omega)); have H1 := Lib.hid (And.intro hb (And.intro ho hcr1)); clear ho hb hcr1)
    | (go_at_call 44; refine (bound_Account _ _).mono ?_; rw [C1.out]; rintro e w' ⟨rfl, hw'⟩; rw [hw']; clear hw' w')
    | (refine wpl_loadC _ rfl rfl rfl H1.out.2.2 rfl ?_)
    | (go_at_call 45; refine (HE.out.2 w1 H1.out.1).mono ?_; rintro e w2 ⟨rfl, hb⟩; have H2 := Lib.hid hb; clear hb)
    | (refine wpl_allocR (r := hshR) rfl rfl rfl ?_; intro C hC)
    | (refine wpl_storeR (r := hshR) (t := s) (C := C) (b := w2.heap.size) _ _ rfl rfl rfl rfl rfl (World.alloc_heap_new _ _) hC ?_; rw [World.setRow_alloc_new])
    | fail)
  obtain ⟨X, hX⟩ : ∃ X, X = w2.alloc (.cells (Bs s.s).toArray 41) := ⟨_, rfl⟩
  obtain ⟨sb, hsb⟩ : ∃ b, b = w2.heap.size := ⟨_, rfl⟩
  rw [show w2.alloc (.cells (hshR.f s).toArray hshR.T) = X from hX.symm, ← hsb]
  have hb2 : Below W.heap.size W w2 := H1.out.1.trans (H2.out.mono H1.out.1.size)
  have hbX : Below W.heap.size W X := by rw [hX]; exact hb2.alloc hb2.size _
  have hbw : Below w.heap.size w X := HW.out.2.2.2.1.trans (hbX.mono HW.out.2.2.2.1.size)
  have hSX := Mem.below HS.out hbX
  have hsbr : X.heap[sb]? = some (.cells (Bs s.s).toArray 41 (0, 0)) := by rw [hX, hsb]; exact World.alloc_heap_new _ _
  have hrr := (hbX.block rb (by have := HW.out.2.2.2.2; omega)).trans HR.out.2
  have hsX : X.heap.size = sb + 1 := by rw [hX, hsb]; simp
  have hw1s : w1.heap.size ≤ sb := by rw [hsb]; exact H2.out.size
  have huX : OwnB W.heap.size u (Bs (layT c)) X := by
    have q : OwnB W.heap.size u (Bs (layT c)) w2 := H1.out.2.1.keptR H2.out
    rw [hX]; exact q.keptR ((Below.refl _ w2).alloc (Nat.le_refl _) _)
  obtain ⟨B0, hpX0, -, -⟩ := Mem.r hSX
  obtain ⟨o, o2, mm, hpX⟩ := hpX0
  obtain ⟨x, hlk, hx1, hx2⟩ := hpX.note_look s
  obtain ⟨bo, hbo⟩ : ∃ b, b = (dget P s).isSome := ⟨_, rfl⟩
  obtain ⟨xw, hxw⟩ : ∃ b, b = x.who := ⟨_, rfl⟩
  obtain ⟨ao', xn, xc, hxv⟩ : ∃ ao n c, x.v = .slice ao n c := ⟨_, _, _, rfl⟩
  rw [← hbo, ← hxw, hxv] at hlk
  have hkeep : ∀ V : World, (∀ k, k < X.heap.size → V.heap[k]? = X.heap[k]?) → V.cell? ⟨pb, 0, none⟩ = some (.map o) ∧ V.rangeAt sb 0 (Bs s.s) ∧ (Instr.lookup 91 (.map o) (.agg (Bs s.s).toArray) true).run Tryz.prog V = .ok (.tuple #[.agg #[.int .i64 xw, .slice ao' xn xc], .bool bo]) V := fun V hV =>
    ⟨(World.cell?_of_block (a := ⟨pb, 0, none⟩) (hV pb (hpX.lt pb hpX.own))).trans hpX.c0, rangeAt_block (rangeAt_whole (T := 41) hsbr) (hV sb (by omega)), hlk V (fun b e => hV b (hpX.mo.lt e))⟩
  have hlen := hpX.mo.len (t := 91) Tryz.underlying91
  rw [hpX.rel.len hpX.mo.srt] at hlen
  have hfo := found_of X x
  rw [← hxw, hxv] at hfo
  have HFO := Lib.hid hfo
  have HK := Lib.hid hkeep
  have hu := Tryz.underlying41
  have hsz := infoHD s
  have HX := Lib.hid (And.intro hbw (And.intro hSX (And.intro hsbr (And.intro hrr (And.intro hsX (And.intro hw1s huX))))))
  have BO := Lib.hid hbo
  have HP := Lib.hid hpX
  clear hX hsb hb2 hbX hbw hSX hsbr hrr hsX hw1s huX hpX hlk hx1 hx2 hbo hxw hxv hkeep hfo hlen
  apply wp_meetF (S := fun wc => Found X x wc)
  case h =>
    go_region_held3 (fun w' => w'.cell? ⟨pb, 0, none⟩ = some (.map o) ∧ w'.rangeAt sb 0 (Bs s.s) ∧ (Instr.lookup 91 (.map o) (.agg (Bs s.s).toArray) true).run Tryz.prog w' = .ok (.tuple #[.agg #[.int .i64 xw, .slice ao' xn xc], .bool bo]) w') (first | exact HK.out _ (fun k hk => rfl) | exact HK.out _ (fun k hk => Below.heap_alloc _ _ _ hk)) (fail)
    all_goals exact ⟨rfl, HFO.out⟩
  intro wc hfc
  have hbc : Below w.heap.size w wc := HX.out.1.trans (hfc.2.mono HX.out.1.size)
  have hrc := (hfc.2.block rb (by have := HX.out.2.2.2.2.1; have := (Array.getElem?_eq_some_iff.1 HX.out.2.2.2.1).1; omega)).trans HX.out.2.2.2.1
  have hsc := (hfc.2.block sb (by have := HX.out.2.2.2.2.1; omega)).trans HX.out.2.2.1
  have hSc := Mem.below HX.out.2.1 hfc.2
  have hpc := HP.out.keep (w' := wc) hfc.2.size (fun k hk => hfc.2.block k (HP.out.lt k hk))
  have huc : OwnB W.heap.size u (Bs (layT c)) wc := HX.out.2.2.2.2.2.2.keptR hfc.2
  have c0 := hpc.c0
  have hln := hpc.mo.len (t := 91) Tryz.underlying91
  rw [hpc.rel.len hpc.mo.srt] at hln
  have HC := Lib.hid (And.intro hbc (And.intro hrc (And.intro hsc (And.intro hSc (And.intro huc hpc)))))
  obtain ⟨nb, hnb⟩ : ∃ b, b = X.heap.size := ⟨_, rfl⟩
  rw [← hnb]
  have HNB := Lib.hid (And.intro hnb hfc)
  clear hbc hrc hsc hSc huc hpc hnb hfc
  obtain rfl : bo = false := by rw [BO.out, HGET.out]
  obtain ⟨pl, hpl⟩ : ∃ n, n = P.length := ⟨_, rfl⟩
  rw [← hpl] at hln h6
  have g6 : ¬ (6 : Int) ≤ (pl : Int) := by omega
  have g6' : (pl : Int) < 6 := by omega
  have hrel : Calls Tryz.prog 46 #[.pointer (some ⟨g, 0, none⟩), .int .i64 who, .int .i64 5] wc fun e w' => e = .returned (.int .i64 (spendE A M who 5 false)) ∧ ((ldM g (reserveA A M who 5) M).star (prM pb P U)).to F wc w' := by
    obtain ⟨L, hl, -, ht⟩ := Mem.l HC.out.2.2.2.1
    refine (ledger_ReserveX (show LdX g 0 A M L wc from hl) hw 5).mono ?_
    rintro e w' ⟨rfl, h2⟩
    exact ⟨rfl, ht (ldM g (reserveA A M who 5) M) w' h2⟩
  rw [← hE] at hrel
  have HREL := Lib.hid hrel
  clear BO hpl h6 hrel
  have g7 : (E != 0) = true := by simpa using hne
  clear hne hE
  go_wp2_with (first
    | (go_at_call 46; refine HREL.out.mono ?_; rintro e wr ⟨rfl, ht⟩; have hrr := (Mem.to_keeps ht (Array.getElem?_eq_some_iff.1 HC.out.2.1).1 (fun e => by have := HFN.out _ e; have := HW.out.2.2.1; omega)).trans HC.out.2.1; have H5 := Lib.hid (And.intro ht hrr); clear ht hrr)
    | (refine wpl_storeR (r := hshR) (t := dg0) (C := (Bs dg0.s).toArray) _ _ rfl rfl rfl rfl rfl H5.out.2 (by rw [List.size_toArray, dg0.blen]; rfl) ?_)
    | fail)
  have hfin := setRow_heap wr _ _ (Bs dg0.s).toArray _ _ H5.out.2
  refine bodyPost_ret (v := .tuple #[.agg (Bs dg0.s).toArray, .int .i64 E]) (results_cellH Tryz.results16 rfl rfl hfin) rfl ⟨rfl, ?_⟩
  obtain ⟨F2, h1, h2, h3⟩ := H5.out.1
  have hrf : ¬ F2 rb := fun e => (h2 rb e).elim (fun q => by have := HFN.out _ q; have := HW.out.2.2.1; omega) (fun q => by have := (Array.getElem?_eq_some_iff.1 HC.out.2.1).1; omega)
  have hb := HC.out.1
  refine ⟨F2, ((ldM g (reserveA A M who 5) M).star (prM pb P U)).keep h1 ⟨rfl, rfl, rfl, by simp⟩ (fun k hk => setRow_other _ _ _ _ (fun e => hrf (by rw [← e]; exact hk))), fun k hk => (h2 k hk).imp id (Nat.le_trans hb.size), ?_⟩
  exact ⟨(Grow.of_below hb).trans ⟨h3.grow.os, h3.grow.tape, h3.grow.output, by simp; exact h3.grow.size⟩, fun k hk p1 p2 => (setRow_other _ _ _ _ (fun e => by have := HW.out.2.2.1; omega)).trans ((h3.block k (Nat.lt_of_lt_of_le hk hb.size) p1 p2).trans (hb.block k hk))⟩
end Go.Proofs.YtcfcfijmfgnpfaaGreatDoor
end

section
namespace Go.Proofs.YtcfcfijmfgnpfaaGreatDoor
open Go.RowKit Go.Maps
set_option linter.unusedVariables false
set_option linter.unusedSimpArgs false

theorem own_some {S : Nat} {v : Value} {l : List Nat} {w : World} (h : OwnB S v (Bs l) w) (hl : 0 < l.length) : ∃ gb n c, v = .slice (some ⟨gb, 0, none⟩) n c ∧ S ≤ gb ∧ gb < w.heap.size := by
  have hlt := h.lt
  obtain ⟨h1, h2⟩ := h
  rcases h2 with ⟨-, e⟩ | ⟨g, cap, cur, e, h3, h4, -⟩
  · have : (Bs l).length = l.length := by simp [Bs]
    omega
  · refine ⟨g, _, cap, e, h3, (Array.getElem?_eq_some_iff.1 h4).1⟩
theorem note_put {pb : Nat} {P : List (Dg × (Int × Cl))} {U : List (Dg × Int)} {F : FP} {o o2 : Option Nat} {m : List (Dg × Nt)} {V : World} {b gb : Nat} (hp : PrAt pb P U F o o2 m V) (hb : o = some b) (hl : m.length ≤ 100000) (s : Dg) (nt : Nt) (q : Int × Cl) (hgb : nt.b = some gb) (hgl : gb < V.heap.size) (hrd : RdB V nt.v (layT q.2)) (hok : okC 3 q.2 = true) (hwho : nt.who = q.1) :
    ∃ V2, (Instr.mapUpdate 91 (.map (some b)) (.agg (Bs s.s).toArray) (.agg #[.int .i64 nt.who, nt.v])).run Tryz.prog V = .ok () V2 ∧ (∀ k, k ≠ b → V2.heap[k]? = V.heap[k]?) ∧ V.grownBy V2 (some b) ∧ PrAt pb (dput P s q) U (fun k => F k ∨ k = gb) o o2 (dput m s nt) V2 := by
  have hm : MapD codNt b m V := by
    rcases hp.mo with ⟨e, -⟩ | ⟨b', e, h⟩
    · rw [e] at hb; cases hb
    · rw [e] at hb; cases hb; exact h
  obtain ⟨V2, e1, e2, e3, e4⟩ := hm.store Tryz.underlying91 (by unfold maxLen; omega) s nt
  refine ⟨V2, e1, fun k hk => ?_, e3, hp.setN hb e2 e3 hgb hgl hrd hok hwho⟩
  by_cases hs : k < V.heap.size
  · exact e3.block k hs (fun q => by cases q; exact hk rfl)
  · rw [Array.getElem?_eq_none (by omega), Array.getElem?_eq_none (by omega)]
set_option maxRecDepth 100000 in
set_option maxHeartbeats 8000000 in
theorem pre_Note_ok {pb g : Nat} {A : Acc} {M : Cls Int} {P : List (Dg × (Int × Cl))} {U : List (Dg × Int)} {F : FP} {w : World} (h : ((ldM g A M).star (prM pb P U)).is F w) (hG : Glob w) {d : Nat} {c : Cl} {v : Value} (hrd : RdC w d v c) {who : Int} (hw : (Lit.int .i64 who).wf = true) (hac : isAcc who) (hok : okC 3 c = true) (hget : (dget P (dgOf c)).isSome = false) (h6 : P.length < 6) {E : Int} (hE : E = spendE A M who 5 false) (hne : E = 0) : Calls Tryz.prog 16 #[.pointer (some ⟨pb, 0, none⟩), .pointer (some ⟨g, 0, none⟩), .int .i64 who, v] w fun e w' => e = .returned (.tuple #[.agg (Bs (dgOf c).s).toArray, .int .i64 0]) ∧ ((ldM g (reserveA A M who 5) M).star (prM pb (dput P (dgOf c) (who, c)) U)).to F w w' := by
  subst hne
  have HEE := Lib.hid (And.intro hE h6)
  clear hE
  obtain ⟨d', ao, cap, -, rfl, -⟩ := hrd.open
  obtain ⟨k, hk⟩ : ∃ k, k = c.k := ⟨_, rfl⟩
  obtain ⟨t, ht⟩ : ∃ t, t = c.t := ⟨_, rfl⟩
  obtain ⟨n, hn⟩ : ∃ n, n = c.n := ⟨_, rfl⟩
  obtain ⟨m, hm⟩ : ∃ m, m = c.kids.length := ⟨_, rfl⟩
  rw [← hk, ← ht, ← hn, ← hm] at hrd ⊢
  obtain ⟨cb, hcb⟩ : ∃ b, b = w.heap.size := ⟨_, rfl⟩
  obtain ⟨rb, hrb⟩ : ∃ b, b = w.heap.size + 1 := ⟨_, rfl⟩
  obtain ⟨W, hW⟩ : ∃ W, W = (w.alloc (.cells #[.int .i64 k, .int .i64 t, .int .i64 n, .slice ao m cap] 45)).alloc (.cells (Bs dg0.s).toArray 41) := ⟨_, rfl⟩
  have hB : Below w.heap.size w W := by rw [hW]; exact ((Below.refl _ w).alloc (Nat.le_refl _) _).alloc (by simp) _
  have hcr : W.rangeAt cb 0 [.int .i64 k, .int .i64 t, .int .i64 n, .slice ao m cap] := by rw [hW, hcb]; exact rangeAt_block (rangeAt_new _) (Below.heap_alloc _ _ _ (by simp))
  have hrr : W.heap[rb]? = some (.cells (Bs dg0.s).toArray 41 (0, 0)) := by rw [hW, hrb]; have q := World.alloc_heap_new (w.alloc (.cells #[.int .i64 k, .int .i64 t, .int .i64 n, .slice ao m cap] 45)) (.cells (Bs dg0.s).toArray 41); rwa [World.size_alloc] at q
  have hsW : W.heap.size = rb + 1 := by rw [hW, hrb]; simp
  have hrW : RdC W d (.agg #[.int .i64 k, .int .i64 t, .int .i64 n, .slice ao m cap]) c := RdC.below hB hrd
  have hGW := hG.below hB hG.lt
  have hSW := Mem.below h hB
  have HS := Lib.hid hSW
  have HW := Lib.hid (And.intro hW (And.intro hcb (And.intro hrb (And.intro hB hsW))))
  have HR := Lib.hid (And.intro hcr hrr)
  have HG := Lib.hid hGW
  have HRD := Lib.hid hrW
  have c1 : decide (0 ≤ who ∧ who < 10) = true := by unfold isAcc at hac; exact decide_eq_true hac
  have C1 := Lib.hid c1
  have hE := fun W2 (hb : Below W.heap.size W W2) => enc_good (RdC.below hb HRD.out) hok
  have hD := fun W2 (hb : Below W.heap.size W W2) => code_Sum d c _ W2 (HG.out.below hb HG.out.lt) (RdC.below hb HRD.out)
  rw [show keyedL [] (sumT c) = (dgOf c).s from rfl] at hD
  obtain ⟨s, hs⟩ : ∃ s, s = dgOf c := ⟨_, rfl⟩
  rw [← hs] at hD hget
  try rw [← hs]
  have HE := Lib.hid (And.intro hE hD)
  have HFN := Lib.hid (show ∀ k, F k → k < w.heap.size from fun k e => ((ldM g A M).star (prM pb P U)).lt h e)
  have HOK := Lib.hid (And.intro hok hs)
  have HGET := Lib.hid hget
  have HACC := Lib.hid hac
  clear hE hD c1 hac hok hget hs
  clear hk ht hn hm hcb hrb hW hB hcr hrr hsW hrW hGW hSW h hG hrd
  go_enter Tryz.func16, Tryz.ntmps16
  go_upto_region 1 with fail
  rw [zero32d, ← HW.out.1, ← HW.out.2.2.1, ← HW.out.2.1]
  go_upto_region 5 with (first
    | (refine wpl_loadC _ rfl rfl rfl HR.out.1 rfl ?_)
    | (go_at_call 43; refine (HE.out.1 W (Below.refl _ _)).mono ?_; rintro e w1 ⟨u, rfl, ho, hb⟩; have hcr1 := rangeAt_block HR.out.1 (hb.block cb (by have := HW.out.2.1; have := HW.out.2.2.1; have := HW.out.2.2.2.2; omega)); have H1 := Lib.hid (And.intro hb (And.intro ho hcr1)); clear ho hb hcr1)
    | (go_at_call 44; refine (bound_Account _ _).mono ?_; rw [C1.out]; rintro e w' ⟨rfl, hw'⟩; rw [hw']; clear hw' w')
    | (refine wpl_loadC _ rfl rfl rfl H1.out.2.2 rfl ?_)
    | (go_at_call 45; refine (HE.out.2 w1 H1.out.1).mono ?_; rintro e w2 ⟨rfl, hb⟩; have H2 := Lib.hid hb; clear hb)
    | (refine wpl_allocR (r := hshR) rfl rfl rfl ?_; intro C hC)
    | (refine wpl_storeR (r := hshR) (t := s) (C := C) (b := w2.heap.size) _ _ rfl rfl rfl rfl rfl (World.alloc_heap_new _ _) hC ?_; rw [World.setRow_alloc_new])
    | fail)
  obtain ⟨X, hX⟩ : ∃ X, X = w2.alloc (.cells (Bs s.s).toArray 41) := ⟨_, rfl⟩
  obtain ⟨sb, hsb⟩ : ∃ b, b = w2.heap.size := ⟨_, rfl⟩
  rw [show w2.alloc (.cells (hshR.f s).toArray hshR.T) = X from hX.symm, ← hsb]
  have hb2 : Below W.heap.size W w2 := H1.out.1.trans (H2.out.mono H1.out.1.size)
  have hbX : Below W.heap.size W X := by rw [hX]; exact hb2.alloc hb2.size _
  have hbw : Below w.heap.size w X := HW.out.2.2.2.1.trans (hbX.mono HW.out.2.2.2.1.size)
  have hSX := Mem.below HS.out hbX
  have hsbr : X.heap[sb]? = some (.cells (Bs s.s).toArray 41 (0, 0)) := by rw [hX, hsb]; exact World.alloc_heap_new _ _
  have hrr := (hbX.block rb (by have := HW.out.2.2.2.2; omega)).trans HR.out.2
  have hsX : X.heap.size = sb + 1 := by rw [hX, hsb]; simp
  have hw1s : w1.heap.size ≤ sb := by rw [hsb]; exact H2.out.size
  have huX : OwnB W.heap.size u (Bs (layT c)) X := by
    have q : OwnB W.heap.size u (Bs (layT c)) w2 := H1.out.2.1.keptR H2.out
    rw [hX]; exact q.keptR ((Below.refl _ w2).alloc (Nat.le_refl _) _)
  obtain ⟨B0, hpX0, -, -⟩ := Mem.r hSX
  obtain ⟨o, o2, mm, hpX⟩ := hpX0
  obtain ⟨x, hlk, hx1, hx2⟩ := hpX.note_look s
  obtain ⟨bo, hbo⟩ : ∃ b, b = (dget P s).isSome := ⟨_, rfl⟩
  obtain ⟨xw, hxw⟩ : ∃ b, b = x.who := ⟨_, rfl⟩
  obtain ⟨ao', xn, xc, hxv⟩ : ∃ ao n c, x.v = .slice ao n c := ⟨_, _, _, rfl⟩
  rw [← hbo, ← hxw, hxv] at hlk
  have hkeep : ∀ V : World, (∀ k, k < X.heap.size → V.heap[k]? = X.heap[k]?) → V.cell? ⟨pb, 0, none⟩ = some (.map o) ∧ V.rangeAt sb 0 (Bs s.s) ∧ (Instr.lookup 91 (.map o) (.agg (Bs s.s).toArray) true).run Tryz.prog V = .ok (.tuple #[.agg #[.int .i64 xw, .slice ao' xn xc], .bool bo]) V := fun V hV =>
    ⟨(World.cell?_of_block (a := ⟨pb, 0, none⟩) (hV pb (hpX.lt pb hpX.own))).trans hpX.c0, rangeAt_block (rangeAt_whole (T := 41) hsbr) (hV sb (by omega)), hlk V (fun b e => hV b (hpX.mo.lt e))⟩
  have hlen := hpX.mo.len (t := 91) Tryz.underlying91
  rw [hpX.rel.len hpX.mo.srt] at hlen
  have hfo := found_of X x
  rw [← hxw, hxv] at hfo
  have HFO := Lib.hid hfo
  have HK := Lib.hid hkeep
  have hu := Tryz.underlying41
  have hsz := infoHD s
  have HX := Lib.hid (And.intro hbw (And.intro hSX (And.intro hsbr (And.intro hrr (And.intro hsX (And.intro hw1s huX))))))
  have BO := Lib.hid hbo
  have HP := Lib.hid hpX
  clear hX hsb hb2 hbX hbw hSX hsbr hrr hsX hw1s huX hpX hlk hx1 hx2 hbo hxw hxv hkeep hfo hlen
  apply wp_meetF (S := fun wc => Found X x wc)
  case h =>
    go_region_held3 (fun w' => w'.cell? ⟨pb, 0, none⟩ = some (.map o) ∧ w'.rangeAt sb 0 (Bs s.s) ∧ (Instr.lookup 91 (.map o) (.agg (Bs s.s).toArray) true).run Tryz.prog w' = .ok (.tuple #[.agg #[.int .i64 xw, .slice ao' xn xc], .bool bo]) w') (first | exact HK.out _ (fun k hk => rfl) | exact HK.out _ (fun k hk => Below.heap_alloc _ _ _ hk)) (fail)
    all_goals exact ⟨rfl, HFO.out⟩
  intro wc hfc
  have hbc : Below w.heap.size w wc := HX.out.1.trans (hfc.2.mono HX.out.1.size)
  have hrc := (hfc.2.block rb (by have := HX.out.2.2.2.2.1; have := (Array.getElem?_eq_some_iff.1 HX.out.2.2.2.1).1; omega)).trans HX.out.2.2.2.1
  have hsc := (hfc.2.block sb (by have := HX.out.2.2.2.2.1; omega)).trans HX.out.2.2.1
  have hSc := Mem.below HX.out.2.1 hfc.2
  have hpc := HP.out.keep (w' := wc) hfc.2.size (fun k hk => hfc.2.block k (HP.out.lt k hk))
  have huc : OwnB W.heap.size u (Bs (layT c)) wc := HX.out.2.2.2.2.2.2.keptR hfc.2
  have c0 := hpc.c0
  have hln := hpc.mo.len (t := 91) Tryz.underlying91
  rw [hpc.rel.len hpc.mo.srt] at hln
  have HC := Lib.hid (And.intro hbc (And.intro hrc (And.intro hsc (And.intro hSc (And.intro huc hpc)))))
  obtain ⟨nb, hnb⟩ : ∃ b, b = X.heap.size := ⟨_, rfl⟩
  rw [← hnb]
  have HNB := Lib.hid (And.intro hnb hfc)
  clear hbc hrc hsc hSc huc hpc hnb hfc
  obtain rfl : bo = false := by rw [BO.out, HGET.out]
  obtain ⟨pl, hpl⟩ : ∃ n, n = P.length := ⟨_, rfl⟩
  rw [← hpl] at hln h6
  have g6 : ¬ (6 : Int) ≤ (pl : Int) := by omega
  have g6' : (pl : Int) < 6 := by omega
  have hrel : Calls Tryz.prog 46 #[.pointer (some ⟨g, 0, none⟩), .int .i64 who, .int .i64 5] wc fun e w' => e = .returned (.int .i64 (spendE A M who 5 false)) ∧ ((ldM g (reserveA A M who 5) M).star (prM pb P U)).to F wc w' := by
    obtain ⟨L, hl, -, ht⟩ := Mem.l HC.out.2.2.2.1
    refine (ledger_ReserveX (show LdX g 0 A M L wc from hl) hw 5).mono ?_
    rintro e w' ⟨rfl, h2⟩
    exact ⟨rfl, ht (ldM g (reserveA A M who 5) M) w' h2⟩
  rw [← HEE.out.1] at hrel
  have HREL := Lib.hid hrel
  clear BO hpl h6 hrel
  go_upto_region 13 with (first
    | (go_at_call 46; refine HREL.out.mono ?_; rintro e wr ⟨rfl, ht⟩; have H5 := Lib.hid ht; clear ht)
    | fail)
  obtain ⟨gb, un, uc, rfl, hg1, hg2⟩ := own_some HC.out.2.2.2.2.1 (layT_pos c)
  obtain ⟨F2, ⟨A2, B2, hA, ⟨o', o2', m', hp⟩, hdis, hiff⟩, h2, h3⟩ := H5.out
  have hn0 := HC.out.1.size
  have hn1 := HW.out.2.2.1
  have hn2 := HW.out.2.2.2.2
  have hn3 := HX.out.2.2.2.2.2.1
  have hn4 := HX.out.2.2.2.2.1
  have hn5 := HNB.out.2.2.size
  have hn6 := h3.grow.size
  have hn7 := H1.out.1.size
  have hkr : ∀ k, w.heap.size ≤ k → k < wc.heap.size → ¬ F2 k ∧ wr.heap[k]? = wc.heap[k]? := fun k a1 a2 => ⟨fun e => (h2 k e).elim (fun q => by have := HFN.out _ q; omega) (fun q => by omega), h3.block k a2 (fun q => by have := HFN.out _ q; omega) (fun q => q)⟩
  have hpF : F2 pb := (hiff _).2 (.inr hp.own)
  have hpl : pb < wr.heap.size := hp.lt pb hp.own
  have hml : m'.length ≤ 100000 := by rw [hp.rel.len hp.mo.srt]; have := HEE.out.2; omega
  have hpn : ∀ k, w.heap.size ≤ k → k < wc.heap.size → k ≠ pb := fun k a1 a2 e => (hkr k a1 a2).1 (by rw [e]; exact hpF)
  have hF2w : ∀ k, F2 k → F k ∨ w.heap.size ≤ k := fun k e => (h2 k e).imp id (Nat.le_trans hn0)
  have hFw : ∀ k, k < w.heap.size → ¬ F k → wr.heap[k]? = w.heap[k]? ∧ ¬ F2 k := fun k a1 a2 => ⟨(h3.block k (by omega) a2 (fun q => q)).trans (HC.out.1.block k a1), fun q => (hF2w k q).elim a2 (fun q => by omega)⟩
  have hgw : Grow w wr := (Grow.of_below HC.out.1).trans h3.grow
  have hrdr : RdB wr (.slice (some ⟨gb, 0, none⟩) un uc) (layT c) := (HC.out.2.2.2.2.1.ofC (Nat.le_refl _) (w' := wr) (fun k hk => by cases hk; exact (hkr gb (by omega) hg2).2)).reads
  have c0 := hp.c0
  have HA := Lib.hid hA
  have HB := Lib.hid (And.intro hrdr (And.intro hFw (And.intro hF2w (And.intro hkr (And.intro hpn hgw)))))
  have HH := Lib.hid (And.intro hp (And.intro hdis (And.intro hiff (And.intro h2 h3))))
  have HARI := Lib.hid (And.intro hn0 (And.intro hn1 (And.intro hn2 (And.intro hn3 (And.intro hn4 (And.intro hn5 (And.intro hn6 (And.intro hn7 (And.intro hg1 (And.intro hg2 (And.intro hpl (And.intro hml hpF))))))))))))
  clear hA hrdr hFw hF2w hkr hpn hgw hp hdis hiff h2 h3 hn0 hn1 hn2 hn3 hn4 hn5 hn6 hn7 hg1 hg2 hpl hml hpF
  cases o' with
  | none =>
    have nb' := nilM_eq0 wr
    have fz : (wr.alloc (.map #[] 0)).frozen? ⟨pb, 0, none⟩ = false := by
      have q : (wr.alloc (.map #[] 0)).heap[pb]? = wr.heap[pb]? := Below.heap_alloc _ _ _ HARI.out.2.2.2.2.2.2.2.2.2.2.1
      simp [World.frozen?, q, HH.out.1.blk]
    have cz : (wr.alloc (.map #[] 0)).cell? ⟨pb, 0, none⟩ = some (.map none) := (World.cell?_of_block (a := ⟨pb, 0, none⟩) (Below.heap_alloc wr _ _ HARI.out.2.2.2.2.2.2.2.2.2.2.1)).trans c0
    have hmm := @run_makeMap Tryz.prog
    obtain ⟨b, hb⟩ : ∃ b, b = wr.heap.size := ⟨_, rfl⟩
    obtain ⟨V, hV⟩ : ∃ V, V = (wr.alloc (.map #[] 0)).setCell ⟨pb, 0, none⟩ (.map (some b)) := ⟨_, rfl⟩
    have HV := Lib.hid (And.intro hb hV)
    clear hb hV
    go_upto_region 15 with fail
    rw [← HV.out.1, ← HV.out.2]
    clear fz cz hmm nb' c0
    have hpV := (HH.out.1.makeM).2
    rw [← HV.out.1, ← HV.out.2] at hpV
    have hVk : ∀ k, k ≠ pb → k < wr.heap.size → V.heap[k]? = wr.heap[k]? := fun k a1 a2 => by rw [HV.out.2]; exact (Below.heap_setCell _ _ _ k a1).trans (Below.heap_alloc _ _ _ a2)
    have hVg : Grow wr V := by rw [HV.out.2]; exact ⟨rfl, rfl, rfl, by simp [World.setCell]⟩
    have hVF : ∀ k, (B2 k ∨ k = b) → F2 k ∨ wr.heap.size ≤ k := fun k e => e.elim (fun e => .inl ((HH.out.2.2.1 k).2 (.inr e))) (fun e => .inr (by rw [e, HV.out.1]; exact Nat.le_refl _))
    have hVd : ∀ k, A2 k → ¬ (B2 k ∨ k = b) := fun k e q => q.elim (HH.out.2.1 k e) (fun q => by have q1 := (ldM g (reserveA A M who 5) M).lt HA.out e; have q2 := HV.out.1; omega)
    have hVb : F2 b ∨ wr.heap.size ≤ b := .inr (Nat.le_of_eq HV.out.1.symm)
    have hbB := hpV.fo b rfl
    obtain ⟨BB, hBB⟩ : ∃ B : FP, B = (fun k => B2 k ∨ k = b) := ⟨_, rfl⟩
    rw [← hBB] at hpV
    have hVF : ∀ k, BB k → F2 k ∨ wr.heap.size ≤ k := by rw [hBB]; exact hVF
    have hVd : ∀ k, A2 k → ¬ BB k := by rw [hBB]; exact hVd
    obtain ⟨hn0, hn1, hn2, hn3, hn4, hn5, hn6, hn7, hg1, hg2, hpl, hml, hpF⟩ := HARI.out
    obtain ⟨hrdr, hFw, hF2w, hkr, hpn, hgw⟩ := HB.out
    have hVn : ∀ k, w.heap.size ≤ k → k < wc.heap.size → V.heap[k]? = wc.heap[k]? ∧ k ≠ b ∧ k ≠ pb := fun k a1 a2 => ⟨(hVk k (hpn k a1 a2) (by omega)).trans (hkr k a1 a2).2, fun e => hVb.elim (fun q => (hkr k a1 a2).1 (by rw [e]; exact q)) (fun q => by omega), hpn k a1 a2⟩
    have hsV : V.drew.rangeAt sb 0 (Bs s.s) := rangeAt_block (w := wc) (rangeAt_whole (T := 41) HC.out.2.2.1) (hVn sb (by omega) (by omega)).1
    have hpd : PrAt pb P U BB (some b) o2' m' V.drew := hpV.keep (Nat.le_refl _) (fun _ _ => rfl)
    obtain ⟨V2, e1, e2, e3, hp2⟩ := note_put hpd rfl hml s ⟨who, some gb, un, uc⟩ (who, c) rfl (Nat.lt_of_lt_of_le (show gb < wr.heap.size by omega) hVg.size) (((HC.out.2.2.2.2.1.ofC (Nat.le_refl _) (w' := V.drew) (fun k hk => by cases hk; exact (hVn gb (by omega) hg2).1)).reads)) HOK.out.1 rfl
    have e1 : (Instr.mapUpdate 91 (.map (some b)) (.agg (Bs s.s).toArray) (.agg #[.int .i64 who, .slice (some ⟨gb, 0, none⟩) un uc])).run Tryz.prog V.drew = .ok () V2 := e1
    have k1 : V.drew.cell? ⟨pb, 0, none⟩ = some (.map (some b)) := hpd.c0
    have k3 : V2.cell? ⟨pb, 0, none⟩ = some (.map (some b)) := hp2.c0
    have hV2n : ∀ k, w.heap.size ≤ k → k < wc.heap.size → V2.heap[k]? = wc.heap[k]? := fun k a1 a2 => (e2 k (hVn k a1 a2).2.1).trans (hVn k a1 a2).1
    have k4 : V2.rangeAt sb 0 (Bs s.s) := rangeAt_block (w := wc) (rangeAt_whole (T := 41) HC.out.2.2.1) (hV2n sb (by omega) (by omega))
    have hrV : V2.heap[rb]? = some (.cells (Bs dg0.s).toArray 41 (0, 0)) := (hV2n rb (by omega) (by omega)).trans HC.out.2.1
    have KA := Lib.hid (And.intro k1 hsV)
    have KC := Lib.hid (And.intro k3 k4)
    have KR := Lib.hid hrV
    have hrb2 : ¬ F2 rb := (hkr rb (by omega) (by omega)).1
    have hend : ((ldM g (reserveA A M who 5) M).star (prM pb (dput P s (who, c)) U)).to F w (V2.setRow rb (Bs s.s).toArray) := by
      have hk2 : ∀ k, k ≠ rb → k ≠ b → k ≠ pb → k < wr.heap.size → (V2.setRow rb (Bs s.s).toArray).heap[k]? = wr.heap[k]? := fun k a1 a2 a3 a4 => (setRow_other _ _ _ _ a1).trans ((e2 k a2).trans (hVk k a3 a4))
      have hAn : ∀ k, A2 k → k ≠ rb ∧ k ≠ b ∧ k ≠ pb ∧ k < wr.heap.size ∧ F2 k ∧ k ≠ gb := fun k e => by
        have q0 : F2 k := (HH.out.2.2.1 k).2 (.inl e)
        refine ⟨fun q => hrb2 (by rw [← q]; exact q0), fun q => hVd k e (by rw [q, hBB]; exact hbB), fun q => HH.out.2.1 k e (by rw [q]; exact HH.out.1.own), (ldM g (reserveA A M who 5) M).lt HA.out e, q0, fun q => (hkr gb (by omega) hg2).1 (by rw [← q]; exact q0)⟩
      have hgr : Grow wr (V2.setRow rb (Bs s.s).toArray) := ⟨(e3.os.trans hVg.os), (e3.tape.trans hVg.tape), (e3.output.trans hVg.output), by have a := hVg.size; have c := e3.size; rw [show (V2.setRow rb (Bs s.s).toArray).heap.size = V2.heap.size from by simp]; exact Nat.le_trans a c⟩
      have hrB : ∀ k, BB k ∨ k = gb → k ≠ rb := fun k e q => e.elim (fun e => (hVF k e).elim (fun e => hrb2 (by rw [← q]; exact e)) (fun e => by omega)) (fun e => by omega)
      refine ⟨fun k => A2 k ∨ (BB k ∨ k = gb), Mem.join ((ldM g (reserveA A M who 5) M).keep HA.out hgr (fun k e => hk2 k (hAn k e).1 (hAn k e).2.1 (hAn k e).2.2.1 (hAn k e).2.2.2.1)) ⟨some b, o2', _, hp2.keep (Nat.le_of_eq (by simp)) (fun k e => setRow_other _ _ _ _ (hrB k e))⟩ (fun k e q => q.elim (hVd k e) (hAn k e).2.2.2.2.2), fun k e => ?_, ⟨hgw.trans hgr, fun k a1 a2 _ => ?_⟩⟩
      · rcases e with e | e | e
        · exact hF2w k (hAn k e).2.2.2.2.1
        · exact (hVF k e).elim (hF2w k) (fun q => .inr (by omega))
        · exact .inr (by omega)
      · have q := hFw k a1 a2
        exact (hk2 k (by omega) (fun e => hVb.elim (fun p => q.2 (by rw [e]; exact p)) (fun p => by omega)) (fun e => q.2 (by rw [e]; exact hpF)) (by omega)).trans q.1
    have HE2 := Lib.hid (And.intro hend HOK.out.2)
    clear hpd hpV hVk hVg hVF hVd hVb hbB hBB hn0 hn1 hn2 hn3 hn4 hn5 hn6 hn7 hg1 hg2 hpl hml hpF hrdr hFw hF2w hkr hpn hgw hVn hsV e2 e3 hp2 k1 k3 hV2n k4 hrV hrb2 hend
    go_region_held3 (fun w' => w'.cell? ⟨pb, 0, none⟩ = some (.map (some b)) ∧ w'.rangeAt sb 0 (Bs s.s)) (first | exact KA.out | exact KC.out) (fail)
    all_goals
      go_wp2_with (first
        | (refine wpl_loadR (r := hshR) (t := s) _ rfl rfl rfl KC.out.2 ?_)
        | (refine wpl_storeR (r := hshR) (t := s) (C := (Bs dg0.s).toArray) _ _ rfl rfl rfl rfl rfl KR.out (by rw [List.size_toArray, dg0.blen]; rfl) ?_)
        | fail)
      have hfin := setRow_heap V2 _ _ (Bs s.s).toArray _ _ KR.out
      exact bodyPost_ret (v := .tuple #[.agg (Bs s.s).toArray, .int .i64 0]) (results_cellH Tryz.results16 rfl rfl hfin) rfl ⟨rfl, HE2.out.1⟩

  | some b =>
    have nb' := nilM_eq b wr
    go_upto_region 15 with fail
    clear nb' c0
    obtain ⟨V, hV⟩ : ∃ V, V = wr := ⟨_, rfl⟩
    have hpV := HH.out.1
    rw [← hV]
    rw [← hV] at hpV
    have hVk : ∀ k, k ≠ pb → k < wr.heap.size → V.heap[k]? = wr.heap[k]? := fun k _ _ => by rw [hV]
    have hVg : Grow wr V := by rw [hV]; exact ⟨rfl, rfl, rfl, Nat.le_refl _⟩
    clear hV
    have hVF : ∀ k, B2 k → F2 k ∨ wr.heap.size ≤ k := fun k e => .inl ((HH.out.2.2.1 k).2 (.inr e))
    have hVd : ∀ k, A2 k → ¬ B2 k := HH.out.2.1
    have hVb : F2 b ∨ wr.heap.size ≤ b := .inl ((HH.out.2.2.1 b).2 (.inr (HH.out.1.fo b rfl)))
    have hbB := hpV.fo b rfl
    obtain ⟨BB, hBB⟩ : ∃ B : FP, B = (B2) := ⟨_, rfl⟩
    rw [← hBB] at hpV
    have hVF : ∀ k, BB k → F2 k ∨ wr.heap.size ≤ k := by rw [hBB]; exact hVF
    have hVd : ∀ k, A2 k → ¬ BB k := by rw [hBB]; exact hVd
    obtain ⟨hn0, hn1, hn2, hn3, hn4, hn5, hn6, hn7, hg1, hg2, hpl, hml, hpF⟩ := HARI.out
    obtain ⟨hrdr, hFw, hF2w, hkr, hpn, hgw⟩ := HB.out
    have hVn : ∀ k, w.heap.size ≤ k → k < wc.heap.size → V.heap[k]? = wc.heap[k]? ∧ k ≠ b ∧ k ≠ pb := fun k a1 a2 => ⟨(hVk k (hpn k a1 a2) (by omega)).trans (hkr k a1 a2).2, fun e => hVb.elim (fun q => (hkr k a1 a2).1 (by rw [e]; exact q)) (fun q => by omega), hpn k a1 a2⟩
    have hsV : V.drew.rangeAt sb 0 (Bs s.s) := rangeAt_block (w := wc) (rangeAt_whole (T := 41) HC.out.2.2.1) (hVn sb (by omega) (by omega)).1
    have hpd : PrAt pb P U BB (some b) o2' m' V.drew := hpV.keep (Nat.le_refl _) (fun _ _ => rfl)
    obtain ⟨V2, e1, e2, e3, hp2⟩ := note_put hpd rfl hml s ⟨who, some gb, un, uc⟩ (who, c) rfl (Nat.lt_of_lt_of_le (show gb < wr.heap.size by omega) hVg.size) (((HC.out.2.2.2.2.1.ofC (Nat.le_refl _) (w' := V.drew) (fun k hk => by cases hk; exact (hVn gb (by omega) hg2).1)).reads)) HOK.out.1 rfl
    have e1 : (Instr.mapUpdate 91 (.map (some b)) (.agg (Bs s.s).toArray) (.agg #[.int .i64 who, .slice (some ⟨gb, 0, none⟩) un uc])).run Tryz.prog V.drew = .ok () V2 := e1
    have k1 : V.drew.cell? ⟨pb, 0, none⟩ = some (.map (some b)) := hpd.c0
    have k3 : V2.cell? ⟨pb, 0, none⟩ = some (.map (some b)) := hp2.c0
    have hV2n : ∀ k, w.heap.size ≤ k → k < wc.heap.size → V2.heap[k]? = wc.heap[k]? := fun k a1 a2 => (e2 k (hVn k a1 a2).2.1).trans (hVn k a1 a2).1
    have k4 : V2.rangeAt sb 0 (Bs s.s) := rangeAt_block (w := wc) (rangeAt_whole (T := 41) HC.out.2.2.1) (hV2n sb (by omega) (by omega))
    have hrV : V2.heap[rb]? = some (.cells (Bs dg0.s).toArray 41 (0, 0)) := (hV2n rb (by omega) (by omega)).trans HC.out.2.1
    have KA := Lib.hid (And.intro k1 hsV)
    have KC := Lib.hid (And.intro k3 k4)
    have KR := Lib.hid hrV
    have hrb2 : ¬ F2 rb := (hkr rb (by omega) (by omega)).1
    have hend : ((ldM g (reserveA A M who 5) M).star (prM pb (dput P s (who, c)) U)).to F w (V2.setRow rb (Bs s.s).toArray) := by
      have hk2 : ∀ k, k ≠ rb → k ≠ b → k ≠ pb → k < wr.heap.size → (V2.setRow rb (Bs s.s).toArray).heap[k]? = wr.heap[k]? := fun k a1 a2 a3 a4 => (setRow_other _ _ _ _ a1).trans ((e2 k a2).trans (hVk k a3 a4))
      have hAn : ∀ k, A2 k → k ≠ rb ∧ k ≠ b ∧ k ≠ pb ∧ k < wr.heap.size ∧ F2 k ∧ k ≠ gb := fun k e => by
        have q0 : F2 k := (HH.out.2.2.1 k).2 (.inl e)
        refine ⟨fun q => hrb2 (by rw [← q]; exact q0), fun q => hVd k e (by rw [q, hBB]; exact hbB), fun q => HH.out.2.1 k e (by rw [q]; exact HH.out.1.own), (ldM g (reserveA A M who 5) M).lt HA.out e, q0, fun q => (hkr gb (by omega) hg2).1 (by rw [← q]; exact q0)⟩
      have hgr : Grow wr (V2.setRow rb (Bs s.s).toArray) := ⟨(e3.os.trans hVg.os), (e3.tape.trans hVg.tape), (e3.output.trans hVg.output), by have a := hVg.size; have c := e3.size; rw [show (V2.setRow rb (Bs s.s).toArray).heap.size = V2.heap.size from by simp]; exact Nat.le_trans a c⟩
      have hrB : ∀ k, BB k ∨ k = gb → k ≠ rb := fun k e q => e.elim (fun e => (hVF k e).elim (fun e => hrb2 (by rw [← q]; exact e)) (fun e => by omega)) (fun e => by omega)
      refine ⟨fun k => A2 k ∨ (BB k ∨ k = gb), Mem.join ((ldM g (reserveA A M who 5) M).keep HA.out hgr (fun k e => hk2 k (hAn k e).1 (hAn k e).2.1 (hAn k e).2.2.1 (hAn k e).2.2.2.1)) ⟨some b, o2', _, hp2.keep (Nat.le_of_eq (by simp)) (fun k e => setRow_other _ _ _ _ (hrB k e))⟩ (fun k e q => q.elim (hVd k e) (hAn k e).2.2.2.2.2), fun k e => ?_, ⟨hgw.trans hgr, fun k a1 a2 _ => ?_⟩⟩
      · rcases e with e | e | e
        · exact hF2w k (hAn k e).2.2.2.2.1
        · exact (hVF k e).elim (hF2w k) (fun q => .inr (by omega))
        · exact .inr (by omega)
      · have q := hFw k a1 a2
        exact (hk2 k (by omega) (fun e => hVb.elim (fun p => q.2 (by rw [e]; exact p)) (fun p => by omega)) (fun e => q.2 (by rw [e]; exact hpF)) (by omega)).trans q.1
    have HE2 := Lib.hid (And.intro hend HOK.out.2)
    clear hpd hpV hVk hVg hVF hVd hVb hbB hBB hn0 hn1 hn2 hn3 hn4 hn5 hn6 hn7 hg1 hg2 hpl hml hpF hrdr hFw hF2w hkr hpn hgw hVn hsV e2 e3 hp2 k1 k3 hV2n k4 hrV hrb2 hend
    go_region_held3 (fun w' => w'.cell? ⟨pb, 0, none⟩ = some (.map (some b)) ∧ w'.rangeAt sb 0 (Bs s.s)) (first | exact KA.out | exact KC.out) (fail)
    all_goals
      go_wp2_with (first
        | (refine wpl_loadR (r := hshR) (t := s) _ rfl rfl rfl KC.out.2 ?_)
        | (refine wpl_storeR (r := hshR) (t := s) (C := (Bs dg0.s).toArray) _ _ rfl rfl rfl rfl rfl KR.out (by rw [List.size_toArray, dg0.blen]; rfl) ?_)
        | fail)
      have hfin := setRow_heap V2 _ _ (Bs s.s).toArray _ _ KR.out
      exact bodyPost_ret (v := .tuple #[.agg (Bs s.s).toArray, .int .i64 0]) (results_cellH Tryz.results16 rfl rfl hfin) rfl ⟨rfl, HE2.out.1⟩
end Go.Proofs.YtcfcfijmfgnpfaaGreatDoor
end

section
namespace Go.Proofs.YtcfcfijmfgnpfaaGreatDoor
open Go.RowKit Go.Maps
set_option linter.unusedVariables false
set_option linter.unusedSimpArgs false

def noteE (A : Acc) (M : Cls Int) (P : List (Dg × (Int × Cl))) (who : Int) (c : Cl) : Int :=
  if ¬ isAcc who ∨ okC 3 c = false then 1 else if (dget P (dgOf c)).isSome = true then 5 else if 6 ≤ P.length then 3 else spendE A M who 5 false
def noteH (A : Acc) (M : Cls Int) (P : List (Dg × (Int × Cl))) (who : Int) (c : Cl) : Dg := if noteE A M P who c = 0 then dgOf c else dg0
def noteP (A : Acc) (M : Cls Int) (P : List (Dg × (Int × Cl))) (who : Int) (c : Cl) : List (Dg × (Int × Cl)) := if noteE A M P who c = 0 then dput P (dgOf c) (who, c) else P
def noteA (A : Acc) (M : Cls Int) (P : List (Dg × (Int × Cl))) (who : Int) (c : Cl) : Acc := if noteE A M P who c = 0 then reserveA A M who 5 else A
theorem reserveA_no {A : Acc} {M : Cls Int} {a n : Int} (h : spendE A M a n false ≠ 0) : reserveA A M a n = A := by unfold reserveA; rw [if_neg h]
section
variable {pb g : Nat} {A : Acc} {M : Cls Int} {P : List (Dg × (Int × Cl))} {U : List (Dg × Int)} {F : FP} {w : World}
theorem pre_Note (h : ((ldM g A M).star (prM pb P U)).is F w) (hG : Glob w) {d : Nat} {c : Cl} {v : Value} (hrd : RdC w d v c) {who : Int} (hw : (Lit.int .i64 who).wf = true) :
    Calls Tryz.prog 16 #[.pointer (some ⟨pb, 0, none⟩), .pointer (some ⟨g, 0, none⟩), .int .i64 who, v] w fun e w' => e = .returned (.tuple #[.agg (Bs (noteH A M P who c).s).toArray, .int .i64 (noteE A M P who c)]) ∧ ((ldM g (noteA A M P who c) M).star (prM pb (noteP A M P who c) U)).to F w w' := by
  have hno : ∀ E : Int, E ≠ 0 → noteE A M P who c = E → Calls Tryz.prog 16 #[.pointer (some ⟨pb, 0, none⟩), .pointer (some ⟨g, 0, none⟩), .int .i64 who, v] w (fun e w' => e = .returned (.tuple #[.agg (Bs dg0.s).toArray, .int .i64 E]) ∧ Below w.heap.size w w') → Calls Tryz.prog 16 #[.pointer (some ⟨pb, 0, none⟩), .pointer (some ⟨g, 0, none⟩), .int .i64 who, v] w fun e w' => e = .returned (.tuple #[.agg (Bs (noteH A M P who c).s).toArray, .int .i64 (noteE A M P who c)]) ∧ ((ldM g (noteA A M P who c) M).star (prM pb (noteP A M P who c) U)).to F w w' := by
    intro E hE he hc
    unfold noteH noteA noteP
    rw [he, if_neg hE, if_neg hE, if_neg hE]
    refine hc.mono ?_
    rintro e w' ⟨rfl, hb⟩
    exact ⟨rfl, Mem.to_below h hb⟩
  by_cases h1 : isAcc who
  · cases h2 : okC 3 c with
    | false => exact hno 1 (by decide) (by unfold noteE; rw [if_pos (.inr h2)]) (pre_Note_bad h hG hrd hw h1 h2)
    | true =>
      have hn : ¬ (¬ isAcc who ∨ okC 3 c = false) := by rw [h2]; simp [h1]
      cases h3 : (dget P (dgOf c)).isSome with
      | true => exact hno 5 (by decide) (by unfold noteE; rw [if_neg hn, if_pos h3]) (pre_Note_has h hG hrd hw h1 h2 h3)
      | false =>
        have hn3 : ¬ (dget P (dgOf c)).isSome = true := by rw [h3]; decide
        by_cases h6 : 6 ≤ P.length
        · exact hno 3 (by decide) (by unfold noteE; rw [if_neg hn, if_neg hn3, if_pos h6]) (pre_Note_full h hG hrd hw h1 h2 h3 h6)
        · have he : noteE A M P who c = spendE A M who 5 false := by unfold noteE; rw [if_neg hn, if_neg hn3, if_neg h6]
          unfold noteH noteA noteP
          rw [he]
          by_cases h0 : spendE A M who 5 false = 0
          · rw [if_pos h0, if_pos h0, if_pos h0, h0]
            exact pre_Note_ok h hG hrd hw h1 h2 h3 (by omega) rfl h0
          · rw [if_neg h0, if_neg h0, if_neg h0]
            have := pre_Note_funds h hG hrd hw h1 h2 h3 (by omega) rfl h0
            rwa [reserveA_no h0] at this
  · exact hno 1 (by decide) (by unfold noteE; rw [if_pos (.inl h1)]) (pre_Note_acc h hG hrd hw h1)
theorem pre_Unnote (h : ((ldM g A M).star (prM pb P U)).is F w) (d : Dg) (who : Int) :
    Calls Tryz.prog 18 #[.pointer (some ⟨pb, 0, none⟩), .pointer (some ⟨g, 0, none⟩), .int .i64 who, .agg (Bs d.s).toArray] w fun e w' => e = .returned (.int .i64 (unnE P U who d)) ∧ ((ldM g (unnA A P U who d) M).star (prM pb (unnP P U who d) U)).to F w w' := by
  have hno : ∀ E : Int, E ≠ 0 → unnE P U who d = E → Calls Tryz.prog 18 #[.pointer (some ⟨pb, 0, none⟩), .pointer (some ⟨g, 0, none⟩), .int .i64 who, .agg (Bs d.s).toArray] w (fun e w' => e = .returned (.int .i64 E) ∧ Below w.heap.size w w') → Calls Tryz.prog 18 #[.pointer (some ⟨pb, 0, none⟩), .pointer (some ⟨g, 0, none⟩), .int .i64 who, .agg (Bs d.s).toArray] w fun e w' => e = .returned (.int .i64 (unnE P U who d)) ∧ ((ldM g (unnA A P U who d) M).star (prM pb (unnP P U who d) U)).to F w w' := by
    intro E hE he hc
    unfold unnA unnP
    rw [he, if_neg hE, if_neg hE]
    refine hc.mono ?_
    rintro e w' ⟨rfl, hb⟩
    exact ⟨rfl, Mem.to_below h hb⟩
  cases hd : dget P d with
  | none => exact hno 4 (by decide) (by unfold unnE; rw [hd]) (pre_Unnote_none h d who hd)
  | some q =>
    by_cases h1 : q.1 = who
    · by_cases h2 : wantN U d > 0
      · exact hno 9 (by decide) (by unfold unnE; rw [hd]; simp [h1, h2]) (pre_Unnote_wanted h d who hd h1 h2)
      · have he : unnE P U who d = 0 := by unfold unnE; rw [hd]; simp [h1]; omega
        unfold unnA unnP
        rw [he, if_pos rfl, if_pos rfl]
        exact pre_Unnote_ok h d who hd h1 (by omega)
    · exact hno 8 (by decide) (by unfold unnE; rw [hd]; simp [h1]) (pre_Unnote_other h d who hd h1)
end
end Go.Proofs.YtcfcfijmfgnpfaaGreatDoor
end

section
namespace Go.Proofs.YtcfcfijmfgnpfaaGreatDoor
open Go.RowKit Go.Maps Go.Shelf
attribute [local go_sem] Oper.semAt_some
set_option linter.unusedVariables false
set_option linter.unusedSimpArgs false

/-- An item's cells: its call stays nothing. -/
def itOf_H (x : Dg × Int) : List Value := Bs x.1.s ++ [.int .i64 x.2, .int .i64 0, .int .i64 0, .int .i64 0, .slice none 0 0]
theorem itOf_H_len (x : Dg × Int) : (itOf_H x).length = 37 := by rw [itOf_H, List.length_append, x.1.blen]; rfl
theorem itmInfo_H : (Tryz.prog.info? 62).map (fun i => (i.zero, i.size, i.bytes)) = some (some (.agg (itOf_H (dg0, 0)).toArray), 37, 88) := by kernel_rfl
/-- Rows of digests with whose they are. -/
def itm_H : RowTy Tryz.prog (Dg × Int) where
  T := 62
  S := 35
  k := 37
  f := itOf_H
  len := itOf_H_len
  one := fun x u hu => by
    rcases List.mem_append.1 hu with h | h
    · exact Bs_one' _ u h
    · simp only [List.mem_cons, List.not_mem_nil, or_false] at h; rcases h with rfl | rfl | rfl | rfl | rfl <;> rfl
  pos := by decide
  small := by decide
  slice := Tryz.underlying35
  info := by
    obtain ⟨i0, hi, hz⟩ := Option.map_eq_some_iff.1 itmInfo_H
    simp only [Prod.mk.injEq] at hz
    obtain ⟨h1, h2, h3⟩ := hz
    exact ⟨i0, _, _, hi, h1, h2, rfl, h3, by decide⟩
  row := ⟨_, Tryz.underlying62, rfl⟩
def buildItH (ps : Array (Nat × Value)) : Sem Value := Instr.build 62 ps
theorem buildItH_hide (ps : Array (Nat × Value)) : Instr.build 62 ps = buildItH ps := rfl
set_option maxRecDepth 100000 in
theorem run_buildItH (d : Dg) (k : Int) (w : World) : (buildItH #[(0, dv d), (1, .int .i64 k)]).run Tryz.prog w = .ok (.agg (itOf_H (d, k)).toArray) w := by
  obtain ⟨s, h, hl⟩ := d
  obtain ⟨a0, a1, a2, a3, a4, a5, a6, a7, a8, a9, b0, b1, b2, b3, b4, b5, b6, b7, b8, b9, c0, c1, c2, c3, c4, c5, c6, c7, c8, c9, d0, d1, rfl⟩ := list32H s h
  kernel_rfl
def bsItH (ps : Array (Nat × Value)) : Sem Value := Instr.buildSlice 35 1 ps
theorem bsItH_hide (ps : Array (Nat × Value)) : Instr.buildSlice 35 1 ps = bsItH ps := rfl
set_option maxRecDepth 100000 in
theorem run_bsItH (x : Dg × Int) (w : World) : (bsItH #[(0, .agg (itOf_H x).toArray)]).run Tryz.prog w = .ok (.slice (some ⟨w.heap.size, 0, none⟩) 1 1) (w.alloc (.cells (itOf_H x).toArray 62)) := by
  obtain ⟨⟨s, h, hl⟩, k⟩ := x
  obtain ⟨a0, a1, a2, a3, a4, a5, a6, a7, a8, a9, b0, b1, b2, b3, b4, b5, b6, b7, b8, b9, c0, c1, c2, c3, c4, c5, c6, c7, c8, c9, d0, d1, rfl⟩ := list32H s h
  obtain ⟨i0, hi, hz⟩ := Option.map_eq_some_iff.1 itmInfo_H
  simp only [Prod.mk.injEq] at hz
  obtain ⟨h1, h2, h3⟩ := hz
  exact run_buildSlice w _ _ 1 _ _ i0 _ Tryz.underlying35 hi h1 (by rw [h2]; decide) (by rw [h2]; decide) (by rw [h2]; kernel_rfl)
set_option maxHeartbeats 4000000 in
set_option maxRecDepth 100000 in
attribute [local go_sem ↓] ldH_hide buildItH_hide bsItH_hide in
theorem law8_itemsW (p : Option Addr) (xs : List (Dg × Int)) (w : World) (hcall : ∀ w', Below w.heap.size w w' → Calls Tryz.prog 37 #[.pointer p] w' fun e w'' => ∃ bx v, e = .returned (.func (.func 72) #[] #[.pointer (some ⟨bx, 0, none⟩)]) ∧ Boxed w'' bx 127 v ∧ OwnR pair_H (bx + 1) v (xs) w'' ∧ w'.heap.size ≤ bx ∧ Below w'.heap.size w' w'') (hlen : xs.length ≤ 50) :
    Calls Tryz.prog 29 #[.pointer p] w fun e w' => ∃ v, e = .returned (.tuple #[v, .bool true]) ∧ OwnR itm_H w.heap.size v (xs) w' ∧ Below w.heap.size w w' := by
  have hxl : xs.length ≤ 50 := hlen
  have HXL := Lib.hid hxl
  clear hxl
  refine (callsIn_wide (n := 2)).1 ?_
  have q1 : ∀ g lb w, (binOp .eql 72 (.func g #[] lb) .nilFunc).run Tryz.prog w = .ok (.bool false) w := fun g lb w => by kernel_rfl
  refine callsIn_of_wp_marks Tryz.func29 rfl trivial ?_ rfl
  simp only [Tryz.ntmps29, List.size_toArray, List.length_cons, List.length_nil, Nat.reduceAdd, Nat.reduceSub, Array.replicate_succ, Array.replicate_zero, List.push_toArray, List.append_toArray, List.nil_append, List.cons_append]
  have hb2 : Below w.heap.size w ((w.alloc (.cells #[.slice none 0 0] 35)).alloc (.cells #[.bool false] 4)) := ((Below.refl _ w).alloc (Nat.le_refl _) _).alloc (by simp) _
  have hc := hcall _ hb2
  have HC := Lib.hid (And.intro hc hb2)
  have HLN := Lib.hid hlen
  clear hcall hlen hc hb2
  gi_wp2_with (first
    | (gi_at_call 37; refine (callsIn_wide.2 HC.out.1).mono ?_; rintro e wa ⟨bx, v0, rfl, hbx, ho, hn, hba⟩; have H0 := Lib.hid (And.intro hbx (And.intro ho (And.intro hn hba))); clear hbx ho hn hba)
    | (refine ⟨trivial, ?_⟩; gi_at_call 37; refine (callsIn_wide.2 HC.out.1).mono ?_; rintro e wa ⟨bx, v0, rfl, hbx, ho, hn, hba⟩; have H0 := Lib.hid (And.intro hbx (And.intro ho (And.intro hn hba))); clear hbx ho hn hba)
    | fail)
  have hit0 := now1_iter_H 0 bx v0 xs wa H0.out.1 H0.out.2.1.reads (by have := HXL.out; omega) (fun k => k < wa.heap.size) H0.out.1.lt (fun k hk => (H0.out.2.1.block hk).2)
  have HIT := Lib.hid (And.intro hit0 (And.intro enters_now_H H0.out.2.2.2))
  clear hit0 H0
  obtain ⟨s, hs⟩ : ∃ s, s = w.heap.size := ⟨_, rfl⟩
  obtain ⟨rb, hrb⟩ : ∃ rb, rb = s + 1 := ⟨_, rfl⟩
  obtain ⟨ob, hob⟩ : ∃ ob, ob = wa.heap.size := ⟨_, rfl⟩
  obtain ⟨w1, hw1⟩ : ∃ w1, w1 = wa.alloc (.cells #[.slice none 0 0] 35) := ⟨_, rfl⟩
  rw [← hw1]
  have hBa : Below w.heap.size w wa := HC.out.2.trans (HIT.out.2.2.mono HC.out.2.size)
  have hsza : s + 2 ≤ wa.heap.size := by have := HIT.out.2.2.size; rw [World.size_alloc, World.size_alloc] at this; omega
  have hB1a : Below wa.heap.size wa w1 := by rw [hw1]; exact (Below.refl _ _).alloc (Nat.le_refl _) _
  have hB : Below w.heap.size w w1 := hBa.trans (hB1a.mono hBa.size)
  have hsz : w1.heap.size = ob + 1 := by rw [hw1, hob]; simp
  have hx0 : Boxed ((w.alloc (.cells #[.slice none 0 0] 35)).alloc (.cells #[.bool false] 4)) s 35 (.slice none 0 0) := by rw [hs]; exact (Boxed.new w _ _).alloc _
  have hx1 : Boxed ((w.alloc (.cells #[.slice none 0 0] 35)).alloc (.cells #[.bool false] 4)) rb 4 (.bool false) := by
    have := Boxed.new (w.alloc (.cells #[.slice none 0 0] 35)) 4 (.bool false)
    rw [World.size_alloc] at this
    rw [hrb, hs]; exact this
  have x0 : Boxed w1 s 35 (.slice none 0 0) := (hB1a.block s (by omega)).trans ((HIT.out.2.2.block s hx0.lt).trans hx0)
  have x1 : Boxed w1 rb 4 (.bool false) := (hB1a.block rb (by omega)).trans ((HIT.out.2.2.block rb hx1.lt).trans hx1)
  have x2 : Boxed w1 ob 35 (.slice none 0 0) := by rw [hw1, hob]; exact Boxed.new wa _ _
  rw [← hs, ← hrb, ← hob]
  have l0 : s < rb := by omega
  have l1 : rb < ob := by omega
  have l2 : ob < w1.heap.size := by omega
  have HB1 := Lib.hid (And.intro hB hB1a)
  have HS := Lib.hid (And.intro hs (And.intro hsz hob))
  have HR := Lib.hid (And.intro x0 x1)
  clear hw1 hs hrb hB hB1a hBa hsz hsza hx0 hx1 x0 x1 hob
  refine range_outerAI (n := 0) (gf := 72) (lb := #[.pointer (some ⟨bx, 0, none⟩)]) rfl HIT.out.2.1 HIT.out.1 (Grow.of_below HB1.out.2) (fun k hk => ⟨hk, HB1.out.2.block k hk⟩) (fun _ => rfl)
    (fun k => k = ob) (by rintro k rfl; exact ⟨l2, fun h => by have := HS.out.2.2; omega⟩) (ColI itm_H w1.heap.size ob) (fun _ _ _ _ => False) (ColI.stab l2) (fun c _ _ _ h => h.elim)
    ⟨_, x2, OwnR.nil _ _, fun k => ⟨fun h => h.elim, fun h => by cases h⟩, Nat.le_refl _⟩
    (fun x N => { tmps := #[.pointer p, undef, .pointer (some ⟨s, 0, none⟩), .pointer (some ⟨rb, 0, none⟩), .func (.func 72) #[] #[.pointer (some ⟨bx, 0, none⟩)], .pointer (some ⟨ob, 0, none⟩), .pointer (some ⟨N, 0, none⟩), .int .i64 x.2, .pointer p, .func (.func 72) #[] #[.pointer (some ⟨bx, 0, none⟩)], .func (.func 72) #[] #[.pointer (some ⟨bx, 0, none⟩)], .bool false, .func (.func 72) #[] #[.pointer (some ⟨bx, 0, none⟩)], dv x.1, .int .i64 x.2, undef, undef, undef, undef, undef, undef, undef, undef, undef, undef], defers := [] })
    (fun x N W => W.heap[N]? = some (.cells (Bs x.1.s).toArray 41 (0, 0))) (fun x N W W' h e => e.trans h) ?assign ?body ?done ?stop
  case assign =>
    intro l x W K hK
    simp only [encs_H]
    rw [foldl_two]
    simp only [List.setIfInBounds_toArray, List.set_cons_succ, List.set_cons_zero]
    gi_wp2_with (first
      | (refine wplIn_allocR (r := hshR) rfl rfl rfl ?_; intro C hC')
      | (refine wplIn_storeR (r := hshR) (t := x.1) (C := C) (b := W.heap.size) _ _ rfl rfl rfl rfl rfl (World.alloc_heap_new W _) hC' ?_; rw [World.setRow_alloc_new])
      | fail)
    exact hK _ ((Below.refl _ W).alloc (Nat.le_refl _) _) (by simp) (World.alloc_heap_new _ _)
  case body =>
    rintro l pre x Φ N W hpx ⟨v1, hI⟩ hl1 hΦ - hlN hNW hAt
    have hpl := hpx.length_le
    rw [List.length_append, List.length_singleton] at hpl
    have hpl2 : pre.length ≤ 49 := by have := HXL.out; omega
    obtain ⟨ao1, cap1, rfl⟩ := hI.own.lenOf
    obtain ⟨pl, hm⟩ : ∃ pl, pl = pre.length := ⟨_, rfl⟩
    rw [← hm] at hI
    have c0 := hI.bx.cell
    have hlW : ob < W.heap.size := by have := hI.sz; omega
    have hsW : w1.heap.size ≤ W.heap.size := hI.sz
    have lN : (ldH (.pointer (some ⟨N, 0, none⟩))).run Tryz.prog W = .ok (dv x.1) W := run_ldH (rangeAt_whole (T := hshR.T) hAt)
    have bP := run_buildItH x.1 x.2 W
    have bS := run_bsItH x W
    have g5 : ¬ ((pl + 1 : Nat) : Int) > 100 := by omega
    have HI := Lib.hid hI
    have HPH := Lib.hid hΦ
    have HPL := Lib.hid hpl2
    have HM := Lib.hid hm
    clear hI hΦ hm hpl hpl2 hAt
    gi_wp2_with (first
      | (refine wplIn_appR (r := itm_H) (y := x) rfl rfl rfl rfl ((OwnR.of HI.out.own (Nat.le_refl _) (fun k hk => Below.heap_alloc _ _ _ (HI.out.own.block hk).2))) (rangeAt_whole (T := 62) (by exact World.alloc_heap_new _ _)) (by have := HPL.out; omega) (by have h := hsW; rw [World.size_alloc]; omega) ?_; intro v' w3 hO hg3 hat3 hne; have cB : w3.cell? ⟨ob, 0, none⟩ = some (.slice ao1 pl cap1) := (World.cell?_of_block (a := ⟨ob, 0, none⟩) ((hg3.block ob (by rw [World.size_alloc]; omega) (fun e => by have := (HI.out.own.block e.symm).1; omega)).trans (Below.heap_alloc _ _ _ hlW))).trans c0; have fB : w3.frozen? ⟨ob, 0, none⟩ = false := ((HI.out.bx.alloc _).kept hg3 (fun e => by have := (HI.out.own.block e.symm).1; omega)).frozen; obtain ⟨ao2, cap2, rfl⟩ : ∃ ao cap, v' = .slice ao (pl + 1) cap := by { obtain ⟨a, c, e⟩ := hO.lenOf; refine ⟨a, c, ?_⟩; rw [e]; congr 1; have q := HM.out; simp; omega }; have HO := Lib.hid hO; have HG3 := Lib.hid hg3; have HAT := Lib.hid hat3; clear hO hg3 hat3 hne)
      | fail)
    exact ColC.step HI.out l2 rfl ((Below.refl _ W).alloc (Nat.le_refl _) _) HO.out HG3.out HAT.out
  case done =>
    rintro D Φ W3 ⟨v3, hC⟩ hon hD hnD hK
    obtain ⟨x0, x1⟩ := HR.out
    have hkeep : ∀ k, k < ob → W3.heap[k]? = w1.heap[k]? := fun k hk => hon.block k (by omega) (by omega) (fun h => h)
    have y0 : Boxed W3 s 35 (.slice none 0 0) := (hkeep s (by omega)).trans x0
    have y1 : Boxed W3 rb 4 (.bool false) := (hkeep rb (by omega)).trans x1
    obtain ⟨ao1, cp1, rfl⟩ := hC.own.lenOf
    obtain ⟨m1, hm1⟩ : ∃ m, m = xs.length := ⟨_, rfl⟩
    rw [← hm1] at hC
    have c0 := hC.bx.cell
    have c2 := y0.cell
    have c4 := y1.cell
    have f2 := y0.frozen
    have f4 := y1.frozen
    have hiff := hC.iff
    have hpost : ∀ W5, W5 = (W3.setCell ⟨s, 0, none⟩ (.slice ao1 m1 cp1)).setCell ⟨rb, 0, none⟩ (.bool true) →
        W5.heap[D]? = some (.deferred (some [])) ∧ OwnR itm_H w.heap.size (.slice ao1 m1 cp1) xs (W5.putObj D (.deferred none)) ∧ Below w.heap.size w (W5.putObj D (.deferred none)) ∧
        (W5.putObj D (.deferred none)).cell? ⟨s, 0, none⟩ = some (.slice ao1 m1 cp1) ∧ (W5.putObj D (.deferred none)).cell? ⟨rb, 0, none⟩ = some (.bool true) := by
      intro W5 hW5
      obtain ⟨hs, hsz, hob⟩ := HS.out
      have hDl : D < W3.heap.size := (Array.getElem?_eq_some_iff.1 hK).1
      have hb : ∀ k, ob ≤ k → W5.heap[k]? = W3.heap[k]? := fun k hk => by
        rw [hW5, Below.heap_setCell _ _ _ k (by show k ≠ rb; omega), Below.heap_setCell _ _ _ k (by show k ≠ s; omega)]
      have b0 : Boxed W5 s 35 (.slice ao1 m1 cp1) := by
        rw [hW5]
        exact (Below.heap_setCell _ _ _ s (by show s ≠ rb; omega)).trans (y0.set _)
      have b2 : Boxed W5 rb 4 (.bool true) := by
        rw [hW5]
        have : Boxed (W3.setCell ⟨s, 0, none⟩ (.slice ao1 m1 cp1)) rb 4 (.bool false) := (Below.heap_setCell _ _ _ rb (by show rb ≠ s; omega)).trans y1
        exact this.set _
      have hput : ∀ k, k ≠ D → (W5.putObj D (.deferred none)).heap[k]? = W5.heap[k]? := fun k hk => put_other hk
      have hO2 := hon
      have hw2 := HB1.out.1
      refine ⟨(hb D (by omega)).trans hK, hC.own.of (by omega) (fun k hk => ?_), ⟨?_, ?_, ?_, ?_, fun k hk => ?_⟩, ((Boxed.cell (show Boxed (W5.putObj D (.deferred none)) s _ _ from (hput s (by omega)).trans b0))), ((Boxed.cell (show Boxed (W5.putObj D (.deferred none)) rb _ _ from (hput rb (by omega)).trans b2)))⟩
      · rw [hput k (fun e => hnD ((hiff D).2 (by rw [← e]; exact hk)))]; exact hb k (by have := (hC.own.block hk).1; omega)
      · rw [hW5]; exact hO2.grow.os.trans hw2.os
      · rw [hW5]; exact hO2.grow.tape.trans hw2.tape
      · rw [hW5]; exact hO2.grow.output.trans hw2.output
      · have h1 := hO2.grow.size; have h2 := hw2.size; rw [hW5]; simp [World.putObj, World.setCell]; omega
      · rw [hput k (by omega), hW5, Below.heap_setCell _ _ _ k (by show k ≠ rb; omega), Below.heap_setCell _ _ _ k (by show k ≠ s; omega), hO2.block k (by omega) (by omega) (fun h => h)]
        exact hw2.block k (by omega)
    have HP := Lib.hid hpost
    clear hpost hC hon hK hkeep y0 y1 x0 x1 hm1
    gi_wp2
    obtain ⟨W5, hW5⟩ : ∃ W5, W5 = (W3.setCell ⟨s, 0, none⟩ (.slice ao1 m1 cp1)).setCell ⟨rb, 0, none⟩ (.bool true) := ⟨_, rfl⟩
    rw [← hW5]
    obtain ⟨p1, p2, p4, p5, p7⟩ := HP.out W5 hW5
    refine ⟨by simp, .inl ⟨_, _, rfl, run_takeDeferred p1, ?_⟩⟩
    obtain ⟨W6, hW6⟩ : ∃ W6, W6 = W5.putObj D (.deferred none) := ⟨_, rfl⟩
    rw [← hW6] at p2 p4 p5 p7 ⊢
    clear hW6 hW5
    exact ⟨.tuple #[.slice ao1 m1 cp1, .bool true], by simp [results, Tryz.results29, go_sem, p5, p7], _, rfl, p2, p4⟩
  case stop =>
    rintro D Φ c pre W3 hpre h
    exact h.elim
end Go.Proofs.YtcfcfijmfgnpfaaGreatDoor
end

section
namespace Go.Proofs.YtcfcfijmfgnpfaaGreatDoor
open Go.ChangeShapes Go.WideShapes Go.ChangeAt Go.RowKit Go.Deep
set_option linter.unusedVariables false

/-- A slice of integers reads as these. -/
def RdI (w : World) (v : Value) (l : List Int) : Prop :=
  (v = .slice none 0 0 ∧ l = []) ∨ ∃ a cap, v = .slice (some a) l.length cap ∧ l.length ≤ cap ∧ ∀ i, i < l.length → w.cell? (a.add i) = some (.int .i64 (l.getD i 0))
theorem cell_blockI {w : World} {a : Addr} {v : Value} (h : w.cell? a = some v) : a.block < w.heap.size := by
  by_cases hh : a.block < w.heap.size
  · exact hh
  · simp [World.cell?, Array.getElem?_eq_none (Nat.le_of_not_lt hh)] at h
theorem RdI.below {w w' : World} {v : Value} {l : List Int} (h : RdI w v l) (hb : Below w.heap.size w w') : RdI w' v l := by
  rcases h with h | ⟨a, cap, hv, hc, hcell⟩
  · exact .inl h
  · refine .inr ⟨a, cap, hv, hc, fun i hi => ?_⟩
    have hl := cell_blockI (hcell i hi)
    rw [hb.cell hl]; exact hcell i hi
theorem RdI.lenOf {w : World} {v : Value} {l : List Int} (h : RdI w v l) : ∃ ao cap, v = .slice ao l.length cap := by
  rcases h with ⟨rfl, rfl⟩ | ⟨a, cap, rfl, -⟩
  · exact ⟨_, _, rfl⟩
  · exact ⟨_, _, rfl⟩
theorem RdI.at {w : World} {ao : Option Addr} {n cap : Nat} {l : List Int} (h : RdI w (.slice ao n cap) l) {i : Nat} (hi : i < l.length) : ∃ a, ao = some a ∧ w.cell? (a.add i) = some (.int .i64 (l.getD i 0)) := by
  rcases h with ⟨hv, rfl⟩ | ⟨a, cap', hv, hc, hcell⟩
  · simp at hi
  · injection hv with h1 h2 h3
    exact ⟨a, h1, hcell i hi⟩

section
variable {H : Type} {enc : TypeId × Value → H} {P : Program} {w : World} {base : Nat} {held : Bool}
theorem open_RdI0 {t e : TypeId} {k : IntKind} {v : Value} {d : DataW H} {p : List MemPlace} (ht : P.underlying t = some (.slice e)) (he : P.underlying e = some (.int k)) (hc : P.cellsOf e = 1)
    (h : ∃ fuel, DataW.trod enc P w base (fun _ => true) held fuel t [v] = some (d, p)) : (v = .slice none 0 0) ∨
      ∃ (a : Addr) (len cap : Nat) (zs : List Int), v = .slice (some a) len cap ∧ len ≤ cap ∧ cap ≤ maxLen ∧ zs.length = cap ∧ (∀ i, i < cap → w.cell? (a.add i) = some (.int k (zs.getD i 0))) ∧ (∀ n ∈ zs, (Lit.int k n).wf = true) := by
  obtain ⟨fuel, hf⟩ := h
  rcases open_ints ht he hc hf with ⟨hcs, -⟩ | ⟨a, len, cap, zs, hcs, hb, hl, hm, hz, -, hcell, hwz⟩
  · exact .inl (by simpa using hcs)
  · simp only [if_true] at hz
    exact .inr ⟨a, len, cap, zs, by simpa using hcs, hl, hm, hz, fun i hi => hcell i (by omega), hwz⟩
theorem cells_sliceI {v : Value} {r : Reach} {b0 : Nat} {t e : TypeId} (ht : P.underlying t = some (.slice e)) (hv : Value.okWide P w r b0 t v) : v.cells.toList = [v] := by
  unfold Value.okWide at hv
  rw [ht] at hv
  simp only [Cell.okWide, Cell.ok, ht] at hv
  cases v <;> simp [Value.cells] at hv ⊢
theorem open_RdI {t e : TypeId} {v : Value} {d : DataW H} {p : List MemPlace} {r : Reach} {b0 : Nat} (ht : P.underlying t = some (.slice e)) (he : P.underlying e = some (.int .i64)) (hc : P.cellsOf e = 1)
    (hv : Value.okWide P w r b0 t v) (h : DataW.Trod enc P w base (fun _ => true) held t v d p) : ∃ l : List Int, RdI w v l ∧ (∀ n ∈ l, (Lit.int .i64 n).wf = true) ∧ l.length ≤ maxLen := by
  obtain ⟨fuel, hf⟩ := h
  rw [cells_sliceI ht hv] at hf
  rcases open_RdI0 ht he hc ⟨fuel, hf⟩ with rfl | ⟨a, len, cap, zs, rfl, hl, hm, hz, hcell, hw⟩
  · exact ⟨[], .inl ⟨rfl, rfl⟩, by simp, by simp⟩
  · have hlen : (zs.take len).length = len := by simp; omega
    refine ⟨zs.take len, .inr ⟨a, cap, by rw [hlen], by rw [hlen]; exact hl, fun i hi => ?_⟩, fun n hn => hw n (List.mem_of_mem_take hn), by rw [hlen]; omega⟩
    rw [hlen] at hi
    rw [hcell i (by omega)]
    have hiz : i < zs.length := by omega
    simp [hiz, hi]
end
end Go.Proofs.YtcfcfijmfgnpfaaGreatDoor
end

section
namespace Go.Proofs.YtcfcfijmfgnpfaaGreatDoor
open Go.RowKit Go.Maps Go.Shelf
set_option linter.unusedVariables false
set_option linter.unusedSimpArgs false

/-- The accounts of some balances. -/
def accL (l : List Int) : Acc := fun k => (l.getD k 0, 0)
def newOk (l : List Int) : Prop := l.length ≤ 10 ∧ (∀ k, k < l.length → isBal (l.getD k 0)) ∧ sumTo (accL l) 10 ≤ 1073741824
theorem accL_nil : accL [] = acc0 := by funext k; simp [accL, acc0]
theorem take_getD {l : List Int} {k j : Nat} : (l.take k).getD j 0 = if j < k then l.getD j 0 else 0 := by
  by_cases h : j < k
  · rw [if_pos h, List.getD_eq_getElem?_getD, List.getD_eq_getElem?_getD, List.getElem?_take_of_lt h]
  · rw [if_neg h, List.getD_eq_getElem?_getD, List.getElem?_eq_none (by simp; omega)]; rfl
theorem accL_step (l : List Int) (k : Nat) : upd (accL (l.take k)) k (l.getD k 0, (accL (l.take k) k).2) = accL (l.take (k + 1)) := by
  funext j
  by_cases e : j = k
  · subst e
    rw [upd_same]
    show (l.getD j 0, (0 : Int)) = ((l.take (j + 1)).getD j 0, 0)
    rw [take_getD, if_pos (by omega)]
  · rw [upd_other _ _ e]
    show ((l.take k).getD j 0, (0 : Int)) = ((l.take (k + 1)).getD j 0, 0)
    rw [take_getD, take_getD]
    by_cases h : j < k
    · rw [if_pos h, if_pos (by omega)]
    · rw [if_neg h, if_neg (by omega)]
theorem sum_accL_step (l : List Int) {k : Nat} (hk : k < 10) : sumTo (accL (l.take (k + 1))) 10 = sumTo (accL (l.take k)) 10 + l.getD k 0 := by
  rw [← accL_step, sumTo_upd, if_pos hk]
  have : both (accL (l.take k)) k = 0 := by unfold both accL; rw [take_getD, if_neg (by omega)]; rfl
  rw [this]
  show sumTo (accL (l.take k)) 10 + (l.getD k 0 + 0 - 0) = _
  omega
theorem accL_ok {l : List Int} (h : ∀ k, k < l.length → isBal (l.getD k 0)) (hs : sumTo (accL l) 10 ≤ 1073741824) : AccOk (accL l) := by
  refine ⟨fun k => ?_, fun k => by simp [accL], hs⟩
  unfold accL
  by_cases c : k < l.length
  · exact (h k c).1
  · rw [List.getD_eq_getElem?_getD, List.getElem?_eq_none (by omega)]; simp
theorem sum_accL_mono {l : List Int} (h : ∀ k, k < l.length → isBal (l.getD k 0)) (k : Nat) : sumTo (accL (l.take k)) 10 ≤ sumTo (accL l) 10 := by
  have key : ∀ n, sumTo (accL (l.take k)) n ≤ sumTo (accL l) n := by
    intro n
    induction n with
    | zero => exact Int.le_refl _
    | succ n ih =>
      rw [sumTo, sumTo]
      have : both (accL (l.take k)) n ≤ both (accL l) n := by
        unfold both accL
        rw [take_getD]
        by_cases c : n < l.length
        · have := (h n c).1; split <;> simp only <;> omega
        · have e : l.getD n 0 = 0 := by rw [List.getD_eq_getElem?_getD, List.getElem?_eq_none (by omega)]; rfl
          rw [e]; split <;> simp
      omega
  exact key 10
theorem newOk_nil : newOk [] := ⟨by simp, fun k hk => absurd hk (Nat.not_lt_zero k), by rw [accL_nil]; decide⟩
theorem LdAt.start {N g gl : Nat} {w1 w2 : World} (ho : GrOwn codI 117 N gl [] w1) (hN : N ≤ w1.heap.size) (hg : g = w1.heap.size) (hw : w2 = w1.alloc (.cells (lcells acc0 gl).toArray 83)) : LdAt N g gl acc0 [] w2 ∧ Below N w1 w2 := by
  obtain ⟨F, h1, h2⟩ := ho
  have hB : Below w1.heap.size w1 w2 := by rw [hw]; exact (Below.refl _ w1).alloc (Nat.le_refl _) _
  refine ⟨⟨by rw [hw, hg]; exact World.alloc_heap_new _ _, ⟨F, h1.keep (Grow.of_below hB) (fun k hk => hB.block k (h1.2.2.1 k hk)), fun k hk => ⟨h2 k hk, fun e => by have := h1.2.2.1 k hk; omega⟩⟩, by omega, AccOk.zero, by simp⟩, hB.mono hN⟩
set_option maxRecDepth 100000 in
set_option maxHeartbeats 4000000 in
theorem ledger_New (v : Value) (l : List Int) (w : World) (hr : RdI w v l) (hm : l.length ≤ maxLen) : Calls Tryz.prog 11 #[v] w fun e w' => Below w.heap.size w w' ∧ ((newOk l ∧ ∃ g, e = .returned (.tuple #[.pointer (some ⟨g, 0, none⟩), .int .i64 0]) ∧ ∃ gl, LdAt w.heap.size g gl (accL l) [] w') ∨ (¬ newOk l ∧ e = .returned (.tuple #[.pointer none, .int .i64 1]))) := by
  obtain ⟨ao, cap, rfl⟩ := hr.lenOf
  obtain ⟨L, hL⟩ : ∃ L, L = l.length := ⟨_, rfl⟩
  rw [← hL] at hr hm ⊢
  have HR := Lib.hid (And.intro hr hL)
  clear hr hm hL
  go_enter Tryz.func11, Tryz.ntmps11
  by_cases c0 : (10 : Int) < (L : Int)
  · go_wp2_with fail
    exact bodyPost_ret (v := .tuple #[.pointer none, .int .i64 1]) (by simp [results, Tryz.results11, go_sem]) rfl ⟨Below.refl _ _, .inr ⟨fun h => by have := h.1; have := HR.out.2; omega, rfl⟩⟩
  have hL10 : L ≤ 10 := by omega
  go_wp2_with (first
    | (go_at_call 38; refine (grid_New_own_I w).mono ?_; rintro e w1 ⟨gl, rfl, ho1, hb1⟩; have H1 := Lib.hid (And.intro ho1 hb1); clear ho1 hb1)
    | fail)
  obtain ⟨w2, hw2⟩ : ∃ w2, w2 = w1.alloc (.cells #[.int .i64 0, .int .i64 0, .int .i64 0, .int .i64 0, .int .i64 0, .int .i64 0, .int .i64 0, .int .i64 0, .int .i64 0, .int .i64 0, .int .i64 0, .int .i64 0, .int .i64 0, .int .i64 0, .int .i64 0, .int .i64 0, .int .i64 0, .int .i64 0, .int .i64 0, .int .i64 0, .pointer (some ⟨gl, 0, none⟩)] 83) := ⟨_, rfl⟩
  obtain ⟨g, hg⟩ : ∃ g, g = w1.heap.size := ⟨_, rfl⟩
  obtain ⟨hl0, hb0⟩ := LdAt.start H1.out.1 H1.out.2.size hg (hw2.trans rfl)
  rw [← hw2, ← hg]
  have H2 := Lib.hid (And.intro hl0 (H1.out.2.trans hb0))
  clear hw2 hg hl0 hb0 H1
  go_loopw [15] (fun i wr => ∃ k : Nat, k ≤ L ∧ i = .int .i64 k ∧ (∀ j, j < k → isBal (l.getD j 0)) ∧ LdAt w.heap.size g gl (accL (l.take k)) [] wr ∧ Below w.heap.size w wr) (fun i _ => L - (Go.RowKit.intOf i).toNat)
  case atStart => exact ⟨0, by omega, rfl, fun j hj => by omega, by rw [List.take_zero, accL_nil]; exact H2.out.1, H2.out.2⟩
  case round =>
    obtain ⟨k, hk, rfl, hbs, hld, hbl⟩ := hrel
    have HS := Lib.hid (And.intro hbs (And.intro hld hbl))
    by_cases hlt : k < L
    · have hlt' : (k : Int) < L := by omega
      have hk10 : (k : Int) < 10 := by omega
      obtain ⟨a, rfl, ca⟩ := (HR.out.1.below hbl).at (show k < l.length by rw [← HR.out.2]; exact hlt)
      obtain ⟨n, hn⟩ : ∃ n, n = l.getD k 0 := ⟨_, rfl⟩
      rw [← hn] at ca
      obtain ⟨s, hs⟩ : ∃ s, s = sumTo (accL (l.take k)) 10 := ⟨_, rfl⟩
      have hs0 : 0 ≤ s ∧ s ≤ 1073741824 := by rw [hs]; exact hld.ok.part (Nat.le_refl _)
      have hiss := ledger_Issued hld
      rw [← hs] at hiss
      have HI := Lib.hid hiss
      have hs1 : sumTo (accL (l.take (k + 1))) 10 = s + n := by rw [hs, hn]; exact sum_accL_step l (by omega)
      have HN := Lib.hid (And.intro hn hs1)
      clear hiss hs hn hs1 hbs hld hbl
      by_cases hbal : isBal n
      · have hbal' := hbal
        unfold isBal at hbal'
        have hd : decide (0 ≤ n ∧ n ≤ 1073741824) = true := decide_eq_true hbal'
        obtain ⟨sn, hsn⟩ : ∃ sn, sn = s + n := ⟨_, rfl⟩
        have hn2 : IntKind.i64.wrap (s + n) = sn := by rw [hsn]; exact IntWalk.i64_in _ (by omega)
        by_cases hov : 1073741824 < sn
        · have hd2 : decide (0 ≤ sn ∧ sn ≤ 1073741824) = false := decide_eq_false (by omega)
          have hbad : ¬ newOk l := fun h => by have h1 := sum_accL_mono h.2.1 (k + 1); have h2 := HN.out.2; have h3 := h.2.2; omega
          have HD := Lib.hid (And.intro hd (And.intro hd2 hbad))
          clear hbal hbal' hd hsn hd2 hov hbad hs0
          have tok : True := trivial
          go_wp2_with (first
            | (go_at_call 39; have _t := tok; refine (bound_Balance n _).mono ?_; rw [HD.out.1]; rintro e w' ⟨rfl, hw⟩; rw [hw]; clear hw w' tok)
            | (go_at_call 40; refine HI.out.mono ?_; rintro e w3 ⟨rfl, hb⟩; have H3 := Lib.hid hb; clear hb)
            | (go_at_call 39; refine (bound_Balance sn _).mono ?_; rw [HD.out.2.1]; rintro e w' ⟨rfl, hw⟩; rw [hw]; clear hw w')
            | fail)
          exact bodyPost_ret (v := .tuple #[.pointer none, .int .i64 1]) (by simp [results, Tryz.results11, go_sem]) rfl ⟨HS.out.2.2.trans (H3.out.mono HS.out.2.2.size), .inr ⟨HD.out.2.2, rfl⟩⟩
        · have hd2 : decide (0 ≤ sn ∧ sn ≤ 1073741824) = true := decide_eq_true (by omega)
          have hok2 : AccOk (upd (accL (l.take k)) k (n, (accL (l.take k) k).2)) := by
            have hld := HS.out.2.1
            have h1 := HN.out.2
            rw [HN.out.1, ← accL_step] at h1
            rw [HN.out.1] at hsn hbal'
            rw [HN.out.1]
            refine ⟨fun j => ?_, fun j => ?_, by omega⟩
            · by_cases e : j = k
              · subst e; rw [upd_same]; exact hbal'.1
              · rw [upd_other _ _ e]; exact hld.ok.free j
            · by_cases e : j = k
              · subst e; rw [upd_same]; exact hld.ok.held j
              · rw [upd_other _ _ e]; exact hld.ok.held j
          have hpay : ∀ w1, LdAt w.heap.size g gl (accL (l.take k)) [] w1 → LdAt w.heap.size g gl (accL (l.take (k + 1))) [] (w1.setCell ⟨g, k * 2, none⟩ (.int .i64 n)) ∧ Below w.heap.size w1 (w1.setCell ⟨g, k * 2, none⟩ (.int .i64 n)) := fun w1 h1 => by
            have := h1.setFree (a := k) (by omega) n hok2
            refine ⟨?_, this.2⟩
            rw [← accL_step, ← HN.out.1]; exact this.1
          have HD := Lib.hid (And.intro hd (And.intro hd2 hbal))
          have HP := Lib.hid hpay
          clear hbal hbal' hd hsn hd2 hov hs0 hok2 hpay
          have tok : True := trivial
          go_wp2_with (first
            | (go_at_call 39; have _t := tok; refine (bound_Balance n _).mono ?_; rw [HD.out.1]; rintro e w' ⟨rfl, hw⟩; rw [hw]; clear hw w' tok)
            | (go_at_call 40; refine HI.out.mono ?_; rintro e w3 ⟨rfl, hb⟩; have h3 := HS.out.2.1.below hb; have hf3 := h3.frozen (k * 2); have hc3 := h3.free (k := k) (by omega); have H3 := Lib.hid (And.intro h3 (hb.mono HS.out.2.2.size)); clear hb h3)
            | (go_at_call 39; refine (bound_Balance sn _).mono ?_; rw [HD.out.2.1]; rintro e w' ⟨rfl, hw⟩; rw [hw]; clear hw w')
            | fail)
          go_roundw
          case rel =>
            refine ⟨k + 1, by omega, by go_num, fun j hj => ?_, (HP.out _ H3.out.1).1, HS.out.2.2.trans (H3.out.2.trans (HP.out _ H3.out.1).2)⟩
            by_cases e : j = k
            · subst e; rw [← HN.out.1]; exact HD.out.2.2
            · exact HS.out.1 j (by omega)
          case measure => simp [Go.RowKit.intOf]; omega
      · have hd : decide (0 ≤ n ∧ n ≤ 1073741824) = false := by unfold isBal at hbal; exact decide_eq_false hbal
        have hbad : ¬ newOk l := fun h => hbal (by rw [HN.out.1]; exact h.2.1 k (by rw [← HR.out.2]; exact hlt))
        have HD := Lib.hid (And.intro hd hbad)
        clear hbal hd hbad hs0
        go_wp2_with (first
          | (go_at_call 39; refine (bound_Balance n _).mono ?_; rw [HD.out.1]; rintro e w' ⟨rfl, hw⟩; rw [hw]; clear hw w')
          | fail)
        exact bodyPost_ret (v := .tuple #[.pointer none, .int .i64 1]) (by simp [results, Tryz.results11, go_sem]) rfl ⟨HS.out.2.2, .inr ⟨HD.out.2, rfl⟩⟩
    · have hge : ¬ (k : Int) < L := by omega
      have hkl : l.take k = l := List.take_of_length_le (by have := HR.out.2; omega)
      have hfin : newOk l ∧ LdAt w.heap.size g gl (accL l) [] wr := by
        rw [hkl] at hld
        exact ⟨⟨by have := HR.out.2; omega, fun j hj => hbs j (by have := HR.out.2; omega), hld.ok.all⟩, hld⟩
      have HF := Lib.hid hfin
      clear hfin hkl hbs hld hbl
      go_wp2_with fail
      exact bodyPost_ret (v := .tuple #[.pointer (some ⟨g, 0, none⟩), .int .i64 0]) (by simp [results, Tryz.results11, go_sem]) rfl ⟨HS.out.2.2, .inl ⟨HF.out.1, g, rfl, gl, HF.out.2⟩⟩
end Go.Proofs.YtcfcfijmfgnpfaaGreatDoor
end

section
namespace Go.Proofs.YtcfcfijmfgnpfaaGreatDoor
open Go.RowKit Go.Maps Go.Shelf
set_option linter.unusedVariables false
set_option linter.unusedSimpArgs false

theorem ledger_New_ok {v : Value} {l : List Int} {w : World} (hr : RdI w v l) (hm : l.length ≤ maxLen) (hok : newOk l) : Calls Tryz.prog 11 #[v] w fun e w' => ∃ g gl, e = .returned (.tuple #[.pointer (some ⟨g, 0, none⟩), .int .i64 0]) ∧ LdAt w.heap.size g gl (accL l) [] w' ∧ Below w.heap.size w w' := by
  refine (ledger_New v l w hr hm).mono ?_
  rintro e w' ⟨hb, ⟨-, g, rfl, gl, hl⟩ | ⟨hno, -⟩⟩
  · exact ⟨g, gl, rfl, hl, hb⟩
  · exact absurd hok hno
theorem ledger_New_bad {v : Value} {l : List Int} {w : World} (hr : RdI w v l) (hm : l.length ≤ maxLen) (hok : ¬ newOk l) : Calls Tryz.prog 11 #[v] w fun e w' => e = .returned (.tuple #[.pointer none, .int .i64 1]) ∧ Below w.heap.size w w' := by
  refine (ledger_New v l w hr hm).mono ?_
  rintro e w' ⟨hb, ⟨hyes, -⟩ | ⟨-, rfl⟩⟩
  · exact absurd hyes hok
  · exact ⟨rfl, hb⟩
/-- A slice literal's numbers. -/
theorem RdI.lit (w : World) (T : TypeId) (l : List Int) (n : Nat) (hn : l.length = n) : RdI (w.alloc (.cells (l.map (fun n => Value.int .i64 n)).toArray T)) (.slice (some ⟨w.heap.size, 0, none⟩) n n) l := by
  subst hn
  refine .inr ⟨⟨w.heap.size, 0, none⟩, _, rfl, Nat.le_refl _, fun i hi => ?_⟩
  have h := World.alloc_heap_new w (.cells (l.map (fun n => Value.int .i64 n)).toArray T)
  have e : (⟨w.heap.size, 0, none⟩ : Addr).add i = ⟨w.heap.size, i, none⟩ := by rw [Addr.add_mid]; simp
  rw [e]
  refine cell_of h ?_
  simp [hi, List.getD_eq_getElem?_getD]
def M1 : Cls Int := lockM [] 0 1 3
theorem newOk_one {n : Int} (h : isBal n) : newOk [n] := by
  refine ⟨by simp, fun k hk => ?_, ?_⟩
  · have e : k = 0 := by simpa using hk
    subst e; exact h
  · have : sumTo (accL [n]) 10 = n := by simp [sumTo, both, accL]
    rw [this]; exact h.2
theorem known1 : newOk [5] := newOk_one (by decide)
theorem known2 : transE (accL [5]) M1 0 1 3 = 7 := by decide +kernel
theorem known2a : transA (accL [5]) M1 0 1 3 = accL [5] := by unfold transA; rw [known2]; rfl
theorem known3 : transE (accL [5]) M1 0 1 2 = 0 := by decide +kernel
def A52 : Acc := transA (accL [5]) M1 0 1 2
theorem known4 : (accOf A52 0).1 = 3 := by decide +kernel
theorem known5 : sumTo A52 10 = 5 := by decide +kernel
end Go.Proofs.YtcfcfijmfgnpfaaGreatDoor
end
