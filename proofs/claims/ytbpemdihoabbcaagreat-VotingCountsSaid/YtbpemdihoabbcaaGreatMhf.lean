/-
  Joined texts.
-/
import Derived.Deep.QuietTactic
import Derived.Deep.MidRow
import Derived.BigRegion
import Derived.RegionTactic
import Derived.Shelf.Abstract
import Derived.Shelf.RegionOpen
import Derived.LoopNIn
import Derived.LoopIn
import Derived.Deep.RegionHeld3
import Derived.Test.YtbpemdihoabbcaaGreatMhe
namespace Go.Proofs.YtbpemdihoabbcaaGreat
set_option linter.unusedVariables false
set_option linter.unusedSimpArgs false
section
open Go.RowKit Go.Maps
structure Off4 (vb N : Nat) (FV FD FW FQ : FP) : Prop where
 vd : ∀ k, FV k → ¬ FD k
 vw : ∀ k, FV k → ¬ FW k
 vq : ∀ k, FV k → ¬ FQ k
 dw : ∀ k, FD k → ¬ FW k
 dq : ∀ k, FD k → ¬ FQ k
 wq : ∀ k, FW k → ¬ FQ k
 b : ¬ FV vb ∧ ¬ FD vb ∧ ¬ FW vb ∧ ¬ FQ vb
 n : ∀ k, FV k ∨ FD k ∨ FW k ∨ FQ k → N ≤ k
 nb : N ≤ vb
structure VoAt (vb gv gd gw gp N : Nat) (P : Nat → Pl) (V : Cls Bal) (D : Cls Dlg) (G : Cls Wgt) (Q : Cls Wgt) (FV FD FW FQ : FP) (w : World) : Prop where
 blk : VoB vb P gv gd gw gp w
 v : GrAt balS.cod 169 gv V FV w
 d : GrAt dlgS.cod 161 gd D FD w
 g : GrAt wgtS.cod 189 gw G FW w
 q : GrAt priS.cod 165 gp Q FQ w
 off : Off4 vb N FV FD FW FQ
section
variable {vb gv gd gw gp N : Nat} {P : Nat → Pl} {V : Cls Bal} {D : Cls Dlg} {G Q : Cls Wgt} {FV FD FW FQ : FP} {w w' : World}
theorem VoAt.keep (h : VoAt vb gv gd gw gp N P V D G Q FV FD FW FQ w) (hg : Grow w w') (hk : ∀ k, k = vb ∨ FV k ∨ FD k ∨ FW k ∨ FQ k → w'.heap[k]? = w.heap[k]?) : VoAt vb gv gd gw gp N P V D G Q FV FD FW FQ w' :=
 ⟨h.blk.keep (hk vb (.inl rfl)), h.v.keep hg (fun k hf => hk k (.inr (.inl hf))), h.d.keep hg (fun k hf => hk k (.inr (.inr (.inl hf)))), h.g.keep hg (fun k hf => hk k (.inr (.inr (.inr (.inl hf))))), h.q.keep hg (fun k hf => hk k (.inr (.inr (.inr (.inr hf))))), h.off⟩
theorem VoAt.lt (h : VoAt vb gv gd gw gp N P V D G Q FV FD FW FQ w) {k : Nat} (hk : k = vb ∨ FV k ∨ FD k ∨ FW k ∨ FQ k) : k < w.heap.size := by
 rcases hk with rfl | hk | hk | hk | hk
 · exact h.blk.lt
 · exact h.v.2.2.1 k hk
 · exact h.d.2.2.1 k hk
 · exact h.g.2.2.1 k hk
 · exact h.q.2.2.1 k hk
theorem VoAt.below (h : VoAt vb gv gd gw gp N P V D G Q FV FD FW FQ w) (hb : Below w.heap.size w w') : VoAt vb gv gd gw gp N P V D G Q FV FD FW FQ w' := h.keep (Grow.of_below hb) (fun k hk => hb.block k (h.lt hk))
set_option maxRecDepth 100000 in
set_option maxHeartbeats 2000000 in
theorem voting_Got (h : VoAt vb gv gd gw gp N P V D G Q FV FD FW FQ w) {a b : Int} (ha : (Lit.int .i64 a).wf = true) (hb : (Lit.int .i64 b).wf = true) : Calls Tryz.prog 62 #[.pointer (some ⟨vb, 0, none⟩), .int .i64 a, .int .i64 b] w fun e w' => e = .returned (wgtS.v ((cget G a b).getD wgtS.zero)) ∧ Below w.heap.size w w' := by
 obtain ⟨W0, hW0⟩ : ∃ W0, W0 = w.alloc (wgtS.obj wgtS.zero) := ⟨_, rfl⟩
 obtain ⟨rb, hrb⟩ : ∃ rb, rb = w.heap.size := ⟨_, rfl⟩
 have hB0 : Below w.heap.size w W0 := by rw [hW0]; exact (Below.refl _ w).alloc (Nat.le_refl _) _
 have h0 := h.below hB0
 have hz : W0.heap[rb]? = some (wgtS.obj wgtS.zero) := by rw [hW0, hrb]; exact World.alloc_heap_new w _
 obtain ⟨-, -, t2, -⟩ := h0.blk.tables
 have hget := grid_Get_W h0.g ha hb
 obtain ⟨t, ht⟩ : ∃ t, t = (cget G a b).getD wgtS.zero := ⟨_, rfl⟩
 rw [← ht] at hget ⊢
 have hend : ∀ w1, Below W0.heap.size W0 w1 → (w1.alloc (wgtS.obj t)).heap[rb]? = some (wgtS.obj wgtS.zero) ∧ ((w1.alloc (wgtS.obj t)).setRow rb (wgtS.f t).toArray).rangeAt rb 0 (wgtS.f t) ∧ Below w.heap.size w ((w1.alloc (wgtS.obj t)).setRow rb (wgtS.f t).toArray) := fun w1 hb1 => by
  have hlt : rb < W0.heap.size := (Array.getElem?_eq_some_iff.1 hz).1
  have hs := hb1.size
  have e1 : (w1.alloc (wgtS.obj t)).heap[rb]? = some (wgtS.obj wgtS.zero) := (Below.heap_alloc _ _ _ (by omega)).trans ((hb1.block rb hlt).trans hz)
  have hbb := hB0.trans (hb1.mono hB0.size)
  have hb2 := hbb.alloc hbb.size (wgtS.obj t)
  exact ⟨e1, rangeAt_whole (T := wgtS.T) (setRow_heap _ _ _ _ _ _ e1), hb2.os, hb2.tape, hb2.output, by simpa using hb2.size, fun k hk => (setRow_other _ _ _ _ (by rw [hrb]; omega)).trans (hb2.block k hk)⟩
 have HE := Lib.hid hend
 have HG := Lib.hid hget
 have HW0 := Lib.hid (And.intro hW0 hrb)
 clear h hW0 hrb hB0 h0 hz hget ht hend ha hb
 go_enter Tryz.func62, Tryz.ntmps62
 go_upto_region 1 with (first
  | (refine wpl_allocS (s := wgtS) rfl rfl rfl ?_)
  | fail)
 rw [← HW0.out.1, ← HW0.out.2]
 have tok : True := trivial
 go_wp2_with (first
  | (go_at_call 105; refine HG.out.mono ?_; rintro e w1 ⟨rfl, hb⟩; have H1 := Lib.hid (HE.out w1 hb); clear hb)
  | (refine wpl_allocS (s := wgtS) rfl rfl rfl ?_)
  | (have _t := tok; refine wpl_storeS (s := wgtS) (t := t) (b := w1.heap.size) _ _ rfl rfl rfl rfl rfl (World.alloc_heap_new w1 _) (zeroS wgtS) ?_; rw [newS]; clear tok)
  | (refine wpl_loadS (s := wgtS) (t := t) (b := w1.heap.size) (k := 0) _ rfl rfl rfl rfl (atS wgtS w1 t) ?_)
  | (refine wpl_storeS (s := wgtS) (t := t) (b := rb) _ _ rfl rfl rfl rfl rfl H1.out.1 (zeroS wgtS) ?_)
  | fail)
 exact bodyPost_ret (v := wgtS.v t) (results_S1 (s := wgtS) Tryz.results62 rfl H1.out.2.1) rfl ⟨rfl, H1.out.2.2⟩
set_option maxRecDepth 100000 in
set_option maxHeartbeats 2000000 in
theorem voting_Prior (h : VoAt vb gv gd gw gp N P V D G Q FV FD FW FQ w) {a b : Int} (ha : (Lit.int .i64 a).wf = true) (hb : (Lit.int .i64 b).wf = true) : Calls Tryz.prog 17 #[.pointer (some ⟨vb, 0, none⟩), .int .i64 a, .int .i64 b] w fun e w' => e = .returned (.tuple #[.int .i64 ((cget Q a b).getD priS.zero).v, .int .i64 ((cget Q a b).getD priS.zero).c]) ∧ Below w.heap.size w w' := by
 obtain ⟨-, -, -, t3⟩ := h.blk.tables
 have hget := grid_Get_Q h.q ha hb
 obtain ⟨t, ht⟩ : ∃ t, t = (cget Q a b).getD priS.zero := ⟨_, rfl⟩
 rw [← ht] at hget ⊢
 have hcell : ∀ w1 : World, (w1.alloc (priS.obj t)).cell? ⟨w1.heap.size, 0, none⟩ = some (.int .i64 t.v) ∧ (w1.alloc (priS.obj t)).cell? ⟨w1.heap.size, 1, none⟩ = some (.int .i64 t.c) := fun w1 => by
  constructor <;> (rw [World.cell?, World.alloc_heap_new]; rfl)
 have HG := Lib.hid hget
 have HC := Lib.hid hcell
 clear h hget ht hcell ha hb
 go_enter Tryz.func17, Tryz.ntmps17
 go_wp2_with (first
  | (go_at_call 50; refine HG.out.mono ?_; rintro e w1 ⟨rfl, hb⟩; obtain ⟨q0, q1⟩ := HC.out w1; have H1 := Lib.hid hb; clear hb)
  | (refine wpl_allocS (s := priS) rfl rfl rfl ?_)
  | (refine wpl_storeS (s := priS) (t := t) (b := w1.heap.size) _ _ rfl rfl rfl rfl rfl (World.alloc_heap_new w1 _) (zeroS priS) ?_; rw [newS])
  | fail)
 go_quiet (fail)
 go_wp2_with fail
 exact bodyPost_ret (v := .tuple #[.int .i64 t.v, .int .i64 t.c]) (by simp [results, Tryz.results17, go_sem]) rfl ⟨rfl, (H1.out.alloc H1.out.size _).trans ⟨rfl, rfl, rfl, Nat.le_refl _, fun _ _ => rfl⟩⟩
end
end
section
open Go.RowKit Go.Maps
section
variable {vb gv gd gw gp N : Nat} {P : Nat → Pl} {V : Cls Bal} {D : Cls Dlg} {G Q : Cls Wgt} {FV FD FW FQ : FP} {w w' : World}
theorem VoAt.setV (h : VoAt vb gv gd gw gp N P V D G Q FV FD FW FQ w) {V' : Cls Bal} (ht : GrTo balS.cod 169 gv V' FV w w') (hN : N ≤ w.heap.size) : ∃ FV', VoAt vb gv gd gw gp N P V' D G Q FV' FD FW FQ w' ∧ (∀ k, FV' k → FV k ∨ w.heap.size ≤ k) ∧ Only FV (fun _ => False) w w' := by
 obtain ⟨F', h1, h2, h3⟩ := ht
 have k1 : ∀ k, k < w.heap.size → ¬ FV k → w'.heap[k]? = w.heap[k]? := fun k hk hn => h3.block k hk hn (fun h => h)
 have old : ∀ {F : FP}, (∀ k, F k → k < w.heap.size) → (∀ k, FV k → ¬ F k) → ∀ k, F' k → ¬ F k := fun hl ho k hk hf => (h2 k hk).elim (fun e => ho k e hf) (fun e => by have := hl k hf; omega)
 refine ⟨F', ⟨h.blk.keep (k1 vb h.blk.lt h.off.b.1), h1, h.d.keep h3.grow (fun k hf => k1 k (h.d.2.2.1 k hf) (fun e => h.off.vd k e hf)), h.g.keep h3.grow (fun k hf => k1 k (h.g.2.2.1 k hf) (fun e => h.off.vw k e hf)), h.q.keep h3.grow (fun k hf => k1 k (h.q.2.2.1 k hf) (fun e => h.off.vq k e hf)), ?_⟩, h2, h3⟩
 exact ⟨old h.d.2.2.1 h.off.vd, old h.g.2.2.1 h.off.vw, old h.q.2.2.1 h.off.vq, h.off.dw, h.off.dq, h.off.wq, ⟨fun e => (h2 vb e).elim h.off.b.1 (fun e => by have := h.blk.lt; omega), h.off.b.2⟩, fun k hk => hk.elim (fun e => (h2 k e).elim (fun e => h.off.n k (.inl e)) (fun e => by omega)) (fun e => h.off.n k (.inr e)), h.off.nb⟩
theorem VoAt.setD (h : VoAt vb gv gd gw gp N P V D G Q FV FD FW FQ w) {D' : Cls Dlg} (ht : GrTo dlgS.cod 161 gd D' FD w w') (hN : N ≤ w.heap.size) : ∃ FD', VoAt vb gv gd gw gp N P V D' G Q FV FD' FW FQ w' ∧ (∀ k, FD' k → FD k ∨ w.heap.size ≤ k) ∧ Only FD (fun _ => False) w w' := by
 obtain ⟨F', h1, h2, h3⟩ := ht
 have k1 : ∀ k, k < w.heap.size → ¬ FD k → w'.heap[k]? = w.heap[k]? := fun k hk hn => h3.block k hk hn (fun h => h)
 have old : ∀ {F : FP}, (∀ k, F k → k < w.heap.size) → (∀ k, FD k → ¬ F k) → ∀ k, F' k → ¬ F k := fun hl ho k hk hf => (h2 k hk).elim (fun e => ho k e hf) (fun e => by have := hl k hf; omega)
 have vd : ∀ k, FD k → ¬ FV k := fun k e hf => h.off.vd k hf e
 refine ⟨F', ⟨h.blk.keep (k1 vb h.blk.lt h.off.b.2.1), h.v.keep h3.grow (fun k hf => k1 k (h.v.2.2.1 k hf) (fun e => vd k e hf)), h1, h.g.keep h3.grow (fun k hf => k1 k (h.g.2.2.1 k hf) (fun e => h.off.dw k e hf)), h.q.keep h3.grow (fun k hf => k1 k (h.q.2.2.1 k hf) (fun e => h.off.dq k e hf)), ?_⟩, h2, h3⟩
 exact ⟨fun k hv e => old h.v.2.2.1 vd k e hv, h.off.vw, h.off.vq, old h.g.2.2.1 h.off.dw, old h.q.2.2.1 h.off.dq, h.off.wq, ⟨h.off.b.1, fun e => (h2 vb e).elim h.off.b.2.1 (fun e => by have := h.blk.lt; omega), h.off.b.2.2⟩, fun k hk => by
  rcases hk with e | e | e
  · exact h.off.n k (.inl e)
  · exact (h2 k e).elim (fun e => h.off.n k (.inr (.inl e))) (fun e => by omega)
  · exact h.off.n k (.inr (.inr e)), h.off.nb⟩
theorem VoAt.setG (h : VoAt vb gv gd gw gp N P V D G Q FV FD FW FQ w) {G' : Cls Wgt} (ht : GrTo wgtS.cod 189 gw G' FW w w') (hN : N ≤ w.heap.size) : ∃ FW', VoAt vb gv gd gw gp N P V D G' Q FV FD FW' FQ w' ∧ (∀ k, FW' k → FW k ∨ w.heap.size ≤ k) ∧ Only FW (fun _ => False) w w' := by
 obtain ⟨F', h1, h2, h3⟩ := ht
 have k1 : ∀ k, k < w.heap.size → ¬ FW k → w'.heap[k]? = w.heap[k]? := fun k hk hn => h3.block k hk hn (fun h => h)
 have old : ∀ {F : FP}, (∀ k, F k → k < w.heap.size) → (∀ k, FW k → ¬ F k) → ∀ k, F' k → ¬ F k := fun hl ho k hk hf => (h2 k hk).elim (fun e => ho k e hf) (fun e => by have := hl k hf; omega)
 have wv : ∀ k, FW k → ¬ FV k := fun k e hf => h.off.vw k hf e
 have wd : ∀ k, FW k → ¬ FD k := fun k e hf => h.off.dw k hf e
 refine ⟨F', ⟨h.blk.keep (k1 vb h.blk.lt h.off.b.2.2.1), h.v.keep h3.grow (fun k hf => k1 k (h.v.2.2.1 k hf) (fun e => wv k e hf)), h.d.keep h3.grow (fun k hf => k1 k (h.d.2.2.1 k hf) (fun e => wd k e hf)), h1, h.q.keep h3.grow (fun k hf => k1 k (h.q.2.2.1 k hf) (fun e => h.off.wq k e hf)), ?_⟩, h2, h3⟩
 exact ⟨h.off.vd, fun k hv e => old h.v.2.2.1 wv k e hv, h.off.vq, fun k hv e => old h.d.2.2.1 wd k e hv, h.off.dq, old h.q.2.2.1 h.off.wq, ⟨h.off.b.1, h.off.b.2.1, fun e => (h2 vb e).elim h.off.b.2.2.1 (fun e => by have := h.blk.lt; omega), h.off.b.2.2.2⟩, fun k hk => by
  rcases hk with e | e | e | e
  · exact h.off.n k (.inl e)
  · exact h.off.n k (.inr (.inl e))
  · exact (h2 k e).elim (fun e => h.off.n k (.inr (.inr (.inl e)))) (fun e => by omega)
  · exact h.off.n k (.inr (.inr (.inr e))), h.off.nb⟩
theorem VoAt.setQ (h : VoAt vb gv gd gw gp N P V D G Q FV FD FW FQ w) {Q' : Cls Wgt} (ht : GrTo priS.cod 165 gp Q' FQ w w') (hN : N ≤ w.heap.size) : ∃ FQ', VoAt vb gv gd gw gp N P V D G Q' FV FD FW FQ' w' ∧ (∀ k, FQ' k → FQ k ∨ w.heap.size ≤ k) ∧ Only FQ (fun _ => False) w w' := by
 obtain ⟨F', h1, h2, h3⟩ := ht
 have k1 : ∀ k, k < w.heap.size → ¬ FQ k → w'.heap[k]? = w.heap[k]? := fun k hk hn => h3.block k hk hn (fun h => h)
 have old : ∀ {F : FP}, (∀ k, F k → k < w.heap.size) → (∀ k, FQ k → ¬ F k) → ∀ k, F' k → ¬ F k := fun hl ho k hk hf => (h2 k hk).elim (fun e => ho k e hf) (fun e => by have := hl k hf; omega)
 have qv : ∀ k, FQ k → ¬ FV k := fun k e hf => h.off.vq k hf e
 have qd : ∀ k, FQ k → ¬ FD k := fun k e hf => h.off.dq k hf e
 have qw : ∀ k, FQ k → ¬ FW k := fun k e hf => h.off.wq k hf e
 refine ⟨F', ⟨h.blk.keep (k1 vb h.blk.lt h.off.b.2.2.2), h.v.keep h3.grow (fun k hf => k1 k (h.v.2.2.1 k hf) (fun e => qv k e hf)), h.d.keep h3.grow (fun k hf => k1 k (h.d.2.2.1 k hf) (fun e => qd k e hf)), h.g.keep h3.grow (fun k hf => k1 k (h.g.2.2.1 k hf) (fun e => qw k e hf)), h1, ?_⟩, h2, h3⟩
 exact ⟨h.off.vd, h.off.vw, fun k hv e => old h.v.2.2.1 qv k e hv, h.off.dw, fun k hv e => old h.d.2.2.1 qd k e hv, fun k hv e => old h.g.2.2.1 qw k e hv, ⟨h.off.b.1, h.off.b.2.1, h.off.b.2.2.1, fun e => (h2 vb e).elim h.off.b.2.2.2 (fun e => by have := h.blk.lt; omega)⟩, fun k hk => by
  rcases hk with e | e | e | e
  · exact h.off.n k (.inl e)
  · exact h.off.n k (.inr (.inl e))
  · exact h.off.n k (.inr (.inr (.inl e)))
  · exact (h2 k e).elim (fun e => h.off.n k (.inr (.inr (.inr e)))) (fun e => by omega), h.off.nb⟩
set_option maxRecDepth 100000 in
set_option maxHeartbeats 2000000 in
theorem voting_Delegating (h : VoAt vb gv gd gw gp N P V D G Q FV FD FW FQ w) {a b : Int} (ha : (Lit.int .i64 a).wf = true) (hb : (Lit.int .i64 b).wf = true) : Calls Tryz.prog 16 #[.pointer (some ⟨vb, 0, none⟩), .int .i64 a, .int .i64 b] w fun e w' => e = .returned (.tuple #[.int .i64 ((cget D a b).getD dlgS.zero).to, .int .i64 ((cget D a b).getD dlgS.zero).l, .int .i64 ((cget D a b).getD dlgS.zero).n, .bool (cget D a b).isSome]) ∧ Below w.heap.size w w' := by
 obtain ⟨-, t1, -, -⟩ := h.blk.tables
 have hget := grid_Get_D h.d ha hb
 obtain ⟨t, ht⟩ : ∃ t, t = (cget D a b).getD dlgS.zero := ⟨_, rfl⟩
 obtain ⟨q, hq⟩ : ∃ q, q = (cget D a b).isSome := ⟨_, rfl⟩
 rw [← ht, ← hq] at hget ⊢
 have hcell : ∀ w1 : World, (w1.alloc (dlgS.obj t)).cell? ⟨w1.heap.size, 0, none⟩ = some (.int .i64 t.to) ∧ (w1.alloc (dlgS.obj t)).cell? ⟨w1.heap.size, 1, none⟩ = some (.int .i64 t.l) ∧ (w1.alloc (dlgS.obj t)).cell? ⟨w1.heap.size, 2, none⟩ = some (.int .i64 t.n) := fun w1 => by
  refine ⟨?_, ?_, ?_⟩ <;> (rw [World.cell?, World.alloc_heap_new]; rfl)
 have HG := Lib.hid hget
 have HC := Lib.hid hcell
 clear h hget ht hq hcell ha hb
 go_enter Tryz.func16, Tryz.ntmps16
 go_wp2_with (first
  | (go_at_call 49; refine HG.out.mono ?_; rintro e w1 ⟨rfl, hb⟩; obtain ⟨q0, q1, q2⟩ := HC.out w1; have H1 := Lib.hid hb; clear hb)
  | (refine wpl_allocS (s := dlgS) rfl rfl rfl ?_)
  | (refine wpl_storeS (s := dlgS) (t := t) (b := w1.heap.size) _ _ rfl rfl rfl rfl rfl (World.alloc_heap_new w1 _) (zeroS dlgS) ?_; rw [newS])
  | fail)
 go_quiet (fail)
 go_wp2_with fail
 exact bodyPost_ret (v := .tuple #[.int .i64 t.to, .int .i64 t.l, .int .i64 t.n, .bool q]) (by simp [results, Tryz.results16, go_sem]) rfl ⟨rfl, (H1.out.alloc H1.out.size _).trans ⟨rfl, rfl, rfl, Nat.le_refl _, fun _ _ => rfl⟩⟩
end
end
section
open Go.RowKit Go.Maps
section
variable {vb gv gd gw gp N : Nat} {P : Nat → Pl} {V : Cls Bal} {D : Cls Dlg} {G Q : Cls Wgt} {FV FD FW FQ : FP} {w w' : World}
def joinQ (Q : Cls Wgt) (a b u n now : Int) : Cls Wgt := if u ≤ now then Q else cput Q a b ⟨max ((cget Q a b).getD ⟨0, 0⟩).v u, max ((cget Q a b).getD ⟨0, 0⟩).c n⟩
set_option maxRecDepth 100000 in
set_option maxHeartbeats 2000000 in
theorem voting_join (h : VoAt vb gv gd gw gp N P V D G Q FV FD FW FQ w) (hN : N ≤ w.heap.size) (hl : Q.length ≤ 1000000) {a b : Int} (ha : (Lit.int .i64 a).wf = true) (hb : (Lit.int .i64 b).wf = true) (u n now : Int) :
 Calls Tryz.prog 70 #[.pointer (some ⟨vb, 0, none⟩), .int .i64 a, .int .i64 b, .int .i64 u, .int .i64 n, .int .i64 now] w fun e w' => e = .returned (.tuple #[]) ∧ ∃ FQ', VoAt vb gv gd gw gp N P V D G (joinQ Q a b u n now) FV FD FW FQ' w' ∧ (∀ k, FQ' k → FQ k ∨ w.heap.size ≤ k) ∧ Only FQ (fun _ => False) w w' := by
 by_cases hu : u ≤ now
 · have hj : joinQ Q a b u n now = Q := by unfold joinQ; rw [if_pos hu]
   rw [hj]
   have H := Lib.hid h
   clear h hj
   go_enter Tryz.func70, Tryz.ntmps70
   go_wp2_with fail
   exact bodyPost_ret (v := .tuple #[]) (results_none rfl _ _ _) rfl ⟨rfl, FQ, H.out, fun k hk => .inl hk, Only.refl _ _ _⟩
 · have hp := voting_Prior h ha hb
   obtain ⟨t, ht⟩ : ∃ t, t = (cget Q a b).getD priS.zero := ⟨_, rfl⟩
   have hj : joinQ Q a b u n now = cput Q a b ⟨max t.v u, max t.c n⟩ := by unfold joinQ; rw [if_neg hu, ht]; rfl
   rw [hj]
   rw [← ht] at hp
   have hset : ∀ w1 (hb1 : Below w.heap.size w w1) (m1 m2 : Int), Calls Tryz.prog 111 #[.pointer (some ⟨gp, 0, none⟩), .int .i64 a, .int .i64 b, .agg #[.int .i64 m1, .int .i64 m2]] w1 fun e w' => e = .returned (.tuple #[]) ∧ GrTo priS.cod 165 gp (cput Q a b ⟨m1, m2⟩) FQ w1 w' := fun w1 hb1 m1 m2 => grid_Set_Q (h.below hb1).q hl ha hb ⟨m1, m2⟩
   have htab := fun w1 (hb1 : Below w.heap.size w w1) => (h.below hb1).blk.tables.2.2.2
   have HP := Lib.hid hp
   have HS := Lib.hid hset
   have HT := Lib.hid htab
   have H := Lib.hid (And.intro h hN)
   clear h hp hset htab hj ht ha hb hl hN
   obtain ⟨x, hx⟩ : ∃ x, x = t.v := ⟨_, rfl⟩
   obtain ⟨y, hy⟩ : ∃ y, y = t.c := ⟨_, rfl⟩
   rw [← hx, ← hy] at HP ⊢
   clear hx hy
   go_enter Tryz.func70, Tryz.ntmps70
   go_wp2_with (first
    | (go_at_call 17; refine HP.out.mono ?_; rintro e w1 ⟨rfl, hb⟩; have t3 := HT.out w1 hb; have H1 := Lib.hid hb; clear hb)
    | (go_at_call 111; with_reducible refine (HS.out w1 H1.out _ _).mono ?_; rintro e w2 ⟨rfl, hg⟩; have H2 := Lib.hid hg; clear hg)
    | fail)
   all_goals
    refine bodyPost_end (results_none rfl _ _ _) rfl ⟨rfl, ?_⟩
    have hb1 := H1.out
    obtain ⟨FQ', h1, h2, h3⟩ := (H.out.1.below hb1).setQ H2.out (Nat.le_trans H.out.2 hb1.size)
    refine ⟨FQ', ?_, fun k hk => (h2 k hk).imp id (fun e => Nat.le_trans hb1.size e), only_trans (Only.of_later hb1) h3⟩
    have e1 : max x u = (if x < u then u else x) := by split <;> omega
    have e2 : max y n = (if y < n then n else y) := by split <;> omega
    first
     | exact h1
     | (rw [e1, e2]; exact h1)
end
end
section
open Go.RowKit Go.Maps
def Pl.zero : Pl := ⟨0, 0, 0, 0, 0, 0⟩
noncomputable def newC (gv gd gw gp : Nat) : Array Value := (((Tryz.zeroCells101.setIfInBounds 72 (.pointer (some ⟨gv, 0, none⟩))).setIfInBounds 73 (.pointer (some ⟨gd, 0, none⟩))).setIfInBounds 74 (.pointer (some ⟨gw, 0, none⟩))).setIfInBounds 75 (.pointer (some ⟨gp, 0, none⟩))
theorem zeroC : Tryz.zeroCells101.size = 76 ∧ Tryz.zeroCells101.toList.take 72 = List.replicate 72 (Value.int .i64 0) := ⟨rfl, rfl⟩
theorem VoB.made {w : World} (gv gd gw gp : Nat) : VoB w.heap.size (fun _ => Pl.zero) gv gd gw gp (w.alloc (.cells (newC gv gd gw gp) 101)) := by
 obtain ⟨z1, z2⟩ := zeroC
 refine ⟨_, World.alloc_heap_new _ _, by simp [newC, z1], fun k hk j u hu => ?_, ?_, ?_, ?_, ?_⟩
 · have hj : j < 6 := (List.getElem?_eq_some_iff.1 hu).1
   have hu0 : u = .int .i64 0 := by
    match j, hj, hu with
    | 0, _, hu => cases hu; rfl
    | 1, _, hu => cases hu; rfl
    | 2, _, hu => cases hu; rfl
    | 3, _, hu => cases hu; rfl
    | 4, _, hu => cases hu; rfl
    | 5, _, hu => cases hu; rfl
   subst hu0
   have e : Tryz.zeroCells101[k * 6 + j]? = some (Value.int .i64 0) := by
    rw [← Array.getElem?_toList, ← List.getElem?_take_of_lt (show k * 6 + j < 72 by omega), z2, List.getElem?_replicate, if_pos (by omega)]
   unfold newC
   rw [Array.getElem?_setIfInBounds_ne (by omega), Array.getElem?_setIfInBounds_ne (by omega), Array.getElem?_setIfInBounds_ne (by omega), Array.getElem?_setIfInBounds_ne (by omega)]
   exact e
 all_goals simp [newC, Array.getElem?_setIfInBounds, z1]
set_option maxRecDepth 100000 in
set_option maxHeartbeats 4000000 in
theorem voting_NewV (w : World) : Calls Tryz.prog 29 #[] w fun e w' => ∃ vb gv gd gw gp FV FD FW FQ, e = .returned (.pointer (some ⟨vb, 0, none⟩)) ∧ VoAt vb gv gd gw gp w.heap.size (fun _ => Pl.zero) [] [] [] [] FV FD FW FQ w' ∧ Below w.heap.size w w' := by
 go_enter Tryz.func29, Tryz.ntmps29
 go_wp2_with (first
  | (go_at_call 82; refine (grid_New_V _).mono ?_; rintro e w1 ⟨rfl, hw⟩; have H1 := Lib.hid hw; clear hw)
  | (go_at_call 83; refine (grid_New_D _).mono ?_; rintro e w2 ⟨rfl, hw⟩; have H2 := Lib.hid hw; clear hw)
  | (go_at_call 84; refine (grid_New_W _).mono ?_; rintro e w3 ⟨rfl, hw⟩; have H3 := Lib.hid hw; clear hw)
  | (go_at_call 85; refine (grid_New_Q _).mono ?_; rintro e w4 ⟨rfl, hw⟩; have H4 := Lib.hid hw; clear hw)
  | fail)
 have z1 : w1.heap.size = w.heap.size + 1 := by rw [H1.out]; simp
 have z2 : w2.heap.size = w1.heap.size + 1 := by rw [H2.out]; simp
 have z3 : w3.heap.size = w2.heap.size + 1 := by rw [H3.out]; simp
 have z4 : w4.heap.size = w3.heap.size + 1 := by rw [H4.out]; simp
 obtain ⟨W, hW⟩ : ∃ W, W = w4.alloc (.cells (newC w.heap.size w1.heap.size w2.heap.size w3.heap.size) 101) := ⟨_, rfl⟩
 have zW : W.heap.size = w4.heap.size + 1 := by rw [hW]; simp
 have b1 : Below w.heap.size w w1 := by rw [H1.out]; exact (Below.refl _ w).alloc (Nat.le_refl _) _
 have b2 : Below w1.heap.size w1 w2 := by rw [H2.out]; exact (Below.refl _ w1).alloc (Nat.le_refl _) _
 have b3 : Below w2.heap.size w2 w3 := by rw [H3.out]; exact (Below.refl _ w2).alloc (Nat.le_refl _) _
 have b4 : Below w3.heap.size w3 w4 := by rw [H4.out]; exact (Below.refl _ w3).alloc (Nat.le_refl _) _
 have bW : Below w4.heap.size w4 W := by rw [hW]; exact (Below.refl _ w4).alloc (Nat.le_refl _) _
 have c4 := b4.trans (bW.mono (by omega))
 have c3 := b3.trans (c4.mono (by omega))
 have c2 := b2.trans (c3.mono (by omega))
 have g1 := GrAt.new_V w
 have g2 := GrAt.new_D w1
 have g3 := GrAt.new_W w2
 have g4 := GrAt.new_Q w3
 rw [← H1.out] at g1
 rw [← H2.out] at g2
 rw [← H3.out] at g3
 rw [← H4.out] at g4
 have hvo : VoAt w4.heap.size w.heap.size w1.heap.size w2.heap.size w3.heap.size w.heap.size (fun _ => Pl.zero) [] [] [] [] (fun k => k = w.heap.size) (fun k => k = w1.heap.size) (fun k => k = w2.heap.size) (fun k => k = w3.heap.size) W := by
  refine ⟨by rw [hW]; exact VoB.made _ _ _ _, g1.keep (Grow.of_below c2) (fun k hk => c2.block k (by omega)), g2.keep (Grow.of_below c3) (fun k hk => c3.block k (by omega)), g3.keep (Grow.of_below c4) (fun k hk => c4.block k (by omega)), g4.keep (Grow.of_below bW) (fun k hk => bW.block k (by omega)), ?_⟩
  exact ⟨fun k h1 h2 => by omega, fun k h1 h2 => by omega, fun k h1 h2 => by omega, fun k h1 h2 => by omega, fun k h1 h2 => by omega, fun k h1 h2 => by omega, ⟨by omega, by omega, by omega, by omega⟩, fun k hk => by omega, by omega⟩
 have bw := b1.trans (c2.mono (by omega))
 rw [hW] at hvo bw
 exact bodyPost_ret (v := .pointer (some ⟨w4.heap.size, 0, none⟩)) (by simp [results, Tryz.results29, go_sem]) rfl ⟨w4.heap.size, w.heap.size, w1.heap.size, w2.heap.size, w3.heap.size, _, _, _, _, rfl, hvo, bw⟩
end
section
open Go.RowKit Go.Maps
theorem voting_isTrack (n : Int) (w : World) : Calls Tryz.prog 54 #[.int .i64 n] w fun e w' => e = .returned (.bool (decide (0 ≤ n ∧ n < 4))) ∧ w' = w := by
 go_enter Tryz.func54, Tryz.ntmps54
 go_wp2_with (first
  | (go_at_call 53; refine (bound_Below _ _ _).mono ?_; rintro e w' ⟨rfl, hw⟩; rw [hw]; clear hw w')
  | fail)
 exact bodyPost_ret (v := .bool (decide (0 ≤ n ∧ n < 4))) (by simp [results, Tryz.results54, go_sem]) rfl ⟨rfl, rfl⟩
end
section
open Go.RowKit Go.Maps
def putP (P : Nat → Pl) (k : Nat) (p : Pl) : Nat → Pl := fun i => if i = k then p else P i
theorem putP_same (P : Nat → Pl) (k : Nat) (p : Pl) : putP P k p k = p := by simp [putP]
theorem putP_other (P : Nat → Pl) {k i : Nat} (p : Pl) (h : i ≠ k) : putP P k p i = P i := by simp [putP, h]
theorem putP_putP (P : Nat → Pl) (k : Nat) (p q : Pl) : putP (putP P k p) k q = putP P k q := by funext i; by_cases h : i = k <;> simp [putP, h]
section
variable {vb gv gd gw gp : Nat} {P : Nat → Pl} {w w' : World}
theorem VoB.set' (h : VoB vb P gv gd gw gp w) {k j : Nat} (hk : k < 12) (hj : j < 6) {u : Value} {p' : Pl} (hp : plc p' = (plc (P k)).set j u) : VoB vb (putP P k p') gv gd gw gp (w.setCell ⟨vb, k * 6 + j, none⟩ u) := h.set hk hj hp
theorem VoB.setT (h : VoB vb P gv gd gw gp w) {k : Nat} (hk : k < 12) (t : Tl) : VoB vb (putP P k ⟨(P k).st, (P k).tr, t.a, t.n, t.s, (P k).en⟩) gv gd gw gp (w.setCells vb (k * 6 + 2) (tlyS.f t)) := by
 have h1 := h.set' hk (j := 2) (by omega) (u := .int .i64 t.a) (p' := ⟨(P k).st, (P k).tr, t.a, (P k).na, (P k).su, (P k).en⟩) rfl
 have h2 := h1.set' hk (j := 3) (by omega) (u := .int .i64 t.n) (p' := ⟨(P k).st, (P k).tr, t.a, t.n, (P k).su, (P k).en⟩) (by rw [putP_same]; rfl)
 rw [putP_putP] at h2
 have h3 := h2.set' hk (j := 4) (by omega) (u := .int .i64 t.s) (p' := ⟨(P k).st, (P k).tr, t.a, t.n, t.s, (P k).en⟩) (by rw [putP_same]; rfl)
 rw [putP_putP] at h3
 exact h3
theorem VoB.setP (h : VoB vb P gv gd gw gp w) {k : Nat} (hk : k < 12) (p : Pl) : VoB vb (putP P k p) gv gd gw gp (w.setCells vb (k * 6) (plc p)) := by
 have h0 := h.set' hk (j := 0) (by omega) (u := .int .i64 p.st) (p' := ⟨p.st, (P k).tr, (P k).ay, (P k).na, (P k).su, (P k).en⟩) rfl
 have h1 := h0.set' hk (j := 1) (by omega) (u := .int .i64 p.tr) (p' := ⟨p.st, p.tr, (P k).ay, (P k).na, (P k).su, (P k).en⟩) (by rw [putP_same]; rfl)
 rw [putP_putP] at h1
 have h2 := h1.set' hk (j := 2) (by omega) (u := .int .i64 p.ay) (p' := ⟨p.st, p.tr, p.ay, (P k).na, (P k).su, (P k).en⟩) (by rw [putP_same]; rfl)
 rw [putP_putP] at h2
 have h3 := h2.set' hk (j := 3) (by omega) (u := .int .i64 p.na) (p' := ⟨p.st, p.tr, p.ay, p.na, (P k).su, (P k).en⟩) (by rw [putP_same]; rfl)
 rw [putP_putP] at h3
 have h4 := h3.set' hk (j := 4) (by omega) (u := .int .i64 p.su) (p' := ⟨p.st, p.tr, p.ay, p.na, p.su, (P k).en⟩) (by rw [putP_same]; rfl)
 rw [putP_putP] at h4
 have h5 := h4.set' hk (j := 5) (by omega) (u := .int .i64 p.en) (p' := p) (by rw [putP_same]; rfl)
 rw [putP_putP] at h5
 exact h5
theorem VoB.there (h : VoB vb P gv gd gw gp w) {k j n : Nat} (hk : k < 12) (hj : j + n ≤ 6) : w.there vb (k * 6 + j) n := fun i hi => by
 refine ⟨?_, h.frozen _⟩
 obtain ⟨C, h1, h2, _⟩ := h
 have : k * 6 + j + i < C.size := by omega
 simp [World.cell?, h1, this]
end
theorem setCells_off {b k : Nat} (hk : k ≠ b) : ∀ (vs : List Value) (o : Nat) (w : World), (w.setCells b o vs).heap[k]? = w.heap[k]?
 | [], o, w => rfl
 | v :: vs, o, w => (setCells_off hk vs (o + 1) _).trans (Below.heap_setCell _ _ _ k hk)
theorem setCells_grow {b : Nat} : ∀ (vs : List Value) (o : Nat) (w : World), Grow w (w.setCells b o vs)
 | [], o, w => Grow.refl _
 | v :: vs, o, w => Grow.trans (B := w.setCell ⟨b, o, none⟩ v) ⟨rfl, rfl, rfl, by simp [World.setCell]⟩ (setCells_grow vs (o + 1) _)
structure Vs where
 P : Nat → Pl
 V : Cls Bal
 D : Cls Dlg
 G : Cls Wgt
 Q : Cls Wgt
def Vs.zero : Vs := ⟨fun _ => Pl.zero, [], [], [], []⟩
def VoX (vb N : Nat) (S : Vs) (F : FP) (w : World) : Prop :=
 ∃ gv gd gw gp FV FD FW FQ, VoAt vb gv gd gw gp N S.P S.V S.D S.G S.Q FV FD FW FQ w ∧ ∀ k, F k ↔ k = vb ∨ FV k ∨ FD k ∨ FW k ∨ FQ k
def VoTo (vb N : Nat) (S : Vs) (F : FP) (w w' : World) : Prop := ∃ F', VoX vb N S F' w' ∧ (∀ k, F' k → F k ∨ w.heap.size ≤ k) ∧ Only F (fun _ => False) w w'
section
variable {vb N : Nat} {S S' : Vs} {F : FP} {w w' w1 : World}
theorem VoX.keep (h : VoX vb N S F w) (hg : Grow w w') (hk : ∀ k, F k → w'.heap[k]? = w.heap[k]?) : VoX vb N S F w' := by
 obtain ⟨gv, gd, gw, gp, FV, FD, FW, FQ, h1, h2⟩ := h
 exact ⟨gv, gd, gw, gp, FV, FD, FW, FQ, h1.keep hg (fun k hk' => hk k ((h2 k).2 hk')), h2⟩
theorem VoX.lt (h : VoX vb N S F w) {k : Nat} (hk : F k) : k < w.heap.size := by
 obtain ⟨gv, gd, gw, gp, FV, FD, FW, FQ, h1, h2⟩ := h
 exact h1.lt ((h2 k).1 hk)
theorem VoX.lo (h : VoX vb N S F w) {k : Nat} (hk : F k) : N ≤ k := by
 obtain ⟨gv, gd, gw, gp, FV, FD, FW, FQ, h1, h2⟩ := h
 rcases (h2 k).1 hk with e | e
 · rw [e]; exact h1.off.nb
 · exact h1.off.n k e
theorem VoX.own (h : VoX vb N S F w) : F vb := by
 obtain ⟨gv, gd, gw, gp, FV, FD, FW, FQ, h1, h2⟩ := h
 exact (h2 vb).2 (.inl rfl)
theorem VoX.size (h : VoX vb N S F w) : N ≤ w.heap.size := Nat.le_of_lt (Nat.lt_of_le_of_lt (h.lo h.own) (h.lt h.own))
theorem VoX.below (h : VoX vb N S F w) (hb : Below w.heap.size w w') : VoX vb N S F w' := h.keep (Grow.of_below hb) (fun k hk => hb.block k (h.lt hk))
theorem VoX.srt (h : VoX vb N S F w) : SrtC S.V ∧ SrtC S.D ∧ SrtC S.G ∧ SrtC S.Q := by
 obtain ⟨gv, gd, gw, gp, FV, FD, FW, FQ, h1, h2⟩ := h
 exact ⟨h1.v.1, h1.d.1, h1.g.1, h1.q.1⟩
theorem VoTo.refl (h : VoX vb N S F w) : VoTo vb N S F w w := ⟨F, h, fun k hk => .inl hk, Only.refl _ _ _⟩
theorem VoTo.of_below (h : VoX vb N S F w) (hb : Below w.heap.size w w') : VoTo vb N S F w w' := ⟨F, h.below hb, fun k hk => .inl hk, Only.of_later hb⟩
theorem VoTo.later (hb : Below w.heap.size w w1) (h : VoTo vb N S F w1 w') : VoTo vb N S F w w' := by
 obtain ⟨F', h1, h2, h3⟩ := h
 exact ⟨F', h1, fun k hk => (h2 k hk).imp id (fun h => Nat.le_trans hb.size h), only_trans (Only.of_later hb) h3⟩
theorem VoX.setP (h : VoX vb N S F w) {k : Nat} (hk : k < 12) (p : Pl) : VoTo vb N { S with P := putP S.P k p } F w (w.setCells vb (k * 6) (plc p)) := by
 obtain ⟨gv, gd, gw, gp, FV, FD, FW, FQ, h1, h2⟩ := h
 have hg := setCells_grow (b := vb) (plc p) (k * 6) w
 have ho : ∀ i, i ≠ vb → (w.setCells vb (k * 6) (plc p)).heap[i]? = w.heap[i]? := fun i hi => setCells_off hi _ _ _
 refine ⟨F, ⟨gv, gd, gw, gp, FV, FD, FW, FQ, ⟨h1.blk.setP hk p, h1.v.keep hg (fun i hi => ho i (fun e => h1.off.b.1 (e ▸ hi))), h1.d.keep hg (fun i hi => ho i (fun e => h1.off.b.2.1 (e ▸ hi))), h1.g.keep hg (fun i hi => ho i (fun e => h1.off.b.2.2.1 (e ▸ hi))), h1.q.keep hg (fun i hi => ho i (fun e => h1.off.b.2.2.2 (e ▸ hi))), h1.off⟩, h2⟩, fun k hk => .inl hk, hg, fun i hi h3 h4 => ho i (fun e => h3 ((h2 i).2 (.inl e)))⟩
theorem VoX.setT (h : VoX vb N S F w) {k : Nat} (hk : k < 12) (t : Tl) : VoTo vb N { S with P := putP S.P k ⟨(S.P k).st, (S.P k).tr, t.a, t.n, t.s, (S.P k).en⟩ } F w (w.setCells vb (k * 6 + 2) (tlyS.f t)) := by
 obtain ⟨gv, gd, gw, gp, FV, FD, FW, FQ, h1, h2⟩ := h
 have hg := setCells_grow (b := vb) (tlyS.f t) (k * 6 + 2) w
 have ho : ∀ i, i ≠ vb → (w.setCells vb (k * 6 + 2) (tlyS.f t)).heap[i]? = w.heap[i]? := fun i hi => setCells_off hi _ _ _
 refine ⟨F, ⟨gv, gd, gw, gp, FV, FD, FW, FQ, ⟨h1.blk.setT hk t, h1.v.keep hg (fun i hi => ho i (fun e => h1.off.b.1 (e ▸ hi))), h1.d.keep hg (fun i hi => ho i (fun e => h1.off.b.2.1 (e ▸ hi))), h1.g.keep hg (fun i hi => ho i (fun e => h1.off.b.2.2.1 (e ▸ hi))), h1.q.keep hg (fun i hi => ho i (fun e => h1.off.b.2.2.2 (e ▸ hi))), h1.off⟩, h2⟩, fun k hk => .inl hk, hg, fun i hi h3 h4 => ho i (fun e => h3 ((h2 i).2 (.inl e)))⟩
theorem VoX.poll (h : VoX vb N S F w) (r : Int) : Calls Tryz.prog 47 #[.pointer (some ⟨vb, 0, none⟩), .int .i64 r] w fun e w' => e = .returned (.pointer (plPtr vb S.P r)) ∧ w' = w := by
 obtain ⟨gv, gd, gw, gp, FV, FD, FW, FQ, h1, h2⟩ := h
 exact voting_pollR h1.blk r
theorem VoX.open (h : VoX vb N S F w) {k : Nat} (hk : k < 12) : Calls Tryz.prog 55 #[.pointer (some ⟨vb, k * 6, none⟩)] w fun e w' => e = .returned (.bool ((S.P k).st == 1)) ∧ w' = w := by
 obtain ⟨gv, gd, gw, gp, FV, FD, FW, FQ, h1, h2⟩ := h
 exact poll_open h1.blk hk
theorem VoX.cells (h : VoX vb N S F w) {k : Nat} (hk : k < 12) :
 w.cell? ⟨vb, k * 6, none⟩ = some (.int .i64 (S.P k).st) ∧ w.cell? ⟨vb, k * 6 + 1, none⟩ = some (.int .i64 (S.P k).tr) ∧ w.cell? ⟨vb, k * 6 + 5, none⟩ = some (.int .i64 (S.P k).en) ∧ (∀ i, w.frozen? ⟨vb, i, none⟩ = false) ∧ w.rangeAt vb (k * 6 + 2) (tlyS.f (S.P k).t) ∧ w.there vb (k * 6 + 2) 3 ∧ w.there vb (k * 6) 6 := by
 obtain ⟨gv, gd, gw, gp, FV, FD, FW, FQ, h1, h2⟩ := h
 obtain ⟨c0, c1, c2, c3, c4, c5⟩ := h1.blk.poll hk
 exact ⟨c0, c1, c5, h1.blk.frozen, h1.blk.tally hk, h1.blk.there hk (by omega), h1.blk.there (j := 0) hk (by omega)⟩
theorem VoX.got (h : VoX vb N S F w) {a b : Int} (ha : (Lit.int .i64 a).wf = true) (hb : (Lit.int .i64 b).wf = true) : Calls Tryz.prog 62 #[.pointer (some ⟨vb, 0, none⟩), .int .i64 a, .int .i64 b] w fun e w' => e = .returned (wgtS.v ((cget S.G a b).getD wgtS.zero)) ∧ Below w.heap.size w w' := by
 obtain ⟨gv, gd, gw, gp, FV, FD, FW, FQ, h1, h2⟩ := h
 exact voting_Got h1 ha hb
theorem VoX.prior (h : VoX vb N S F w) {a b : Int} (ha : (Lit.int .i64 a).wf = true) (hb : (Lit.int .i64 b).wf = true) : Calls Tryz.prog 17 #[.pointer (some ⟨vb, 0, none⟩), .int .i64 a, .int .i64 b] w fun e w' => e = .returned (.tuple #[.int .i64 ((cget S.Q a b).getD priS.zero).v, .int .i64 ((cget S.Q a b).getD priS.zero).c]) ∧ Below w.heap.size w w' := by
 obtain ⟨gv, gd, gw, gp, FV, FD, FW, FQ, h1, h2⟩ := h
 exact voting_Prior h1 ha hb
theorem VoX.delegating (h : VoX vb N S F w) {a b : Int} (ha : (Lit.int .i64 a).wf = true) (hb : (Lit.int .i64 b).wf = true) : Calls Tryz.prog 16 #[.pointer (some ⟨vb, 0, none⟩), .int .i64 a, .int .i64 b] w fun e w' => e = .returned (.tuple #[.int .i64 ((cget S.D a b).getD dlgS.zero).to, .int .i64 ((cget S.D a b).getD dlgS.zero).l, .int .i64 ((cget S.D a b).getD dlgS.zero).n, .bool (cget S.D a b).isSome]) ∧ Below w.heap.size w w' := by
 obtain ⟨gv, gd, gw, gp, FV, FD, FW, FQ, h1, h2⟩ := h
 exact voting_Delegating h1 ha hb
theorem VoX.join (h : VoX vb N S F w) (hl : S.Q.length ≤ 1000000) {a b : Int} (ha : (Lit.int .i64 a).wf = true) (hb : (Lit.int .i64 b).wf = true) (u n now : Int) :
 Calls Tryz.prog 70 #[.pointer (some ⟨vb, 0, none⟩), .int .i64 a, .int .i64 b, .int .i64 u, .int .i64 n, .int .i64 now] w fun e w' => e = .returned (.tuple #[]) ∧ VoTo vb N { S with Q := joinQ S.Q a b u n now } F w w' := by
 have hN := h.size
 obtain ⟨gv, gd, gw, gp, FV, FD, FW, FQ, h1, h2⟩ := h
 refine (voting_join h1 hN hl ha hb u n now).mono ?_
 rintro e w' ⟨he, FQ', h3, h4, h5⟩
 exact ⟨he, _, ⟨gv, gd, gw, gp, FV, FD, FW, FQ', h3, fun k => Iff.rfl⟩, fun k hk => by
  rcases hk with e | e | e | e | e
  · exact .inl ((h2 k).2 (.inl e))
  · exact .inl ((h2 k).2 (.inr (.inl e)))
  · exact .inl ((h2 k).2 (.inr (.inr (.inl e))))
  · exact .inl ((h2 k).2 (.inr (.inr (.inr (.inl e)))))
  · exact (h4 k e).imp (fun e => (h2 k).2 (.inr (.inr (.inr (.inr e))))) id, h5.grow, fun k hk h6 h7 => h5.block k hk (fun e => h6 ((h2 k).2 (.inr (.inr (.inr (.inr e)))))) h7⟩
theorem VoX.tables (h : VoX vb N S F w) : ∃ gv gd gw gp, (∀ W, Below w.heap.size w W → W.cell? ⟨vb, 72, none⟩ = some (.pointer (some ⟨gv, 0, none⟩)) ∧ W.cell? ⟨vb, 73, none⟩ = some (.pointer (some ⟨gd, 0, none⟩)) ∧ W.cell? ⟨vb, 74, none⟩ = some (.pointer (some ⟨gw, 0, none⟩)) ∧ W.cell? ⟨vb, 75, none⟩ = some (.pointer (some ⟨gp, 0, none⟩))) ∧
 (∀ W, Below w.heap.size w W → ∀ a b : Int, (Lit.int .i64 a).wf = true → (Lit.int .i64 b).wf = true → Calls Tryz.prog 59 #[.pointer (some ⟨gv, 0, none⟩), .int .i64 a, .int .i64 b] W fun e w' => e = .returned (.tuple #[balS.v ((cget S.V a b).getD balS.zero), .bool (cget S.V a b).isSome]) ∧ Below W.heap.size W w') ∧
 (∀ W, Below w.heap.size w W → ∀ a b : Int, (Lit.int .i64 a).wf = true → (Lit.int .i64 b).wf = true → Calls Tryz.prog 49 #[.pointer (some ⟨gd, 0, none⟩), .int .i64 a, .int .i64 b] W fun e w' => e = .returned (.tuple #[dlgS.v ((cget S.D a b).getD dlgS.zero), .bool (cget S.D a b).isSome]) ∧ Below W.heap.size W w') ∧
 (∀ W, Below w.heap.size w W → ∀ (a b : Int) (x : Bal), S.V.length ≤ 1000000 → (Lit.int .i64 a).wf = true → (Lit.int .i64 b).wf = true → Calls Tryz.prog 66 #[.pointer (some ⟨gv, 0, none⟩), .int .i64 a, .int .i64 b, .agg (balS.f x).toArray] W fun e w' => e = .returned (.tuple #[]) ∧ VoTo vb N { S with V := cput S.V a b x } F W w') ∧
 (∀ W, Below w.heap.size w W → ∀ (a b : Int) (x : Dlg), S.D.length ≤ 1000000 → (Lit.int .i64 a).wf = true → (Lit.int .i64 b).wf = true → Calls Tryz.prog 73 #[.pointer (some ⟨gd, 0, none⟩), .int .i64 a, .int .i64 b, .agg (dlgS.f x).toArray] W fun e w' => e = .returned (.tuple #[]) ∧ VoTo vb N { S with D := cput S.D a b x } F W w') ∧
 (∀ W, Below w.heap.size w W → ∀ (a b : Int) (x : Wgt), S.G.length ≤ 1000000 → (Lit.int .i64 a).wf = true → (Lit.int .i64 b).wf = true → Calls Tryz.prog 113 #[.pointer (some ⟨gw, 0, none⟩), .int .i64 a, .int .i64 b, .agg (wgtS.f x).toArray] W fun e w' => e = .returned (.tuple #[]) ∧ VoTo vb N { S with G := cput S.G a b x } F W w') ∧
 (∀ W, Below w.heap.size w W → ∀ (a b : Int), S.V.length ≤ 1000000 → (Lit.int .i64 a).wf = true → (Lit.int .i64 b).wf = true → Calls Tryz.prog 68 #[.pointer (some ⟨gv, 0, none⟩), .int .i64 a, .int .i64 b] W fun e w' => e = .returned (.bool (cget S.V a b).isSome) ∧ VoTo vb N { S with V := cdel S.V a b } F W w') ∧
 (∀ W, Below w.heap.size w W → ∀ (a b : Int), S.D.length ≤ 1000000 → (Lit.int .i64 a).wf = true → (Lit.int .i64 b).wf = true → Calls Tryz.prog 76 #[.pointer (some ⟨gd, 0, none⟩), .int .i64 a, .int .i64 b] W fun e w' => e = .returned (.bool (cget S.D a b).isSome) ∧ VoTo vb N { S with D := cdel S.D a b } F W w') ∧
 (∀ W, Below w.heap.size w W → ∀ (a b : Int), S.Q.length ≤ 1000000 → (Lit.int .i64 a).wf = true → (Lit.int .i64 b).wf = true → Calls Tryz.prog 77 #[.pointer (some ⟨gp, 0, none⟩), .int .i64 a, .int .i64 b] W fun e w' => e = .returned (.bool (cget S.Q a b).isSome) ∧ VoTo vb N { S with Q := cdel S.Q a b } F W w') := by
 have hN := h.size
 have hx := h
 obtain ⟨gv, gd, gw, gp, FV, FD, FW, FQ, h1, h2⟩ := h
 have fV : ∀ W W' V', Below w.heap.size w W → GrTo balS.cod 169 gv V' FV W W' → VoTo vb N { S with V := V' } F W W' := fun W W' V' hb ht => by
  obtain ⟨FV', k1, k2, k3⟩ := (h1.below hb).setV ht (Nat.le_trans hN hb.size)
  refine ⟨_, ⟨gv, gd, gw, gp, FV', FD, FW, FQ, k1, fun k => Iff.rfl⟩, fun k hk => ?_, k3.grow, fun k hk h6 h7 => k3.block k hk (fun e => h6 ((h2 k).2 (.inr (.inl e)))) h7⟩
  rcases hk with e | e | e
  · exact .inl ((h2 k).2 (.inl e))
  · exact (k2 k e).imp (fun e => (h2 k).2 (.inr (.inl e))) id
  · exact .inl ((h2 k).2 (.inr (.inr e)))
 have fD : ∀ W W' V', Below w.heap.size w W → GrTo dlgS.cod 161 gd V' FD W W' → VoTo vb N { S with D := V' } F W W' := fun W W' V' hb ht => by
  obtain ⟨FV', k1, k2, k3⟩ := (h1.below hb).setD ht (Nat.le_trans hN hb.size)
  refine ⟨_, ⟨gv, gd, gw, gp, FV, FV', FW, FQ, k1, fun k => Iff.rfl⟩, fun k hk => ?_, k3.grow, fun k hk h6 h7 => k3.block k hk (fun e => h6 ((h2 k).2 (.inr (.inr (.inl e))))) h7⟩
  rcases hk with e | e | e | e
  · exact .inl ((h2 k).2 (.inl e))
  · exact .inl ((h2 k).2 (.inr (.inl e)))
  · exact (k2 k e).imp (fun e => (h2 k).2 (.inr (.inr (.inl e)))) id
  · exact .inl ((h2 k).2 (.inr (.inr (.inr e))))
 have fG : ∀ W W' V', Below w.heap.size w W → GrTo wgtS.cod 189 gw V' FW W W' → VoTo vb N { S with G := V' } F W W' := fun W W' V' hb ht => by
  obtain ⟨FV', k1, k2, k3⟩ := (h1.below hb).setG ht (Nat.le_trans hN hb.size)
  refine ⟨_, ⟨gv, gd, gw, gp, FV, FD, FV', FQ, k1, fun k => Iff.rfl⟩, fun k hk => ?_, k3.grow, fun k hk h6 h7 => k3.block k hk (fun e => h6 ((h2 k).2 (.inr (.inr (.inr (.inl e)))))) h7⟩
  rcases hk with e | e | e | e | e
  · exact .inl ((h2 k).2 (.inl e))
  · exact .inl ((h2 k).2 (.inr (.inl e)))
  · exact .inl ((h2 k).2 (.inr (.inr (.inl e))))
  · exact (k2 k e).imp (fun e => (h2 k).2 (.inr (.inr (.inr (.inl e))))) id
  · exact .inl ((h2 k).2 (.inr (.inr (.inr (.inr e)))))
 have fQ : ∀ W W' V', Below w.heap.size w W → GrTo priS.cod 165 gp V' FQ W W' → VoTo vb N { S with Q := V' } F W W' := fun W W' V' hb ht => by
  obtain ⟨FV', k1, k2, k3⟩ := (h1.below hb).setQ ht (Nat.le_trans hN hb.size)
  refine ⟨_, ⟨gv, gd, gw, gp, FV, FD, FW, FV', k1, fun k => Iff.rfl⟩, fun k hk => ?_, k3.grow, fun k hk h6 h7 => k3.block k hk (fun e => h6 ((h2 k).2 (.inr (.inr (.inr (.inr e)))))) h7⟩
  rcases hk with e | e | e | e | e
  · exact .inl ((h2 k).2 (.inl e))
  · exact .inl ((h2 k).2 (.inr (.inl e)))
  · exact .inl ((h2 k).2 (.inr (.inr (.inl e))))
  · exact .inl ((h2 k).2 (.inr (.inr (.inr (.inl e)))))
  · exact (k2 k e).imp (fun e => (h2 k).2 (.inr (.inr (.inr (.inr e))))) id
 refine ⟨gv, gd, gw, gp, fun W hb => (h1.below hb).blk.tables, fun W hb a b wa wb => grid_Get_V (h1.below hb).v wa wb, fun W hb a b wa wb => grid_Get_D (h1.below hb).d wa wb, ?_, ?_, ?_, ?_, ?_, ?_⟩
 · intro W hb a b x hl wa wb
   exact (grid_Set_V (h1.below hb).v hl wa wb x).mono fun e w' ⟨he, ht⟩ => ⟨he, fV W w' _ hb ht⟩
 · intro W hb a b x hl wa wb
   exact (grid_Set_D (h1.below hb).d hl wa wb x).mono fun e w' ⟨he, ht⟩ => ⟨he, fD W w' _ hb ht⟩
 · intro W hb a b x hl wa wb
   exact (grid_Set_W (h1.below hb).g hl wa wb x).mono fun e w' ⟨he, ht⟩ => ⟨he, fG W w' _ hb ht⟩
 · intro W hb a b hl wa wb
   exact (grid_Del_V (h1.below hb).v hl wa wb).mono fun e w' ⟨he, ht⟩ => ⟨he, fV W w' _ hb ht⟩
 · intro W hb a b hl wa wb
   exact (grid_Del_D (h1.below hb).d hl wa wb).mono fun e w' ⟨he, ht⟩ => ⟨he, fD W w' _ hb ht⟩
 · intro W hb a b hl wa wb
   exact (grid_Del_Q (h1.below hb).q hl wa wb).mono fun e w' ⟨he, ht⟩ => ⟨he, fQ W w' _ hb ht⟩
end
end
section
open Go.RowKit Go.Maps Go.Shelf
attribute [local go_sem] Oper.semAt_some
theorem marks_leave {F : Fence} {n : Nat} {P : Program} {fn : Func} {tmps : Array Value} {R : Ending → World → Prop} : ∀ (Ds : List Nat) (w : World), Ds.Nodup → (∀ D ∈ Ds, w.heap[D]? = some (.deferred (some []))) →
 (∀ w', Grow w w' → (∀ k, k ∉ Ds → w'.heap[k]? = w.heap[k]?) → LeavesIn F n P fn tmps R [] .returning w') → LeavesInM F n P fn tmps R (Ds.map fun D => { target := .collected D, args := #[] }) .returning w
 | [], w, _, _, h => h w (Grow.refl w) (fun _ _ => rfl)
 | D :: Ds, w, hn, hd, h => by
  have hn' := List.nodup_cons.1 hn
  refine ⟨by simp, .inl ⟨D, _, rfl, run_takeDeferred (hd D (by simp)), ?_⟩⟩
  refine marks_leave Ds _ hn'.2 (fun D' hD' => ?_) (fun w' hg hk => h w' ((put_grow w D _).trans hg) (fun k hk' => ?_))
  · rw [put_other (fun e => hn'.1 (by rw [← e]; exact hD'))]
    exact hd D' (List.mem_cons_of_mem _ hD')
  · simp only [List.mem_cons, not_or] at hk'
    rw [hk k hk'.2, put_other hk'.1]
theorem RoundIn.inAny {n m l lp : Nat} {P : Program} {fn : FuncId} {tm : Array Value} {asg bd : Code} {W : World} {R : Ending → World → Prop} (h : RoundIn Fence.wide n P lp fn tm asg bd W R) : RoundIn (Fence.wide.inRound l) m P lp fn tm asg bd W R :=
 ⟨trivial, fun c cs _ => h.2 c cs (room_wide _)⟩
def cellsOf (M : Cls Int) (a : Int) : Cls Int := (rowOf M a).map (fun x => ((a, x.1), x.2))
end
section
open Go.RowKit Go.Maps Go.Shelf
attribute [local go_sem] Oper.semAt_some
def tbal (P : Nat → Pl) (t : Int) (l : List (Int × Bal)) : List (Int × Bal) := l.filter (fun x => (P x.1.toNat).tr == t)
def ballots (S : Vs) (a t : Int) : List (Int × Bal) := tbal S.P t (rowOf S.V a)
theorem tbal_snoc (P : Nat → Pl) (t : Int) (l : List (Int × Bal)) (x : Int × Bal) : tbal P t (l ++ [x]) = tbal P t l ++ (if ((P x.1.toNat).tr == t) = true then [x] else []) := by
 unfold tbal
 rw [List.filter_append]
 by_cases h : ((P x.1.toNat).tr == t) = true <;> simp [h]
theorem tbal_prefix (P : Nat → Pl) (t : Int) {l m : List (Int × Bal)} (h : l <+: m) : tbal P t l <+: tbal P t m := h.filter _
theorem tbal_length (P : Nat → Pl) (t : Int) (l : List (Int × Bal)) : (tbal P t l).length ≤ l.length := List.length_filter_le _ _
def TrW (vb : Nat) (P : Nat → Pl) (W : World) : Prop := ∀ k, k < 12 → W.cell? ⟨vb, k * 6 + 1, none⟩ = some (.int .i64 (P k).tr)
theorem VoX.trw {vb N : Nat} {S : Vs} {F : FP} {w : World} (h : VoX vb N S F w) : TrW vb S.P w := fun k hk => (h.cells hk).2.1
theorem VoX.row {vb N : Nat} {S : Vs} {F : FP} {w : World} (h : VoX vb N S F w) (hlen : S.V.length ≤ 100000) {a : Int} (ha : (Lit.int .i64 a).wf = true) :
 ∃ gv, (∀ W, Below w.heap.size w W → W.cell? ⟨vb, 72, none⟩ = some (.pointer (some ⟨gv, 0, none⟩))) ∧ ∀ W, Below w.heap.size w W → Calls Tryz.prog 117 #[.pointer (some ⟨gv, 0, none⟩), .int .i64 a] W fun e w' => ∃ f, e = .returned f ∧ Way Tryz.prog encs_V f (rowOf S.V a) w' ∧ Below W.heap.size W w' := by
 obtain ⟨gv, gd, gw, gp, FV, FD, FW, FQ, h1, h2⟩ := h
 exact ⟨gv, fun W hb => (h1.below hb).blk.tables.1, fun W hb => grid_Row_V (h1.below hb).v hlen ha⟩
def BalI (Ψ Φ0 : FP) (W : World) (base yb lp : Nat) (P : Nat → Pl) (t : Int) (J : List (Int × Bal) → FP → World → Prop) (pre : List (Int × Bal)) (Φ : FP) (W' : World) : Prop :=
 ∃ Φo, J (tbal P t pre) Φo W' ∧ (∀ k, Φo k → Φ0 k ∨ base ≤ k) ∧ (∀ k, Φ k ↔ Φo k ∧ base ≤ k) ∧ Boxed W' yb 182 (.func (.yield lp) #[] #[]) ∧ Only Ψ Φ0 W W' ∧ base ≤ W'.heap.size
theorem BalI.stab {B base yb lp : Nat} {Ψ Φ0 : FP} {W : World} {P : Nat → Pl} {t : Int} {J : List (Int × Bal) → FP → World → Prop} (hJ : Stab B J) (hB : B ≤ base) (hy : yb < base) (hW : W.heap.size ≤ base) : Stab base (BalI Ψ Φ0 W base yb lp P t J) := by
 rintro pre Φ W' ⟨Φo, hj, ho, hi, hb1, hon, hs⟩
 obtain ⟨h1, h2, h3⟩ := hJ _ _ _ hj
 refine ⟨fun k hk => ⟨((hi k).1 hk).2, (h1 k ((hi k).1 hk).1).2⟩, hs, fun W'' hg hk => ⟨Φo, h3 W'' hg (fun k hk' => ?_), ho, hi, (hk yb (.inl hy)).trans hb1, ⟨hon.grow.trans hg, fun k hk' h4 h5 => (hk k (.inl (by omega))).trans (hon.block k hk' h4 h5)⟩, Nat.le_trans hs hg.size⟩⟩
 rcases hk' with h | h
 · exact hk k (.inl (by omega))
 · by_cases hb : k < base
   · exact hk k (.inl hb)
   · exact hk k (.inr ((hi k).2 ⟨h, by omega⟩))
def BalX (Φ0 : FP) (base : Nat) (P : Nat → Pl) (t : Int) (Jx : List (Int × Bal) → FP → World → Prop) (c : Code) (pre : List (Int × Bal)) (Φ : FP) (W' : World) : Prop :=
 c = .ret ∧ ∃ Φo, Jx (tbal P t pre) Φo W' ∧ (∀ k, Φo k → Φ0 k ∨ base ≤ k) ∧ (∀ k, Φ k ↔ Φo k ∧ base ≤ k) ∧ base ≤ W'.heap.size
theorem BalX.stab {B base : Nat} {Φ0 : FP} {P : Nat → Pl} {t : Int} {J : List (Int × Bal) → FP → World → Prop} (hJ : Stab B J) (hB : B ≤ base) (c : Code) : Stab base (BalX Φ0 base P t J c) := by
 rintro pre Φ W' ⟨hcc, Φo, hj, ho, hi, hs⟩
 obtain ⟨h1, h2, h3⟩ := hJ _ _ _ hj
 refine ⟨fun k hk => ⟨((hi k).1 hk).2, (h1 k ((hi k).1 hk).1).2⟩, hs, fun W'' hg hk => ⟨hcc, Φo, h3 W'' hg (fun k hk' => ?_), ho, hi, Nat.le_trans hs hg.size⟩⟩
 rcases hk' with h | h
 · exact hk k (.inl (by omega))
 · by_cases hb : k < base
   · exact hk k (.inl hb)
   · exact hk k (.inr ((hi k).2 ⟨h, by omega⟩))
def balVal (x : Int × Bal) : Value := .agg #[.int .i64 x.2.k, .bool x.2.aye, .int .i64 x.2.l, .int .i64 x.2.a, .int .i64 x.2.n, .int .i64 x.2.s]
set_option maxHeartbeats 8000000 in
set_option maxRecDepth 100000 in
theorem ballots_iter (m : Nat) (bv ba bt vb N : Nat) (S : Vs) (F : FP) (who t : Int) (w : World) (hv : w.cell? ⟨bv, 0, none⟩ = some (.pointer (some ⟨vb, 0, none⟩))) (ha : w.cell? ⟨ba, 0, none⟩ = some (.int .i64 who)) (ht : w.cell? ⟨bt, 0, none⟩ = some (.int .i64 t))
 (h : VoX vb N S F w) (hlen : S.V.length ≤ 100000) (hwf : (Lit.int .i64 who).wf = true) (hrf : ∀ x ∈ rowOf S.V who, 0 ≤ x.1 ∧ x.1 < 12) (G0 : FP) (hG0 : ∀ k, F k → G0 k) :
 IterT Tryz.prog (m + 1) 116 #[.pointer (some ⟨bv, 0, none⟩), .pointer (some ⟨ba, 0, none⟩), .pointer (some ⟨bt, 0, none⟩)] encs_V (ballots S who t) (fun k => k = bv ∨ k = ba ∨ k = bt) G0 (TrW vb S.P) w := by
 intro lp B Ψ J Jx Φ0 W hgw hG hΨ hΦ0 hJ hJx hTr hround h0
 have hX : VoX vb N S F W := h.keep hgw (fun k hk => (hG k (.inr (hG0 k hk))).2)
 have cv : W.cell? ⟨bv, 0, none⟩ = some (.pointer (some ⟨vb, 0, none⟩)) := (World.cell?_of_block (hG bv (.inl (.inl rfl))).2).trans hv
 have ca : W.cell? ⟨ba, 0, none⟩ = some (.int .i64 who) := (World.cell?_of_block (hG ba (.inl (.inr (.inl rfl)))).2).trans ha
 have ct : W.cell? ⟨bt, 0, none⟩ = some (.int .i64 t) := (World.cell?_of_block (hG bt (.inl (.inr (.inr rfl)))).2).trans ht
 have lv : bv < W.heap.size := by have := (hG bv (.inl (.inl rfl))).1; have := hgw.size; omega
 have la : ba < W.heap.size := by have := (hG ba (.inl (.inr (.inl rfl)))).1; have := hgw.size; omega
 have lt : bt < W.heap.size := by have := (hG bt (.inl (.inr (.inr rfl)))).1; have := hgw.size; omega
 obtain ⟨W1, hW1⟩ : ∃ W1, W1 = W.alloc (.cells #[.func (.yield lp) #[] #[]] 182) := ⟨_, rfl⟩
 have hB1 : Below W.heap.size W W1 := by rw [hW1]; exact (Below.refl _ W).alloc (Nat.le_refl _) _
 have hs1' : W1.heap.size = W.heap.size + 1 := by rw [hW1]; simp
 have hby : Boxed W1 W.heap.size 182 (.func (.yield lp) #[] #[]) := by rw [hW1]; exact Boxed.new W _ _
 obtain ⟨gv, hgv, hrow⟩ := hX.row hlen hwf
 obtain ⟨hs1, hs2, hs3⟩ := hJ _ _ _ h0
 have mixed : Tryz.prog.follows .mixedOrders = true := by kernel_rfl
 have cv1 : W1.cell? ⟨bv, 0, none⟩ = some (.pointer (some ⟨vb, 0, none⟩)) := (World.cell?_of_block (hB1.block bv lv)).trans cv
 have ca1 : W1.cell? ⟨ba, 0, none⟩ = some (.int .i64 who) := (World.cell?_of_block (hB1.block ba la)).trans ca
 have cvd : W1.drew.cell? ⟨bv, 0, none⟩ = some (.pointer (some ⟨vb, 0, none⟩)) := cv1
 have cad : W1.drew.cell? ⟨ba, 0, none⟩ = some (.int .i64 who) := ca1
 have hgd := hgv W1.drew hB1.drew
 have hrowd := hrow W1.drew hB1.drew
 refine callsIn_of_wp_marks Tryz.func116 rfl trivial ?_ rfl
 simp only [Tryz.ntmps116, List.size_toArray, List.length_cons, List.length_nil, Nat.reduceAdd, Nat.reduceSub, Array.replicate_succ, Array.replicate_zero, List.push_toArray, List.append_toArray, List.nil_append, List.cons_append]
 have HW := Lib.hid (And.intro hB1 (And.intro hby hs1'))
 have HW1 := Lib.hid hW1
 have HROW := Lib.hid hrowd
 have HRD := Lib.hid hround
 have HJ := Lib.hid (And.intro hJ hJx)
 have HP := Lib.hid hΨ
 have HP0 := Lib.hid hΦ0
 have HT := Lib.hid hTr
 have HH0 := Lib.hid h0
 have HS3 := Lib.hid hs3
 have HS1 := Lib.hid hs1
 have HC := Lib.hid (And.intro cv (And.intro ct (And.intro lv (And.intro la lt))))
 have HRF := Lib.hid hrf
 clear hB1 hby hs1' hX hrow hrowd hround hJ hJx hG hΨ hΦ0 h0 hs1 hs3 h hlen hv ha ht hTr hG0 hrf cv ca ct hwf hgv
 rw [hW1] at cv1
 gi_upto_region 2 with fail
 rw [← HW1.out]
 clear hW1 cv1 ca1
 refine wpIn_region_still_tail 5 mixed (by kernel_rfl) ?_
 simp only [List.take_succ_cons, List.take_zero, List.drop_succ_cons, List.drop_zero]
 change wpStill _ _ W1.drew _ _ _
 repeat still_step
 refine wpStill_nil ?_
 change wpListIn _ _ _ _ _ _ _ W1.drew
 gi_wp2_with (first
  | (gi_at_call 117; refine (callsIn_wide.2 HROW.out).mono ?_; rintro e w2 ⟨f, rfl, hway, hb⟩; obtain ⟨gf, lb, rfl, hit⟩ := hway; have H2 := Lib.hid (And.intro hit hb); clear hit hb)
  | (refine ⟨trivial, ?_⟩; gi_at_call 117; refine (callsIn_wide.2 HROW.out).mono ?_; rintro e w2 ⟨f, rfl, hway, hb⟩; obtain ⟨gf, lb, rfl, hit⟩ := hway; have H2 := Lib.hid (And.intro hit hb); clear hit hb)
  | fail)
 obtain ⟨hB1, hby, hs1'⟩ := HW.out
 obtain ⟨hit, hb2⟩ := H2.out
 obtain ⟨cv, ct, lv', la', lt'⟩ := HC.out
 have hb2' : Below W1.heap.size W1 w2 := ((Below.refl _ W1).drew).trans (show Below W1.heap.size W1.drew w2 from hb2)
 have hs2' : W1.heap.size ≤ w2.heap.size := hb2'.size
 have hbW : Below W.heap.size W w2 := hB1.trans (hb2'.mono hB1.size)
 have hyb2 : Boxed w2 W.heap.size 182 (.func (.yield lp) #[] #[]) := (hb2'.block _ (by omega)).trans hby
 have hJ2 : J [] Φ0 w2 := HS3.out w2 (Grow.of_below hbW) (fun k hk => hbW.block k (hk.elim (fun h => by omega) (fun h => (HS1.out k h).2)))
 have hOW : Only Ψ Φ0 W w2 := Only.of_later hbW
 have HF := Lib.hid (And.intro hJ2 (And.intro hOW (And.intro hyb2 hbW)))
 have hsz2 : W.heap.size + 1 ≤ w2.heap.size := by omega
 clear hB1 hby hb2 hb2' hbW hyb2 hJ2 hOW cv ct lv' la' lt' cvd cad hgd
 refine range_outerA (n := m) (gf := gf) (lb := lb) rfl hit.1 (hit.2 m) (Grow.refl w2) (fun k hk => ⟨hk, rfl⟩) (fun _ => rfl)
  (fun k => Ψ k ∨ Φ0 k) ?hpsi (BalI Ψ Φ0 W w2.heap.size W.heap.size lp S.P t J) (BalX Φ0 w2.heap.size S.P t Jx) (BalI.stab HJ.out.1 (by omega) (by omega) (by omega)) (fun c => BalX.stab HJ.out.2 (by omega) c)
  ?h0 (fun x N => { tmps := #[.func (.yield lp) #[] #[], .pointer (some ⟨bv, 0, none⟩), .pointer (some ⟨ba, 0, none⟩), .pointer (some ⟨bt, 0, none⟩), .pointer (some ⟨W.heap.size, 0, none⟩), .int .i64 x.1, .pointer (some ⟨N, 0, none⟩), .pointer (some ⟨vb, 0, none⟩), .bool false, .pointer (some ⟨vb, 0, none⟩), .pointer (some ⟨vb, 0, none⟩), .pointer (some ⟨vb, 72, none⟩), .pointer (some ⟨gv, 0, none⟩), .int .i64 who, .func (.func gf) #[] lb, .int .i64 x.1, balVal x, undef, undef, undef, undef, undef, undef, undef, undef, undef, undef, undef, undef, undef, undef, undef, undef], defers := [] })
  (fun x N W => W.heap[N]? = some (.cells #[.int .i64 x.2.k, .bool x.2.aye, .int .i64 x.2.l, .int .i64 x.2.a, .int .i64 x.2.n, .int .i64 x.2.s] 28 (0, 0))) (fun x N W W' h e => e.trans h) ?assign ?body ?done ?stop
 case hpsi =>
  intro k hk
  rcases hk with h | h
  · have := (HP.out k h).1; omega
  · have := (HS1.out k h).2; omega
 case h0 => exact ⟨Φ0, HF.out.1, fun k h => .inl h, fun k => ⟨fun h => h.elim, fun h => by have := (HS1.out k h.1).2; omega⟩, HF.out.2.2.1, HF.out.2.1, Nat.le_refl _⟩
 case assign =>
  intro l x W K hK
  simp only [encs_V]
  gi_wp2
  exact hK _ ((Below.refl _ W).alloc (Nat.le_refl _) _) (by simp) (World.alloc_heap_new _ _)
 case body =>
  rintro l pre x Φi N W' hpx ⟨Φo, hj, ho, hi, hbY, hon, hsz⟩ hl hΦl ⟨r, hr⟩ hlN hNW hAt
  have hxm : x ∈ rowOf S.V who := hpx.subset (by simp)
  obtain ⟨x0, x1⟩ := HRF.out x hxm
  obtain ⟨rf, hrf⟩ : ∃ rf : Nat, x.1 = rf := ⟨x.1.toNat, by omega⟩
  have hrl : rf < 12 := by omega
  have hrlI : (rf : Int) < 12 := by omega
  have htw := HT.out _ _ _ hj hon rf hrl
  obtain ⟨cv, ct, lv', la', lt'⟩ := HC.out
  have hgk : ∀ k, (k = bv ∨ k = ba ∨ k = bt) → k < W.heap.size → W'.heap[k]? = W.heap[k]? := fun k hk hkl => hon.block k hkl (fun h => (HP.out k h).2 hk) (fun h => HP0.out k h hk)
  have cv' : W'.cell? ⟨bv, 0, none⟩ = some (.pointer (some ⟨vb, 0, none⟩)) := (World.cell?_of_block (hgk bv (.inl rfl) lv')).trans cv
  have ct' : W'.cell? ⟨bt, 0, none⟩ = some (.int .i64 t) := (World.cell?_of_block (hgk bt (.inr (.inr rfl)) lt')).trans ct
  have cvd : W'.drew.cell? ⟨bv, 0, none⟩ = some (.pointer (some ⟨vb, 0, none⟩)) := cv'
  have ctd : W'.drew.cell? ⟨bt, 0, none⟩ = some (.int .i64 t) := ct'
  have htd : W'.drew.cell? ⟨vb, rf * 6 + 1, none⟩ = some (.int .i64 (S.P rf).tr) := htw
  have hyd : W'.drew.cell? ⟨W.heap.size, 0, none⟩ = some (.func (.yield lp) #[] #[]) := hbY.cell
  have hN0 : W'.drew.cell? ⟨N, 0, none⟩ = some (.int .i64 x.2.k) := by rw [World.cell?, show W'.drew.heap[N]? = _ from hAt]; rfl
  have hN1 : W'.drew.cell? ⟨N, 1, none⟩ = some (.bool x.2.aye) := by rw [World.cell?, show W'.drew.heap[N]? = _ from hAt]; rfl
  have hN2 : W'.drew.cell? ⟨N, 2, none⟩ = some (.int .i64 x.2.l) := by rw [World.cell?, show W'.drew.heap[N]? = _ from hAt]; rfl
  have hN3 : W'.drew.cell? ⟨N, 3, none⟩ = some (.int .i64 x.2.a) := by rw [World.cell?, show W'.drew.heap[N]? = _ from hAt]; rfl
  have hN4 : W'.drew.cell? ⟨N, 4, none⟩ = some (.int .i64 x.2.n) := by rw [World.cell?, show W'.drew.heap[N]? = _ from hAt]; rfl
  have hN5 : W'.drew.cell? ⟨N, 5, none⟩ = some (.int .i64 x.2.s) := by rw [World.cell?, show W'.drew.heap[N]? = _ from hAt]; rfl
  obtain ⟨tk, htk⟩ : ∃ tk, tk = (S.P rf).tr := ⟨_, rfl⟩
  rw [← htk] at htd
  have hsn := tbal_snoc S.P t pre x
  rw [hrf, Int.toNat_natCast, ← htk] at hsn
  have hpf := tbal_prefix S.P t hpx
  obtain ⟨q1, q2, q3⟩ := HJ.out.1 _ _ _ hj
  have hjd : J (tbal S.P t pre) Φo W'.drew := q3 W'.drew ⟨rfl, rfl, rfl, Nat.le_refl _⟩ (fun _ _ => rfl)
  have hond : Only Ψ Φ0 W W'.drew := hon.trans (Only.of_later (Φ := Φo) (Below.refl _ W').drew) (fun k hk => (ho k hk).imp id (fun h => by omega))
  have HBY := Lib.hid hbY
  have HHO := Lib.hid ho
  have HHI := Lib.hid hi
  have HON := Lib.hid hond
  have HJD := Lib.hid hjd
  have HQ1 := Lib.hid q1
  have HPF := Lib.hid hpf
  clear hj ho hi hbY hon hxm htw cv ct lv' la' lt' hgk cv' ct' hpx hpf q1 q3 hjd hond hit x0 x1 hAt
  unfold balVal
  rw [hrf]
  cases hq : (tk == t) with
  | true =>
   rw [hq, if_pos rfl] at hsn
   have hpre : tbal S.P t pre ++ [x] <+: ballots S who t := by rw [← hsn]; exact HPF.out
   obtain ⟨fn, tm, asg, bd, hyy, hR⟩ := HRD.out _ x Φo W'.drew hpre HJD.out
   simp only [encs_V, hrf] at hyy
   have HSN := Lib.hid hsn
   have HRR := Lib.hid hR
   clear hpre hR hsn htk
   gi_upto_region 5 with fail
   refine wpIn_region_still_tailR 13 mixed (by kernel_rfl) (by kernel_rfl) ?_
   simp only [List.take_succ_cons, List.take_zero, List.drop_succ_cons, List.drop_zero]
   change wpStill _ _ W'.drew _ _ _
   repeat still_step
   refine wpStill_nil ?_
   change wpListIn _ _ _ _ _ _ _ W'.drew
   gi_wp2
   refine ⟨fun h => by simp [Fence.wide] at h, (RoundIn.inAny HRR.out).mono ?_⟩
   rintro e W3 ⟨Φo', hn, hon', (⟨rfl, hJ'⟩ | ⟨rfl, hJ'⟩)⟩
   · have hno : ∀ k, Φo' k → Φ0 k ∨ w2.heap.size ≤ k := fun k hk => (hn k hk).elim (HHO.out k) (fun h => .inr (by have : W'.heap.size ≤ k := h; omega))
     have hz3 : W'.heap.size ≤ W3.heap.size := hon'.grow.size
     have hyn : ¬ Ψ W.heap.size ∧ ¬ Φo W.heap.size := ⟨fun h => by have := (HP.out _ h).1; omega, fun h => (HHO.out _ h).elim (fun h => by have := (HS1.out _ h).2; omega) (fun h => by omega)⟩
     have hbY3 : Boxed W3 W.heap.size 182 (.func (.yield lp) #[] #[]) := (hon'.block _ (by show W.heap.size < W'.heap.size; omega) hyn.1 hyn.2).trans HBY.out
     gi_wp2
     refine ⟨fun k => Φo' k ∧ w2.heap.size ≤ k, fun k hk => (hn k hk.1).elim (fun h => .inl ((HHI.out k).2 ⟨h, hk.2⟩)) .inr, Only.undrew ⟨hon'.grow, fun k hk h1 h2 => ?_⟩, Φo', by rw [HSN.out]; exact hJ', hno, fun k => Iff.rfl, hbY3, HON.out.trans hon' (fun k hk => (HHO.out k hk).imp id (fun h => by omega)), by omega⟩
     refine hon'.block k hk (fun h => h1 (.inl h)) (fun h => ?_)
     rcases HHO.out k h with h' | h'
     · exact h1 (.inr h')
     · exact h2 ((HHI.out k).2 ⟨h, h'⟩)
   · have hno : ∀ k, Φo' k → Φ0 k ∨ w2.heap.size ≤ k := fun k hk => (hn k hk).elim (HHO.out k) (fun h => .inr (by have : W'.heap.size ≤ k := h; omega))
     have hz3 : W'.heap.size ≤ W3.heap.size := hon'.grow.size
     gi_wp2
     refine ⟨fun k => Φo' k ∧ w2.heap.size ≤ k, fun k hk => (hn k hk.1).elim (fun h => .inl ((HHI.out k).2 ⟨h, hk.2⟩)) .inr, Only.undrew ⟨hon'.grow, fun k hk h1 h2 => ?_⟩, rfl, Φo', by rw [HSN.out]; exact hJ', hno, fun k => Iff.rfl, by omega⟩
     refine hon'.block k hk (fun h => h1 (.inl h)) (fun h => ?_)
     rcases HHO.out k h with h' | h'
     · exact h1 (.inr h')
     · exact h2 ((HHI.out k).2 ⟨h, h'⟩)
  | false =>
   rw [hq, if_neg (by decide), List.append_nil] at hsn
   obtain ⟨q, hqq⟩ : ∃ q, q = false := ⟨_, rfl⟩
   rw [← hqq] at hq
   have HQ := Lib.hid hqq
   have HSN := Lib.hid hsn
   clear hsn htk hqq
   gi_upto_region 5 with fail
   refine wpIn_region_still_tailR 13 mixed (by kernel_rfl) (by kernel_rfl) ?_
   simp only [List.take_succ_cons, List.take_zero, List.drop_succ_cons, List.drop_zero]
   change wpStill _ _ W'.drew _ _ _
   iterate 10 still_step
   refine wpStill_skipS (j := 9) (b := q) (t := true) ?_ ?_ ?_ HQ.out ?_
   rfl
   rfl
   kernel_rfl
   refine wpStill_skipS (j := 9) (b := q) (t := true) ?_ ?_ ?_ HQ.out ?_
   rfl
   rfl
   kernel_rfl
   refine wpStill_skipS (j := 9) (b := q) (t := true) ?_ ?_ ?_ HQ.out ?_
   rfl
   rfl
   kernel_rfl
   refine wpStill_nil ?_
   change wpListIn _ _ _ _ _ _ _ W'.drew
   refine wpListIn_skipS (j := 9) (b := q) (t := true) ?_ ?_ ?_ HQ.out ?_
   rfl
   rfl
   kernel_rfl
   refine wpListIn_skipS (j := 9) (b := q) (t := true) ?_ ?_ ?_ HQ.out ?_
   rfl
   rfl
   kernel_rfl
   have hqq := HQ.out
   subst hqq
   gi_wp2
   refine ⟨Φi, fun k hk => .inl hk, Only.of_later (Below.refl _ W').drew, Φo, by rw [HSN.out]; exact HJD.out, HHO.out, HHI.out, HBY.out, HON.out, hsz⟩
 case done =>
  rintro D Φi W3 ⟨Φo, hj, ho, hi, hbY, hon, hsz⟩ hon2 hD hnD hK
  have hnDo : ¬ Φo D := fun h => hnD ((hi D).2 ⟨h, hD⟩)
  have HD := Lib.hid (And.intro hj (And.intro ho (And.intro hon (And.intro hK hnDo))))
  clear hj ho hi hbY hon hon2 hK hnD hit
  gi_wp2
  obtain ⟨hj, ho, hon, hK, hnDo⟩ := HD.out
  refine marks_leave [D] W3 (by simp) (fun d hd => ?_) (fun w' hg hk => ⟨_, results_none rfl _ _ _, ⟨_, rfl⟩, ?_⟩)
  · simp only [List.mem_cons, List.not_mem_nil, or_false] at hd
    subst hd; exact hK
  · refine ⟨Φo, fun j hj => (ho j hj).imp id (fun h => by omega), ⟨hon.grow.trans hg, fun k hk' h1 h2 => (hk k (by simp; omega)).trans (hon.block k hk' h1 h2)⟩, .inl ((HJ.out.1 _ _ _ hj).2.2 w' hg (fun k hk' => hk k ?_))⟩
    simp only [List.mem_cons, List.not_mem_nil, or_false]
    rintro rfl
    rcases hk' with h | h
    · omega
    · exact hnDo h
 case stop =>
  rintro D Φi c pre W3 hpre ⟨rfl, Φo, hj, ho, hi, hsz⟩ hon2 hD hnD hK
  have hnDo : ¬ Φo D := fun h => hnD ((hi D).2 ⟨h, hD⟩)
  have hon : Only Ψ Φ0 W W3 := HF.out.2.1.trans (Φ' := Φ0) ⟨hon2.grow, fun k hk h1 h2 => hon2.block k hk (fun h => h.elim h1 h2) (fun h => h)⟩ (fun k hk => .inl hk)
  have HD := Lib.hid (And.intro hj (And.intro ho (And.intro hon (And.intro hK (And.intro hnDo (tbal_prefix S.P t hpre))))))
  clear hj ho hi hon hon2 hK hnD hit
  gi_wp2
  obtain ⟨hj, ho, hon, hK, hnDo, hpf⟩ := HD.out
  refine marks_leave [D] W3 (by simp) (fun d hd => ?_) (fun w' hg hk => ⟨_, results_none rfl _ _ _, ⟨_, rfl⟩, ?_⟩)
  · simp only [List.mem_cons, List.not_mem_nil, or_false] at hd
    subst hd; exact hK
  · refine ⟨Φo, fun j hj => (ho j hj).imp id (fun h => by omega), ⟨hon.grow.trans hg, fun k hk' h1 h2 => (hk k (by simp; omega)).trans (hon.block k hk' h1 h2)⟩, .inr ⟨_, hpf, (HJ.out.2 _ _ _ hj).2.2 w' hg (fun k hk' => hk k ?_)⟩⟩
    simp only [List.mem_cons, List.not_mem_nil, or_false]
    rintro rfl
    rcases hk' with h | h
    · omega
    · exact hnDo h
end
section
open Go.RowKit Go.Maps Go.Shelf
attribute [local go_sem] Oper.semAt_some
section
variable {P : Program} {α : Type}
theorem range_outerWI {n : Nat} {g : Operand} {ps : Array Tmp} {assign body : Code} {Q : Exit → Act → World → Prop} {a : Act} {w : World} {gf : Nat} {lb : Array Value} (hg : a.eval g = .func (.func gf) #[] lb) (eg : ∀ args w, (callFunc gf args).run P w = .ok (.enter gf args) w)
 {encs : α → Array Value} {xs : List α} {G : FP} {w0 : World} (hit : Iter P n gf lb encs xs G w0) (hg0 : Grow w0 w) (hG : ∀ k, G k → k < w0.heap.size ∧ w.heap[k]? = w0.heap[k]?) (hps : ∀ x, (encs x).size = ps.size)
 (Ψ : FP) (hΨ : ∀ k, Ψ k → k < w.heap.size ∧ ¬ G k) (I : List α → FP → World → Prop) (hI : Stab w.heap.size I) (h0 : I [] (fun _ => False) w) (up : α → Array Value → Array Value)
 (hassign : ∀ (l : Nat) (x : α) (W : World) (K : Act → World → Prop), K { tmps := up x a.tmps, defers := [] } W → assign.wpIn (Fence.wide.inRound l) n P (Exit.then K (fun _ _ _ => False)) { tmps := (ps.zip (encs x)).foldl (fun t (p, v) => t.setIfInBounds p v) a.tmps, defers := [] } W)
 (hbody : ∀ (l : Nat) (pre : List α) (x : α) (Φ : FP) (W : World), (pre ++ [x]) <+: xs → I pre Φ W → w.heap.size < l → (∀ k, Φ k → l + 1 ≤ k) → (∃ r, W.heap[l]? = some (.loop r)) → body.wpIn (Fence.wide.inRound l) n P (bodyI Ψ Φ I (fun _ _ _ _ => False) (pre ++ [x]) W) { tmps := up x a.tmps, defers := [] } W)
 (hdone : ∀ (D : Nat) (Φ : FP) (W : World), I xs Φ W → Only Ψ (fun _ => False) w W → w.heap.size ≤ D → ¬ Φ D → W.heap[D]? = some (.deferred (some [])) → Q .normal { a with defers := { target := .collected D, args := #[] } :: a.defers } W) :
 (Code.rangeFunc g ps assign body).wpIn Fence.wide (n + 2) P Q a w :=
 range_outer hg eg hit hg0 hG hps Ψ hΨ I (fun _ _ _ _ => False) hI (fun c _ _ _ h => h.elim) h0 (fun x => { tmps := up x a.tmps, defers := [] }) hassign hbody hdone (fun D Φ c pre W _ h => h.elim)
end
theorem enters_ballots1 : ∀ args w, (callFunc 116 args).run Tryz.prog w = .ok (.enter 116 args) w := enters_of Tryz.func116 (by kernel_rfl) rfl
theorem voting_ballots (p : Option Addr) (a t : Int) (w : World) : Calls Tryz.prog 78 #[.pointer p, .int .i64 a, .int .i64 t] w fun e w' => e = .returned (.func (.func 116) #[] #[.pointer (some ⟨w.heap.size, 0, none⟩), .pointer (some ⟨w.heap.size + 1, 0, none⟩), .pointer (some ⟨w.heap.size + 1 + 1, 0, none⟩)]) ∧ w' = ((w.alloc (.cells #[.pointer p] 34)).alloc (.cells #[.int .i64 a] 3)).alloc (.cells #[.int .i64 t] 3) := by
 go_enter Tryz.func78, Tryz.ntmps78
 go_wp2
 go_ret
 exact ⟨rfl, rfl⟩
def BalWay (vb : Nat) (S : Vs) (F : FP) (a t : Int) (w : World) (e : Ending) (w' : World) : Prop :=
 e = .returned (.func (.func 116) #[] #[.pointer (some ⟨w.heap.size, 0, none⟩), .pointer (some ⟨w.heap.size + 1, 0, none⟩), .pointer (some ⟨w.heap.size + 1 + 1, 0, none⟩)]) ∧ Below w.heap.size w w' ∧ w'.heap.size = w.heap.size + 3 ∧
  (∀ m, IterT Tryz.prog (m + 1) 116 #[.pointer (some ⟨w.heap.size, 0, none⟩), .pointer (some ⟨w.heap.size + 1, 0, none⟩), .pointer (some ⟨w.heap.size + 1 + 1, 0, none⟩)] encs_V (ballots S a t) (fun k => k = w.heap.size ∨ k = w.heap.size + 1 ∨ k = w.heap.size + 1 + 1) F (TrW vb S.P) w') ∧
  (∀ m, Iter Tryz.prog (m + 1) 116 #[.pointer (some ⟨w.heap.size, 0, none⟩), .pointer (some ⟨w.heap.size + 1, 0, none⟩), .pointer (some ⟨w.heap.size + 1 + 1, 0, none⟩)] encs_V (ballots S a t) (fun k => F k ∨ k = w.heap.size ∨ k = w.heap.size + 1 ∨ k = w.heap.size + 1 + 1) w')
theorem VoX.balWay {vb N : Nat} {S : Vs} {F : FP} {w : World} (h : VoX vb N S F w) (hlen : S.V.length ≤ 100000) {a : Int} (ha : (Lit.int .i64 a).wf = true) (hrf : ∀ x ∈ rowOf S.V a, 0 ≤ x.1 ∧ x.1 < 12) (t : Int) :
 Calls Tryz.prog 78 #[.pointer (some ⟨vb, 0, none⟩), .int .i64 a, .int .i64 t] w (BalWay vb S F a t w) := by
 refine (voting_ballots _ a t w).mono ?_
 rintro e w' ⟨he, hw'⟩
 have hB : Below w.heap.size w w' := by rw [hw']; exact (((Below.refl _ w).alloc (Nat.le_refl _) _).alloc (by simp) _).alloc (by simp; omega) _
 have hsz : w'.heap.size = w.heap.size + 3 := by rw [hw']; simp
 have b0 : Boxed w' w.heap.size 34 (.pointer (some ⟨vb, 0, none⟩)) := by rw [hw']; exact ((Boxed.new w _ _).alloc _).alloc _
 have b1 : Boxed w' (w.heap.size + 1) 3 (.int .i64 a) := by
  have := Boxed.new (w.alloc (.cells #[.pointer (some ⟨vb, 0, none⟩)] 34)) 3 (.int .i64 a)
  rw [World.size_alloc] at this
  rw [hw']; exact this.alloc _
 have b2 : Boxed w' (w.heap.size + 1 + 1) 3 (.int .i64 t) := by
  have := Boxed.new ((w.alloc (.cells #[.pointer (some ⟨vb, 0, none⟩)] 34)).alloc (.cells #[.int .i64 a] 3)) 3 (.int .i64 t)
  rw [World.size_alloc, World.size_alloc] at this
  rw [hw']; exact this
 have hX := h.below hB
 have hit := fun m => ballots_iter m w.heap.size (w.heap.size + 1) (w.heap.size + 1 + 1) vb N S F a t w' b0.cell b1.cell b2.cell hX hlen ha hrf F (fun k hk => hk)
 exact ⟨he, hB, hsz, hit, fun m => (hit m).iter (fun k hk => hk.elim .inr .inl) (fun W hW k hk => (World.cell?_of_block (hW vb (.inl hX.own)).2).trans (hX.trw k hk))⟩
def CntJ (N0 nb : Nat) (pre : List (Int × Bal)) (Φ : FP) (W : World) : Prop := (∀ k, ¬ Φ k) ∧ Boxed W nb 3 (.int .i64 (pre.length : Int)) ∧ N0 ≤ W.heap.size
theorem CntJ.stab {N0 gb : Nat} (h1 : gb < N0) : Stab N0 (CntJ N0 gb) := by
 rintro pre Φ W ⟨h0, h, hs⟩
 exact ⟨fun k hk => (h0 k hk).elim, hs, fun W' hg hk => ⟨h0, (hk gb (.inl h1)).trans h, Nat.le_trans hs hg.size⟩⟩
set_option maxHeartbeats 4000000 in
set_option maxRecDepth 100000 in
theorem VoX.count {vb N : Nat} {S : Vs} {F : FP} {w : World} (h : VoX vb N S F w) (hlen : S.V.length ≤ 100000) {a : Int} (ha : (Lit.int .i64 a).wf = true) (hrf : ∀ x ∈ rowOf S.V a, 0 ≤ x.1 ∧ x.1 < 12) (t : Int) :
 Calls Tryz.prog 61 #[.pointer (some ⟨vb, 0, none⟩), .int .i64 a, .int .i64 t] w fun e w' => e = .returned (.int .i64 ((ballots S a t).length : Int)) ∧ Below w.heap.size w w' := by
 have hll : (ballots S a t).length ≤ 100000 := Nat.le_trans (tbal_length _ _ _) (Nat.le_trans (row_length _ _) hlen)
 obtain ⟨w1, hw1⟩ : ∃ w1, w1 = w.alloc (.cells #[.int .i64 0] 3) := ⟨_, rfl⟩
 have hb1 : Below w.heap.size w w1 := by rw [hw1]; exact (Below.refl _ w).alloc (Nat.le_refl _) _
 have x0 : Boxed w1 w.heap.size 3 (.int .i64 0) := by rw [hw1]; exact Boxed.new w _ _
 have hs1 : w1.heap.size = w.heap.size + 1 := by rw [hw1]; simp
 have hbal := (h.below hb1).balWay hlen ha hrf t
 refine (callsIn_wide (n := 3)).1 ?_
 refine callsIn_of_wp_marks Tryz.func61 rfl trivial ?_ rfl
 simp only [Tryz.ntmps61, List.size_toArray, List.length_cons, List.length_nil, Nat.reduceAdd, Nat.reduceSub, Array.replicate_succ, Array.replicate_zero, List.push_toArray, List.append_toArray, List.nil_append, List.cons_append]
 obtain ⟨xs, hxs⟩ : ∃ xs, xs = ballots S a t := ⟨_, rfl⟩
 unfold BalWay at hbal
 rw [← hxs] at hbal hll ⊢
 have HW1 := Lib.hid hw1
 have H1 := Lib.hid (And.intro hb1 (And.intro x0 hs1))
 have HB := Lib.hid hbal
 have HL := Lib.hid hll
 have HFL := Lib.hid (show ∀ k, F k → k < w.heap.size from fun k hk => h.lt hk)
 clear hw1 hb1 x0 hs1 hbal h hlen ha hrf hll hxs
 gi_wp2_with (first
  | (refine ⟨trivial, ?_⟩; gi_at_call 78; rw [← HW1.out]; refine (callsIn_wide.2 HB.out).mono ?_; rintro e w2 ⟨rfl, hb, hs2, -, hit⟩; have H2 := Lib.hid (And.intro hit (And.intro hb hs2)); clear hit hb hs2)
  | fail)
 obtain ⟨gb, hgb⟩ : ∃ gb, gb = w.heap.size := ⟨_, rfl⟩
 obtain ⟨hb1, x0, hs1⟩ := H1.out
 rw [← hgb] at x0 hs1 ⊢
 obtain ⟨hit, hb2, hs2⟩ := H2.out
 have x2 : Boxed w2 gb 3 (.int .i64 (([] : List (Int × Bal)).length : Int)) := (hb2.block gb (by omega)).trans x0
 have hgl : gb < w2.heap.size := by omega
 have hFl := HFL.out
 have hGl : ∀ k, (F k ∨ k = w1.heap.size ∨ k = w1.heap.size + 1 ∨ k = w1.heap.size + 1 + 1) → k < w2.heap.size ∧ k ≠ gb := fun k hk => by
  rcases hk with h | h
  · have := hFl k h; omega
  · omega
 have HGB := Lib.hid hgb
 clear hgb hFl
 refine range_outerWI (n := 1) (gf := 116) rfl enters_ballots1 (hit 0) (Grow.refl w2) (fun k hk => ⟨(hGl k hk).1, rfl⟩) (fun _ => rfl)
  (fun k => k = gb) (by rintro k rfl; exact ⟨hgl, fun h => (hGl _ h).2 rfl⟩) (CntJ w2.heap.size gb) (CntJ.stab hgl) ⟨fun _ h => h, x2, Nat.le_refl _⟩
  (fun x T => (T.setIfInBounds 12 (.int .i64 x.1)).setIfInBounds 13 (balVal x)) ?assign ?body ?done
 case assign =>
  intro l x W K hK
  simp only [encs_V]
  clear hs1 hs2 hGl hit
  gi_wp2
  exact hK
 case body =>
  rintro l pre x Φ W hpx ⟨hno, hbx, hsz⟩ hl hΦ -
  have hpl := hpx.length_le
  rw [List.length_append, List.length_singleton] at hpl
  have hpl2 : pre.length < 100000 := by have := HL.out; omega
  have c1 := hbx.cell
  have f1 := hbx.frozen
  have e1 : ((pre ++ [x]).length : Int) = (pre.length : Int) + 1 := by simp
  obtain ⟨n, hn⟩ : ∃ n, n = pre.length := ⟨_, rfl⟩
  rw [← hn] at c1 hbx e1 hpl2
  have hset : Boxed (W.setCell ⟨gb, 0, none⟩ (.int .i64 ((n : Int) + 1))) gb 3 (.int .i64 ((n : Int) + 1)) := hbx.set _
  have hw : IntKind.i64.wrap ((n : Int) + 1) = (n : Int) + 1 := IntWalk.i64_in _ (by omega)
  have HS := Lib.hid (And.intro hset (And.intro hno (And.intro hsz e1)))
  clear hbx hset hno hsz e1 hn hpx hpl hit hGl
  gi_wp2_with fail
  obtain ⟨hset, hno, hsz, e1⟩ := HS.out
  exact ⟨Φ, fun k h => .inl h, ⟨⟨rfl, rfl, rfl, by simp [World.setCell]⟩, fun k hk h1 h2 => Below.heap_setCell _ _ _ k h1⟩, hno, by rw [e1]; exact hset, by simp [World.setCell]; exact hsz⟩
 case done =>
  rintro D Φ W3 ⟨hno, hbx, hsz⟩ hon hD hnD hK
  have c1 := hbx.cell
  have HD := Lib.hid (And.intro hno (And.intro hon (And.intro hD hK)))
  clear hno hbx hon hD hK hnD hit hGl
  gi_wp2_with fail
  obtain ⟨hno, hon, hD, hK⟩ := HD.out
  have hgb := HGB.out
  refine marks_leave [D] W3 (by simp) (fun d hd => ?_) (fun w' hg hk => ⟨.int .i64 (xs.length : Int), by simp [results, Tryz.results61, go_sem], rfl, ?_⟩)
  · simp only [List.mem_cons, List.not_mem_nil, or_false] at hd
    subst hd; exact hK
  · have hg0 : Grow w w' := ((Grow.of_below hb1).trans (Grow.of_below hb2)).trans (hon.grow.trans hg)
    refine ⟨hg0.os, hg0.tape, hg0.output, hg0.size, fun j hj => ?_⟩
    rw [hk j (by simp; omega), hon.block j (by omega) (by omega) (fun h => h), hb2.block j (by omega)]
    exact hb1.block j hj
end
section
abbrev Acc := Nat → Int × Int
def acc0 : Acc := fun _ => (0, 0)
def upd (A : Acc) (a : Nat) (x : Int × Int) : Acc := fun k => if k = a then x else A k
theorem upd_same (A : Acc) (a : Nat) (x : Int × Int) : upd A a x a = x := by simp [upd]
theorem upd_other (A : Acc) {a k : Nat} (x : Int × Int) (h : k ≠ a) : upd A a x k = A k := by simp [upd, h]
def both (A : Acc) (k : Nat) : Int := (A k).1 + (A k).2
def sumTo (A : Acc) : Nat → Int
 | 0 => 0
 | n + 1 => sumTo A n + both A n
theorem sumTo_upd (A : Acc) (a : Nat) (x : Int × Int) : ∀ n, sumTo (upd A a x) n = sumTo A n + (if a < n then (x.1 + x.2) - both A a else 0)
 | 0 => by simp [sumTo]
 | n + 1 => by
  rw [sumTo, sumTo, sumTo_upd A a x n]
  by_cases h : n = a
  · subst h
    have : both (upd A n x) n = x.1 + x.2 := by simp [both, upd_same]
    rw [this, if_neg (by omega), if_pos (by omega)]; omega
  · have : both (upd A a x) n = both A n := by simp [both, upd_other A x h]
    rw [this]
    by_cases h2 : a < n
    · rw [if_pos h2, if_pos (by omega)]; omega
    · rw [if_neg h2, if_neg (by omega)]; omega
structure AccOk (A : Acc) : Prop where
 free : ∀ k, 0 ≤ (A k).1
 held : ∀ k, 0 ≤ (A k).2
 all : sumTo A 10 ≤ 1073741824
theorem sumTo_mono {A : Acc} (h : ∀ k, 0 ≤ both A k) : ∀ {m n : Nat}, m ≤ n → sumTo A m ≤ sumTo A n := by
 intro m n hmn
 induction hmn with
 | refl => exact Int.le_refl _
 | step _ ih => rw [sumTo]; have := h; exact Int.le_trans ih (by have := h (by assumption); omega)
theorem AccOk.sum {A : Acc} (h : AccOk A) (k : Nat) : 0 ≤ both A k := by have := h.free k; have := h.held k; unfold both; omega
theorem AccOk.part {A : Acc} (h : AccOk A) {n : Nat} (hn : n ≤ 10) : 0 ≤ sumTo A n ∧ sumTo A n ≤ 1073741824 := by
 have h1 := sumTo_mono h.sum (Nat.zero_le n)
 have h2 := sumTo_mono h.sum hn
 have h3 := h.all
 rw [sumTo] at h1
 omega
theorem AccOk.one {A : Acc} (h : AccOk A) {k : Nat} (hk : k < 10) : both A k ≤ 1073741824 := by
 have h1 := h.part (n := k) (by omega)
 have h2 := h.part (n := k + 1) (by omega)
 rw [sumTo] at h2
 omega
theorem AccOk.zero : AccOk acc0 := ⟨fun k => by simp [acc0], fun k => by simp [acc0], by decide⟩
theorem AccOk.upd {A : Acc} (h : AccOk A) {a : Nat} {x : Int × Int} (ha : a < 10) (h1 : 0 ≤ x.1) (h2 : 0 ≤ x.2) (hs : sumTo A 10 + (x.1 + x.2) - both A a ≤ 1073741824) : AccOk (upd A a x) := by
 refine ⟨fun k => ?_, fun k => ?_, ?_⟩
 · by_cases e : k = a
   · subst e; rw [upd_same]; exact h1
   · rw [upd_other A x e]; exact h.free k
 · by_cases e : k = a
   · subst e; rw [upd_same]; exact h2
   · rw [upd_other A x e]; exact h.held k
 · rw [sumTo_upd, if_pos ha]; omega
def maxTo (l : List (Int × Int)) : Int := l.foldl (fun n x => max n x.2) 0
theorem maxTo_snoc (l : List (Int × Int)) (x : Int × Int) : maxTo (l ++ [x]) = max (maxTo l) x.2 := by simp [maxTo, List.foldl_append]
theorem foldl_max : ∀ (l : List (Int × Int)) (n : Int), n ≤ l.foldl (fun n x => max n x.2) n ∧ (∀ x ∈ l, x.2 ≤ l.foldl (fun n x => max n x.2) n) ∧ (l.foldl (fun n x => max n x.2) n = n ∨ ∃ x ∈ l, l.foldl (fun n x => max n x.2) n = x.2)
 | [], n => ⟨Int.le_refl _, fun x hx => absurd hx List.not_mem_nil, .inl rfl⟩
 | y :: l, n => by
  obtain ⟨h1, h2, h3⟩ := foldl_max l (max n y.2)
  rw [List.foldl_cons]
  refine ⟨by omega, fun x hx => ?_, ?_⟩
  · rcases List.mem_cons.1 hx with rfl | hx
    · omega
    · exact h2 x hx
  · rcases h3 with h3 | ⟨x, hx, h3⟩
    · rcases Int.le_total n y.2 with h | h
      · exact .inr ⟨y, List.mem_cons_self, by rw [h3]; omega⟩
      · exact .inl (by rw [h3]; omega)
    · exact .inr ⟨x, List.mem_cons_of_mem _ hx, h3⟩
theorem maxTo_nonneg (l : List (Int × Int)) : 0 ≤ maxTo l := (foldl_max l 0).1
theorem maxTo_le {l : List (Int × Int)} {x : Int × Int} (h : x ∈ l) : x.2 ≤ maxTo l := (foldl_max l 0).2.1 x h
theorem maxTo_is (l : List (Int × Int)) : maxTo l = 0 ∨ ∃ x ∈ l, maxTo l = x.2 := (foldl_max l 0).2.2
def lockedOf (M : Cls Int) (a : Int) : Int := maxTo (rowOf M a)
def isAcc (a : Int) : Prop := 0 ≤ a ∧ a < 10
instance (a : Int) : Decidable (isAcc a) := by unfold isAcc; infer_instance
def isBal (n : Int) : Prop := 0 ≤ n ∧ n ≤ 1073741824
instance (a : Int) : Decidable (isBal a) := by unfold isBal; infer_instance
def spendE (A : Acc) (M : Cls Int) (a n : Int) (back : Bool) : Int :=
 if ¬ isAcc a ∨ ¬ isBal n then 1 else if (A a.toNat).1 < n then 6 else if 0 < n ∧ back = false ∧ (A a.toNat).1 - n < lockedOf M a then 7 else 0
def spendA (A : Acc) (a n : Int) : Acc := upd A a.toNat ((A a.toNat).1 - n, (A a.toNat).2)
theorem spendE_ok {A : Acc} {M : Cls Int} {a n : Int} {b : Bool} (h : spendE A M a n b = 0) : isAcc a ∧ isBal n ∧ n ≤ (A a.toNat).1 := by
 unfold spendE at h
 split at h
 · cases h
 · rename_i h1
   split at h
   · cases h
   · rename_i h2
     exact ⟨by simpa using fun k => h1 (.inl k), by simpa using fun k => h1 (.inr k), by omega⟩
theorem spendA_ok {A : Acc} (h : AccOk A) {a n : Int} (ha : isAcc a) (hn : isBal n) (hf : n ≤ (A a.toNat).1) : AccOk (spendA A a n) := by
 unfold isAcc at ha
 unfold isBal at hn
 have := h.held a.toNat
 have := h.all
 exact h.upd (by omega) (by simp only; omega) (by simpa using h.held _) (by unfold both; simp only; omega)
end
section
open Go.RowKit Go.Maps Go.Shelf
def GrOwn {β : Type} (c : Cod β) (T : TypeId) (N g : Nat) (M : Cls β) (w : World) : Prop := ∃ F, GrAt c T g M F w ∧ ∀ k, F k → N ≤ k
section
variable {β : Type} {c : Cod β} {T : TypeId} {N g : Nat} {M M' : Cls β} {w w' : World} {F : FP}
end
theorem grid_New_own_I (w : World) : Calls Tryz.prog 80 #[] w fun e w' => ∃ g, e = .returned (.pointer (some ⟨g, 0, none⟩)) ∧ GrOwn codI 186 w.heap.size g [] w' ∧ Below w.heap.size w w' := by
 refine (grid_New_I w).mono ?_
 rintro e w' ⟨rfl, rfl⟩
 exact ⟨_, rfl, ⟨_, GrAt.new_I w, fun k hk => by omega⟩, (Below.refl _ w).alloc (Nat.le_refl _) _⟩
end
section
open Go.RowKit Go.Maps Go.Shelf
def accs (A : Acc) : Nat → List Value
 | 0 => []
 | n + 1 => accs A n ++ [.int .i64 (A n).1, .int .i64 (A n).2]
theorem accs_len (A : Acc) : ∀ n, (accs A n).length = 2 * n
 | 0 => rfl
 | n + 1 => by rw [accs, List.length_append, accs_len A n]; simp; omega
theorem accs_at (A : Acc) : ∀ {n k : Nat}, k < n → (accs A n)[k * 2]? = some (.int .i64 (A k).1) ∧ (accs A n)[k * 2 + 1]? = some (.int .i64 (A k).2)
 | n + 1, k, h => by
  rw [accs]
  by_cases e : k = n
  · subst e
    have hl := accs_len A k
    rw [List.getElem?_append_right (by omega), List.getElem?_append_right (by omega), show k * 2 - (accs A k).length = 0 by omega, show k * 2 + 1 - (accs A k).length = 1 by omega]
    exact ⟨rfl, rfl⟩
  · have hl := accs_len A n
    have := accs_at A (n := n) (k := k) (by omega)
    rw [List.getElem?_append_left (by omega), List.getElem?_append_left (by omega)]
    exact this
theorem accs_free (A : Acc) {n a : Nat} (h : a < n) (v : Int) : (accs A n).set (a * 2) (.int .i64 v) = accs (upd A a (v, (A a).2)) n := by
 refine List.ext_getElem? (fun i => ?_)
 have hl := accs_len A n
 have hl' := accs_len (upd A a (v, (A a).2)) n
 by_cases hi : i < 2 * n
 · obtain ⟨k, e⟩ : ∃ k, i = k * 2 ∨ i = k * 2 + 1 := ⟨i / 2, by omega⟩
   have hk : k < n := by omega
   have h1 := accs_at A hk
   have h2 := accs_at (upd A a (v, (A a).2)) hk
   rcases e with e | e
   · subst e
     rw [h2.1]
     by_cases c : k = a
     · subst c; rw [List.getElem?_set_self (by omega), upd_same]
     · rw [List.getElem?_set_ne (by omega), h1.1, upd_other A _ c]
   · subst e
     rw [h2.2, List.getElem?_set_ne (by omega), h1.2]
     by_cases c : k = a
     · subst c; rw [upd_same]
     · rw [upd_other A _ c]
 · rw [List.getElem?_eq_none (by simp; omega), List.getElem?_eq_none (by omega)]
def lcells (A : Acc) (gl : Nat) : List Value := accs A 10 ++ [.pointer (some ⟨gl, 0, none⟩)]
structure LdAt (N g gl : Nat) (A : Acc) (M : Cls Int) (w : World) : Prop where
 blk : w.heap[g]? = some (.cells (lcells A gl).toArray 130 (0, 0))
 gr : ∃ F, GrAt codI 186 gl M F w ∧ ∀ k, F k → N ≤ k ∧ k ≠ g
 lo : N ≤ g
 ok : AccOk A
 len : M.length ≤ 10000
section
variable {N g gl : Nat} {A : Acc} {M : Cls Int} {w w' : World}
theorem LdAt.lt (h : LdAt N g gl A M w) : g < w.heap.size := (Array.getElem?_eq_some_iff.1 h.blk).1
theorem LdAt.below (h : LdAt N g gl A M w) (hb : Below w.heap.size w w') : LdAt N g gl A M w' := by
 obtain ⟨F, h1, h2⟩ := h.gr
 exact ⟨(hb.block g h.lt).trans h.blk, ⟨F, h1.keep (Grow.of_below hb) (fun k hk => hb.block k (h1.2.2.1 k hk)), h2⟩, h.lo, h.ok, h.len⟩
theorem lcells_acc {k : Nat} (hk : k < 10) : (lcells A gl)[k * 2]? = some (.int .i64 (A k).1) ∧ (lcells A gl)[k * 2 + 1]? = some (.int .i64 (A k).2) := by
 have hl := accs_len A 10
 unfold lcells
 rw [List.getElem?_append_left (by omega), List.getElem?_append_left (by omega)]
 exact accs_at A hk
theorem lcells_ptr : (lcells A gl)[20]? = some (.pointer (some ⟨gl, 0, none⟩)) := by
 have hl := accs_len A 10
 unfold lcells
 rw [List.getElem?_append_right (by omega), hl]
 rfl
theorem cell_of {b i : Nat} {l : List Value} {T : TypeId} {v : Value} (h : w.heap[b]? = some (.cells l.toArray T (0, 0))) (hv : l[i]? = some v) : w.cell? ⟨b, i, none⟩ = some v := by
 rw [World.cell?, h]; simpa using hv
theorem LdAt.free (h : LdAt N g gl A M w) {k : Nat} (hk : k < 10) : w.cell? ⟨g, k * 2, none⟩ = some (.int .i64 (A k).1) := cell_of h.blk (lcells_acc hk).1
theorem LdAt.ptr (h : LdAt N g gl A M w) : w.cell? ⟨g, 20, none⟩ = some (.pointer (some ⟨gl, 0, none⟩)) := cell_of h.blk lcells_ptr
theorem LdAt.frozen (h : LdAt N g gl A M w) (i : Nat) : w.frozen? ⟨g, i, none⟩ = false := by simp [World.frozen?, h.blk]
theorem setCell_at {b i : Nat} {l : List Value} {T : TypeId} {v : Value} (h : w.heap[b]? = some (.cells l.toArray T (0, 0))) : (w.setCell ⟨b, i, none⟩ v).heap[b]? = some (.cells (l.set i v).toArray T (0, 0)) := by
 simp [World.setCell, Array.getElem?_modify, h]
theorem grow_set {b i : Nat} {v : Value} : Grow w (w.setCell ⟨b, i, none⟩ v) := ⟨rfl, rfl, rfl, by simp [World.setCell]⟩
theorem below_set {b i : Nat} {v : Value} (h : N ≤ b) : Below N w (w.setCell ⟨b, i, none⟩ v) := ⟨rfl, rfl, rfl, by simp [World.setCell], fun k hk => Below.heap_setCell _ _ _ k (by show k ≠ b; omega)⟩
theorem LdAt.put {i : Nat} {v : Value} {A' : Acc} (h : LdAt N g gl A M w) (hA : (lcells A gl).set i v = lcells A' gl) (hok : AccOk A') : LdAt N g gl A' M (w.setCell ⟨g, i, none⟩ v) ∧ Below N w (w.setCell ⟨g, i, none⟩ v) := by
 obtain ⟨F, h1, h2⟩ := h.gr
 refine ⟨⟨?_, ⟨F, h1.keep grow_set (fun k hk => Below.heap_setCell _ _ _ k (h2 k hk).2), h2⟩, h.lo, hok, h.len⟩, below_set h.lo⟩
 rw [setCell_at h.blk, hA]
theorem lcells_free {a : Nat} (ha : a < 10) (v : Int) : (lcells A gl).set (a * 2) (.int .i64 v) = lcells (upd A a (v, (A a).2)) gl := by
 unfold lcells
 rw [List.set_append_left _ _ (by rw [accs_len]; omega), accs_free A ha]
theorem LdAt.setFree (h : LdAt N g gl A M w) {a : Nat} (ha : a < 10) (v : Int) (hok : AccOk (upd A a (v, (A a).2))) : LdAt N g gl (upd A a (v, (A a).2)) M (w.setCell ⟨g, a * 2, none⟩ (.int .i64 v)) ∧ Below N w (w.setCell ⟨g, a * 2, none⟩ (.int .i64 v)) := h.put (lcells_free ha v) hok
end
theorem isAcc_nat {a : Int} (h : isAcc a) : ∃ k : Nat, a = k ∧ k < 10 := by unfold isAcc at h; exact ⟨a.toNat, by omega, by omega⟩
set_option maxRecDepth 100000 in
theorem ledger_account {g k : Nat} (hk : k < 10) (w : World) : Calls Tryz.prog 52 #[.pointer (some ⟨g, 0, none⟩), .int .i64 (k : Int)] w fun e w' => e = .returned (.pointer (some ⟨g, k * 2, none⟩)) ∧ w' = w := by
 have c1 : decide (0 ≤ (k : Int) ∧ (k : Int) < 10) = true := by simp; omega
 have h1 : (k : Int) < 10 := by omega
 have h0 : ¬ (k : Int) < 0 := by omega
 have C1 := Lib.hid c1
 clear c1
 go_enter Tryz.func52, Tryz.ntmps52
 go_wp2_with (first | (go_at_call 57; refine (bound_Account _ _).mono ?_; rw [C1.out]; rintro e w' ⟨rfl, rfl⟩) | fail)
 exact bodyPost_ret (v := .pointer (some ⟨g, k * 2, none⟩)) (by simp [results, Tryz.results52, go_sem]) rfl ⟨rfl, rfl⟩
theorem ledger_account_no {g : Nat} {a : Int} (ha : ¬ isAcc a) (w : World) : Calls Tryz.prog 52 #[.pointer (some ⟨g, 0, none⟩), .int .i64 a] w fun e w' => e = .returned (.pointer none) ∧ w' = w := by
 have c1 : decide (0 ≤ a ∧ a < 10) = false := by unfold isAcc at ha; exact decide_eq_false ha
 have C1 := Lib.hid c1
 clear c1 ha
 go_enter Tryz.func52, Tryz.ntmps52
 go_wp2_with (first | (go_at_call 57; refine (bound_Account _ _).mono ?_; rw [C1.out]; rintro e w' ⟨rfl, rfl⟩) | fail)
 exact bodyPost_ret (v := .pointer none) (by simp [results, Tryz.results52, go_sem]) rfl ⟨rfl, rfl⟩
def accOf (A : Acc) (a : Int) : Int × Int := if isAcc a then A a.toNat else (0, 0)
theorem ledger_Free {N g gl : Nat} {A : Acc} {M : Cls Int} {w : World} (h : LdAt N g gl A M w) (a : Int) : Calls Tryz.prog 19 #[.pointer (some ⟨g, 0, none⟩), .int .i64 a] w fun e w' => e = .returned (.int .i64 (accOf A a).1) ∧ w' = w := by
 by_cases ha : isAcc a
 · rw [accOf, if_pos ha]
   obtain ⟨k, rfl, hk⟩ := isAcc_nat ha
   have hc := h.free hk
   rw [Int.toNat_natCast]
   obtain ⟨v, hv⟩ : ∃ v, v = (A k).1 := ⟨_, rfl⟩
   rw [← hv] at hc ⊢
   clear hv h ha
   have HK := Lib.hid hk
   clear hk
   go_enter Tryz.func19, Tryz.ntmps19
   go_wp2_with (first | (go_at_call 52; refine (ledger_account HK.out w).mono ?_; rintro e w' ⟨rfl, rfl⟩) | fail)
   exact bodyPost_ret (v := .int .i64 v) (by simp [results, Tryz.results19, go_sem]) rfl ⟨rfl, rfl⟩
 · rw [accOf, if_neg ha]
   have HA := Lib.hid ha
   clear h ha
   go_enter Tryz.func19, Tryz.ntmps19
   go_wp2_with (first | (go_at_call 52; refine (ledger_account_no HA.out w).mono ?_; rintro e w' ⟨rfl, rfl⟩) | fail)
   exact bodyPost_ret (v := .int .i64 0) (by simp [results, Tryz.results19, go_sem]) rfl ⟨rfl, rfl⟩
end
section
open Go.RowKit Go.Maps
section
variable {P : Program} {α : Type}
end
end
section
open Go.RowKit Go.Maps Go.Shelf
attribute [local go_sem] Oper.semAt_some
theorem wpl_index {P : Program} {w : World} {ops : Array Oper} {rest : List Oper} {o : Oper} {a : Act} {Q : Exit → Act → World → Prop} (hg : o.guard = none) (x i : Operand) (t : TypeId) (hop : o.op = Op.index t x i) {xv iv r : Value} (hx : a.eval x = xv) (hi : a.eval i = iv) (hr : (Instr.index t xv iv).run P w = .ok r w)
 (h : wpList P ops Q rest (a.put o.dst r) w) : wpList P ops Q (o :: rest) a w := by
 refine wpList_plain hg fun K hK => ?_
 unfold Oper.wp
 simp [execOp, hop, hx, hi, hr, Result.andThen]
 exact hK _ _ h
theorem accInfo : (Tryz.prog.info? 128).map (·.size) = some 20 := by kernel_rfl
theorem run_acc0 (A : Acc) (w : World) : (Instr.index 128 (.agg (accs A 10).toArray) (.int .i64 0)).run Tryz.prog w = .ok (.agg #[.int .i64 (A 0).1, .int .i64 (A 0).2]) w := by kernel_rfl
theorem run_acc1 (A : Acc) (w : World) : (Instr.index 128 (.agg (accs A 10).toArray) (.int .i64 1)).run Tryz.prog w = .ok (.agg #[.int .i64 (A 1).1, .int .i64 (A 1).2]) w := by kernel_rfl
theorem run_acc2 (A : Acc) (w : World) : (Instr.index 128 (.agg (accs A 10).toArray) (.int .i64 2)).run Tryz.prog w = .ok (.agg #[.int .i64 (A 2).1, .int .i64 (A 2).2]) w := by kernel_rfl
theorem run_acc3 (A : Acc) (w : World) : (Instr.index 128 (.agg (accs A 10).toArray) (.int .i64 3)).run Tryz.prog w = .ok (.agg #[.int .i64 (A 3).1, .int .i64 (A 3).2]) w := by kernel_rfl
theorem run_acc4 (A : Acc) (w : World) : (Instr.index 128 (.agg (accs A 10).toArray) (.int .i64 4)).run Tryz.prog w = .ok (.agg #[.int .i64 (A 4).1, .int .i64 (A 4).2]) w := by kernel_rfl
theorem run_acc5 (A : Acc) (w : World) : (Instr.index 128 (.agg (accs A 10).toArray) (.int .i64 5)).run Tryz.prog w = .ok (.agg #[.int .i64 (A 5).1, .int .i64 (A 5).2]) w := by kernel_rfl
theorem run_acc6 (A : Acc) (w : World) : (Instr.index 128 (.agg (accs A 10).toArray) (.int .i64 6)).run Tryz.prog w = .ok (.agg #[.int .i64 (A 6).1, .int .i64 (A 6).2]) w := by kernel_rfl
theorem run_acc7 (A : Acc) (w : World) : (Instr.index 128 (.agg (accs A 10).toArray) (.int .i64 7)).run Tryz.prog w = .ok (.agg #[.int .i64 (A 7).1, .int .i64 (A 7).2]) w := by kernel_rfl
theorem run_acc8 (A : Acc) (w : World) : (Instr.index 128 (.agg (accs A 10).toArray) (.int .i64 8)).run Tryz.prog w = .ok (.agg #[.int .i64 (A 8).1, .int .i64 (A 8).2]) w := by kernel_rfl
theorem run_acc9 (A : Acc) (w : World) : (Instr.index 128 (.agg (accs A 10).toArray) (.int .i64 9)).run Tryz.prog w = .ok (.agg #[.int .i64 (A 9).1, .int .i64 (A 9).2]) w := by kernel_rfl
theorem run_acc (A : Acc) {k : Nat} (hk : k < 10) (w : World) : (Instr.index 128 (.agg (accs A 10).toArray) (.int .i64 (k : Int))).run Tryz.prog w = .ok (.agg #[.int .i64 (A k).1, .int .i64 (A k).2]) w :=
 match k, hk with
 | 0, _ => run_acc0 A w
 | 1, _ => run_acc1 A w
 | 2, _ => run_acc2 A w
 | 3, _ => run_acc3 A w
 | 4, _ => run_acc4 A w
 | 5, _ => run_acc5 A w
 | 6, _ => run_acc6 A w
 | 7, _ => run_acc7 A w
 | 8, _ => run_acc8 A w
 | 9, _ => run_acc9 A w
set_option maxRecDepth 100000 in
set_option maxHeartbeats 1000000 in
theorem ledger_Issued {N g gl : Nat} {A : Acc} {M : Cls Int} {w : World} (h : LdAt N g gl A M w) : Calls Tryz.prog 81 #[.pointer (some ⟨g, 0, none⟩)] w fun e w' => e = .returned (.int .i64 (sumTo A 10)) ∧ Below w.heap.size w w' := by
 have hrg : w.rangeAt g 0 (accs A 10) := fun i v hv => by
  have hl := accs_len A 10
  have hi := (List.getElem?_eq_some_iff.1 hv).1
  rw [Nat.zero_add]
  refine cell_of h.blk ?_
  unfold lcells
  rw [List.getElem?_append_left hi]; exact hv
 have hok := h.ok
 obtain ⟨cs, hcs⟩ : ∃ cs, cs = (accs A 10).toArray := ⟨_, rfl⟩
 have hix := fun (k : Nat) (hk : k < 10) (w : World) => run_acc A hk w
 rw [← hcs] at hix
 have HRG := Lib.hid hrg
 have HIX := Lib.hid hix
 have HOK := Lib.hid hok
 have HCS := Lib.hid hcs
 clear h hrg hix hok hcs
 go_enter Tryz.func81, Tryz.ntmps81
 go_wp2_with (first
  | (refine wpList_load_mid rfl 128 _ rfl g 0 rfl (accs A 10) _ HRG.out Tryz.underlying128 rfl (by rw [accs_len]; exact accInfo) ?_; rw [← HCS.out])
  | fail)
 have tok1 : True := trivial
 go_loopw [3, 12] (fun s i wr => ∃ k : Nat, k ≤ 10 ∧ i = .int .i64 k ∧ s = .int .i64 (sumTo A k) ∧ Below w.heap.size w wr) (fun _ i _ => 10 - (intOf i).toNat)
 case atStart => exact ⟨0, by omega, rfl, rfl, Below.refl _ w⟩
 case round =>
  obtain ⟨k, hk, rfl, rfl, hb⟩ := hrel
  have HB := Lib.hid hb
  clear hb
  by_cases hlt : k < 10
  · have hlt' : (k : Int) < 10 := by omega
    obtain ⟨p, hp⟩ : ∃ p, p = (A k).1 := ⟨_, rfl⟩
    obtain ⟨q, hq⟩ : ∃ q, q = (A k).2 := ⟨_, rfl⟩
    obtain ⟨s0, hs0⟩ : ∃ s0, s0 = sumTo A k := ⟨_, rfl⟩
    have hix := HIX.out k hlt
    rw [← hp, ← hq] at hix
    have HI := Lib.hid hix
    have hn1 : IntKind.i64.wrap (p + q) = p + q := IntWalk.i64_in _ (by have := HOK.out.one hlt; have := HOK.out.free k; have := HOK.out.held k; unfold both at *; omega)
    have hn2 : IntKind.i64.wrap (s0 + (p + q)) = s0 + (p + q) := IntWalk.i64_in _ (by have := HOK.out.one hlt; have := HOK.out.sum k; have := HOK.out.part (n := k) (by omega); unfold both at *; omega)
    have hs1 : sumTo A (k + 1) = s0 + (p + q) := by rw [sumTo, hs0, hp, hq]; rfl
    have HS1 := Lib.hid hs1
    rw [← hs0]
    clear hix hs1 hp hq hs0
    go_wp2_with (first
     | (refine wpl_index rfl _ _ _ rfl rfl rfl (HI.out _) ?_)
     | fail)
    go_roundw
    case rel => exact ⟨k + 1, by omega, by go_num, by rw [HS1.out], HB.out.trans ((Below.refl _ wr).alloc (Nat.le_refl _) _ |>.mono HB.out.size)⟩
    case measure => simp [intOf]; omega
  · have hge : ¬ (k : Int) < 10 := by omega
    obtain rfl : k = 10 := by omega
    go_wp2_with fail
    exact bodyPost_ret (v := .int .i64 (sumTo A 10)) (by simp [results, Tryz.results81, go_sem]) rfl ⟨rfl, HB.out⟩
end
section
open Go.RowKit Go.Maps Go.Shelf
attribute [local go_sem] Oper.semAt_some
section
variable {P : Program} {α : Type}
theorem range_outerV {n : Nat} {g : Operand} {ps : Array Tmp} {assign body : Code} {Q : Exit → Act → World → Prop} {a : Act} {w : World} {gf : Nat} {lb : Array Value} (hg : a.eval g = .func (.func gf) #[] lb) (eg : ∀ args w, (callFunc gf args).run P w = .ok (.enter gf args) w)
 {encs : α → Array Value} {xs : List α} {G : FP} {w0 : World} (hit : IterF P n gf lb encs xs G w0) (hg0 : Grow w0 w) (hG : ∀ k, G k → k < w0.heap.size ∧ w.heap[k]? = w0.heap[k]?) (hps : ∀ x, (encs x).size = ps.size)
 (Ψ : FP) (hΨ : ∀ k, Ψ k → k < w.heap.size) (I : List α → FP → World → Prop) (hI : Stab w.heap.size I) (h0 : I [] (fun _ => False) w) (up : α → Array Value → Array Value)
 (hassign : ∀ (l : Nat) (x : α) (W : World) (K : Act → World → Prop), K { tmps := up x a.tmps, defers := [] } W → assign.wpIn (Fence.wide.inRound l) n P (Exit.then K (fun _ _ _ => False)) { tmps := (ps.zip (encs x)).foldl (fun t (p, v) => t.setIfInBounds p v) a.tmps, defers := [] } W)
 (hbody : ∀ (l : Nat) (pre : List α) (x : α) (Φ : FP) (W : World), (pre ++ [x]) <+: xs → I pre Φ W → w.heap.size < l → (∀ k, Φ k → l + 1 ≤ k) → (∃ r, W.heap[l]? = some (.loop r)) → body.wpIn (Fence.wide.inRound l) n P (bodyI Ψ Φ I (fun _ _ _ _ => False) (pre ++ [x]) W) { tmps := up x a.tmps, defers := [] } W)
 (hdone : ∀ (D : Nat) (Φ : FP) (W : World), I xs Φ W → Only Ψ (fun _ => False) w W → w.heap.size ≤ D → ¬ Φ D → W.heap[D]? = some (.deferred (some [])) → Q .normal { a with defers := { target := .collected D, args := #[] } :: a.defers } W) :
 (Code.rangeFunc g ps assign body).wpIn Fence.wide (n + 2) P Q a w :=
 range_outerF hg eg hit hg0 hG hps Ψ hΨ I (fun _ _ _ _ => False) hI (fun c _ _ _ h => h.elim) h0 (fun x => { tmps := up x a.tmps, defers := [] }) hassign hbody hdone (fun D Φ c pre W _ h => h.elim)
end
set_option maxRecDepth 100000 in
theorem ledger_row {N g gl : Nat} {A : Acc} {M : Cls Int} {w : World} (h : LdAt N g gl A M w) {a : Int} (ha : (Lit.int .i64 a).wf = true) : Calls Tryz.prog 51 #[.pointer (some ⟨g, 0, none⟩), .int .i64 a] w fun e w' => ∃ f, e = .returned f ∧ Way Tryz.prog encs_I f (rowOf M a) w' ∧ Below w.heap.size w w' := by
 have hp := h.ptr
 obtain ⟨F, hF, -⟩ := h.gr
 have HF := Lib.hid (And.intro hF (And.intro h.len ha))
 clear h hF ha
 go_enter Tryz.func51, Tryz.ntmps51
 go_wp2_with (first | (go_at_call 103; refine (grid_Row_I HF.out.1 (by have := HF.out.2.1; omega) HF.out.2.2).mono ?_; rintro e w' ⟨f, rfl, hw, hb⟩; have HW := Lib.hid (And.intro hw hb); clear hw hb) | fail)
 go_ret
 exact ⟨_, rfl, HW.out⟩
def LckJ (N0 gb : Nat) (pre : List (Int × Int)) (Φ : FP) (W : World) : Prop := (∀ k, ¬ Φ k) ∧ Boxed W gb 3 (.int .i64 (maxTo pre)) ∧ N0 ≤ W.heap.size
theorem LckJ.stab {N0 gb : Nat} (h1 : gb < N0) : Stab N0 (LckJ N0 gb) := by
 rintro pre Φ W ⟨h0, h, hs⟩
 exact ⟨fun k hk => (h0 k hk).elim, hs, fun W' hg hk => ⟨h0, (hk gb (.inl h1)).trans h, Nat.le_trans hs hg.size⟩⟩
set_option maxHeartbeats 4000000 in
set_option maxRecDepth 100000 in
theorem locked_of (l : Value) (a : Int) (xs : List (Int × Int)) (w : World) (hrow : ∀ w', Below w.heap.size w w' → Calls Tryz.prog 51 #[l, .int .i64 a] w' fun e w'' => ∃ f, e = .returned f ∧ Way Tryz.prog encs_I f xs w'' ∧ Below w'.heap.size w' w'') :
 Calls Tryz.prog 18 #[l, .int .i64 a] w fun e w' => e = .returned (.int .i64 (maxTo xs)) ∧ Below w.heap.size w w' := by
 refine (callsIn_wide (n := 2)).1 ?_
 refine callsIn_of_wp_marks Tryz.func18 rfl trivial ?_ rfl
 simp only [Tryz.ntmps18, List.size_toArray, List.length_cons, List.length_nil, Nat.reduceAdd, Nat.reduceSub, Array.replicate_succ, Array.replicate_zero, List.push_toArray, List.append_toArray, List.nil_append, List.cons_append]
 have HROW := Lib.hid hrow
 clear hrow
 obtain ⟨w1, hw1⟩ : ∃ w1, w1 = w.alloc (.cells #[.int .i64 0] 3) := ⟨_, rfl⟩
 have hb1 : Below w.heap.size w w1 := by rw [hw1]; exact (Below.refl _ w).alloc (Nat.le_refl _) _
 have x0 : Boxed w1 w.heap.size 3 (.int .i64 0) := by rw [hw1]; exact Boxed.new w _ _
 have hs1 : w1.heap.size = w.heap.size + 1 := by rw [hw1]; simp
 have HW1 := Lib.hid hw1
 have H1 := Lib.hid (And.intro hb1 (And.intro x0 hs1))
 clear hw1 hb1 x0 hs1
 gi_wp2_with (first
  | (refine ⟨trivial, ?_⟩; gi_at_call 51; rw [← HW1.out]; refine (callsIn_wide.2 (HROW.out w1 H1.out.1)).mono ?_; rintro e w2 ⟨f, rfl, hway, hb⟩; obtain ⟨gf, lb, rfl, hit⟩ := hway; have H2 := Lib.hid (And.intro hit hb); clear hit hb)
  | fail)
 obtain ⟨gb, hgb⟩ : ∃ gb, gb = w.heap.size := ⟨_, rfl⟩
 obtain ⟨hb1, x0, hs1⟩ := H1.out
 rw [← hgb] at x0 hs1 ⊢
 obtain ⟨hit, hb2⟩ := H2.out
 have x2 : Boxed w2 gb 3 (.int .i64 (maxTo [])) := (hb2.block gb (by omega)).trans x0
 have hs2 := hb2.size
 have hgl : gb < w2.heap.size := by omega
 have HGB := Lib.hid hgb
 clear hgb
 refine range_outerV (n := 0) (gf := gf) (lb := lb) rfl hit.1 (hit.2 0) (Grow.refl w2) (fun k hk => ⟨hk, rfl⟩) (fun _ => rfl)
  (fun k => k = gb) (by rintro k rfl; exact hgl) (LckJ w2.heap.size gb) (LckJ.stab hgl) ⟨fun _ h => h, x2, Nat.le_refl _⟩
  (fun x T => ((T.setIfInBounds 11 (.int .i64 x.1)).setIfInBounds 12 (.int .i64 x.2)).setIfInBounds 7 (.int .i64 x.2)) ?assign ?body ?done
 case assign =>
  intro l x W K hK
  simp only [encs_I]
  gi_wp2
  exact hK
 case body =>
  rintro l pre x Φ W hpx ⟨hno, hbx, hsz⟩ hl hΦ -
  have c1 := hbx.cell
  have f1 := hbx.frozen
  have hset : Boxed (W.setCell ⟨gb, 0, none⟩ (.int .i64 (max (maxTo pre) x.2))) gb 3 (.int .i64 (max (maxTo pre) x.2)) := hbx.set _
  obtain ⟨m, hm⟩ : ∃ m, m = maxTo pre := ⟨_, rfl⟩
  obtain ⟨y, hy⟩ : ∃ y, y = x.2 := ⟨_, rfl⟩
  rw [← hm] at c1 hset
  rw [← hy] at hset ⊢
  have hmx : maxTo (pre ++ [x]) = max m y := by rw [maxTo_snoc, hm, hy]
  have HS := Lib.hid (And.intro hset (And.intro hno (And.intro hsz hmx)))
  clear hbx hset hno hsz hmx hm hy
  gi_wp2_with fail
  obtain ⟨hset, hno, hsz, hmx⟩ := HS.out
  exact ⟨Φ, fun k h => .inl h, ⟨grow_set, fun k hk h1 h2 => Below.heap_setCell _ _ _ k h1⟩, hno, by rw [hmx]; exact hset, by simp [World.setCell]; exact hsz⟩
 case done =>
  rintro D Φ W3 ⟨hno, hbx, hsz⟩ hon hD hnD hK
  have c1 := hbx.cell
  have HD := Lib.hid (And.intro hno (And.intro hon (And.intro hD hK)))
  clear hno hbx hon hD hK hnD
  gi_wp2_with fail
  obtain ⟨hno, hon, hD, hK⟩ := HD.out
  have hgb := HGB.out
  refine marks_leave [D] W3 (by simp) (fun d hd => ?_) (fun w' hg hk => ⟨.int .i64 (maxTo xs), by simp [results, Tryz.results18, go_sem], rfl, ?_⟩)
  · simp only [List.mem_cons, List.not_mem_nil, or_false] at hd
    subst hd; exact hK
  · have hg0 : Grow w w' := ((Grow.of_below hb1).trans (Grow.of_below hb2)).trans (hon.grow.trans hg)
    refine ⟨hg0.os, hg0.tape, hg0.output, hg0.size, fun j hj => ?_⟩
    rw [hk j (by simp; omega), hon.block j (by omega) (by omega) (fun h => h), hb2.block j (by omega)]
    exact hb1.block j hj
theorem ledger_Locked {N g gl : Nat} {A : Acc} {M : Cls Int} {w : World} (h : LdAt N g gl A M w) {a : Int} (ha : (Lit.int .i64 a).wf = true) : Calls Tryz.prog 18 #[.pointer (some ⟨g, 0, none⟩), .int .i64 a] w fun e w' => e = .returned (.int .i64 (lockedOf M a)) ∧ Below w.heap.size w w' :=
 locked_of _ a (rowOf M a) w (fun w' hb => ledger_row (h.below hb) ha)
end
section
open Go.RowKit Go.Maps Go.Shelf
theorem LdAt.drewd {N g gl : Nat} {A : Acc} {M : Cls Int} {w : World} (h : LdAt N g gl A M w) : LdAt N g gl A M w.drew := h.below (Below.refl _ w).drew
def spent (A : Acc) (M : Cls Int) (a n : Int) (back : Bool) : Acc := if spendE A M a n back = 0 then spendA A a n else A
end
section
open Go.RowKit Go.Maps Go.Shelf
section
variable {N g gl : Nat} {A : Acc} {M : Cls Int} {w w' : World}
end
def giveA (A : Acc) (a : Nat) (n : Int) : Acc := upd A a ((A a).1 + n, (A a).2)
theorem giveA_ok {A : Acc} (h : AccOk A) {a : Nat} (ha : a < 10) {n : Int} (hn : 0 ≤ n) (hs : sumTo A 10 + n ≤ 1073741824) : AccOk (giveA A a n) := by
 have := h.free a
 exact h.upd ha (by simp only; omega) (h.held a) (by unfold both; simp only; omega)
theorem sum_spendA (A : Acc) {a : Int} (ha : isAcc a) (n : Int) : sumTo (spendA A a n) 10 = sumTo A 10 - n := by
 unfold isAcc at ha
 rw [spendA, sumTo_upd, if_pos (by omega)]; unfold both; simp only; omega
def takeA (A : Acc) (a : Nat) (m : Int) : Acc := upd A a ((A a).1, (A a).2 - m)
end
section
open Go.RowKit Go.Maps Go.Shelf
section
variable {N g gl : Nat} {A : Acc} {M : Cls Int} {w : World}
def transE (A : Acc) (M : Cls Int) (a b n : Int) : Int := if isAcc b then spendE A M a n (decide (a = b)) else 1
def transA (A : Acc) (M : Cls Int) (a b n : Int) : Acc := if transE A M a b n = 0 then giveA (spendA A a n) b.toNat n else A
end
end
section
open Go.RowKit Go.Maps Go.Shelf
def lockM (M : Cls Int) (a i n : Int) : Cls Int := if ¬ isAcc a then M else if n = 0 ∨ ¬ isBal n then cdel M a i else cput M a i n
theorem lockM_len {M : Cls Int} (h : SrtC M) (a i n : Int) : (lockM M a i n).length ≤ M.length + 1 := by
 unfold lockM
 split
 · omega
 · split
   · have := h.length_del a i; omega
   · rw [h.length_put]; split <;> omega
section
variable {N g gl : Nat} {A : Acc} {M : Cls Int} {w : World}
theorem LdAt.srt (h : LdAt N g gl A M w) : SrtC M := by obtain ⟨F, h1, _⟩ := h.gr; exact h1.1
end
end
end Go.Proofs.YtbpemdihoabbcaaGreat
