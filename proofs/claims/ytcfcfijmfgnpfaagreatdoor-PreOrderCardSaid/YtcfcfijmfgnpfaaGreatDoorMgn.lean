/-
  Joined texts.
-/
import Derived.Test.YtcfcfijmfgnpfaaGreatDoorMgm

section
namespace Go.Proofs.YtcfcfijmfgnpfaaGreatDoor
open Go.RowKit Go.Maps
set_option linter.unusedVariables false
set_option linter.unusedSimpArgs false

abbrev Pm := List (Dg × (Int × Cl))
abbrev Um := List (Dg × Int)
/-- A ledger, a Pre, boxes. -/
def P8 (g pb : Nat) (A : Acc) (M : Cls Int) (P : Pm) (U : Um) (bs : List (Nat × List Value)) (w0 w : World) : Prop :=
  ∃ F, ((ldM g A M).star (prM pb P U)).is F w ∧ (∀ k, F k → w0.heap.size ≤ k) ∧ Below w0.heap.size w0 w ∧ ∀ b ∈ bs, w.rangeAt b.1 0 b.2 ∧ ¬ F b.1 ∧ b.1 < w.heap.size ∧ w0.heap.size ≤ b.1
section
variable {g pb : Nat} {A A' : Acc} {M M' : Cls Int} {P P' : Pm} {U U' : Um} {bs : List (Nat × List Value)} {w0 w w' : World}
theorem P8.bl (h : P8 g pb A M P U bs w0 w) : Below w0.heap.size w0 w := by obtain ⟨F, h1, h2, h3, h4⟩ := h; exact h3
theorem P8.below (h : P8 g pb A M P U bs w0 w) (hb : Below w.heap.size w w') : P8 g pb A M P U bs w0 w' := by
  obtain ⟨F, h1, h2, h3, h4⟩ := h
  exact ⟨F, Mem.below h1 hb, h2, h3.trans (hb.mono h3.size), fun b hm => by
    obtain ⟨k1, k2, k3, k4⟩ := h4 b hm
    exact ⟨rangeAt_block k1 (hb.block _ k3), k2, Nat.lt_of_lt_of_le k3 hb.size, k4⟩⟩
theorem P8.to {F : FP} (h1 : ((ldM g A M).star (prM pb P U)).is F w) (h2 : ∀ k, F k → w0.heap.size ≤ k) (h3 : Below w0.heap.size w0 w) (h4 : ∀ b ∈ bs, w.rangeAt b.1 0 b.2 ∧ ¬ F b.1 ∧ b.1 < w.heap.size ∧ w0.heap.size ≤ b.1) (ht : ((ldM g A' M').star (prM pb P' U')).to F w w') : P8 g pb A' M' P' U' bs w0 w' := by
  obtain ⟨F', k1, k2, k3⟩ := ht
  have hs := h3.size
  have k0 := k3.grow.size
  refine ⟨F', k1, fun k e => (k2 k e).elim (h2 k) (fun q => Nat.le_trans hs q), h3.trans (k3.below hs h2 (fun k q => q.elim)), fun b hm => ?_⟩
  obtain ⟨q1, q2, q3, q4⟩ := h4 b hm
  exact ⟨rangeAt_block q1 (k3.block _ q3 q2 (fun q => q)), fun e => (k2 _ e).elim q2 (fun q => by omega), Nat.lt_of_lt_of_le q3 k0, q4⟩
theorem P8.new (h : P8 g pb A M P U bs w0 w) {b : Nat} {l : List Value} (hr : w'.rangeAt b 0 l) (hb : Below w.heap.size w w') (hn : w.heap.size ≤ b) (hl : b < w'.heap.size) : P8 g pb A M P U ((b, l) :: bs) w0 w' := by
  obtain ⟨F, h1, h2, h3, h4⟩ := h
  refine ⟨F, Mem.below h1 hb, h2, h3.trans (hb.mono h3.size), fun x hm => ?_⟩
  rcases List.mem_cons.1 hm with rfl | hm
  · exact ⟨hr, fun e => by have := Mem.lt _ h1 e; omega, hl, Nat.le_trans h3.size hn⟩
  · obtain ⟨k1, k2, k3, k4⟩ := h4 x hm
    exact ⟨rangeAt_block k1 (hb.block _ k3), k2, Nat.lt_of_lt_of_le k3 hb.size, k4⟩
theorem P8.hash (h : P8 g pb A M P U bs w0 w) (d : Dg) : P8 g pb A M P U ((w.heap.size, Bs d.s) :: bs) w0 (w.alloc (.cells (Bs d.s).toArray 41)) :=
  h.new hashBox ((Below.refl _ w).alloc (Nat.le_refl _) _) (Nat.le_refl _) (by simp)
theorem P8.less {bs' : List (Nat × List Value)} (h : P8 g pb A M P U bs w0 w) (hs : ∀ b ∈ bs', b ∈ bs) : P8 g pb A M P U bs' w0 w := by
  obtain ⟨F, h1, h2, h3, h4⟩ := h
  exact ⟨F, h1, h2, h3, fun b hm => h4 b (hs b hm)⟩
theorem P8.box (h : P8 g pb A M P U bs w0 w) {b : Nat} {l : List Value} (hm : (b, l) ∈ bs) : w.rangeAt b 0 l := by obtain ⟨F, h1, h2, h3, h4⟩ := h; exact (h4 _ hm).1
theorem P8.lt (h : P8 g pb A M P U bs w0 w) {b : Nat} {l : List Value} (hm : (b, l) ∈ bs) : b < w.heap.size := by obtain ⟨F, h1, h2, h3, h4⟩ := h; exact (h4 _ hm).2.2.1
theorem P8.begin {w : World} {gl : Nat} (hb : Below w0.heap.size w0 w) (h : LdAt w.heap.size g gl A M w') (hb' : Below w.heap.size w w') : P8 g w'.heap.size A M [] [] [] w0 (w'.alloc (.cells #[.map none, .map none] 94)) := by
  obtain ⟨FL, h1, h2⟩ := LdX.of h
  have h3 : (ldM g A M).is FL w' := by
    obtain ⟨gl, F, k1, k2, k3, k4, k5, k6, k7⟩ := h1
    exact ⟨gl, F, k1, k2, fun k hk => ⟨Nat.zero_le _, (k3 k hk).2⟩, Nat.zero_le _, k5, k6, k7⟩
  have hs := hb.size
  have hs' := hb'.size
  have hal : Below w'.heap.size w' (w'.alloc (.cells #[.map none, .map none] 94)) := (Below.refl _ w').alloc (Nat.le_refl _) _
  exact ⟨_, Mem.join_new h3 hal (prM_new w') (fun k e => Nat.le_of_eq e.symm), fun k e => e.elim (fun e => Nat.le_trans hs (h2 k e)) (fun e => by omega), (hb.trans (hb'.mono hs)).trans (hal.mono (by omega)), fun b hm => by cases hm⟩
theorem P8.srt (h : P8 g pb A M P U bs w0 w) : SrtD P ∧ SrtD U := by
  obtain ⟨F, h1, -⟩ := h
  obtain ⟨B, ⟨o, o2, m, hp⟩, -⟩ := Mem.r h1
  exact ⟨hp.rel.1, hp.mu.srt⟩
theorem P8.note (h : P8 g pb A M P U bs w0 w) (hG : Glob w0) {d : Nat} {c : Cl} {v : Value} (hrd : RdC w d v c) {who : Int} (hw : (Lit.int .i64 who).wf = true) :
    Calls Tryz.prog 16 #[.pointer (some ⟨pb, 0, none⟩), .pointer (some ⟨g, 0, none⟩), .int .i64 who, v] w fun e w' => e = .returned (.tuple #[.agg (Bs (noteH A M P who c).s).toArray, .int .i64 (noteE A M P who c)]) ∧ P8 g pb (noteA A M P who c) M (noteP A M P who c) U bs w0 w' := by
  obtain ⟨F, h1, h2, h3, h4⟩ := h
  exact (pre_Note h1 (hG.below h3 hG.lt) hrd hw).mono fun e w' ⟨he, ht⟩ => ⟨he, P8.to h1 h2 h3 h4 ht⟩
theorem P8.unnote (h : P8 g pb A M P U bs w0 w) (d : Dg) (who : Int) :
    Calls Tryz.prog 18 #[.pointer (some ⟨pb, 0, none⟩), .pointer (some ⟨g, 0, none⟩), .int .i64 who, .agg (Bs d.s).toArray] w fun e w' => e = .returned (.int .i64 (unnE P U who d)) ∧ P8 g pb (unnA A P U who d) M (unnP P U who d) U bs w0 w' := by
  obtain ⟨F, h1, h2, h3, h4⟩ := h
  exact (pre_Unnote h1 d who).mono fun e w' ⟨he, ht⟩ => ⟨he, P8.to h1 h2 h3 h4 ht⟩
theorem P8.want (h : P8 g pb A M P U bs w0 w) (d : Dg) (hl : U.length ≤ 100000) (k1 : 0 ≤ wantN U d) (k2 : wantN U d ≤ 1000000) :
    Calls Tryz.prog 20 #[.pointer (some ⟨pb, 0, none⟩), .agg (Bs d.s).toArray] w fun e w' => e = .returned (.tuple #[]) ∧ P8 g pb A M P (wantU U d) bs w0 w' := by
  obtain ⟨F, h1, h2, h3, h4⟩ := h
  obtain ⟨B, hB, -, ht⟩ := Mem.r h1
  exact (pre_Want hB hl d k1 k2).mono fun e w' ⟨he, q⟩ => ⟨he, P8.to h1 h2 h3 h4 (ht _ _ q)⟩
theorem P8.unwant (h : P8 g pb A M P U bs w0 w) (d : Dg) (hl : U.length ≤ 100000) (k1 : 0 ≤ wantN U d) (k2 : wantN U d ≤ 1000000) :
    Calls Tryz.prog 22 #[.pointer (some ⟨pb, 0, none⟩), .agg (Bs d.s).toArray] w fun e w' => e = .returned (.tuple #[]) ∧ P8 g pb A M P (unwantU U d) bs w0 w' := by
  obtain ⟨F, h1, h2, h3, h4⟩ := h
  obtain ⟨B, hB, -, ht⟩ := Mem.r h1
  exact (pre_Unwant hB hl d k1 k2).mono fun e w' ⟨he, q⟩ => ⟨he, P8.to h1 h2 h3 h4 (ht _ _ q)⟩
theorem P8.wanted (h : P8 g pb A M P U bs w0 w) (d : Dg) :
    Calls Tryz.prog 26 #[.pointer (some ⟨pb, 0, none⟩), .agg (Bs d.s).toArray] w fun e w' => e = .returned (.int .i64 (wantN U d)) ∧ P8 g pb A M P U bs w0 w' ∧ Below w.heap.size w w' := by
  obtain ⟨F, h1, -⟩ := id h
  obtain ⟨B, hB, -, -⟩ := Mem.r h1
  exact (pre_Wanted hB d).mono fun e w' ⟨he, q⟩ => ⟨he, h.below q, q⟩
theorem P8.get (h : P8 g pb A M P U bs w0 w) (d : Dg) : Calls Tryz.prog 24 #[.pointer (some ⟨pb, 0, none⟩), .agg (Bs d.s).toArray] w fun e w' =>
    ((dget P d = none ∧ e = .returned (.tuple #[.agg zero4, .bool false])) ∨ ∃ q y, dget P d = some q ∧ e = .returned (.tuple #[.agg (c4 y).toArray, .bool true]) ∧ RdZ (fun b => b < w.heap.size) w' 4 (.agg (c4 y).toArray) q.2) ∧ P8 g pb A M P U bs w0 w' ∧ Below w.heap.size w w' := by
  obtain ⟨F, h1, -⟩ := id h
  obtain ⟨B, hB, -, -⟩ := Mem.r h1
  exact (pre_Get hB d).mono fun e w' ⟨he, q⟩ => ⟨he, h.below q, q⟩
theorem P8.free (h : P8 g pb A M P U bs w0 w) (a : Int) : Calls Tryz.prog 30 #[.pointer (some ⟨g, 0, none⟩), .int .i64 a] w fun e w' => e = .returned (.int .i64 (accOf A a).1) ∧ w' = w := by
  obtain ⟨F, h1, -⟩ := id h
  obtain ⟨B, hB, -, -⟩ := Mem.l h1
  exact ledger_FreeX (N := 0) hB a
theorem P8.held (h : P8 g pb A M P U bs w0 w) (a : Int) : Calls Tryz.prog 32 #[.pointer (some ⟨g, 0, none⟩), .int .i64 a] w fun e w' => e = .returned (.int .i64 (accOf A a).2) ∧ w' = w := by
  obtain ⟨F, h1, -⟩ := id h
  obtain ⟨B, hB, -, -⟩ := Mem.l h1
  exact ledger_HeldX (N := 0) hB a
/-- What is noted, told. -/
def toldP (P : Pm) : List (Dg × Int) := P.map fun x => (x.1, x.2.1)
theorem P8.all (h : P8 g pb A M P U bs w0 w) (hl : P.length ≤ 50) : Calls Tryz.prog 37 #[.pointer (some ⟨pb, 0, none⟩)] w fun e w' => ∃ bx v, e = .returned (.func (.func 72) #[] #[.pointer (some ⟨bx, 0, none⟩)]) ∧ Boxed w' bx 127 v ∧ OwnR pair_H (bx + 1) v (toldP P) w' ∧ w.heap.size ≤ bx ∧ Below w.heap.size w w' := by
  obtain ⟨F, h1, -⟩ := id h
  obtain ⟨B, ⟨o, o2, m, hp⟩, -, -⟩ := Mem.r h1
  have e : whoL m = toldP P := hp.rel.who hp.mo.srt
  have := pre_All hp.blk hp.mo (by rw [hp.rel.len hp.mo.srt]; omega)
  rwa [e] at this
theorem P8.items (h : P8 g pb A M P U bs w0 w) (hl : P.length ≤ 50) : Calls Tryz.prog 29 #[.pointer (some ⟨pb, 0, none⟩)] w fun e w' => ∃ v, e = .returned (.tuple #[v, .bool true]) ∧ OwnR itm_H w.heap.size v (toldP P) w' ∧ P8 g pb A M P U bs w0 w' ∧ Below w.heap.size w w' := by
  refine (law8_itemsW (some ⟨pb, 0, none⟩) (toldP P) w (fun W hb => (h.below hb).all hl) (by simpa [toldP] using hl)).mono ?_
  rintro e w' ⟨v, he, ho, hb⟩
  exact ⟨v, he, ho, h.below hb, hb⟩
end
theorem wantN_want {U : Um} (h : SrtD U) (d k : Dg) : wantN (wantU U d) k = if k = d then wantN U d + 1 else wantN U k := by
  have e : wantN (wantU U d) k = (dget (dput U d (wantN U d + 1)) k).getD 0 := rfl
  rw [e, h.get_put]
  by_cases e : k = d
  · rw [if_pos e, if_pos e]; rfl
  · rw [if_neg e, if_neg e]; rfl
theorem wantN_unwant {U : Um} (h : SrtD U) (d k : Dg) (h0 : 0 ≤ wantN U d) : wantN (unwantU U d) k = if k = d then max 0 (wantN U d - 1) else wantN U k := by
  unfold unwantU
  by_cases c0 : wantN U d = 0
  · rw [if_pos c0]
    by_cases e : k = d
    · rw [if_pos e, e, c0]; rfl
    · rw [if_neg e]
  · rw [if_neg c0]
    by_cases c1 : wantN U d = 1
    · rw [if_pos c1]
      have e0 : wantN (ddel U d) k = (dget (ddel U d) k).getD 0 := rfl
      rw [e0, h.get_del]
      by_cases e : k = d
      · rw [if_pos e, if_pos e, c1]; rfl
      · rw [if_neg e, if_neg e]; rfl
    · rw [if_neg c1]
      have e0 : wantN (dput U d (wantN U d - 1)) k = (dget (dput U d (wantN U d - 1)) k).getD 0 := rfl
      rw [e0, h.get_put]
      by_cases e : k = d
      · rw [if_pos e, if_pos e]; simp only [Option.getD_some]; omega
      · rw [if_neg e, if_neg e]; rfl
theorem SrtD.nil {β : Type} : SrtD ([] : List (Dg × β)) := List.Pairwise.nil
theorem rdC_leaf (w : World) (k t n : Int) : RdC w 1 (.agg #[.int .i64 k, .int .i64 t, .int .i64 n, .slice none 0 0]) ⟨k, t, n, []⟩ :=
  ⟨none, 0, rfl, fun i hi => absurd hi (Nat.not_lt_zero i)⟩
def rmk (n : Int) : Cl := ⟨1, 0, n, []⟩
def Ak : Acc := accL [0, 100]
def Ak1 : Acc := reserveA Ak [] 1 5
def Ak2 : Acc := unheld Ak1 1 5 1
theorem newOk_k : newOk [0, 100] := by
  refine ⟨by simp, fun k hk => ?_, by decide +kernel⟩
  match k, hk with
  | 0, _ => decide
  | 1, _ => decide
theorem spendE_k : spendE Ak [] 1 5 false = 0 := by decide +kernel
theorem free_k : (accOf Ak2 1).1 = 100 := by decide +kernel
theorem noteE_k : noteE Ak [] [] 1 (rmk 3) = 0 := by
  unfold noteE
  rw [if_neg (by rw [show okC 3 (rmk 3) = true from by decide +kernel]; decide), if_neg (by rw [show dget ([] : Pm) (dgOf (rmk 3)) = none from rfl]; decide), if_neg (by decide)]
  exact spendE_k
def dk : Dg := dgOf (rmk 3)
def Pk : Pm := dput [] dk (1, rmk 3)
def Uk : Um := wantU [] dk
theorem wantN_nil (d : Dg) : wantN [] d = 0 := rfl
theorem wantN_k : wantN Uk dk = 1 := by rw [Uk, wantN_want SrtD.nil, if_pos rfl, wantN_nil]; rfl
theorem get_k : dget Pk dk = some (1, rmk 3) := by rw [Pk, SrtD.nil.get_put, if_pos rfl]
theorem srtU_k : SrtD Uk := SrtD.nil.put _ _
theorem unnE_k : unnE Pk Uk 1 dk = 9 := by unfold unnE; rw [get_k]; simp [wantN_k]
theorem unnE_k2 : unnE Pk (unwantU Uk dk) 1 dk = 0 := by
  unfold unnE
  rw [get_k]
  have : wantN (unwantU Uk dk) dk = 0 := by rw [wantN_unwant srtU_k _ _ (by rw [wantN_k]; decide), if_pos rfl, wantN_k]; rfl
  simp [this]
theorem lenU_k : Uk.length ≤ 100000 := by rw [Uk, wantU, SrtD.nil.length_put]; decide
set_option maxRecDepth 100000 in
set_option maxHeartbeats 4000000 in
/-- What is wanted stays. -/
theorem law8_known (w : World) (hG : Glob w) : Calls Tryz.prog 14 #[] w fun e w' => e = .returned (.bool true) ∧ Below w.heap.size w w' := by
  have hw1 : (Lit.int .i64 1).wf = true := by decide
  obtain ⟨wz, hw⟩ : ∃ w0, w0 = w.alloc (.cells #[.int .i64 0, .int .i64 100] 3) := ⟨_, rfl⟩
  have hrd : RdI wz (.slice (some ⟨w.heap.size, 0, none⟩) 2 2) [0, 100] := by rw [hw]; exact RdI.lit w 3 [0, 100] 2 rfl
  have hb0 : Below w.heap.size w wz := by rw [hw]; exact (Below.refl _ w).alloc (Nat.le_refl _) _
  have HW := Lib.hid hw
  have H0 := Lib.hid (And.intro hrd (And.intro hb0 hG))
  clear hw hrd hb0 hG
  go_enter Tryz.func14, Tryz.ntmps14
  have tok1 : True := trivial
  go_wp2_with (first
    | (go_at_call 11; rw [← HW.out]; refine (ledger_New_ok H0.out.1 (by decide) newOk_k).mono ?_; rintro e w1 ⟨g, gl, rfl, hl, hb⟩; have H1 := Lib.hid (And.intro hl hb); clear hl hb)
    | (go_at_call 13; refine (pre_New w1).mono ?_; rintro e w' ⟨rfl, hw'⟩; have hp := P8.begin H0.out.2.1 H1.out.1 H1.out.2; rw [← hw'] at hp; obtain ⟨pb, hpb⟩ : ∃ b, b = w1.heap.size := ⟨_, rfl⟩; rw [← hpb] at hp; rw [← hpb]; have H2 := Lib.hid (show P8 g pb Ak [] [] [] [] w w' from hp); clear hp hw' hpb)
    | (go_at_call 16; refine (H2.out.note H0.out.2.2 (rdC_leaf _ 1 0 3) hw1).mono ?_; rw [show (⟨1, 0, 3, []⟩ : Cl) = rmk 3 from rfl]; unfold noteH noteA noteP; rw [noteE_k, if_pos rfl, if_pos rfl, if_pos rfl]; rintro e w3 ⟨rfl, hp⟩; rw [show dgOf (rmk 3) = dk from rfl] at hp; rw [show dgOf (rmk 3) = dk from rfl]; have H3 := Lib.hid (show P8 g pb Ak1 [] Pk [] [] w w3 from hp); clear hp)
    | (refine wpl_allocR (r := hshR) rfl rfl rfl ?_; intro C hC)
    | (refine wpl_storeR (r := hshR) (t := dk) (C := C) (b := w3.heap.size) _ _ rfl rfl rfl rfl rfl (World.alloc_heap_new _ _) hC ?_; rw [World.setRow_alloc_new]; obtain ⟨hb, hhb⟩ : ∃ b, b = w3.heap.size := ⟨_, rfl⟩; have hp := H3.out.hash dk; obtain ⟨w4, hw4⟩ : ∃ W, W = w3.alloc (.cells (hshR.f dk).toArray hshR.T) := ⟨_, rfl⟩; rw [show w3.alloc (.cells (Bs dk.s).toArray 41) = w4 from hw4.symm, ← hhb] at hp; rw [← hw4, ← hhb]; have H4 := Lib.hid hp; clear hp hw4 hhb)
    | (refine wpl_loadR (r := hshR) (t := dk) _ rfl rfl rfl (by first | exact H7.out.box List.mem_cons_self | exact H6.out.box List.mem_cons_self | exact H5.out.box List.mem_cons_self | exact H4.out.box List.mem_cons_self) ?_)
    | (go_at_call 20; refine (H4.out.want dk (by decide) (by decide) (by decide)).mono ?_; rintro e w5 ⟨rfl, hp⟩; have H5 := Lib.hid (show P8 g pb Ak1 [] Pk Uk _ w w5 from hp); clear hp)
    | (go_at_call 18; have _t := tok1; refine (H5.out.unnote dk 1).mono ?_; unfold unnA unnP; rw [unnE_k, if_neg (by decide), if_neg (by decide)]; rintro e w6 ⟨rfl, hp⟩; have H6 := Lib.hid hp; clear hp tok1)
    | (go_at_call 22; refine (H6.out.unwant dk lenU_k (by rw [wantN_k]; decide) (by rw [wantN_k]; decide)).mono ?_; rintro e w7 ⟨rfl, hp⟩; have H7 := Lib.hid hp; clear hp)
    | (go_at_call 18; refine (H7.out.unnote dk 1).mono ?_; unfold unnA unnP; rw [unnE_k2, if_pos rfl, if_pos rfl]; rintro e w8 ⟨rfl, hp⟩; have H8 := Lib.hid (show P8 g pb Ak2 [] _ _ _ w w8 from hp); clear hp)
    | (go_at_call 30; refine (H8.out.free 1).mono ?_; rw [free_k]; rintro e w' ⟨rfl, hw'⟩; rw [hw']; clear hw' w')
    | fail)
  exact bodyPost_ret (v := .bool true) (by simp [results, Tryz.results14, go_sem]) rfl ⟨rfl, H8.out.bl⟩
end Go.Proofs.YtcfcfijmfgnpfaaGreatDoor
end

section
namespace Go.Proofs.YtcfcfijmfgnpfaaGreatDoor
open Go.RowKit Go.Maps Go.Shelf
set_option linter.unusedVariables false
set_option linter.unusedSimpArgs false

set_option maxRecDepth 100000 in
set_option maxHeartbeats 2000000 in
theorem pre_Note_nil (g : Option Addr) {w : World} {d : Nat} {c : Cl} {v : Value} (hrd : RdC w d v c) (who : Int) : Calls Tryz.prog 16 #[.pointer none, .pointer g, .int .i64 who, v] w fun e w' => e = .returned (.tuple #[.agg (Bs dg0.s).toArray, .int .i64 1]) ∧ Below w.heap.size w w' := by
  obtain ⟨d', ao, cap, -, rfl, -⟩ := hrd.open
  obtain ⟨k, hk⟩ : ∃ k, k = c.k := ⟨_, rfl⟩
  obtain ⟨t, ht⟩ : ∃ t, t = c.t := ⟨_, rfl⟩
  obtain ⟨n, hn⟩ : ∃ n, n = c.n := ⟨_, rfl⟩
  obtain ⟨m, hm⟩ : ∃ m, m = c.kids.length := ⟨_, rfl⟩
  rw [← hk, ← ht, ← hn, ← hm] at hrd ⊢
  obtain ⟨cb, hcb⟩ : ∃ b, b = w.heap.size := ⟨_, rfl⟩
  obtain ⟨rb, hrb⟩ : ∃ b, b = w.heap.size + 1 := ⟨_, rfl⟩
  obtain ⟨W, hW⟩ : ∃ W, W = (w.alloc (.cells #[.int .i64 k, .int .i64 t, .int .i64 n, .slice ao m cap] 45)).alloc (.cells (Bs dg0.s).toArray 41) := ⟨_, rfl⟩
  have hB : Below w.heap.size w W := by rw [hW]; exact ((Below.refl _ w).alloc (Nat.le_refl _) _).alloc (by simp) _
  have hcr : W.rangeAt cb 0 [.int .i64 k, .int .i64 t, .int .i64 n, .slice ao m cap] := by rw [hW, hcb]; exact rangeAt_block (rangeAt_new _) (Below.heap_alloc _ _ _ (by simp))
  have hrr : W.heap[rb]? = some (.cells (Bs dg0.s).toArray 41 (0, 0)) := by rw [hW, hrb]; have q := World.alloc_heap_new (w.alloc (.cells #[.int .i64 k, .int .i64 t, .int .i64 n, .slice ao m cap] 45)) (.cells (Bs dg0.s).toArray 41); rwa [World.size_alloc] at q
  have hsW : W.heap.size = rb + 1 := by rw [hW, hrb]; simp
  have hrW : RdC W d (.agg #[.int .i64 k, .int .i64 t, .int .i64 n, .slice ao m cap]) c := RdC.below hB hrd
  have HW := Lib.hid (And.intro hW (And.intro hcb (And.intro hrb (And.intro hB hsW))))
  have HR := Lib.hid (And.intro hcr hrr)
  have HRD := Lib.hid hrW
  have hE := fun W2 (hb : Below W.heap.size W W2) => code_EncodeCallT d c _ W2 (RdC.below hb HRD.out)
  have HE := Lib.hid hE
  clear hE
  clear hk ht hn hm hcb hrb hW hB hcr hrr hsW hrW hrd
  go_enter Tryz.func16, Tryz.ntmps16
  go_upto_region 1 with fail
  rw [zero32d, ← HW.out.1, ← HW.out.2.2.1, ← HW.out.2.1]
  go_wp2_with (first
    | (refine wpl_loadC _ rfl rfl rfl HR.out.1 rfl ?_)
    | (go_at_call 43; refine (HE.out W (Below.refl _ _)).mono ?_; rintro e w1 ⟨u, er, rfl, ho, hb⟩; have hr1 := (hb.block rb (by have := HW.out.2.2.2.2; omega)).trans HR.out.2; have H1 := Lib.hid (And.intro hb hr1); clear ho hb hr1)
    | (refine wpl_storeR (r := hshR) (t := dg0) (C := (Bs dg0.s).toArray) _ _ rfl rfl rfl rfl rfl H1.out.2 (by rw [List.size_toArray, dg0.blen]; rfl) ?_)
    | fail)
  have hfin := setRow_heap w1 _ _ (Bs dg0.s).toArray _ _ H1.out.2
  exact bodyPost_ret (v := .tuple #[.agg (Bs dg0.s).toArray, .int .i64 1]) (results_cellH Tryz.results16 rfl rfl hfin) rfl ⟨rfl, setRow_below (HW.out.2.2.2.1.trans (H1.out.1.mono HW.out.2.2.2.1.size)) (by have := HW.out.2.2.1; omega)⟩
theorem pre_Wanted_nil (d : Dg) (w : World) : Calls Tryz.prog 26 #[.pointer none, .agg (Bs d.s).toArray] w fun e w' => e = .returned (.int .i64 0) ∧ Below w.heap.size w w' := by
  go_enter Tryz.func26, Tryz.ntmps26
  go_wp2
  exact bodyPost_ret (v := .int .i64 0) (by simp [results, Tryz.results26, go_sem]) rfl ⟨rfl, (Below.refl _ w).alloc (Nat.le_refl _) _⟩
theorem pre_Want_nil (d : Dg) (w : World) : Calls Tryz.prog 20 #[.pointer none, .agg (Bs d.s).toArray] w fun e w' => e = .returned (.tuple #[]) ∧ Below w.heap.size w w' := by
  go_enter Tryz.func20, Tryz.ntmps20
  go_wp2
  exact bodyPost_ret (results_none rfl _ _ _) rfl ⟨rfl, (Below.refl _ w).alloc (Nat.le_refl _) _⟩
theorem pre_Unwant_nil (d : Dg) (w : World) : Calls Tryz.prog 22 #[.pointer none, .agg (Bs d.s).toArray] w fun e w' => e = .returned (.tuple #[]) ∧ Below w.heap.size w w' := by
  obtain ⟨W, hW⟩ : ∃ W, W = w.alloc (.cells (Bs d.s).toArray 41) := ⟨_, rfl⟩
  have hb : Below w.heap.size w W := by rw [hW]; exact (Below.refl _ w).alloc (Nat.le_refl _) _
  have hbox : W.rangeAt w.heap.size 0 (Bs d.s) := by rw [hW]; exact hashBox
  have HW := Lib.hid (And.intro hW (And.intro hb hbox))
  clear hW hb hbox
  go_enter Tryz.func22, Tryz.ntmps22
  go_upto_region 1 with fail
  rw [← HW.out.1]
  go_wp2_with (first
    | (refine wpl_loadR (r := hshR) (t := d) _ rfl rfl rfl HW.out.2.2 ?_)
    | (go_at_call 26; refine (pre_Wanted_nil d W).mono ?_; rintro e w1 ⟨rfl, hb⟩; have H1 := Lib.hid hb; clear hb)
    | fail)
  exact bodyPost_end (results_none rfl _ _ _) rfl ⟨rfl, HW.out.2.1.trans (H1.out.mono HW.out.2.1.size)⟩
theorem pre_Get_nil (d : Dg) (w : World) : Calls Tryz.prog 24 #[.pointer none, .agg (Bs d.s).toArray] w fun e w' => e = .returned (.tuple #[.agg zero4, .bool false]) ∧ Below w.heap.size w w' := by
  obtain ⟨cb, hcb⟩ : ∃ b, b = w.heap.size + 1 := ⟨_, rfl⟩
  obtain ⟨W, hW⟩ : ∃ W, W = (w.alloc (.cells (Bs d.s).toArray 41)).alloc (.cells zero4 45) := ⟨_, rfl⟩
  have hB : Below w.heap.size w W := by rw [hW]; exact ((Below.refl _ w).alloc (Nat.le_refl _) _).alloc (by simp) _
  have hrs : W.heap[cb]? = some (.cells zero4 45 (0, 0)) := by rw [hW, hcb]; have q := World.alloc_heap_new (w.alloc (.cells (Bs d.s).toArray 41)) (.cells zero4 45); rwa [World.size_alloc] at q
  have HW := Lib.hid (And.intro hW (And.intro hcb (And.intro hB hrs)))
  clear hW hcb hB hrs
  go_enter Tryz.func24, Tryz.ntmps24
  go_upto_region 1 with fail
  rw [← HW.out.1, ← HW.out.2.1]
  go_wp2_with (first
    | (refine wpl_storeD (vs := zero4) _ _ rfl rfl rfl rfl HW.out.2.2.2 rfl rfl (ones4D 0 0 0 none 0 0) ?_)
    | fail)
  have hfin := setRow_heap W _ _ zero4 _ _ HW.out.2.2.2
  have hlv := run_lvC (y := (0, 0, 0, none, 0, 0)) hfin
  exact bodyPost_ret (v := .tuple #[.agg zero4, .bool false]) (results_cellT Tryz.results24 rfl rfl hlv) rfl ⟨rfl, setRow_below HW.out.2.2.1 (by have := HW.out.2.1; omega)⟩
theorem pre_Unnote_nil (g : Option Addr) (d : Dg) (who : Int) (w : World) : Calls Tryz.prog 18 #[.pointer none, .pointer g, .int .i64 who, .agg (Bs d.s).toArray] w fun e w' => e = .returned (.int .i64 1) ∧ Below w.heap.size w w' := by
  go_enter Tryz.func18, Tryz.ntmps18
  go_wp2
  exact bodyPost_ret (v := .int .i64 1) (by simp [results, Tryz.results18, go_sem]) rfl ⟨rfl, (Below.refl _ w).alloc (Nat.le_refl _) _⟩
theorem pall_iter_nil (n : Nat) (bx : Nat) (w : World) (hbx : w.cell? ⟨bx, 0, none⟩ = some (.pointer none)) (G : FP) (hGb : G bx) :
    Iter Tryz.prog n 73 #[.pointer (some ⟨bx, 0, none⟩)] encs_H [] G w := by
  intro lp B Ψ J Jx Φ0 W hgw hG hΨ hΦ0 hJ hJx hround h0
  have hc1 : W.cell? ⟨bx, 0, none⟩ = some (.pointer none) := (World.cell?_of_block (hG bx hGb).2).trans hbx
  refine callsIn_of_wp Tryz.func73 rfl trivial ?_ rfl
  simp only [Tryz.ntmps73, List.size_toArray, List.length_cons, List.length_nil, Nat.reduceAdd, Nat.reduceSub, Array.replicate_succ, Array.replicate_zero, List.push_toArray, List.append_toArray, List.nil_append, List.cons_append]
  have HH0 := Lib.hid h0
  clear hround hJ hJx hG hΨ hbx hGb h0
  gi_wp2
  refine bodyPost_ret (results_none rfl _ _ _) rfl ?_
  exact ⟨⟨_, rfl⟩, Φ0, fun j h => .inl h, Only.refl _ _ _, .inl HH0.out⟩
theorem law8_items_nil (w : World) : Calls Tryz.prog 29 #[.pointer none] w fun e w' => ∃ v, e = .returned (.tuple #[v, .bool true]) ∧ OwnR itm_H w.heap.size v [] w' ∧ Below w.heap.size w w' :=
  law8_itemsW none [] w (fun W hb => pre_AllW none [] W (by simp) (fun W' bx hb' h1 h2 hc => pall_iter_nil 0 bx W' hc _ h2)) (by simp)
end Go.Proofs.YtcfcfijmfgnpfaaGreatDoor
end

section

end
