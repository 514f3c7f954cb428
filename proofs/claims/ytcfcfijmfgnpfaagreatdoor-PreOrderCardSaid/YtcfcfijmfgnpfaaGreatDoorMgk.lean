/-
  Joined texts.
-/
import Derived.Deep.MidRow
import Derived.BigRegion
import Derived.RegionTactic
import Derived.Shelf.Abstract
import Derived.Shelf.RegionOpen
import Derived.LoopNIn
import Derived.LoopIn
import Derived.Deep.RegionHeld3
import Derived.Deep.QuietTactic
import Derived.Test.YtcfcfijmfgnpfaaGreatDoorMgj

section
namespace Go.Proofs.YtcfcfijmfgnpfaaGreatDoor
open Go.RowKit Go.Shelf
attribute [local go_sem] Oper.semAt_some
set_option linter.unusedVariables false
set_option linter.unusedSimpArgs false

theorem Iter.later {P : Program} {α : Type} {n gf : Nat} {lb : Array Value} {encs : α → Array Value} {xs : List α} {G G' : FP} {w W : World} (h : Iter P n gf lb encs xs G w) (hg : Grow w W) (hG : ∀ k, G k → k < w.heap.size ∧ W.heap[k]? = w.heap[k]?) (hs : ∀ k, G k → G' k) : Iter P n gf lb encs xs G' W := by
  intro l B Ψ J Jx Φ0 W2 hg2 hG2 hΨ hΦ0 hJ hJx hr h0
  exact h l B Ψ J Jx Φ0 W2 (hg.trans hg2) (fun k hk => ⟨(hG k hk).1, (hG2 k (hs k hk)).2.trans (hG k hk).2⟩) (fun k hk => ⟨(hΨ k hk).1, fun h => (hΨ k hk).2 (hs k h)⟩) (fun k hk h => hΦ0 k hk (hs k h)) hJ hJx hr h0
theorem take_snoc {α : Type} {xs : List α} {k : Nat} (h : k < xs.length) : xs.take k ++ [xs[k]] = xs.take (k + 1) := by rw [List.take_succ_eq_append_getElem h]

set_option maxHeartbeats 4000000 in
set_option maxRecDepth 100000 in
theorem now1_iter_I (n : Nat) (bx : Nat) (v : Value) (xs : List (Int × Int)) (w : World) (hbx : Boxed w bx 226 v) (hr : RdR pair_I w v xs) (hl : xs.length ≤ 1000000) (G : FP) (hGb : G bx) (hGv : ∀ k, v.ownBlock = some k → G k) :
    Iter Tryz.prog n 151 #[.pointer (some ⟨bx, 0, none⟩)] encs_I xs G w := by
  intro lp B Ψ J Jx Φ0 W hgw hG hΨ hΦ0 hJ hJx hround h0
  have hc1 : W.cell? ⟨bx, 0, none⟩ = some v := (World.cell?_of_block (hG bx hGb).2).trans hbx.cell
  have hrW : RdR pair_I W v xs := hr.keep hgw.size (fun k hk => (hG k (hGv k hk)).2)
  obtain ⟨hs1, hs2, hs3⟩ := hJ _ _ _ h0
  obtain ⟨ao, cap, rfl⟩ := hr.lenOf
  have hkeep : ∀ wr, Only Ψ Φ0 W wr → RdR pair_I wr (.slice ao xs.length cap) xs := fun wr ho => hrW.keep ho.grow.size (fun k hk => ho.block k (by have := (hG k (hGv k hk)).1; have := hgw.size; omega) (fun h => (hΨ k h).2 (hGv k hk)) (fun h => hΦ0 k h (hGv k hk)))
  refine callsIn_of_wp Tryz.func151 rfl trivial ?_ rfl
  simp only [Tryz.ntmps151, List.size_toArray, List.length_cons, List.length_nil, Nat.reduceAdd, Nat.reduceSub, Array.replicate_succ, Array.replicate_zero, List.push_toArray, List.append_toArray, List.nil_append, List.cons_append]
  have HK := Lib.hid hkeep
  have HL := Lib.hid hl
  have HRD := Lib.hid hround
  have HJ := Lib.hid hJ
  have HH0 := Lib.hid h0
  have hbig : (xs.length : Int) ≤ 1000000 := by omega
  clear hr hrW hround hJ hJx hG hΨ hΦ0 hbx hGb hGv h0 hs3 hl hkeep
  gi_wp2_with fail
  gi_loopw [7] (fun r wr => ∃ (k : Nat) (Φ : FP), k ≤ xs.length ∧ r = .int .i64 k ∧ J (xs.take k) Φ wr ∧ Only Ψ Φ0 W wr ∧ (∀ j, Φ j → Φ0 j ∨ W.heap.size ≤ j)) (fun r wr => xs.length - (Go.RowKit.intOf r).toNat)
  case atStart => exact ⟨0, Φ0, Nat.zero_le _, rfl, HH0.out, Only.refl _ _ _, fun j h => .inl h⟩
  case round =>
    obtain ⟨k, Φ, hk, rfl, hJ2, ho2, hn2⟩ := hrel
    by_cases hlt : k < xs.length
    · have hlt' : (k : Int) < xs.length := by omega
      obtain ⟨x, hx⟩ : ∃ x, x = xs[k] := ⟨_, rfl⟩
      obtain ⟨b, off, rfl, hrng, hrb⟩ := (HK.out wr ho2).at hlt
      rw [← hx] at hrng
      have htk : xs.take k ++ [x] = xs.take (k + 1) := by rw [hx]; exact take_snoc hlt
      have hpre : (xs.take k ++ [x]) <+: xs := by rw [htk]; exact List.take_prefix _ _
      obtain ⟨q1, q2, q3⟩ := HJ.out _ _ _ hJ2
      obtain ⟨W1, hW1⟩ : ∃ W1, W1 = wr.alloc (.cells (prOf_I x).toArray 228) := ⟨_, rfl⟩
      have hb1 : Below wr.heap.size wr W1 := by rw [hW1]; exact (Below.refl _ wr).alloc (Nat.le_refl _) _
      have hJ1 : J (xs.take k) Φ W1 := q3 W1 (Grow.of_below hb1) (fun j hj => hb1.block j (hj.elim (fun h => by omega) (fun h => (q1 j h).2)))
      have hcx : W1.heap[wr.heap.size]? = some (.cells (prOf_I x).toArray 228 (0, 0)) := by rw [hW1]; exact World.alloc_heap_new _ _
      obtain ⟨fn, tm, asg, bd, hyy, hR⟩ := HRD.out (xs.take k) x Φ W1 hpre hJ1
      simp only [encs_I] at hyy
      have d0 : W1.cell? ⟨wr.heap.size, 0, none⟩ = some (.int .i64 x.1) := by rw [World.cell?, hcx]; rfl
      have d1 : W1.cell? ⟨wr.heap.size, 1, none⟩ = some (.int .i64 x.2) := by rw [World.cell?, hcx]; rfl
      have HRN := Lib.hid hrng
      have HT := Lib.hid htk
      have HPR := Lib.hid hpre
      have HO2 := Lib.hid ho2
      have HN2 := Lib.hid hn2
      have HR := Lib.hid hR
      have HW1 := Lib.hid hW1
      have HB1 := Lib.hid hb1
      clear htk hpre q1 q2 q3 hx hJ2 hJ1 ho2 hn2 hR hrng hW1 hb1 hcx
      gi_wp2_with (first
        | (refine wplIn_loadR (r := pair_I) (t := x) _ rfl rfl rfl HRN.out ?_)
        | (refine wplIn_allocR (r := pair_I) rfl rfl rfl ?_; intro C hC)
        | (refine wplIn_storeR (r := pair_I) (t := x) (C := C) _ _ rfl rfl rfl rfl rfl (World.alloc_heap_new wr _) hC ?_; rw [World.setRow_alloc_new]; rw [show wr.alloc (.cells (pair_I.f x).toArray pair_I.T) = W1 from HW1.out.symm])

        | fail)
      refine HR.out.mono ?_
      rintro e W' ⟨Φ', hn', ho', (⟨rfl, hJ'⟩ | ⟨rfl, hJ'⟩)⟩
      · have ho3 : Only Ψ Φ0 W W' := (HO2.out.trans (Φ' := Φ0) (Only.of_later HB1.out) (fun j h => .inl h)).trans ho' HN2.out
        have hn3 : ∀ j, Φ' j → Φ0 j ∨ W.heap.size ≤ j := fun j hj => (hn' j hj).elim (HN2.out j) (fun h => .inr (by have := HO2.out.grow.size; have := HB1.out.size; omega))
        gi_wp2
        exact ⟨⟨k + 1, Φ', hlt, by go_num, by rw [← HT.out]; exact hJ', ho3, hn3⟩, by simp [RowKit.intOf]; omega⟩
      · have ho3 : Only Ψ Φ0 W W' := (HO2.out.trans (Φ' := Φ0) (Only.of_later HB1.out) (fun j h => .inl h)).trans ho' HN2.out
        have hn3 : ∀ j, Φ' j → Φ0 j ∨ W.heap.size ≤ j := fun j hj => (hn' j hj).elim (HN2.out j) (fun h => .inr (by have := HO2.out.grow.size; have := HB1.out.size; omega))
        gi_wp2
        refine bodyPost_ret (results_none rfl _ _ _) rfl ?_
        exact ⟨⟨_, rfl⟩, Φ', hn3, ho3, .inr ⟨_, HPR.out, hJ'⟩⟩
    · have hkn : k = xs.length := by omega
      subst hkn
      rw [List.take_length] at hJ2
      gi_wp2
      refine bodyPost_end (results_none rfl _ _ _) rfl ?_
      exact ⟨⟨_, rfl⟩, Φ, hn2, ho2, .inl hJ2⟩
theorem still_Begun_I (f : Value) (w : World) (hf : ∃ g lb, f = .func g #[] lb) : Calls Tryz.prog 137 #[f] w fun e w' => e = .returned (.func (.func 145) #[] #[.pointer (some ⟨w.heap.size, 0, none⟩)]) ∧ w' = w.alloc (.cells #[f] 178) := by
  obtain ⟨g, lb, rfl⟩ := hf
  go_enter Tryz.func137, Tryz.ntmps137
  go_wp2
  go_ret
  exact ⟨rfl, rfl⟩
theorem enters_begun_I : ∀ args w, (callFunc 145 args).run Tryz.prog w = .ok (.enter 145 args) w := enters_of Tryz.func145 (by kernel_rfl) rfl
theorem enters_now_I : ∀ args w, (callFunc 151 args).run Tryz.prog w = .ok (.enter 151 args) w := enters_of Tryz.func151 (by kernel_rfl) rfl
set_option maxHeartbeats 4000000 in
set_option maxRecDepth 100000 in
/-- What Begun tells: what another way tells when the ranging begins. -/
theorem begun_iter_I {m : Nat} (n : Nat) (sb : Nat) (gf : Nat) (lbx : Array Value) (xs : List (Int × Int)) (G : FP) (w : World) (hsb : Boxed w sb 178 (.func (.func gf) #[] lbx)) (eg : ∀ args w, (callFunc gf args).run Tryz.prog w = .ok (.enter gf args) w) (hit : Iter Tryz.prog m gf lbx encs_I xs G w) (hGs : G sb) (hGl : ∀ k, G k → k < w.heap.size) (hlen : xs.length ≤ 1000000) :
    IterF Tryz.prog n 145 #[.pointer (some ⟨sb, 0, none⟩)] encs_I xs G w := by
  intro lp B Ψ J Jx Φ0 W hgw hG hΨ hJ hJx hround h0
  have hc1 : W.cell? ⟨sb, 0, none⟩ = some (.func (.func gf) #[] lbx) := (World.cell?_of_block (hG sb hGs).2).trans hsb.cell
  have hitW : Iter Tryz.prog m gf lbx encs_I xs (fun k => k < W.heap.size) W := hit.later hgw hG (fun k hk => Nat.lt_of_lt_of_le (hGl k hk) hgw.size)
  have hnow := still_Now_I gf lbx xs W eg hitW hlen
  obtain ⟨hs1, hs2, hs3⟩ := hJ _ _ _ h0
  have hwalk : ∀ v W1, Boxed W1 W.heap.size 226 v → OwnR pair_I (W.heap.size + 1) v xs W1 → Below W.heap.size W W1 →
      CallsIn Fence.wide n Tryz.prog 151 #[.func (.yield lp) #[] #[], .pointer (some ⟨W.heap.size, 0, none⟩)] W1 fun e W' => (∃ v, e = .returned v) ∧ Leaves Ψ Φ0 W (fun Φ' W' => J xs Φ' W' ∨ ∃ pre, pre <+: xs ∧ Jx pre Φ' W') W' := by
    intro v W1 hb ho hB
    have hJ1 : J [] Φ0 W1 := hs3 W1 (Grow.of_below hB) (fun k hk => hB.block k (hk.elim (fun h => by omega) (fun h => (hs1 k h).2)))
    have hi := now1_iter_I n W.heap.size v xs W1 hb ho.reads hlen (fun k => W.heap.size ≤ k ∧ k < W1.heap.size) ⟨Nat.le_refl _, hb.lt⟩ (fun k hk => ⟨by have := (ho.block hk).1; omega, (ho.block hk).2⟩)
    have hcall := hi lp B Ψ J Jx Φ0 W1 (Grow.refl _) (fun k hk => ⟨hk.2, rfl⟩) (fun k hk => ⟨hΨ k hk, fun h => by have := hΨ k hk; omega⟩) (fun k hk h => by have := (hs1 k hk).2; omega) hJ hJx hround hJ1
    refine (callsIn_wide.2 (callsIn_wide.1 hcall)).mono ?_
    rintro e W' ⟨he, Φ', hn, ho', hR⟩
    exact ⟨he, Φ', fun k hk => (hn k hk).imp id (fun h => by have := hB.size; omega), (Only.of_later hB).trans ho' (fun j h => .inl h), hR⟩
  have HW := Lib.hid hwalk
  have HN := Lib.hid hnow
  clear hwalk hnow hround hJ hJx hG hΨ hsb hit hitW h0 hs1 hs3 hGs hGl hlen eg
  refine callsIn_of_wp Tryz.func145 rfl trivial ?_ rfl
  simp only [Tryz.ntmps145, List.size_toArray, List.length_cons, List.length_nil, Nat.reduceAdd, Nat.reduceSub, Array.replicate_succ, Array.replicate_zero, List.push_toArray, List.append_toArray, List.nil_append, List.cons_append]
  have en := enters_now_I
  gi_wp2_with (first
    | (gi_at_call 146; refine (callsIn_wide.2 HN.out).mono ?_; rintro e W1 ⟨v, rfl, hb, ho, hB⟩; have H1 := Lib.hid (And.intro hb (And.intro ho hB)); clear hb ho hB)
    | (refine ⟨trivial, ?_⟩; gi_at_call 146; refine (callsIn_wide.2 HN.out).mono ?_; rintro e W1 ⟨v, rfl, hb, ho, hB⟩; have H1 := Lib.hid (And.intro hb (And.intro ho hB)); clear hb ho hB)
    | (gi_at_call 151; refine (callsIn_wide.2 (callsIn_wide.1 (HW.out _ _ H1.out.1 H1.out.2.1 H1.out.2.2))).mono ?_; rintro e W' ⟨⟨v', rfl⟩, hR⟩; have H2 := Lib.hid hR; clear hR)
    | (refine ⟨trivial, ?_⟩; gi_at_call 151; refine (callsIn_wide.2 (callsIn_wide.1 (HW.out _ _ H1.out.1 H1.out.2.1 H1.out.2.2))).mono ?_; rintro e W' ⟨⟨v', rfl⟩, hR⟩; have H2 := Lib.hid hR; clear hR)
    | fail)
  refine bodyPost_end (results_none rfl _ _ _) rfl ?_
  exact ⟨⟨_, rfl⟩, H2.out⟩

end Go.Proofs.YtcfcfijmfgnpfaaGreatDoor
end

section
namespace Go.Proofs.YtcfcfijmfgnpfaaGreatDoor
open Go.RowKit Go.Maps Go.Shelf
set_option linter.unusedVariables false
set_option linter.unusedSimpArgs false

theorem IterF.later {P : Program} {α : Type} {n gf : Nat} {lb : Array Value} {encs : α → Array Value} {xs : List α} {G G' : FP} {w W : World} (h : IterF P n gf lb encs xs G w) (hg : Grow w W) (hG : ∀ k, G k → k < w.heap.size ∧ W.heap[k]? = w.heap[k]?) (hs : ∀ k, G k → G' k) : IterF P n gf lb encs xs G' W := by
  intro l B Ψ J Jx Φ0 W2 hg2 hG2 hΨ hJ hJx hr h0
  exact h l B Ψ J Jx Φ0 W2 (hg.trans hg2) (fun k hk => ⟨(hG k hk).1, (hG2 k (hs k hk)).2.trans (hG k hk).2⟩) hΨ hJ hJx hr h0
/-- A way's value: what it tells, in world w. -/
def Way {α : Type} (P : Program) (encs : α → Array Value) (f : Value) (xs : List α) (w : World) : Prop :=
  ∃ gf lb, f = .func (.func gf) #[] lb ∧ (∀ args w, (callFunc gf args).run P w = .ok (.enter gf args) w) ∧ ∀ n, IterF P n gf lb encs xs (fun k => k < w.heap.size) w
theorem Way.below {P : Program} {α : Type} {encs : α → Array Value} {f : Value} {xs : List α} {w W : World} (h : Way P encs f xs w) (hb : Below w.heap.size w W) : Way P encs f xs W := by
  obtain ⟨gf, lb, e, eg, hi⟩ := h
  exact ⟨gf, lb, e, eg, fun n => (hi n).later (Grow.of_below hb) (fun k hk => ⟨hk, hb.block k hk⟩) (fun k hk => Nat.lt_of_lt_of_le hk hb.size)⟩

set_option maxRecDepth 100000 in
set_option maxHeartbeats 2000000 in
theorem grid_Row_I {g : Nat} {M : Cls Int} {F : FP} {w : World} (h : GrAt codI 117 g M F w) (hlen : M.length ≤ 100000) {s : Int} (hs : (Lit.int .i64 s).wf = true) :
    Calls Tryz.prog 123 #[.pointer (some ⟨g, 0, none⟩), .int .i64 s] w fun e w' => ∃ f, e = .returned f ∧ Way Tryz.prog encs_I f (rowOf M s) w' ∧ Below w.heap.size w w' := by
  have c1 := grid_row_I (some ⟨g, 0, none⟩) s w
  have hway : ∀ w', w' = ((w.alloc (.cells #[.pointer (some ⟨g, 0, none⟩)] 77)).alloc (.cells #[.int .i64 s] 3)).alloc (.cells #[.func (.func 147) #[] #[.pointer (some ⟨w.heap.size, 0, none⟩), .pointer (some ⟨w.heap.size + 1, 0, none⟩)]] 178) →
      Way Tryz.prog encs_I (.func (.func 145) #[] #[.pointer (some ⟨w.heap.size + 2, 0, none⟩)]) (rowOf M s) w' ∧ Below w.heap.size w w' := by
    intro w' hw'
    have hB : Below w.heap.size w w' := by rw [hw']; exact (((Below.refl _ w).alloc (Nat.le_refl _) _).alloc (by simp) _).alloc (by simp; omega) _
    have hsz : w'.heap.size = w.heap.size + 3 := by rw [hw']; simp
    have b0 : Boxed w' w.heap.size 77 (.pointer (some ⟨g, 0, none⟩)) := by rw [hw']; exact ((Boxed.new w _ _).alloc _).alloc _
    have b1 : Boxed w' (w.heap.size + 1) 3 (.int .i64 s) := by
      have := Boxed.new (w.alloc (.cells #[.pointer (some ⟨g, 0, none⟩)] 77)) 3 (.int .i64 s)
      rw [World.size_alloc] at this
      rw [hw']; exact this.alloc _
    have b2 : Boxed w' (w.heap.size + 2) 178 (.func (.func 147) #[] #[.pointer (some ⟨w.heap.size, 0, none⟩), .pointer (some ⟨w.heap.size + 1, 0, none⟩)]) := by
      have := Boxed.new ((w.alloc (.cells #[.pointer (some ⟨g, 0, none⟩)] 77)).alloc (.cells #[.int .i64 s] 3)) 178 (.func (.func 147) #[] #[.pointer (some ⟨w.heap.size, 0, none⟩), .pointer (some ⟨w.heap.size + 1, 0, none⟩)])
      rw [World.size_alloc, World.size_alloc] at this
      rw [hw']; exact this
    have hg' : GrAt codI 117 g M F w' := h.keep (Grow.of_below hB) (fun k hk => hB.block k (h.2.2.1 k hk))
    have hi := row_iter_I 0 w.heap.size (w.heap.size + 1) g M F s w' b0.cell b1.cell hg' hlen hs (fun k => k < w'.heap.size) (by omega) (by omega) (fun k hk => hg'.2.2.1 k hk)
    refine ⟨⟨_, _, rfl, enters_begun_I, fun n => ?_⟩, hB⟩
    exact begun_iter_I n (w.heap.size + 2) _ _ (rowOf M s) (fun k => k < w'.heap.size) w' b2 enters_row1_I hi (by omega) (fun k hk => hk) (by have := row_length M s; omega)
  have HW := Lib.hid hway
  have HC := Lib.hid c1
  clear c1 hway h hlen hs
  go_enter Tryz.func123, Tryz.ntmps123
  go_wp2_with (first
    | (go_at_call 138; refine HC.out.mono ?_; rintro e w1 ⟨rfl, rfl⟩)
    | (go_at_call 137; refine (still_Begun_I _ _ ⟨_, _, rfl⟩).mono ?_; rintro e w2 ⟨rfl, rfl⟩)
    | fail)
  go_ret
  exact ⟨_, rfl, (HW.out _ rfl).1, (HW.out _ rfl).2⟩
set_option maxRecDepth 100000 in
set_option maxHeartbeats 2000000 in
theorem grid_Row_nil_I (s : Int) (w : World) :
    Calls Tryz.prog 123 #[.pointer none, .int .i64 s] w fun e w' => ∃ f, e = .returned f ∧ Way Tryz.prog encs_I f [] w' ∧ Below w.heap.size w w' := by
  have c1 := grid_row_I none s w
  have hway : ∀ w', w' = ((w.alloc (.cells #[.pointer none] 77)).alloc (.cells #[.int .i64 s] 3)).alloc (.cells #[.func (.func 147) #[] #[.pointer (some ⟨w.heap.size, 0, none⟩), .pointer (some ⟨w.heap.size + 1, 0, none⟩)]] 178) →
      Way Tryz.prog encs_I (.func (.func 145) #[] #[.pointer (some ⟨w.heap.size + 2, 0, none⟩)]) [] w' ∧ Below w.heap.size w w' := by
    intro w' hw'
    have hB : Below w.heap.size w w' := by rw [hw']; exact (((Below.refl _ w).alloc (Nat.le_refl _) _).alloc (by simp) _).alloc (by simp; omega) _
    have hsz : w'.heap.size = w.heap.size + 3 := by rw [hw']; simp
    have b0 : Boxed w' w.heap.size 77 (.pointer none) := by rw [hw']; exact ((Boxed.new w _ _).alloc _).alloc _
    have b2 : Boxed w' (w.heap.size + 2) 178 (.func (.func 147) #[] #[.pointer (some ⟨w.heap.size, 0, none⟩), .pointer (some ⟨w.heap.size + 1, 0, none⟩)]) := by
      have := Boxed.new ((w.alloc (.cells #[.pointer none] 77)).alloc (.cells #[.int .i64 s] 3)) 178 (.func (.func 147) #[] #[.pointer (some ⟨w.heap.size, 0, none⟩), .pointer (some ⟨w.heap.size + 1, 0, none⟩)])
      rw [World.size_alloc, World.size_alloc] at this
      rw [hw']; exact this
    have hi := row_iter_nil_I 0 w.heap.size (w.heap.size + 1) w' b0.cell (fun k => k < w'.heap.size) (by omega)
    refine ⟨⟨_, _, rfl, enters_begun_I, fun n => ?_⟩, hB⟩
    exact begun_iter_I n (w.heap.size + 2) _ _ [] (fun k => k < w'.heap.size) w' b2 enters_row1_I hi (by omega) (fun k hk => hk) (by simp)
  have HW := Lib.hid hway
  have HC := Lib.hid c1
  clear c1 hway
  go_enter Tryz.func123, Tryz.ntmps123
  go_wp2_with (first
    | (go_at_call 138; refine HC.out.mono ?_; rintro e w1 ⟨rfl, rfl⟩)
    | (go_at_call 137; refine (still_Begun_I _ _ ⟨_, _, rfl⟩).mono ?_; rintro e w2 ⟨rfl, rfl⟩)
    | fail)
  go_ret
  exact ⟨_, rfl, (HW.out _ rfl).1, (HW.out _ rfl).2⟩

end Go.Proofs.YtcfcfijmfgnpfaaGreatDoor
end

section
namespace Go.Proofs.YtcfcfijmfgnpfaaGreatDoor
open Go.RowKit Go.Maps Go.Shelf
set_option linter.unusedVariables false
set_option linter.unusedSimpArgs false

/-- A table of the call's own. -/
def GrOwn {β : Type} (c : Cod β) (T : TypeId) (N g : Nat) (M : Cls β) (w : World) : Prop := ∃ F, GrAt c T g M F w ∧ ∀ k, F k → N ≤ k
section
variable {β : Type} {c : Cod β} {T : TypeId} {N g : Nat} {M M' : Cls β} {w w' : World} {F : FP}
theorem GrOwn.to (h : GrTo c T g M' F w w') (hF : ∀ k, F k → N ≤ k) (hN : N ≤ w.heap.size) : GrOwn c T N g M' w' ∧ Below N w w' := by
  obtain ⟨F', h1, h2, h3⟩ := h
  exact ⟨⟨F', h1, fun k hk => (h2 k hk).elim (hF k) (fun h => by omega)⟩, h3.below hN hF (fun k h => h.elim)⟩
theorem GrOwn.below (h : GrOwn c T N g M w) (hb : Below w.heap.size w w') : GrOwn c T N g M w' := by
  obtain ⟨F, h1, h2⟩ := h
  exact ⟨F, h1.keep (Grow.of_below hb) (fun k hk => hb.block k (h1.2.2.1 k hk)), h2⟩
theorem GrOwn.srt (h : GrOwn c T N g M w) : SrtC M := by obtain ⟨F, h1, _⟩ := h; exact h1.1
theorem Below.of_all {N : Nat} {w w' : World} (h : Below w.heap.size w w') (hN : N ≤ w.heap.size) : Below N w w' := h.mono hN
end
theorem grid_New_own_I (w : World) : Calls Tryz.prog 38 #[] w fun e w' => ∃ g, e = .returned (.pointer (some ⟨g, 0, none⟩)) ∧ GrOwn codI 117 w.heap.size g [] w' ∧ Below w.heap.size w w' := by
  refine (grid_New_I w).mono ?_
  rintro e w' ⟨rfl, rfl⟩
  exact ⟨_, rfl, ⟨_, GrAt.new_I w, fun k hk => by omega⟩, (Below.refl _ w).alloc (Nat.le_refl _) _⟩
theorem OwnN.two {B : Nat} {v : Value} {x y : Int} {w : World} (h : OwnN B v [x, y] w) : ∃ b cap, v = .slice (some ⟨b, 0, none⟩) 2 cap ∧ w.cell? ⟨b, 0, none⟩ = some (.int .i64 x) ∧ w.cell? ⟨b, 1, none⟩ = some (.int .i64 y) := by
  obtain ⟨b, cap, rfl, h0, _, _⟩ := h.at (k := 0) (by simp)
  obtain ⟨b', cap', e, h1, _, _⟩ := h.at (k := 1) (by simp)
  injection e with e1 e2 e3
  injection e1 with e1
  injection e1 with e1
  subst e1
  exact ⟨b, cap, rfl, h0, h1⟩
def M3 : Cls Int := cput (cput (cput [] 5 1 7) 2 1 8) 2 3 9
theorem M3_col : colOf M3 1 = [(2, 8), (5, 7)] := by decide +kernel
theorem M3_len : M3.length = 3 := by decide +kernel
end Go.Proofs.YtcfcfijmfgnpfaaGreatDoor
end

section
namespace Go.Proofs.YtcfcfijmfgnpfaaGreatDoor
open Go.RowKit Go.Maps Go.Shelf
set_option linter.unusedVariables false
set_option linter.unusedSimpArgs false

/-- The accounts' cells. -/
def accs (A : Acc) : Nat → List Value
  | 0 => []
  | n + 1 => accs A n ++ [.int .i64 (A n).1, .int .i64 (A n).2]
theorem accs_len (A : Acc) : ∀ n, (accs A n).length = 2 * n
  | 0 => rfl
  | n + 1 => by rw [accs, List.length_append, accs_len A n]; simp; omega
theorem accs_at (A : Acc) : ∀ {n k : Nat}, k < n → (accs A n)[k * 2]? = some (.int .i64 (A k).1) ∧ (accs A n)[k * 2 + 1]? = some (.int .i64 (A k).2)
  | n + 1, k, h => by
    rw [accs]
    by_cases e : k = n
    · subst e
      have hl := accs_len A k
      rw [List.getElem?_append_right (by omega), List.getElem?_append_right (by omega), show k * 2 - (accs A k).length = 0 by omega, show k * 2 + 1 - (accs A k).length = 1 by omega]
      exact ⟨rfl, rfl⟩
    · have hl := accs_len A n
      have := accs_at A (n := n) (k := k) (by omega)
      rw [List.getElem?_append_left (by omega), List.getElem?_append_left (by omega)]
      exact this
theorem accs_free (A : Acc) {n a : Nat} (h : a < n) (v : Int) : (accs A n).set (a * 2) (.int .i64 v) = accs (upd A a (v, (A a).2)) n := by
  refine List.ext_getElem? (fun i => ?_)
  have hl := accs_len A n
  have hl' := accs_len (upd A a (v, (A a).2)) n
  by_cases hi : i < 2 * n
  · obtain ⟨k, e⟩ : ∃ k, i = k * 2 ∨ i = k * 2 + 1 := ⟨i / 2, by omega⟩
    have hk : k < n := by omega
    have h1 := accs_at A hk
    have h2 := accs_at (upd A a (v, (A a).2)) hk
    rcases e with e | e
    · subst e
      rw [h2.1]
      by_cases c : k = a
      · subst c; rw [List.getElem?_set_self (by omega), upd_same]
      · rw [List.getElem?_set_ne (by omega), h1.1, upd_other A _ c]
    · subst e
      rw [h2.2, List.getElem?_set_ne (by omega), h1.2]
      by_cases c : k = a
      · subst c; rw [upd_same]
      · rw [upd_other A _ c]
  · rw [List.getElem?_eq_none (by simp; omega), List.getElem?_eq_none (by omega)]
theorem accs_held (A : Acc) {n a : Nat} (h : a < n) (v : Int) : (accs A n).set (a * 2 + 1) (.int .i64 v) = accs (upd A a ((A a).1, v)) n := by
  refine List.ext_getElem? (fun i => ?_)
  have hl := accs_len A n
  have hl' := accs_len (upd A a ((A a).1, v)) n
  by_cases hi : i < 2 * n
  · obtain ⟨k, e⟩ : ∃ k, i = k * 2 ∨ i = k * 2 + 1 := ⟨i / 2, by omega⟩
    have hk : k < n := by omega
    have h1 := accs_at A hk
    have h2 := accs_at (upd A a ((A a).1, v)) hk
    rcases e with e | e
    · subst e
      rw [h2.1, List.getElem?_set_ne (by omega), h1.1]
      by_cases c : k = a
      · subst c; rw [upd_same]
      · rw [upd_other A _ c]
    · subst e
      rw [h2.2]
      by_cases c : k = a
      · subst c; rw [List.getElem?_set_self (by omega), upd_same]
      · rw [List.getElem?_set_ne (by omega), h1.2, upd_other A _ c]
  · rw [List.getElem?_eq_none (by simp; omega), List.getElem?_eq_none (by omega)]

/-- The ledger's cells. -/
def lcells (A : Acc) (gl : Nat) : List Value := accs A 10 ++ [.pointer (some ⟨gl, 0, none⟩)]
/-- A ledger of the call's own: its struct lies in g, its locks' table in gl. -/
structure LdAt (N g gl : Nat) (A : Acc) (M : Cls Int) (w : World) : Prop where
  blk : w.heap[g]? = some (.cells (lcells A gl).toArray 83 (0, 0))
  gr : ∃ F, GrAt codI 117 gl M F w ∧ ∀ k, F k → N ≤ k ∧ k ≠ g
  lo : N ≤ g
  ok : AccOk A
  len : M.length ≤ 10000
section
variable {N g gl : Nat} {A : Acc} {M : Cls Int} {w w' : World}
theorem LdAt.lt (h : LdAt N g gl A M w) : g < w.heap.size := (Array.getElem?_eq_some_iff.1 h.blk).1
theorem LdAt.below (h : LdAt N g gl A M w) (hb : Below w.heap.size w w') : LdAt N g gl A M w' := by
  obtain ⟨F, h1, h2⟩ := h.gr
  exact ⟨(hb.block g h.lt).trans h.blk, ⟨F, h1.keep (Grow.of_below hb) (fun k hk => hb.block k (h1.2.2.1 k hk)), h2⟩, h.lo, h.ok, h.len⟩
theorem lcells_acc {k : Nat} (hk : k < 10) : (lcells A gl)[k * 2]? = some (.int .i64 (A k).1) ∧ (lcells A gl)[k * 2 + 1]? = some (.int .i64 (A k).2) := by
  have hl := accs_len A 10
  unfold lcells
  rw [List.getElem?_append_left (by omega), List.getElem?_append_left (by omega)]
  exact accs_at A hk
theorem lcells_ptr : (lcells A gl)[20]? = some (.pointer (some ⟨gl, 0, none⟩)) := by
  have hl := accs_len A 10
  unfold lcells
  rw [List.getElem?_append_right (by omega), hl]
  rfl
theorem cell_of {b i : Nat} {l : List Value} {T : TypeId} {v : Value} (h : w.heap[b]? = some (.cells l.toArray T (0, 0))) (hv : l[i]? = some v) : w.cell? ⟨b, i, none⟩ = some v := by
  rw [World.cell?, h]; simpa using hv
theorem LdAt.free (h : LdAt N g gl A M w) {k : Nat} (hk : k < 10) : w.cell? ⟨g, k * 2, none⟩ = some (.int .i64 (A k).1) := cell_of h.blk (lcells_acc hk).1
theorem LdAt.held (h : LdAt N g gl A M w) {k : Nat} (hk : k < 10) : w.cell? ⟨g, k * 2 + 1, none⟩ = some (.int .i64 (A k).2) := cell_of h.blk (lcells_acc hk).2
theorem LdAt.ptr (h : LdAt N g gl A M w) : w.cell? ⟨g, 20, none⟩ = some (.pointer (some ⟨gl, 0, none⟩)) := cell_of h.blk lcells_ptr
theorem LdAt.frozen (h : LdAt N g gl A M w) (i : Nat) : w.frozen? ⟨g, i, none⟩ = false := by simp [World.frozen?, h.blk]
theorem setCell_at {b i : Nat} {l : List Value} {T : TypeId} {v : Value} (h : w.heap[b]? = some (.cells l.toArray T (0, 0))) : (w.setCell ⟨b, i, none⟩ v).heap[b]? = some (.cells (l.set i v).toArray T (0, 0)) := by
  simp [World.setCell, Array.getElem?_modify, h]
theorem grow_set {b i : Nat} {v : Value} : Grow w (w.setCell ⟨b, i, none⟩ v) := ⟨rfl, rfl, rfl, by simp [World.setCell]⟩
theorem below_set {b i : Nat} {v : Value} (h : N ≤ b) : Below N w (w.setCell ⟨b, i, none⟩ v) := ⟨rfl, rfl, rfl, by simp [World.setCell], fun k hk => Below.heap_setCell _ _ _ k (by show k ≠ b; omega)⟩
theorem LdAt.put {i : Nat} {v : Value} {A' : Acc} (h : LdAt N g gl A M w) (hA : (lcells A gl).set i v = lcells A' gl) (hok : AccOk A') : LdAt N g gl A' M (w.setCell ⟨g, i, none⟩ v) ∧ Below N w (w.setCell ⟨g, i, none⟩ v) := by
  obtain ⟨F, h1, h2⟩ := h.gr
  refine ⟨⟨?_, ⟨F, h1.keep grow_set (fun k hk => Below.heap_setCell _ _ _ k (h2 k hk).2), h2⟩, h.lo, hok, h.len⟩, below_set h.lo⟩
  rw [setCell_at h.blk, hA]
theorem lcells_free {a : Nat} (ha : a < 10) (v : Int) : (lcells A gl).set (a * 2) (.int .i64 v) = lcells (upd A a (v, (A a).2)) gl := by
  unfold lcells
  rw [List.set_append_left _ _ (by rw [accs_len]; omega), accs_free A ha]
theorem lcells_held {a : Nat} (ha : a < 10) (v : Int) : (lcells A gl).set (a * 2 + 1) (.int .i64 v) = lcells (upd A a ((A a).1, v)) gl := by
  unfold lcells
  rw [List.set_append_left _ _ (by rw [accs_len]; omega), accs_held A ha]
theorem LdAt.setFree (h : LdAt N g gl A M w) {a : Nat} (ha : a < 10) (v : Int) (hok : AccOk (upd A a (v, (A a).2))) : LdAt N g gl (upd A a (v, (A a).2)) M (w.setCell ⟨g, a * 2, none⟩ (.int .i64 v)) ∧ Below N w (w.setCell ⟨g, a * 2, none⟩ (.int .i64 v)) := h.put (lcells_free ha v) hok
end

theorem isAcc_nat {a : Int} (h : isAcc a) : ∃ k : Nat, a = k ∧ k < 10 := by unfold isAcc at h; exact ⟨a.toNat, by omega, by omega⟩
set_option maxRecDepth 100000 in
theorem ledger_account {g k : Nat} (hk : k < 10) (w : World) : Calls Tryz.prog 53 #[.pointer (some ⟨g, 0, none⟩), .int .i64 (k : Int)] w fun e w' => e = .returned (.pointer (some ⟨g, k * 2, none⟩)) ∧ w' = w := by
  have c1 : decide (0 ≤ (k : Int) ∧ (k : Int) < 10) = true := by simp; omega
  have h1 : (k : Int) < 10 := by omega
  have h0 : ¬ (k : Int) < 0 := by omega
  have C1 := Lib.hid c1
  clear c1
  go_enter Tryz.func53, Tryz.ntmps53
  go_wp2_with (first | (go_at_call 44; refine (bound_Account _ _).mono ?_; rw [C1.out]; rintro e w' ⟨rfl, rfl⟩) | fail)
  exact bodyPost_ret (v := .pointer (some ⟨g, k * 2, none⟩)) (by simp [results, Tryz.results53, go_sem]) rfl ⟨rfl, rfl⟩
theorem ledger_account_no {g : Nat} {a : Int} (ha : ¬ isAcc a) (w : World) : Calls Tryz.prog 53 #[.pointer (some ⟨g, 0, none⟩), .int .i64 a] w fun e w' => e = .returned (.pointer none) ∧ w' = w := by
  have c1 : decide (0 ≤ a ∧ a < 10) = false := by unfold isAcc at ha; exact decide_eq_false ha
  have C1 := Lib.hid c1
  clear c1 ha
  go_enter Tryz.func53, Tryz.ntmps53
  go_wp2_with (first | (go_at_call 44; refine (bound_Account _ _).mono ?_; rw [C1.out]; rintro e w' ⟨rfl, rfl⟩) | fail)
  exact bodyPost_ret (v := .pointer none) (by simp [results, Tryz.results53, go_sem]) rfl ⟨rfl, rfl⟩
theorem ledger_account_nil (a : Int) (w : World) : Calls Tryz.prog 53 #[.pointer none, .int .i64 a] w fun e w' => e = .returned (.pointer none) ∧ w' = w := by
  go_enter Tryz.func53, Tryz.ntmps53
  go_wp2
  exact bodyPost_ret (v := .pointer none) (by simp [results, Tryz.results53, go_sem]) rfl ⟨rfl, rfl⟩
def accOf (A : Acc) (a : Int) : Int × Int := if isAcc a then A a.toNat else (0, 0)
theorem ledger_Free {N g gl : Nat} {A : Acc} {M : Cls Int} {w : World} (h : LdAt N g gl A M w) (a : Int) : Calls Tryz.prog 30 #[.pointer (some ⟨g, 0, none⟩), .int .i64 a] w fun e w' => e = .returned (.int .i64 (accOf A a).1) ∧ w' = w := by
  by_cases ha : isAcc a
  · rw [accOf, if_pos ha]
    obtain ⟨k, rfl, hk⟩ := isAcc_nat ha
    have hc := h.free hk
    rw [Int.toNat_natCast]
    obtain ⟨v, hv⟩ : ∃ v, v = (A k).1 := ⟨_, rfl⟩
    rw [← hv] at hc ⊢
    clear hv h ha
    have HK := Lib.hid hk
    clear hk
    go_enter Tryz.func30, Tryz.ntmps30
    go_wp2_with (first | (go_at_call 53; refine (ledger_account HK.out w).mono ?_; rintro e w' ⟨rfl, rfl⟩) | fail)
    exact bodyPost_ret (v := .int .i64 v) (by simp [results, Tryz.results30, go_sem]) rfl ⟨rfl, rfl⟩
  · rw [accOf, if_neg ha]
    have HA := Lib.hid ha
    clear h ha
    go_enter Tryz.func30, Tryz.ntmps30
    go_wp2_with (first | (go_at_call 53; refine (ledger_account_no HA.out w).mono ?_; rintro e w' ⟨rfl, rfl⟩) | fail)
    exact bodyPost_ret (v := .int .i64 0) (by simp [results, Tryz.results30, go_sem]) rfl ⟨rfl, rfl⟩
theorem ledger_Held {N g gl : Nat} {A : Acc} {M : Cls Int} {w : World} (h : LdAt N g gl A M w) (a : Int) : Calls Tryz.prog 32 #[.pointer (some ⟨g, 0, none⟩), .int .i64 a] w fun e w' => e = .returned (.int .i64 (accOf A a).2) ∧ w' = w := by
  by_cases ha : isAcc a
  · rw [accOf, if_pos ha]
    obtain ⟨k, rfl, hk⟩ := isAcc_nat ha
    have hc := h.held hk
    rw [Int.toNat_natCast]
    obtain ⟨v, hv⟩ : ∃ v, v = (A k).2 := ⟨_, rfl⟩
    rw [← hv] at hc ⊢
    clear hv h ha
    have HK := Lib.hid hk
    clear hk
    go_enter Tryz.func32, Tryz.ntmps32
    go_wp2_with (first | (go_at_call 53; refine (ledger_account HK.out w).mono ?_; rintro e w' ⟨rfl, rfl⟩) | fail)
    exact bodyPost_ret (v := .int .i64 v) (by simp [results, Tryz.results32, go_sem]) rfl ⟨rfl, rfl⟩
  · rw [accOf, if_neg ha]
    have HA := Lib.hid ha
    clear h ha
    go_enter Tryz.func32, Tryz.ntmps32
    go_wp2_with (first | (go_at_call 53; refine (ledger_account_no HA.out w).mono ?_; rintro e w' ⟨rfl, rfl⟩) | fail)
    exact bodyPost_ret (v := .int .i64 0) (by simp [results, Tryz.results32, go_sem]) rfl ⟨rfl, rfl⟩
theorem ledger_Free_nil (a : Int) (w : World) : Calls Tryz.prog 30 #[.pointer none, .int .i64 a] w fun e w' => e = .returned (.int .i64 0) ∧ w' = w := by
  go_enter Tryz.func30, Tryz.ntmps30
  go_wp2_with (first | (go_at_call 53; refine (ledger_account_nil a w).mono ?_; rintro e w' ⟨rfl, rfl⟩) | fail)
  exact bodyPost_ret (v := .int .i64 0) (by simp [results, Tryz.results30, go_sem]) rfl ⟨rfl, rfl⟩
theorem ledger_Held_nil (a : Int) (w : World) : Calls Tryz.prog 32 #[.pointer none, .int .i64 a] w fun e w' => e = .returned (.int .i64 0) ∧ w' = w := by
  go_enter Tryz.func32, Tryz.ntmps32
  go_wp2_with (first | (go_at_call 53; refine (ledger_account_nil a w).mono ?_; rintro e w' ⟨rfl, rfl⟩) | fail)
  exact bodyPost_ret (v := .int .i64 0) (by simp [results, Tryz.results32, go_sem]) rfl ⟨rfl, rfl⟩
end Go.Proofs.YtcfcfijmfgnpfaaGreatDoor
end

section
namespace Go.Proofs.YtcfcfijmfgnpfaaGreatDoor
open Go.RowKit Go.Maps
set_option linter.unusedVariables false
set_option linter.unusedSimpArgs false

section
variable {P : Program} {α : Type}
theorem range_outerF1 {n : Nat} {g : Operand} {ps : Array Tmp} {assign body : Code} {id : Nat} {Q0 : Exit → Act → World → Prop} {a : Act} {w : World} {gf : Nat} {lb : Array Value} (hg : a.eval g = .func (.func gf) #[] lb) (eg : ∀ args w, (callFunc gf args).run P w = .ok (.enter gf args) w)
    {encs : α → Array Value} {xs : List α} {G : FP} {w0 : World} (hit : IterF P n gf lb encs xs G w0) (hg0 : Grow w0 w) (hG : ∀ k, G k → k < w0.heap.size ∧ w.heap[k]? = w0.heap[k]?) (hps : ∀ x, (encs x).size = ps.size)
    (Ψ : FP) (hΨ : ∀ k, Ψ k → k < w.heap.size) (I : List α → FP → World → Prop) (Ix : Code → List α → FP → World → Prop) (hI : Stab w.heap.size I) (hIx : ∀ c, Stab w.heap.size (Ix c)) (h0 : I [] (fun _ => False) w) (a₁ : α → Act)
    (hassign : ∀ (l : Nat) (x : α) (W : World) (K : Act → World → Prop), K (a₁ x) W → assign.wpIn (Fence.wide.inRound l) n P (Exit.then K (fun _ _ _ => False)) { tmps := (ps.zip (encs x)).foldl (fun t (p, v) => t.setIfInBounds p v) a.tmps, defers := [] } W)
    (hbody : ∀ (l : Nat) (pre : List α) (x : α) (Φ : FP) (W : World), (pre ++ [x]) <+: xs → I pre Φ W → w.heap.size < l → (∀ k, Φ k → l + 1 ≤ k) → (∃ r, W.heap[l]? = some (.loop r)) → body.wpIn (Fence.wide.inRound l) n P (bodyI Ψ Φ I Ix (pre ++ [x]) W) (a₁ x) W)
    (Fin : FP → World → Prop) (hF1 : ∀ Φ W, I xs Φ W → Fin Φ W) (hF2 : ∀ c pre Φ W, pre <+: xs → Ix c pre Φ W → c = .exit id ∧ Fin Φ W)
    (hfin : ∀ (D : Nat) (Φ : FP) (W : World), Fin Φ W → Only Ψ (fun _ => False) w W → w.heap.size ≤ D → ¬ Φ D → W.heap[D]? = some (.deferred (some [])) → Exit.inBlock id Q0 .normal { a with defers := { target := .collected D, args := #[] } :: a.defers } W) :
    (Code.rangeFunc g ps assign body).wpIn Fence.wide (n + 2) P (Exit.inBlock id Q0) a w := by
  refine range_outerF hg eg hit hg0 hG hps Ψ hΨ I Ix hI hIx h0 a₁ hassign hbody (fun D Φ W h => hfin D Φ W (hF1 Φ W h)) ?_
  intro D Φ c pre W hpre hix hon hD hnD hK
  obtain ⟨rfl, hf⟩ := hF2 c pre Φ W hpre hix
  have h := hfin D Φ W hf hon hD hnD hK
  refine wpIn_exit ?_
  unfold Exit.inBlock at h ⊢
  simpa using h
theorem range_outerU {n : Nat} {g : Operand} {ps : Array Tmp} {assign body : Code} {id : Nat} {Q0 : Exit → Act → World → Prop} {a : Act} {w : World} {gf : Nat} {lb : Array Value} (hg : a.eval g = .func (.func gf) #[] lb) (eg : ∀ args w, (callFunc gf args).run P w = .ok (.enter gf args) w)
    {encs : α → Array Value} {xs : List α} {G : FP} {w0 : World} (hit : IterF P n gf lb encs xs G w0) (hg0 : Grow w0 w) (hG : ∀ k, G k → k < w0.heap.size ∧ w.heap[k]? = w0.heap[k]?) (hps : ∀ x, (encs x).size = ps.size)
    (Ψ : FP) (hΨ : ∀ k, Ψ k → k < w.heap.size) (I : List α → FP → World → Prop) (Ix : Code → List α → FP → World → Prop) (hI : Stab w.heap.size I) (hIx : ∀ c, Stab w.heap.size (Ix c)) (h0 : I [] (fun _ => False) w) (up : α → Array Value → Array Value)
    (hassign : ∀ (l : Nat) (x : α) (W : World) (K : Act → World → Prop), K { tmps := up x a.tmps, defers := [] } W → assign.wpIn (Fence.wide.inRound l) n P (Exit.then K (fun _ _ _ => False)) { tmps := (ps.zip (encs x)).foldl (fun t (p, v) => t.setIfInBounds p v) a.tmps, defers := [] } W)
    (hbody : ∀ (l : Nat) (pre : List α) (x : α) (Φ : FP) (W : World), (pre ++ [x]) <+: xs → I pre Φ W → w.heap.size < l → (∀ k, Φ k → l + 1 ≤ k) → (∃ r, W.heap[l]? = some (.loop r)) → body.wpIn (Fence.wide.inRound l) n P (bodyI Ψ Φ I Ix (pre ++ [x]) W) { tmps := up x a.tmps, defers := [] } W)
    (Fin : FP → World → Prop) (hF1 : ∀ Φ W, I xs Φ W → Fin Φ W) (hF2 : ∀ c pre Φ W, pre <+: xs → Ix c pre Φ W → c = .exit id ∧ Fin Φ W)
    (hfin : ∀ (D : Nat) (Φ : FP) (W : World), Fin Φ W → Only Ψ (fun _ => False) w W → w.heap.size ≤ D → ¬ Φ D → W.heap[D]? = some (.deferred (some [])) → Exit.inBlock id Q0 .normal { a with defers := { target := .collected D, args := #[] } :: a.defers } W) :
    (Code.rangeFunc g ps assign body).wpIn Fence.wide (n + 2) P (Exit.inBlock id Q0) a w :=
  range_outerF1 hg eg hit hg0 hG hps Ψ hΨ I Ix hI hIx h0 (fun x => { tmps := up x a.tmps, defers := [] }) hassign hbody Fin hF1 hF2 hfin
end

/-- A cross: row 3 and column 3, k of each. -/
structure Cross (M : Cls Int) (k : Nat) : Prop where
  s : SrtC M
  m : ∀ a b v, ((a, b), v) ∈ M ↔ (a = 3 ∧ 0 ≤ b ∧ b < k ∧ v = b) ∨ (b = 3 ∧ 0 ≤ a ∧ a < k ∧ v = a)
  l : M.length ≤ 2 * k
theorem Cross.nil : Cross [] 0 := ⟨List.Pairwise.nil, fun a b v => by simp; omega, Nat.le_refl _⟩
theorem length_put_le {M : Cls Int} (h : SrtC M) (a b v : Int) : (cput M a b v).length ≤ M.length + 1 := by
  rw [h.length_put]; split <;> omega
theorem Cross.step {M : Cls Int} {k : Nat} (h : Cross M k) : Cross (cput (cput M 3 k k) k 3 k) (k + 1) := by
  refine ⟨(h.s.put _ _ _).put _ _ _, fun a b v => ?_, ?_⟩
  · rw [mem_cput, mem_cput, h.m a b v]
    simp only [ne_eq, Prod.mk.injEq]
    have e : ((k + 1 : Nat) : Int) = (k : Int) + 1 := by omega
    rw [e]
    constructor
    · rintro (⟨⟨rfl, rfl⟩, rfl⟩ | ⟨⟨⟨rfl, rfl⟩, rfl⟩ | ⟨h, h1⟩, h2⟩) <;> omega
    · intro h
      by_cases e1 : a = k ∧ b = 3
      · left; omega
      · right
        refine ⟨?_, e1⟩
        by_cases e2 : a = 3 ∧ b = k
        · left; omega
        · right
          refine ⟨?_, e2⟩
          omega
  · have h1 := length_put_le h.s 3 k k
    have h2 := length_put_le (h.s.put 3 k k) k 3 k
    have := h.l
    omega
def diag (n : Nat) : List (Int × Int) := (List.range n).map (fun i : Nat => ((i : Int), (i : Int)))
theorem diag_len (n : Nat) : (diag n).length = n := by simp [diag]
theorem diag_at {n k : Nat} (h : k < (diag n).length) : (diag n)[k] = ((k : Int), (k : Int)) := by simp [diag]
theorem diag_srt (n : Nat) : SrtK (diag n) := by
  refine List.pairwise_map.2 (List.Pairwise.imp ?_ List.pairwise_lt_range)
  intro a b h
  show (a : Int) < (b : Int)
  omega
theorem mem_diag {n : Nat} {x : Int × Int} : x ∈ diag n ↔ 0 ≤ x.1 ∧ x.1 < n ∧ x.2 = x.1 := by
  simp only [diag, List.mem_map, List.mem_range]
  constructor
  · rintro ⟨i, hi, rfl⟩
    exact ⟨by show (0:Int) ≤ (i : Int); omega, by show (i : Int) < n; omega, rfl⟩
  · rintro ⟨h1, h2, h3⟩
    refine ⟨x.1.toNat, by omega, ?_⟩
    apply Prod.ext
    · show ((x.1.toNat : Nat) : Int) = x.1; omega
    · show ((x.1.toNat : Nat) : Int) = x.2; omega
theorem Cross.row {M : Cls Int} {k : Nat} (h : Cross M k) : rowOf M 3 = diag k :=
  (h.s.row 3).ext (diag_srt k) (fun x => by rw [mem_rowOf, mem_diag, h.m]; omega)
theorem Cross.col {M : Cls Int} {k : Nat} (h : Cross M k) : colOf M 3 = diag k :=
  (h.s.col 3).ext (diag_srt k) (fun x => by rw [mem_colOf, mem_diag, h.m]; omega)
/-- A prefix of the diagonal. -/
theorem diag_pre {n : Nat} {pre : List (Int × Int)} {x : Int × Int} (h : (pre ++ [x]) <+: diag n) : x = ((pre.length : Int), (pre.length : Int)) ∧ pre.length < n := by
  have hl := h.length_le
  rw [List.length_append, List.length_singleton, diag_len] at hl
  obtain ⟨t, ht⟩ := h
  have e : (diag n)[pre.length]? = some x := by
    rw [← ht, List.append_assoc, List.getElem?_append_right (Nat.le_refl _), Nat.sub_self]
    rfl
  have hk : pre.length < (diag n).length := by rw [diag_len]; omega
  have e2 := List.getElem?_eq_getElem hk
  rw [e, diag_at hk] at e2
  exact ⟨Option.some.inj e2, by omega⟩
/-- What such a loop holds: the limit in its box, the count in its own. -/
structure StpI (N0 sb jb t j : Nat) (Φ : FP) (W : World) : Prop where
  bs : Boxed W sb 3 (.int .i64 (t : Nat))
  bj : Boxed W jb 3 (.int .i64 (j : Nat))
  no : ∀ k, ¬ Φ k
  sz : N0 ≤ W.heap.size
theorem StpI.keep {N0 sb jb t j : Nat} {Φ : FP} {W W' : World} (h : StpI N0 sb jb t j Φ W) (h1 : sb < N0) (h2 : jb < N0) (hg : Grow W W') (hk : ∀ k, (k < N0 ∨ Φ k) → W'.heap[k]? = W.heap[k]?) : StpI N0 sb jb t j Φ W' :=
  ⟨(hk sb (.inl h1)).trans h.bs, (hk jb (.inl h2)).trans h.bj, h.no, Nat.le_trans h.sz hg.size⟩
def StpA (N0 sb jb t : Nat) (pre : List (Int × Int)) (Φ : FP) (W : World) : Prop := pre.length < t ∧ StpI N0 sb jb t pre.length Φ W
def StpX (id N0 sb jb t : Nat) (c : Code) (pre : List (Int × Int)) (Φ : FP) (W : World) : Prop := c = .exit id ∧ pre.length = t ∧ StpI N0 sb jb t pre.length Φ W
theorem StpA.stab {N0 sb jb t : Nat} (h1 : sb < N0) (h2 : jb < N0) : Stab N0 (StpA N0 sb jb t) := by
  rintro pre Φ W ⟨h0, h⟩
  exact ⟨fun k hk => (h.no k hk).elim, h.sz, fun W' hg hk => ⟨h0, h.keep h1 h2 hg hk⟩⟩
theorem StpX.stab {id N0 sb jb t : Nat} (h1 : sb < N0) (h2 : jb < N0) (c : Code) : Stab N0 (StpX id N0 sb jb t c) := by
  rintro pre Φ W ⟨h0, h01, h⟩
  exact ⟨fun k hk => (h.no k hk).elim, h.sz, fun W' hg hk => ⟨h0, h01, h.keep h1 h2 hg hk⟩⟩
/-- One more. -/
theorem StpI.step {N0 sb jb t j : Nat} {Φ : FP} {W : World} (h : StpI N0 sb jb t j Φ W) (hne : sb ≠ jb) (j1 : Nat) :
    StpI N0 sb jb t j1 Φ (W.setCell ⟨jb, 0, none⟩ (.int .i64 (j1 : Nat))) ∧ Only (fun k => k = jb) Φ W (W.setCell ⟨jb, 0, none⟩ (.int .i64 (j1 : Nat))) :=
  ⟨⟨(Below.heap_setCell _ _ _ sb hne).trans h.bs, h.bj.set _, h.no, by rw [show (W.setCell ⟨jb, 0, none⟩ (.int .i64 (j1 : Nat))).heap.size = W.heap.size by simp [World.setCell]]; exact h.sz⟩,
    ⟨⟨rfl, rfl, rfl, by simp [World.setCell]⟩, fun k hk h1 h2 => Below.heap_setCell _ _ _ k h1⟩⟩
end Go.Proofs.YtcfcfijmfgnpfaaGreatDoor
end

section
namespace Go.Proofs.YtcfcfijmfgnpfaaGreatDoor
open Go.RowKit Go.Maps Go.Shelf
attribute [local go_sem] Oper.semAt_some
set_option linter.unusedVariables false
set_option linter.unusedSimpArgs false

theorem wpl_index {P : Program} {w : World} {ops : Array Oper} {rest : List Oper} {o : Oper} {a : Act} {Q : Exit → Act → World → Prop} (hg : o.guard = none) (x i : Operand) (t : TypeId) (hop : o.op = Op.index t x i) {xv iv r : Value} (hx : a.eval x = xv) (hi : a.eval i = iv) (hr : (Instr.index t xv iv).run P w = .ok r w)
    (h : wpList P ops Q rest (a.put o.dst r) w) : wpList P ops Q (o :: rest) a w := by
  refine wpList_plain hg fun K hK => ?_
  unfold Oper.wp
  simp [execOp, hop, hx, hi, hr, Result.andThen]
  exact hK _ _ h
theorem accInfo : (Tryz.prog.info? 81).map (·.size) = some 20 := by kernel_rfl
theorem acc1Info : (Tryz.prog.info? 80).map (·.size) = some 2 := by kernel_rfl
theorem run_acc0 (A : Acc) (w : World) : (Instr.index 81 (.agg (accs A 10).toArray) (.int .i64 0)).run Tryz.prog w = .ok (.agg #[.int .i64 (A 0).1, .int .i64 (A 0).2]) w := by kernel_rfl
theorem run_acc1 (A : Acc) (w : World) : (Instr.index 81 (.agg (accs A 10).toArray) (.int .i64 1)).run Tryz.prog w = .ok (.agg #[.int .i64 (A 1).1, .int .i64 (A 1).2]) w := by kernel_rfl
theorem run_acc2 (A : Acc) (w : World) : (Instr.index 81 (.agg (accs A 10).toArray) (.int .i64 2)).run Tryz.prog w = .ok (.agg #[.int .i64 (A 2).1, .int .i64 (A 2).2]) w := by kernel_rfl
theorem run_acc3 (A : Acc) (w : World) : (Instr.index 81 (.agg (accs A 10).toArray) (.int .i64 3)).run Tryz.prog w = .ok (.agg #[.int .i64 (A 3).1, .int .i64 (A 3).2]) w := by kernel_rfl
theorem run_acc4 (A : Acc) (w : World) : (Instr.index 81 (.agg (accs A 10).toArray) (.int .i64 4)).run Tryz.prog w = .ok (.agg #[.int .i64 (A 4).1, .int .i64 (A 4).2]) w := by kernel_rfl
theorem run_acc5 (A : Acc) (w : World) : (Instr.index 81 (.agg (accs A 10).toArray) (.int .i64 5)).run Tryz.prog w = .ok (.agg #[.int .i64 (A 5).1, .int .i64 (A 5).2]) w := by kernel_rfl
theorem run_acc6 (A : Acc) (w : World) : (Instr.index 81 (.agg (accs A 10).toArray) (.int .i64 6)).run Tryz.prog w = .ok (.agg #[.int .i64 (A 6).1, .int .i64 (A 6).2]) w := by kernel_rfl
theorem run_acc7 (A : Acc) (w : World) : (Instr.index 81 (.agg (accs A 10).toArray) (.int .i64 7)).run Tryz.prog w = .ok (.agg #[.int .i64 (A 7).1, .int .i64 (A 7).2]) w := by kernel_rfl
theorem run_acc8 (A : Acc) (w : World) : (Instr.index 81 (.agg (accs A 10).toArray) (.int .i64 8)).run Tryz.prog w = .ok (.agg #[.int .i64 (A 8).1, .int .i64 (A 8).2]) w := by kernel_rfl
theorem run_acc9 (A : Acc) (w : World) : (Instr.index 81 (.agg (accs A 10).toArray) (.int .i64 9)).run Tryz.prog w = .ok (.agg #[.int .i64 (A 9).1, .int .i64 (A 9).2]) w := by kernel_rfl
theorem run_acc (A : Acc) {k : Nat} (hk : k < 10) (w : World) : (Instr.index 81 (.agg (accs A 10).toArray) (.int .i64 (k : Int))).run Tryz.prog w = .ok (.agg #[.int .i64 (A k).1, .int .i64 (A k).2]) w :=
  match k, hk with
  | 0, _ => run_acc0 A w
  | 1, _ => run_acc1 A w
  | 2, _ => run_acc2 A w
  | 3, _ => run_acc3 A w
  | 4, _ => run_acc4 A w
  | 5, _ => run_acc5 A w
  | 6, _ => run_acc6 A w
  | 7, _ => run_acc7 A w
  | 8, _ => run_acc8 A w
  | 9, _ => run_acc9 A w
set_option maxRecDepth 100000 in
set_option maxHeartbeats 1000000 in
theorem ledger_Issued {N g gl : Nat} {A : Acc} {M : Cls Int} {w : World} (h : LdAt N g gl A M w) : Calls Tryz.prog 40 #[.pointer (some ⟨g, 0, none⟩)] w fun e w' => e = .returned (.int .i64 (sumTo A 10)) ∧ Below w.heap.size w w' := by
  have hrg : w.rangeAt g 0 (accs A 10) := fun i v hv => by
    have hl := accs_len A 10
    have hi := (List.getElem?_eq_some_iff.1 hv).1
    rw [Nat.zero_add]
    refine cell_of h.blk ?_
    unfold lcells
    rw [List.getElem?_append_left hi]; exact hv
  have hok := h.ok
  obtain ⟨cs, hcs⟩ : ∃ cs, cs = (accs A 10).toArray := ⟨_, rfl⟩
  have hix := fun (k : Nat) (hk : k < 10) (w : World) => run_acc A hk w
  rw [← hcs] at hix
  have HRG := Lib.hid hrg
  have HIX := Lib.hid hix
  have HOK := Lib.hid hok
  have HCS := Lib.hid hcs
  clear h hrg hix hok hcs
  go_enter Tryz.func40, Tryz.ntmps40
  go_wp2_with (first
    | (refine wpList_load_mid rfl 81 _ rfl g 0 rfl (accs A 10) _ HRG.out Tryz.underlying81 rfl (by rw [accs_len]; exact accInfo) ?_; rw [← HCS.out])
    | fail)
  have tok1 : True := trivial
  go_loopw [3, 12] (fun s i wr => ∃ k : Nat, k ≤ 10 ∧ i = .int .i64 k ∧ s = .int .i64 (sumTo A k) ∧ Below w.heap.size w wr) (fun _ i _ => 10 - (Go.RowKit.intOf i).toNat)
  case atStart => exact ⟨0, by omega, rfl, rfl, Below.refl _ w⟩
  case round =>
    obtain ⟨k, hk, rfl, rfl, hb⟩ := hrel
    have HB := Lib.hid hb
    clear hb
    by_cases hlt : k < 10
    · have hlt' : (k : Int) < 10 := by omega
      obtain ⟨p, hp⟩ : ∃ p, p = (A k).1 := ⟨_, rfl⟩
      obtain ⟨q, hq⟩ : ∃ q, q = (A k).2 := ⟨_, rfl⟩
      obtain ⟨s0, hs0⟩ : ∃ s0, s0 = sumTo A k := ⟨_, rfl⟩
      have hix := HIX.out k hlt
      rw [← hp, ← hq] at hix
      have HI := Lib.hid hix
      have hn1 : IntKind.i64.wrap (p + q) = p + q := IntWalk.i64_in _ (by have := HOK.out.one hlt; have := HOK.out.free k; have := HOK.out.held k; unfold both at *; omega)
      have hn2 : IntKind.i64.wrap (s0 + (p + q)) = s0 + (p + q) := IntWalk.i64_in _ (by have := HOK.out.one hlt; have := HOK.out.sum k; have := HOK.out.part (n := k) (by omega); unfold both at *; omega)
      have hs1 : sumTo A (k + 1) = s0 + (p + q) := by rw [sumTo, hs0, hp, hq]; rfl
      have HS1 := Lib.hid hs1
      rw [← hs0]
      clear hix hs1 hp hq hs0
      go_wp2_with (first
        | (refine wpl_index rfl _ _ _ rfl rfl rfl (HI.out _) ?_)
        | fail)
      go_roundw
      case rel => exact ⟨k + 1, by omega, by go_num, by rw [HS1.out], HB.out.trans ((Below.refl _ wr).alloc (Nat.le_refl _) _ |>.mono HB.out.size)⟩
      case measure => simp [Go.RowKit.intOf]; omega
    · have hge : ¬ (k : Int) < 10 := by omega
      obtain rfl : k = 10 := by omega
      go_wp2_with fail
      exact bodyPost_ret (v := .int .i64 (sumTo A 10)) (by simp [results, Tryz.results40, go_sem]) rfl ⟨rfl, HB.out⟩
end Go.Proofs.YtcfcfijmfgnpfaaGreatDoor
end

section
namespace Go.Proofs.YtcfcfijmfgnpfaaGreatDoor
open Go.RowKit Go.Maps Go.Shelf
attribute [local go_sem] Oper.semAt_some
set_option linter.unusedVariables false
set_option linter.unusedSimpArgs false

theorem marks_leave {F : Fence} {n : Nat} {P : Program} {fn : Func} {tmps : Array Value} {R : Ending → World → Prop} : ∀ (Ds : List Nat) (w : World), Ds.Nodup → (∀ D ∈ Ds, w.heap[D]? = some (.deferred (some []))) →
    (∀ w', Grow w w' → (∀ k, k ∉ Ds → w'.heap[k]? = w.heap[k]?) → LeavesIn F n P fn tmps R [] .returning w') → LeavesInM F n P fn tmps R (Ds.map fun D => { target := .collected D, args := #[] }) .returning w
  | [], w, _, _, h => h w (Grow.refl w) (fun _ _ => rfl)
  | D :: Ds, w, hn, hd, h => by
    have hn' := List.nodup_cons.1 hn
    refine ⟨by simp, .inl ⟨D, _, rfl, run_takeDeferred (hd D (by simp)), ?_⟩⟩
    refine marks_leave Ds _ hn'.2 (fun D' hD' => ?_) (fun w' hg hk => h w' ((put_grow w D _).trans hg) (fun k hk' => ?_))
    · rw [put_other (fun e => hn'.1 (by rw [← e]; exact hD'))]
      exact hd D' (List.mem_cons_of_mem _ hD')
    · simp only [List.mem_cons, not_or] at hk'
      rw [hk k hk'.2, put_other hk'.1]
theorem RoundIn.inAny {n m l lp : Nat} {P : Program} {fn : FuncId} {tm : Array Value} {asg bd : Code} {W : World} {R : Ending → World → Prop} (h : RoundIn Fence.wide n P lp fn tm asg bd W R) : RoundIn (Fence.wide.inRound l) m P lp fn tm asg bd W R :=
  ⟨trivial, fun c cs _ => h.2 c cs (room_wide _)⟩
/-- The loops behind. -/
def Marks (lo : Nat) (ds : List Deferred) (Φ : FP) (w : World) : Prop :=
  ∃ Ds : List Nat, ds = Ds.map (fun D => { target := .collected D, args := #[] }) ∧ Ds.Nodup ∧ ∀ D ∈ Ds, lo ≤ D ∧ ¬ Φ D ∧ w.heap[D]? = some (.deferred (some []))
theorem Marks.nil (lo : Nat) (Φ : FP) (w : World) : Marks lo [] Φ w := ⟨[], rfl, List.nodup_nil, fun D h => by cases h⟩
theorem Marks.lt {lo : Nat} {ds : List Deferred} {Φ : FP} {w : World} (h : Marks lo ds Φ w) : True := trivial
theorem Marks.step {lo : Nat} {ds : List Deferred} {Φ Φ' : FP} {w w' : World} (h : Marks lo ds Φ w) {D : Nat} (hlo : lo ≤ D) (hD : w.heap.size ≤ D) (hnD : ¬ Φ' D) (hK : w'.heap[D]? = some (.deferred (some [])))
    (hk : ∀ k, k < w.heap.size → lo ≤ k → ¬ Φ k → w'.heap[k]? = w.heap[k]?) (hΦ : ∀ k, Φ' k → Φ k ∨ w.heap.size ≤ k) : Marks lo ({ target := .collected D, args := #[] } :: ds) Φ' w' := by
  obtain ⟨Ds, rfl, hn, hd⟩ := h
  have hlt : ∀ D' ∈ Ds, D' < w.heap.size := fun D' hD' => (Array.getElem?_eq_some_iff.1 (hd D' hD').2.2).1
  refine ⟨D :: Ds, rfl, List.nodup_cons.2 ⟨fun hm => by have := hlt D hm; omega, hn⟩, fun D' hD' => ?_⟩
  rcases List.mem_cons.1 hD' with rfl | hm
  · exact ⟨hlo, hnD, hK⟩
  · obtain ⟨h1, h2, h3⟩ := hd D' hm
    exact ⟨h1, fun hp => (hΦ D' hp).elim h2 (fun h => by have := hlt D' hm; omega), (hk D' (hlt D' hm) h1 h2).trans h3⟩
/-- One row's cells. -/
def cellsOf (M : Cls Int) (a : Int) : Cls Int := (rowOf M a).map (fun x => ((a, x.1), x.2))
def upTo (M : Cls Int) (ks : List Int) : Cls Int := ks.flatMap (cellsOf M)
theorem upTo_snoc (M : Cls Int) (ks : List Int) (a : Int) : upTo M (ks ++ [a]) = upTo M ks ++ cellsOf M a := by simp [upTo]
theorem cellsOf_take {M : Cls Int} {a : Int} {pre : List (Int × Int)} {x : Int × Int} (h : pre ++ [x] <+: rowOf M a) : pre.map (fun y => ((a, y.1), y.2)) ++ [((a, x.1), x.2)] <+: cellsOf M a := by
  obtain ⟨t, ht⟩ := h
  refine ⟨t.map (fun y => ((a, y.1), y.2)), ?_⟩
  unfold cellsOf
  rw [← ht]
  simp
/-- .. where it was left. -/
def CelX (Φ0 : FP) (base : Nat) (a : Int) (Jx : Cls Int → FP → World → Prop) (done : Cls Int) (c : Code) (pre : List (Int × Int)) (Φ : FP) (W' : World) : Prop :=
  c = .ret ∧ ∃ Φo, Jx (done ++ pre.map (fun y => ((a, y.1), y.2))) Φo W' ∧ (∀ k, Φo k → Φ0 k ∨ base ≤ k) ∧ (∀ k, Φ k ↔ Φo k ∧ base ≤ k) ∧ base ≤ W'.heap.size
theorem CelX.stab {B base : Nat} {Φ0 : FP} {a : Int} {J : Cls Int → FP → World → Prop} {done : Cls Int} (hJ : Stab B J) (hB : B ≤ base) (c : Code) : Stab base (CelX Φ0 base a J done c) := by
  rintro pre Φ W' ⟨hcc, Φo, hj, ho, hi, hs⟩
  obtain ⟨h1, h2, h3⟩ := hJ _ _ _ hj
  refine ⟨fun k hk => ⟨((hi k).1 hk).2, (h1 k ((hi k).1 hk).1).2⟩, hs, fun W'' hg hk => ⟨hcc, Φo, h3 W'' hg (fun k hk' => ?_), ho, hi, Nat.le_trans hs hg.size⟩⟩
  rcases hk' with h | h
  · exact hk k (.inl (by omega))
  · by_cases hb : k < base
    · exact hk k (.inl hb)
    · exact hk k (.inr ((hi k).2 ⟨h, by omega⟩))

end Go.Proofs.YtcfcfijmfgnpfaaGreatDoor
end

section
namespace Go.Proofs.YtcfcfijmfgnpfaaGreatDoor
open Go.RowKit Go.Maps Go.Shelf
attribute [local go_sem] Oper.semAt_some
set_option linter.unusedVariables false
set_option linter.unusedSimpArgs false

section
variable {P : Program} {α : Type}
/-- A range that is never left, whatever stands in the frame. -/
theorem range_outerV {n : Nat} {g : Operand} {ps : Array Tmp} {assign body : Code} {Q : Exit → Act → World → Prop} {a : Act} {w : World} {gf : Nat} {lb : Array Value} (hg : a.eval g = .func (.func gf) #[] lb) (eg : ∀ args w, (callFunc gf args).run P w = .ok (.enter gf args) w)
    {encs : α → Array Value} {xs : List α} {G : FP} {w0 : World} (hit : IterF P n gf lb encs xs G w0) (hg0 : Grow w0 w) (hG : ∀ k, G k → k < w0.heap.size ∧ w.heap[k]? = w0.heap[k]?) (hps : ∀ x, (encs x).size = ps.size)
    (Ψ : FP) (hΨ : ∀ k, Ψ k → k < w.heap.size) (I : List α → FP → World → Prop) (hI : Stab w.heap.size I) (h0 : I [] (fun _ => False) w) (up : α → Array Value → Array Value)
    (hassign : ∀ (l : Nat) (x : α) (W : World) (K : Act → World → Prop), K { tmps := up x a.tmps, defers := [] } W → assign.wpIn (Fence.wide.inRound l) n P (Exit.then K (fun _ _ _ => False)) { tmps := (ps.zip (encs x)).foldl (fun t (p, v) => t.setIfInBounds p v) a.tmps, defers := [] } W)
    (hbody : ∀ (l : Nat) (pre : List α) (x : α) (Φ : FP) (W : World), (pre ++ [x]) <+: xs → I pre Φ W → w.heap.size < l → (∀ k, Φ k → l + 1 ≤ k) → (∃ r, W.heap[l]? = some (.loop r)) → body.wpIn (Fence.wide.inRound l) n P (bodyI Ψ Φ I (fun _ _ _ _ => False) (pre ++ [x]) W) { tmps := up x a.tmps, defers := [] } W)
    (hdone : ∀ (D : Nat) (Φ : FP) (W : World), I xs Φ W → Only Ψ (fun _ => False) w W → w.heap.size ≤ D → ¬ Φ D → W.heap[D]? = some (.deferred (some [])) → Q .normal { a with defers := { target := .collected D, args := #[] } :: a.defers } W) :
    (Code.rangeFunc g ps assign body).wpIn Fence.wide (n + 2) P Q a w :=
  range_outerF hg eg hit hg0 hG hps Ψ hΨ I (fun _ _ _ _ => False) hI (fun c _ _ _ h => h.elim) h0 (fun x => { tmps := up x a.tmps, defers := [] }) hassign hbody hdone (fun D Φ c pre W _ h => h.elim)
end

set_option maxRecDepth 100000 in
theorem ledger_row {N g gl : Nat} {A : Acc} {M : Cls Int} {w : World} (h : LdAt N g gl A M w) {a : Int} (ha : (Lit.int .i64 a).wf = true) : Calls Tryz.prog 109 #[.pointer (some ⟨g, 0, none⟩), .int .i64 a] w fun e w' => ∃ f, e = .returned f ∧ Way Tryz.prog encs_I f (rowOf M a) w' ∧ Below w.heap.size w w' := by
  have hp := h.ptr
  obtain ⟨F, hF, -⟩ := h.gr
  have HF := Lib.hid (And.intro hF (And.intro h.len ha))
  clear h hF ha
  go_enter Tryz.func109, Tryz.ntmps109
  go_wp2_with (first | (go_at_call 123; refine (grid_Row_I HF.out.1 (by have := HF.out.2.1; omega) HF.out.2.2).mono ?_; rintro e w' ⟨f, rfl, hw, hb⟩; have HW := Lib.hid (And.intro hw hb); clear hw hb) | fail)
  go_ret
  exact ⟨_, rfl, HW.out⟩
theorem ledger_row_nil (a : Int) (w : World) : Calls Tryz.prog 109 #[.pointer none, .int .i64 a] w fun e w' => ∃ f, e = .returned f ∧ Way Tryz.prog encs_I f [] w' ∧ Below w.heap.size w w' := by
  go_enter Tryz.func109, Tryz.ntmps109
  go_wp2_with (first | (go_at_call 123; refine (grid_Row_nil_I a w).mono ?_; rintro e w' ⟨f, rfl, hw, hb⟩; have HW := Lib.hid (And.intro hw hb); clear hw hb) | fail)
  go_ret
  exact ⟨_, rfl, HW.out⟩

/-- What Locked's range holds. -/
def LckJ (N0 gb : Nat) (pre : List (Int × Int)) (Φ : FP) (W : World) : Prop := (∀ k, ¬ Φ k) ∧ Boxed W gb 3 (.int .i64 (maxTo pre)) ∧ N0 ≤ W.heap.size
theorem LckJ.stab {N0 gb : Nat} (h1 : gb < N0) : Stab N0 (LckJ N0 gb) := by
  rintro pre Φ W ⟨h0, h, hs⟩
  exact ⟨fun k hk => (h0 k hk).elim, hs, fun W' hg hk => ⟨h0, (hk gb (.inl h1)).trans h, Nat.le_trans hs hg.size⟩⟩
set_option maxHeartbeats 4000000 in
set_option maxRecDepth 100000 in
theorem locked_of (l : Value) (a : Int) (xs : List (Int × Int)) (w : World) (hrow : ∀ w', Below w.heap.size w w' → Calls Tryz.prog 109 #[l, .int .i64 a] w' fun e w'' => ∃ f, e = .returned f ∧ Way Tryz.prog encs_I f xs w'' ∧ Below w'.heap.size w' w'') :
    Calls Tryz.prog 87 #[l, .int .i64 a] w fun e w' => e = .returned (.int .i64 (maxTo xs)) ∧ Below w.heap.size w w' := by
  refine (callsIn_wide (n := 2)).1 ?_
  refine callsIn_of_wp_marks Tryz.func87 rfl trivial ?_ rfl
  simp only [Tryz.ntmps87, List.size_toArray, List.length_cons, List.length_nil, Nat.reduceAdd, Nat.reduceSub, Array.replicate_succ, Array.replicate_zero, List.push_toArray, List.append_toArray, List.nil_append, List.cons_append]
  have HROW := Lib.hid hrow
  clear hrow
  obtain ⟨w1, hw1⟩ : ∃ w1, w1 = w.alloc (.cells #[.int .i64 0] 3) := ⟨_, rfl⟩
  have hb1 : Below w.heap.size w w1 := by rw [hw1]; exact (Below.refl _ w).alloc (Nat.le_refl _) _
  have x0 : Boxed w1 w.heap.size 3 (.int .i64 0) := by rw [hw1]; exact Boxed.new w _ _
  have hs1 : w1.heap.size = w.heap.size + 1 := by rw [hw1]; simp
  have HW1 := Lib.hid hw1
  have H1 := Lib.hid (And.intro hb1 (And.intro x0 hs1))
  clear hw1 hb1 x0 hs1
  gi_wp2_with (first
    | (refine ⟨trivial, ?_⟩; gi_at_call 109; rw [← HW1.out]; refine (callsIn_wide.2 (HROW.out w1 H1.out.1)).mono ?_; rintro e w2 ⟨f, rfl, hway, hb⟩; obtain ⟨gf, lb, rfl, hit⟩ := hway; have H2 := Lib.hid (And.intro hit hb); clear hit hb)
    | fail)
  obtain ⟨gb, hgb⟩ : ∃ gb, gb = w.heap.size := ⟨_, rfl⟩
  obtain ⟨hb1, x0, hs1⟩ := H1.out
  rw [← hgb] at x0 hs1 ⊢
  obtain ⟨hit, hb2⟩ := H2.out
  have x2 : Boxed w2 gb 3 (.int .i64 (maxTo [])) := (hb2.block gb (by omega)).trans x0
  have hs2 := hb2.size
  have hgl : gb < w2.heap.size := by omega
  have HGB := Lib.hid hgb
  clear hgb
  refine range_outerV (n := 0) (gf := gf) (lb := lb) rfl hit.1 (hit.2 0) (Grow.refl w2) (fun k hk => ⟨hk, rfl⟩) (fun _ => rfl)
    (fun k => k = gb) (by rintro k rfl; exact hgl) (LckJ w2.heap.size gb) (LckJ.stab hgl) ⟨fun _ h => h, x2, Nat.le_refl _⟩
    (fun x T => ((T.setIfInBounds 11 (.int .i64 x.1)).setIfInBounds 12 (.int .i64 x.2)).setIfInBounds 7 (.int .i64 x.2)) ?assign ?body ?done
  case assign =>
    intro l x W K hK
    simp only [encs_I]
    gi_wp2
    exact hK
  case body =>
    rintro l pre x Φ W hpx ⟨hno, hbx, hsz⟩ hl hΦ -
    have c1 := hbx.cell
    have f1 := hbx.frozen
    have hset : Boxed (W.setCell ⟨gb, 0, none⟩ (.int .i64 (max (maxTo pre) x.2))) gb 3 (.int .i64 (max (maxTo pre) x.2)) := hbx.set _
    obtain ⟨m, hm⟩ : ∃ m, m = maxTo pre := ⟨_, rfl⟩
    obtain ⟨y, hy⟩ : ∃ y, y = x.2 := ⟨_, rfl⟩
    rw [← hm] at c1 hset
    rw [← hy] at hset ⊢
    have hmx : maxTo (pre ++ [x]) = max m y := by rw [maxTo_snoc, hm, hy]
    have HS := Lib.hid (And.intro hset (And.intro hno (And.intro hsz hmx)))
    clear hbx hset hno hsz hmx hm hy
    gi_wp2_with fail
    obtain ⟨hset, hno, hsz, hmx⟩ := HS.out
    exact ⟨Φ, fun k h => .inl h, ⟨grow_set, fun k hk h1 h2 => Below.heap_setCell _ _ _ k h1⟩, hno, by rw [hmx]; exact hset, by simp [World.setCell]; exact hsz⟩
  case done =>
    rintro D Φ W3 ⟨hno, hbx, hsz⟩ hon hD hnD hK
    have c1 := hbx.cell
    have HD := Lib.hid (And.intro hno (And.intro hon (And.intro hD hK)))
    clear hno hbx hon hD hK hnD
    gi_wp2_with fail
    obtain ⟨hno, hon, hD, hK⟩ := HD.out
    have hgb := HGB.out
    refine marks_leave [D] W3 (by simp) (fun d hd => ?_) (fun w' hg hk => ⟨.int .i64 (maxTo xs), by simp [results, Tryz.results87, go_sem], rfl, ?_⟩)
    · simp only [List.mem_cons, List.not_mem_nil, or_false] at hd
      subst hd; exact hK
    · have hg0 : Grow w w' := ((Grow.of_below hb1).trans (Grow.of_below hb2)).trans (hon.grow.trans hg)
      refine ⟨hg0.os, hg0.tape, hg0.output, hg0.size, fun j hj => ?_⟩
      rw [hk j (by simp; omega), hon.block j (by omega) (by omega) (fun h => h), hb2.block j (by omega)]
      exact hb1.block j hj
theorem ledger_Locked {N g gl : Nat} {A : Acc} {M : Cls Int} {w : World} (h : LdAt N g gl A M w) {a : Int} (ha : (Lit.int .i64 a).wf = true) : Calls Tryz.prog 87 #[.pointer (some ⟨g, 0, none⟩), .int .i64 a] w fun e w' => e = .returned (.int .i64 (lockedOf M a)) ∧ Below w.heap.size w w' :=
  locked_of _ a (rowOf M a) w (fun w' hb => ledger_row (h.below hb) ha)
theorem ledger_Locked_nil (a : Int) (w : World) : Calls Tryz.prog 87 #[.pointer none, .int .i64 a] w fun e w' => e = .returned (.int .i64 0) ∧ Below w.heap.size w w' :=
  locked_of _ a [] w (fun w' hb => ledger_row_nil a w')
end Go.Proofs.YtcfcfijmfgnpfaaGreatDoor
end

section
namespace Go.Proofs.YtcfcfijmfgnpfaaGreatDoor
open Go.RowKit Go.Maps Go.Shelf
set_option linter.unusedVariables false
set_option linter.unusedSimpArgs false

theorem LdAt.drewd {N g gl : Nat} {A : Acc} {M : Cls Int} {w : World} (h : LdAt N g gl A M w) : LdAt N g gl A M w.drew := h.below (Below.refl _ w).drew
def spent (A : Acc) (M : Cls Int) (a n : Int) (back : Bool) : Acc := if spendE A M a n back = 0 then spendA A a n else A
set_option maxRecDepth 100000 in
set_option maxHeartbeats 4000000 in
theorem ledger_spend {N g gl : Nat} {A : Acc} {M : Cls Int} {w : World} (h : LdAt N g gl A M w) (hN : N ≤ w.heap.size) {a n : Int} (ha : (Lit.int .i64 a).wf = true) (back : Bool) :
    Calls Tryz.prog 64 #[.pointer (some ⟨g, 0, none⟩), .int .i64 a, .int .i64 n, .bool back] w fun e w' => e = .returned (.int .i64 (spendE A M a n back)) ∧ LdAt N g gl (spent A M a n back) M w' ∧ Below N w w' := by
  by_cases hac : isAcc a
  · obtain ⟨k, rfl, hk⟩ := isAcc_nat hac
    have HK := Lib.hid hk
    by_cases hbal : isBal n
    · have hbal' := hbal
      unfold isBal at hbal'
      have hd : decide (0 ≤ n ∧ n ≤ 1073741824) = true := decide_eq_true hbal'
      have HD := Lib.hid hd
      have hfree := h.free hk
      have hfroz := h.frozen (k * 2)
      obtain ⟨f, hf⟩ : ∃ f, f = (A k).1 := ⟨_, rfl⟩
      rw [← hf] at hfree
      have hf0 : 0 ≤ f := by rw [hf]; exact h.ok.free k
      have hf1 : f ≤ 1073741824 := by have := h.ok.one hk; have := h.ok.held k; unfold both at *; omega
      have HB := Lib.hid hbal'
      have HH := Lib.hid (And.intro h (And.intro hN (And.intro ha hac)))
      by_cases hlo : f < n
      · have e : spendE A M k n back = 6 := by unfold spendE; rw [if_neg (by simp [hac, hbal]), if_pos (by rw [Int.toNat_natCast, ← hf]; exact hlo)]
        have e2 : spent A M k n back = A := by unfold spent; rw [e]; rfl
        rw [e, e2]
        clear hk hac hbal hbal' hd h hN ha hf e e2
        go_enter Tryz.func64, Tryz.ntmps64
        go_wp2_with (first
          | (go_at_call 53; refine (ledger_account HK.out w).mono ?_; rintro e w' ⟨rfl, rfl⟩)
          | (go_at_call 39; refine (bound_Balance _ _).mono ?_; rw [HD.out]; rintro e w' ⟨rfl, rfl⟩)
          | fail)
        exact bodyPost_ret (v := .int .i64 6) (by simp [results, Tryz.results64, go_sem]) rfl ⟨rfl, HH.out.1, Below.refl _ _⟩
      · have hn1 : IntKind.i64.wrap (f - n) = f - n := IntWalk.i64_in _ (by omega)
        have hpay : ∀ w', LdAt N g gl A M w' → LdAt N g gl (spendA A k n) M (w'.setCell ⟨g, k * 2, none⟩ (.int .i64 (f - n))) ∧ Below N w' (w'.setCell ⟨g, k * 2, none⟩ (.int .i64 (f - n))) := fun w' h' => by
          have := h'.setFree hk (f - n) (by have := spendA_ok h.ok hac hbal (by rw [Int.toNat_natCast, ← hf]; omega); rw [spendA, Int.toNat_natCast, ← hf] at this; exact this)
          rw [spendA, Int.toNat_natCast, ← hf]; exact this
        have HP := Lib.hid hpay
        have hno : ¬ f < n := hlo
        have hspend : ∀ c : Bool, (0 < n ∧ back = false ∧ f - n < lockedOf M k ↔ c = true) → spendE A M k n back = if c then 7 else 0 := fun c hc => by
          unfold spendE
          rw [if_neg (by simp [hac, hbal]), Int.toNat_natCast, ← hf, if_neg hlo]
          cases c
          · rw [if_neg (by rw [hc]; simp)]; rfl
          · rw [if_pos (hc.2 rfl)]; rfl
        by_cases hn0 : 0 < n ∧ back = false
        · obtain ⟨hn0, rfl⟩ := hn0
          obtain ⟨lk, hlk⟩ : ∃ lk, lk = lockedOf M k := ⟨_, rfl⟩
          have hlck : ∀ w', LdAt N g gl A M w' → Calls Tryz.prog 87 #[.pointer (some ⟨g, 0, none⟩), .int .i64 k] w' fun e w'' => e = .returned (.int .i64 lk) ∧ Below w'.heap.size w' w'' := fun w' h' => by rw [hlk]; exact ledger_Locked h' ha
          have hld : LdAt N g gl A M w.drew := h.drewd
          have hfd : w.drew.cell? ⟨g, k * 2, none⟩ = some (.int .i64 f) := hfree
          have hwd : ∀ w2, Below w.drew.heap.size w.drew w2 → w2.cell? ⟨g, k * 2, none⟩ = some (.int .i64 f) ∧ (LdAt N g gl A M w2 ∧ Below N w w2) := fun w2 hb => by
            have h2 : LdAt N g gl A M w2 := h.below ⟨hb.os, hb.tape, hb.output, hb.size, hb.block⟩
            refine ⟨by rw [hf]; exact h2.free hk, h2, ⟨hb.os, hb.tape, hb.output, hb.size, fun j hj => hb.block j (show j < w.heap.size by omega)⟩⟩
          have HFD := Lib.hid hfd
          have HW := Lib.hid hwd
          have HL := Lib.hid (hlck w.drew hld)
          clear hlck hld hfd hwd
          rw [← hlk] at hspend
          by_cases hc : f - n < lk
          · have e := hspend true (by simp [hn0, hc])
            have e2 : spent A M k n false = A := by unfold spent; rw [e]; rfl
            rw [e, e2]
            clear hk hac hbal hbal' hd h hN ha hf e e2 hlo hpay hspend hlk
            go_enter Tryz.func64, Tryz.ntmps64
            go_upto_region 6 with (first
              | (go_at_call 53; refine (ledger_account HK.out w).mono ?_; rintro e w' ⟨rfl, hw⟩; rw [hw]; clear hw w')
              | (go_at_call 39; refine (bound_Balance _ _).mono ?_; rw [HD.out]; rintro e w' ⟨rfl, hw⟩; rw [hw]; clear hw w')
              | fail)
            go_region_held3 (fun wc => wc.cell? ⟨g, k * 2, none⟩ = some (.int .i64 f)) (first | exact hfree | exact HFD.out | exact H2.out.1) (first
              | (go_at_call 87; with_reducible refine HL.out.mono ?_; rintro e w2 ⟨rfl, hb⟩; have H2 := Lib.hid (And.intro (HW.out w2 hb).1 (HW.out w2 hb).2); clear hb)
              | fail)
            all_goals
              go_wp2_with fail
              exact bodyPost_ret (v := .int .i64 7) (by simp [results, Tryz.results64, go_sem]) rfl ⟨rfl, H2.out.2.1, H2.out.2.2⟩
          · have e := hspend false (by simp [hc])
            have e2 : spent A M k n false = spendA A k n := by unfold spent; rw [e]; rfl
            rw [e, e2]
            clear hk hac hbal hbal' hd h hN ha hf e e2 hlo hpay hspend hlk
            go_enter Tryz.func64, Tryz.ntmps64
            go_upto_region 6 with (first
              | (go_at_call 53; refine (ledger_account HK.out w).mono ?_; rintro e w' ⟨rfl, hw⟩; rw [hw]; clear hw w')
              | (go_at_call 39; refine (bound_Balance _ _).mono ?_; rw [HD.out]; rintro e w' ⟨rfl, hw⟩; rw [hw]; clear hw w')
              | fail)
            go_region_held3 (fun wc => wc.cell? ⟨g, k * 2, none⟩ = some (.int .i64 f)) (first | exact hfree | exact HFD.out | exact H2.out.1) (first
              | (go_at_call 87; with_reducible refine HL.out.mono ?_; rintro e w2 ⟨rfl, hb⟩; have H2 := Lib.hid (And.intro (HW.out w2 hb).1 (HW.out w2 hb).2); clear hb)
              | fail)
            all_goals
              have hfree2 := H2.out.1
              have hfroz2 := H2.out.2.1.frozen (k * 2)
              go_wp2_with fail
              exact bodyPost_ret (v := .int .i64 0) (by simp [results, Tryz.results64, go_sem]) rfl ⟨rfl, (HP.out _ H2.out.2.1).1, H2.out.2.2.trans (HP.out _ H2.out.2.1).2⟩
        · have hex : ¬ 0 < n ∨ (0 < n ∧ back = true) := by
            rcases Bool.eq_false_or_eq_true back with h | h
            · by_cases h0 : 0 < n
              · exact .inr ⟨h0, h⟩
              · exact .inl h0
            · exact .inl (fun h0 => hn0 ⟨h0, h⟩)
          have e := hspend false (by constructor; exact fun h => absurd ⟨h.1, h.2.1⟩ hn0; simp)
          have e2 : spent A M k n back = spendA A k n := by unfold spent; rw [e]; rfl
          rw [e, e2]
          clear hn0
          rcases hex with hn0 | ⟨hn0, rfl⟩
          · obtain rfl : n = 0 := by omega
            have hpay2 := hpay
            simp only [Int.sub_zero] at hpay2 hn1
            have HP := Lib.hid hpay2
            clear hpay2 hn0
            clear hk hac hbal hbal' hd h hN ha hf e e2 hlo hpay hspend hno HB HD
            go_enter Tryz.func64, Tryz.ntmps64
            go_upto_region 6 with (first
              | (go_at_call 53; refine (ledger_account HK.out w).mono ?_; rintro e w' ⟨rfl, hw⟩; rw [hw]; clear hw w')
              | (go_at_call 39; refine (bound_Balance _ _).mono ?_; rw [show decide ((0:Int) ≤ 0 ∧ (0:Int) ≤ 1073741824) = true from rfl]; rintro e w' ⟨rfl, hw⟩; rw [hw]; clear hw w')
              | fail)
            go_quiet (fail)
            go_wp2_with fail
            exact bodyPost_ret (v := .int .i64 0) (by simp [results, Tryz.results64, go_sem]) rfl ⟨rfl, (HP.out (w.drewN nq) (HH.out.1.below ⟨rfl, rfl, rfl, Nat.le_refl _, fun _ _ => rfl⟩)).1, Below.trans (b := w.drewN nq) ⟨rfl, rfl, rfl, Nat.le_refl _, fun _ _ => rfl⟩ (HP.out (w.drewN nq) (HH.out.1.below ⟨rfl, rfl, rfl, Nat.le_refl _, fun _ _ => rfl⟩)).2⟩
          · clear hk hac hbal hbal' hd h hN ha hf e e2 hlo hpay hspend
            go_enter Tryz.func64, Tryz.ntmps64
            go_upto_region 6 with (first
              | (go_at_call 53; refine (ledger_account HK.out w).mono ?_; rintro e w' ⟨rfl, hw⟩; rw [hw]; clear hw w')
              | (go_at_call 39; refine (bound_Balance _ _).mono ?_; rw [HD.out]; rintro e w' ⟨rfl, hw⟩; rw [hw]; clear hw w')
              | fail)
            go_quiet (fail)
            go_wp2_with fail
            exact bodyPost_ret (v := .int .i64 0) (by simp [results, Tryz.results64, go_sem]) rfl ⟨rfl, (HP.out (w.drewN nq) (HH.out.1.below ⟨rfl, rfl, rfl, Nat.le_refl _, fun _ _ => rfl⟩)).1, Below.trans (b := w.drewN nq) ⟨rfl, rfl, rfl, Nat.le_refl _, fun _ _ => rfl⟩ (HP.out (w.drewN nq) (HH.out.1.below ⟨rfl, rfl, rfl, Nat.le_refl _, fun _ _ => rfl⟩)).2⟩
    · have e : spendE A M k n back = 1 := by unfold spendE; rw [if_pos (.inr hbal)]
      have e2 : spent A M k n back = A := by unfold spent; rw [e]; rfl
      have hd : decide (0 ≤ n ∧ n ≤ 1073741824) = false := by unfold isBal at hbal; exact decide_eq_false hbal
      have HD := Lib.hid hd
      have HH := Lib.hid h
      rw [e, e2]
      clear hk hac hbal hd h hN ha e e2
      go_enter Tryz.func64, Tryz.ntmps64
      go_wp2_with (first
        | (go_at_call 53; refine (ledger_account HK.out w).mono ?_; rintro e w' ⟨rfl, hw⟩; rw [hw]; clear hw w')
        | (go_at_call 39; refine (bound_Balance _ _).mono ?_; rw [HD.out]; rintro e w' ⟨rfl, hw⟩; rw [hw]; clear hw w')
        | fail)
      exact bodyPost_ret (v := .int .i64 1) (by simp [results, Tryz.results64, go_sem]) rfl ⟨rfl, HH.out, Below.refl _ _⟩
  · have e : spendE A M a n back = 1 := by unfold spendE; rw [if_pos (.inl hac)]
    have e2 : spent A M a n back = A := by unfold spent; rw [e]; rfl
    have HD := Lib.hid hac
    have HH := Lib.hid h
    rw [e, e2]
    clear hac h hN ha e e2
    go_enter Tryz.func64, Tryz.ntmps64
    go_wp2_with (first
      | (go_at_call 53; refine (ledger_account_no HD.out w).mono ?_; rintro e w' ⟨rfl, hw⟩; rw [hw]; clear hw w')
      | fail)
    exact bodyPost_ret (v := .int .i64 1) (by simp [results, Tryz.results64, go_sem]) rfl ⟨rfl, HH.out, Below.refl _ _⟩
theorem ledger_spend_nil (a n : Int) (back : Bool) (w : World) : Calls Tryz.prog 64 #[.pointer none, .int .i64 a, .int .i64 n, .bool back] w fun e w' => e = .returned (.int .i64 1) ∧ w' = w := by
  go_enter Tryz.func64, Tryz.ntmps64
  go_wp2_with (first
    | (go_at_call 53; refine (ledger_account_nil a w).mono ?_; rintro e w' ⟨rfl, hw⟩; rw [hw]; clear hw w')
    | fail)
  exact bodyPost_ret (v := .int .i64 1) (by simp [results, Tryz.results64, go_sem]) rfl ⟨rfl, rfl⟩
end Go.Proofs.YtcfcfijmfgnpfaaGreatDoor
end

section
namespace Go.Proofs.YtcfcfijmfgnpfaaGreatDoor
open Go.RowKit Go.Maps Go.Shelf
set_option linter.unusedVariables false
set_option linter.unusedSimpArgs false

section
variable {N g gl : Nat} {A : Acc} {M : Cls Int} {w w' : World}
theorem LdAt.setHeld (h : LdAt N g gl A M w) {a : Nat} (ha : a < 10) (v : Int) (hok : AccOk (upd A a ((A a).1, v))) : LdAt N g gl (upd A a ((A a).1, v)) M (w.setCell ⟨g, a * 2 + 1, none⟩ (.int .i64 v)) ∧ Below N w (w.setCell ⟨g, a * 2 + 1, none⟩ (.int .i64 v)) := h.put (lcells_held ha v) hok
end
/-- More for an account that has so much. -/
def giveA (A : Acc) (a : Nat) (n : Int) : Acc := upd A a ((A a).1 + n, (A a).2)
theorem giveA_ok {A : Acc} (h : AccOk A) {a : Nat} (ha : a < 10) {n : Int} (hn : 0 ≤ n) (hs : sumTo A 10 + n ≤ 1073741824) : AccOk (giveA A a n) := by
  have := h.free a
  exact h.upd ha (by simp only; omega) (h.held a) (by unfold both; simp only; omega)
theorem sum_spendA (A : Acc) {a : Int} (ha : isAcc a) (n : Int) : sumTo (spendA A a n) 10 = sumTo A 10 - n := by
  unfold isAcc at ha
  rw [spendA, sumTo_upd, if_pos (by omega)]; unfold both; simp only; omega
theorem sum_giveA (A : Acc) {a : Nat} (ha : a < 10) (n : Int) : sumTo (giveA A a n) 10 = sumTo A 10 + n := by
  rw [giveA, sumTo_upd, if_pos ha]; unfold both; simp only; omega
def takeA (A : Acc) (a : Nat) (m : Int) : Acc := upd A a ((A a).1, (A a).2 - m)
theorem takeA_ok {A : Acc} (h : AccOk A) {a : Nat} (ha : a < 10) {m : Int} (h0 : 0 ≤ m) (h1 : m ≤ (A a).2) : AccOk (takeA A a m) ∧ sumTo (takeA A a m) 10 = sumTo A 10 - m := by
  have e : sumTo (takeA A a m) 10 = sumTo A 10 - m := by rw [takeA, sumTo_upd, if_pos ha]; unfold both; simp only; omega
  exact ⟨⟨fun k => by unfold takeA; by_cases c : k = a; subst c; rw [upd_same]; exact h.free k; rw [upd_other A _ c]; exact h.free k, fun k => by unfold takeA; by_cases c : k = a; subst c; rw [upd_same]; simp only; omega; rw [upd_other A _ c]; exact h.held k, by have := h.all; omega⟩, e⟩
def heldM (A : Acc) (a n : Int) : Int := if isAcc a then min (max n 0) (A a.toNat).2 else 0
def unheld (A : Acc) (a n b : Int) : Acc := if isAcc a then giveA (takeA A a.toNat (heldM A a n)) b.toNat (heldM A a n) else A

set_option maxRecDepth 100000 in
set_option maxHeartbeats 4000000 in
theorem ledger_unhold {N g gl : Nat} {A : Acc} {M : Cls Int} {w : World} (h : LdAt N g gl A M w) {a b : Int} (hb : isAcc b) (n : Int) :
    Calls Tryz.prog 67 #[.pointer (some ⟨g, 0, none⟩), .int .i64 a, .int .i64 n, .int .i64 b] w fun e w' => e = .returned (.int .i64 (heldM A a n)) ∧ LdAt N g gl (unheld A a n b) M w' ∧ Below N w w' := by
  by_cases hac : isAcc a
  · have hm0 : heldM A a n = min (max n 0) (A a.toNat).2 := by rw [heldM, if_pos hac]
    have hu0 : unheld A a n b = giveA (takeA A a.toNat (heldM A a n)) b.toNat (heldM A a n) := by rw [unheld, if_pos hac]
    obtain ⟨m, hm⟩ : ∃ m, m = heldM A a n := ⟨_, rfl⟩
    rw [hu0, ← hm]
    rw [← hm] at hm0
    clear hm hu0
    obtain ⟨k, rfl, hk⟩ := isAcc_nat hac
    obtain ⟨j, rfl, hj⟩ := isAcc_nat hb
    rw [Int.toNat_natCast] at hm0 ⊢
    rw [Int.toNat_natCast]
    have h0 : 0 ≤ (A k).2 := h.ok.held k
    have hmn : 0 ≤ m ∧ m ≤ (A k).2 := by omega
    obtain ⟨ok1, sm1⟩ := takeA_ok h.ok hk hmn.1 hmn.2
    have ok2 := giveA_ok ok1 hj hmn.1 (by rw [sm1]; have := h.ok.all; omega)
    have hh := h.held hk
    have hf := h.frozen (k * 2 + 1)
    obtain ⟨u, hu⟩ : ∃ u, u = (A k).2 := ⟨_, rfl⟩
    have hu1 : u ≤ 1073741824 := by have := h.ok.one hk; have := h.ok.free k; unfold both at *; omega
    obtain ⟨w1, hw1⟩ : ∃ w1, w1 = w.setCell ⟨g, k * 2 + 1, none⟩ (.int .i64 (u - m)) := ⟨_, rfl⟩
    have p1 := h.setHeld hk (u - m) (by rw [hu]; exact ok1)
    rw [← hw1] at p1
    have p1' : LdAt N g gl (takeA A k m) M w1 := by unfold takeA; rw [← hu]; exact p1.1
    have hfr := p1'.free hj
    obtain ⟨f, hff⟩ : ∃ f, f = (takeA A k m j).1 := ⟨_, rfl⟩
    have hf0 : 0 ≤ f := by rw [hff]; exact ok1.free j
    have hf1 : f ≤ 1073741824 := by have := ok1.one hj; have := ok1.held j; unfold both at *; omega
    have p2 := p1'.setFree hj (f + m) (by rw [hff]; exact ok2)
    have hfz := p1'.frozen (j * 2)
    have hn1 : IntKind.i64.wrap (u - m) = u - m := IntWalk.i64_in _ (by omega)
    have hn2 : IntKind.i64.wrap (f + m) = f + m := IntWalk.i64_in _ (by omega)
    have hmm : min (max n 0) u = m := by rw [hu]; exact hm0.symm
    rw [← hu] at hh
    rw [← hff] at hfr
    have hend : LdAt N g gl (giveA (takeA A k m) j m) M (w1.setCell ⟨g, j * 2, none⟩ (.int .i64 (f + m))) ∧ Below N w (w1.setCell ⟨g, j * 2, none⟩ (.int .i64 (f + m))) := ⟨by unfold giveA; rw [← hff]; exact p2.1, p1.2.trans p2.2⟩
    have HE := Lib.hid hend
    have HK := Lib.hid (And.intro hk hj)
    have HW1 := Lib.hid hw1
    have HFR := Lib.hid (And.intro hfr hfz)
    clear h hac hb hm0 hk hj h0 hmn ok1 sm1 ok2 hu p1 p1' hff p2 hend hw1 hfr hfz
    go_enter Tryz.func67, Tryz.ntmps67
    go_upto_region 6 with (first
      | (go_at_call 53; refine (ledger_account HK.out.1 _).mono ?_; rintro e w' ⟨rfl, hw⟩; rw [hw]; clear hw w')
      | fail)
    rw [← HW1.out]
    obtain ⟨hfr, hfz⟩ := HFR.out
    clear hf hh
    go_wp2_with (first
      | (go_at_call 53; refine (ledger_account HK.out.2 _).mono ?_; rintro e w' ⟨rfl, hw⟩; rw [hw]; clear hw w')
      | fail)
    go_ret
    exact ⟨rfl, HE.out⟩
  · have e1 : heldM A a n = 0 := by rw [heldM, if_neg hac]
    have e2 : unheld A a n b = A := by rw [unheld, if_neg hac]
    have HH := Lib.hid (And.intro h hac)
    rw [e1, e2]
    clear h hb hac e1 e2
    go_enter Tryz.func67, Tryz.ntmps67
    go_wp2_with (first
      | (go_at_call 53; refine (ledger_account_no HH.out.2 _).mono ?_; rintro e w' ⟨rfl, hw⟩; rw [hw]; clear hw w')
      | fail)
    exact bodyPost_ret (v := .int .i64 0) (by simp [results, Tryz.results67, go_sem]) rfl ⟨rfl, HH.out.1, Below.refl _ _⟩
end Go.Proofs.YtcfcfijmfgnpfaaGreatDoor
end

section
namespace Go.Proofs.YtcfcfijmfgnpfaaGreatDoor
open Go.RowKit Go.Maps Go.Shelf
set_option linter.unusedVariables false
set_option linter.unusedSimpArgs false

section
variable {N g gl : Nat} {A : Acc} {M : Cls Int} {w : World}
theorem unheld_noacc {a n b : Int} (h : ¬ isAcc a) : unheld A a n b = A := by rw [unheld, if_neg h]
set_option maxRecDepth 100000 in
theorem ledger_Release (h : LdAt N g gl A M w) (a n : Int) : Calls Tryz.prog 50 #[.pointer (some ⟨g, 0, none⟩), .int .i64 a, .int .i64 n] w fun e w' => e = .returned (.int .i64 (heldM A a n)) ∧ LdAt N g gl (unheld A a n a) M w' ∧ Below N w w' := by
  have hu : Calls Tryz.prog 67 #[.pointer (some ⟨g, 0, none⟩), .int .i64 a, .int .i64 n, .int .i64 a] w fun e w' => e = .returned (.int .i64 (heldM A a n)) ∧ LdAt N g gl (unheld A a n a) M w' ∧ Below N w w' := by
    by_cases ha : isAcc a
    · exact ledger_unhold h ha n
    · have e1 : heldM A a n = 0 := by rw [heldM, if_neg ha]
      have HH := Lib.hid (And.intro h ha)
      rw [e1, unheld_noacc ha]
      clear h ha e1
      go_enter Tryz.func67, Tryz.ntmps67
      go_wp2_with (first
        | (go_at_call 53; refine (ledger_account_no HH.out.2 _).mono ?_; rintro e w' ⟨rfl, hw⟩; rw [hw]; clear hw w')
        | fail)
      exact bodyPost_ret (v := .int .i64 0) (by simp [results, Tryz.results67, go_sem]) rfl ⟨rfl, HH.out.1, Below.refl _ _⟩
  have HH := Lib.hid hu
  clear h hu
  go_enter Tryz.func50, Tryz.ntmps50
  go_wp2_with (first | (go_at_call 67; refine HH.out.mono ?_; rintro e w1 ⟨rfl, h1⟩; have H1 := Lib.hid h1; clear h1) | fail)
  go_ret
  exact ⟨rfl, H1.out⟩
def reserveA (A : Acc) (M : Cls Int) (a n : Int) : Acc := if spendE A M a n false = 0 then upd (spendA A a n) a.toNat ((spendA A a n a.toNat).1, (spendA A a n a.toNat).2 + n) else A
set_option maxRecDepth 100000 in
set_option maxHeartbeats 1000000 in
theorem ledger_Reserve (h : LdAt N g gl A M w) (hN : N ≤ w.heap.size) {a : Int} (ha : (Lit.int .i64 a).wf = true) (n : Int) : Calls Tryz.prog 46 #[.pointer (some ⟨g, 0, none⟩), .int .i64 a, .int .i64 n] w fun e w' => e = .returned (.int .i64 (spendE A M a n false)) ∧ LdAt N g gl (reserveA A M a n) M w' ∧ Below N w w' := by
  have hok := h.ok
  have HH := Lib.hid (And.intro h (And.intro hN ha))
  clear h hN ha
  obtain ⟨E, hE⟩ : ∃ E, E = spendE A M a n false := ⟨_, rfl⟩
  by_cases h0 : E = 0
  · obtain ⟨hac, hbal, hfr⟩ := spendE_ok (hE.symm.trans h0)
    have hA : reserveA A M a n = upd (spendA A a n) a.toNat ((spendA A a n a.toNat).1, (spendA A a n a.toNat).2 + n) := by rw [reserveA, ← hE, if_pos h0]
    have hS : spent A M a n false = spendA A a n := by rw [spent, ← hE, if_pos h0]
    rw [hA, ← hE, h0]
    have ok1 := spendA_ok hok hac hbal hfr
    have sm1 := sum_spendA A hac n
    obtain ⟨k, rfl, hk⟩ := isAcc_nat hac
    rw [Int.toNat_natCast]
    obtain ⟨B, hB⟩ : ∃ B, B = spendA A k n := ⟨_, rfl⟩
    rw [← hB] at hS ok1 sm1 ⊢
    unfold isBal at hbal
    have ok2 : AccOk (upd B k ((B k).1, (B k).2 + n)) := ok1.upd hk (ok1.free k) (by have := ok1.held k; simp only; omega) (by have := hok.all; unfold both; simp only; omega)
    obtain ⟨v, hv⟩ : ∃ v, v = (B k).2 := ⟨_, rfl⟩
    have hv0 : 0 ≤ v ∧ v ≤ 1073741824 := by have := ok1.one hk; have := ok1.held k; have := ok1.free k; unfold both at *; omega
    have hn1 : IntKind.i64.wrap (v + n) = v + n := IntWalk.i64_in _ (by omega)
    have hE0 : spendE A M k n false = 0 := by rw [← hE, h0]
    have hpay : ∀ w1, LdAt N g gl B M w1 → w1.cell? ⟨g, k * 2 + 1, none⟩ = some (.int .i64 v) ∧ LdAt N g gl (upd B k ((B k).1, (B k).2 + n)) M (w1.setCell ⟨g, k * 2 + 1, none⟩ (.int .i64 (v + n))) ∧ Below N w1 (w1.setCell ⟨g, k * 2 + 1, none⟩ (.int .i64 (v + n))) := fun w1 h1 => ⟨by rw [hv]; exact h1.held hk, by rw [hv]; exact h1.setHeld hk _ ok2⟩
    have HP := Lib.hid hpay
    have HK := Lib.hid hk
    have HE := Lib.hid (And.intro hE0 hS)
    clear hok hac hbal hfr hA hS ok1 sm1 hk hB ok2 hv hE0 hpay h0 hE
    go_enter Tryz.func46, Tryz.ntmps46
    go_wp2_with (first
      | (go_at_call 64; refine (ledger_spend HH.out.1 HH.out.2.1 HH.out.2.2 false).mono ?_; rw [HE.out.1, HE.out.2]; rintro e w1 ⟨rfl, h1, h2⟩; have hc1 := (HP.out w1 h1).1; have hf1 := h1.frozen (k * 2 + 1); have H1 := Lib.hid (And.intro h1 h2); clear h1 h2)
      | (go_at_call 53; refine (ledger_account HK.out _).mono ?_; rintro e w' ⟨rfl, hw⟩; rw [hw]; clear hw w')
      | fail)
    go_ret
    exact ⟨rfl, (HP.out _ H1.out.1).2.1, H1.out.2.trans (HP.out _ H1.out.1).2.2⟩
  · have hA : reserveA A M a n = A := by rw [reserveA, ← hE, if_neg h0]
    have hS : spent A M a n false = A := by rw [spent, ← hE, if_neg h0]
    rw [hA, ← hE]
    have HE := Lib.hid (And.intro hE hS)
    clear hA hS hE hok
    go_enter Tryz.func46, Tryz.ntmps46
    go_wp2_with (first
      | (go_at_call 64; refine (ledger_spend HH.out.1 HH.out.2.1 HH.out.2.2 false).mono ?_; rw [← HE.out.1, HE.out.2]; rintro e w1 ⟨rfl, h1, h2⟩; have H1 := Lib.hid (And.intro h1 h2); clear h1 h2)
      | fail)
    go_ret
    exact ⟨rfl, H1.out⟩
def transE (A : Acc) (M : Cls Int) (a b n : Int) : Int := if isAcc b then spendE A M a n (decide (a = b)) else 1
def transA (A : Acc) (M : Cls Int) (a b n : Int) : Acc := if transE A M a b n = 0 then giveA (spendA A a n) b.toNat n else A
end
end Go.Proofs.YtcfcfijmfgnpfaaGreatDoor
end

section
namespace Go.Proofs.YtcfcfijmfgnpfaaGreatDoor
open Go.RowKit Go.Maps Go.Shelf
set_option linter.unusedVariables false
set_option linter.unusedSimpArgs false

def mintE (A : Acc) (a n : Int) : Int := if ¬ isAcc a ∨ ¬ isBal n then 1 else if 1073741824 < sumTo A 10 + n then 10 else 0
def mintA (A : Acc) (a n : Int) : Acc := if mintE A a n = 0 then giveA A a.toNat n else A
def lockM (M : Cls Int) (a i n : Int) : Cls Int := if ¬ isAcc a then M else if n = 0 ∨ ¬ isBal n then cdel M a i else cput M a i n
theorem lockM_len {M : Cls Int} (h : SrtC M) (a i n : Int) : (lockM M a i n).length ≤ M.length + 1 := by
  unfold lockM
  split
  · omega
  · split
    · have := h.length_del a i; omega
    · rw [h.length_put]; split <;> omega
section
variable {N g gl : Nat} {A : Acc} {M : Cls Int} {w : World}
theorem LdAt.relock {M' : Cls Int} {w' : World} (h : LdAt N g gl A M w) (hN : N ≤ w.heap.size) (hl : M'.length ≤ 10000) {F : FP} (hF : ∀ k, F k → N ≤ k ∧ k ≠ g) (ht : GrTo codI 117 gl M' F w w') : LdAt N g gl A M' w' ∧ Below N w w' := by
  obtain ⟨F', h1, h2, h3⟩ := ht
  refine ⟨⟨(h3.block g h.lt (fun hf => (hF g hf).2 rfl) (fun h => h)).trans h.blk, ⟨F', h1, fun k hk => (h2 k hk).elim (hF k) (fun hk => by have := h.lt; omega)⟩, h.lo, h.ok, hl⟩, h3.below hN (fun k hk => (hF k hk).1) (fun k h => h.elim)⟩
theorem LdAt.srt (h : LdAt N g gl A M w) : SrtC M := by obtain ⟨F, h1, _⟩ := h.gr; exact h1.1
end
end Go.Proofs.YtcfcfijmfgnpfaaGreatDoor
end

section
namespace Go.Proofs.YtcfcfijmfgnpfaaGreatDoor
open Go.RowKit Go.Maps Go.Shelf
set_option linter.unusedVariables false
set_option linter.unusedSimpArgs false

/-- Every block but g is as it was. -/
def Off (g : Nat) (w w' : World) : Prop := ∀ k, k < w.heap.size → k ≠ g → w'.heap[k]? = w.heap[k]?
theorem Off.refl (g : Nat) (w : World) : Off g w w := fun _ _ _ => rfl
theorem Off.trans {g : Nat} {a b c : World} (h : Off g a b) (hs : a.heap.size ≤ b.heap.size) (k : Off g b c) : Off g a c := fun j hj hn => (k j (by omega) hn).trans (h j hj hn)
theorem Off.set {g i : Nat} {w : World} {v : Value} : Off g w (w.setCell ⟨g, i, none⟩ v) := fun j _ hn => Below.heap_setCell _ _ _ j hn
set_option maxRecDepth 100000 in
set_option maxHeartbeats 4000000 in
theorem ledger_spendF {N g gl : Nat} {A : Acc} {M : Cls Int} {w : World} (h : LdAt N g gl A M w) (hN : N ≤ w.heap.size) {a n : Int} (ha : (Lit.int .i64 a).wf = true) (back : Bool) :
    Calls Tryz.prog 64 #[.pointer (some ⟨g, 0, none⟩), .int .i64 a, .int .i64 n, .bool back] w fun e w' => e = .returned (.int .i64 (spendE A M a n back)) ∧ LdAt N g gl (spent A M a n back) M w' ∧ Below N w w' ∧ Off g w w' := by
  by_cases hac : isAcc a
  · obtain ⟨k, rfl, hk⟩ := isAcc_nat hac
    have HK := Lib.hid hk
    by_cases hbal : isBal n
    · have hbal' := hbal
      unfold isBal at hbal'
      have hd : decide (0 ≤ n ∧ n ≤ 1073741824) = true := decide_eq_true hbal'
      have HD := Lib.hid hd
      have hfree := h.free hk
      have hfroz := h.frozen (k * 2)
      obtain ⟨f, hf⟩ : ∃ f, f = (A k).1 := ⟨_, rfl⟩
      rw [← hf] at hfree
      have hf0 : 0 ≤ f := by rw [hf]; exact h.ok.free k
      have hf1 : f ≤ 1073741824 := by have := h.ok.one hk; have := h.ok.held k; unfold both at *; omega
      have HB := Lib.hid hbal'
      have HH := Lib.hid (And.intro h (And.intro hN (And.intro ha hac)))
      by_cases hlo : f < n
      · have e : spendE A M k n back = 6 := by unfold spendE; rw [if_neg (by simp [hac, hbal]), if_pos (by rw [Int.toNat_natCast, ← hf]; exact hlo)]
        have e2 : spent A M k n back = A := by unfold spent; rw [e]; rfl
        rw [e, e2]
        clear hk hac hbal hbal' hd h hN ha hf e e2
        go_enter Tryz.func64, Tryz.ntmps64
        go_wp2_with (first
          | (go_at_call 53; refine (ledger_account HK.out w).mono ?_; rintro e w' ⟨rfl, rfl⟩)
          | (go_at_call 39; refine (bound_Balance _ _).mono ?_; rw [HD.out]; rintro e w' ⟨rfl, rfl⟩)
          | fail)
        exact bodyPost_ret (v := .int .i64 6) (by simp [results, Tryz.results64, go_sem]) rfl ⟨rfl, HH.out.1, Below.refl _ _, Off.refl _ _⟩
      · have hn1 : IntKind.i64.wrap (f - n) = f - n := IntWalk.i64_in _ (by omega)
        have hpay : ∀ w', LdAt N g gl A M w' → LdAt N g gl (spendA A k n) M (w'.setCell ⟨g, k * 2, none⟩ (.int .i64 (f - n))) ∧ Below N w' (w'.setCell ⟨g, k * 2, none⟩ (.int .i64 (f - n))) ∧ Off g w' (w'.setCell ⟨g, k * 2, none⟩ (.int .i64 (f - n))) := fun w' h' => by
          have := h'.setFree hk (f - n) (by have := spendA_ok h.ok hac hbal (by rw [Int.toNat_natCast, ← hf]; omega); rw [spendA, Int.toNat_natCast, ← hf] at this; exact this)
          rw [spendA, Int.toNat_natCast, ← hf]; exact ⟨this.1, this.2, Off.set⟩
        have HP := Lib.hid hpay
        have hno : ¬ f < n := hlo
        have hspend : ∀ c : Bool, (0 < n ∧ back = false ∧ f - n < lockedOf M k ↔ c = true) → spendE A M k n back = if c then 7 else 0 := fun c hc => by
          unfold spendE
          rw [if_neg (by simp [hac, hbal]), Int.toNat_natCast, ← hf, if_neg hlo]
          cases c
          · rw [if_neg (by rw [hc]; simp)]; rfl
          · rw [if_pos (hc.2 rfl)]; rfl
        by_cases hn0 : 0 < n ∧ back = false
        · obtain ⟨hn0, rfl⟩ := hn0
          obtain ⟨lk, hlk⟩ : ∃ lk, lk = lockedOf M k := ⟨_, rfl⟩
          have hlck : ∀ w', LdAt N g gl A M w' → Calls Tryz.prog 87 #[.pointer (some ⟨g, 0, none⟩), .int .i64 k] w' fun e w'' => e = .returned (.int .i64 lk) ∧ Below w'.heap.size w' w'' := fun w' h' => by rw [hlk]; exact ledger_Locked h' ha
          have hld : LdAt N g gl A M w.drew := h.drewd
          have hfd : w.drew.cell? ⟨g, k * 2, none⟩ = some (.int .i64 f) := hfree
          have hwd : ∀ w2, Below w.drew.heap.size w.drew w2 → w2.cell? ⟨g, k * 2, none⟩ = some (.int .i64 f) ∧ (LdAt N g gl A M w2 ∧ Below N w w2 ∧ Off g w w2) := fun w2 hb => by
            have h2 : LdAt N g gl A M w2 := h.below ⟨hb.os, hb.tape, hb.output, hb.size, hb.block⟩
            refine ⟨by rw [hf]; exact h2.free hk, h2, ⟨hb.os, hb.tape, hb.output, hb.size, fun j hj => hb.block j (show j < w.heap.size by omega)⟩, fun j hj _ => hb.block j hj⟩
          have HFD := Lib.hid hfd
          have HW := Lib.hid hwd
          have HL := Lib.hid (hlck w.drew hld)
          clear hlck hld hfd hwd
          rw [← hlk] at hspend
          by_cases hc : f - n < lk
          · have e := hspend true (by simp [hn0, hc])
            have e2 : spent A M k n false = A := by unfold spent; rw [e]; rfl
            rw [e, e2]
            clear hk hac hbal hbal' hd h hN ha hf e e2 hlo hpay hspend hlk
            go_enter Tryz.func64, Tryz.ntmps64
            go_upto_region 6 with (first
              | (go_at_call 53; refine (ledger_account HK.out w).mono ?_; rintro e w' ⟨rfl, hw⟩; rw [hw]; clear hw w')
              | (go_at_call 39; refine (bound_Balance _ _).mono ?_; rw [HD.out]; rintro e w' ⟨rfl, hw⟩; rw [hw]; clear hw w')
              | fail)
            go_region_held3 (fun wc => wc.cell? ⟨g, k * 2, none⟩ = some (.int .i64 f)) (first | exact hfree | exact HFD.out | exact H2.out.1) (first
              | (go_at_call 87; with_reducible refine HL.out.mono ?_; rintro e w2 ⟨rfl, hb⟩; have H2 := Lib.hid (And.intro (HW.out w2 hb).1 (HW.out w2 hb).2); clear hb)
              | fail)
            all_goals
              go_wp2_with fail
              exact bodyPost_ret (v := .int .i64 7) (by simp [results, Tryz.results64, go_sem]) rfl ⟨rfl, H2.out.2.1, H2.out.2.2⟩
          · have e := hspend false (by simp [hc])
            have e2 : spent A M k n false = spendA A k n := by unfold spent; rw [e]; rfl
            rw [e, e2]
            clear hk hac hbal hbal' hd h hN ha hf e e2 hlo hpay hspend hlk
            go_enter Tryz.func64, Tryz.ntmps64
            go_upto_region 6 with (first
              | (go_at_call 53; refine (ledger_account HK.out w).mono ?_; rintro e w' ⟨rfl, hw⟩; rw [hw]; clear hw w')
              | (go_at_call 39; refine (bound_Balance _ _).mono ?_; rw [HD.out]; rintro e w' ⟨rfl, hw⟩; rw [hw]; clear hw w')
              | fail)
            go_region_held3 (fun wc => wc.cell? ⟨g, k * 2, none⟩ = some (.int .i64 f)) (first | exact hfree | exact HFD.out | exact H2.out.1) (first
              | (go_at_call 87; with_reducible refine HL.out.mono ?_; rintro e w2 ⟨rfl, hb⟩; have H2 := Lib.hid (And.intro (HW.out w2 hb).1 (HW.out w2 hb).2); clear hb)
              | fail)
            all_goals
              have hfree2 := H2.out.1
              have hfroz2 := H2.out.2.1.frozen (k * 2)
              go_wp2_with fail
              exact bodyPost_ret (v := .int .i64 0) (by simp [results, Tryz.results64, go_sem]) rfl ⟨rfl, (HP.out _ H2.out.2.1).1, H2.out.2.2.1.trans (HP.out _ H2.out.2.1).2.1, H2.out.2.2.2.trans H2.out.2.2.1.size (HP.out _ H2.out.2.1).2.2⟩
        · have hex : ¬ 0 < n ∨ (0 < n ∧ back = true) := by
            rcases Bool.eq_false_or_eq_true back with h | h
            · by_cases h0 : 0 < n
              · exact .inr ⟨h0, h⟩
              · exact .inl h0
            · exact .inl (fun h0 => hn0 ⟨h0, h⟩)
          have e := hspend false (by constructor; exact fun h => absurd ⟨h.1, h.2.1⟩ hn0; simp)
          have e2 : spent A M k n back = spendA A k n := by unfold spent; rw [e]; rfl
          rw [e, e2]
          clear hn0
          rcases hex with hn0 | ⟨hn0, rfl⟩
          · obtain rfl : n = 0 := by omega
            have hpay2 := hpay
            simp only [Int.sub_zero] at hpay2 hn1
            have HP := Lib.hid hpay2
            clear hpay2 hn0
            clear hk hac hbal hbal' hd h hN ha hf e e2 hlo hpay hspend hno HB HD
            go_enter Tryz.func64, Tryz.ntmps64
            go_upto_region 6 with (first
              | (go_at_call 53; refine (ledger_account HK.out w).mono ?_; rintro e w' ⟨rfl, hw⟩; rw [hw]; clear hw w')
              | (go_at_call 39; refine (bound_Balance _ _).mono ?_; rw [show decide ((0:Int) ≤ 0 ∧ (0:Int) ≤ 1073741824) = true from rfl]; rintro e w' ⟨rfl, hw⟩; rw [hw]; clear hw w')
              | fail)
            go_quiet (fail)
            go_wp2_with fail
            exact bodyPost_ret (v := .int .i64 0) (by simp [results, Tryz.results64, go_sem]) rfl ⟨rfl, (HP.out (w.drewN nq) (HH.out.1.below ⟨rfl, rfl, rfl, Nat.le_refl _, fun _ _ => rfl⟩)).1, Below.trans (b := w.drewN nq) ⟨rfl, rfl, rfl, Nat.le_refl _, fun _ _ => rfl⟩ (HP.out (w.drewN nq) (HH.out.1.below ⟨rfl, rfl, rfl, Nat.le_refl _, fun _ _ => rfl⟩)).2.1, (HP.out (w.drewN nq) (HH.out.1.below ⟨rfl, rfl, rfl, Nat.le_refl _, fun _ _ => rfl⟩)).2.2⟩
          · clear hk hac hbal hbal' hd h hN ha hf e e2 hlo hpay hspend
            go_enter Tryz.func64, Tryz.ntmps64
            go_upto_region 6 with (first
              | (go_at_call 53; refine (ledger_account HK.out w).mono ?_; rintro e w' ⟨rfl, hw⟩; rw [hw]; clear hw w')
              | (go_at_call 39; refine (bound_Balance _ _).mono ?_; rw [HD.out]; rintro e w' ⟨rfl, hw⟩; rw [hw]; clear hw w')
              | fail)
            go_quiet (fail)
            go_wp2_with fail
            exact bodyPost_ret (v := .int .i64 0) (by simp [results, Tryz.results64, go_sem]) rfl ⟨rfl, (HP.out (w.drewN nq) (HH.out.1.below ⟨rfl, rfl, rfl, Nat.le_refl _, fun _ _ => rfl⟩)).1, Below.trans (b := w.drewN nq) ⟨rfl, rfl, rfl, Nat.le_refl _, fun _ _ => rfl⟩ (HP.out (w.drewN nq) (HH.out.1.below ⟨rfl, rfl, rfl, Nat.le_refl _, fun _ _ => rfl⟩)).2.1, (HP.out (w.drewN nq) (HH.out.1.below ⟨rfl, rfl, rfl, Nat.le_refl _, fun _ _ => rfl⟩)).2.2⟩
    · have e : spendE A M k n back = 1 := by unfold spendE; rw [if_pos (.inr hbal)]
      have e2 : spent A M k n back = A := by unfold spent; rw [e]; rfl
      have hd : decide (0 ≤ n ∧ n ≤ 1073741824) = false := by unfold isBal at hbal; exact decide_eq_false hbal
      have HD := Lib.hid hd
      have HH := Lib.hid h
      rw [e, e2]
      clear hk hac hbal hd h hN ha e e2
      go_enter Tryz.func64, Tryz.ntmps64
      go_wp2_with (first
        | (go_at_call 53; refine (ledger_account HK.out w).mono ?_; rintro e w' ⟨rfl, hw⟩; rw [hw]; clear hw w')
        | (go_at_call 39; refine (bound_Balance _ _).mono ?_; rw [HD.out]; rintro e w' ⟨rfl, hw⟩; rw [hw]; clear hw w')
        | fail)
      exact bodyPost_ret (v := .int .i64 1) (by simp [results, Tryz.results64, go_sem]) rfl ⟨rfl, HH.out, Below.refl _ _, Off.refl _ _⟩
  · have e : spendE A M a n back = 1 := by unfold spendE; rw [if_pos (.inl hac)]
    have e2 : spent A M a n back = A := by unfold spent; rw [e]; rfl
    have HD := Lib.hid hac
    have HH := Lib.hid h
    rw [e, e2]
    clear hac h hN ha e e2
    go_enter Tryz.func64, Tryz.ntmps64
    go_wp2_with (first
      | (go_at_call 53; refine (ledger_account_no HD.out w).mono ?_; rintro e w' ⟨rfl, hw⟩; rw [hw]; clear hw w')
      | fail)
    exact bodyPost_ret (v := .int .i64 1) (by simp [results, Tryz.results64, go_sem]) rfl ⟨rfl, HH.out, Below.refl _ _, Off.refl _ _⟩
section
variable {N g gl : Nat} {A : Acc} {M : Cls Int} {w : World}
end
end Go.Proofs.YtcfcfijmfgnpfaaGreatDoor
end

section
namespace Go.Proofs.YtcfcfijmfgnpfaaGreatDoor
open Go.RowKit Go.Maps Go.Shelf
set_option linter.unusedVariables false
set_option linter.unusedSimpArgs false

section
variable {N g gl : Nat} {A : Acc} {M : Cls Int} {w : World}
set_option maxRecDepth 100000 in
set_option maxHeartbeats 1000000 in
theorem ledger_ReserveF (h : LdAt N g gl A M w) (hN : N ≤ w.heap.size) {a : Int} (ha : (Lit.int .i64 a).wf = true) (n : Int) : Calls Tryz.prog 46 #[.pointer (some ⟨g, 0, none⟩), .int .i64 a, .int .i64 n] w fun e w' => e = .returned (.int .i64 (spendE A M a n false)) ∧ LdAt N g gl (reserveA A M a n) M w' ∧ Below N w w' ∧ Off g w w' := by
  have hok := h.ok
  have HH := Lib.hid (And.intro h (And.intro hN ha))
  clear h hN ha
  obtain ⟨E, hE⟩ : ∃ E, E = spendE A M a n false := ⟨_, rfl⟩
  by_cases h0 : E = 0
  · obtain ⟨hac, hbal, hfr⟩ := spendE_ok (hE.symm.trans h0)
    have hA : reserveA A M a n = upd (spendA A a n) a.toNat ((spendA A a n a.toNat).1, (spendA A a n a.toNat).2 + n) := by rw [reserveA, ← hE, if_pos h0]
    have hS : spent A M a n false = spendA A a n := by rw [spent, ← hE, if_pos h0]
    rw [hA, ← hE, h0]
    have ok1 := spendA_ok hok hac hbal hfr
    have sm1 := sum_spendA A hac n
    obtain ⟨k, rfl, hk⟩ := isAcc_nat hac
    rw [Int.toNat_natCast]
    obtain ⟨B, hB⟩ : ∃ B, B = spendA A k n := ⟨_, rfl⟩
    rw [← hB] at hS ok1 sm1 ⊢
    unfold isBal at hbal
    have ok2 : AccOk (upd B k ((B k).1, (B k).2 + n)) := ok1.upd hk (ok1.free k) (by have := ok1.held k; simp only; omega) (by have := hok.all; unfold both; simp only; omega)
    obtain ⟨v, hv⟩ : ∃ v, v = (B k).2 := ⟨_, rfl⟩
    have hv0 : 0 ≤ v ∧ v ≤ 1073741824 := by have := ok1.one hk; have := ok1.held k; have := ok1.free k; unfold both at *; omega
    have hn1 : IntKind.i64.wrap (v + n) = v + n := IntWalk.i64_in _ (by omega)
    have hE0 : spendE A M k n false = 0 := by rw [← hE, h0]
    have hpay : ∀ w1, LdAt N g gl B M w1 → w1.cell? ⟨g, k * 2 + 1, none⟩ = some (.int .i64 v) ∧ LdAt N g gl (upd B k ((B k).1, (B k).2 + n)) M (w1.setCell ⟨g, k * 2 + 1, none⟩ (.int .i64 (v + n))) ∧ Below N w1 (w1.setCell ⟨g, k * 2 + 1, none⟩ (.int .i64 (v + n))) := fun w1 h1 => ⟨by rw [hv]; exact h1.held hk, by rw [hv]; exact h1.setHeld hk _ ok2⟩
    have HP := Lib.hid hpay
    have HK := Lib.hid hk
    have HE := Lib.hid (And.intro hE0 hS)
    clear hok hac hbal hfr hA hS ok1 sm1 hk hB ok2 hv hE0 hpay h0 hE
    go_enter Tryz.func46, Tryz.ntmps46
    go_wp2_with (first
      | (go_at_call 64; refine (ledger_spendF HH.out.1 HH.out.2.1 HH.out.2.2 false).mono ?_; rw [HE.out.1, HE.out.2]; rintro e w1 ⟨rfl, h1, h2, h2o⟩; have hc1 := (HP.out w1 h1).1; have hf1 := h1.frozen (k * 2 + 1); have H1 := Lib.hid (And.intro h1 (And.intro h2 h2o)); clear h1 h2 h2o)
      | (go_at_call 53; refine (ledger_account HK.out _).mono ?_; rintro e w' ⟨rfl, hw⟩; rw [hw]; clear hw w')
      | fail)
    go_ret
    exact ⟨rfl, (HP.out _ H1.out.1).2.1, H1.out.2.1.trans (HP.out _ H1.out.1).2.2, H1.out.2.2.trans H1.out.2.1.size Off.set⟩
  · have hA : reserveA A M a n = A := by rw [reserveA, ← hE, if_neg h0]
    have hS : spent A M a n false = A := by rw [spent, ← hE, if_neg h0]
    rw [hA, ← hE]
    have HE := Lib.hid (And.intro hE hS)
    clear hA hS hE hok
    go_enter Tryz.func46, Tryz.ntmps46
    go_wp2_with (first
      | (go_at_call 64; refine (ledger_spendF HH.out.1 HH.out.2.1 HH.out.2.2 false).mono ?_; rw [← HE.out.1, HE.out.2]; rintro e w1 ⟨rfl, h1, h2, h2o⟩; have H1 := Lib.hid (And.intro h1 (And.intro h2 h2o)); clear h1 h2 h2o)
      | fail)
    go_ret
    exact ⟨rfl, H1.out⟩
end
end Go.Proofs.YtcfcfijmfgnpfaaGreatDoor
end

section
namespace Go.Proofs.YtcfcfijmfgnpfaaGreatDoor
open Go.RowKit Go.Maps
set_option linter.unusedVariables false
set_option linter.unusedSimpArgs false

/-- A ledger in memory, with all that it lies in. -/
def LdX (g N : Nat) (A : Acc) (M : Cls Int) (FL : FP) (w : World) : Prop :=
  ∃ gl F, w.heap[g]? = some (.cells (lcells A gl).toArray 83 (0, 0)) ∧ GrAt codI 117 gl M F w ∧ (∀ k, F k → N ≤ k ∧ k ≠ g) ∧ N ≤ g ∧ AccOk A ∧ M.length ≤ 10000 ∧ ∀ k, FL k ↔ k = g ∨ F k
/-- A ledger changed. -/
def LdTo (g N : Nat) (A : Acc) (M : Cls Int) (FL : FP) (w w' : World) : Prop := ∃ F', LdX g N A M F' w' ∧ (∀ k, F' k → FL k ∨ w.heap.size ≤ k) ∧ Only FL (fun _ => False) w w'
section
variable {g N : Nat} {A A' : Acc} {M M' : Cls Int} {FL : FP} {w w' w1 : World}
theorem LdX.at (h : LdX g N A M FL w) : ∃ gl, LdAt N g gl A M w := by
  obtain ⟨gl, F, h1, h2, h3, h4, h5, h6, h7⟩ := h
  exact ⟨gl, h1, ⟨F, h2, h3⟩, h4, h5, h6⟩
theorem LdX.of {gl : Nat} (h : LdAt N g gl A M w) : ∃ FL, LdX g N A M FL w ∧ ∀ k, FL k → N ≤ k := by
  obtain ⟨F, h1, h2⟩ := h.gr
  exact ⟨_, ⟨gl, F, h.blk, h1, h2, h.lo, h.ok, h.len, fun k => Iff.rfl⟩, fun k hk => hk.elim (fun e => by rw [e]; exact h.lo) (fun e => (h2 k e).1)⟩
theorem LdX.lt (h : LdX g N A M FL w) {k : Nat} (hk : FL k) : k < w.heap.size := by
  obtain ⟨gl, F, h1, h2, h3, h4, h5, h6, h7⟩ := h
  rcases (h7 k).1 hk with rfl | e
  · exact (Array.getElem?_eq_some_iff.1 h1).1
  · exact h2.2.2.1 k e
theorem LdX.lo (h : LdX g N A M FL w) {k : Nat} (hk : FL k) : N ≤ k := by
  obtain ⟨gl, F, h1, h2, h3, h4, h5, h6, h7⟩ := h
  rcases (h7 k).1 hk with rfl | e
  · exact h4
  · exact (h3 k e).1
theorem LdX.own (h : LdX g N A M FL w) : FL g := by
  obtain ⟨gl, F, h1, h2, h3, h4, h5, h6, h7⟩ := h
  exact (h7 g).2 (.inl rfl)
theorem LdX.keep (h : LdX g N A M FL w) (hg : Grow w w') (hk : ∀ k, FL k → w'.heap[k]? = w.heap[k]?) : LdX g N A M FL w' := by
  obtain ⟨gl, F, h1, h2, h3, h4, h5, h6, h7⟩ := h
  exact ⟨gl, F, (hk g ((h7 g).2 (.inl rfl))).trans h1, h2.keep hg (fun k hf => hk k ((h7 k).2 (.inr hf))), h3, h4, h5, h6, h7⟩
theorem LdX.below (h : LdX g N A M FL w) (hb : Below w.heap.size w w') : LdX g N A M FL w' := h.keep (Grow.of_below hb) (fun k hk => hb.block k (h.lt hk))
theorem LdX.size (h : LdX g N A M FL w) : N ≤ w.heap.size := Nat.le_of_lt (Nat.lt_of_le_of_lt (h.lo h.own) (h.lt h.own))
theorem LdX.srt (h : LdX g N A M FL w) : SrtC M ∧ AccOk A ∧ M.length ≤ 10000 := by
  obtain ⟨gl, F, h1, h2, h3, h4, h5, h6, h7⟩ := h
  exact ⟨h2.1, h5, h6⟩
theorem LdTo.of_below (h : LdX g N A M FL w) (hb : Below w.heap.size w w') : LdTo g N A M FL w w' := ⟨FL, h.below hb, fun k hk => .inl hk, Only.of_later hb⟩
theorem LdTo.later (hb : Below w.heap.size w w1) (h : LdTo g N A M FL w1 w') : LdTo g N A M FL w w' := by
  obtain ⟨F', h1, h2, h3⟩ := h
  exact ⟨F', h1, fun k hk => (h2 k hk).imp id (fun h => Nat.le_trans hb.size h), only_trans (Only.of_later hb) h3⟩
/-- A change of the struct's block alone. -/
theorem LdX.off (h : LdX g N A M FL w) (h' : ∀ gl, LdAt N g gl A M w → LdAt N g gl A' M w' ∧ Below N w w' ∧ Off g w w') : LdTo g N A' M FL w w' := by
  obtain ⟨gl, F, h1, hF, hF2, h4, h5, h6, h7⟩ := h
  have h0 : LdAt N g gl A M w := ⟨h1, ⟨F, hF, hF2⟩, h4, h5, h6⟩
  obtain ⟨k1, k2, k3⟩ := h' gl h0
  refine ⟨FL, ⟨gl, F, k1.blk, hF.keep (Grow.of_below k2) (fun k hk => k3 k (hF.2.2.1 k hk) (hF2 k hk).2), hF2, h4, k1.ok, h6, h7⟩, fun k hk => .inl hk, Grow.of_below k2, fun k hk h8 h9 => k3 k hk (fun e => h8 ((h7 k).2 (.inl e)))⟩
theorem ledger_FreeX (h : LdX g N A M FL w) (a : Int) : Calls Tryz.prog 30 #[.pointer (some ⟨g, 0, none⟩), .int .i64 a] w fun e w' => e = .returned (.int .i64 (accOf A a).1) ∧ w' = w := by
  obtain ⟨gl, h0⟩ := h.at
  exact ledger_Free h0 a
theorem ledger_LockedX (h : LdX g N A M FL w) {a : Int} (ha : (Lit.int .i64 a).wf = true) : Calls Tryz.prog 87 #[.pointer (some ⟨g, 0, none⟩), .int .i64 a] w fun e w' => e = .returned (.int .i64 (lockedOf M a)) ∧ Below w.heap.size w w' := by
  obtain ⟨gl, h0⟩ := h.at
  exact ledger_Locked h0 ha
end
end Go.Proofs.YtcfcfijmfgnpfaaGreatDoor
end
