/-
  Joined texts.
-/
import Derived.Deep.DeepCutAuto
import Derived.BigRegion
import Derived.RegionTactic
import Derived.Deep.RegionHeld3
import Derived.Test.YteioacpfphigjaaGreatDoorChecked
import Derived.WalkKit
import Derived.Lib.Hide
import Derived.Below
import Derived.IntWalk
import Derived.BigFrame
import Derived.Laws.AppendOwn
import Derived.Laws.AppendOwnNone
import Derived.Laws.CopyRow
import Derived.Laws.Rows
import Derived.Laws.Tables
import Derived.Deep.MidRow
import Derived.Maps.AppendAt
import Derived.Lib.Overlaps
import Derived.Shelf.Spec.SlicesInsert
import Derived.Test.YteioacpfphigjaaGreatDoorMgc

section
namespace Go.Proofs.YteioacpfphigjaaGreatDoor
open Go.RowKit Go.Maps Go.Shelf
attribute [local go_sem] Oper.semAt_some
set_option linter.unusedVariables false
set_option linter.unusedSimpArgs false

def encE : Empty → Array Value := fun x => x.elim
def NonR (N0 lb : Nat) (pre : List Empty) (Φ : FP) (W : World) : Prop := (∀ k, ¬ Φ k) ∧ Boxed W lb 342 (.slice none 0 0) ∧ N0 ≤ W.heap.size
theorem NonR.stab {N0 lb : Nat} (h1 : lb < N0) : Stab N0 (NonR N0 lb) := by
  rintro pre Φ W ⟨a, b, f⟩
  exact ⟨fun k hk => absurd hk (a k), f, fun W' hg hk => ⟨a, (hk lb (.inl h1)).trans b, Nat.le_trans f hg.size⟩⟩
set_option maxHeartbeats 4000000 in
set_option maxRecDepth 100000 in
theorem still_Now_R {m : Nat} (gf : Nat) (lbx : Array Value) (w : World) (eg : ∀ args w, (callFunc gf args).run Tryz.prog w = .ok (.enter gf args) w) (hit : Iter Tryz.prog m gf lbx encE [] (fun k => k < w.heap.size) w) :
    Calls Tryz.prog 177 #[.func (.func gf) #[] lbx] w fun e w' => e = .returned (.func (.func 221) #[] #[.pointer (some ⟨w.heap.size, 0, none⟩)]) ∧ Boxed w' w.heap.size 342 (.slice none 0 0) ∧ Below w.heap.size w w' := by
  refine (callsIn_wide (n := m + 2)).1 ?_
  refine callsIn_of_wp_marks Tryz.func177 rfl trivial ?_ rfl
  simp only [Tryz.ntmps177, List.size_toArray, List.length_cons, List.length_nil, Nat.reduceAdd, Nat.reduceSub, Array.replicate_succ, Array.replicate_zero, List.push_toArray, List.append_toArray, List.nil_append, List.cons_append]
  gi_wp2_with fail
  obtain ⟨w1, hw1⟩ : ∃ w1, w1 = w.alloc (.cells #[.slice none 0 0] 342) := ⟨_, rfl⟩
  rw [← hw1]
  obtain ⟨lb, hlb⟩ : ∃ lb, lb = w.heap.size := ⟨_, rfl⟩
  have hB : Below w.heap.size w w1 := by rw [hw1]; exact (Below.refl _ w).alloc (Nat.le_refl _) _
  have hsz : w1.heap.size = lb + 1 := by rw [hw1, hlb]; simp
  have x0 : Boxed w1 lb 342 (.slice none 0 0) := by rw [hw1, hlb]; exact Boxed.new w _ _
  have HB1 := Lib.hid hB
  have HIT := Lib.hid hit
  have HSZ := Lib.hid hsz
  have l1 : lb < w1.heap.size := by omega
  have l2 : w.heap.size ≤ lb := by omega
  have HEG := Lib.hid eg
  rw [← hlb]
  have HLB := Lib.hid hlb
  clear hw1 hit hB hsz hlb eg
  refine range_outer (n := m) (gf := gf) (lb := lbx) rfl HEG.out HIT.out (Grow.of_below HB1.out) (fun k hk => ⟨hk, HB1.out.block k hk⟩) (fun x => x.elim)
    (fun k => k = lb) (by rintro k rfl; exact ⟨l1, fun h => by omega⟩) (NonR w1.heap.size lb) (fun _ _ _ _ => False) (NonR.stab l1) (fun c _ _ _ h => h.elim)
    ⟨fun _ h => h, x0, Nat.le_refl _⟩
    (fun x => x.elim) ?assign ?body ?done ?stop
  case assign =>
    intro l x
    exact x.elim
  case body =>
    intro l pre x
    exact x.elim
  case done =>
    rintro D Φ W3 ⟨hΦ, b1, hz⟩ hon hD hnD hK
    have HON := Lib.hid hon
    have HKK := Lib.hid hK
    have HBX := Lib.hid b1
    clear b1 hon hK
    gi_wp2
    refine ⟨by simp, .inl ⟨_, _, rfl, run_takeDeferred HKK.out, ?_⟩⟩
    have hO2 := HON.out
    have hw2 := HB1.out
    have hsz := HSZ.out
    have hlb := HLB.out
    subst hlb
    refine ⟨_, by simp [results, Tryz.results177, go_sem] <;> rfl, rfl, (put_other (by omega)).trans HBX.out, ?_⟩
    refine ⟨hO2.grow.os.trans hw2.os, hO2.grow.tape.trans hw2.tape, hO2.grow.output.trans hw2.output, by have h1 := hO2.grow.size; have h2 := hw2.size; simp [World.putObj]; omega, fun k hk => ?_⟩
    rw [put_other (by omega), hO2.block k (by omega) (by omega) (fun h => h)]
    exact hw2.block k (by omega)
  case stop =>
    rintro D Φ c pre W3 hpre h
    exact h.elim
set_option maxHeartbeats 4000000 in
set_option maxRecDepth 100000 in
theorem now1_iter_R (n : Nat) (bx : Nat) (w : World) (hbx : Boxed w bx 342 (.slice none 0 0)) (G : FP) (hGb : G bx) :
    Iter Tryz.prog n 221 #[.pointer (some ⟨bx, 0, none⟩)] encE [] G w := by
  intro lp B Ψ J Jx Φ0 W hgw hG hΨ hΦ0 hJ hJx hround h0
  have hc1 : W.cell? ⟨bx, 0, none⟩ = some (.slice none 0 0) := (World.cell?_of_block (hG bx hGb).2).trans hbx.cell
  refine callsIn_of_wp Tryz.func221 rfl trivial ?_ rfl
  simp only [Tryz.ntmps221, List.size_toArray, List.length_cons, List.length_nil, Nat.reduceAdd, Nat.reduceSub, Array.replicate_succ, Array.replicate_zero, List.push_toArray, List.append_toArray, List.nil_append, List.cons_append]
  have HH0 := Lib.hid h0
  clear hround hJ hJx hG hΨ hΦ0 hbx hGb h0
  gi_wp2_with fail
  gi_loopw [7] (fun r wr => r = .int .i64 0 ∧ wr = W) (fun _ _ => 0)
  case atStart => exact ⟨rfl, rfl⟩
  case round =>
    obtain ⟨rfl, rfl⟩ := hrel
    gi_wp2
    refine bodyPost_end (results_none rfl _ _ _) rfl ?_
    exact ⟨⟨_, rfl⟩, Φ0, fun j h => .inl h, Only.refl _ _ _, .inl HH0.out⟩
theorem still_Begun_R (f : Value) (w : World) (hf : ∃ g lb, f = .func g #[] lb) : Calls Tryz.prog 222 #[f] w fun e w' => e = .returned (.func (.func 253) #[] #[.pointer (some ⟨w.heap.size, 0, none⟩)]) ∧ w' = w.alloc (.cells #[f] 204) := by
  obtain ⟨g, lb, rfl⟩ := hf
  go_enter Tryz.func222, Tryz.ntmps222
  go_wp2
  go_ret
  exact ⟨rfl, rfl⟩
theorem enters_begun_R : ∀ args w, (callFunc 253 args).run Tryz.prog w = .ok (.enter 253 args) w := enters_of Tryz.func253 (by kernel_rfl) rfl
theorem enters_now_R : ∀ args w, (callFunc 221 args).run Tryz.prog w = .ok (.enter 221 args) w := enters_of Tryz.func221 (by kernel_rfl) rfl
set_option maxHeartbeats 4000000 in
set_option maxRecDepth 100000 in
/-- What Begun tells: what another way tells when the ranging begins: nothing. -/
theorem begun_iter_R {m : Nat} (n : Nat) (sb : Nat) (gf : Nat) (lbx : Array Value) (G : FP) (w : World) (hsb : Boxed w sb 204 (.func (.func gf) #[] lbx)) (eg : ∀ args w, (callFunc gf args).run Tryz.prog w = .ok (.enter gf args) w) (hit : Iter Tryz.prog m gf lbx encE [] G w) (hGs : G sb) (hGl : ∀ k, G k → k < w.heap.size) :
    IterF Tryz.prog n 253 #[.pointer (some ⟨sb, 0, none⟩)] encE [] G w := by
  intro lp B Ψ J Jx Φ0 W hgw hG hΨ hJ hJx hround h0
  have hc1 : W.cell? ⟨sb, 0, none⟩ = some (.func (.func gf) #[] lbx) := (World.cell?_of_block (hG sb hGs).2).trans hsb.cell
  have hitW : Iter Tryz.prog m gf lbx encE [] (fun k => k < W.heap.size) W := hit.later hgw hG (fun k hk => Nat.lt_of_lt_of_le (hGl k hk) hgw.size)
  have hnow := still_Now_R gf lbx W eg hitW
  obtain ⟨hs1, hs2, hs3⟩ := hJ _ _ _ h0
  have hwalk : ∀ W1, Boxed W1 W.heap.size 342 (.slice none 0 0) → Below W.heap.size W W1 →
      CallsIn Fence.wide n Tryz.prog 221 #[.func (.yield lp) #[] #[], .pointer (some ⟨W.heap.size, 0, none⟩)] W1 fun e W' => (∃ v, e = .returned v) ∧ Leaves Ψ Φ0 W (fun Φ' W' => J [] Φ' W' ∨ ∃ pre, pre <+: [] ∧ Jx pre Φ' W') W' := by
    intro W1 hb hB
    have hJ1 : J [] Φ0 W1 := hs3 W1 (Grow.of_below hB) (fun k hk => hB.block k (hk.elim (fun h => by omega) (fun h => (hs1 k h).2)))
    have hi := now1_iter_R n W.heap.size W1 hb (fun k => W.heap.size ≤ k ∧ k < W1.heap.size) ⟨Nat.le_refl _, hb.lt⟩
    have hcall := hi lp B Ψ J Jx Φ0 W1 (Grow.refl _) (fun k hk => ⟨hk.2, rfl⟩) (fun k hk => ⟨hΨ k hk, fun h => by have := hΨ k hk; omega⟩) (fun k hk h => by have := (hs1 k hk).2; omega) hJ hJx hround hJ1
    refine (callsIn_wide.2 (callsIn_wide.1 hcall)).mono ?_
    rintro e W' ⟨he, Φ', hn, ho', hR⟩
    exact ⟨he, Φ', fun k hk => (hn k hk).imp id (fun h => by have := hB.size; omega), (Only.of_later hB).trans ho' (fun j h => .inl h), hR⟩
  have HW := Lib.hid hwalk
  have HN := Lib.hid hnow
  clear hwalk hnow hround hJ hJx hG hΨ hsb hit hitW h0 hs1 hs3 hGs hGl eg
  refine callsIn_of_wp Tryz.func253 rfl trivial ?_ rfl
  simp only [Tryz.ntmps253, List.size_toArray, List.length_cons, List.length_nil, Nat.reduceAdd, Nat.reduceSub, Array.replicate_succ, Array.replicate_zero, List.push_toArray, List.append_toArray, List.nil_append, List.cons_append]
  have en := enters_now_R
  gi_wp2_with (first
    | (gi_at_call 177; refine (callsIn_wide.2 HN.out).mono ?_; rintro e W1 ⟨rfl, hb, hB⟩; have H1 := Lib.hid (And.intro hb hB); clear hb hB)
    | (refine ⟨trivial, ?_⟩; gi_at_call 177; refine (callsIn_wide.2 HN.out).mono ?_; rintro e W1 ⟨rfl, hb, hB⟩; have H1 := Lib.hid (And.intro hb hB); clear hb hB)
    | (gi_at_call 221; refine (callsIn_wide.2 (callsIn_wide.1 (HW.out _ H1.out.1 H1.out.2))).mono ?_; rintro e W' ⟨⟨v', rfl⟩, hR⟩; have H2 := Lib.hid hR; clear hR)
    | (refine ⟨trivial, ?_⟩; gi_at_call 221; refine (callsIn_wide.2 (callsIn_wide.1 (HW.out _ H1.out.1 H1.out.2))).mono ?_; rintro e W' ⟨⟨v', rfl⟩, hR⟩; have H2 := Lib.hid hR; clear hR)
    | fail)
  refine bodyPost_end (results_none rfl _ _ _) rfl ?_
  exact ⟨⟨_, rfl⟩, H2.out⟩
end Go.Proofs.YteioacpfphigjaaGreatDoor
end

section
namespace Go.Proofs.YteioacpfphigjaaGreatDoor
open Go.RowKit Go.Maps Go.Shelf
set_option linter.unusedVariables false
set_option linter.unusedSimpArgs false

theorem iterOfF {P : Program} {α : Type} {n gf : Nat} {lb : Array Value} {encs : α → Array Value} {xs : List α} {G : FP} {w : World} (h : IterF P n gf lb encs xs G w) : Iter P n gf lb encs xs G w :=
  fun l B Ψ J Jx Φ0 W h1 h2 h3 _ h5 h6 h7 h8 => h l B Ψ J Jx Φ0 W h1 h2 (fun k hk => (h3 k hk).1) h5 h6 h7 h8
set_option maxHeartbeats 4000000 in
set_option maxRecDepth 100000 in
theorem grid_Row_R {g : Nat} {w : World} (hg : w.heap[g]? = some (.cells #[.map none, .map none, .int .i64 0] 305 (0, 0))) :
    Calls Tryz.prog 178 #[.pointer (some ⟨g, 0, none⟩), .int .i64 0] w fun e w' => ∃ sb, e = .returned (.func (.func 253) #[] #[.pointer (some ⟨sb, 0, none⟩)]) ∧ IterF Tryz.prog 0 253 #[.pointer (some ⟨sb, 0, none⟩)] encE [] (fun k => k < w'.heap.size) w' ∧ Below w.heap.size w w' := by
  have HG := Lib.hid hg
  clear hg
  go_enter Tryz.func178, Tryz.ntmps178
  go_wp2_with (first
    | (go_at_call 223; refine (grid_row_R _ _ _).mono ?_; rintro e w1 ⟨rfl, hw1⟩; have HW1 := Lib.hid hw1; clear hw1)
    | (go_at_call 222; refine (still_Begun_R _ _ ⟨_, _, rfl⟩).mono ?_; rintro e w2 ⟨rfl, hw2⟩; have HW2 := Lib.hid hw2; clear hw2)
    | fail)
  have hw1 := HW1.out
  have hw2 := HW2.out
  have hs1 : w1.heap.size = w.heap.size + 2 := by rw [hw1]; simp
  have hs2 : w2.heap.size = w1.heap.size + 1 := by rw [hw2]; simp
  have hb1 : Below w.heap.size w w1 := by rw [hw1]; exact ((Below.refl _ w).alloc (Nat.le_refl _) _).alloc (by simp) _
  have hb2 : Below w1.heap.size w1 w2 := by rw [hw2]; exact (Below.refl _ w1).alloc (Nat.le_refl _) _
  have hb : Below w.heap.size w w2 := hb1.trans (hb2.mono hb1.size)
  have x0 : w2.cell? ⟨w.heap.size, 0, none⟩ = some (.pointer (some ⟨g, 0, none⟩)) := by
    rw [hb2.cell (p := ⟨w.heap.size, 0, none⟩) (by show w.heap.size < _; omega), hw1, World.cell?, Below.heap_alloc _ _ _ (by simp), World.alloc_heap_new]; rfl
  have x1 : w2.cell? ⟨w.heap.size + 1, 0, none⟩ = some (.int .i64 0) := by
    rw [hb2.cell (p := ⟨w.heap.size + 1, 0, none⟩) (by show w.heap.size + 1 < _; omega), hw1, World.cell?]
    have := World.alloc_heap_new (w.alloc (.cells #[.pointer (some ⟨g, 0, none⟩)] 145)) (.cells #[.int .i64 0] 3)
    rw [World.size_alloc] at this
    rw [this]; rfl
  have x2 : Boxed w2 w1.heap.size 204 (.func (.func 254) #[] #[.pointer (some ⟨w.heap.size, 0, none⟩), .pointer (some ⟨w.heap.size + 1, 0, none⟩)]) := by rw [hw2]; exact Boxed.new w1 _ _
  have hit := rowR_iter 0 w.heap.size (w.heap.size + 1) g 0 w2 x0 x1 ((hb.block g (Array.getElem?_eq_some_iff.1 HG.out).1).trans HG.out) (by decide) (fun k => k < w2.heap.size) (by show w.heap.size < _; omega) (by show w.heap.size + 1 < _; omega) (by have := (Array.getElem?_eq_some_iff.1 HG.out).1; show g < _; omega)
  have hbi := begun_iter_R 0 w1.heap.size _ _ (fun k => k < w2.heap.size) w2 x2 enters_row1_R hit (by show w1.heap.size < _; omega) (fun k hk => hk)
  exact bodyPost_ret (v := .func (.func 253) #[] #[.pointer (some ⟨w1.heap.size, 0, none⟩)]) (by simp [results, Tryz.results178, go_sem]) rfl ⟨_, rfl, hbi, hb⟩
set_option maxHeartbeats 4000000 in
set_option maxRecDepth 100000 in
theorem refer_All0 {F : FP} {r gb : Nat} {ts : List Trk} {w : World} (h : ReG F r gb ts w) :
    Calls Tryz.prog 112 #[.pointer (some ⟨r, 0, none⟩)] w fun e w' => ∃ b, e = .returned (.func (.func 221) #[] #[.pointer (some ⟨b, 0, none⟩)]) ∧ Boxed w' b 342 (.slice none 0 0) ∧ Below w.heap.size w w' := by
  obtain ⟨tb, cap, h1, -, -, -, -, -, -, hg⟩ := h
  have c1 : w.cell? ⟨r, 1, none⟩ = some (.pointer (some ⟨gb, 0, none⟩)) := by rw [World.cell?, h1]; rfl
  have HG := Lib.hid hg
  clear hg h1
  go_enter Tryz.func112, Tryz.ntmps112
  go_wp2_with (first
    | (go_at_call 178; refine (grid_Row_R HG.out).mono ?_; rintro e w1 ⟨sb, rfl, hit, hb⟩; have H1 := Lib.hid (And.intro hit hb); clear hit hb)
    | (go_at_call 177; refine (still_Now_R _ _ _ enters_begun_R (iterOfF H1.out.1)).mono ?_; rintro e w2 ⟨rfl, hx, hb⟩; have H2 := Lib.hid (And.intro hx hb); clear hx hb)
    | fail)
  exact bodyPost_ret (v := .func (.func 221) #[] #[.pointer (some ⟨w1.heap.size, 0, none⟩)]) (by simp [results, Tryz.results112, go_sem]) rfl ⟨_, rfl, H2.out.1, H1.out.2.trans (H2.out.2.mono H1.out.2.size)⟩
end Go.Proofs.YteioacpfphigjaaGreatDoor
end

section
namespace Go.Proofs.YteioacpfphigjaaGreatDoor
open Go.RowKit Go.Maps Go.Shelf
set_option linter.unusedVariables false
set_option linter.unusedSimpArgs false

set_option maxHeartbeats 4000000 in
set_option maxRecDepth 100000 in
theorem insertion_none (f : Value) (w : World) : Calls Tryz.prog 251 #[.slice none 0 0, .int .i64 0, .int .i64 0, f] w fun e w' => (∃ v, e = .returned v) ∧ w' = w := by
  go_enter Tryz.func251, Tryz.ntmps251
  go_wp2_with fail
  go_loopw [8] (fun i wr => i = .int .i64 1 ∧ wr = w) (fun _ _ => 0)
  case atStart => exact ⟨rfl, rfl⟩
  case round =>
    obtain ⟨rfl, rfl⟩ := hrel
    go_wp2_with fail
    refine bodyPost_end (results_none rfl _ _ _) rfl ?_
    exact ⟨⟨_, rfl⟩, rfl⟩
set_option maxHeartbeats 4000000 in
set_option maxRecDepth 100000 in
theorem stable_none (f : Value) (w : World) : Calls Tryz.prog 219 #[.slice none 0 0, .int .i64 0, f] w fun e w' => (∃ v, e = .returned v) ∧ w' = w := by
  go_enter Tryz.func219, Tryz.ntmps219
  go_wp2_with fail
  go_loopw [7, 8] (fun a b wr => a = .int .i64 0 ∧ b = .int .i64 20 ∧ wr = w) (fun _ _ _ => 0)
  case atStart => exact ⟨rfl, rfl, rfl⟩
  case round =>
    obtain ⟨rfl, rfl, rfl⟩ := hrel
    obtain ⟨wq, hwq⟩ : ∃ wq, wq = wr := ⟨_, rfl⟩
    subst hwq
    go_wp2_with (first
      | (go_at_call 251; refine (insertion_none _ _).mono ?_; rintro e w' ⟨⟨v, rfl⟩, hw⟩; rw [hw]; clear hw w')
      | fail)
    go_loopw [6] (fun a wr => a = .int .i64 20 ∧ wr = wq) (fun _ _ => 0)
    case atStart => exact ⟨rfl, rfl⟩
    case round =>
      obtain ⟨rfl, rfl⟩ := hrel
      go_wp2_with fail
      refine bodyPost_end (results_none rfl _ _ _) rfl ?_
      exact ⟨⟨_, rfl⟩, rfl⟩
theorem sortStable_none {fn : Nat} {lb : Array Value} (w : World) : Calls Tryz.prog 173 #[.slice none 0 0, .func (.func fn) #[] lb] w fun e w' => (∃ v, e = .returned v) ∧ w' = w := by
  go_enter Tryz.func173, Tryz.ntmps173
  go_wp2_with (first
    | (go_at_call 219; refine (stable_none _ _).mono ?_; rintro e w' ⟨⟨v, rfl⟩, hw⟩; rw [hw]; clear hw w')
    | fail)
  refine bodyPost_end (results_none rfl _ _ _) rfl ?_
  exact ⟨⟨_, rfl⟩, rfl⟩
end Go.Proofs.YteioacpfphigjaaGreatDoor
end

section
namespace Go.Proofs.YteioacpfphigjaaGreatDoor
open Go.RowKit Go.Maps Go.Shelf
set_option linter.unusedVariables false
set_option linter.unusedSimpArgs false

def allocTrk (h : Bool) (v : Value) : Sem Value := Instr.alloc 108 h v
theorem alloc_trk (h : Bool) (v : Value) : Instr.alloc 108 h v = allocTrk h v := rfl
theorem zeroTrk : ∃ Z : Array Value, ((Tryz.prog.info? 108).bind (·.zero)) = some (.agg Z) ∧ Z.size = 18 := by
  obtain ⟨i0, z, b, h1, h2, h3, h4, -⟩ := trackInfo
  exact ⟨z, by rw [h1]; exact h2, h4⟩
theorem run_allocTrk {Z : Array Value} (hz : ((Tryz.prog.info? 108).bind (·.zero)) = some (.agg Z)) (v : Value) (w : World) : (allocTrk true v).run Tryz.prog w = .ok (.pointer (some ⟨w.heap.size, 0, none⟩)) (w.alloc (.cells Z 108)) := by
  obtain ⟨i0, hi, hz0⟩ := Option.bind_eq_some_iff.1 hz
  unfold allocTrk
  simp [Instr.alloc, zeroValue, typeInfo, hi, hz0, newVar, newRow, Value.cells, go_sem]
def loadTrk (v : Value) : Sem Value := Instr.loadAt 108 v
theorem load_trk (v : Value) : Instr.loadAt 108 v = loadTrk v := rfl
theorem run_loadTrk {w : World} {b o : Nat} {t : Trk} (h : w.rangeAt b o (trkR.f t)) : (loadTrk (.pointer (some ⟨b, o, none⟩))).run Tryz.prog w = .ok (.agg (trkR.f t).toArray) w := run_loadR (r := trkR) h
def storeTrk (p v : Value) : Sem Unit := Instr.storeAt 108 p v
theorem store_trk (p v : Value) : Instr.storeAt 108 p v = storeTrk p v := rfl
theorem run_storeTrk {w : World} {b : Nat} {t : Trk} {C : Array Value} (hh : w.heap[b]? = some (.cells C 108 (0, 0))) (hC : C.size = 18) : (storeTrk (.pointer (some ⟨b, 0, none⟩)) (.agg (trkR.f t).toArray)).run Tryz.prog w = .ok () (w.setRow b (trkR.f t).toArray) := run_storeR (r := trkR) hh hC
theorem cho_two (W0 : World) (o1 o2 : Obj) : ((W0.alloc o1).alloc o2).drew.heap[W0.heap.size]? = some o1 ∧ ((W0.alloc o1).alloc o2).drew.heap[W0.heap.size + 1]? = some o2 := by
  have h2 := World.alloc_heap_new (W0.alloc o1) o2
  rw [World.size_alloc] at h2
  exact ⟨(Below.heap_alloc _ _ _ (by simp)).trans (World.alloc_heap_new _ _), h2⟩
theorem cho_row (V : World) (b j : Nat) (cs : Array Value) (h : j ≠ b) : (V.setRow b cs).heap[j]? = V.heap[j]? := by
  simp only [World.setRow, Array.getElem?_modify]
  rw [if_neg (fun e => h e.symm)]
theorem cho_rowAt {W : World} {b : Nat} {C : Array Value} {T : TypeId} (cs : Array Value) (h : W.heap[b]? = some (.cells C T (0, 0))) : (W.setRow b cs).heap[b]? = some (.cells cs T (0, 0)) := by
  simp [World.setRow, Array.getElem?_modify, h]
theorem cho_old (W0 : World) (o1 o2 : Obj) (j : Nat) (hj : j < W0.heap.size) : ((W0.alloc o1).alloc o2).drew.heap[j]? = W0.heap[j]? := (Below.heap_alloc _ _ _ (by simp; omega)).trans (Below.heap_alloc _ _ _ hj)
theorem cho_oldR (W0 : World) (o1 o2 : Obj) (b : Nat) (cs : Array Value) (hb : W0.heap.size ≤ b) (j : Nat) (hj : j < W0.heap.size) : (((W0.alloc o1).alloc o2).drew.setRow b cs).heap[j]? = W0.heap[j]? := (cho_row _ b j cs (by omega)).trans (cho_old W0 o1 o2 j hj)
theorem cho_cells1 (W0 : World) (Z cs : Array Value) : (((W0.alloc (.cells Z 108)).alloc (.cells #[.int .i64 0] 3)).drew.setRow W0.heap.size cs).cell? ⟨W0.heap.size + 1, 0, none⟩ = some (.int .i64 0) ∧ (((W0.alloc (.cells Z 108)).alloc (.cells #[.int .i64 0] 3)).drew.setRow W0.heap.size cs).frozen? ⟨W0.heap.size + 1, 0, none⟩ = false := by
  have h := (cho_row _ W0.heap.size (W0.heap.size + 1) cs (by omega)).trans (cho_two W0 (.cells Z 108) (.cells #[.int .i64 0] 3)).2
  exact ⟨by rw [World.cell?, h]; rfl, by rw [World.frozen?, h]; rfl⟩
theorem cho_cells2 (W0 : World) (Z cs : Array Value) : (((W0.alloc (.cells #[.int .i64 0] 3)).alloc (.cells Z 108)).drew.setRow (W0.heap.size + 1) cs).cell? ⟨W0.heap.size, 0, none⟩ = some (.int .i64 0) ∧ (((W0.alloc (.cells #[.int .i64 0] 3)).alloc (.cells Z 108)).drew.setRow (W0.heap.size + 1) cs).frozen? ⟨W0.heap.size, 0, none⟩ = false := by
  have h := (cho_row _ (W0.heap.size + 1) W0.heap.size cs (by omega)).trans (cho_two W0 (.cells #[.int .i64 0] 3) (.cells Z 108)).1
  exact ⟨by rw [World.cell?, h]; rfl, by rw [World.frozen?, h]; rfl⟩
/-- Behind the region: a track's copy, and a number that is 0. -/
def ChoEnd (W0 : World) (t : Trk) (b8 b9 : Nat) (wx : World) : Prop :=
  wx.heap[b8]? = some (.cells (trkR.f t).toArray 108 (0, 0)) ∧ wx.cell? ⟨b9, 0, none⟩ = some (.int .i64 0) ∧ Below W0.heap.size W0 wx ∧ W0.heap.size ≤ b8 ∧ W0.heap.size ≤ b9
theorem cho_end {W0 V : World} {t : Trk} {b8 b9 : Nat} (h8 : V.heap[b8]? = some (.cells (trkR.f t).toArray 108 (0, 0))) (h9 : V.heap[b9]? = some (.cells #[.int .i64 0] 3 (0, 0))) (hb : Below W0.heap.size W0 V) (hne : b8 ≠ b9) (l8 : W0.heap.size ≤ b8) (l9 : W0.heap.size ≤ b9) : ChoEnd W0 t b8 b9 (V.setCell ⟨b9, 0, none⟩ (.int .i64 0)) := by
  refine ⟨(Below.heap_setCell _ _ _ b8 hne).trans h8, by rw [World.cell?]; simp [World.setCell, Array.getElem?_modify, h9], ?_, l8, l9⟩
  exact hb.trans ⟨rfl, rfl, rfl, by simp [World.setCell], fun k hk => Below.heap_setCell _ _ _ k (by show k ≠ b9; omega)⟩
theorem cho_end1 (W0 : World) (Z : Array Value) (t : Trk) : ChoEnd W0 t W0.heap.size (W0.heap.size + 1) ((((W0.alloc (.cells Z 108)).alloc (.cells #[.int .i64 0] 3)).drew.setRow W0.heap.size (trkR.f t).toArray).setCell ⟨W0.heap.size + 1, 0, none⟩ (.int .i64 0)) := by
  obtain ⟨h1, h2⟩ := cho_two W0 (.cells Z 108) (.cells #[.int .i64 0] 3)
  refine cho_end (cho_rowAt _ h1) ((cho_row _ _ _ _ (by omega)).trans h2) ?_ (by omega) (Nat.le_refl _) (by omega)
  exact ⟨rfl, rfl, rfl, by simp [World.setRow, World.drew]; omega, fun k hk => cho_oldR W0 _ _ _ _ (Nat.le_refl _) k hk⟩
theorem cho_end2 (W0 : World) (Z : Array Value) (t : Trk) : ChoEnd W0 t (W0.heap.size + 1) W0.heap.size ((((W0.alloc (.cells #[.int .i64 0] 3)).alloc (.cells Z 108)).drew.setRow (W0.heap.size + 1) (trkR.f t).toArray).setCell ⟨W0.heap.size, 0, none⟩ (.int .i64 0)) := by
  obtain ⟨h1, h2⟩ := cho_two W0 (.cells #[.int .i64 0] 3) (.cells Z 108)
  refine cho_end (cho_rowAt _ h2) ((cho_row _ _ _ _ (by omega)).trans h1) ?_ (by omega) (by omega) (Nat.le_refl _)
  exact ⟨rfl, rfl, rfl, by simp [World.setRow, World.drew]; omega, fun k hk => cho_oldR W0 _ _ _ _ (by omega) k hk⟩
attribute [local go_sem ↓] alloc_trk load_trk store_trk
theorem cell_lt {w : World} {b o : Nat} {v : Value} (h : w.cell? ⟨b, o, none⟩ = some v) : b < w.heap.size := by
  cases Nat.lt_or_ge b w.heap.size with
  | inl h' => exact h'
  | inr h' => rw [World.cell?, Array.getElem?_eq_none h'] at h; cases h
/-- All that was there is there. -/
def KeepJ (w2 : World) (pre : List Empty) (Φ : FP) (W : World) : Prop := (∀ k, ¬ Φ k) ∧ (∀ k, k < w2.heap.size → W.heap[k]? = w2.heap[k]?) ∧ w2.heap.size ≤ W.heap.size
theorem KeepJ.stab (w2 : World) : Stab w2.heap.size (KeepJ w2) := by
  rintro pre Φ W ⟨a, b, f⟩
  exact ⟨fun k hk => absurd hk (a k), f, fun W' hg hk => ⟨a, fun k h => (hk k (.inl h)).trans (b k h), Nat.le_trans f hg.size⟩⟩
set_option maxHeartbeats 4000000 in
set_option maxRecDepth 100000 in
theorem choose0 {F : FP} {r gb k : Nat} {ts : List Trk} {w : World} (h : ReG F r gb ts w) (hk : k < ts.length) (vp : Option Addr) (now : Int) :
    Calls Tryz.prog 111 #[.pointer (some ⟨r, 0, none⟩), .pointer vp, .int .i64 k, .int .i64 now] w fun e w' => (∃ v, e = .returned v) ∧ Below w.heap.size w w' := by
  refine (callsIn_wide (n := 2)).1 ?_
  have hre := h
  obtain ⟨tb, cap, h1, h2, h3, h4, h5, h6, h7, h8⟩ := h
  obtain ⟨n, hn⟩ : ∃ n, n = ts.length := ⟨_, rfl⟩
  have hkn : (k : Int) < n := by omega
  obtain ⟨Z, hZ, hZs⟩ := zeroTrk
  have RA := run_allocTrk hZ
  obtain ⟨t, ht⟩ : ∃ t, t = ts[k] := ⟨_, rfl⟩
  have hr0 : w.rangeAt tb (k * 18) (trkR.f t) := fun j u hj => by
    rw [ht] at hj
    have hj18 : j < 18 := by have := (List.getElem?_eq_some_iff.1 hj).1; rwa [trkR.len] at this
    have := h2 (k * 18 + j) u (by rw [show k * 18 + j = k * trkR.k + j from rfl, trkR.all_at hk hj18]; exact hj)
    rwa [Nat.zero_add] at this
  rw [← hn] at h1
  have HRE := Lib.hid hre
  have HR0 := Lib.hid (And.intro hr0 h6)
  have HH1 := Lib.hid h1
  clear hre h2 h3 h4 h5 h6 h7 h8 hr0 hn ht hZ h1
  refine callsIn_of_wp_marks Tryz.func111 rfl trivial ?_ rfl
  simp only [Tryz.ntmps111, List.size_toArray, List.length_cons, List.length_nil, Nat.reduceAdd, Nat.reduceSub, Array.replicate_succ, Array.replicate_zero, List.push_toArray, List.append_toArray, List.nil_append, List.cons_append]
  gi_wp2_with fail
  obtain ⟨W0, hW0⟩ : ∃ W0, W0 = ((w.alloc (.cells #[.pointer vp] 40)).alloc (.cells #[.int .i64 k] 3)).alloc (.cells #[.int .i64 now] 3) := ⟨_, rfl⟩
  rw [← hW0]
  obtain ⟨p5, hp5⟩ : ∃ p5, p5 = w.heap.size := ⟨_, rfl⟩
  obtain ⟨p6, hp6⟩ : ∃ p6, p6 = p5 + 1 := ⟨_, rfl⟩
  obtain ⟨p7, hp7⟩ : ∃ p7, p7 = p6 + 1 := ⟨_, rfl⟩
  rw [← hp5, ← hp6, ← hp7]
  have hb0 : Below w.heap.size w W0 := by rw [hW0]; exact (((Below.refl _ w).alloc (Nat.le_refl _) _).alloc (by simp) _).alloc (by simp; omega) _
  have hsz : W0.heap.size = w.heap.size + 3 := by rw [hW0]; simp
  have hrl : r < w.heap.size := (Array.getElem?_eq_some_iff.1 HH1.out).1
  have c0 : W0.cell? ⟨r, 0, none⟩ = some (.slice (some ⟨tb, 0, none⟩) n cap) := by rw [hb0.cell (p := ⟨r, 0, none⟩) hrl, World.cell?, HH1.out]; rfl
  have c6 : W0.cell? ⟨p6, 0, none⟩ = some (.int .i64 k) := by
    have e := World.alloc_heap_new (w.alloc (.cells #[.pointer vp] 40)) (.cells #[.int .i64 k] 3)
    rw [World.size_alloc] at e
    rw [hW0, hp6, hp5, World.cell?, Below.heap_alloc _ _ _ (by simp), e]; rfl
  have hkr : ∀ W' : World, (∀ j, j < W0.heap.size → W'.heap[j]? = W0.heap[j]?) → W'.cell? ⟨r, 0, none⟩ = some (.slice (some ⟨tb, 0, none⟩) n cap) ∧ W'.cell? ⟨p6, 0, none⟩ = some (.int .i64 k) ∧ (loadTrk (.pointer (some ⟨tb, k * 18, none⟩))).run Tryz.prog W' = .ok (.agg (trkR.f t).toArray) W' := fun W' he =>
    ⟨(World.cell?_of_block (a := ⟨r, 0, none⟩) (he r (by omega))).trans c0, (World.cell?_of_block (a := ⟨p6, 0, none⟩) (he p6 (by omega))).trans c6, run_loadTrk (rangeAt_block (rangeAt_block HR0.out.1 (hb0.block tb HR0.out.2)) (he tb (by have := HR0.out.2; omega)))⟩
  have HKR := Lib.hid hkr
  have HW0 := Lib.hid (And.intro hb0 (And.intro hsz hW0))
  have HPP := Lib.hid (And.intro hp5 (And.intro hp6 hp7))
  clear hkr hb0 hsz hW0 c0 c6 hp5 hp6 hp7 hrl
  have ST1 := run_storeTrk (t := t) (cho_two W0 (.cells Z 108) (.cells #[.int .i64 0] 3)).1 hZs
  have ST2 := run_storeTrk (t := t) (cho_two W0 (.cells #[.int .i64 0] 3) (.cells Z 108)).2 hZs
  have SA1 := fun cs => (cho_cells1 W0 Z cs).1
  have SB1 := fun cs => (cho_cells1 W0 Z cs).2
  have SA2 := fun cs => (cho_cells2 W0 Z cs).1
  have SB2 := fun cs => (cho_cells2 W0 Z cs).2
  have K0 := Lib.hid (HKR.out W0.drew (fun _ _ => rfl))
  have K1 := Lib.hid (HKR.out (W0.alloc (.cells Z 108)).drew (fun j hj => Below.heap_alloc _ _ _ hj))
  have K2 := Lib.hid (HKR.out (W0.alloc (.cells #[.int .i64 0] 3)).drew (fun j hj => Below.heap_alloc _ _ _ hj))
  have K3 := Lib.hid (HKR.out _ (cho_old W0 (.cells Z 108) (.cells #[.int .i64 0] 3)))
  have K4 := Lib.hid (HKR.out _ (cho_old W0 (.cells #[.int .i64 0] 3) (.cells Z 108)))
  have K5 := Lib.hid (HKR.out _ (cho_oldR W0 (.cells Z 108) (.cells #[.int .i64 0] 3) W0.heap.size (trkR.f t).toArray (Nat.le_refl _)))
  have K6 := Lib.hid (HKR.out _ (cho_oldR W0 (.cells #[.int .i64 0] 3) (.cells Z 108) (W0.heap.size + 1) (trkR.f t).toArray (Nat.le_succ _)))
  have K7 := Lib.hid (HKR.out _ (fun j hj => (cho_end1 W0 Z t).2.2.1.block j hj))
  have K8 := Lib.hid (HKR.out _ (fun j hj => (cho_end2 W0 Z t).2.2.1.block j hj))
  refine region_meet (R := fun a wx => ∃ b8 b9, a = { tmps := #[.pointer (some ⟨r, 0, none⟩), .pointer vp, .int .i64 k, .int .i64 now, undef, .pointer (some ⟨p5, 0, none⟩), .pointer (some ⟨p6, 0, none⟩), .pointer (some ⟨p7, 0, none⟩), .pointer (some ⟨b8, 0, none⟩), .pointer (some ⟨b9, 0, none⟩), undef, undef, undef, undef, undef, undef, undef, .pointer (some ⟨r, 0, none⟩), .pointer (some ⟨r, 0, none⟩), .pointer (some ⟨r, 0, none⟩), .slice (some ⟨tb, 0, none⟩) n cap, .int .i64 k, .pointer (some ⟨tb, k * 18, none⟩), .agg (trkR.f t).toArray, undef, undef, undef, undef, undef, undef, undef, undef, undef, undef, undef, undef, undef, undef, undef, undef, undef, undef, undef, undef, undef, undef, undef, undef, undef, undef, undef, undef, undef, undef, undef, undef, undef, undef, undef, undef, undef, undef, undef, undef, undef, undef, undef, undef, undef, undef, undef, undef, undef, undef, undef, undef, undef, undef, undef, undef, undef, undef, undef, undef, undef, undef, undef, undef, undef, undef, undef, undef], defers := [] } ∧ ChoEnd W0 t b8 b9 wx) ?h1 ?h2
  case h1 =>
    go_region_held3 (fun w' => w'.cell? ⟨r, 0, none⟩ = some (.slice (some ⟨tb, 0, none⟩) n cap) ∧ w'.cell? ⟨p6, 0, none⟩ = some (.int .i64 k) ∧ (loadTrk (.pointer (some ⟨tb, k * 18, none⟩))).run Tryz.prog w' = .ok (.agg (trkR.f t).toArray) w') (first | exact K0.out | exact K1.out | exact K2.out | exact K3.out | exact K4.out | exact K5.out | exact K6.out | exact K7.out | exact K8.out) (fail)
    all_goals first
      | exact ⟨_, _, rfl, cho_end1 W0 Z t⟩
      | exact ⟨_, _, rfl, cho_end2 W0 Z t⟩
  case h2 =>
    rintro _ wx ⟨b8, b9, rfl, h8, h9, hbx, l8, l9⟩
    have hbw : Below w.heap.size w wx := HW0.out.1.trans (hbx.mono HW0.out.1.size)
    obtain ⟨wb, hwb⟩ : ∃ wb, wb = wx.heap.size := ⟨_, rfl⟩
    obtain ⟨W1, hW1⟩ : ∃ W1, W1 = wx.alloc (.cells #[.slice none 0 0] 63) := ⟨_, rfl⟩
    have hb1 : Below wx.heap.size wx W1 := by rw [hW1]; exact (Below.refl _ wx).alloc (Nat.le_refl _) _
    have x10 : Boxed W1 wb 63 (.slice none 0 0) := by rw [hW1, hwb]; exact Boxed.new wx _ _
    have b8l : b8 < wx.heap.size := (Array.getElem?_eq_some_iff.1 h8).1
    have h8' := (hb1.block b8 b8l).trans h8
    have h9' : W1.cell? ⟨b9, 0, none⟩ = some (.int .i64 0) := by
      have b9l : b9 < wx.heap.size := cell_lt h9
      exact (World.cell?_of_block (a := ⟨b9, 0, none⟩) (hb1.block b9 b9l)).trans h9
    have hre1 : ReG F r gb ts W1 := (HRE.out.below hbw).below hb1
    have H1 := Lib.hid (And.intro hre1 (And.intro x10 (And.intro h8' (And.intro h9' (hbw.trans (hb1.mono hbw.size))))))
    have HW1 := Lib.hid hW1
    have HWB := Lib.hid hwb
    clear h8 h9 hbx l8 l9 hbw hW1 hb1 x10 b8l h8' h9' hre1 hwb ST1 ST2 SA1 SB1 SA2 SB2 K0 K1 K2 K3 K4 K5 K6 K7 K8 RA hZs hkn
    gi_wp2_with (first
      | (refine ⟨trivial, ?_⟩; gi_at_call 112; rw [← HW1.out]; refine (callsIn_wide.2 (refer_All0 H1.out.1)).mono ?_; rintro e w2 ⟨ab, rfl, hbx, hb⟩; have H2 := Lib.hid (And.intro hbx hb); clear hbx hb)
      | (gi_at_call 112; rw [← HW1.out]; refine (callsIn_wide.2 (refer_All0 H1.out.1)).mono ?_; rintro e w2 ⟨ab, rfl, hbx, hb⟩; have H2 := Lib.hid (And.intro hbx hb); clear hbx hb)
      | fail)
    rw [← HWB.out]
    obtain ⟨hab, hb2⟩ := H2.out
    have hit := now1_iter_R 0 ab w2 hab (fun k => k < w2.heap.size) hab.lt
    refine range_outer (n := 0) (gf := 221) (lb := #[.pointer (some ⟨ab, 0, none⟩)]) rfl enters_now_R hit (Grow.refl _) (fun k hk => ⟨hk, rfl⟩) (fun x => x.elim)
      (fun _ => False) (fun _ h => h.elim) (KeepJ w2) (fun _ _ _ _ => False) (KeepJ.stab w2) (fun c _ _ _ h => h.elim)
      ⟨fun _ h => h, fun _ _ => rfl, Nat.le_refl _⟩
      (fun x => x.elim) ?assign ?body ?done ?stop
    case assign =>
      intro l x
      exact x.elim
    case body =>
      intro l pre x
      exact x.elim
    case stop =>
      rintro D Φ c pre W3 hpre h
      exact h.elim
    case done =>
      rintro D Φ W3 ⟨hΦ, hk3, hz⟩ hon hD hnD hK
      obtain ⟨-, x10, h8, h9, hbw1⟩ := H1.out
      have e8 := (hk3 b8 (by have := (Array.getElem?_eq_some_iff.1 h8).1; have := hb2.size; omega)).trans ((hb2.block b8 (Array.getElem?_eq_some_iff.1 h8).1).trans h8)
      have e9 : W3.cell? ⟨b9, 0, none⟩ = some (.int .i64 0) := (World.cell?_of_block (a := ⟨b9, 0, none⟩) ((hk3 b9 (by have := cell_lt h9; have := hb2.size; omega)).trans (hb2.block b9 (cell_lt h9)))).trans h9
      have x3 : Boxed W3 wb 63 (.slice none 0 0) := (hk3 wb (by have := x10.lt; have := hb2.size; omega)).trans ((hb2.block wb x10.lt).trans x10)
      have c10 := x3.cell
      have c8 : W3.cell? ⟨b8, 0, none⟩ = some (.int .i64 t.most) := by rw [World.cell?, e8]; rfl
      have HD := Lib.hid (And.intro hon (And.intro hD hK))
      have HB := Lib.hid (And.intro hbw1 hb2)
      clear hΦ hk3 hz hon hD hnD hK x10 h8 h9 hbw1 e8 x3 hit hab hb2
      gi_wp2_with (first
        | (refine ⟨trivial, ?_⟩; gi_at_call 173; refine (callsIn_wide.2 (sortStable_none _)).mono ?_; rintro e w' ⟨⟨v, rfl⟩, hw⟩; rw [hw]; clear hw w')
        | (gi_at_call 173; refine (callsIn_wide.2 (sortStable_none _)).mono ?_; rintro e w' ⟨⟨v, rfl⟩, hw⟩; rw [hw]; clear hw w')
        | fail)
      gi_loopw [75] (fun r wr => r = .int .i64 0 ∧ wr = W3) (fun _ _ => 0)
      case atStart => exact ⟨rfl, rfl⟩
      case round =>
        obtain ⟨rfl, rfl⟩ := hrel
        gi_wp2
        obtain ⟨hon, hD, hK⟩ := HD.out
        obtain ⟨hbw1, hb2⟩ := HB.out
        refine ⟨by simp, .inl ⟨_, _, rfl, run_takeDeferred hK, ?_⟩⟩
        refine ⟨.tuple #[], by simp [results, Tryz.results111, go_sem], ⟨_, rfl⟩, ?_⟩
        have h12 := hbw1.trans (hb2.mono hbw1.size)
        refine ⟨hon.grow.os.trans h12.os, hon.grow.tape.trans h12.tape, hon.grow.output.trans h12.output, by have h1 := hon.grow.size; have h2 := h12.size; simp [World.putObj]; omega, fun k hk => ?_⟩
        have h1 := h12.size
        rw [put_other (by omega), hon.block k (by omega) (fun h => h) (fun h => h)]
        exact h12.block k hk
end Go.Proofs.YteioacpfphigjaaGreatDoor
end

section
namespace Go.Proofs.YteioacpfphigjaaGreatDoor
open Go.RowKit Go.Maps Go.Shelf
set_option linter.unusedVariables false
set_option linter.unusedSimpArgs false

theorem boxed_later {W W' : World} {p : Nat} {T : TypeId} {v : Value} (h : Boxed W p T v) (hb : Below W.heap.size W W') : W'.cell? ⟨p, 0, none⟩ = some v := Boxed.cell (t := T) ((hb.block p h.lt).trans h)
set_option maxHeartbeats 4000000 in
set_option maxRecDepth 100000 in
theorem service0 {F : FP} {r gb : Nat} {ts : List Trk} {w : World} (h : ReG F r gb ts w) (la va : Addr) (now : Int) :
    Calls Tryz.prog 43 #[.pointer (some ⟨r, 0, none⟩), .pointer (some la), .pointer (some va), .int .i64 now] w fun e w' => e = .returned (.slice none 0 0) ∧ Below w.heap.size w w' := by
  refine (callsIn_wide (n := 2)).1 ?_
  obtain ⟨W0, hW0⟩ : ∃ W0, W0 = (((w.alloc (.cells #[.pointer (some ⟨r, 0, none⟩)] 42)).alloc (.cells #[.pointer (some la)] 38)).alloc (.cells #[.pointer (some va)] 40)).alloc (.cells #[.int .i64 now] 3) := ⟨_, rfl⟩
  obtain ⟨p4, hp4⟩ : ∃ p4, p4 = w.heap.size := ⟨_, rfl⟩
  obtain ⟨p5, hp5⟩ : ∃ p5, p5 = p4 + 1 := ⟨_, rfl⟩
  obtain ⟨p6, hp6⟩ : ∃ p6, p6 = p5 + 1 := ⟨_, rfl⟩
  obtain ⟨p7, hp7⟩ : ∃ p7, p7 = p6 + 1 := ⟨_, rfl⟩
  have hb0 : Below w.heap.size w W0 := by rw [hW0]; exact ((((Below.refl _ w).alloc (Nat.le_refl _) _).alloc (by simp) _).alloc (by simp; omega) _).alloc (by simp; omega) _
  have hsz : W0.heap.size = p4 + 4 := by rw [hW0, hp4]; simp
  have x4 : Boxed W0 p4 42 (.pointer (some ⟨r, 0, none⟩)) := by rw [hW0, hp4]; exact (((Boxed.new w _ _).alloc _).alloc _).alloc _
  have x5 : Boxed W0 p5 38 (.pointer (some la)) := by
    have := Boxed.new (w.alloc (.cells #[.pointer (some ⟨r, 0, none⟩)] 42)) 38 (.pointer (some la))
    rw [World.size_alloc] at this
    rw [hW0, hp5, hp4]; exact (this.alloc _).alloc _
  have x6 : Boxed W0 p6 40 (.pointer (some va)) := by
    have := Boxed.new ((w.alloc (.cells #[.pointer (some ⟨r, 0, none⟩)] 42)).alloc (.cells #[.pointer (some la)] 38)) 40 (.pointer (some va))
    rw [World.size_alloc, World.size_alloc] at this
    rw [hW0, hp6, hp5, hp4]; exact this.alloc _
  have x7 : Boxed W0 p7 3 (.int .i64 now) := by
    have := Boxed.new (((w.alloc (.cells #[.pointer (some ⟨r, 0, none⟩)] 42)).alloc (.cells #[.pointer (some la)] 38)).alloc (.cells #[.pointer (some va)] 40)) 3 (.int .i64 now)
    rw [World.size_alloc, World.size_alloc, World.size_alloc] at this
    rw [hW0, hp7, hp6, hp5, hp4]; exact this
  have hre := h.below hb0
  obtain ⟨tb, cap, h1, -, -, -, -, -, hl100, -⟩ := hre
  have hre := h.below hb0
  obtain ⟨n, hn⟩ : ∃ n, n = ts.length := ⟨_, rfl⟩
  rw [← hn] at h1 hl100
  have hkeep : ∀ W, Below W0.heap.size W0 W → ReG F r gb ts W ∧ W.cell? ⟨p4, 0, none⟩ = some (.pointer (some ⟨r, 0, none⟩)) ∧ W.cell? ⟨p5, 0, none⟩ = some (.pointer (some la)) ∧ W.cell? ⟨p6, 0, none⟩ = some (.pointer (some va)) ∧ W.cell? ⟨p7, 0, none⟩ = some (.int .i64 now) ∧ W.cell? ⟨r, 0, none⟩ = some (.slice (some ⟨tb, 0, none⟩) n cap) := fun W hb =>
    ⟨hre.below hb, boxed_later x4 hb, boxed_later x5 hb, boxed_later x6 hb, boxed_later x7 hb, by rw [World.cell?, (hb.block r (Array.getElem?_eq_some_iff.1 h1).1).trans h1]; rfl⟩
  have HK := Lib.hid hkeep
  have HW0 := Lib.hid hW0
  have HB0 := Lib.hid hb0
  have HN := Lib.hid (And.intro hn hl100)
  have HPP := Lib.hid (And.intro hp4 (And.intro hp5 (And.intro hp6 (And.intro hp7 hsz))))
  have hnI : (n : Int) ≤ 100 := by omega
  clear hre h1 hkeep hb0 x4 x5 x6 x7 hn hl100 h
  refine callsIn_of_wp_marks Tryz.func43 rfl trivial ?_ rfl
  simp only [Tryz.ntmps43, List.size_toArray, List.length_cons, List.length_nil, Nat.reduceAdd, Nat.reduceSub, Array.replicate_succ, Array.replicate_zero, List.push_toArray, List.append_toArray, List.nil_append, List.cons_append]
  obtain ⟨hre, c4, c5, c6, c7, cr⟩ := HK.out W0 (Below.refl _ _)
  rw [hW0] at c4 c5 c6 c7 cr
  rw [hp7, hp6, hp5, hp4] at c7
  rw [hp6, hp5, hp4] at c6
  rw [hp5, hp4] at c5
  rw [hp4] at c4
  clear hW0 hp7 hp6 hp5 hp4 hsz hre
  gi_wp2_with fail
  rw [← HW0.out]
  rw [← HPP.out.1, ← HPP.out.2.1, ← HPP.out.2.2.1, ← HPP.out.2.2.2.1]
  clear c4 c5 c6 c7 cr
  gi_loopw [29] (fun i wr => ∃ k : Nat, k ≤ n ∧ i = .int .i64 k ∧ Below W0.heap.size W0 wr) (fun i _ => n - (intOf i).toNat)
  case atStart => exact ⟨0, Nat.zero_le _, rfl, Below.refl _ _⟩
  case round =>
    obtain ⟨k, hk, rfl, hbl⟩ := hrel
    obtain ⟨hre, c4, c5, c6, c7, cr⟩ := HK.out wr hbl
    have HBL := Lib.hid hbl
    have HRE := Lib.hid hre
    clear hbl hre
    by_cases hlt : k < n
    · have hlt' : (k : Int) < n := by omega
      have HLT := Lib.hid (show k < ts.length by rw [← HN.out.1]; exact hlt)
      gi_wp2_with (first
        | (refine ⟨trivial, ?_⟩; gi_at_call 111; refine (callsIn_wide.2 (choose0 HRE.out HLT.out _ _)).mono ?_; rintro e w' ⟨⟨v, rfl⟩, hb⟩; have HB := Lib.hid hb; clear hb)
        | (gi_at_call 111; refine (callsIn_wide.2 (choose0 HRE.out HLT.out _ _)).mono ?_; rintro e w' ⟨⟨v, rfl⟩, hb⟩; have HB := Lib.hid hb; clear hb)
        | fail)
      exact ⟨⟨k + 1, hlt, by go_num, HBL.out.trans (HB.out.mono HBL.out.size)⟩, by simp [intOf]; omega⟩
    · obtain rfl : k = n := by omega
      obtain ⟨wb, hwb⟩ : ∃ wb, wb = wr.heap.size := ⟨_, rfl⟩
      obtain ⟨W1, hW1⟩ : ∃ W1, W1 = wr.alloc (.cells #[.slice none 0 0] 35) := ⟨_, rfl⟩
      have hb1 : Below wr.heap.size wr W1 := by rw [hW1]; exact (Below.refl _ wr).alloc (Nat.le_refl _) _
      have x10 : Boxed W1 wb 35 (.slice none 0 0) := by rw [hW1, hwb]; exact Boxed.new wr _ _
      have hbw : Below W0.heap.size W0 W1 := HBL.out.trans (hb1.mono HBL.out.size)
      have c4' := (HK.out W1 hbw).2.1
      rw [hW1] at c4'
      have H1 := Lib.hid (And.intro hbw x10)
      have HWB := Lib.hid hwb
      have HW1 := Lib.hid hW1
      clear hb1 x10 hbw hwb hW1
      gi_wp2_with (first
        | (refine ⟨trivial, ?_⟩; gi_at_call 112; rw [← HW1.out]; refine (callsIn_wide.2 (refer_All0 (HK.out W1 H1.out.1).1)).mono ?_; rintro e w2 ⟨ab, rfl, hbx, hb⟩; have H2 := Lib.hid (And.intro hbx hb); clear hbx hb)
        | (gi_at_call 112; rw [← HW1.out]; refine (callsIn_wide.2 (refer_All0 (HK.out W1 H1.out.1).1)).mono ?_; rintro e w2 ⟨ab, rfl, hbx, hb⟩; have H2 := Lib.hid (And.intro hbx hb); clear hbx hb)
        | fail)
      rw [← HWB.out]
      obtain ⟨hab, hb2⟩ := H2.out
      have hit := now1_iter_R 0 ab w2 hab (fun k => k < w2.heap.size) hab.lt
      refine range_outer (n := 0) (gf := 221) (lb := #[.pointer (some ⟨ab, 0, none⟩)]) rfl enters_now_R hit (Grow.refl _) (fun k hk => ⟨hk, rfl⟩) (fun x => x.elim)
        (fun _ => False) (fun _ h => h.elim) (KeepJ w2) (fun _ _ _ _ => False) (KeepJ.stab w2) (fun c _ _ _ h => h.elim)
        ⟨fun _ h => h, fun _ _ => rfl, Nat.le_refl _⟩
        (fun x => x.elim) ?assign ?body ?done ?stop
      case assign =>
        intro l x
        exact x.elim
      case body =>
        intro l pre x
        exact x.elim
      case stop =>
        rintro D Φ c pre W3 hpre h
        exact h.elim
      case done =>
        rintro D Φ W3 ⟨hΦ, hk3, hz⟩ hon hD hnD hK
        obtain ⟨hbw, x10⟩ := H1.out
        have x3 : Boxed W3 wb 35 (.slice none 0 0) := (hk3 wb (by have := x10.lt; have := hb2.size; omega)).trans ((hb2.block wb x10.lt).trans x10)
        have c10 := x3.cell
        have HD := Lib.hid (And.intro hon (And.intro hD hK))
        have HB := Lib.hid (And.intro hbw hb2)
        clear hΦ hk3 hz hon hD hnD hK x10 x3 hit hab hb2 hbw
        gi_wp2_with fail
        obtain ⟨hon, hD, hK⟩ := HD.out
        obtain ⟨hbw, hb2⟩ := HB.out
        refine ⟨by simp, .inl ⟨_, _, rfl, run_takeDeferred hK, ?_⟩⟩
        refine ⟨.slice none 0 0, by simp [results, Tryz.results43, go_sem], rfl, ?_⟩
        have h01 := HB0.out.trans (hbw.mono HB0.out.size)
        have h12 := h01.trans (hb2.mono h01.size)
        refine ⟨hon.grow.os.trans h12.os, hon.grow.tape.trans h12.tape, hon.grow.output.trans h12.output, by have h1 := hon.grow.size; have h2 := h12.size; simp [World.putObj]; omega, fun k hk => ?_⟩
        have h1 := h12.size
        rw [put_other (by omega), hon.block k (by omega) (fun h => h) (fun h => h)]
        exact h12.block k hk
end Go.Proofs.YteioacpfphigjaaGreatDoor
end

section
namespace Go.Proofs.YteioacpfphigjaaGreatDoor
open Go.RowKit Go.Maps Go.Shelf
attribute [local go_sem] Oper.semAt_some
set_option linter.unusedVariables false
set_option linter.unusedSimpArgs false

set_option maxHeartbeats 4000000 in
set_option maxRecDepth 100000 in
theorem ended_iter (n : Nat) (bx : Nat) (ao : Option Addr) (cap : Nat) (w : World) (hbx : Boxed w bx 35 (.slice ao 0 cap)) (G : FP) (hGb : G bx) :
    Iter Tryz.prog n 116 #[.pointer (some ⟨bx, 0, none⟩)] encE [] G w := by
  intro lp B Ψ J Jx Φ0 W hgw hG hΨ hΦ0 hJ hJx hround h0
  have hc1 : W.cell? ⟨bx, 0, none⟩ = some (.slice ao 0 cap) := (World.cell?_of_block (hG bx hGb).2).trans hbx.cell
  refine callsIn_of_wp Tryz.func116 rfl trivial ?_ rfl
  simp only [Tryz.ntmps116, List.size_toArray, List.length_cons, List.length_nil, Nat.reduceAdd, Nat.reduceSub, Array.replicate_succ, Array.replicate_zero, List.push_toArray, List.append_toArray, List.nil_append, List.cons_append]
  have HH0 := Lib.hid h0
  clear hround hJ hJx hG hΨ hΦ0 hbx hGb h0
  gi_wp2_with fail
  gi_loopw [7] (fun r wr => r = .int .i64 0 ∧ wr = W) (fun _ _ => 0)
  case atStart => exact ⟨rfl, rfl⟩
  case round =>
    obtain ⟨rfl, rfl⟩ := hrel
    gi_wp2
    refine bodyPost_end (results_none rfl _ _ _) rfl ?_
    exact ⟨⟨_, rfl⟩, Φ0, fun j h => .inl h, Only.refl _ _ _, .inl HH0.out⟩
theorem enters_ended : ∀ args w, (callFunc 116 args).run Tryz.prog w = .ok (.enter 116 args) w := enters_of Tryz.func116 (by kernel_rfl) rfl
theorem chain_ended (ao : Option Addr) (n cap : Nat) (w : World) : Calls Tryz.prog 44 #[.slice ao n cap] w fun e w' => e = .returned (.func (.func 116) #[] #[.pointer (some ⟨w.heap.size, 0, none⟩)]) ∧ w' = w.alloc (.cells #[.slice ao n cap] 35) := by
  go_enter Tryz.func44, Tryz.ntmps44
  go_wp2
  go_ret
  exact ⟨rfl, rfl⟩
end Go.Proofs.YteioacpfphigjaaGreatDoor
end

section
namespace Go.Proofs.YteioacpfphigjaaGreatDoor
open Go.RowKit
set_option linter.unusedVariables false
set_option linter.unusedSimpArgs false

/-- A task. -/
structure Tk where
  name : Int
  due : Int
  prio : Int
  sum : List Nat
  track : Int
  ok : sum.length = 32
deriving DecidableEq
def Bs (l : List Nat) : List Value := l.map fun (b : Nat) => Value.int .u8 (b : Int)
theorem Bs_inj : ∀ {a b : List Nat}, Bs a = Bs b → a = b
  | [], [], _ => rfl
  | [], _ :: _, h => by simp [Bs] at h
  | _ :: _, [], h => by simp [Bs] at h
  | x :: a, y :: b, h => by
    simp only [Bs, List.map_cons, List.cons.injEq, Value.int.injEq, true_and] at h
    have h1 : x = y := by omega
    have h2 := Bs_inj (a := a) (b := b) h.2
    rw [h1, h2]
/-- A task's cells. -/
def tc (t : Tk) : List Value := .int .i64 t.name :: .int .i64 t.due :: .int .i64 t.prio :: (Bs t.sum ++ [.int .i64 t.track])
theorem tc_len (t : Tk) : (tc t).length = 36 := by simp [tc, Bs, t.ok]
theorem tc_one (t : Tk) : ∀ u ∈ tc t, u.oneCell' = true := by
  intro u hu
  simp only [tc, Bs, List.mem_cons, List.mem_append, List.mem_map, List.not_mem_nil, or_false] at hu
  rcases hu with rfl | rfl | rfl | ⟨x, -, rfl⟩ | rfl <;> rfl
/-- The cells of many. -/
def Tc (ts : List Tk) : List Value := ts.flatMap tc
theorem Tc_nil : Tc [] = [] := rfl
theorem Tc_one (t : Tk) : Tc [t] = tc t := by simp [Tc]
theorem Tc_cons (t : Tk) (ts : List Tk) : Tc (t :: ts) = tc t ++ Tc ts := by simp [Tc]
theorem Tc_append (a b : List Tk) : Tc (a ++ b) = Tc a ++ Tc b := by simp [Tc]
theorem Tc_len : ∀ ts : List Tk, (Tc ts).length = ts.length * 36
  | [] => rfl
  | t :: ts => by rw [Tc_cons, List.length_append, tc_len, Tc_len ts, List.length_cons]; omega
theorem Tc_ones (ts : List Tk) : ∀ u ∈ Tc ts, u.oneCell' = true := by
  intro u hu
  obtain ⟨t, -, h⟩ := List.mem_flatMap.1 hu
  exact tc_one t u h
theorem Tc_take (ts : List Tk) (k : Nat) : (Tc ts).take (k * 36) = Tc (ts.take k) := by
  by_cases h : k ≤ ts.length
  · have e : Tc ts = Tc (ts.take k) ++ Tc (ts.drop k) := by rw [← Tc_append, List.take_append_drop]
    rw [e, List.take_append_of_le_length (by rw [Tc_len, List.length_take]; omega), List.take_of_length_le (by rw [Tc_len, List.length_take]; omega)]
  · rw [List.take_of_length_le (by rw [Tc_len]; omega), List.take_of_length_le (by omega)]
theorem Tc_drop (ts : List Tk) (k : Nat) : (Tc ts).drop (k * 36) = Tc (ts.drop k) := by
  by_cases h : k ≤ ts.length
  · have e : Tc ts = Tc (ts.take k) ++ Tc (ts.drop k) := by rw [← Tc_append, List.take_append_drop]
    have hl : (Tc (ts.take k)).length = k * 36 := by rw [Tc_len, List.length_take]; omega
    rw [e, ← hl, List.drop_left]
  · rw [List.drop_of_length_le (by rw [Tc_len]; omega), List.drop_of_length_le (by omega)]; rfl
theorem Tc_at {ts : List Tk} {i : Nat} (hi : i < ts.length) {j : Nat} (hj : j < 36) : (Tc ts)[i * 36 + j]? = (tc ts[i])[j]? := by
  have h1 : (Tc ts)[i * 36 + j]? = ((Tc ts).drop (i * 36))[j]? := by rw [List.getElem?_drop]
  rw [h1, Tc_drop, List.drop_eq_getElem_cons hi, Tc_cons, List.getElem?_append_left (by rw [tc_len]; exact hj)]
theorem tc_inj {a b : Tk} (h : tc a = tc b) : a = b := by
  obtain ⟨n, d, p, s, t, ok⟩ := a
  obtain ⟨n', d', p', s', t', ok'⟩ := b
  simp only [tc, List.cons.injEq, Value.int.injEq, true_and] at h
  obtain ⟨rfl, rfl, rfl, h⟩ := h
  have hl : (Bs s).length = (Bs s').length := by simp [Bs, ok, ok']
  obtain ⟨h1, h2⟩ := List.append_inj h hl
  have hs : s = s' := Bs_inj h1
  subst hs
  simp only [List.cons.injEq, Value.int.injEq, true_and, and_true] at h2
  subst h2
  rfl

theorem infoT : (Tryz.prog.info? 87).map (fun i => (i.zero.map (·.cells.size), i.size, i.bytes)) = some (some 36, 36, 64) := by kernel_rfl
theorem sizeT : (Tryz.prog.info? 87).map (·.size) = some 36 := by kernel_rfl

/-- Tasks that the call owns. -/
def OwnT (B : Nat) (v : Value) (ts : List Tk) (w : World) : Prop := w.ownsRow B 87 36 v ts.length (Tc ts)
/-- Tasks that are only read. -/
def RdT (w : World) (v : Value) (ts : List Tk) : Prop :=
  (v = .slice none 0 0 ∧ ts = []) ∨ ∃ b off cap, v = .slice (some ⟨b, off, none⟩) ts.length cap ∧ ts.length ≤ cap ∧ w.rangeAt b off (Tc ts)

section
variable {w w' : World} {v : Value} {ts : List Tk} {B : Nat}
theorem RdT.lenOf (h : RdT w v ts) : ∃ ao cap, v = .slice ao ts.length cap := by
  rcases h with ⟨rfl, rfl⟩ | ⟨b, off, cap, rfl, -⟩
  · exact ⟨none, 0, rfl⟩
  · exact ⟨_, cap, rfl⟩
theorem rangeAt_of_block {b o : Nat} {cs : List Value} (h : w.rangeAt b o cs) (hk : w'.heap[b]? = w.heap[b]?) : w'.rangeAt b o cs := fun j u hj =>
  (World.cell?_of_block (a := ⟨b, o + j, none⟩) hk).trans (h j u hj)
theorem rangeAt_lt {b o : Nat} {cs : List Value} (h : w.rangeAt b o cs) (hc : cs ≠ []) : b < w.heap.size := by
  cases cs with
  | nil => exact absurd rfl hc
  | cons u cs => exact block_lt_of_cell (a := ⟨b, o + 0, none⟩) (h 0 u rfl)
theorem RdT.below (h : RdT w v ts) (hb : Below w.heap.size w w') : RdT w' v ts := by
  rcases h with h | ⟨b, off, cap, rfl, hl, hr⟩
  · exact .inl h
  · refine .inr ⟨b, off, cap, rfl, hl, ?_⟩
    by_cases hc : Tc ts = []
    · rw [hc]; intro j u hj; simp at hj
    · exact rangeAt_of_block hr (hb.block b (rangeAt_lt hr hc))
theorem RdT.at {ao : Option Addr} {n cap : Nat} (h : RdT w (.slice ao n cap) ts) {i : Nat} (hi : i < ts.length) :
    ∃ b off, ao = some ⟨b, off, none⟩ ∧ w.rangeAt b (off + i * 36) (tc ts[i]) ∧ b < w.heap.size := by
  rcases h with ⟨-, h2⟩ | ⟨b, off, c, h1, -, h3⟩
  · rw [h2] at hi; simp at hi
  · injection h1 with e1
    have hne : Tc ts ≠ [] := by
      intro e
      have := Tc_len ts
      rw [e] at this
      simp at this
      omega
    refine ⟨b, off, e1, fun j u hj => ?_, rangeAt_lt h3 hne⟩
    have hj36 : j < 36 := by
      have := (List.getElem?_eq_some_iff.1 hj).1
      rwa [tc_len] at this
    have := h3 (i * 36 + j) u (by rw [Tc_at hi hj36]; exact hj)
    rwa [show off + (i * 36 + j) = off + i * 36 + j by omega] at this
theorem OwnT.reads (h : OwnT B v ts w) : RdT w v ts := by
  obtain ⟨h1, h2⟩ := h
  rcases h2 with ⟨rfl, hn⟩ | ⟨g, cap, cur, rfl, hb, hg, hn, hm, hs, ht⟩
  · exact .inl ⟨rfl, List.eq_nil_of_length_eq_zero hn⟩
  · refine .inr ⟨g, 0, cap, rfl, hn, fun j u hj => ?_⟩
    have : cur.toList[j]? = some u := by
      rw [← ht] at hj
      have := (List.getElem?_eq_some_iff.1 hj).1
      rw [List.length_take] at this
      rwa [List.getElem?_take_of_lt (by omega)] at hj
    rw [Nat.zero_add, World.cell?, hg]
    simpa using this
theorem OwnT.of {S' : Nat} (h : OwnT B v ts w) (hS : S' ≤ B) (hk : ∀ k, v.ownBlock = some k → w'.heap[k]? = w.heap[k]?) : OwnT S' v ts w' := by
  obtain ⟨h1, h2⟩ := h
  refine ⟨h1, ?_⟩
  rcases h2 with h2 | ⟨g, cap, cur, rfl, hb, hg, hn, hm, hs, ht⟩
  · exact .inl h2
  · exact .inr ⟨g, cap, cur, rfl, by omega, (hk g rfl).trans hg, hn, hm, hs, ht⟩
theorem OwnT.nil (w : World) (B : Nat) : OwnT B (.slice none 0 0) [] w := World.ownsRow_nil w B _ 36
end

section
variable {w : World} {ops : Array Oper} {rest : List Oper} {o : Oper} {a : Act} {Q : Exit → Act → World → Prop}
/-- A task loaded whole. -/
theorem wpl_loadT {b k : Nat} {t : Tk} (x : Operand) (hgd : o.guard = none) (ho : o.op = .load 87 x) (hx : a.eval x = .pointer (some ⟨b, k, none⟩)) (hr : w.rangeAt b k (tc t))
    (h : wpList Tryz.prog ops Q rest (a.put o.dst (.agg (tc t).toArray)) w) : wpList Tryz.prog ops Q (o :: rest) a w :=
  wpList_load_mid hgd 87 x ho b k hx (tc t) _ hr Tryz.underlying87 rfl (by rw [tc_len]; exact sizeT) h
theorem wpl_loadT_g {b k : Nat} {t : Tk} (x : Operand) (hgd : Region.wanted o (yielded ops a.tmps) = true) (ho : o.op = .load 87 x) (hx : a.eval x = .pointer (some ⟨b, k, none⟩)) (hr : w.rangeAt b k (tc t))
    (h : wpList Tryz.prog ops Q rest (a.put o.dst (.agg (tc t).toArray)) w) : wpList Tryz.prog ops Q (o :: rest) a w := by
  refine BigFrame.wpList_want hgd fun K hK => ?_
  exact wp_load_mid 87 x ho b k hx (tc t) _ hr Tryz.underlying87 rfl (by rw [tc_len]; exact sizeT) (hK _ _ h)
/-- 'append(v, u...)' of tasks. -/
theorem wp_app_T {s x : Operand} {B : Nat} {v u : Value} {xs ys : List Tk} (hgd : o.guard = none)
    (ho : o.op = .call { callee := .builtin .append, args := #[s, x], argTypes := #[84, 84] }) (hs : a.eval s = v) (hx : a.eval x = u)
    (hown : OwnT B v xs w) (hr : RdT w u ys) (hlen : xs.length + ys.length ≤ 1000000) (hB : B ≤ w.heap.size)
    (h : ∀ v' w', OwnT B v' (xs ++ ys) w' → Below B w w' → B ≤ w'.heap.size → w.grownBy w' v.ownBlock → (v' = .slice none 0 0 ↔ v = .slice none 0 0 ∧ ys = []) ∨ ys = [] → wpList Tryz.prog ops Q rest (a.put o.dst v') w') : wpList Tryz.prog ops Q (o :: rest) a w := by
  obtain ⟨i0, hi, hz⟩ := Option.map_eq_some_iff.1 infoT
  simp only [Prod.mk.injEq] at hz
  obtain ⟨hz0, hz1, hz2⟩ := hz
  obtain ⟨z, hzz, hzs⟩ := Option.map_eq_some_iff.1 hz0
  have hr' := hr
  rcases hr with ⟨rfl, rfl⟩ | ⟨b, off, cap, rfl, hc, hcell⟩
  · refine wpList_append_own_none hgd s x _ ho B 87 i0 36 Tryz.underlying84 hi v _ _ hs hown hx ?_
    exact h v w (by rw [List.append_nil]; exact hown) (Below.refl _ _) hB ⟨rfl, rfl, rfl, Nat.le_refl _, fun _ _ _ => rfl⟩ (.inr rfl)
  · refine wpList_append_own _ hgd s x _ ho B 87 i0 z 36 64 Tryz.underlying84 hi hzz hz1 hz2 hzs (by decide) v _ _ hs hown ⟨b, off, none⟩ ys.length cap (Tc ys) hx (Tc_len ys)
      (fun j u hj => by rw [Addr.add_mid]; exact hcell j u hj) (Tc_ones ys) (by unfold maxLen; omega) (by omega) hB ?_
    intro v' w' h1 h2 h3
    refine h v' w' ?_ ((Below.refl _ _).grown h2 hB (fun k hk => (World.ownsRow.lt hown k hk).1)) (Nat.le_trans hB h2.size) h2 (.inl ?_)
    · unfold OwnT
      rw [Tc_append, List.length_append]
      exact h1
    · rw [h3]
      constructor
      · rintro ⟨e, e2⟩; exact ⟨e, List.eq_nil_of_length_eq_zero e2⟩
      · rintro ⟨e, e2⟩; exact ⟨e, by rw [e2]; rfl⟩
end
end Go.Proofs.YteioacpfphigjaaGreatDoor
end

section
namespace Go.Proofs.YteioacpfphigjaaGreatDoor
open Go.RowKit
set_option linter.unusedVariables false
set_option linter.unusedSimpArgs false

section
variable {P : Program}
/-- 'copy' of elements of k cells each. -/
theorem run_copy_rows (w : World) (k : Nat) (dT sT ty elem : TypeId) (g o dLen dCap : Nat) (a : Addr) (sLen sCap : Nat) (cur : Array Value) (t : TypeId) (cs : List Value)
    (hu : P.underlying dT = some (.slice elem)) (hs : (P.info? elem).map (·.size) = some k)
    (hg : w.heap[g]? = some (.cells cur t (0, 0))) (hn : cs.length = Nat.min sLen dLen * k)
    (hsrc : ∀ j v, cs[j]? = some v → w.cell? (a.add j) = some v) (hfit : o + cs.length ≤ cur.size) (h1 : ∀ v ∈ cs, v.oneCell' = true) :
    (Builtin.copy_ #[dT, sT] ty #[.slice (some ⟨g, o, none⟩) dLen dCap, .slice (some a) sLen sCap]).run P w =
      .ok (goInt (Nat.min sLen dLen)) (w.setRow g (cur.toList.take o ++ cs ++ cur.toList.drop (o + cs.length)).toArray) := by
  have hl := run_loadCells_list (P := P) w a cs hsrc
  have hst := run_storeCells_at P g o t cs 0 cur w hg (by simpa using hfit) h1
  cases hq : P.info? elem with
  | none => simp [hq] at hs
  | some i =>
    have hi : i.size = k := by simpa [hq] using hs
    simp [Builtin.copy_, run_underlying hu, Builtin.lenOf, Builtin.firstCells, sizeOf, typeInfo, hq, hi, ← hn, hl, hst]
end

theorem zeroT : ∃ z : Value, ((Tryz.prog.info? 87).bind (·.zero)) = some z ∧ z.cells.size = 36 ∧ z.cells.all (·.oneCell') = true := by
  refine ⟨.agg (Array.replicate 36 undef |>.mapIdx fun i _ => if i < 3 then Value.int .i64 0 else if i < 35 then .int .u8 0 else .int .i64 0), ?_, by decide +kernel, by decide +kernel⟩
  kernel_rfl
theorem zeroCells_ones {z : Array Value} (hz : z.size = 36) (h1 : z.all (·.oneCell') = true) (n : Nat) : (Builtin.zeroCells z n).size = n * 36 ∧ ∀ u ∈ (Builtin.zeroCells z n).toList, u.oneCell' = true := by
  refine ⟨by simp [Builtin.zeroCells, hz], fun u hu => ?_⟩
  simp only [Builtin.zeroCells, Array.toList_map, List.mem_map] at hu
  obtain ⟨i, -, rfl⟩ := hu
  have hlt : i % z.size < z.size := Nat.mod_lt _ (by omega)
  rw [getElem!_pos z _ hlt]
  exact Array.all_eq_true_iff_forall_mem.1 h1 _ (Array.getElem_mem hlt)

/-- 'clear' of tasks. -/
theorem wpl_clearT {ops : Array Oper} {rest : List Oper} {o : Oper} {a : Act} {Q : Exit → Act → World → Prop} {w : World} (x : Operand) (b k n c : Nat) (cur : Array Value) (t : TypeId) (hgd : o.guard = none) (ho : o.op = .call { callee := .builtin .clear, args := #[x], argTypes := #[84] })
    (hx : a.eval x = .slice (some ⟨b, k, none⟩) n c) (hh : w.heap[b]? = some (.cells cur t (0, 0))) (hfit : k + n * 36 ≤ cur.size)
    (h : ∀ Z : List Value, Z.length = n * 36 → wpList Tryz.prog ops Q rest (a.put o.dst (.tuple #[])) (w.setRow b (cur.toList.take k ++ Z ++ cur.toList.drop (k + n * 36)).toArray)) : wpList Tryz.prog ops Q (o :: rest) a w := by
  obtain ⟨z, hz, hzs, hz1⟩ := zeroT
  obtain ⟨i0, hi, hz0⟩ := Option.bind_eq_some_iff.1 hz
  refine wpList_plain hgd fun K hK => ?_
  unfold Oper.wp execOp
  by_cases h0 : n = 0
  · subst h0
    have hr : (Builtin.clear_ #[84] o.type #[.slice (some ⟨b, k, none⟩) 0 c]).run Tryz.prog w = .ok (.tuple #[]) w := by
      simp [Builtin.clear_, run_underlying Tryz.underlying84]
    simp only [ho, resolve, invoke, builtin, Sem.run_bind, Sem.run_pure, Result.andThen_ok, List.map_toArray, List.map_cons, List.map_nil, hx, hr]
    have := h [] (by simp)
    have e : (cur.toList.take k ++ [] ++ cur.toList.drop (k + 0 * 36)).toArray = cur := by simp
    rw [e, setRow_self w b cur t (0, 0) hh] at this
    exact hK _ _ this
  · obtain ⟨hzl, hzo⟩ := zeroCells_ones hzs hz1 n
    have hst := run_storeCells_at Tryz.prog b k t (Builtin.zeroCells z.cells n).toList 0 cur w hh (by rw [Array.length_toList, hzl]; omega) hzo
    simp only [Nat.add_zero, Array.length_toList, hzl] at hst
    have hr : (Builtin.clear_ #[84] o.type #[.slice (some ⟨b, k, none⟩) n c]).run Tryz.prog w = .ok (.tuple #[]) (w.setRow b (cur.toList.take k ++ (Builtin.zeroCells z.cells n).toList ++ cur.toList.drop (k + n * 36)).toArray) := by
      match n, h0 with
      | m + 1, _ =>
        simp only [Builtin.clear_]
        simp [run_underlying Tryz.underlying84, zeroValue, typeInfo, hi, hz0]
        rw [hst]
        simp [Result.andThen, List.append_assoc]
    simp only [ho, resolve, invoke, builtin, Sem.run_bind, Sem.run_pure, Result.andThen_ok, List.map_toArray, List.map_cons, List.map_nil, hx, hr]
    exact hK _ _ (h _ (by rw [Array.length_toList, hzl]))

/-- 'append(s, make([]T, m)...)' where there is no room: a new row. -/
theorem run_app_zerosT (w : World) (ti ty : TypeId) (hti : Tryz.prog.underlying ti = some (.int .i64)) (base g n cap m : Nat) (xs : List Value) (cur : Array Value) (hg : w.heap[g]? = some (.cells cur 87 (0, 0))) (hnc : n ≤ cap) (hcs : cur.size = cap * 36)
    (htake : cur.toList.take (n * 36) = xs) (hm : 0 < m) (hm1 : m ≤ 1000) (hn1 : n ≤ 1000) (hc1 : cap ≤ 1000000) (hroom : ¬ n + m ≤ cap) (hbase : base ≤ w.heap.size) :
    ∃ (cap' : Nat) (w' : World) (Z : List Value), (Builtin.append_ #[84, ti] ty #[.slice (some ⟨g, 0, none⟩) n cap, .int .i64 (m : Nat)]).run Tryz.prog w = .ok (.slice (some ⟨w.heap.size, 0, none⟩) (n + m) cap') w' ∧
      w'.ownsRow base 87 36 (.slice (some ⟨w.heap.size, 0, none⟩) (n + m) cap') (n + m) (xs ++ Z) ∧ Z.length = m * 36 ∧ w.grownBy w' none := by
  obtain ⟨i0, hi, hz⟩ := Option.map_eq_some_iff.1 infoT
  simp only [Prod.mk.injEq] at hz
  obtain ⟨-, hsize, hby⟩ := hz
  obtain ⟨z, hz, hzs, hz1⟩ := zeroT
  obtain ⟨i1, hi1, hz0⟩ := Option.bind_eq_some_iff.1 hz
  have hii : i1 = i0 := Option.some.inj (hi1.symm.trans hi)
  subst hii
  have hxl : xs.length = n * 36 := by rw [← htake, List.length_take, Array.length_toList, hcs]; omega
  have hwr : IntKind.i64.wrap (m : Int) = (m : Int) := IntWalk.i64_in _ (by omega)
  have hneg : ¬ ((m : Int) < 0) := by omega
  have hbig : ¬ (281474976710656 < (m : Int) * 64) := by omega
  have h0 : m ≠ 0 := by omega
  have h63' : ¬ (9223372036854775807 < ((n : Int) + (m : Int))) := by omega
  have h48' : ¬ (281474976710656 < Builtin.nextslicecap (n + m) cap * 64) := by
    have := growslice_fits (need := n + m) (old := cap) (bytes := 64) (by omega) (by omega)
    omega
  have holds : ∀ j u, xs[j]? = some u → w.cell? ((⟨g, 0, none⟩ : Addr).add j) = some u := by
    intro j u hj
    rw [← htake] at hj
    have hlt := (List.getElem?_eq_some_iff.1 hj).1
    rw [List.length_take] at hlt
    rw [List.getElem?_take_of_lt (by omega)] at hj
    rw [Addr.add_mid, Nat.zero_add, World.cell?, hg]
    simpa using hj
  have hfo := run_firstCells_some (P := Tryz.prog) w.drew 36 n ⟨g, 0, none⟩ n cap xs hxl (by simpa using holds)
  obtain ⟨hzl, -⟩ := zeroCells_ones hzs hz1 m
  have hge := grownCap_ge w (n + m) cap 87
  have hcm : grownCap w (n + m) cap 87 ≤ maxLen := grownCap_le_maxLen w (n + m) cap 87 (by simp only [maxLen]; omega)
  have hlen : (xs ++ (Builtin.zeroCells z.cells m).toList).length = (n + m) * 36 := by simp [hzl, hxl]; omega
  refine ⟨grownCap w (n + m) cap 87, w.drew.alloc (.cells (xs.toArray ++ Builtin.zeroCells z.cells m ++ Builtin.zeroCells z.cells (grownCap w (n + m) cap 87 - (n + m))) 87), (Builtin.zeroCells z.cells m).toList, ?_, ⟨hlen, .inr ⟨w.heap.size, _, _, rfl, hbase, heap_alloc_new w.drew _, hge, hcm, ?_, ?_⟩⟩, by rw [Array.length_toList, hzl], ⟨rfl, rfl, rfl, by simp, fun k hk _ => heap_alloc_old w.drew _ hk⟩⟩
  · simp [Builtin.append_, run_underlying Tryz.underlying84, run_underlying hti, sizeOf, typeInfo, zeroValue, hi, hz0, asInt, asIntOf, hwr, hneg, hbig, hby, hsize, h0, hroom, h63', h48', Question.forced, hfo, newRow, grownCap]
    intro hh
    omega
  · simp only [Array.size_append, List.size_toArray, hxl, hzl, (zeroCells_ones hzs hz1 _).1]
    omega
  · simp only [Array.toList_append, List.append_assoc]
    rw [← List.append_assoc, ← hlen]
    exact List.take_left
end Go.Proofs.YteioacpfphigjaaGreatDoor
end

section
namespace Go.Proofs.YteioacpfphigjaaGreatDoor
open Go.RowKit
set_option linter.unusedVariables false
set_option linter.unusedSimpArgs false

/-- Tasks that were put in. -/
def insAt (ts : List Tk) (i : Nat) (t : Tk) : List Tk := ts.take i ++ t :: ts.drop i
theorem insAt_len (ts : List Tk) (i : Nat) (t : Tk) (h : i ≤ ts.length) : (insAt ts i t).length = ts.length + 1 := by simp [insAt]; omega
/-- A new row's block is the old one's, or new. -/
def Fresh (w : World) (v v' : Value) : Prop := ∀ k, v'.ownBlock = some k → v.ownBlock = some k ∨ w.heap.size ≤ k
theorem Fresh.of {w : World} {v v' : Value} (h : v'.ownBlock = v.ownBlock ∨ v'.ownBlock = some w.heap.size) : Fresh w v v' := fun k hk => by
  rcases h with h | h
  · exact .inl (h.symm.trans hk)
  · rw [h] at hk; injection hk with e; exact .inr (by omega)
theorem Fresh.same {w : World} {v v' : Value} (h : v'.ownBlock = v.ownBlock) : Fresh w v v' := .of (.inl h)
section
variable {w : World} {ops : Array Oper} {rest : List Oper} {o : Oper} {a : Act} {Q : Exit → Act → World → Prop}
/-- 'append(v, u...)' of tasks. -/
theorem wp_app_T_at {s x : Operand} {B : Nat} {v u : Value} {xs ys : List Tk} (hgd : o.guard = none)
    (ho : o.op = .call { callee := .builtin .append, args := #[s, x], argTypes := #[84, 84] }) (hs : a.eval s = v) (hx : a.eval x = u)
    (hown : OwnT B v xs w) (hr : RdT w u ys) (hlen : xs.length + ys.length ≤ 1000000) (hB : B ≤ w.heap.size)
    (h : ∀ v' w', OwnT B v' (xs ++ ys) w' → Below B w w' → B ≤ w'.heap.size → w.grownBy w' v.ownBlock → (v' = .slice none 0 0 ↔ v = .slice none 0 0 ∧ ys = []) ∨ ys = [] → (v'.ownBlock = v.ownBlock ∨ v'.ownBlock = some w.heap.size) → wpList Tryz.prog ops Q rest (a.put o.dst v') w') : wpList Tryz.prog ops Q (o :: rest) a w := by
  obtain ⟨i0, hi, hz⟩ := Option.map_eq_some_iff.1 infoT
  simp only [Prod.mk.injEq] at hz
  obtain ⟨hz0, hz1, hz2⟩ := hz
  obtain ⟨z, hzz, hzs⟩ := Option.map_eq_some_iff.1 hz0
  have hr' := hr
  rcases hr with ⟨rfl, rfl⟩ | ⟨b, off, cap, rfl, hc, hcell⟩
  · refine wpList_append_own_none hgd s x _ ho B 87 i0 36 Tryz.underlying84 hi v _ _ hs hown hx ?_
    exact h v w (by rw [List.append_nil]; exact hown) (Below.refl _ _) hB ⟨rfl, rfl, rfl, Nat.le_refl _, fun _ _ _ => rfl⟩ (.inr rfl) (.inl rfl)
  · refine wpList_append_own_at _ hgd s x _ ho B 87 i0 z 36 64 Tryz.underlying84 hi hzz hz1 hz2 hzs (by decide) v _ _ hs hown ⟨b, off, none⟩ ys.length cap (Tc ys) hx (Tc_len ys)
      (fun j u hj => by rw [Addr.add_mid]; exact hcell j u hj) (Tc_ones ys) (by unfold maxLen; omega) (by omega) hB ?_
    intro v' w' h1 h2 h3 h4
    refine h v' w' ?_ ((Below.refl _ _).grown h2 hB (fun k hk => (World.ownsRow.lt hown k hk).1)) (Nat.le_trans hB h2.size) h2 (.inl ?_) h4
    · unfold OwnT
      rw [Tc_append, List.length_append]
      exact h1
    · rw [h3]
      constructor
      · rintro ⟨e, e2⟩; exact ⟨e, List.eq_nil_of_length_eq_zero e2⟩
      · rintro ⟨e, e2⟩; exact ⟨e, by rw [e2]; rfl⟩
end
/-- What Insert hands back. -/
def Inserted (B : Nat) (v : Value) (ts : List Tk) (i : Nat) (t : Tk) (w : World) (e : Ending) (w' : World) : Prop :=
  ∃ v', e = .returned v' ∧ OwnT B v' (insAt ts i t) w' ∧ w.grownBy w' v.ownBlock ∧ v' ≠ .slice none 0 0 ∧ Fresh w v v'
theorem RdT_one {w : World} {b c : Nat} {t : Tk} (h : w.heap[b]? = some (.cells (tc t).toArray 87 (0, 0))) (hc : 1 ≤ c) : RdT w (.slice (some ⟨b, 0, none⟩) 1 c) [t] :=
  .inr ⟨b, 0, c, rfl, hc, fun j u hj => by
    rw [Tc_one] at hj
    rw [Nat.zero_add, World.cell?, h]; simpa using hj⟩
theorem OwnT.cast {B : Nat} {v : Value} {a b : List Tk} {w : World} (h : OwnT B v a w) (e : a = b) : OwnT B v b w := e ▸ h

set_option maxHeartbeats 4000000 in
set_option maxRecDepth 100000 in
/-- At the end. -/
theorem insert_end (B : Nat) (v : Value) (ts : List Tk) (t : Tk) (ub : Nat) (w : World) (hown : OwnT B v ts w) (hu : w.heap[ub]? = some (.cells (tc t).toArray 87 (0, 0))) (hl : ts.length ≤ 1000) (hB : B ≤ w.heap.size) :
    Calls Tryz.prog 184 #[v, .int .i64 (ts.length : Nat), .slice (some ⟨ub, 0, none⟩) 1 1] w (Inserted B v ts ts.length t w) := by
  have HO := Lib.hid hown
  obtain ⟨ao, cap, rfl⟩ := hown.reads.lenOf
  have hne : (.slice ao (ts ++ [t]).length cap : Value) ≠ .slice none 0 0 := by
    intro e; injection e with _ e2 _; simp at e2
  have hcap : ts.length ≤ cap := by
    rcases hown.2 with ⟨h1, h2⟩ | ⟨g, c, cur, h1, -, -, h2, -⟩
    · rw [h2]; omega
    · injection h1 with e1 e2 e3; omega
  have hcap' : (ts.length : Int) ≤ cap := by omega
  have HR := Lib.hid (RdT_one hu (Nat.le_refl 1))
  have e : insAt ts ts.length t = ts ++ [t] := by simp [insAt]
  have HL := Lib.hid hl
  have HB := Lib.hid hB
  clear hown hu hne hl hB
  by_cases hcc : cap = ts.length
  · subst hcc
    go_enter Tryz.func184, Tryz.ntmps184
    go_wp2_with (first | (at_builtin; refine wp_app_T_at (B := B) (v := .slice ao ts.length ts.length) rfl rfl rfl rfl HO.out HR.out (by have := HL.out; simp; omega) HB.out ?_; intro v1 w1 ho1 hb1 hs1 hg1 hn1 hf1; have HF1 := Lib.hid (Fresh.of hf1); have HO1 := Lib.hid ho1; have HG1 := Lib.hid hg1; have HN1 := Lib.hid hn1; clear ho1 hb1 hs1 hg1 hn1 hf1) | fail)
    go_ret
    refine ⟨v1, rfl, HO1.out.cast e.symm, HG1.out, ?_, HF1.out⟩
    rcases HN1.out with h | h
    · intro e1
      have := (h.1 e1).2
      cases this
    · cases h
  · have hcf : (cap = ts.length) = False := by simp [hcc]
    go_enter Tryz.func184, Tryz.ntmps184
    go_wp2_with (first | (at_builtin; refine wp_app_T_at (B := B) (v := .slice ao ts.length cap) rfl rfl rfl rfl HO.out HR.out (by have := HL.out; simp; omega) HB.out ?_; intro v1 w1 ho1 hb1 hs1 hg1 hn1 hf1; have HF1 := Lib.hid (Fresh.of hf1); have HO1 := Lib.hid ho1; have HG1 := Lib.hid hg1; have HN1 := Lib.hid hn1; clear ho1 hb1 hs1 hg1 hn1 hf1) | fail)
    go_ret
    refine ⟨v1, rfl, HO1.out.cast e.symm, HG1.out, ?_, HF1.out⟩
    rcases HN1.out with h | h
    · intro e1
      have := (h.1 e1).2
      cases this
    · cases h

theorem sizeOfT (w : World) : (Go.sizeOf 87).run Tryz.prog w = .ok 36 w := by
  obtain ⟨i0, hi, hz⟩ := Option.map_eq_some_iff.1 sizeT
  simp [sizeOf, typeInfo, hi, hz]
theorem take_setRow (X Y : List Value) (o : Nat) (h : o ≤ X.length) : (X.take o ++ Y ++ X.drop (o + Y.length)).length = max X.length (o + Y.length) := by
  simp only [List.length_append, List.length_take, List.length_drop]; omega
/-- What two copies leave where one stands between: X is the row, n of its elements count. -/
theorem shifted (X : List Value) (ts : List Tk) (t : Tk) (i : Nat) (hi : i < ts.length) (hX : (ts.length + 1) * 36 ≤ X.length) (ht : X.take (ts.length * 36) = Tc ts) :
    ((X.take ((i + 1) * 36) ++ Tc (ts.drop i) ++ X.drop ((i + 1) * 36 + (Tc (ts.drop i)).length)).take (i * 36) ++ tc t ++ (X.take ((i + 1) * 36) ++ Tc (ts.drop i) ++ X.drop ((i + 1) * 36 + (Tc (ts.drop i)).length)).drop (i * 36 + (tc t).length)).take ((ts.length + 1) * 36) = Tc (insAt ts i t) := by
  obtain ⟨D, hD⟩ : ∃ D, D = Tc (ts.drop i) := ⟨_, rfl⟩
  have hDl : D.length = (ts.length - i) * 36 := by rw [hD, Tc_len, List.length_drop]
  have h36 := tc_len t
  have e1 : (X.take ((i + 1) * 36) ++ D ++ X.drop ((i + 1) * 36 + D.length)).take (i * 36) = Tc (ts.take i) := by
    rw [List.append_assoc, List.take_append_of_le_length (by rw [List.length_take]; omega), List.take_take, Nat.min_eq_left (by omega), ← Tc_take, ← ht, List.take_take, Nat.min_eq_left (by omega)]
  have e2 : (X.take ((i + 1) * 36) ++ D ++ X.drop ((i + 1) * 36 + D.length)).drop (i * 36 + (tc t).length) = D ++ X.drop ((i + 1) * 36 + D.length) := by
    have hl : (X.take ((i + 1) * 36)).length = i * 36 + (tc t).length := by rw [List.length_take, h36]; omega
    rw [List.append_assoc, ← hl, List.drop_left]
  rw [← hD, e1, e2]
  have hlen : (Tc (ts.take i) ++ tc t ++ D).length = (ts.length + 1) * 36 := by
    rw [List.length_append, List.length_append, Tc_len, List.length_take, h36, hDl]; omega
  rw [← List.append_assoc, List.take_append_of_le_length (by omega), List.take_of_length_le (by omega), hD]
  unfold insAt
  rw [Tc_append, Tc_cons, List.append_assoc]

/-- What two copies leave in a new row. -/
theorem laidIn (X : List Value) (ts : List Tk) (t : Tk) (i : Nat) (hi : i ≤ ts.length) (hX : (ts.length + 1) * 36 ≤ X.length) (ht : X.take (i * 36) = Tc (ts.take i)) :
    ((X.take (i * 36) ++ tc t ++ X.drop (i * 36 + (tc t).length)).take ((i + 1) * 36) ++ Tc (ts.drop i) ++ (X.take (i * 36) ++ tc t ++ X.drop (i * 36 + (tc t).length)).drop ((i + 1) * 36 + (Tc (ts.drop i)).length)).take ((ts.length + 1) * 36) = Tc (insAt ts i t) := by
  have h36 := tc_len t
  have hl : (X.take (i * 36) ++ tc t).length = (i + 1) * 36 := by rw [List.length_append, List.length_take, h36]; omega
  have e1 : (X.take (i * 36) ++ tc t ++ X.drop (i * 36 + (tc t).length)).take ((i + 1) * 36) = Tc (ts.take i) ++ tc t := by
    rw [List.take_append_of_le_length (by omega), List.take_of_length_le (by omega), ht]
  rw [e1]
  have hlen : (Tc (ts.take i) ++ tc t ++ Tc (ts.drop i)).length = (ts.length + 1) * 36 := by
    rw [List.length_append, List.length_append, Tc_len, List.length_take, h36, Tc_len, List.length_drop]; omega
  rw [List.take_append_of_le_length (by omega), List.take_of_length_le (by omega)]
  unfold insAt
  rw [Tc_append, Tc_cons, List.append_assoc]
theorem wpl_run_append {w : World} {ops : Array Oper} {rest : List Oper} {o : Oper} {a : Act} {Q : Exit → Act → World → Prop} (hgd : o.guard = none) (s x : Operand) (t t' : TypeId)
    (ho : o.op = .call { callee := .builtin .append, args := #[s, x], argTypes := #[t, t'] }) (v u : Value) (hs : a.eval s = v) (hx : a.eval x = u) {v' : Value} {w' : World}
    (hr : (Builtin.append_ #[t, t'] o.type #[v, u]).run Tryz.prog w = .ok v' w') (h : wpList Tryz.prog ops Q rest (a.put o.dst v') w') : wpList Tryz.prog ops Q (o :: rest) a w := by
  refine wpList_plain hgd fun K hK => ?_
  unfold Oper.wp
  simp [execOp, ho, resolve, invoke, builtin, hs, hx, hr, Result.andThen]
  exact hK _ _ h

set_option maxHeartbeats 4000000 in
set_option maxRecDepth 100000 in
/-- Ahead of others, in a new row. -/
theorem insert_grow (B : Nat) (ts : List Tk) (t : Tk) (i ub g cap : Nat) (cur : Array Value) (w : World) (hi : i < ts.length) (hg : w.heap[g]? = some (.cells cur 87 (0, 0))) (hBg : B ≤ g) (hnc : ts.length ≤ cap) (hroom : ¬ ts.length + 1 ≤ cap) (hcs : cur.size = cap * 36) (htake : cur.toList.take (ts.length * 36) = Tc ts)
    (hu : w.heap[ub]? = some (.cells (tc t).toArray 87 (0, 0))) (hl : ts.length ≤ 900) (hB : B ≤ w.heap.size) :
    Calls Tryz.prog 184 #[.slice (some ⟨g, 0, none⟩) ts.length cap, .int .i64 (i : Nat), .slice (some ⟨ub, 0, none⟩) 1 1] w (Inserted B (.slice (some ⟨g, 0, none⟩) ts.length cap) ts i t w) := by
  obtain ⟨n, hn⟩ : ∃ n, n = ts.length := ⟨_, rfl⟩
  rw [← hn] at hi hroom htake hl hnc ⊢
  have mixed : Tryz.prog.follows .mixedOrders = true := by kernel_rfl
  have hcl : cur.toList.length = cap * 36 := by simpa using hcs
  have hglt : g < w.heap.size := by
    by_cases h : g < w.heap.size
    · exact h
    · rw [Array.getElem?_eq_none (by omega)] at hg; cases hg
  have hublt : ub < w.heap.size := by
    by_cases h : ub < w.heap.size
    · exact h
    · rw [Array.getElem?_eq_none (by omega)] at hu; cases hu
  have hz2 : ((i : Int) = (n : Int)) = False := by simp; omega
  have hD : (Tc (ts.drop i)).length = (n - i) * 36 := by rw [Tc_len, List.length_drop, ← hn]
  have hw1 : IntKind.i64.wrap ((i : Int) + 1) = ((i + 1 : Nat) : Int) := by rw [IntWalk.i64_in _ (by omega)]; omega
  have hw2 : IntKind.i64.wrap ((n : Int) + 1) = ((n + 1 : Nat) : Int) := by rw [IntWalk.i64_in _ (by omega)]; omega
  have hw3 : IntKind.i64.wrap (((n + 1 : Nat) : Int) - (i : Int)) = ((n + 1 - i : Nat) : Int) := by rw [IntWalk.i64_in _ (by omega)]; omega
  obtain ⟨cap', w1, Z, hrun, hown, hZ, hgr⟩ := run_app_zerosT w 3 84 Tryz.underlying3 B g i cap (n + 1 - i) (Tc (ts.take i)) cur hg (by omega) hcs (by rw [← Tc_take, ← htake, List.take_take, Nat.min_eq_left (by omega)]) (by omega) (by omega) (by omega) (by omega) (by omega) hB
  rw [show i + (n + 1 - i) = n + 1 by omega] at hrun hown
  obtain ⟨nb, hnb⟩ : ∃ nb, nb = w.heap.size := ⟨_, rfl⟩
  obtain ⟨i1, hi1⟩ : ∃ i1, i1 = i + 1 := ⟨_, rfl⟩
  obtain ⟨n1, hn1⟩ : ∃ n1, n1 = n + 1 := ⟨_, rfl⟩
  obtain ⟨m, hm⟩ : ∃ m, m = n1 - i := ⟨_, rfl⟩
  rw [← hi1] at hw1
  rw [← hn1] at hw2 hw3 hroom hrun hown hZ
  rw [← hm] at hw3 hrun hZ
  rw [← hnb] at hrun hown
  obtain ⟨-, hown⟩ := hown
  rcases hown with ⟨h, -⟩ | ⟨g', c', cur', hv', hBn, hgn, hnc', hmc', hcs', htk'⟩
  · cases h
  injection hv' with e1 e2 e3
  injection e1 with e1
  injection e1 with e1
  subst e1 e3
  have hcl' : cur'.toList.length = cap' * 36 := by simpa using hcs'
  have htki : cur'.toList.take (i * 36) = Tc (ts.take i) := by
    have h1 := congrArg (fun l => l.take (i * 36)) htk'
    simp only [List.take_take] at h1
    rw [Nat.min_eq_left (by omega), List.take_append_of_le_length (by rw [Tc_len, List.length_take]; omega), List.take_of_length_le (l := Tc (ts.take i)) (by rw [Tc_len, List.length_take]; omega)] at h1
    exact h1
  have hsh := laidIn cur'.toList ts t i (by omega) (by omega) htki
  rw [← hi1, ← hn, ← hn1] at hsh
  obtain ⟨C1, hC1⟩ : ∃ C1, C1 = cur'.toList.take (i * 36) ++ tc t ++ cur'.toList.drop (i * 36 + (tc t).length) := ⟨_, rfl⟩
  rw [← hC1] at hsh
  have hC1l : C1.length = cap' * 36 := by
    rw [hC1, take_setRow _ _ _ (by omega), hcl', tc_len]; omega
  obtain ⟨W1, hW1⟩ : ∃ W1, W1 = w1.setRow nb C1.toArray := ⟨_, rfl⟩
  have hW1g : W1.heap[nb]? = some (.cells C1.toArray 87 (0, 0)) := by rw [hW1]; exact setRow_heap w1 nb _ _ _ _ hgn
  have hold : ∀ k, k < nb → W1.heap[k]? = w.heap[k]? := fun k hk => by
    rw [hW1, setRow_other w1 nb k _ (by omega)]
    exact hgr.block k (by omega) (by simp)
  have hcp1 : ∀ ty dc, (Builtin.copy_ #[84, 84] ty #[.slice (some ⟨nb, i * 36, none⟩) (n1 - i) dc, .slice (some ⟨ub, 0, none⟩) 1 1]).run Tryz.prog w1 = .ok (goInt (Nat.min 1 (n1 - i))) W1 := fun ty dc => by
    rw [hW1, hC1]
    exact run_copy_rows w1 36 _ _ ty 87 nb (i * 36) (n1 - i) dc ⟨ub, 0, none⟩ 1 1 cur' 87 (tc t) Tryz.underlying84 sizeT hgn (by rw [tc_len]; simp only [Nat.min_def]; split <;> omega)
      (fun j u hj => by
        rw [Addr.add_mid, Nat.zero_add]
        have e1 : w1.heap[ub]? = some (.cells (tc t).toArray 87 (0, 0)) := (hgr.block ub (by omega) (by simp)).trans hu
        rw [World.cell?, e1]; simpa using hj) (by rw [hcs', tc_len]; omega) (tc_one t)
  have hcp2 : ∀ ty dc sc, (Builtin.copy_ #[84, 84] ty #[.slice (some ⟨nb, i1 * 36, none⟩) (n1 - i1) dc, .slice (some ⟨g, i * 36, none⟩) (n - i) sc]).run Tryz.prog W1.drew = .ok (goInt (Nat.min (n - i) (n1 - i1))) (W1.drew.setRow nb (C1.take (i1 * 36) ++ Tc (ts.drop i) ++ C1.drop (i1 * 36 + (Tc (ts.drop i)).length)).toArray) := fun ty dc sc =>
    run_copy_rows W1.drew 36 _ _ ty 87 nb (i1 * 36) (n1 - i1) dc ⟨g, i * 36, none⟩ (n - i) sc C1.toArray 87 (Tc (ts.drop i)) Tryz.underlying84 sizeT hW1g (by rw [hD]; simp only [Nat.min_def]; split <;> omega)
      (fun j u hj => by
        have hjl := (List.getElem?_eq_some_iff.1 hj).1
        rw [hD] at hjl
        rw [← Tc_drop, ← htake, List.getElem?_drop, List.getElem?_take_of_lt (by omega)] at hj
        rw [Addr.add_mid]
        have e1 : W1.drew.heap[g]? = some (.cells cur 87 (0, 0)) := (hold g (by omega)).trans hg
        rw [World.cell?, e1]; simpa using hj) (by rw [List.size_toArray, hC1l, hD]; omega) (Tc_ones _)
  have hlenF : (C1.take (i1 * 36) ++ Tc (ts.drop i) ++ C1.drop (i1 * 36 + (Tc (ts.drop i)).length)).length = cap' * 36 := by
    rw [take_setRow _ _ _ (by omega), hC1l, hD]; omega
  obtain ⟨C2, hC2⟩ : ∃ C2, C2 = C1.take (i1 * 36) ++ Tc (ts.drop i) ++ C1.drop (i1 * 36 + (Tc (ts.drop i)).length) := ⟨_, rfl⟩
  rw [← hC2] at hcp2 hsh hlenF
  have hins := insAt_len ts i t (by omega)
  rw [← hn, ← hn1] at hins
  have hfin : Inserted B (.slice (some ⟨g, 0, none⟩) n cap) ts i t w (.returned (.slice (some ⟨nb, 0, none⟩) n1 cap')) (W1.drew.setRow nb C2.toArray) := by
    refine ⟨_, rfl, ?_, ?_, (by intro e; cases e), Fresh.of (.inr (by rw [← hnb]; rfl))⟩
    · unfold OwnT
      rw [hins]
      exact ⟨by rw [Tc_len, hins], .inr ⟨nb, cap', C2.toArray, rfl, hBn, setRow_heap W1.drew nb _ _ _ _ hW1g, hnc', hmc', by rw [List.size_toArray, hlenF], by simpa using hsh⟩⟩
    · rw [hW1]
      refine ⟨hgr.os, hgr.tape, hgr.output, ?_, fun k hk hr => ?_⟩
      · have := hgr.size
        simpa using this
      · rw [setRow_other _ nb k _ (by omega)]
        show (w1.setRow nb C1.toArray).heap[k]? = _
        rw [setRow_other _ nb k _ (by omega)]
        exact hgr.block k hk (by simp)
  have HF := Lib.hid hfin
  have hb1 : ((cap : Int) < (n1 : Int)) := by omega
  have hb2 : (cap' = i1) = False := by simp; omega
  have hb3 : (cap' = i) = False := by simp; omega
  have hb4 : (cap = i) = False := by simp; omega
  have hb5 : (i : Int) ≤ n := by omega
  have hb6 : (i : Int) ≤ n1 := by omega
  have hb7 : (i1 : Int) ≤ n1 := by omega
  have hb8 : (i : Int) ≤ cap := by omega
  have hb9 : (n1 : Int) ≤ cap' := by omega
  clear hfin hC2 hlenF hins hsh hW1g hC1l hW1 hC1 hcl htake hcs hg hD hu hn hi1 hn1 hm hold htki hcl' hcs' htk' hgn hgr hZ hnb
  go_enter Tryz.func184, Tryz.ntmps184
  go_wp2_with (first
    | (at_builtin; refine wpl_run_append rfl _ _ 84 3 rfl _ _ rfl rfl hrun ?_)
    | (at_builtin; refine wpList_copy_runI _ rfl _ _ 84 84 rfl _ _ rfl rfl (hcp1 _ _) ?_)
    | fail)
  go_region_law_o (refine step_copy_runI rfl _ _ 84 84 rfl _ _ (by simp [Act.eval, Act.put]) (by simp [Act.eval, Act.put]) (hcp2 _ _ _) ?_)
  go_wp2
  go_ret
  exact HF.out

end Go.Proofs.YteioacpfphigjaaGreatDoor
end

section
namespace Go.Proofs.YteioacpfphigjaaGreatDoor
open Go.RowKit
set_option linter.unusedVariables false
set_option linter.unusedSimpArgs false

/-- 'append' where there is room. -/
theorem run_app_fitsT (w : World) (ty : TypeId) (g n cap m c : Nat) (ad : Addr) (news : List Value) (cur : Array Value) (t : TypeId) (hg : w.heap[g]? = some (.cells cur t (0, 0))) (hroom : n + m ≤ cap) (hcs : cur.size = cap * 36)
    (hl : news.length = m * 36) (hnews : ∀ j u, news[j]? = some u → w.cell? (ad.add j) = some u) (h1 : ∀ u ∈ news, u.oneCell' = true) :
    (Builtin.append_ #[84, 84] ty #[.slice (some ⟨g, 0, none⟩) n cap, .slice (some ad) m c]).run Tryz.prog w = .ok (.slice (some ⟨g, 0, none⟩) (n + m) cap) (w.setRow g (cur.toList.take (n * 36) ++ news ++ cur.toList.drop (n * 36 + news.length)).toArray) := by
  obtain ⟨i0, hi, hz⟩ := Option.map_eq_some_iff.1 infoT
  simp only [Prod.mk.injEq] at hz
  obtain ⟨-, hsize, hby⟩ := hz
  have hld := run_loadCells_list (P := Tryz.prog) w ad news hnews
  rw [hl] at hld
  have hst := run_storeCells_at Tryz.prog g (n * 36) t news 0 cur w hg (by simp; omega) h1
  simp only [Nat.add_zero] at hst
  simp [Builtin.append_, run_underlying Tryz.underlying84, sizeOf, typeInfo, hi, hsize, Builtin.lenOf, Builtin.firstCells, hroom, hld, Addr.add_lit, hst]
theorem step_append_runT {ops : Array Oper} {o : Oper} {a : Act} {w : World} {K : Act → World → Prop} {Q : Exit → Act → World → Prop} {E : Prop}
    (hg : o.guard = none) (d x : Operand) (dT sT : TypeId) (hop : o.op = Op.call { callee := Callee.builtin Builtin.append, args := #[d, x], argTypes := #[dT, sT] })
    (v u : Value) (hd : a.eval d = v) (hx : a.eval x = u) {v' : Value} {w' : World} (hr : (Builtin.append_ #[dT, sT] o.type #[v, u]).run Tryz.prog w = .ok v' w') (hK : K (a.put o.dst v') w') :
    if Region.wanted o (yielded ops a.tmps) = true then Oper.wp Tryz.prog o a w K Q else E := by
  have hw : Region.wanted o (yielded ops a.tmps) = true := by simp [Region.wanted, hg]
  rw [if_pos hw]
  unfold Oper.wp
  simp [execOp, hop, resolve, invoke, builtin, hd, hx, hr, Result.andThen]
  exact hK

/-- Tasks of which some were taken away. -/
def delAt (ts : List Tk) (i j : Nat) : List Tk := ts.take i ++ ts.drop j
def Left (B : Nat) (v : Value) (ts : List Tk) (w : World) (e : Ending) (w' : World) : Prop :=
  ∃ v', e = .returned v' ∧ OwnT B v' ts w' ∧ w.grownBy w' v.ownBlock ∧ v'.ownBlock = v.ownBlock

set_option maxHeartbeats 4000000 in
set_option maxRecDepth 100000 in
theorem delete_some (B : Nat) (ts : List Tk) (i j g cap : Nat) (cur : Array Value) (w : World) (hij : i < j) (hj : j ≤ ts.length) (hg : w.heap[g]? = some (.cells cur 87 (0, 0))) (hBg : B ≤ g) (hnc : ts.length ≤ cap) (hm : cap ≤ maxLen) (hcs : cur.size = cap * 36) (htake : cur.toList.take (ts.length * 36) = Tc ts) (hl : ts.length ≤ 900) :
    Calls Tryz.prog 107 #[.slice (some ⟨g, 0, none⟩) ts.length cap, .int .i64 (i : Nat), .int .i64 (j : Nat)] w (Left B (.slice (some ⟨g, 0, none⟩) ts.length cap) (delAt ts i j) w) := by
  obtain ⟨n, hn⟩ : ∃ n, n = ts.length := ⟨_, rfl⟩
  rw [← hn] at hj htake hl hnc ⊢
  have mixed : Tryz.prog.follows .mixedOrders = true := by kernel_rfl
  have hcl : cur.toList.length = cap * 36 := by simpa using hcs
  have hz2 : ((i : Int) = (j : Int)) = False := by simp; omega
  have hD : (Tc (ts.drop j)).length = (n - j) * 36 := by rw [Tc_len, List.length_drop, ← hn]
  have hT : (Tc (ts.take i)).length = i * 36 := by rw [Tc_len, List.length_take]; omega
  obtain ⟨C1, hC1⟩ : ∃ C1, C1 = cur.toList.take (i * 36) ++ Tc (ts.drop j) ++ cur.toList.drop (i * 36 + (Tc (ts.drop j)).length) := ⟨_, rfl⟩
  have hC1l : C1.length = cap * 36 := by rw [hC1, take_setRow _ _ _ (by omega), hcl, hD]; omega
  have htki : cur.toList.take (i * 36) = Tc (ts.take i) := by
    rw [← Tc_take, ← htake, List.take_take, Nat.min_eq_left (by omega)]
  obtain ⟨n', hn'⟩ : ∃ n', n' = i + (n - j) := ⟨_, rfl⟩
  have hC1t : C1.take (n' * 36) = Tc (delAt ts i j) := by
    rw [hC1, htki, List.take_append_of_le_length (by rw [List.length_append, hT, hD]; omega), List.take_of_length_le (by rw [List.length_append, hT, hD]; omega)]
    unfold delAt
    rw [Tc_append]
  have hdl : (delAt ts i j).length = n' := by unfold delAt; rw [List.length_append, List.length_take, List.length_drop, ← hn]; omega
  obtain ⟨W1, hW1⟩ : ∃ W1, W1 = w.drew.setRow g C1.toArray := ⟨_, rfl⟩
  have hW1g : W1.heap[g]? = some (.cells C1.toArray 87 (0, 0)) := by rw [hW1]; exact setRow_heap w.drew g _ _ _ _ hg
  have hrd : ∀ k u, (Tc (ts.drop j))[k]? = some u → w.drew.cell? ⟨g, j * 36 + k, none⟩ = some u := fun k u hk => by
    have hkl := (List.getElem?_eq_some_iff.1 hk).1
    rw [hD] at hkl
    rw [← Tc_drop, ← htake, List.getElem?_drop, List.getElem?_take_of_lt (by omega)] at hk
    show w.cell? _ = _
    rw [World.cell?, hg]; simpa using hk
  have hap : ∀ ty, (Builtin.append_ #[84, 84] ty #[.slice (some ⟨g, 0, none⟩) i cap, .slice (if cap = j then some ⟨g, 0, none⟩ else some ⟨g, j * 36, none⟩) (n - j) (cap - j)]).run Tryz.prog w.drew = .ok (.slice (some ⟨g, 0, none⟩) n' cap) W1 := fun ty => by
    rw [hW1, hC1, hn']
    by_cases hcj : cap = j
    · rw [if_pos hcj]
      have h0 : Tc (ts.drop j) = [] := List.eq_nil_of_length_eq_zero (by rw [hD]; omega)
      rw [h0]
      exact run_app_fitsT w.drew ty g i cap (n - j) (cap - j) ⟨g, 0, none⟩ [] cur 87 hg (by omega) hcs (by simp; omega) (fun k u hk => by simp at hk) (fun u hu => by cases hu)
    · rw [if_neg hcj]
      exact run_app_fitsT w.drew ty g i cap (n - j) (cap - j) ⟨g, j * 36, none⟩ _ cur 87 hg (by omega) hcs hD (fun k u hk => by rw [Addr.add_mid]; exact hrd k u hk) (Tc_ones _)
  have hfin : ∀ Z : List Value, Z.length = (n - n') * 36 → Left B (.slice (some ⟨g, 0, none⟩) n cap) (delAt ts i j) w (.returned (.slice (some ⟨g, 0, none⟩) n' cap)) (W1.setRow g (C1.take (n' * 36) ++ Z ++ C1.drop (n' * 36 + (n - n') * 36)).toArray) := fun Z hZ => by
    refine ⟨_, rfl, ?_, ?_, rfl⟩
    · unfold OwnT
      rw [hdl]
      refine ⟨by rw [Tc_len, hdl], .inr ⟨g, cap, _, rfl, hBg, setRow_heap W1 g _ _ _ _ hW1g, by omega, hm, ?_, ?_⟩⟩
      · rw [List.size_toArray, ← hZ, take_setRow _ _ _ (by omega), hC1l]; omega
      · simp only [List.append_assoc]
        rw [List.take_append_of_le_length (by rw [List.length_take]; omega), List.take_of_length_le (by rw [List.length_take]; omega), hC1t]
    · rw [hW1]
      exact ⟨rfl, rfl, rfl, by simp, fun k hk hr => by
        have hne : k ≠ g := fun e => hr (by rw [e]; rfl)
        rw [setRow_other _ g k _ hne, setRow_other _ g k _ hne]; rfl⟩
  have HF := Lib.hid hfin
  have HG1 := Lib.hid hW1g
  have HC := Lib.hid (show n' * 36 + (n - n') * 36 ≤ C1.toArray.size by rw [List.size_toArray, hC1l]; omega)
  have hb1 : (i : Int) ≤ j := by omega
  have hb2 : (j : Int) ≤ n := by omega
  have hb3 : (n : Int) ≤ cap := by omega
  have hb4 : (i : Int) ≤ cap := by omega
  have hb5 : (n' : Int) ≤ n := by omega
  have hb6 : (cap = n') = False := by simp; omega
  have hb7 : (j : Int) ≤ cap := by omega
  have hb8 : (i : Int) ≤ n := by omega
  clear hfin hW1g hW1 hC1t htki hC1l hC1 hT hD hcl htake hcs hg hn hdl hn' hrd
  by_cases hcj : cap = j
  · rw [if_pos hcj] at hap
    subst hcj
    rw [Nat.sub_self, Nat.sub_eq_zero_of_le hnc] at hap
    go_enter Tryz.func107, Tryz.ntmps107
    go_wp2
    go_region_law_o (refine step_append_runT rfl _ _ 84 84 rfl _ _ (by simp [Act.eval, Act.put]) (by simp [Act.eval, Act.put]) (hap _) ?_)
    go_wp2_with (first | (at_builtin; fail) | (refine wpl_clearT _ g (n' * 36) (n - n') (cap - n') C1.toArray 87 rfl rfl rfl HG1.out HC.out ?_; intro Z hZ) | fail)
    go_ret
    have hlast := HF.out Z hZ
    rw [List.append_assoc] at hlast
    exact hlast
  · rw [if_neg hcj] at hap
    have hcf : (cap = j) = False := by simp [hcj]
    go_enter Tryz.func107, Tryz.ntmps107
    go_wp2
    go_region_law_o (refine step_append_runT rfl _ _ 84 84 rfl _ _ (by simp [Act.eval, Act.put]) (by simp [Act.eval, Act.put]) (hap _) ?_)
    go_wp2_with (first | (at_builtin; fail) | (refine wpl_clearT _ g (n' * 36) (n - n') (cap - n') C1.toArray 87 rfl rfl rfl HG1.out HC.out ?_; intro Z hZ) | fail)
    go_ret
    have hlast := HF.out Z hZ
    rw [List.append_assoc] at hlast
    exact hlast

set_option maxHeartbeats 4000000 in
set_option maxRecDepth 100000 in
theorem delete_none (B : Nat) (v : Value) (ts : List Tk) (i : Nat) (w : World) (hown : OwnT B v ts w) (hi : i ≤ ts.length) :
    Calls Tryz.prog 107 #[v, .int .i64 (i : Nat), .int .i64 (i : Nat)] w (Left B v ts w) := by
  have HF := Lib.hid (⟨v, rfl, hown, ⟨rfl, rfl, rfl, Nat.le_refl _, fun _ _ _ => rfl⟩, rfl⟩ : Left B v ts w (.returned v) w)
  rcases hown.2 with ⟨rfl, h2⟩ | ⟨g, cap, cur, rfl, -, -, hnc, -⟩
  · have hi0 : i = 0 := by omega
    subst hi0
    clear hown
    go_enter Tryz.func107, Tryz.ntmps107
    go_wp2
    go_ret
    exact HF.out
  · have hb1 : (i : Int) ≤ ts.length := by omega
    have hb2 : (ts.length : Int) ≤ cap := by omega
    clear hown
    by_cases hin : i = ts.length
    · subst hin
      go_enter Tryz.func107, Tryz.ntmps107
      go_wp2
      go_ret
      exact HF.out
    · have hcf : (ts.length = i) = False := by simp; omega
      go_enter Tryz.func107, Tryz.ntmps107
      go_wp2
      go_ret
      exact HF.out
/-- slices.Delete of tasks. -/
theorem delete_ts (B : Nat) (v : Value) (ts : List Tk) (i j : Nat) (w : World) (hown : OwnT B v ts w) (hij : i ≤ j) (hj : j ≤ ts.length) (hl : ts.length ≤ 900) :
    Calls Tryz.prog 107 #[v, .int .i64 (i : Nat), .int .i64 (j : Nat)] w (Left B v (delAt ts i j) w) := by
  by_cases he : i = j
  · subst he
    have := delete_none B v ts i w hown hj
    have e : delAt ts i i = ts := List.take_append_drop i ts
    rwa [e]
  · rcases hown.2 with ⟨rfl, h2⟩ | ⟨g, cap, cur, rfl, hBg, hg, hnc, hm, hcs, ht⟩
    · omega
    · exact delete_some B ts i j g cap cur w (by omega) hj hg hBg hnc hm hcs ht hl

theorem nil_in_some (a : Addr) (n c d : Nat) (w : World) : (Op.equalIn (d + 1) 84 (.slice (some a) n c) (.slice none 0 0)).run Tryz.prog w = .ok false w := by
  simp [Op.equalIn, run_underlying Tryz.underlying84]
theorem nil_in_none (d : Nat) (w : World) : (Op.equalIn (d + 1) 84 (.slice none 0 0) (.slice none 0 0)).run Tryz.prog w = .ok true w := by
  simp [Op.equalIn, run_underlying Tryz.underlying84]
theorem eql_slice_run (u v : Value) (a b : Option Addr) (n c m k : Nat) (hu : u = .slice a n c) (hv : v = .slice b m k) (w : World) (r : Bool) (h : ∀ d, (Op.equalIn (d + 1) 84 u v).run Tryz.prog w = .ok r w) : (binOp .eql 84 u v).run Tryz.prog w = .ok (.bool r) w := by
  subst hu; subst hv
  have h2 := h 9999
  rw [show (9999 + 1 : Nat) = 10000 from rfl] at h2
  simp only [binOp]
  simp [Op.equal, Op.maxDepth, h2]
theorem nil_eql_some (a : Addr) (n c : Nat) (w : World) : (binOp .eql 84 (.slice (some a) n c) (.slice none 0 0)).run Tryz.prog w = .ok (.bool false) w :=
  eql_slice_run _ _ _ _ _ _ _ _ rfl rfl w false fun d => nil_in_some a n c d w
theorem nil_eql_none (w : World) : (binOp .eql 84 (.slice none 0 0) (.slice none 0 0)).run Tryz.prog w = .ok (.bool true) w :=
  eql_slice_run _ _ _ _ _ _ _ _ rfl rfl w true fun d => nil_in_none d w
set_option maxHeartbeats 4000000 in
set_option maxRecDepth 100000 in
/-- slices.Clone of tasks. -/
theorem clone_ts (v : Value) (ts : List Tk) (w : World) (hr : RdT w v ts) (hl : ts.length ≤ 900) :
    Calls Tryz.prog 169 #[v] w fun e w' => ∃ v', e = .returned v' ∧ OwnT w.heap.size v' ts w' ∧ Below w.heap.size w w' := by
  have HR := Lib.hid hr
  have NS := nil_eql_some
  have NN := nil_eql_none
  rcases hr with ⟨rfl, rfl⟩ | ⟨b, off, cap, rfl, hc, -⟩
  · go_enter Tryz.func169, Tryz.ntmps169
    go_wp2
    go_ret
    exact ⟨_, rfl, OwnT.nil _ _, Below.refl _ _⟩
  · go_enter Tryz.func169, Tryz.ntmps169
    have HOWN := Lib.hid (show OwnT w.heap.size (.slice (some ⟨w.heap.size, 0, none⟩) 0 0) [] (w.alloc (.cells #[] 87)) from ⟨rfl, .inr ⟨w.heap.size, 0, #[], rfl, Nat.le_refl _, heap_alloc_new w _, Nat.le_refl _, by simp, rfl, rfl⟩⟩)
    have HRR := Lib.hid (HR.out.below ((Below.refl w.heap.size w).alloc (Nat.le_refl _) (.cells #[] 87)))
    have HL := Lib.hid hl
    clear hl hc
    go_wp2_with (first | (at_builtin; refine wp_app_T (B := w.heap.size) (xs := []) rfl rfl rfl rfl HOWN.out HRR.out (by have := HL.out; simp; omega) (by simp) ?_; intro v1 w1 ho1 hb1 hs1 hg1 hn1; have HO1 := Lib.hid ho1; have HB1 := Lib.hid hb1; clear ho1 hb1 hs1 hg1 hn1) | fail)
    go_ret
    exact ⟨v1, rfl, HO1.out, ((Below.refl w.heap.size w).alloc (Nat.le_refl _) _).trans HB1.out⟩
end Go.Proofs.YteioacpfphigjaaGreatDoor
end
