/-
  Joined texts.
-/
import Derived.Laws.MakeOwn
import Derived.BigRegion
import Derived.RegionTactic
import Derived.StillTailTactics
import Derived.Deep.Slices
import Derived.Test.YteioacpfphigjaaGreatMzf

section
namespace Go.Proofs.YteioacpfphigjaaGreat
open Go.RowKit Go.Maps Go.Shelf
set_option linter.unusedVariables false
set_option linter.unusedSimpArgs false

theorem wpIn_meetF {n : Nat} {P : Program} {c : Code} {K : Act → World → Prop} {Q : Exit → Act → World → Prop} {a fr : Act} {w : World} {S : World → Prop} (h : c.wp P (Exit.then (fun a w => a = fr ∧ S w) (fun _ _ _ => False)) a w) (hK : ∀ w, S w → K fr w) : c.wpIn Fence.wide n P (Exit.then K Q) a w :=
  region_meet h (fun a w ⟨e, hs⟩ => by rw [e]; exact hK w hs)
theorem below_end {w2 W3 : World} {D : Nat} {o : Obj} (hon : Only (fun _ => False) (fun _ => False) w2 W3) (hD : w2.heap.size ≤ D) : Below w2.heap.size w2 (W3.putObj D o) := by
  refine ⟨hon.grow.os, hon.grow.tape, hon.grow.output, by have h1 := hon.grow.size; simp [World.putObj]; omega, fun k hk => ?_⟩
  rw [put_other (by omega)]
  exact hon.block k hk (fun h => h) (fun h => h)
def appEv (args : Array Value) : Sem Value := Builtin.append_ #[69, 69] 69 args
theorem appEv_hide (args : Array Value) : Builtin.append_ #[69, 69] 69 args = appEv args := rfl
theorem run_appEv_none (w : World) : (appEv #[.slice none 0 0, .slice none 0 0]).run Tryz.prog w = .ok (.slice none 0 0) w := by kernel_rfl
theorem chain_Now {c : Nat} {now : Int} {w : World} (hc : w.cell? ⟨c, 5, none⟩ = some (.int .i64 now)) : Calls Tryz.prog 6 #[.pointer (some ⟨c, 0, none⟩)] w fun e w' => e = .returned (.int .i64 now) ∧ w' = w := by
  go_enter Tryz.func6, Tryz.ntmps6
  go_wp2
  exact bodyPost_ret (v := .int .i64 now) (by simp [results, Tryz.results6, go_sem]) rfl ⟨rfl, rfl⟩
theorem bound_Next {now : Int} (h0 : 0 ≤ now) (h1 : now < 1073741824) (w : World) : Calls Tryz.prog 34 #[.int .i64 now] w fun e w' => e = .returned (.tuple #[.int .i64 (now + 1), .bool true]) ∧ w' = w := by
  have W1 : IntKind.i64.wrap (now + 1) = now + 1 := IntWalk.i64_in _ (by omega)
  go_enter Tryz.func34, Tryz.ntmps34
  go_wp2
  exact bodyPost_ret (v := .tuple #[.int .i64 (now + 1), .bool true]) (by simp [results, Tryz.results34, go_sem]) rfl ⟨rfl, rfl⟩
section
variable {N c g gl vb r gb pb ab : Nat} {F : FP} {A : Acc} {ts : List Trk} {now : Int} {w : World}
theorem ChAt.cells (h : ChAt N c g gl vb r gb pb ab F A ts now w) : w.cell? ⟨c, 0, none⟩ = some (.pointer (some ⟨g, 0, none⟩)) ∧ w.cell? ⟨c, 1, none⟩ = some (.pointer (some ⟨vb, 0, none⟩)) ∧ w.cell? ⟨c, 2, none⟩ = some (.pointer (some ⟨r, 0, none⟩)) ∧ w.cell? ⟨c, 4, none⟩ = some (.pointer (some ⟨ab, 0, none⟩)) ∧ w.cell? ⟨c, 5, none⟩ = some (.int .i64 now) ∧ w.frozen? ⟨c, 5, none⟩ = false :=
  ⟨by rw [World.cell?, h.blk]; rfl, by rw [World.cell?, h.blk]; rfl, by rw [World.cell?, h.blk]; rfl, by rw [World.cell?, h.blk]; rfl, by rw [World.cell?, h.blk]; rfl, by rw [World.frozen?, h.blk]; rfl⟩
theorem ChAt.tick (h : ChAt N c g gl vb r gb pb ab F A ts now w) (n : Int) : ChAt N c g gl vb r gb pb ab F A ts n (w.setCell ⟨c, 5, none⟩ (.int .i64 n)) := by
  have ho : ∀ k, k ≠ c → (w.setCell ⟨c, 5, none⟩ (.int .i64 n)).heap[k]? = w.heap[k]? := fun k hk => Below.heap_setCell _ _ _ k hk
  refine ⟨?_, (ho g (by have := h.lg.1; omega)).trans h.ld, h.re.keep (by simp [World.setCell]) (fun k hk _ => ho k (by have := h.fp k hk; omega)), (ho ab (by have := h.lg.2; omega)).trans h.ag, h.fp, h.lg, h.lo⟩
  simp [World.setCell, Array.getElem?_modify, h.blk]
end
attribute [local go_sem ↓] appEv_hide
set_option maxHeartbeats 4000000 in
set_option maxRecDepth 100000 in
theorem chain_Block0 {N c g gl vb r gb pb ab : Nat} {F : FP} {A : Acc} {ts : List Trk} {now : Int} {w : World} (h : ChAt N c g gl vb r gb pb ab F A ts now w) (h0 : 0 ≤ now) (h1 : now < 1000000000) :
    Calls Tryz.prog 18 #[.pointer (some ⟨c, 0, none⟩)] w fun e w' => e = .returned (.slice none 0 0) ∧ ChAt N c g gl vb r gb pb ab F A ts (now + 1) w' ∧ Below N w w' ∧ ∀ k, k < w.heap.size → k ≠ c → w'.heap[k]? = w.heap[k]? := by
  refine (callsIn_wide (n := 2)).1 ?_
  obtain ⟨W0, hW0⟩ : ∃ W0, W0 = w.alloc (.cells #[.pointer (some ⟨c, 0, none⟩)] 24) := ⟨_, rfl⟩
  obtain ⟨p1, hp1⟩ : ∃ p1, p1 = w.heap.size := ⟨_, rfl⟩
  have hb0 : Below w.heap.size w W0 := by rw [hW0]; exact (Below.refl _ w).alloc (Nat.le_refl _) _
  have x1 : Boxed W0 p1 24 (.pointer (some ⟨c, 0, none⟩)) := by rw [hW0, hp1]; exact Boxed.new w _ _
  have hch0 := h.below hb0
  have hcl : c < w.heap.size := (Array.getElem?_eq_some_iff.1 h.blk).1
  obtain ⟨W1, hW1⟩ : ∃ W1, W1 = W0.setCell ⟨c, 5, none⟩ (.int .i64 (now + 1)) := ⟨_, rfl⟩
  have hch1 : ChAt N c g gl vb r gb pb ab F A ts (now + 1) W1 := by rw [hW1]; exact hch0.tick _
  have x1' : Boxed W1 p1 24 (.pointer (some ⟨c, 0, none⟩)) := by rw [hW1]; exact (Below.heap_setCell _ _ _ p1 (by show p1 ≠ c; omega)).trans x1
  have hbN : Below N w W1 := by rw [hW1]; exact (hb0.mono (by have := h.lo; omega)).trans ⟨rfl, rfl, rfl, by simp [World.setCell], fun k hk => Below.heap_setCell _ _ _ k (by show k ≠ c; have := h.lo; omega)⟩
  have hsz1 : w.heap.size ≤ W1.heap.size := hbN.size
  have hoff : ∀ k, k < w.heap.size → k ≠ c → W1.heap[k]? = w.heap[k]? := fun k hk hne => by rw [hW1, Below.heap_setCell _ _ _ k hne]; exact hb0.block k hk
  have HOFF := Lib.hid (And.intro hsz1 hoff)
  have hkeep : ∀ W, Below W1.heap.size W1 W → ChAt N c g gl vb r gb pb ab F A ts (now + 1) W ∧ W.cell? ⟨p1, 0, none⟩ = some (.pointer (some ⟨c, 0, none⟩)) := fun W hb => ⟨hch1.below hb, boxed_later x1' hb⟩
  obtain ⟨k0, k1, k2, k4, k5, f5⟩ := hch0.cells
  have cp := x1.cell
  have HK := Lib.hid hkeep
  have HN0 := Lib.hid (And.intro h0 h1)
  have HW0 := Lib.hid hW0
  have HW1 := Lib.hid hW1
  have HP1 := Lib.hid (And.intro hp1 (And.intro hcl hbN))
  have HLO := Lib.hid h.lo
  rw [hW0] at k0 k1 k2 k4 k5 f5 cp
  rw [hp1] at cp
  clear h hb0 x1 hch0 hcl hch1 x1' hbN hsz1 hoff hkeep hW1 h0 h1
  refine callsIn_of_wp_marks Tryz.func18 rfl trivial ?_ rfl
  simp only [Tryz.ntmps18, List.size_toArray, List.length_cons, List.length_nil, Nat.reduceAdd, Nat.reduceSub, Array.replicate_succ, Array.replicate_zero, List.push_toArray, List.append_toArray, List.nil_append, List.cons_append]
  clear hW0 hp1
  gi_wp2_with (first
    | (refine ⟨trivial, ?_⟩; gi_at_call 6; refine (callsIn_wide.2 (chain_Now k5)).mono ?_; rintro e w' ⟨rfl, hw⟩; rw [hw]; clear hw w')
    | (gi_at_call 6; refine (callsIn_wide.2 (chain_Now k5)).mono ?_; rintro e w' ⟨rfl, hw⟩; rw [hw]; clear hw w')
    | (refine ⟨trivial, ?_⟩; gi_at_call 34; refine (callsIn_wide.2 (bound_Next HN0.out.1 (by have := HN0.out.2; omega) _)).mono ?_; rintro e w' ⟨rfl, hw⟩; rw [hw]; clear hw w')
    | (gi_at_call 34; refine (callsIn_wide.2 (bound_Next HN0.out.1 (by have := HN0.out.2; omega) _)).mono ?_; rintro e w' ⟨rfl, hw⟩; rw [hw]; clear hw w')
    | fail)
  rw [← HW0.out, ← HW1.out, ← HP1.out.1]
  clear k0 k1 k2 k4 k5 f5 cp
  have hk3 : ∀ W, Below W1.heap.size W1 W → W.cell? ⟨p1, 0, none⟩ = some (.pointer (some ⟨c, 0, none⟩)) ∧ W.cell? ⟨c, 0, none⟩ = some (.pointer (some ⟨g, 0, none⟩)) ∧ W.cell? ⟨c, 1, none⟩ = some (.pointer (some ⟨vb, 0, none⟩)) ∧ W.cell? ⟨c, 2, none⟩ = some (.pointer (some ⟨r, 0, none⟩)) ∧ W.cell? ⟨c, 4, none⟩ = some (.pointer (some ⟨ab, 0, none⟩)) ∧ W.cell? ⟨c, 5, none⟩ = some (.int .i64 (now + 1)) := fun W hb => by
    obtain ⟨h1, h2⟩ := HK.out W hb
    obtain ⟨k0, k1, k2, k4, k5, f5⟩ := h1.cells
    exact ⟨h2, k0, k1, k2, k4, k5⟩
  have H3 := Lib.hid hk3
  clear hk3
  have HAG := Lib.hid (HK.out W1.drew (Below.refl _ W1).drew).1.ag
  apply wpIn_meetF (S := fun wc => Below W1.heap.size W1 wc)
  case h =>
    go_region_held3 (fun w' => w'.cell? ⟨p1, 0, none⟩ = some (.pointer (some ⟨c, 0, none⟩)) ∧ w'.cell? ⟨c, 0, none⟩ = some (.pointer (some ⟨g, 0, none⟩)) ∧ w'.cell? ⟨c, 1, none⟩ = some (.pointer (some ⟨vb, 0, none⟩)) ∧ w'.cell? ⟨c, 2, none⟩ = some (.pointer (some ⟨r, 0, none⟩)) ∧ w'.cell? ⟨c, 4, none⟩ = some (.pointer (some ⟨ab, 0, none⟩)) ∧ w'.cell? ⟨c, 5, none⟩ = some (.int .i64 (now + 1))) (first | exact H3.out _ (Below.refl _ W1).drew | exact H3.out _ HB2.out) (first | (go_at_call 35; refine (Due_none _ _ _ HAG.out).mono ?_; rintro e w2 ⟨rfl, hb⟩; have HB2 := Lib.hid (show Below W1.heap.size W1 w2 from ((Below.refl _ W1).drew).trans hb); clear hb) | fail)
    all_goals exact ⟨rfl, HB2.out⟩
  case hK =>
  intro w2 hb2
  have HB2 := Lib.hid hb2
  have HRE := Lib.hid (HK.out w2.drew (hb2.trans (((Below.refl _ w2).drew).mono hb2.size))).1.re
  clear hb2 HAG
  gi_wp2_with fail
  gi_loopw [5, 36] (fun e a wr => e = .slice none 0 0 ∧ a = .int .i64 0 ∧ wr = w2) (fun _ _ _ => 0)
  case atStart => exact ⟨rfl, rfl, rfl⟩
  case round =>
  obtain ⟨rfl, rfl, rfl⟩ := hrel
  obtain ⟨w2, hw2⟩ : ∃ w2, w2 = wr := ⟨_, rfl⟩
  subst hw2
  gi_wp2_with fail
  apply wpIn_meetF (S := fun wc => Below W1.heap.size W1 wc)
  case h =>
    go_region_held3 (fun w' => w'.cell? ⟨p1, 0, none⟩ = some (.pointer (some ⟨c, 0, none⟩)) ∧ w'.cell? ⟨c, 0, none⟩ = some (.pointer (some ⟨g, 0, none⟩)) ∧ w'.cell? ⟨c, 1, none⟩ = some (.pointer (some ⟨vb, 0, none⟩)) ∧ w'.cell? ⟨c, 2, none⟩ = some (.pointer (some ⟨r, 0, none⟩)) ∧ w'.cell? ⟨c, 4, none⟩ = some (.pointer (some ⟨ab, 0, none⟩)) ∧ w'.cell? ⟨c, 5, none⟩ = some (.int .i64 (now + 1))) (first | exact H3.out _ (HB2.out.trans (((Below.refl _ w2).drew).mono HB2.out.size)) | exact H3.out _ HB3.out) (first | (go_at_call 37; refine (service0 HRE.out _ _ _).mono ?_; rintro e w3 ⟨rfl, hb⟩; have HB3 := Lib.hid (show Below W1.heap.size W1 w3 from HB2.out.trans ((((Below.refl _ w2).drew).trans hb).mono HB2.out.size)); have RA := run_appEv_none w3; clear hb) | fail)
    all_goals exact ⟨rfl, HB3.out⟩
  case hK =>
  intro w3 hb3
  have HB3 := Lib.hid hb3
  clear hb3
  obtain ⟨eb, heb⟩ : ∃ eb, eb = w3.heap.size := ⟨_, rfl⟩
  gi_wp2_with (first
    | (refine ⟨trivial, ?_⟩; gi_at_call 38; refine (callsIn_wide.2 (chain_ended none 0 0 w3)).mono ?_; rintro e w4 ⟨rfl, hw4⟩)
    | (gi_at_call 38; refine (callsIn_wide.2 (chain_ended none 0 0 w3)).mono ?_; rintro e w4 ⟨rfl, hw4⟩)
    | fail)
  have hb4 : Below w3.heap.size w3 w4 := by rw [hw4]; exact (Below.refl _ w3).alloc (Nat.le_refl _) _
  have xe : Boxed w4 eb 69 (.slice none 0 0) := by rw [hw4, heb]; exact Boxed.new w3 _ _
  rw [← hw4, ← heb]
  have hb14 := HB3.out.trans (hb4.mono HB3.out.size)
  have hit := ended_iter 0 eb none 0 w4 xe (fun k => k < w4.heap.size) xe.lt
  clear hw4 heb
  refine range_outer (n := 0) (gf := 56) (lb := #[.pointer (some ⟨eb, 0, none⟩)]) rfl enters_ended hit (Grow.refl _) (fun k hk => ⟨hk, rfl⟩) (fun x => x.elim)
    (fun _ => False) (fun _ h => h.elim) (KeepJ w4) (fun _ _ _ _ => False) (KeepJ.stab w4) (fun c _ _ _ h => h.elim)
    ⟨fun _ h => h, fun _ _ => rfl, Nat.le_refl _⟩
    (fun x => x.elim) ?assign ?body ?done ?stop
  case assign =>
    intro l x
    exact x.elim
  case body =>
    intro l pre x
    exact x.elim
  case stop =>
    rintro D Φ c pre W3 hpre h
    exact h.elim
  case done =>
    rintro D Φ W3 ⟨hΦ, hk3, hz⟩ hon hD hnD hK
    have HD := Lib.hid (And.intro hon (And.intro hD (And.intro hK hb14)))
    clear hΦ hk3 hz hon hD hnD hK hit xe hb4 hb14
    gi_wp2_with fail
    obtain ⟨hon, hD, hK, hb14⟩ := HD.out
    refine ⟨by simp, .inl ⟨_, _, rfl, run_takeDeferred hK, ?_⟩⟩
    have hend := hb14.trans ((below_end (o := .deferred none) hon hD).mono hb14.size)
    refine ⟨.slice none 0 0, by simp [results, Tryz.results18, go_sem], rfl, (HK.out _ hend).1, ?_⟩
    refine ⟨HP1.out.2.2.trans (hend.mono (by have := HP1.out.2.2.size; have := HP1.out.2.1; have := HLO.out; omega)), fun k hk hne => ?_⟩
    rw [hend.block k (by have := HOFF.out.1; omega)]
    exact HOFF.out.2 k hk hne
end Go.Proofs.YteioacpfphigjaaGreat
end

section
namespace Go.Proofs.YteioacpfphigjaaGreat
open Go.RowKit Go.Maps Go.Shelf
set_option linter.unusedVariables false
set_option linter.unusedSimpArgs false

theorem chain_Ledger {c g : Nat} {w : World} (hc : w.cell? ⟨c, 0, none⟩ = some (.pointer (some ⟨g, 0, none⟩))) : Calls Tryz.prog 19 #[.pointer (some ⟨c, 0, none⟩)] w fun e w' => e = .returned (.pointer (some ⟨g, 0, none⟩)) ∧ w' = w := by
  go_enter Tryz.func19, Tryz.ntmps19
  go_wp2
  exact bodyPost_ret (v := .pointer (some ⟨g, 0, none⟩)) (by simp [results, Tryz.results19, go_sem]) rfl ⟨rfl, rfl⟩
theorem free_cell {g k : Nat} (hk : k < 10) {v : Int} {w : World} (hc : w.cell? ⟨g, k * 2, none⟩ = some (.int .i64 v)) : Calls Tryz.prog 20 #[.pointer (some ⟨g, 0, none⟩), .int .i64 k] w fun e w' => e = .returned (.int .i64 v) ∧ w' = w := by
  have HK := Lib.hid hk
  clear hk
  go_enter Tryz.func20, Tryz.ntmps20
  go_wp2_with (first | (go_at_call 40; refine (ledger_account HK.out w).mono ?_; rintro e w' ⟨rfl, rfl⟩) | fail)
  exact bodyPost_ret (v := .int .i64 v) (by simp [results, Tryz.results20, go_sem]) rfl ⟨rfl, rfl⟩
set_option maxHeartbeats 4000000 in
set_option maxRecDepth 100000 in
theorem law14_known (w : World) : Calls Tryz.prog 7 #[] w fun e w' => e = .returned (.bool true) ∧ Below w.heap.size w w' := by
  go_enter Tryz.func7, Tryz.ntmps7
  go_wp2_with (first
    | (go_at_call 16; refine (law14_thousand _).mono ?_; rintro e w1 ⟨u, rfl, ho, hb⟩; have H1 := Lib.hid (And.intro ho hb); clear ho hb)
    | (go_at_call 17; refine (law14_tracks _).mono ?_; rintro e w2 ⟨tb, rfl, hr, hl, hlt, hb⟩; have H2 := Lib.hid (And.intro hr (And.intro hlt hb)); clear hr hl hlt hb)
    | (go_at_call 4; refine (chain_New0 (OwnN.readsI H1.out.1 |>.below H2.out.2.2) H2.out.1 H2.out.2.1).mono ?_; rintro e w3 ⟨c, g, gl, vb, r, gb, pb, ab, F, rfl, hch, hb⟩; have H3 := Lib.hid (And.intro hch hb); clear hch hb)
    | (go_at_call 18; refine (chain_Block0 H3.out.1 (by decide) (by decide)).mono ?_; rintro e w4 ⟨rfl, hch, hb, -⟩; have H4 := Lib.hid (And.intro hch hb); clear hch hb)
    | (go_at_call 6; refine (chain_Now H4.out.1.cells.2.2.2.2.1).mono ?_; rintro e w5 ⟨rfl, hw⟩; rw [hw]; clear hw w5)
    | (go_at_call 19; refine (chain_Ledger H4.out.1.cells.1).mono ?_; rintro e w5 ⟨rfl, hw⟩; rw [hw]; clear hw w5)
    | (go_at_call 20; refine (free_cell (k := 1) (by decide) (v := 1000) (cell_of H4.out.1.ld rfl)).mono ?_; rintro e w5 ⟨rfl, hw⟩; rw [hw]; clear hw w5)
    | fail)
  have h1 := H1.out.2
  have h2 := h1.trans (H2.out.2.2.mono h1.size)
  have h3 := h2.trans (H3.out.2.mono h2.size)
  exact bodyPost_ret (v := .bool true) (by simp [results, Tryz.results7, go_sem]) rfl ⟨rfl, h3.trans (H4.out.2.mono h2.size)⟩
end Go.Proofs.YteioacpfphigjaaGreat
end

section
namespace Go.Proofs.YteioacpfphigjaaGreat
open Go.RowKit Go.Maps
set_option linter.unusedVariables false
set_option linter.unusedSimpArgs false

theorem slices_CloneO {v : Value} {ts : List Trk} {w : World} {b o cap : Nat} (hr : w.rangeAt b o (trkR.all ts)) (hb : b < w.heap.size) (hc : ts.length ≤ cap) (hl : ts.length ≤ 1000) :
    Calls Tryz.prog 26 #[.slice (some ⟨b, o, none⟩) ts.length cap] w fun e w' => ∃ g c, e = .returned (.slice (some ⟨g, 0, none⟩) ts.length c) ∧ w.heap.size ≤ g ∧ OwnR trkR w.heap.size (.slice (some ⟨g, 0, none⟩) ts.length c) ts w' ∧ Below w.heap.size w w' := by
  have NS : ∀ (a : Addr) (n c : Nat) (w : World), (binOp .eql 23 (.slice (some a) n c) (.slice none 0 0)).run Tryz.prog w = .ok (.bool false) w := fun a n c w => by
    have h1 : ∀ d, (Op.equalIn (d + 1) 23 (.slice (some a) n c) (.slice none 0 0)).run Tryz.prog w = .ok false w := fun d => by simp [Op.equalIn, run_underlying Tryz.underlying23]
    have h2 := h1 9999
    rw [show (9999 + 1 : Nat) = 10000 from rfl] at h2
    simp only [binOp]
    simp [Op.equal, Op.maxDepth, h2]
  obtain ⟨n, hn⟩ : ∃ n, n = ts.length := ⟨_, rfl⟩
  have hrd : RdR trkR w (.slice (some ⟨b, o, none⟩) n cap) ts := by rw [hn]; exact .inr ⟨b, o, cap, rfl, hc, hb, hr⟩
  have hown : OwnR trkR w.heap.size (.slice (some ⟨w.heap.size, 0, none⟩) 0 0) [] (w.alloc (.cells #[] 85)) := OwnR.none (r := trkR) (World.alloc_heap_new w _) (Nat.le_refl _)
  have HRD := Lib.hid (hrd.below ((Below.refl _ w).alloc (Nat.le_refl _) (.cells #[] 85)))
  have HO := Lib.hid hown
  have HL := Lib.hid hl
  rw [← hn]
  have HN := Lib.hid hn
  clear hr hb hc hl hrd hown hn
  go_enter Tryz.func26, Tryz.ntmps26
  go_wp2_with (first
    | (refine wpl_noneR (r := trkR) rfl rfl ?_)
    | (refine wpl_appsR (r := trkR) (u := .slice (some ⟨b, o, none⟩) n cap) (v := .slice (some ⟨w.heap.size, 0, none⟩) 0 0) (xs := []) (ys := ts) rfl rfl rfl rfl HO.out HRD.out (by have := HL.out; simp; omega) (by simp) ?_; intro v1 w1 ho hg hat; have H1 := Lib.hid (And.intro ho (And.intro hg hat)); clear ho hg hat)
    | fail)
  have ho := H1.out.1
  rw [List.nil_append] at ho
  have hb1 : Below w.heap.size w w1 := Below.grown ((Below.refl _ w).alloc (Nat.le_refl _) _) H1.out.2.1 (by simp) (fun k hk => by have hk' : some w.heap.size = some k := hk; injection hk' with hk'; omega)
  rcases ho.2 with ⟨rfl, h0⟩ | ⟨g, c, cur, rfl, h1, -⟩
  · exfalso
    rcases H1.out.2.2 with e | e <;> cases e
  · rw [← HN.out] at ho ⊢
    exact bodyPost_ret (v := .slice (some ⟨g, 0, none⟩) n c) (by simp [results, Tryz.results26, go_sem]) rfl ⟨g, c, rfl, h1, ho, hb1⟩
set_option maxRecDepth 100000 in
set_option maxHeartbeats 4000000 in
theorem refer_NewO {ts : List Trk} {w : World} {b o cap : Nat} (hr : w.rangeAt b o (trkR.all ts)) (hb : b < w.heap.size) (hc : ts.length ≤ cap) (hl : ts.length ≤ 100) :
    Calls Tryz.prog 9 #[.slice (some ⟨b, o, none⟩) ts.length cap] w fun e w' => Below w.heap.size w w' ∧ ((newB ts = true ∧ ∃ r gb, e = .returned (.tuple #[.pointer (some ⟨r, 0, none⟩), .int .i64 0]) ∧ ReG (fun k => w.heap.size ≤ k) r gb ts w') ∨ (newB ts = false ∧ e = .returned (.tuple #[.pointer none, .int .i64 1]))) := by
  obtain ⟨n, hn⟩ : ∃ n, n = ts.length := ⟨_, rfl⟩
  rw [← hn] at hc hl ⊢
  have HR := Lib.hid (And.intro hr (And.intro hb (And.intro hc hn)))
  clear hr hb hc
  by_cases hlen : 1 ≤ n ∧ n ≤ 4
  · have hd : decide ((1 : Int) ≤ (n : Int) ∧ (n : Int) ≤ 4) = true := decide_eq_true (by omega)
    have HD := Lib.hid hd
    have hn4 : n ≤ 4 := hlen.2
    have HLN := Lib.hid (And.intro hlen hn)
    clear hd hlen hn
    go_enter Tryz.func9, Tryz.ntmps9
    go_wp2_with (first
      | (go_at_call 24; refine (bound_Within _ _ _ _).mono ?_; rw [HD.out]; rintro e w' ⟨rfl, hw⟩; rw [hw]; clear hw w')
      | fail)
    go_loopw [12] (fun i wr => ∃ k : Nat, k ≤ n ∧ i = .int .i64 k ∧ (ts.take k).all trackB = true ∧ Below w.heap.size w wr) (fun i _ => n - (intOf i).toNat)
    case atStart => exact ⟨0, by omega, rfl, by simp, Below.refl _ _⟩
    case round =>
      obtain ⟨k, hk, rfl, hall, hbl⟩ := hrel
      by_cases hlt : k < n
      · have hlt' : (k : Int) < n := by omega
        have hkl : k < ts.length := by rw [← HLN.out.2]; exact hlt
        have hrk : wr.rangeAt b (o + k * 18) (trkR.f ts[k]) := fun j u hj => by
          have hj18 : j < 18 := by have := (List.getElem?_eq_some_iff.1 hj).1; rwa [trkR.len] at this
          have := rangeAt_block HR.out.1 (hbl.block b HR.out.2.1) (k * 18 + j) u (by rw [show k * 18 + j = k * trkR.k + j from rfl, trkR.all_at hkl hj18]; exact hj)
          rwa [← Nat.add_assoc] at this
        have hts : (ts.take (k + 1)).all trackB = ((ts.take k).all trackB && trackB ts[k]) := by rw [List.take_succ_eq_append_getElem hkl, List.all_append]; simp
        have hna : trackB ts[k] = false → ts.all trackB = false := fun h => by
          rw [Bool.eq_false_iff]
          intro hall
          rw [List.all_eq_true] at hall
          rw [hall _ (List.getElem_mem hkl)] at h
          cases h
        obtain ⟨t, ht⟩ : ∃ t, t = ts[k] := ⟨_, rfl⟩
        rw [← ht] at hrk hts hna
        obtain ⟨W1, hW1⟩ : ∃ W1, W1 = wr.alloc (.cells (trkR.f t).toArray 85) := ⟨_, rfl⟩
        have hr1 : W1.rangeAt wr.heap.size 0 (trkR.f t) := by rw [hW1]; exact rangeAt_whole (T := 85) (World.alloc_heap_new _ _)
        have hb1 : Below w.heap.size w W1 := by rw [hW1]; exact hbl.alloc hbl.size _
        have his := track_IsR t W1
        obtain ⟨q, hq⟩ : ∃ q, q = trackB t := ⟨_, rfl⟩
        rw [← hq] at his hts hna
        have HRK := Lib.hid hrk
        have HA := Lib.hid (And.intro hall (And.intro hts hna))
        have HB := Lib.hid hbl
        have HW1 := Lib.hid hW1
        have HR1 := Lib.hid hr1
        have HB1 := Lib.hid hb1
        have HIS := Lib.hid his
        clear hrk hts hna ht hW1 hr1 hb1 his hq hall hbl hkl
        cases q
        · go_wp2_with (first
            | (refine wpl_allocR (r := trkR) (ty := 85) rfl rfl rfl ?_; intro C hC)
            | (refine wpl_loadR (r := trkR) (t := t) (b := b) (k := o + k * 18) _ rfl rfl rfl HRK.out ?_)
            | (refine wpl_loadR (r := trkR) (t := t) (b := wr.heap.size) (k := 0) _ rfl rfl rfl HR1.out ?_)
            | (refine wpl_storeR (r := trkR) (ty := 85) (t := t) (C := C) _ _ rfl rfl rfl rfl rfl (World.alloc_heap_new wr _) hC ?_; rw [World.setRow_alloc_new]; rw [show wr.alloc (.cells (trkR.f t).toArray 85) = W1 from HW1.out.symm])
            | (go_at_call 25; refine HIS.out.mono ?_; rintro e w2 ⟨rfl, hb⟩; have H2 := Lib.hid hb; clear hb)
            | fail)
          exact bodyPost_ret (v := .tuple #[.pointer none, .int .i64 1]) (by simp [results, Tryz.results9, go_sem]) rfl ⟨HB1.out.trans (H2.out.mono HB1.out.size), .inr ⟨by unfold newB; rw [HA.out.2.2 (by first | rfl | trivial), Bool.and_false], rfl⟩⟩
        · go_wp2_with (first
            | (refine wpl_allocR (r := trkR) (ty := 85) rfl rfl rfl ?_; intro C hC)
            | (refine wpl_loadR (r := trkR) (t := t) (b := b) (k := o + k * 18) _ rfl rfl rfl HRK.out ?_)
            | (refine wpl_loadR (r := trkR) (t := t) (b := wr.heap.size) (k := 0) _ rfl rfl rfl HR1.out ?_)
            | (refine wpl_storeR (r := trkR) (ty := 85) (t := t) (C := C) _ _ rfl rfl rfl rfl rfl (World.alloc_heap_new wr _) hC ?_; rw [World.setRow_alloc_new]; rw [show wr.alloc (.cells (trkR.f t).toArray 85) = W1 from HW1.out.symm])
            | (go_at_call 25; refine HIS.out.mono ?_; rintro e w2 ⟨rfl, hb⟩; have H2 := Lib.hid hb; clear hb)
            | fail)
          go_roundw
          case rel => exact ⟨k + 1, by omega, by go_num, by rw [HA.out.2.1, HA.out.1]; rfl, HB1.out.trans (H2.out.mono HB1.out.size)⟩
          case measure => simp [intOf]; omega
      · have hge : ¬ (k : Int) < n := by omega
        have hkn : k = n := by omega
        subst hkn
        have hfull : ts.all trackB = true := by rw [HLN.out.2, List.take_length] at hall; exact hall
        have hcl := slices_CloneO (v := .nilFunc) (rangeAt_block HR.out.1 (hbl.block b HR.out.2.1)) (Nat.lt_of_lt_of_le HR.out.2.1 hbl.size) (by rw [← HR.out.2.2.2]; exact HR.out.2.2.1) (by have := HLN.out; omega) (ts := ts) (cap := cap)
        rw [← HLN.out.2] at hcl
        have hnb : newB ts = true := by unfold newB; rw [hfull, ← HLN.out.2, decide_eq_true HLN.out.1]; rfl
        have HCL := Lib.hid hcl
        have HBL := Lib.hid hbl
        have HNB := Lib.hid hnb
        clear hall hbl hfull hcl hnb hk hlt
        go_wp2_with (first
          | (go_at_call 26; refine HCL.out.mono ?_; rintro e w3 ⟨g, c, rfl, hg, ho, hb⟩; have H3 := Lib.hid (And.intro hg (And.intro ho hb)); clear hg ho hb)
          | (go_at_call 27; refine (gridNew_R _).mono ?_; rintro e w4 ⟨gb, rfl, hb, hgl, hgb⟩; have H4 := Lib.hid hb; have G4 := Lib.hid (And.intro hgl hgb); clear hb hgl hgb)
          | fail)
        have hb3 := HBL.out.trans (H3.out.2.2.mono HBL.out.size)
        have hb4 := hb3.trans (H4.out.mono hb3.size)
        obtain ⟨W5, hW5⟩ : ∃ W5, W5 = w4.alloc (.cells #[.slice (some ⟨g, 0, none⟩) k c, .pointer (some ⟨gb, 0, none⟩)] 97) := ⟨_, rfl⟩
        have hb5 : Below w4.heap.size w4 W5 := by rw [hW5]; exact (Below.refl _ w4).alloc (Nat.le_refl _) _
        have hown := H3.out.2.1
        have hglt : g < w3.heap.size := (hown.block rfl).2
        have hrg : w3.rangeAt g 0 (trkR.all ts) := by
          rcases hown.reads with ⟨e, -⟩ | ⟨b', o', c', e, -, -, hr⟩
          · cases e
          · injection e with e1 e2 e3
            injection e1 with e1
            injection e1 with e4 e5
            subst e4 e5
            exact hr
        have hre : ReG (fun j => w.heap.size ≤ j) w4.heap.size gb ts W5 := by
          refine ⟨g, c, by rw [hW5, ← HLN.out.2]; exact World.alloc_heap_new _ _, rangeAt_block hrg ((hb5.block g (by have := H4.out.size; omega)).trans (H4.out.block g hglt)), hb4.size, Nat.le_trans HBL.out.size H3.out.1, Nat.le_trans hb3.size G4.out.1, by have := H4.out.size; have := hb5.size; omega, by have := HLN.out; omega, (hb5.block gb (Array.getElem?_eq_some_iff.1 G4.out.2).1).trans G4.out.2⟩
        rw [← hW5]
        exact bodyPost_ret (v := .tuple #[.pointer (some ⟨w4.heap.size, 0, none⟩), .int .i64 0]) (by simp [results, Tryz.results9, go_sem]) rfl ⟨hb4.trans (hb5.mono hb4.size), .inl ⟨HNB.out, _, _, rfl, hre⟩⟩
  · have hd : decide ((1 : Int) ≤ (n : Int) ∧ (n : Int) ≤ 4) = false := decide_eq_false (by omega)
    have HD := Lib.hid hd
    have hnb : newB ts = false := by unfold newB; rw [← hn, decide_eq_false hlen]; rfl
    have HNB := Lib.hid hnb
    clear hd hlen hn hnb
    go_enter Tryz.func9, Tryz.ntmps9
    go_wp2_with (first
      | (go_at_call 24; refine (bound_Within _ _ _ _).mono ?_; rw [HD.out]; rintro e w' ⟨rfl, hw⟩; rw [hw]; clear hw w')
      | fail)
    exact bodyPost_ret (v := .tuple #[.pointer none, .int .i64 1]) (by simp [results, Tryz.results9, go_sem]) rfl ⟨Below.refl _ _, .inr ⟨HNB.out, rfl⟩⟩
end Go.Proofs.YteioacpfphigjaaGreat
end

section
namespace Go.Proofs.YteioacpfphigjaaGreat
open Go.RowKit Go.Maps
set_option linter.unusedVariables false
set_option linter.unusedSimpArgs false

theorem run_makeV {P : Program} (t e : TypeId) (n s by_ : Nat) (ht : P.underlying t = some (.slice e)) (hi : (P.info? e).map (fun i => (i.size, i.bytes)) = some (s, by_)) (hz : ((P.info? e).bind (·.zero)).isSome = true) (hz2 : ((P.info? e).bind (·.zero)).map (fun z => decide (z.cells.size = s)) = some true) (hb : by_ * n ≤ 1000000) (hn : n ≤ 1000000) :
    ∃ C : Array Value, C.size = n * s ∧ ∀ w : World, (Instr.makeSlice t (.int .i64 (n : Int)) (.int .i64 (n : Int))).run P w = .ok (.slice (some ⟨w.heap.size, 0, none⟩) n n) (w.alloc (.cells C e)) := by
  obtain ⟨i, hi0, hi1⟩ := Option.map_eq_some_iff.1 hi
  simp only [Prod.mk.injEq] at hi1
  obtain ⟨z, hz0⟩ := Option.isSome_iff_exists.1 hz
  rw [hi0] at hz0
  have hz1 : i.zero = some z := by simpa using hz0
  refine ⟨madeCells z.cells (n * i.size), by simp [madeCells, hi1.1], fun w => ?_⟩
  have hbb : (i.bytes : Int) * (n : Int) ≤ 281474976710656 := by
    rw [hi1.2]
    have : ((by_ * n : Nat) : Int) ≤ 281474976710656 := by omega
    rwa [Int.natCast_mul] at this
  have := run_make (P := P) w t e i z ht hi0 hz1 .i64 .i64 n n (by omega) (by omega) hbb (by omega)
  simpa using this
set_option maxRecDepth 100000 in
set_option maxHeartbeats 4000000 in
theorem ref11_New (w : World) : Calls Tryz.prog 15 #[] w fun e w' => ∃ p, e = .returned (.pointer p) ∧ Below w.heap.size w w' := by
  obtain ⟨C1, -, h1⟩ := run_makeV (P := Tryz.prog) 134 363 12 7 56 Tryz.underlying134 (by kernel_rfl) (by kernel_rfl) (by kernel_rfl) (by decide) (by decide)
  obtain ⟨C2, -, h2⟩ := run_makeV (P := Tryz.prog) 135 366 40 9 88 Tryz.underlying135 (by kernel_rfl) (by kernel_rfl) (by kernel_rfl) (by decide) (by decide)
  have h1' : ∀ w : World, (Instr.makeSlice 134 (.int .i64 12) (.int .i64 12)).run Tryz.prog w = .ok (.slice (some ⟨w.heap.size, 0, none⟩) 12 12) (w.alloc (.cells C1 363)) := h1
  have h2' : ∀ w : World, (Instr.makeSlice 135 (.int .i64 40) (.int .i64 40)).run Tryz.prog w = .ok (.slice (some ⟨w.heap.size, 0, none⟩) 40 40) (w.alloc (.cells C2 366)) := h2
  clear h1 h2
  go_enter Tryz.func15, Tryz.ntmps15
  go_upto_region 1 with fail
  go_region
  all_goals go_wp2_with fail
  all_goals go_ret
  all_goals exact ⟨_, rfl, (((((Below.refl _ w).drew).alloc (by show w.heap.size ≤ w.heap.size; omega) _).alloc (by rw [World.size_alloc]; show w.heap.size ≤ w.heap.size + 1; omega) _).alloc (by rw [World.size_alloc, World.size_alloc]; show w.heap.size ≤ w.heap.size + 1 + 1; omega) _)⟩
/-- The document's ledger, as far as it is looked at: ten accounts of something. -/
structure R6 (w0 : World) (lb ab : Nat) (w : World) : Prop where
  l : w.heap[lb]? = some (.cells #[.slice (some ⟨ab, 0, none⟩) 10 10] 127 (0, 0))
  a : ∃ C, w.heap[ab]? = some (.cells C 130 (0, 0)) ∧ C.size = 30
  ll : w0.heap.size ≤ lb
  la : w0.heap.size ≤ ab
  ne : lb ≠ ab
  old : Below w0.heap.size w0 w
theorem R6.below {w0 w w' : World} {lb ab : Nat} (h : R6 w0 lb ab w) (hb : Below w.heap.size w w') : R6 w0 lb ab w' := by
  obtain ⟨C, h1, h2⟩ := h.a
  exact ⟨(hb.block lb (Array.getElem?_eq_some_iff.1 h.l).1).trans h.l, ⟨C, (hb.block ab (Array.getElem?_eq_some_iff.1 h1).1).trans h1, h2⟩, h.ll, h.la, h.ne, h.old.trans (hb.mono h.old.size)⟩
theorem R6.set {w0 w : World} {lb ab i : Nat} {v : Value} (h : R6 w0 lb ab w) : R6 w0 lb ab (w.setCell ⟨ab, i, none⟩ v) := by
  obtain ⟨C, h1, h2⟩ := h.a
  refine ⟨(Below.heap_setCell _ _ _ lb h.ne).trans h.l, ⟨C.setIfInBounds i v, ?_, by simp [h2]⟩, h.ll, h.la, h.ne, h.old.trans ⟨rfl, rfl, rfl, by simp [World.setCell], fun k hk => Below.heap_setCell _ _ _ k ?_⟩⟩
  · simp [World.setCell, Array.getElem?_modify, h1]
  · have := h.la; show k ≠ ab; omega
theorem R6.drew {w0 w : World} {lb ab : Nat} (h : R6 w0 lb ab w) : R6 w0 lb ab w.drew := h.below (Below.refl _ w).drew
set_option maxRecDepth 100000 in
set_option maxHeartbeats 4000000 in
theorem ref6_New (v : Value) (l : List Int) (w : World) (hr : RdI w v l) (hl : l.length ≤ 10) : Calls Tryz.prog 13 #[v] w fun e w' => ∃ p c, e = .returned (.tuple #[.pointer p, .int .i64 c]) ∧ Below w.heap.size w w' := by
  obtain ⟨C, hC, h1⟩ := run_makeV (P := Tryz.prog) 125 130 10 3 40 Tryz.underlying125 (by kernel_rfl) (by kernel_rfl) (by kernel_rfl) (by decide) (by decide)
  have h1' : ∀ w : World, (Instr.makeSlice 125 (.int .i64 10) (.int .i64 10)).run Tryz.prog w = .ok (.slice (some ⟨w.heap.size, 0, none⟩) 10 10) (w.alloc (.cells C 130)) := h1
  clear h1
  obtain ⟨ao, cap, rfl⟩ := hr.lenOf
  obtain ⟨L, hL⟩ : ∃ L, L = l.length := ⟨_, rfl⟩
  rw [← hL] at hr hl ⊢
  have HR := Lib.hid (And.intro hr hL)
  clear hr hL
  have c0 : ¬ (10 : Int) < (L : Int) := by omega
  obtain ⟨W0, hW0⟩ : ∃ W0, W0 = (w.alloc (.cells C 130)).alloc (.cells #[.slice (some ⟨w.heap.size, 0, none⟩) 10 10] 127) := ⟨_, rfl⟩
  obtain ⟨ab, hab⟩ : ∃ ab, ab = w.heap.size := ⟨_, rfl⟩
  obtain ⟨lb, hlb⟩ : ∃ lb, lb = ab + 1 := ⟨_, rfl⟩
  have h6 : R6 w lb ab W0 := by
    refine ⟨?_, ⟨C, ?_, hC⟩, by omega, by omega, by omega, by rw [hW0]; exact ((Below.refl _ w).alloc (Nat.le_refl _) _).alloc (by simp) _⟩
    · have := World.alloc_heap_new (w.alloc (.cells C 130)) (.cells #[.slice (some ⟨w.heap.size, 0, none⟩) 10 10] 127)
      rw [World.size_alloc] at this
      rw [hW0, hlb, hab]; exact this
    · rw [hW0, hab]; exact (Below.heap_alloc _ _ _ (by simp)).trans (World.alloc_heap_new w _)
  have H6 := Lib.hid h6
  have HW0 := Lib.hid (And.intro hW0 (And.intro hab hlb))
  clear hW0 h6 hC hab hlb
  go_enter Tryz.func13, Tryz.ntmps13
  go_upto_region 4 with fail
  rw [← HW0.out.1, ← HW0.out.2.1, ← HW0.out.2.2]
  go_wp2_with fail
  go_loopw [5, 6] (fun z i wr => ∃ (k : Nat) (zz : Int), k ≤ L ∧ z = .int .i64 zz ∧ i = .int .i64 k ∧ R6 w lb ab wr) (fun _ i _ => L - (intOf i).toNat)
  case atStart => exact ⟨0, 0, by omega, rfl, rfl, H6.out⟩
  case round =>
    obtain ⟨k, zz, hk, rfl, rfl, h6⟩ := hrel
    by_cases hlt : k < L
    · have hlt' : (k : Int) < L := by omega
      obtain ⟨a, rfl, ca⟩ := (HR.out.1.below h6.old).at (show k < l.length by rw [← HR.out.2]; exact hlt)
      obtain ⟨x, hx⟩ : ∃ x, x = l.getD k 0 := ⟨_, rfl⟩
      have hca : ∀ W, Below w.heap.size w W → W.cell? (a.add k) = some (.int .i64 x) := fun W hW => by
        obtain ⟨a', hv, ca'⟩ := (HR.out.1.below hW).at (show k < l.length by rw [← HR.out.2]; exact hlt)
        injection hv with hv
        subst hv
        rw [hx]; exact ca'
      have HCA := Lib.hid hca
      clear hca
      rw [← hx] at ca
      have h6k := h6
      obtain ⟨C6, ha6, hs6⟩ := h6.a
      have cl : wr.cell? ⟨lb, 0, none⟩ = some (.slice (some ⟨ab, 0, none⟩) 10 10) := by rw [World.cell?, h6.l]; rfl
      have hk10 : (k : Int) < 10 := by omega
      have hk3 : k * 3 < C6.size := by omega
      have cc : ∃ v0, wr.cell? ⟨ab, k * 3, none⟩ = some v0 := ⟨C6[k * 3], by rw [World.cell?, ha6]; simp [hk3]⟩
      obtain ⟨v0, cc⟩ := cc
      have cf : wr.frozen? ⟨ab, k * 3, none⟩ = false := by simp [World.frozen?, ha6]
      have HX := Lib.hid h6k
      clear h6 h6k ha6 hs6 hk3 hx
      by_cases hb : x < 0
      · go_wp2_with fail
        exact bodyPost_ret (v := .tuple #[.pointer none, .int .i64 1]) (by simp [results, Tryz.results13, go_sem]) rfl (by first | exact ⟨_, _, rfl, HX.out.old⟩ | exact ⟨⟨_, _, rfl⟩, HX.out.old⟩)
      · by_cases hb2 : 1073741824 < x
        · go_wp2_with fail
          exact bodyPost_ret (v := .tuple #[.pointer none, .int .i64 1]) (by simp [results, Tryz.results13, go_sem]) rfl (by first | exact ⟨_, _, rfl, HX.out.old⟩ | exact ⟨⟨_, _, rfl⟩, HX.out.old⟩)
        · go_upto_region 10 with fail
          go_still_tail 11, (by kernel_rfl)
          change wpList _ _ _ _ _ wr.drew
          have hs := HX.out.drew.set (i := k * 3) (v := .int .i64 x)
          have ca2 := HCA.out _ hs.old
          have ca3 := HCA.out _ (HX.out.set (i := k * 3) (v := .int .i64 x)).old
          have ca4 := HCA.out _ (HX.out.set (i := k * 3) (v := .int .i64 x)).drew.old
          have HS2 := Lib.hid (HX.out.set (i := k * 3) (v := .int .i64 x)).drew
          have HS := Lib.hid hs
          clear hs
          go_wp2_with fail
          go_roundw
          case rel => exact ⟨k + 1, _, by omega, rfl, by go_num, HS2.out⟩
          case measure => simp [intOf]; omega
    · have hge : ¬ (k : Int) < L := by omega
      by_cases hz : 1073741824 < zz
      · go_wp2_with fail
        exact bodyPost_ret (v := .tuple #[.pointer none, .int .i64 1]) (by simp [results, Tryz.results13, go_sem]) rfl (by first | exact ⟨_, _, rfl, h6.old⟩ | exact ⟨⟨_, _, rfl⟩, h6.old⟩)
      · go_wp2_with fail
        exact bodyPost_ret (v := .tuple #[.pointer (some ⟨lb, 0, none⟩), .int .i64 0]) (by simp [results, Tryz.results13, go_sem]) rfl (by first | exact ⟨_, _, rfl, h6.old⟩ | exact ⟨⟨_, _, rfl⟩, h6.old⟩)
theorem ref10_IsR (t : Trk) (w : World) : Calls Tryz.prog 32 #[.agg (trkR.f t).toArray] w fun e w' => e = .returned (.bool (trackB t)) ∧ Below w.heap.size w w' := ref10_Is t w
set_option maxRecDepth 100000 in
set_option maxHeartbeats 4000000 in
theorem ref12_New {ts : List Trk} {w : World} {b cap : Nat} (hr : w.rangeAt b 0 (trkR.all ts)) (hb : b < w.heap.size) (hc : ts.length ≤ cap) (hl : ts.length ≤ 100) :
    Calls Tryz.prog 14 #[.slice (some ⟨b, 0, none⟩) ts.length cap] w fun e w' => Below w.heap.size w w' ∧ ((newB ts = true ∧ ∃ r, e = .returned (.tuple #[.pointer (some ⟨r, 0, none⟩), .int .i64 0])) ∨ (newB ts = false ∧ e = .returned (.tuple #[.pointer none, .int .i64 1]))) := by
  obtain ⟨n, hn⟩ : ∃ n, n = ts.length := ⟨_, rfl⟩
  rw [← hn] at hc hl ⊢
  have HR := Lib.hid (And.intro hr (And.intro hb (And.intro hc hn)))
  clear hr hb hc
  by_cases hl1 : n < 1
  · have hnb : newB ts = false := by unfold newB; rw [← hn, decide_eq_false (by omega)]; rfl
    have hi1 : (n : Int) < 1 := by omega
    have HNB := Lib.hid hnb
    clear hl1 hn hnb
    go_enter Tryz.func14, Tryz.ntmps14
    go_wp2_with fail
    exact bodyPost_ret (v := .tuple #[.pointer none, .int .i64 1]) (by simp [results, Tryz.results14, go_sem]) rfl ⟨Below.refl _ _, .inr ⟨HNB.out, rfl⟩⟩
  by_cases hl4 : 4 < n
  · have hnb : newB ts = false := by unfold newB; rw [← hn, decide_eq_false (by omega)]; rfl
    have hi1 : ¬ (n : Int) < 1 := by omega
    have hi2 : (4 : Int) < n := by omega
    have HNB := Lib.hid hnb
    clear hl1 hl4 hn hnb
    go_enter Tryz.func14, Tryz.ntmps14
    go_wp2_with fail
    exact bodyPost_ret (v := .tuple #[.pointer none, .int .i64 1]) (by simp [results, Tryz.results14, go_sem]) rfl ⟨Below.refl _ _, .inr ⟨HNB.out, rfl⟩⟩
  have hlen : 1 ≤ n ∧ n ≤ 4 := by omega
  have hi1 : ¬ (n : Int) < 1 := by omega
  have hi2 : ¬ (4 : Int) < n := by omega
  have hn4 : n ≤ 4 := hlen.2
  have HLN := Lib.hid (And.intro hlen hn)
  clear hlen hn hl1 hl4
  go_enter Tryz.func14, Tryz.ntmps14
  go_wp2_with fail
  go_loopw [4] (fun i wr => ∃ k : Nat, k ≤ n ∧ i = .int .i64 k ∧ (ts.take k).all trackB = true ∧ Below w.heap.size w wr) (fun i _ => n - (intOf i).toNat)
  case atStart => exact ⟨0, by omega, rfl, by simp, Below.refl _ _⟩
  case round =>
    obtain ⟨k, hk, rfl, hall, hbl⟩ := hrel
    by_cases hlt : k < n
    · have hlt' : (k : Int) < n := by omega
      have hkl : k < ts.length := by rw [← HLN.out.2]; exact hlt
      have hrk : wr.rangeAt b (k * 18) (trkR.f ts[k]) := fun j u hj => by
        have hj18 : j < 18 := by have := (List.getElem?_eq_some_iff.1 hj).1; rwa [trkR.len] at this
        have := rangeAt_block HR.out.1 (hbl.block b HR.out.2.1) (k * 18 + j) u (by rw [show k * 18 + j = k * trkR.k + j from rfl, trkR.all_at hkl hj18]; exact hj)
        rwa [Nat.zero_add] at this
      have hts : (ts.take (k + 1)).all trackB = ((ts.take k).all trackB && trackB ts[k]) := by rw [List.take_succ_eq_append_getElem hkl, List.all_append]; simp
      have hna : trackB ts[k] = false → ts.all trackB = false := fun h => by
        rw [Bool.eq_false_iff]
        intro hall
        rw [List.all_eq_true] at hall
        rw [hall _ (List.getElem_mem hkl)] at h
        cases h
      obtain ⟨t, ht⟩ : ∃ t, t = ts[k] := ⟨_, rfl⟩
      rw [← ht] at hrk hts hna
      have his := ref10_IsR t wr
      obtain ⟨q, hq⟩ : ∃ q, q = trackB t := ⟨_, rfl⟩
      rw [← hq] at his hts hna
      have HRK := Lib.hid hrk
      have HA := Lib.hid (And.intro hall (And.intro hts hna))
      have HB := Lib.hid hbl
      have HIS := Lib.hid his
      clear hrk hts hna ht his hq hall hbl hkl
      cases q
      · go_wp2_with (first
          | (refine wpl_loadR (r := trkR) (t := t) (b := b) (k := k * 18) _ rfl rfl rfl HRK.out ?_)
          | (go_at_call 32; refine HIS.out.mono ?_; rintro e w2 ⟨rfl, hb⟩; have H2 := Lib.hid hb; clear hb)
          | fail)
        exact bodyPost_ret (v := .tuple #[.pointer none, .int .i64 1]) (by simp [results, Tryz.results14, go_sem]) rfl ⟨HB.out.trans (H2.out.mono HB.out.size), .inr ⟨by unfold newB; rw [HA.out.2.2 (by first | rfl | trivial), Bool.and_false], rfl⟩⟩
      · go_wp2_with (first
          | (refine wpl_loadR (r := trkR) (t := t) (b := b) (k := k * 18) _ rfl rfl rfl HRK.out ?_)
          | (go_at_call 32; refine HIS.out.mono ?_; rintro e w2 ⟨rfl, hb⟩; have H2 := Lib.hid hb; clear hb)
          | fail)
        go_roundw
        case rel => exact ⟨k + 1, by omega, by go_num, by rw [HA.out.2.1, HA.out.1]; rfl, HB.out.trans (H2.out.mono HB.out.size)⟩
        case measure => simp [intOf]; omega
    · have hge : ¬ (k : Int) < n := by omega
      have hkn : k = n := by omega
      subst hkn
      have hfull : ts.all trackB = true := by rw [HLN.out.2, List.take_length] at hall; exact hall
      have hrd : RdR trkR wr (.slice (some ⟨b, 0, none⟩) k cap) ts := by rw [HLN.out.2]; exact .inr ⟨b, 0, cap, rfl, by rw [← HLN.out.2]; exact HR.out.2.2.1, Nat.lt_of_lt_of_le HR.out.2.1 hbl.size, rangeAt_block HR.out.1 (hbl.block b HR.out.2.1)⟩
      have hown : OwnR trkR wr.heap.size (.slice (some ⟨wr.heap.size, 0, none⟩) 0 0) [] (wr.alloc (.cells #[] 85)) := OwnR.none (r := trkR) (World.alloc_heap_new wr _) (Nat.le_refl _)
      have hnb : newB ts = true := by unfold newB; rw [hfull, ← HLN.out.2, decide_eq_true HLN.out.1]; rfl
      have HRD := Lib.hid (hrd.below ((Below.refl _ wr).alloc (Nat.le_refl _) (.cells #[] 85)))
      have HO := Lib.hid hown
      have HBL := Lib.hid hbl
      have HNB := Lib.hid hnb
      clear hall hbl hfull hnb hk hlt hrd hown
      go_wp2_with (first
        | (refine wpl_noneR (r := trkR) rfl rfl ?_)
        | (refine wpl_appsR (r := trkR) (u := .slice (some ⟨b, 0, none⟩) k cap) (v := .slice (some ⟨wr.heap.size, 0, none⟩) 0 0) (xs := []) (ys := ts) rfl rfl rfl rfl HO.out HRD.out (by have := HLN.out; simp; omega) (by simp) ?_; intro v1 w1 ho hg hat; have H1 := Lib.hid (And.intro ho (And.intro hg hat)); obtain ⟨o1, n1, c1, rfl⟩ : ∃ o n c, v1 = .slice o n c := (by { obtain ⟨a, c, e⟩ := ho.lenOf; exact ⟨a, _, c, e⟩ }); clear ho hg hat)
        | fail)
      have hb1 : Below wr.heap.size wr w1 := Below.grown ((Below.refl _ wr).alloc (Nat.le_refl _) _) H1.out.2.1 (by simp) (fun j hj => by have hj' : some wr.heap.size = some j := hj; injection hj' with hj'; omega)
      have hb2 := HBL.out.trans (hb1.mono HBL.out.size)
      exact bodyPost_ret (v := .tuple #[.pointer (some ⟨w1.heap.size, 0, none⟩), .int .i64 0]) (by simp [results, Tryz.results14, go_sem]) rfl ⟨hb2.alloc hb2.size _, .inl ⟨HNB.out, _, rfl⟩⟩
end Go.Proofs.YteioacpfphigjaaGreat
end

section
namespace Go.Proofs.YteioacpfphigjaaGreat
open Go.RowKit Go.Maps
set_option linter.unusedVariables false
set_option linter.unusedSimpArgs false

set_option maxRecDepth 100000 in
set_option maxHeartbeats 4000000 in
theorem ref12_NewO {ts : List Trk} {w : World} {b o cap : Nat} (hr : w.rangeAt b o (trkR.all ts)) (hb : b < w.heap.size) (hc : ts.length ≤ cap) (hl : ts.length ≤ 100) :
    Calls Tryz.prog 14 #[.slice (some ⟨b, o, none⟩) ts.length cap] w fun e w' => Below w.heap.size w w' ∧ ((newB ts = true ∧ ∃ r, e = .returned (.tuple #[.pointer (some ⟨r, 0, none⟩), .int .i64 0])) ∨ (newB ts = false ∧ e = .returned (.tuple #[.pointer none, .int .i64 1]))) := by
  obtain ⟨n, hn⟩ : ∃ n, n = ts.length := ⟨_, rfl⟩
  rw [← hn] at hc hl ⊢
  have HR := Lib.hid (And.intro hr (And.intro hb (And.intro hc hn)))
  clear hr hb hc
  by_cases hl1 : n < 1
  · have hnb : newB ts = false := by unfold newB; rw [← hn, decide_eq_false (by omega)]; rfl
    have hi1 : (n : Int) < 1 := by omega
    have HNB := Lib.hid hnb
    clear hl1 hn hnb
    go_enter Tryz.func14, Tryz.ntmps14
    go_wp2_with fail
    exact bodyPost_ret (v := .tuple #[.pointer none, .int .i64 1]) (by simp [results, Tryz.results14, go_sem]) rfl ⟨Below.refl _ _, .inr ⟨HNB.out, rfl⟩⟩
  by_cases hl4 : 4 < n
  · have hnb : newB ts = false := by unfold newB; rw [← hn, decide_eq_false (by omega)]; rfl
    have hi1 : ¬ (n : Int) < 1 := by omega
    have hi2 : (4 : Int) < n := by omega
    have HNB := Lib.hid hnb
    clear hl1 hl4 hn hnb
    go_enter Tryz.func14, Tryz.ntmps14
    go_wp2_with fail
    exact bodyPost_ret (v := .tuple #[.pointer none, .int .i64 1]) (by simp [results, Tryz.results14, go_sem]) rfl ⟨Below.refl _ _, .inr ⟨HNB.out, rfl⟩⟩
  have hlen : 1 ≤ n ∧ n ≤ 4 := by omega
  have hi1 : ¬ (n : Int) < 1 := by omega
  have hi2 : ¬ (4 : Int) < n := by omega
  have hn4 : n ≤ 4 := hlen.2
  have HLN := Lib.hid (And.intro hlen hn)
  clear hlen hn hl1 hl4
  go_enter Tryz.func14, Tryz.ntmps14
  go_wp2_with fail
  go_loopw [4] (fun i wr => ∃ k : Nat, k ≤ n ∧ i = .int .i64 k ∧ (ts.take k).all trackB = true ∧ Below w.heap.size w wr) (fun i _ => n - (intOf i).toNat)
  case atStart => exact ⟨0, by omega, rfl, by simp, Below.refl _ _⟩
  case round =>
    obtain ⟨k, hk, rfl, hall, hbl⟩ := hrel
    by_cases hlt : k < n
    · have hlt' : (k : Int) < n := by omega
      have hkl : k < ts.length := by rw [← HLN.out.2]; exact hlt
      have hrk : wr.rangeAt b (o + k * 18) (trkR.f ts[k]) := fun j u hj => by
        have hj18 : j < 18 := by have := (List.getElem?_eq_some_iff.1 hj).1; rwa [trkR.len] at this
        have := rangeAt_block HR.out.1 (hbl.block b HR.out.2.1) (k * 18 + j) u (by rw [show k * 18 + j = k * trkR.k + j from rfl, trkR.all_at hkl hj18]; exact hj)
        rwa [← Nat.add_assoc] at this
      have hts : (ts.take (k + 1)).all trackB = ((ts.take k).all trackB && trackB ts[k]) := by rw [List.take_succ_eq_append_getElem hkl, List.all_append]; simp
      have hna : trackB ts[k] = false → ts.all trackB = false := fun h => by
        rw [Bool.eq_false_iff]
        intro hall
        rw [List.all_eq_true] at hall
        rw [hall _ (List.getElem_mem hkl)] at h
        cases h
      obtain ⟨t, ht⟩ : ∃ t, t = ts[k] := ⟨_, rfl⟩
      rw [← ht] at hrk hts hna
      have his := ref10_IsR t wr
      obtain ⟨q, hq⟩ : ∃ q, q = trackB t := ⟨_, rfl⟩
      rw [← hq] at his hts hna
      have HRK := Lib.hid hrk
      have HA := Lib.hid (And.intro hall (And.intro hts hna))
      have HB := Lib.hid hbl
      have HIS := Lib.hid his
      clear hrk hts hna ht his hq hall hbl hkl
      cases q
      · go_wp2_with (first
          | (refine wpl_loadR (r := trkR) (t := t) (b := b) (k := o + k * 18) _ rfl rfl rfl HRK.out ?_)
          | (go_at_call 32; refine HIS.out.mono ?_; rintro e w2 ⟨rfl, hb⟩; have H2 := Lib.hid hb; clear hb)
          | fail)
        exact bodyPost_ret (v := .tuple #[.pointer none, .int .i64 1]) (by simp [results, Tryz.results14, go_sem]) rfl ⟨HB.out.trans (H2.out.mono HB.out.size), .inr ⟨by unfold newB; rw [HA.out.2.2 (by first | rfl | trivial), Bool.and_false], rfl⟩⟩
      · go_wp2_with (first
          | (refine wpl_loadR (r := trkR) (t := t) (b := b) (k := o + k * 18) _ rfl rfl rfl HRK.out ?_)
          | (go_at_call 32; refine HIS.out.mono ?_; rintro e w2 ⟨rfl, hb⟩; have H2 := Lib.hid hb; clear hb)
          | fail)
        go_roundw
        case rel => exact ⟨k + 1, by omega, by go_num, by rw [HA.out.2.1, HA.out.1]; rfl, HB.out.trans (H2.out.mono HB.out.size)⟩
        case measure => simp [intOf]; omega
    · have hge : ¬ (k : Int) < n := by omega
      have hkn : k = n := by omega
      subst hkn
      have hfull : ts.all trackB = true := by rw [HLN.out.2, List.take_length] at hall; exact hall
      have hrd : RdR trkR wr (.slice (some ⟨b, o, none⟩) k cap) ts := by rw [HLN.out.2]; exact .inr ⟨b, o, cap, rfl, by rw [← HLN.out.2]; exact HR.out.2.2.1, Nat.lt_of_lt_of_le HR.out.2.1 hbl.size, rangeAt_block HR.out.1 (hbl.block b HR.out.2.1)⟩
      have hown : OwnR trkR wr.heap.size (.slice (some ⟨wr.heap.size, 0, none⟩) 0 0) [] (wr.alloc (.cells #[] 85)) := OwnR.none (r := trkR) (World.alloc_heap_new wr _) (Nat.le_refl _)
      have hnb : newB ts = true := by unfold newB; rw [hfull, ← HLN.out.2, decide_eq_true HLN.out.1]; rfl
      have HRD := Lib.hid (hrd.below ((Below.refl _ wr).alloc (Nat.le_refl _) (.cells #[] 85)))
      have HO := Lib.hid hown
      have HBL := Lib.hid hbl
      have HNB := Lib.hid hnb
      clear hall hbl hfull hnb hk hlt hrd hown
      go_wp2_with (first
        | (refine wpl_noneR (r := trkR) rfl rfl ?_)
        | (refine wpl_appsR (r := trkR) (u := .slice (some ⟨b, o, none⟩) k cap) (v := .slice (some ⟨wr.heap.size, 0, none⟩) 0 0) (xs := []) (ys := ts) rfl rfl rfl rfl HO.out HRD.out (by have := HLN.out; simp; omega) (by simp) ?_; intro v1 w1 ho hg hat; have H1 := Lib.hid (And.intro ho (And.intro hg hat)); obtain ⟨o1, n1, c1, rfl⟩ : ∃ o n c, v1 = .slice o n c := (by { obtain ⟨a, c, e⟩ := ho.lenOf; exact ⟨a, _, c, e⟩ }); clear ho hg hat)
        | fail)
      have hb1 : Below wr.heap.size wr w1 := Below.grown ((Below.refl _ wr).alloc (Nat.le_refl _) _) H1.out.2.1 (by simp) (fun j hj => by have hj' : some wr.heap.size = some j := hj; injection hj' with hj'; omega)
      have hb2 := HBL.out.trans (hb1.mono HBL.out.size)
      exact bodyPost_ret (v := .tuple #[.pointer (some ⟨w1.heap.size, 0, none⟩), .int .i64 0]) (by simp [results, Tryz.results14, go_sem]) rfl ⟨hb2.alloc hb2.size _, .inl ⟨HNB.out, _, rfl⟩⟩
end Go.Proofs.YteioacpfphigjaaGreat
end

section
namespace Go.Proofs.YteioacpfphigjaaGreat
open Go.RowKit Go.Maps
set_option linter.unusedVariables false
set_option linter.unusedSimpArgs false

/-- What the first so many balances come to. -/
def S6 (l : List Int) (k : Nat) (zz : Int) : Prop := zz = sumTo (accL (l.take k)) 10 ∧ (∀ j, j < k → isBal (l.getD j 0)) ∧ 0 ≤ zz ∧ zz ≤ k * 1073741824
theorem S6.zero (l : List Int) : S6 l 0 0 := ⟨by rw [List.take_zero, accL_nil]; decide, fun j hj => absurd hj (Nat.not_lt_zero j), by omega, by omega⟩
theorem S6.step {l : List Int} {k : Nat} {zz : Int} (h : S6 l k zz) (hk : k < 10) (hb : isBal (l.getD k 0)) : S6 l (k + 1) (zz + l.getD k 0) := by
  obtain ⟨h1, h2, h3, h4⟩ := h
  refine ⟨by rw [sum_accL_step l hk, ← h1], fun j hj => ?_, ?_, ?_⟩
  · by_cases e : j = k
    · rw [e]; exact hb
    · exact h2 j (by omega)
  · have := hb.1; omega
  · have := hb.2; have : ((k + 1 : Nat) : Int) = (k : Int) + 1 := by omega
    rw [this]; omega
theorem S6.done {l : List Int} {k : Nat} {zz : Int} (h : S6 l k zz) (hk : k = l.length) : zz = sumTo (accL l) 10 ∧ ∀ j, j < l.length → isBal (l.getD j 0) := by
  subst hk
  exact ⟨by rw [h.1, List.take_length], h.2.1⟩
set_option maxRecDepth 100000 in
set_option maxHeartbeats 4000000 in
theorem ref6_NewX (v : Value) (l : List Int) (w : World) (hr : RdI w v l) (hl : l.length ≤ 1000) : Calls Tryz.prog 13 #[v] w fun e w' => Below w.heap.size w w' ∧ ((newOk l ∧ ∃ p, e = .returned (.tuple #[.pointer (some ⟨p, 0, none⟩), .int .i64 0])) ∨ (¬ newOk l ∧ e = .returned (.tuple #[.pointer none, .int .i64 1]))) := by
  obtain ⟨C, hC, h1⟩ := run_makeV (P := Tryz.prog) 125 130 10 3 40 Tryz.underlying125 (by kernel_rfl) (by kernel_rfl) (by kernel_rfl) (by decide) (by decide)
  have h1' : ∀ w : World, (Instr.makeSlice 125 (.int .i64 10) (.int .i64 10)).run Tryz.prog w = .ok (.slice (some ⟨w.heap.size, 0, none⟩) 10 10) (w.alloc (.cells C 130)) := h1
  clear h1
  obtain ⟨ao, cap, rfl⟩ := hr.lenOf
  obtain ⟨L, hL⟩ : ∃ L, L = l.length := ⟨_, rfl⟩
  rw [← hL] at hr hl ⊢
  have HR := Lib.hid (And.intro hr hL)
  by_cases h10 : 10 < L
  · have c0 : (10 : Int) < (L : Int) := by omega
    have hno : ¬ newOk l := fun h => by have := h.1; omega
    have HNO := Lib.hid hno
    clear hr hL h10 hno h1'
    go_enter Tryz.func13, Tryz.ntmps13
    go_wp2_with fail
    exact bodyPost_ret (v := .tuple #[.pointer none, .int .i64 1]) (by simp [results, Tryz.results13, go_sem]) rfl ⟨Below.refl _ _, .inr ⟨HNO.out, rfl⟩⟩
  clear hr hL
  have hl : L ≤ 10 := by omega
  have c0 : ¬ (10 : Int) < (L : Int) := by omega
  obtain ⟨W0, hW0⟩ : ∃ W0, W0 = (w.alloc (.cells C 130)).alloc (.cells #[.slice (some ⟨w.heap.size, 0, none⟩) 10 10] 127) := ⟨_, rfl⟩
  obtain ⟨ab, hab⟩ : ∃ ab, ab = w.heap.size := ⟨_, rfl⟩
  obtain ⟨lb, hlb⟩ : ∃ lb, lb = ab + 1 := ⟨_, rfl⟩
  have h6 : R6 w lb ab W0 := by
    refine ⟨?_, ⟨C, ?_, hC⟩, by omega, by omega, by omega, by rw [hW0]; exact ((Below.refl _ w).alloc (Nat.le_refl _) _).alloc (by simp) _⟩
    · have := World.alloc_heap_new (w.alloc (.cells C 130)) (.cells #[.slice (some ⟨w.heap.size, 0, none⟩) 10 10] 127)
      rw [World.size_alloc] at this
      rw [hW0, hlb, hab]; exact this
    · rw [hW0, hab]; exact (Below.heap_alloc _ _ _ (by simp)).trans (World.alloc_heap_new w _)
  have H6 := Lib.hid h6
  have HW0 := Lib.hid (And.intro hW0 (And.intro hab hlb))
  clear hW0 h6 hC hab hlb
  go_enter Tryz.func13, Tryz.ntmps13
  go_upto_region 4 with fail
  rw [← HW0.out.1, ← HW0.out.2.1, ← HW0.out.2.2]
  go_wp2_with fail
  go_loopw [5, 6] (fun z i wr => ∃ (k : Nat) (zz : Int), k ≤ L ∧ z = .int .i64 zz ∧ i = .int .i64 k ∧ R6 w lb ab wr ∧ S6 l k zz) (fun _ i _ => L - (intOf i).toNat)
  case atStart => exact ⟨0, 0, by omega, rfl, rfl, H6.out, S6.zero l⟩
  case round =>
    obtain ⟨k, zz, hk, rfl, rfl, h6, hS⟩ := hrel
    have hz0 := hS.2.2.1
    have hz1 := hS.2.2.2
    have HS6 := Lib.hid hS
    clear hS
    by_cases hlt : k < L
    · have hlt' : (k : Int) < L := by omega
      obtain ⟨a, rfl, ca⟩ := (HR.out.1.below h6.old).at (show k < l.length by rw [← HR.out.2]; exact hlt)
      obtain ⟨x, hx⟩ : ∃ x, x = l.getD k 0 := ⟨_, rfl⟩
      have hca : ∀ W, Below w.heap.size w W → W.cell? (a.add k) = some (.int .i64 x) := fun W hW => by
        obtain ⟨a', hv, ca'⟩ := (HR.out.1.below hW).at (show k < l.length by rw [← HR.out.2]; exact hlt)
        injection hv with hv
        subst hv
        rw [hx]; exact ca'
      have HCA := Lib.hid hca
      clear hca
      rw [← hx] at ca
      have h6k := h6
      obtain ⟨C6, ha6, hs6⟩ := h6.a
      have cl : wr.cell? ⟨lb, 0, none⟩ = some (.slice (some ⟨ab, 0, none⟩) 10 10) := by rw [World.cell?, h6.l]; rfl
      have hk10 : (k : Int) < 10 := by omega
      have hk3 : k * 3 < C6.size := by omega
      have cc : ∃ v0, wr.cell? ⟨ab, k * 3, none⟩ = some v0 := ⟨C6[k * 3], by rw [World.cell?, ha6]; simp [hk3]⟩
      obtain ⟨v0, cc⟩ := cc
      have cf : wr.frozen? ⟨ab, k * 3, none⟩ = false := by simp [World.frozen?, ha6]
      have HX := Lib.hid h6k
      have HXX := Lib.hid hx
      clear h6 h6k ha6 hs6 hk3 hx
      by_cases hb : x < 0
      · go_wp2_with fail
        exact bodyPost_ret (v := .tuple #[.pointer none, .int .i64 1]) (by simp [results, Tryz.results13, go_sem]) rfl ⟨HX.out.old, .inr ⟨fun h => by have h1 := h.2.1 k (by rw [← HR.out.2]; exact hlt); rw [← HXX.out] at h1; unfold isBal at h1; omega, rfl⟩⟩
      · by_cases hb2 : 1073741824 < x
        · go_wp2_with fail
          exact bodyPost_ret (v := .tuple #[.pointer none, .int .i64 1]) (by simp [results, Tryz.results13, go_sem]) rfl ⟨HX.out.old, .inr ⟨fun h => by have h1 := h.2.1 k (by rw [← HR.out.2]; exact hlt); rw [← HXX.out] at h1; unfold isBal at h1; omega, rfl⟩⟩
        · go_upto_region 10 with fail
          go_still_tail 11, (by kernel_rfl)
          change wpList _ _ _ _ _ wr.drew
          have hs := HX.out.drew.set (i := k * 3) (v := .int .i64 x)
          have ca2 := HCA.out _ hs.old
          have ca3 := HCA.out _ (HX.out.set (i := k * 3) (v := .int .i64 x)).old
          have ca4 := HCA.out _ (HX.out.set (i := k * 3) (v := .int .i64 x)).drew.old
          have HS2 := Lib.hid (HX.out.set (i := k * 3) (v := .int .i64 x)).drew
          have HS := Lib.hid hs
          clear hs
          go_wp2_with fail
          go_roundw
          case rel => exact ⟨k + 1, zz + x, by omega, by go_num, by go_num, HS2.out, by have h1 := HS6.out.step (by omega) (by rw [← HXX.out]; unfold isBal; omega); rw [← HXX.out] at h1; exact h1⟩
          case measure => simp [intOf]; omega
    · have hge : ¬ (k : Int) < L := by omega
      by_cases hz : 1073741824 < zz
      · go_wp2_with fail
        exact bodyPost_ret (v := .tuple #[.pointer none, .int .i64 1]) (by simp [results, Tryz.results13, go_sem]) rfl ⟨h6.old, .inr ⟨fun h => by have h1 := (HS6.out.done (by rw [← HR.out.2]; omega)).1; have h2 := h.2.2; omega, rfl⟩⟩
      · go_wp2_with fail
        exact bodyPost_ret (v := .tuple #[.pointer (some ⟨lb, 0, none⟩), .int .i64 0]) (by simp [results, Tryz.results13, go_sem]) rfl ⟨h6.old, .inl ⟨⟨by rw [← HR.out.2]; exact hl, (HS6.out.done (by rw [← HR.out.2]; omega)).2, by rw [← (HS6.out.done (by rw [← HR.out.2]; omega)).1]; omega⟩, _, rfl⟩⟩
end Go.Proofs.YteioacpfphigjaaGreat
end

section
namespace Go.Proofs.YteioacpfphigjaaGreat
open Go.ChangeShapes Go.WideShapes Go.ChangeAt Go.RowKit Go.Deep
set_option linter.unusedVariables false

section
variable {H : Type} {enc : TypeId × Value → H} {P : Program} {w : World} {base : Nat} {held : Bool}

theorem cells_slice' {v : Value} {r : Reach} {b0 : Nat} {t e : TypeId} (ht : P.underlying t = some (.slice e)) (hv : Value.okWide P w r b0 t v) : v.cells.toList = [v] := by
  unfold Value.okWide at hv
  rw [ht] at hv
  simp only [Cell.okWide, Cell.ok, ht] at hv
  cases v <;> simp [Value.cells] at hv ⊢

theorem open_flats {t e : TypeId} {ls : List Leaf} {v : Value} {d : DataW H} {p : List MemPlace} {r : Reach} {b0 : Nat} (n : Nat) (ht : P.underlying t = some (.slice e)) (hl : leaves P n e = some ls) (hc : P.cellsOf e = ls.length)
    (hv : Value.okWide P w r b0 t v) (h : DataW.Trod enc P w base (fun _ => true) held t v d p) :
    v = .slice none 0 0 ∨ ∃ (a : Addr) (len cap : Nat) (C : Nat → List Value), v = .slice (some a) len cap ∧ len ≤ cap ∧ cap ≤ maxLen ∧ ∀ i, i < cap → Fits ls (C i) ∧ ∀ j, j < ls.length → w.cell? (a.add (i * ls.length + j)) = (C i)[j]? := by
  obtain ⟨fuel, hf⟩ := h
  rw [cells_slice' ht hv] at hf
  rcases open_slice ht hf with ⟨h0, -⟩ | ⟨a, len, cap, m, k, D, Pl, hcs, hb, hle, hm, hmm, -, hx⟩
  · exact .inl (by simpa using h0)
  · simp only [if_true] at hmm
    subst hmm
    right
    rw [hc] at hx
    obtain ⟨C, hC⟩ := choose_lt (α := List Value) (p := fun i cs => Fits ls cs ∧ ∀ j, j < ls.length → w.cell? (a.add (i * ls.length + j)) = cs[j]?) (fun i hi => by
      obtain ⟨cs', h1, h2⟩ := hx i hi
      obtain ⟨_, hlen, hcell⟩ := World.cells?_some h1
      refine ⟨cs', flat_fits n e ls hl k _ _ h2, fun j hj => ?_⟩
      have := hcell j (by omega)
      rwa [add_add] at this)
    exact ⟨a, len, m, C, by simpa using hcs, hle, hm, hC⟩
end
end Go.Proofs.YteioacpfphigjaaGreat
end

section
namespace Go.Proofs.YteioacpfphigjaaGreat
open Go.ChangeShapes Go.WideShapes Go.ChangeAt Go.RowKit Go.Deep
set_option linter.unusedVariables false
set_option linter.unusedSimpArgs false

instance : Inhabited Trk := ⟨⟨0, 0, 0, 0, 0, 0, 0, 0, 0, 0, 0, 0, 0, 0, 0, 0, 0, 0⟩⟩
theorem fits_track {cs : List Value} (f : Fits (List.replicate 18 (some .i64)) cs) : ∃ t : Trk, cs = trkR.f t := by
  simp only [List.replicate] at f
  obtain ⟨a0, c0, rfl, -, f⟩ := fits_int f
  obtain ⟨a1, c1, rfl, -, f⟩ := fits_int f
  obtain ⟨a2, c2, rfl, -, f⟩ := fits_int f
  obtain ⟨a3, c3, rfl, -, f⟩ := fits_int f
  obtain ⟨a4, c4, rfl, -, f⟩ := fits_int f
  obtain ⟨a5, c5, rfl, -, f⟩ := fits_int f
  obtain ⟨a6, c6, rfl, -, f⟩ := fits_int f
  obtain ⟨a7, c7, rfl, -, f⟩ := fits_int f
  obtain ⟨a8, c8, rfl, -, f⟩ := fits_int f
  obtain ⟨a9, c9, rfl, -, f⟩ := fits_int f
  obtain ⟨b0, e0, rfl, -, f⟩ := fits_int f
  obtain ⟨b1, e1, rfl, -, f⟩ := fits_int f
  obtain ⟨b2, e2, rfl, -, f⟩ := fits_int f
  obtain ⟨b3, e3, rfl, -, f⟩ := fits_int f
  obtain ⟨b4, e4, rfl, -, f⟩ := fits_int f
  obtain ⟨b5, e5, rfl, -, f⟩ := fits_int f
  obtain ⟨b6, e6, rfl, -, f⟩ := fits_int f
  obtain ⟨b7, e7, rfl, -, f⟩ := fits_int f
  obtain rfl := fits_nil f
  exact ⟨⟨a0, a1, a2, a3, a4, a5, a6, a7, a8, a9, b0, b1, b2, b3, b4, b5, b6, b7⟩, rfl⟩
/-- Tracks in sight; of no tracks, whatever the place. -/
def TrR (w : World) (v : Value) (ts : List Trk) : Prop := RdR trkR w v ts ∨ ts = [] ∧ ∃ ao cap, v = .slice ao 0 cap
theorem TrR.below {w w' : World} {v : Value} {ts : List Trk} (h : TrR w v ts) (hb : Below w.heap.size w w') : TrR w' v ts := h.imp (fun h => h.below hb) id
theorem TrR.lenOf {w : World} {v : Value} {ts : List Trk} (h : TrR w v ts) : ∃ ao cap, v = .slice ao ts.length cap := by
  rcases h with h | ⟨rfl, h⟩
  · exact h.lenOf
  · exact h
section
variable {H : Type} {enc : TypeId × Value → H} {w : World} {base : Nat} {held : Bool}
set_option maxRecDepth 100000 in
theorem open_tracks {v : Value} {d : DataW H} {p : List MemPlace} {r : Reach} {b0 : Nat}
    (hv : Value.okWide Tryz.prog w r b0 23 v) (h : DataW.Trod enc Tryz.prog w base (fun _ => true) held 23 v d p) : ∃ l : List Trk, TrR w v l ∧ l.length ≤ maxLen := by
  have hl : leaves Tryz.prog 4 85 = some (List.replicate 18 (some .i64)) := by kernel_rfl
  obtain ⟨ls, hls⟩ : ∃ ls, ls = List.replicate 18 (some IntKind.i64) := ⟨_, rfl⟩
  have hll : ls.length = 18 := by rw [hls]; rfl
  rw [← hls] at hl
  rcases open_flats (e := 85) 4 Tryz.underlying23 hl (by rw [hll]; kernel_rfl) hv h with rfl | ⟨a, len, cap, C, rfl, hle, hm, hC⟩
  · exact ⟨[], .inr ⟨rfl, none, 0, rfl⟩, by simp⟩
  · obtain ⟨T, hT⟩ := choose_lt (α := Trk) (p := fun i x => C i = trkR.f x) (fun i hi => fits_track (by have := (hC i hi).1; rwa [hls] at this))
    rw [hll] at hC
    have hlen : ((List.range len).map T).length = len := by simp
    by_cases h0 : len = 0
    · subst h0
      exact ⟨[], .inr ⟨rfl, _, _, rfl⟩, by simp⟩
    · have g0 := (hC 0 (by omega)).2 0 (by omega)
      rw [hT 0 (by omega)] at g0
      have g1 : w.cell? (a.add (0 * 18 + 0)) = some (.int .i64 (T 0).most) := g0
      have hsp := World.cell?_spot g1
      obtain ⟨blk, off, spot⟩ := a
      have hspot : spot = none := by simpa [Addr.add] using hsp
      subst hspot
      have hblk : blk < w.heap.size := by
        have h2 : w.cell? ⟨blk, off, none⟩ = some (.int .i64 (T 0).most) := by simpa [Addr.add] using g1
        rw [World.cell?] at h2
        cases hb : w.heap[blk]? with
        | none => rw [hb] at h2; cases h2
        | some o => exact (Array.getElem?_eq_some_iff.1 hb).1
      refine ⟨(List.range len).map T, .inl (.inr ⟨blk, off, cap, by rw [hlen], by rw [hlen]; exact hle, hblk, fun j u hj => ?_⟩), by rw [hlen]; omega⟩
      have hjl := (List.getElem?_eq_some_iff.1 hj).1
      rw [trkR.all_len, hlen] at hjl
      have hjl' : j < len * 18 := hjl
      have hi : j / 18 < len := by omega
      have hj18 : j % 18 < 18 := Nat.mod_lt _ (by omega)
      have hc := (hC (j / 18) (by omega)).2 (j % 18) hj18
      rw [hT (j / 18) (by omega)] at hc
      have hat := trkR.all_at (xs := (List.range len).map T) (i := j / 18) (by rw [hlen]; exact hi) hj18
      rw [show j / 18 * trkR.k + j % 18 = j by show j / 18 * 18 + j % 18 = j; omega] at hat
      rw [show j / 18 * 18 + j % 18 = j by omega] at hc
      rw [hat] at hj
      simp only [List.getElem_map, List.getElem_range] at hj
      rw [hj] at hc
      have e : w.cell? ⟨blk, off + j, none⟩ = w.cell? (Addr.add ⟨blk, off, none⟩ j) := by
        by_cases hj0 : j = 0
        · subst hj0; simp [Addr.add]
        · simp [Addr.add, hj0]
      rw [e]; exact hc
end
end Go.Proofs.YteioacpfphigjaaGreat
end

section
namespace Go.Proofs.YteioacpfphigjaaGreat
open Go.RowKit Go.Maps
set_option linter.unusedVariables false
set_option linter.unusedSimpArgs false

theorem newB_nil : newB [] = false := rfl
/-- What a making of tracks comes to. -/
def TrkRet (ts : List Trk) (w : World) (e : Ending) (w' : World) : Prop :=
  Below w.heap.size w w' ∧ ((newB ts = true ∧ ∃ r, e = .returned (.tuple #[.pointer (some ⟨r, 0, none⟩), .int .i64 0])) ∨ (newB ts = false ∧ e = .returned (.tuple #[.pointer none, .int .i64 1])))
theorem refer_NewV {u : Value} {ts : List Trk} {w : World} (hr : TrR w u ts) (hl : ts.length ≤ 100) : Calls Tryz.prog 9 #[u] w (TrkRet ts w) := by
  have hr' : (ts = [] ∧ ∃ ao cap, u = .slice ao 0 cap) ∨ ∃ b off cap, u = .slice (some ⟨b, off, none⟩) ts.length cap ∧ ts.length ≤ cap ∧ b < w.heap.size ∧ w.rangeAt b off (trkR.all ts) := by
    rcases hr with (⟨rfl, rfl⟩ | h) | h
    · exact .inl ⟨rfl, none, 0, rfl⟩
    · exact .inr h
    · exact .inl h
  clear hr
  rcases hr' with ⟨rfl, ao, cap, rfl⟩ | ⟨b, o, cap, rfl, hc, hb, hcell⟩
  · have hd : decide ((1 : Int) ≤ 0 ∧ (0 : Int) ≤ 4) = false := by decide
    have HD := Lib.hid hd
    clear hd
    go_enter Tryz.func9, Tryz.ntmps9
    go_wp2_with (first
      | (go_at_call 24; refine (bound_Within _ _ _ _).mono ?_; rw [HD.out]; rintro e w' ⟨rfl, hw⟩; rw [hw]; clear hw w')
      | fail)
    exact bodyPost_ret (v := .tuple #[.pointer none, .int .i64 1]) (by simp [results, Tryz.results9, go_sem]) rfl ⟨Below.refl _ _, .inr ⟨rfl, rfl⟩⟩
  · refine (refer_NewO (ts := ts) (b := b) (o := o) (cap := cap) hcell hb hc hl).mono ?_
    rintro e w' ⟨hB, ⟨h1, r, gb, rfl, -⟩ | ⟨h1, rfl⟩⟩
    · exact ⟨hB, .inl ⟨h1, r, rfl⟩⟩
    · exact ⟨hB, .inr ⟨h1, rfl⟩⟩
theorem ref12_NewV {u : Value} {ts : List Trk} {w : World} (hr : TrR w u ts) (hl : ts.length ≤ 100) : Calls Tryz.prog 14 #[u] w (TrkRet ts w) := by
  have hr' : (ts = [] ∧ ∃ ao cap, u = .slice ao 0 cap) ∨ ∃ b off cap, u = .slice (some ⟨b, off, none⟩) ts.length cap ∧ ts.length ≤ cap ∧ b < w.heap.size ∧ w.rangeAt b off (trkR.all ts) := by
    rcases hr with (⟨rfl, rfl⟩ | h) | h
    · exact .inl ⟨rfl, none, 0, rfl⟩
    · exact .inr h
    · exact .inl h
  clear hr
  rcases hr' with ⟨rfl, ao, cap, rfl⟩ | ⟨b, o, cap, rfl, hc, hb, hcell⟩
  · go_enter Tryz.func14, Tryz.ntmps14
    go_wp2_with fail
    exact bodyPost_ret (v := .tuple #[.pointer none, .int .i64 1]) (by simp [results, Tryz.results14, go_sem]) rfl ⟨Below.refl _ _, .inr ⟨rfl, rfl⟩⟩
  · exact ref12_NewO (ts := ts) (b := b) (o := o) (cap := cap) hcell hb hc hl
/-- May there be a chain of these? -/
def cnB (l : List Int) (ts : List Trk) : Prop := newOk l ∧ newB ts = true
set_option maxRecDepth 100000 in
set_option maxHeartbeats 4000000 in
theorem chain_NewX {v u : Value} {l : List Int} {ts : List Trk} {w : World} (hr : RdI w v l) (hl : l.length ≤ 1000) (ht : TrR w u ts) (hn : ts.length ≤ 100) : Calls Tryz.prog 4 #[v, u] w fun e w' =>
    Below w.heap.size w w' ∧ ((cnB l ts ∧ ∃ c, e = .returned (.tuple #[.pointer (some ⟨c, 0, none⟩), .int .i64 0]) ∧ w'.cell? ⟨c, 5, none⟩ = some (.int .i64 0) ∧ c < w'.heap.size) ∨ (¬ cnB l ts ∧ e = .returned (.tuple #[.pointer none, .int .i64 1]))) := by
  have hlm : l.length ≤ maxLen := by unfold maxLen; omega
  have HR := Lib.hid (And.intro hr (And.intro hlm (And.intro ht hn)))
  by_cases hok : newOk l
  · cases hB : newB ts
    · have HK := Lib.hid (And.intro hok hB)
      clear hr hl ht hn hok hB hlm
      go_enter Tryz.func4, Tryz.ntmps4
      go_wp2_with (first
        | (go_at_call 8; refine (ledger_New_ok HR.out.1 HR.out.2.1 HK.out.1).mono ?_; rintro e w1 ⟨g, gl, rfl, -, hb⟩; have H1 := Lib.hid hb; clear hb)
        | (go_at_call 9; refine (refer_NewV (HR.out.2.2.1.below H1.out) HR.out.2.2.2).mono ?_; rintro e w2 ⟨hb, ⟨hno, -⟩ | ⟨-, rfl⟩⟩; exact absurd (hno.symm.trans HK.out.2) (by decide); have H2 := Lib.hid hb; clear hb)
        | fail)
      exact bodyPost_ret (v := .tuple #[.pointer none, .int .i64 1]) (by simp [results, Tryz.results4, go_sem]) rfl ⟨H1.out.trans (H2.out.mono H1.out.size), .inr ⟨fun h => absurd (h.2.symm.trans HK.out.2) (by decide), rfl⟩⟩
    · have HK := Lib.hid (And.intro hok hB)
      clear hr hl ht hn hok hB hlm
      go_enter Tryz.func4, Tryz.ntmps4
      go_wp2_with (first
        | (go_at_call 8; refine (ledger_New_ok HR.out.1 HR.out.2.1 HK.out.1).mono ?_; rintro e w1 ⟨g, gl, rfl, -, hb⟩; have H1 := Lib.hid hb; clear hb)
        | (go_at_call 9; refine (refer_NewV (HR.out.2.2.1.below H1.out) HR.out.2.2.2).mono ?_; rintro e w2 ⟨hb, ⟨-, r, rfl⟩ | ⟨hno, -⟩⟩; rotate_left; exact absurd (hno.symm.trans HK.out.2) (by decide); have H2 := Lib.hid hb; clear hb)
        | (go_at_call 10; refine (voting_New _).mono ?_; rintro e w3 ⟨vb, rfl, hb⟩; have H3 := Lib.hid hb; clear hb)
        | (go_at_call 11; refine (pre_New _).mono ?_; rintro e w4 ⟨pb, rfl, hb⟩; have H4 := Lib.hid hb; clear hb)
        | (go_at_call 12; refine (agenda_New0 _).mono ?_; rintro e w5 ⟨ab, rfl, -, -, hb⟩; have H5 := Lib.hid hb; clear hb)
        | fail)
      have hb2 := H1.out.trans (H2.out.mono H1.out.size)
      have hb3 := hb2.trans (H3.out.mono hb2.size)
      have hb4 := hb3.trans (H4.out.mono hb3.size)
      have hb5 := hb4.trans (H5.out.mono hb4.size)
      refine bodyPost_ret (v := .tuple #[.pointer (some ⟨w5.heap.size, 0, none⟩), .int .i64 0]) (by simp [results, Tryz.results4, go_sem]) rfl ⟨hb5.alloc hb5.size _, .inl ⟨HK.out, _, rfl, ?_, by simp⟩⟩
      rw [World.cell?, World.alloc_heap_new]; rfl
  · have HK := Lib.hid hok
    clear hr hl ht hn hok hlm
    go_enter Tryz.func4, Tryz.ntmps4
    go_wp2_with (first
      | (go_at_call 8; refine (ledger_New_bad HR.out.1 HR.out.2.1 HK.out).mono ?_; rintro e w1 ⟨rfl, hb⟩; have H1 := Lib.hid hb; clear hb)
      | fail)
    exact bodyPost_ret (v := .tuple #[.pointer none, .int .i64 1]) (by simp [results, Tryz.results4, go_sem]) rfl ⟨H1.out, .inr ⟨fun h => HK.out h.1, rfl⟩⟩
set_option maxRecDepth 100000 in
set_option maxHeartbeats 4000000 in
theorem ref14_New {v u : Value} {l : List Int} {ts : List Trk} {w : World} (hr : RdI w v l) (hl : l.length ≤ 1000) (ht : TrR w u ts) (hn : ts.length ≤ 100) : Calls Tryz.prog 5 #[v, u] w fun e w' =>
    Below w.heap.size w w' ∧ ((cnB l ts ∧ ∃ c, e = .returned (.tuple #[.pointer (some ⟨c, 0, none⟩), .int .i64 0])) ∨ (¬ cnB l ts ∧ e = .returned (.tuple #[.pointer none, .int .i64 1]))) := by
  have HR := Lib.hid (And.intro hr (And.intro hl (And.intro ht hn)))
  by_cases hok : newOk l
  · cases hB : newB ts
    · have HK := Lib.hid (And.intro hok hB)
      clear hr hl ht hn hok hB
      go_enter Tryz.func5, Tryz.ntmps5
      go_wp2_with (first
        | (go_at_call 13; refine (ref6_NewX _ l _ HR.out.1 HR.out.2.1).mono ?_; rintro e w1 ⟨hb, ⟨-, g, rfl⟩ | ⟨hno, -⟩⟩; rotate_left; exact absurd HK.out.1 hno; have H1 := Lib.hid hb; clear hb)
        | (go_at_call 14; refine (ref12_NewV (HR.out.2.2.1.below H1.out) HR.out.2.2.2).mono ?_; rintro e w2 ⟨hb, ⟨hno, -⟩ | ⟨-, rfl⟩⟩; exact absurd (hno.symm.trans HK.out.2) (by decide); have H2 := Lib.hid hb; clear hb)
        | fail)
      exact bodyPost_ret (v := .tuple #[.pointer none, .int .i64 1]) (by simp [results, Tryz.results5, go_sem]) rfl ⟨H1.out.trans (H2.out.mono H1.out.size), .inr ⟨fun h => absurd (h.2.symm.trans HK.out.2) (by decide), rfl⟩⟩
    · have HK := Lib.hid (And.intro hok hB)
      clear hr hl ht hn hok hB
      go_enter Tryz.func5, Tryz.ntmps5
      go_wp2_with (first
        | (go_at_call 13; refine (ref6_NewX _ l _ HR.out.1 HR.out.2.1).mono ?_; rintro e w1 ⟨hb, ⟨-, g, rfl⟩ | ⟨hno, -⟩⟩; rotate_left; exact absurd HK.out.1 hno; have H1 := Lib.hid hb; clear hb)
        | (go_at_call 14; refine (ref12_NewV (HR.out.2.2.1.below H1.out) HR.out.2.2.2).mono ?_; rintro e w2 ⟨hb, ⟨-, r, rfl⟩ | ⟨hno, -⟩⟩; rotate_left; exact absurd (hno.symm.trans HK.out.2) (by decide); have H2 := Lib.hid hb; clear hb)
        | (go_at_call 15; refine (ref11_New _).mono ?_; rintro e w3 ⟨py, rfl, hb⟩; have H3 := Lib.hid hb; clear hb)
        | fail)
      have hb2 := H1.out.trans (H2.out.mono H1.out.size)
      have hb3 := hb2.trans (H3.out.mono hb2.size)
      exact bodyPost_ret (v := .tuple #[.pointer (some ⟨w3.heap.size + 1 + 1, 0, none⟩), .int .i64 0]) (by simp [results, Tryz.results5, go_sem]) rfl ⟨((hb3.alloc hb3.size _).alloc (by have := hb3.size; rw [World.size_alloc]; omega) _).alloc (by have := hb3.size; rw [World.size_alloc, World.size_alloc]; omega) _, .inl ⟨HK.out, _, rfl⟩⟩
  · have HK := Lib.hid hok
    clear hr hl ht hn hok
    go_enter Tryz.func5, Tryz.ntmps5
    go_wp2_with (first
      | (go_at_call 13; refine (ref6_NewX _ l _ HR.out.1 HR.out.2.1).mono ?_; rintro e w1 ⟨hb, ⟨hno, -⟩ | ⟨-, rfl⟩⟩; exact absurd hno HK.out; have H1 := Lib.hid hb; clear hb)
      | fail)
    exact bodyPost_ret (v := .tuple #[.pointer none, .int .i64 1]) (by simp [results, Tryz.results5, go_sem]) rfl ⟨H1.out, .inr ⟨fun h => HK.out h.1, rfl⟩⟩
set_option maxRecDepth 100000 in
set_option maxHeartbeats 4000000 in
theorem chainNew_walk (v u : Value) (l : List Int) (ts : List Trk) (w : World) (hr : RdI w v l) (ht : TrR w u ts) :
    Calls Tryz.prog 3 #[v, u] w fun e w' => e = .returned (.bool true) ∧ Below w.heap.size w w' := by
  have HR := Lib.hid (And.intro hr ht)
  obtain ⟨ao, cap, rfl⟩ := hr.lenOf
  obtain ⟨ao2, cap2, rfl⟩ := ht.lenOf
  obtain ⟨n, hn⟩ : ∃ n, n = l.length := ⟨_, rfl⟩
  obtain ⟨m, hm⟩ : ∃ m, m = ts.length := ⟨_, rfl⟩
  rw [← hn, ← hm] at HR ⊢
  clear hr ht
  by_cases h1 : 30 < n
  · have d1 : decide ((30 : Int) < (n : Int)) = true := by simp; omega
    clear HR
    go_enter Tryz.func3, Tryz.ntmps3
    go_wp2_with fail
    exact bodyPost_ret (v := .bool true) (by simp [results, Tryz.results3, go_sem]) rfl ⟨rfl, Below.refl _ _⟩
  have d1 : decide ((30 : Int) < (n : Int)) = false := by simp; omega
  by_cases h2 : 10 < m
  · have d2 : decide ((10 : Int) < (m : Int)) = true := by simp; omega
    clear HR
    go_enter Tryz.func3, Tryz.ntmps3
    go_wp2_with fail
    exact bodyPost_ret (v := .bool true) (by simp [results, Tryz.results3, go_sem]) rfl ⟨rfl, Below.refl _ _⟩
  have d2 : decide ((10 : Int) < (m : Int)) = false := by simp; omega
  have HL := Lib.hid (show l.length ≤ 1000 ∧ ts.length ≤ 100 by omega)
  clear hn hm h1 h2
  by_cases hk : cnB l ts
  · have HK := Lib.hid hk
    clear hk
    go_enter Tryz.func3, Tryz.ntmps3
    go_wp2_with (first
      | (go_at_call 4; refine (chain_NewX HR.out.1 HL.out.1 HR.out.2 HL.out.2).mono ?_; rintro e w1 ⟨hb, ⟨-, c, rfl, h5, hc⟩ | ⟨hno, -⟩⟩; rotate_left; exact absurd HK.out hno; have H1 := Lib.hid (And.intro hb (And.intro h5 hc)); clear hb h5 hc)
      | (go_at_call 5; refine (ref14_New (HR.out.1.below H1.out.1) HL.out.1 (HR.out.2.below H1.out.1) HL.out.2).mono ?_; rintro e w2 ⟨hb, ⟨-, x, rfl⟩ | ⟨hno, -⟩⟩; rotate_left; exact absurd HK.out hno; have H2 := Lib.hid hb; clear hb)
      | (go_at_call 6; refine (chain_Now ((World.cell?_of_block (H2.out.block _ H1.out.2.2)).trans H1.out.2.1)).mono ?_; rintro e w3 ⟨rfl, hw⟩; rw [hw]; clear hw w3)
      | (go_at_call 7; refine (law14_known _).mono ?_; rintro e w4 ⟨rfl, hb⟩; have H4 := Lib.hid hb; clear hb)
      | fail)
    have hb2 := H1.out.1.trans (H2.out.mono H1.out.1.size)
    exact bodyPost_ret (v := .bool true) (by simp [results, Tryz.results3, go_sem]) rfl ⟨rfl, hb2.trans (H4.out.mono hb2.size)⟩
  · have HK := Lib.hid hk
    clear hk
    go_enter Tryz.func3, Tryz.ntmps3
    go_wp2_with (first
      | (go_at_call 4; refine (chain_NewX HR.out.1 HL.out.1 HR.out.2 HL.out.2).mono ?_; rintro e w1 ⟨hb, ⟨hno, -⟩ | ⟨-, rfl⟩⟩; exact absurd hno HK.out; have H1 := Lib.hid hb; clear hb)
      | (go_at_call 5; refine (ref14_New (HR.out.1.below H1.out) HL.out.1 (HR.out.2.below H1.out) HL.out.2).mono ?_; rintro e w2 ⟨hb, ⟨hno, -⟩ | ⟨-, rfl⟩⟩; exact absurd hno HK.out; have H2 := Lib.hid hb; clear hb)
      | (go_at_call 7; refine (law14_known _).mono ?_; rintro e w4 ⟨rfl, hb⟩; have H4 := Lib.hid hb; clear hb)
      | fail)
    have hb2 := H1.out.trans (H2.out.mono H1.out.size)
    exact bodyPost_ret (v := .bool true) (by simp [results, Tryz.results3, go_sem]) rfl ⟨rfl, hb2.trans (H4.out.mono hb2.size)⟩
end Go.Proofs.YteioacpfphigjaaGreat
end
