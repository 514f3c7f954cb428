/-
  Joined texts.
-/
import Derived.Deep.QuietTactic
import Derived.BigQuiet
import Derived.BigRegion
import Derived.RegionTactic
import Derived.Deep.RegionHeld3
import Derived.Test.YtpkamfbjgdmmoaaGreatChecked
import Derived.StillTailTactics
import Derived.Test.YtpkamfbjgdmmoaaGreatMsg

section
namespace Go.Proofs.YtpkamfbjgdmmoaaGreat
open Go.RowKit Go.Maps Go.Shelf
set_option linter.unusedVariables false
set_option linter.unusedSimpArgs false

/-- Numbers of blocks that are told without wrapping. -/
def soon (n : Int) : Prop := -1 ≤ n ∧ n ≤ 1099511627776
/-- The state that an ongoing referendum is in. -/
def outE (t : Trk) (x : Rfm) (now : Int) : Int :=
  if x.si = -1 ∧ 30 ≤ now - x.sb then 4
  else if x.si ≠ -1 ∧ x.un ≠ -1 ∧ x.un ≤ now then 2
  else if x.si ≠ -1 ∧ x.un = -1 ∧ t.dec ≤ now - x.si then 3 else 1
section
variable {r N : Nat} {ts : List Trk} {R R' : List Rfm} {F : FP} {w w' w1 : World}
theorem trk_at {tb : Nat} (h : w.rangeAt tb 0 (trkR.all ts)) {k : Nat} (hk : k < ts.length) : w.rangeAt tb (k * 18) (trkR.f ts[k]) := fun j u hj => by
  have hj18 : j < 18 := by have := (List.getElem?_eq_some_iff.1 hj).1; rwa [trkR.len] at this
  have := h (k * 18 + j) u (by rw [show k * 18 + j = k * trkR.k + j from rfl, trkR.all_at hk hj18]; exact hj)
  rwa [Nat.zero_add] at this
set_option maxRecDepth 100000 in
set_option maxHeartbeats 4000000 in
theorem refer_outcome (h : ReX r N ts R F w) (x : Rfm) {k : Nat} (hk : k < ts.length) (htr : x.tr = k) {now : Int} (hn : soon now) (hsb : soon x.sb) (hsi : soon x.si) : Calls Tryz.prog 59 #[.pointer (some ⟨r, 0, none⟩), .agg (rfS.f x).toArray, .int .i64 now] w fun e w' => e = .returned (.int .i64 (outE ts[k] x now)) ∧ Below w.heap.size w w' := by
  obtain ⟨W0, hW0⟩ : ∃ W0, W0 = w.alloc (.cells (rfS.f x).toArray 56) := ⟨_, rfl⟩
  have hB0 : Below w.heap.size w W0 := by rw [hW0]; exact (Below.refl _ w).alloc (Nat.le_refl _) _
  obtain ⟨rb, hrb⟩ : ∃ rb, rb = w.heap.size := ⟨_, rfl⟩
  obtain ⟨tb, cap, gb, c0, -, htb, htl⟩ := (h.below hB0).cells
  have hx : W0.rangeAt rb 0 (rfF x) := by rw [hW0, hrb]; exact atS rfS w x
  obtain ⟨x0, x1, x34, x35, x36, x37, x38, x39, x40, x41⟩ := rf_at hx
  obtain ⟨t, ht⟩ : ∃ t, t = ts[k] := ⟨_, rfl⟩
  have hrt := trk_at htb hk
  rw [← ht] at hrt ⊢
  have d3 : W0.cell? ⟨tb, k * 18 + 3, none⟩ = some (.int .i64 t.dec) := hrt 3 _ rfl
  obtain ⟨si, hsi'⟩ : ∃ si, si = x.si := ⟨_, rfl⟩
  obtain ⟨un, hun'⟩ : ∃ un, un = x.un := ⟨_, rfl⟩
  obtain ⟨sb, hsb'⟩ : ∃ sb, sb = x.sb := ⟨_, rfl⟩
  obtain ⟨dc, hdc⟩ : ∃ dc, dc = t.dec := ⟨_, rfl⟩
  obtain ⟨n, hn'⟩ : ∃ n, n = ts.length := ⟨_, rfl⟩
  have eE : outE t x now = if si = -1 ∧ 30 ≤ now - sb then 4 else if si ≠ -1 ∧ un ≠ -1 ∧ un ≤ now then 2 else if si ≠ -1 ∧ un = -1 ∧ dc ≤ now - si then 3 else 1 := by unfold outE; rw [hsi', hun', hsb', hdc]
  obtain ⟨EE, hEE⟩ : ∃ E, E = outE t x now := ⟨_, rfl⟩
  rw [← hEE]
  rw [eE] at hEE
  have HEE := Lib.hid hEE
  clear hEE
  rw [← hsi'] at x39 hsi
  rw [← hun'] at x40
  rw [← hsb'] at x35 hsb
  rw [htr] at x1
  rw [← hdc] at d3
  rw [← hn'] at c0 hk
  unfold soon at hn hsb hsi
  have wr1 : IntKind.i64.wrap (now - sb) = now - sb := IntWalk.i64_in _ (by omega)
  have wr2 : IntKind.i64.wrap (now - si) = now - si := IntWalk.i64_in _ (by omega)
  have hkI : (k : Int) < n := by omega
  have HW0 := Lib.hid (And.intro hW0 hrb)
  have HB0 := Lib.hid hB0
  clear h htb hx x0 x34 x36 x37 x38 x41 hrt hsi' hun' hsb' hdc hn' eE hn hsb hsi hW0 hrb hB0 htr ht hk
  go_enter Tryz.func59, Tryz.ntmps59
  go_upto_region 1 with fail
  rw [← HW0.out.1, ← HW0.out.2]
  have fin : ∀ (E : Int) (W' : World), Below w.heap.size W0 W' → EE = E → Ending.returned (.int .i64 E) = .returned (.int .i64 EE) ∧ Below w.heap.size w W' := fun E W' hb h => ⟨by rw [h], HB0.out.trans hb⟩
  have FIN := Lib.hid fin
  clear fin
  by_cases q1 : si = -1
  · have b1 : (si != -1) = false := by simp [q1]
    have HQ := Lib.hid q1
    clear q1
    go_quiet (fail)
    go_wp2_with fail
    all_goals
      first
        | (go_ret; exact FIN.out _ _ (by first | exact below_dn (Below.refl _ _) _ | exact below_dn (below_dn (Below.refl _ _) _) _) (by have hq := HQ.out; rw [HEE.out]; split <;> first | rfl | (exfalso; omega) | (split <;> first | rfl | (exfalso; omega) | (split <;> first | rfl | (exfalso; omega)))))
        | (go_quiet (fail); go_wp2_with fail; all_goals (go_ret; exact FIN.out _ _ (by first | exact below_dn (Below.refl _ _) _ | exact below_dn (below_dn (Below.refl _ _) _) _) (by have hq := HQ.out; rw [HEE.out]; split <;> first | rfl | (exfalso; omega) | (split <;> first | rfl | (exfalso; omega) | (split <;> first | rfl | (exfalso; omega))))))
        | fail
  · have b1 : (si != -1) = true := by simp [q1]
    by_cases q2 : un = -1
    · have b2 : (un != -1) = false := by simp [q2]
      have HQ := Lib.hid (And.intro q1 q2)
      clear q1 q2
      go_quiet (fail)
      go_wp2_with fail
      all_goals
        first
          | (go_ret; exact FIN.out _ _ (by first | exact below_dn (Below.refl _ _) _ | exact below_dn (below_dn (Below.refl _ _) _) _) (by have hq := HQ.out; rw [HEE.out]; split <;> first | rfl | (exfalso; omega) | (split <;> first | rfl | (exfalso; omega) | (split <;> first | rfl | (exfalso; omega)))))
          | (go_quiet (fail); go_wp2_with fail; all_goals (go_ret; exact FIN.out _ _ (by first | exact below_dn (Below.refl _ _) _ | exact below_dn (below_dn (Below.refl _ _) _) _) (by have hq := HQ.out; rw [HEE.out]; split <;> first | rfl | (exfalso; omega) | (split <;> first | rfl | (exfalso; omega) | (split <;> first | rfl | (exfalso; omega))))))
          | fail
    · have b2 : (un != -1) = true := by simp [q2]
      have HQ := Lib.hid (And.intro q1 q2)
      clear q1 q2
      go_quiet (fail)
      go_wp2_with fail
      all_goals
        first
          | (go_ret; exact FIN.out _ _ (by first | exact below_dn (Below.refl _ _) _ | exact below_dn (below_dn (Below.refl _ _) _) _) (by have hq := HQ.out; rw [HEE.out]; split <;> first | rfl | (exfalso; omega) | (split <;> first | rfl | (exfalso; omega) | (split <;> first | rfl | (exfalso; omega)))))
          | (go_quiet (fail); go_wp2_with fail; all_goals (go_ret; exact FIN.out _ _ (by first | exact below_dn (Below.refl _ _) _ | exact below_dn (below_dn (Below.refl _ _) _) _) (by have hq := HQ.out; rw [HEE.out]; split <;> first | rfl | (exfalso; omega) | (split <;> first | rfl | (exfalso; omega) | (split <;> first | rfl | (exfalso; omega))))))
          | fail
end
end Go.Proofs.YtpkamfbjgdmmoaaGreat
end

section
namespace Go.Proofs.YtpkamfbjgdmmoaaGreat
open Go.RowKit Go.Maps Go.Shelf
set_option linter.unusedVariables false
set_option linter.unusedSimpArgs false

/-- A poll's tally, nothing of what is none. -/
def tallyOf (S : Vs) (r : Int) : Tl := if plHas S.P r then (S.P r.toNat).t else ⟨0, 0, 0⟩
theorem VoX.Tally {vb N : Nat} {S : Vs} {F : FP} {w : World} (h : VoX vb N S F w) (r : Int) : Calls Tryz.prog 19 #[.pointer (some ⟨vb, 0, none⟩), .int .i64 r] w fun e w' => e = .returned (.agg (tlyS.f (tallyOf S r)).toArray) ∧ Below w.heap.size w w' := by
  obtain ⟨gv, gd, gw, gp, FV, FD, FW, FQ, h1, h2⟩ := h
  refine (voting_Tally h1.blk r).mono fun e w' ⟨he, hb⟩ => ⟨?_, hb⟩
  rw [he]
  have e : (if (plPtr vb S.P r).isSome then (S.P r.toNat).t else tlyS.zero) = tallyOf S r := by
    unfold tallyOf
    by_cases hh : plHas S.P r
    · obtain ⟨k, -, -, -, hp⟩ := plPtr_has (vb := vb) hh
      rw [hp, if_pos hh]; rfl
    · rw [plPtr_none hh, if_neg hh]; rfl
  rw [e]; rfl
/-- Until when an ongoing referendum is confirmed from now on. -/
def cfmU (t : Trk) (tl : Tl) (is : Int) (x : Rfm) (now : Int) : Int :=
  if x.si = -1 ∨ passB t tl.a tl.n tl.s is (now - x.si) = false then -1 else if x.un = -1 then now + t.conf else x.un
theorem cell_lt {w : World} {b o : Nat} {v : Value} (h : w.cell? ⟨b, o, none⟩ = some v) : b < w.heap.size := by
  cases Nat.lt_or_ge b w.heap.size with
  | inl h' => exact h'
  | inr h' => rw [World.cell?, Array.getElem?_eq_none h'] at h; cases h
def allocTrk (h : Bool) (v : Value) : Sem Value := Instr.alloc 26 h v
theorem alloc_trk (h : Bool) (v : Value) : Instr.alloc 26 h v = allocTrk h v := rfl
theorem zeroTrk : ∃ Z : Array Value, ((Tryz.prog.info? 26).bind (·.zero)) = some (.agg Z) ∧ Z.size = 18 := by
  obtain ⟨i0, z, b, h1, h2, h3, h4, -⟩ := trackInfo
  exact ⟨z, by rw [h1]; exact h2, h4⟩
theorem run_allocTrk {Z : Array Value} (hz : ((Tryz.prog.info? 26).bind (·.zero)) = some (.agg Z)) (v : Value) (w : World) : (allocTrk true v).run Tryz.prog w = .ok (.pointer (some ⟨w.heap.size, 0, none⟩)) (w.alloc (.cells Z 26)) := by
  obtain ⟨i0, hi, hz0⟩ := Option.bind_eq_some_iff.1 hz
  unfold allocTrk
  simp [Instr.alloc, zeroValue, typeInfo, hi, hz0, newVar, newRow, Value.cells, go_sem]
def loadTrk (v : Value) : Sem Value := Instr.loadAt 26 v
theorem load_trk (v : Value) : Instr.loadAt 26 v = loadTrk v := rfl
theorem run_loadTrk {w : World} {b o : Nat} {t : Trk} (h : w.rangeAt b o (trkR.f t)) : (loadTrk (.pointer (some ⟨b, o, none⟩))).run Tryz.prog w = .ok (.agg (trkR.f t).toArray) w := run_loadR (r := trkR) h
def storeTrk (p v : Value) : Sem Unit := Instr.storeAt 26 p v
theorem store_trk (p v : Value) : Instr.storeAt 26 p v = storeTrk p v := rfl
theorem run_storeTrk {w : World} {b : Nat} {t : Trk} {C : Array Value} (hh : w.heap[b]? = some (.cells C 26 (0, 0))) (hC : C.size = 18) : (storeTrk (.pointer (some ⟨b, 0, none⟩)) (.agg (trkR.f t).toArray)).run Tryz.prog w = .ok () (w.setRow b (trkR.f t).toArray) := run_storeR (r := trkR) hh hC
set_option maxRecDepth 100000 in
set_option maxHeartbeats 4000000 in
attribute [local go_sem ↓] alloc_trk load_trk store_trk in
theorem refer_confirming {r g vb N : Nat} {ts : List Trk} {R : List Rfm} {S : Vs} {A : Acc} {M : Cls Int} {Z : FP} {w : World} (h : RvAt r g vb N ts R S A M Z w) (ref : Int) (x : Rfm) {k : Nat} (hk : k < ts.length) (htr : x.tr = k) {now : Int} (hn : soon now) (hsi : soon x.si) (hle : x.si ≤ now) (hok : trackB (ts[k]) = true) (hf : x.si ≠ -1 → Fits10 (tallyOf S ref).a (tallyOf S ref).n (tallyOf S ref).s (sumTo A 10)) :
    Calls Tryz.prog 58 #[.pointer (some ⟨r, 0, none⟩), .pointer (some ⟨g, 0, none⟩), .pointer (some ⟨vb, 0, none⟩), .int .i64 ref, .agg (rfS.f x).toArray, .int .i64 now] w fun e w' => e = .returned (.int .i64 (cfmU ts[k] (tallyOf S ref) (sumTo A 10) x now)) ∧ Below w.heap.size w w' := by
  obtain ⟨W0, hW0⟩ : ∃ W0, W0 = w.alloc (.cells (rfS.f x).toArray 56) := ⟨_, rfl⟩
  have hB0 : Below w.heap.size w W0 := by rw [hW0]; exact (Below.refl _ w).alloc (Nat.le_refl _) _
  obtain ⟨rb, hrb⟩ : ∃ rb, rb = w.heap.size := ⟨_, rfl⟩
  obtain ⟨FR, hre, -⟩ := (h.below hB0).re
  obtain ⟨F, hvo, -⟩ := (h.below hB0).vo
  obtain ⟨FL, hld, -⟩ := (h.below hB0).ld
  obtain ⟨tb, cap, gb, c0, -, htb, htl⟩ := hre.cells
  have hrl : r < W0.heap.size := hre.lt hre.own
  have hx : W0.rangeAt rb 0 (rfF x) := by rw [hW0, hrb]; exact atS rfS w x
  have hrbl : rb < W0.heap.size := by rw [hW0, hrb]; simp
  obtain ⟨t, ht⟩ : ∃ t, t = ts[k] := ⟨_, rfl⟩
  have hrt := trk_at htb hk
  rw [← ht] at hrt hok ⊢
  obtain ⟨tl, htl'⟩ : ∃ tl, tl = tallyOf S ref := ⟨_, rfl⟩
  obtain ⟨is, his⟩ : ∃ is, is = sumTo A 10 := ⟨_, rfl⟩
  obtain ⟨EE, hEE⟩ : ∃ E, E = cfmU t tl is x now := ⟨_, rfl⟩
  rw [← htl', ← his] at hf ⊢
  rw [← hEE]
  obtain ⟨n, hn'⟩ : ∃ n, n = ts.length := ⟨_, rfl⟩
  rw [← hn'] at c0 hk
  have hkI : (k : Int) < n := by omega
  obtain ⟨Zt, hZt, hZs⟩ := zeroTrk
  have RA := run_allocTrk hZt
  obtain ⟨x0, x1, x34, x35, x36, x37, x38, x39, x40, x41⟩ := rf_at hx
  rw [htr] at x1
  have hkr : ∀ W' : World, (∀ j, j < W0.heap.size → W'.heap[j]? = W0.heap[j]?) → W'.cell? ⟨r, 0, none⟩ = some (.slice (some ⟨tb, 0, none⟩) n cap) ∧ W'.cell? ⟨rb, 1, none⟩ = some (.int .i64 k) ∧ (loadTrk (.pointer (some ⟨tb, k * 18, none⟩))).run Tryz.prog W' = .ok (.agg (trkR.f t).toArray) W' := fun W' he =>
    ⟨(World.cell?_of_block (a := ⟨r, 0, none⟩) (he r hrl)).trans c0, (World.cell?_of_block (a := ⟨rb, 1, none⟩) (he rb hrbl)).trans x1, run_loadTrk (rangeAt_block hrt (he tb htl))⟩
  have HKR := Lib.hid hkr
  have ST1 := run_storeTrk (w := (W0.alloc (.cells Zt 26)).drew) (b := W0.heap.size) (t := t) (World.alloc_heap_new W0 _) hZs
  have hb1 : Below W0.heap.size W0 ((W0.alloc (.cells Zt 26)).drew.setRow W0.heap.size (trkR.f t).toArray) := ⟨rfl, rfl, rfl, by simp [World.setRow, World.drew], fun j hj => (setRow_other _ _ _ _ (by omega)).trans (Below.heap_alloc _ _ _ hj)⟩
  have hr1 : ((W0.alloc (.cells Zt 26)).drew.setRow W0.heap.size (trkR.f t).toArray).rangeAt W0.heap.size 0 (trkR.f t) := rangeAt_whole (T := 26) (setRow_heap _ _ _ _ _ _ (World.alloc_heap_new W0 _))
  have K0 := Lib.hid (HKR.out W0.drew (fun _ _ => rfl))
  have K1 := Lib.hid (HKR.out (W0.alloc (.cells Zt 26)).drew (fun j hj => Below.heap_alloc _ _ _ hj))
  have K2 := Lib.hid (HKR.out _ (fun j hj => hb1.block j hj))
  have HB1 := Lib.hid (And.intro hb1 hr1)
  have HX := Lib.hid (And.intro hx (And.intro hrbl (And.intro hB0 (And.intro hre (And.intro hvo hld)))))
  have HW0 := Lib.hid (And.intro hW0 hrb)
  have HH := Lib.hid (And.intro htl' (And.intro his (And.intro hEE (And.intro hf (And.intro hle (And.intro hok (And.intro hn hsi)))))))
  clear h hre hvo hld htb htl hrl hx x0 x34 x35 x36 x37 x38 x39 x40 x41 hrt hkr hb1 hr1 hrbl hB0 hW0 hrb htl' his hEE hf hle hok hn hsi hn' ht htr hk hZt hZs x1 c0
  go_enter Tryz.func58, Tryz.ntmps58
  go_upto_region 1 with fail
  rw [← HW0.out.1, ← HW0.out.2]
  have mixed : Tryz.prog.follows .mixedOrders = true := by kernel_rfl
  go_region_held3 (fun w' => w'.cell? ⟨r, 0, none⟩ = some (.slice (some ⟨tb, 0, none⟩) n cap) ∧ w'.cell? ⟨rb, 1, none⟩ = some (.int .i64 k) ∧ (loadTrk (.pointer (some ⟨tb, k * 18, none⟩))).run Tryz.prog w' = .ok (.agg (trkR.f t).toArray) w') (first | exact K0.out | exact K1.out | exact K2.out) (fail)
  obtain ⟨W1, hW1⟩ : ∃ W1, W1 = (W0.alloc (.cells Zt 26)).drew.setRow W0.heap.size (trkR.f t).toArray := ⟨_, rfl⟩
  obtain ⟨b8, hb8⟩ : ∃ b8, b8 = W0.heap.size := ⟨_, rfl⟩
  rw [← hW1, ← hb8]
  obtain ⟨hb1, hr1⟩ := HB1.out
  rw [← hW1] at hb1 hr1
  rw [← hb8] at hr1
  obtain ⟨hx, hrbl, hB0, hre, hvo, hld⟩ := HX.out
  obtain ⟨htl', his, hEE, hf, hle, hok, hn, hsi⟩ := HH.out
  have hb8l : b8 < W1.heap.size := by have := hr1 0 _ (show (trkR.f t)[0]? = some (.int .i64 t.most) from rfl); exact cell_lt this
  have hkr : ∀ W' : World, Below W1.heap.size W1 W' → W'.cell? ⟨rb, 39, none⟩ = some (.int .i64 x.si) ∧ W'.cell? ⟨rb, 40, none⟩ = some (.int .i64 x.un) ∧ W'.cell? ⟨b8, 4, none⟩ = some (.int .i64 t.conf) ∧ (loadTrk (.pointer (some ⟨b8, 0, none⟩))).run Tryz.prog W' = .ok (.agg (trkR.f t).toArray) W' := fun W' hb => by
    have hx1 : W1.rangeAt rb 0 (rfF x) := rangeAt_block hx (hb1.block rb hrbl)
    have hrbl1 : rb < W1.heap.size := Nat.lt_of_lt_of_le hrbl hb1.size
    obtain ⟨-, -, -, -, -, -, -, x39, x40, -⟩ := rf_at (rangeAt_block hx1 (hb.block rb hrbl1))
    have hr2 := rangeAt_block hr1 (hb.block b8 hb8l)
    exact ⟨x39, x40, by have := hr2 4 _ (show (trkR.f t)[4]? = some (.int .i64 t.conf) from rfl); rwa [Nat.zero_add] at this, run_loadTrk hr2⟩
  obtain ⟨y39, y40, y4, yl⟩ := hkr W1 (Below.refl _ _)
  have hT : ∀ W', Below W1.heap.size W1 W' → Calls Tryz.prog 19 #[.pointer (some ⟨vb, 0, none⟩), .int .i64 ref] W' fun e w' => e = .returned (.agg (tlyS.f tl).toArray) ∧ Below W'.heap.size W' w' := fun W' hb => by rw [htl']; exact ((hvo.below hb1).below hb).Tally ref
  have hI : ∀ W', Below W1.heap.size W1 W' → Calls Tryz.prog 72 #[.pointer (some ⟨g, 0, none⟩)] W' fun e w' => e = .returned (.int .i64 is) ∧ Below W'.heap.size W' w' := fun W' hb => by rw [his]; exact ledger_IssuedX ((hld.below hb1).below hb)
  obtain ⟨si, hsi'⟩ : ∃ si, si = x.si := ⟨_, rfl⟩
  obtain ⟨un, hun'⟩ : ∃ un, un = x.un := ⟨_, rfl⟩
  obtain ⟨cf, hcf⟩ : ∃ cf, cf = t.conf := ⟨_, rfl⟩
  unfold cfmU at hEE
  rw [← hsi'] at y39 hsi hle hf hEE
  rw [← hun'] at y40 hEE
  rw [← hcf] at y4 hEE
  rw [← hsi', ← hun', ← hcf] at hkr
  have hcf2 : 0 ≤ cf ∧ cf ≤ 1000 := by
    rw [hcf]
    simp only [trackB, Bool.and_eq_true] at hok
    exact withinB_out hok.1.1.1.1.1.2
  unfold soon at hn hsi
  have wr1 : IntKind.i64.wrap (now - si) = now - si := IntWalk.i64_in _ (by omega)
  have wr2 : IntKind.i64.wrap (now + cf) = now + cf := IntWalk.i64_in _ (by omega)
  have hP : si ≠ -1 → ∀ W', Calls Tryz.prog 98 #[.agg (trkR.f t).toArray, .agg (tlyS.f tl).toArray, .int .i64 is, .int .i64 (now - si)] W' fun e w' => e = .returned (.bool (passB t tl.a tl.n tl.s is (now - si))) ∧ Below W'.heap.size W' w' := fun q W' => track_Passing t tl.a tl.n tl.s is (now - si) W' (hf q) hok (by omega)
  have hBW : ∀ W', Below W1.heap.size W1 W' → Below w.heap.size w W' := fun W' hb => hB0.trans ((hb1.trans (hb.mono hb1.size)).mono hB0.size)
  have fin : ∀ (E : Int) (W' : World), Below W1.heap.size W1 W' → EE = E → Ending.returned (.int .i64 E) = .returned (.int .i64 EE) ∧ Below w.heap.size w W' := fun E W' hb h => ⟨by rw [h], hBW W' hb⟩
  have FIN := Lib.hid fin
  have HKR2 := Lib.hid hkr
  have HT := Lib.hid hT
  have HI := Lib.hid hI
  have HP := Lib.hid hP
  have HEE := Lib.hid hEE
  have HN := Lib.hid (And.intro hle (And.intro hn hsi))
  clear hb1 hr1 hx hrbl hB0 hre hvo hld htl' his hEE hf hle hok hn hsi hkr hT hI hP hBW fin hsi' hun' hcf hb8l hcf2 hW1 hb8 K0 K1 K2 ST1 RA HKR yl
  by_cases q1 : si = -1
  · have b1 : (si == -1) = true := by simp [q1]
    have HQ := Lib.hid q1
    clear q1
    go_wp2_with fail
    go_quiet (fail)
    go_wp2_with fail
    go_ret
    exact FIN.out _ _ (by first | exact below_dn (Below.refl _ _) _ | exact below_dn (below_dn (Below.refl _ _) _) _) (by rw [HEE.out, if_pos (.inl HQ.out)])
  · have b1 : (si == -1) = false := by simp [q1]
    have HQ := Lib.hid q1
    clear q1
    have KK0 := Lib.hid (HKR2.out W1.drew (Below.refl _ W1).drew)
    have KB0 := Lib.hid (show Below W1.heap.size W1 W1.drew from (Below.refl _ W1).drew)
    obtain ⟨ps, hps⟩ : ∃ ps, ps = passB t tl.a tl.n tl.s is (now - si) := ⟨_, rfl⟩
    rw [← hps] at HP HEE
    clear hps
    go_wp2_with fail
    go_region_held3 (fun w' => w'.cell? ⟨rb, 39, none⟩ = some (.int .i64 si) ∧ w'.cell? ⟨rb, 40, none⟩ = some (.int .i64 un) ∧ w'.cell? ⟨b8, 4, none⟩ = some (.int .i64 cf) ∧ (loadTrk (.pointer (some ⟨b8, 0, none⟩))).run Tryz.prog w' = .ok (.agg (trkR.f t).toArray) w') (first | exact KK0.out | exact KK1.out | exact KK2.out | exact KK3.out) (first
      | (go_at_call 19; refine (HT.out _ KB0.out).mono ?_; rintro e w2 ⟨rfl, hb⟩; have KB1 := Lib.hid (KB0.out.trans (hb.mono KB0.out.size)); have KK1 := Lib.hid (HKR2.out _ KB1.out); clear hb)
      | (go_at_call 72; refine (HI.out _ KB1.out).mono ?_; rintro e w3 ⟨rfl, hb⟩; have KB2 := Lib.hid (KB1.out.trans (hb.mono KB1.out.size)); have KK2 := Lib.hid (HKR2.out _ KB2.out); clear hb)
      | (go_at_call 98; refine (HP.out HQ.out _).mono ?_; rintro e w4 ⟨rfl, hb⟩; have KB3 := Lib.hid (KB2.out.trans (hb.mono KB2.out.size)); have KK3 := Lib.hid (HKR2.out _ KB3.out); clear hb)
      | fail)
    cases ps
    · go_wp2_with fail
      go_ret
      exact FIN.out _ _ KB3.out (by rw [HEE.out, if_pos (.inr (by first | rfl | trivial))])
    · by_cases q2 : un = -1
      · have b2 : (un == -1) = true := by simp [q2]
        have HQ2 := Lib.hid q2
        clear q2
        obtain ⟨-, z40, z4, -⟩ := KK3.out
        go_wp2_with fail
        go_ret
        exact FIN.out _ _ KB3.out (by rw [HEE.out, if_neg (fun h => h.elim HQ.out (fun h => by cases h)), if_pos HQ2.out])
      · have b2 : (un == -1) = false := by simp [q2]
        have HQ2 := Lib.hid q2
        clear q2
        obtain ⟨-, z40, z4, -⟩ := KK3.out
        go_wp2_with fail
        go_ret
        exact FIN.out _ _ KB3.out (by rw [HEE.out, if_neg (fun h => h.elim HQ.out (fun h => by cases h)), if_neg HQ2.out])
end Go.Proofs.YtpkamfbjgdmmoaaGreat
end

section
namespace Go.Proofs.YtpkamfbjgdmmoaaGreat
open Go.RowKit
set_option linter.unusedVariables false
set_option linter.unusedSimpArgs false

/-- A call's numbers, and its row of calls. -/
abbrev Lf := Int × Int × Int × Option Addr × Nat × Nat
/-- An event's numbers. -/
abbrev Ev := Int × Int × Int
def evL (x : Ev) : List Value := [.int .i64 x.1, .int .i64 x.2.1, .int .i64 x.2.2]
theorem eventInfo : (Tryz.prog.info? 68).map (fun i => (i.zero, i.size, i.bytes)) = some (some (.agg #[.int .i64 0, .int .i64 0, .int .i64 0]), 3, 24) := by kernel_rfl
def evR : RowTy Tryz.prog Ev where
  T := 68
  S := 48
  k := 3
  f := evL
  len := fun _ => rfl
  one := fun x u hu => by
    simp only [evL, List.mem_cons, List.not_mem_nil, or_false] at hu
    rcases hu with rfl | rfl | rfl <;> rfl
  pos := by decide
  small := by decide
  slice := Tryz.underlying48
  info := by
    obtain ⟨i0, hi, hz⟩ := Option.map_eq_some_iff.1 eventInfo
    simp only [Prod.mk.injEq] at hz
    obtain ⟨h1, h2, h3⟩ := hz
    exact ⟨i0, _, _, hi, h1, h2, rfl, h3, by decide⟩
  row := ⟨_, Tryz.underlying68, rfl⟩
end Go.Proofs.YtpkamfbjgdmmoaaGreat
end

section
namespace Go.Proofs.YtpkamfbjgdmmoaaGreat
open Go.RowKit Go.Maps Go.Shelf
set_option linter.unusedVariables false
set_option linter.unusedSimpArgs false

/-- A referendum that has ended. -/
def endX (x : Rfm) (st now : Int) (t : Tl) : Rfm := { x with st := st, en := now, ay := t.a, na := t.n, su := t.s }
theorem set_tail34 {p t : List Value} (hp : p.length = 34) (n : Nat) (v : Value) : (p ++ t).set (n + 34) v = p ++ t.set n v := by
  rw [List.set_append_right (n + 34) v (by omega)]; simp [hp]
def rfP (x : Rfm) : List Value := .int .i64 x.st :: .int .i64 x.tr :: hsB x.h
def rfT (x : Rfm) : List Value := [.int .i64 x.af, .int .i64 x.sb, .int .i64 x.who, .bool x.put, .int .i64 x.bk, .int .i64 x.si, .int .i64 x.un, .int .i64 x.en, .int .i64 x.ay, .int .i64 x.na, .int .i64 x.su]
theorem rfP_len (x : Rfm) : (rfP x).length = 34 := by simp [rfP, hsB_len, x.ok]
theorem rfF_eq (x : Rfm) : rfF x = rfP x ++ rfT x := rfl
theorem rfF_set (x : Rfm) (n : Nat) (v : Value) : (rfF x).set (n + 34) v = rfP x ++ (rfT x).set n v := by rw [rfF_eq, set_tail34 (rfP_len x)]
theorem rf_set_si (x : Rfm) (v : Int) : (rfF x).set 39 (.int .i64 v) = rfF { x with si := v } := rfF_set x 5 _
theorem rf_set_un (x : Rfm) (v : Int) : (rfF x).set 40 (.int .i64 v) = rfF { x with un := v } := rfF_set x 6 _
theorem rf_set_bk (x : Rfm) (v : Int) : (rfF x).set 38 (.int .i64 v) = rfF { x with bk := v } := rfF_set x 4 _
theorem rf_set_en (x : Rfm) (v : Int) : (rfF x).set 41 (.int .i64 v) = rfF { x with en := v } := rfF_set x 7 _
theorem rf_set_ay (x : Rfm) (v : Int) : (rfF x).set 42 (.int .i64 v) = rfF { x with ay := v } := rfF_set x 8 _
theorem rf_set_na (x : Rfm) (v : Int) : (rfF x).set 43 (.int .i64 v) = rfF { x with na := v } := rfF_set x 9 _
theorem rf_set_su (x : Rfm) (v : Int) : (rfF x).set 44 (.int .i64 v) = rfF { x with su := v } := rfF_set x 10 _
theorem rf_set_st (x : Rfm) (v : Int) : (rfF x).set 0 (.int .i64 v) = rfF { x with st := v } := rfl
/-- A referendum's place. -/
abbrev RfBox (w : World) (b : Nat) (x : Rfm) : Prop := w.heap[b]? = some (.cells (rfF x).toArray 56 (0, 0))
theorem RfBox.frozen {w : World} {b : Nat} {x : Rfm} (h : RfBox w b x) (i : Nat) : w.frozen? ⟨b, i, none⟩ = false := by simp [World.frozen?, h]
theorem RfBox.range {w : World} {b : Nat} {x : Rfm} (h : RfBox w b x) : w.rangeAt b 0 (rfF x) := rangeAt_whole (T := 56) h
theorem RfBox.lt {w : World} {b : Nat} {x : Rfm} (h : RfBox w b x) : b < w.heap.size := (Array.getElem?_eq_some_iff.1 h).1
theorem RfBox.cell {w : World} {b : Nat} {x : Rfm} (h : RfBox w b x) {i : Nat} {v : Value} (hi : (rfF x)[i]? = some v) : w.cell? ⟨b, i, none⟩ = some v := cell_of h hi
theorem RfBox.set {w : World} {b : Nat} {x y : Rfm} (h : RfBox w b x) {i : Nat} {v : Value} (hi : (rfF x).set i v = rfF y) : RfBox (w.setCell ⟨b, i, none⟩ v) b y := by
  unfold RfBox; rw [← hi]; exact setCell_at h
theorem RfBox.there {w : World} {b : Nat} {x : Rfm} (h : RfBox w b x) {k n : Nat} (hk : k + n ≤ 45) : w.there b k n := fun i hi => by
  refine ⟨?_, h.frozen _⟩
  have : k + i < (rfF x).length := by rw [rfF_len]; omega
  rw [h.cell (List.getElem?_eq_getElem this)]; rfl
theorem RfBox.ended {w : World} {b : Nat} {x : Rfm} (h : RfBox w b x) (st now : Int) (t : Tl) : RfBox (((w.setCell ⟨b, 0, none⟩ (.int .i64 st)).setCell ⟨b, 41, none⟩ (.int .i64 now)).setCells b 42 (tlyS.f t)) b (endX x st now t) := by
  have h1 := h.set (rf_set_st x st)
  have h2 := h1.set (rf_set_en _ now)
  have h3 := h2.set (rf_set_ay _ t.a)
  have h4 := h3.set (rf_set_na _ t.n)
  exact h4.set (rf_set_su _ t.s)
set_option maxRecDepth 100000 in
theorem refer_slash {g N : Nat} {A : Acc} {M : Cls Int} {FL : FP} {w : World} (h : LdX g N A M FL w) (a n : Int) : Calls Tryz.prog 67 #[.pointer (some ⟨g, 0, none⟩), .int .i64 a, .int .i64 n] w fun e w' => e = .returned (.agg (evR.f (6, a, heldM A a n)).toArray) ∧ LdTo g N (unheld A a n 0) M FL w w' := by
  have hN := h.size
  obtain ⟨rb, hrb⟩ : ∃ rb, rb = w.heap.size := ⟨_, rfl⟩
  obtain ⟨m, hm⟩ : ∃ m, m = heldM A a n := ⟨_, rfl⟩
  obtain ⟨A', hA'⟩ : ∃ A', A' = unheld A a n 0 := ⟨_, rfl⟩
  have hs : ∀ C, Calls Tryz.prog 104 #[.pointer (some ⟨g, 0, none⟩), .int .i64 a, .int .i64 n] (w.alloc (.cells C 68)) fun e w' => e = .returned (.int .i64 m) ∧ w'.heap[rb]? = some (.cells C 68 (0, 0)) ∧ ∀ cs, LdTo g N A' M FL w (w'.setRow rb cs) := fun C => by
    have hb : Below w.heap.size w (w.alloc (.cells C 68)) := (Below.refl _ w).alloc (Nat.le_refl _) _
    have h1 := h.below hb
    rw [hm, hA']
    refine (ledger_SlashX h1 a n).mono ?_
    rintro e w' ⟨he, F', k1, k2, k3⟩
    have hrF : ¬ FL rb := fun hf => by have := h.lt hf; omega
    have hrF' : ¬ F' rb := fun hf => (k2 rb hf).elim hrF (fun e => by rw [World.size_alloc] at e; omega)
    have hsz := k3.grow.size
    rw [World.size_alloc] at hsz
    refine ⟨he, (k3.block rb (by rw [World.size_alloc]; omega) hrF (fun h => h)).trans (by rw [hrb]; exact World.alloc_heap_new w _), fun cs => ⟨F', k1.keep ⟨rfl, rfl, rfl, by simp [World.setRow]⟩ (fun k hk => setRow_other _ _ _ _ (fun e => hrF' (e ▸ hk))), fun k hk => (k2 k hk).imp id (fun e => by rw [World.size_alloc] at e; omega), ?_⟩⟩
    exact ⟨((Grow.of_below hb).trans k3.grow).trans ⟨rfl, rfl, rfl, by simp [World.setRow]⟩, fun k hk h1 h2 => (setRow_other _ _ _ _ (by omega)).trans ((k3.block k (by rw [World.size_alloc]; omega) h1 h2).trans (hb.block k hk))⟩
  rw [← hm, ← hA']
  have HS := Lib.hid hs
  have HR := Lib.hid hrb
  clear h hN hm hA' hs hrb
  go_enter Tryz.func67, Tryz.ntmps67
  go_upto_region 1 with (first | (refine wpl_allocR (r := evR) (ty := 68) rfl rfl rfl ?_; intro C hC; have HC := Lib.hid hC; clear hC) | fail)
  rw [← HR.out]
  go_wp2_with (first
    | (go_at_call 104; refine (HS.out C).mono ?_; rintro e w2 ⟨rfl, hz, hto⟩; have H2 := Lib.hid (And.intro hz hto); clear hz hto)
    | (refine wpl_storeR (r := evR) (ty := 68) (t := (6, a, m)) (C := C) (b := rb) _ _ rfl rfl rfl rfl rfl H2.out.1 HC.out ?_)
    | fail)
  exact bodyPost_ret (v := .agg (evR.f (6, a, m)).toArray) (results_R1 (r := evR) (t := (6, a, m)) (b := rb) Tryz.results67 rfl (rangeAt_whole (T := 68) (setRow_heap _ _ _ _ _ _ H2.out.1))) rfl ⟨rfl, H2.out.2 _⟩
end Go.Proofs.YtpkamfbjgdmmoaaGreat
end

section
namespace Go.Proofs.YtpkamfbjgdmmoaaGreat
open Go.RowKit Go.Maps Go.Shelf
set_option linter.unusedVariables false
set_option linter.unusedSimpArgs false

/-- What ending leaves: refer's, the poll's; the place that was handed in. -/
def EndTo (r g vb N : Nat) (ts : List Trk) (R : List Rfm) (S : Vs) (A : Acc) (M : Cls Int) (Z : FP) (xb : Nat) (y : Rfm) (w w' : World) : Prop :=
  ∃ Z', RvAt r g vb N ts R S A M Z' w' ∧ (∀ j, Z' j → Z j ∨ w.heap.size ≤ j) ∧ Only (fun j => Z j ∨ j = xb) (fun _ => False) w w' ∧ RfBox w' xb y
set_option maxRecDepth 100000 in
set_option maxHeartbeats 4000000 in
attribute [local go_sem ↓] loadSt_R_hide storeT_hide in
theorem refer_end {r g vb N : Nat} {ts : List Trk} {R : List Rfm} {S : Vs} {A : Acc} {M : Cls Int} {Z : FP} {w : World} (h : RvAt r g vb N ts R S A M Z w) {k : Nat} (hk : k < R.length) (hl : R.length ≤ 12) {xb : Nat} {x : Rfm} (hx : RfBox w xb x) (hz : ¬ Z xb) (st now : Int) :
    Calls Tryz.prog 60 #[.pointer (some ⟨r, 0, none⟩), .pointer (some ⟨vb, 0, none⟩), .int .i64 k, .pointer (some ⟨xb, 0, none⟩), .int .i64 st, .int .i64 now] w fun e w' => e = .returned (.agg (evR.f (1, (k : Int), st)).toArray) ∧ EndTo r g vb N ts (R.set k (endX x st now (tallyOf S k))) (closeS S k st now) A M Z xb (endX x st now (tallyOf S k)) w w' := by
  obtain ⟨rb, hrb⟩ : ∃ rb, rb = w.heap.size := ⟨_, rfl⟩
  obtain ⟨t, ht⟩ : ∃ t, t = tallyOf S k := ⟨_, rfl⟩
  obtain ⟨y, hy⟩ : ∃ y, y = endX x st now t := ⟨_, rfl⟩
  have hxl := hx.lt
  have hrbx : rb ≠ xb := by omega
  have hrbZ : ¬ Z rb := fun hf => by have := h.lt hf; omega
  rw [← ht, ← hy]
  have step : ∀ C, C.size = 3 → ∃ W0, W0 = w.alloc (.cells C 68) ∧ Calls Tryz.prog 19 #[.pointer (some ⟨vb, 0, none⟩), .int .i64 k] W0 fun e w2 => e = .returned (.agg (tlyS.f t).toArray) ∧
      (w2.cell? ⟨xb, 0, none⟩ = some (.int .i64 x.st) ∧ w2.cell? ⟨xb, 41, none⟩ = some (.int .i64 x.en) ∧ (∀ i, w2.frozen? ⟨xb, i, none⟩ = false)) ∧
      (storeT (.pointer (some ⟨xb, 42, none⟩)) (.agg (tlyS.f t).toArray)).run Tryz.prog ((w2.setCell ⟨xb, 0, none⟩ (.int .i64 st)).setCell ⟨xb, 41, none⟩ (.int .i64 now)) = .ok () (((w2.setCell ⟨xb, 0, none⟩ (.int .i64 st)).setCell ⟨xb, 41, none⟩ (.int .i64 now)).setCells xb 42 (tlyS.f t)) ∧
      ∃ W3, W3 = ((w2.setCell ⟨xb, 0, none⟩ (.int .i64 st)).setCell ⟨xb, 41, none⟩ (.int .i64 now)).setCells xb 42 (tlyS.f t) ∧ RfBox W3 xb y ∧ W3.heap[rb]? = some (.cells C 68 (0, 0)) ∧ RvAt r g vb N ts R S A M Z W3 ∧ Grow w W3 ∧ (∀ j, j < w.heap.size → j ≠ xb → W3.heap[j]? = w.heap[j]?) ∧ rb < W3.heap.size := fun C hC => by
    refine ⟨_, rfl, ?_⟩
    have hb0 : Below w.heap.size w (w.alloc (.cells C 68)) := (Below.refl _ w).alloc (Nat.le_refl _) _
    obtain ⟨F, hvo, -⟩ := (h.below hb0).vo
    refine (hvo.Tally k).mono ?_
    rintro e w2 ⟨he, hb2⟩
    have hb02 : Below w.heap.size w w2 := hb0.trans (hb2.mono hb0.size)
    have hx2 : RfBox w2 xb x := (hb02.block xb hxl).trans hx
    have h12 := (hx2.set (rf_set_st x st)).set (rf_set_en _ now)
    have hrb2 : w2.heap[rb]? = some (.cells C 68 (0, 0)) := (hb2.block rb (by rw [World.size_alloc]; omega)).trans (by rw [hrb]; exact World.alloc_heap_new w _)
    have hoff : ∀ j, j ≠ xb → (((w2.setCell ⟨xb, 0, none⟩ (.int .i64 st)).setCell ⟨xb, 41, none⟩ (.int .i64 now)).setCells xb 42 (tlyS.f t)).heap[j]? = w2.heap[j]? := fun j hj => (setCells_off hj _ _ _).trans ((Below.heap_setCell _ _ _ j hj).trans (Below.heap_setCell _ _ _ j hj))
    have hgr : Grow w2 (((w2.setCell ⟨xb, 0, none⟩ (.int .i64 st)).setCell ⟨xb, 41, none⟩ (.int .i64 now)).setCells xb 42 (tlyS.f t)) := (show Grow w2 ((w2.setCell ⟨xb, 0, none⟩ (.int .i64 st)).setCell ⟨xb, 41, none⟩ (.int .i64 now)) from ⟨rfl, rfl, rfl, by simp [World.setCell]⟩).trans (setCells_grow _ _ _)
    refine ⟨by rw [he, ht], ⟨(rf_at hx2.range).1, (rf_at hx2.range).2.2.2.2.2.2.2.2.2, fun i => hx2.frozen i⟩, run_storeT (h12.there (by omega)) t, _, rfl, ?_, (hoff rb hrbx).trans hrb2, (h.below hb02).keep hgr (fun j hj => hoff j (fun e => hz (e ▸ hj))), (Grow.of_below hb02).trans hgr, fun j hj hjx => (hoff j hjx).trans (hb02.block j hj), ?_⟩
    · rw [hy]; exact hx2.ended st now t
    · exact Nat.lt_of_lt_of_le (Array.getElem?_eq_some_iff.1 hrb2).1 hgr.size
  have rest : ∀ (C : Array Value) (W3 : World), C.size = 3 → RfBox W3 xb y → W3.heap[rb]? = some (.cells C 68 (0, 0)) → RvAt r g vb N ts R S A M Z W3 → Grow w W3 → (∀ j, j < w.heap.size → j ≠ xb → W3.heap[j]? = w.heap[j]?) → rb < W3.heap.size →
      Calls Tryz.prog 82 #[.pointer (some ⟨vb, 0, none⟩), .int .i64 k, .int .i64 st, .int .i64 now] W3 fun e w4 => (∃ E, e = .returned (.int .i64 E)) ∧ (loadSt_R (.pointer (some ⟨xb, 0, none⟩))).run Tryz.prog w4 = .ok (.agg (rfS.f y).toArray) w4 ∧
        Calls Tryz.prog 41 #[.pointer (some ⟨r, 0, none⟩), .int .i64 k, .agg (rfS.f y).toArray] w4 fun e w5 => e = .returned (.tuple #[]) ∧ w5.heap[rb]? = some (.cells C 68 (0, 0)) ∧ EndTo r g vb N ts (R.set k y) (closeS S k st now) A M Z xb y w (w5.setRow rb (evR.f (1, (k : Int), st)).toArray) := by
    intro C W3 hC hx3 hr3 h3 hg3 ho3 hl3
    obtain ⟨F, hvo, lift⟩ := h3.vo
    refine (hvo.Close k st now).mono ?_
    rintro e w4 ⟨he, hto⟩
    have ht4 := lift _ _ hto
    have hx4 : RfBox w4 xb y := (ht4.old hx3.lt hz).trans hx3
    have hr4 := (ht4.old hl3 hrbZ).trans hr3
    obtain ⟨FR, hre, lift2⟩ := ht4.re
    refine ⟨⟨_, he⟩, run_loadSt_R hx4.range, (refer_set hre hre.size (R' := R.set k y) (by omega) (by omega) y (by rw [if_pos hk])).mono ?_⟩
    rintro e w5 ⟨he5, hto5⟩
    have ht5 := lift2 _ _ hto5
    have hx5 : RfBox w5 xb y := (ht5.old hx3.lt hz).trans hx3
    have hr5 := (ht5.old hl3 hrbZ).trans hr3
    obtain ⟨Z', q1, q2, q3⟩ := ht5
    have hrZ' : ¬ Z' rb := fun hf => (q2 rb hf).elim hrbZ (fun e => by omega)
    have hg5 : Grow w5 (w5.setRow rb (evR.f (1, (k : Int), st)).toArray) := ⟨rfl, rfl, rfl, by simp [World.setRow]⟩
    refine ⟨he5, hr5, Z', q1.keep hg5 (fun j hj => setRow_other _ _ _ _ (fun e => hrZ' (e ▸ hj))), fun j hj => (q2 j hj).imp id (fun e => Nat.le_trans hg3.size e), ⟨(hg3.trans q3.grow).trans hg5, fun j hj h1 h2 => ?_⟩, (setRow_other _ _ _ _ hrbx.symm).trans hx5⟩
    exact (setRow_other _ _ _ _ (by omega)).trans ((q3.block j (Nat.lt_of_lt_of_le hj hg3.size) (fun e => h1 (.inl e)) (fun h => h)).trans (ho3 j hj (fun e => h1 (.inr e))))
  have HS := Lib.hid step
  have HR := Lib.hid rest
  have HRB := Lib.hid hrb
  clear step rest hrb ht hy hxl hrbx hrbZ h hk hl hx hz
  go_enter Tryz.func60, Tryz.ntmps60
  go_upto_region 1 with (first | (refine wpl_allocR (r := evR) (ty := 68) rfl rfl rfl ?_; intro C hC; obtain ⟨W0, hW0, hT⟩ := HS.out C hC; rw [← hW0]; have HC := Lib.hid hC; have HT := Lib.hid hT; clear hC hW0 hT) | fail)
  rw [← HRB.out]
  go_upto_region 2 with (first
    | (go_at_call 19; refine HT.out.mono ?_; rintro e w2 ⟨rfl, ⟨c0, c41, fz⟩, rs, W3, hW3, hrest⟩; have H3 := Lib.hid hrest; have HW3 := Lib.hid hW3; clear hrest hW3)
    | fail)
  rw [← HW3.out]
  have HR3 := Lib.hid (HR.out C W3 HC.out H3.out.1 H3.out.2.1 H3.out.2.2.1 H3.out.2.2.2.1 H3.out.2.2.2.2.1 H3.out.2.2.2.2.2)
  clear c0 c41 fz rs
  go_wp2_with (first
    | (go_at_call 82; refine HR3.out.mono ?_; rintro e w4 ⟨⟨E, rfl⟩, lx, hset⟩; have HSET := Lib.hid hset; clear hset)
    | (go_at_call 41; refine HSET.out.mono ?_; rintro e w5 ⟨rfl, hr5, hto⟩; have H5 := Lib.hid (And.intro hr5 hto); clear hr5 hto)
    | (refine wpl_storeR (r := evR) (ty := 68) (t := (1, (k : Int), st)) (C := C) (b := rb) _ _ rfl rfl rfl rfl rfl H5.out.1 HC.out ?_)
    | fail)
  exact bodyPost_ret (v := .agg (evR.f (1, (k : Int), st)).toArray) (results_R1 (r := evR) (t := (1, (k : Int), st)) (b := rb) Tryz.results60 rfl (rangeAt_whole (T := 68) (setRow_heap _ _ _ _ _ _ H5.out.1))) rfl ⟨rfl, H5.out.2⟩
end Go.Proofs.YtpkamfbjgdmmoaaGreat
end

section
namespace Go.Proofs.YtpkamfbjgdmmoaaGreat
open Go.RowKit Go.Maps Go.Shelf
set_option linter.unusedVariables false
set_option linter.unusedSimpArgs false

def RvToX (r g vb N : Nat) (ts : List Trk) (R : List Rfm) (S : Vs) (A : Acc) (M : Cls Int) (Z B : FP) (w w' : World) : Prop :=
  (∀ j, B j → j < w.heap.size ∧ ¬ Z j) ∧ ∃ Z', RvAt r g vb N ts R S A M Z' w' ∧ (∀ j, Z' j → Z j ∨ w.heap.size ≤ j) ∧ Only (fun j => Z j ∨ B j) (fun _ => False) w w'
section
variable {r g vb N : Nat} {ts : List Trk} {R R' : List Rfm} {S S' : Vs} {A A' : Acc} {M M' : Cls Int} {Z B : FP} {w w0 w1 w' : World}
theorem RvToX.start (h : RvAt r g vb N ts R S A M Z w) (hB : ∀ j, B j → j < w.heap.size ∧ ¬ Z j) : RvToX r g vb N ts R S A M Z B w w := ⟨hB, Z, h, fun k hk => .inl hk, Only.refl _ _ _⟩
theorem RvToX.size (h : RvToX r g vb N ts R S A M Z B w w1) : w.heap.size ≤ w1.heap.size := by obtain ⟨-, Z', -, -, h3⟩ := h; exact h3.grow.size
/-- What stays. -/
theorem RvToX.old (h : RvToX r g vb N ts R S A M Z B w w1) {k : Nat} (hk : k < w.heap.size) (hz : ¬ Z k) (hb : ¬ B k) : w1.heap[k]? = w.heap[k]? := by
  obtain ⟨-, Z', -, -, h3⟩ := h
  exact h3.block k hk (fun e => e.elim hz hb) (fun h => h)
/-- A step out of theirs. -/
theorem RvToX.step (h : RvToX r g vb N ts R S A M Z B w w1) (hk : ∀ Z1, RvAt r g vb N ts R S A M Z1 w1 → RvTo r g vb N ts R' S' A' M' Z1 w1 w') : RvToX r g vb N ts R' S' A' M' Z B w w' ∧ ∀ j, j < w.heap.size → ¬ Z j → w'.heap[j]? = w1.heap[j]? := by
  obtain ⟨hB, Z1, h1, h2, h3⟩ := h
  obtain ⟨Z2, k1, k2, k3⟩ := hk Z1 h1
  have hs := h3.grow.size
  have hst : ∀ j, j < w.heap.size → ¬ Z j → w'.heap[j]? = w1.heap[j]? := fun j hj hz => k3.block j (by omega) (fun e => (h2 j e).elim hz (fun e => by omega)) (fun h => h)
  exact ⟨⟨hB, Z2, k1, fun j hj => (k2 j hj).elim (h2 j) (fun e => .inr (by omega)), h3.grow.trans k3.grow, fun j hj h4 h5 => (hst j hj (fun e => h4 (.inl e))).trans (h3.block j hj h4 h5)⟩, hst⟩
theorem RvToX.re (h : RvToX r g vb N ts R S A M Z B w w1) : ∃ FR, ReX r N ts R FR w1 ∧ ∀ R' w', ReTo r N ts R' FR w1 w' → RvToX r g vb N ts R' S A M Z B w w' ∧ ∀ j, j < w.heap.size → ¬ Z j → w'.heap[j]? = w1.heap[j]? := by
  obtain ⟨hB, Z1, h1, h2, h3⟩ := h
  obtain ⟨FR, k1, k2⟩ := h1.re
  refine ⟨FR, k1, fun R' w' ht => ?_⟩
  obtain ⟨Z2, q1, q2, q3⟩ := k2 R' w' ht
  have hs := h3.grow.size
  have hst : ∀ j, j < w.heap.size → ¬ Z j → w'.heap[j]? = w1.heap[j]? := fun j hj hz => q3.block j (by omega) (fun e => (h2 j e).elim hz (fun e => by omega)) (fun h => h)
  exact ⟨⟨hB, Z2, q1, fun j hj => (q2 j hj).elim (h2 j) (fun e => .inr (by omega)), h3.grow.trans q3.grow, fun j hj h4 h5 => (hst j hj (fun e => h4 (.inl e))).trans (h3.block j hj h4 h5)⟩, hst⟩
theorem RvToX.lv (h : RvToX r g vb N ts R S A M Z B w w1) : ∃ Zn, LvAt g vb N S A M Zn w1 ∧ ∀ S' A' M' w', LvTo g vb N S' A' M' Zn w1 w' → RvToX r g vb N ts R S' A' M' Z B w w' ∧ ∀ j, j < w.heap.size → ¬ Z j → w'.heap[j]? = w1.heap[j]? := by
  obtain ⟨hB, Z1, h1, h2, h3⟩ := h
  obtain ⟨Zn, k1, k2⟩ := h1.lv
  refine ⟨Zn, k1, fun S' A' M' w' ht => ?_⟩
  obtain ⟨Z2, q1, q2, q3⟩ := k2 S' A' M' w' ht
  have hs := h3.grow.size
  have hst : ∀ j, j < w.heap.size → ¬ Z j → w'.heap[j]? = w1.heap[j]? := fun j hj hz => q3.block j (by omega) (fun e => (h2 j e).elim hz (fun e => by omega)) (fun h => h)
  exact ⟨⟨hB, Z2, q1, fun j hj => (q2 j hj).elim (h2 j) (fun e => .inr (by omega)), h3.grow.trans q3.grow, fun j hj h4 h5 => (hst j hj (fun e => h4 (.inl e))).trans (h3.block j hj h4 h5)⟩, hst⟩
theorem RvToX.vo (h : RvToX r g vb N ts R S A M Z B w w1) : ∃ F, VoX vb N S F w1 ∧ ∀ S' w', VoTo vb N S' F w1 w' → RvToX r g vb N ts R S' A M Z B w w' ∧ ∀ j, j < w.heap.size → ¬ Z j → w'.heap[j]? = w1.heap[j]? := by
  obtain ⟨Zn, h1, h2⟩ := h.lv
  obtain ⟨F, k1, k2⟩ := h1.vo
  exact ⟨F, k1, fun S' w' ht => h2 _ _ _ _ (k2 _ _ ht)⟩
theorem RvToX.ld (h : RvToX r g vb N ts R S A M Z B w w1) : ∃ FL, LdX g N A M FL w1 ∧ ∀ A' M' w', LdTo g N A' M' FL w1 w' → RvToX r g vb N ts R S A' M' Z B w w' ∧ ∀ j, j < w.heap.size → ¬ Z j → w'.heap[j]? = w1.heap[j]? := by
  obtain ⟨Zn, h1, h2⟩ := h.lv
  obtain ⟨F, k1, k2⟩ := h1.ld
  exact ⟨F, k1, fun A' M' w' ht => h2 _ _ _ _ (k2 _ _ _ ht)⟩
theorem RvToX.below (h : RvToX r g vb N ts R S A M Z B w w1) (hb : Below w1.heap.size w1 w') : RvToX r g vb N ts R S A M Z B w w' ∧ ∀ j, j < w.heap.size → w'.heap[j]? = w1.heap[j]? := by
  have hs := h.size
  have := h.step (w' := w') (R' := R) (S' := S) (A' := A) (M' := M) (fun Z1 h1 => RvTo.of_below h1 hb)
  exact ⟨this.1, fun j hj => hb.block j (by omega)⟩
/-- A place of one's own is written. -/
theorem RvToX.box (h : RvToX r g vb N ts R S A M Z B w w1) {b : Nat} (hb : B b) (hg : Grow w1 w') (ho : ∀ j, j ≠ b → w'.heap[j]? = w1.heap[j]?) : RvToX r g vb N ts R S A M Z B w w' := by
  obtain ⟨hB, Z1, h1, h2, h3⟩ := h
  have hbz : ¬ Z1 b := fun e => (h2 b e).elim (hB b hb).2 (fun e => by have := (hB b hb).1; omega)
  exact ⟨hB, Z1, h1.keep hg (fun k hk => ho k (fun e => hbz (e ▸ hk))), h2, h3.grow.trans hg, fun j hj h4 h5 => (ho j (fun e => h4 (.inr (e ▸ hb)))).trans (h3.block j hj h4 h5)⟩
theorem RvToX.setCell (h : RvToX r g vb N ts R S A M Z B w w1) {b : Nat} (hb : B b) (i : Nat) (v : Value) : RvToX r g vb N ts R S A M Z B w (w1.setCell ⟨b, i, none⟩ v) := h.box hb ⟨rfl, rfl, rfl, by simp [World.setCell]⟩ (fun j hj => Below.heap_setCell _ _ _ j hj)
/-- Places that were made since are nobody's. -/
theorem RvToX.fin (h : RvToX r g vb N ts R S A M Z B w w1) (hb : Below w0.heap.size w0 w) (hB : ∀ j, B j → w0.heap.size ≤ j) : RvTo r g vb N ts R S A M Z w0 w1 := by
  obtain ⟨-, Z1, h1, h2, h3⟩ := h
  have hs := hb.size
  exact ⟨Z1, h1, fun j hj => (h2 j hj).imp id (fun e => by omega), (Grow.of_below hb).trans h3.grow, fun j hj h4 h5 => (h3.block j (by omega) (fun e => e.elim h4 (fun e => by have := hB j e; omega)) h5).trans (hb.block j hj)⟩
/-- A referendum ends; its place is one's own. -/
theorem RvToX.en (h : RvToX r g vb N ts R S A M Z B w w1) {k : Nat} (hk : k < R.length) (hl : R.length ≤ 12) {xb : Nat} (hb : B xb) {x : Rfm} (hx : RfBox w1 xb x) (st now : Int) :
    Calls Tryz.prog 60 #[.pointer (some ⟨r, 0, none⟩), .pointer (some ⟨vb, 0, none⟩), .int .i64 k, .pointer (some ⟨xb, 0, none⟩), .int .i64 st, .int .i64 now] w1 fun e w' => e = .returned (.agg (evR.f (1, (k : Int), st)).toArray) ∧ RvToX r g vb N ts (R.set k (endX x st now (tallyOf S k))) (closeS S k st now) A M Z B w w' ∧ RfBox w' xb (endX x st now (tallyOf S k)) ∧ (∀ j, j < w.heap.size → ¬ Z j → j ≠ xb → w'.heap[j]? = w1.heap[j]?) := by
  obtain ⟨hB, Z1, h1, h2, h3⟩ := h
  have hs := h3.grow.size
  have hbz : ¬ Z1 xb := fun e => (h2 xb e).elim (hB xb hb).2 (fun e => by have := (hB xb hb).1; omega)
  refine (refer_end h1 hk hl hx hbz st now).mono ?_
  rintro e w' ⟨he, Z2, k1, k2, k3, hy⟩
  have hst : ∀ j, j < w.heap.size → ¬ Z j → j ≠ xb → w'.heap[j]? = w1.heap[j]? := fun j hj hz hx => k3.block j (by omega) (fun e => e.elim (fun e => (h2 j e).elim hz (fun e => by omega)) hx) (fun h => h)
  exact ⟨he, ⟨hB, Z2, k1, fun j hj => (k2 j hj).elim (h2 j) (fun e => .inr (by omega)), h3.grow.trans k3.grow, fun j hj h4 h5 => (hst j hj (fun e => h4 (.inl e)) (fun e => h4 (.inr (e ▸ hb)))).trans (h3.block j hj h4 h5)⟩, hy, hst⟩
end
/-- A track of a list. -/
def trkAt (ts : List Trk) (i : Int) : Trk := (ts[i.toNat]?).getD trk0
theorem trkAt_is {ts : List Trk} {k : Nat} (h : k < ts.length) : trkAt ts k = ts[k] := by unfold trkAt; rw [Int.toNat_natCast, List.getElem?_eq_getElem h]; rfl
/-- What referenda are: so many, of tracks that are there. -/
structure Rin (ts : List Trk) (R : List Rfm) : Prop where
  len : R.length ≤ 12
  tlen : 1 ≤ ts.length ∧ ts.length ≤ 4
  ok : ∀ t ∈ ts, trackB t = true
  tr : ∀ x ∈ R, 0 ≤ x.tr ∧ x.tr < ts.length
  who : ∀ x ∈ R, 0 ≤ x.who ∧ x.who < 10
  sb : ∀ x ∈ R, soon x.sb
  si : ∀ x ∈ R, soon x.si
theorem Rin.set {ts : List Trk} {R : List Rfm} (h : Rin ts R) (k : Nat) {y : Rfm} (h1 : 0 ≤ y.tr ∧ y.tr < ts.length) (h4 : 0 ≤ y.who ∧ y.who < 10) (h2 : soon y.sb) (h3 : soon y.si) : Rin ts (R.set k y) := by
  have key : ∀ {p : Rfm → Prop}, (∀ x ∈ R, p x) → p y → ∀ x ∈ R.set k y, p x := fun hp hy x hx => (List.mem_or_eq_of_mem_set hx).elim (hp x) (fun e => e ▸ hy)
  exact ⟨by rw [List.length_set]; exact h.len, h.tlen, h.ok, key h.tr h1, key h.who h4, key h.sb h2, key h.si h3⟩
theorem Rin.snoc {ts : List Trk} {R : List Rfm} (h : Rin ts R) (hl : R.length < 12) {y : Rfm} (h1 : 0 ≤ y.tr ∧ y.tr < ts.length) (h4 : 0 ≤ y.who ∧ y.who < 10) (h2 : soon y.sb) (h3 : soon y.si) : Rin ts (R ++ [y]) := by
  have key : ∀ {p : Rfm → Prop}, (∀ x ∈ R, p x) → p y → ∀ x ∈ R ++ [y], p x := fun hp hy x hx => (List.mem_append.1 hx).elim (hp x) (fun e => by rw [List.mem_singleton.1 e]; exact hy)
  exact ⟨by rw [List.length_append, List.length_singleton]; omega, h.tlen, h.ok, key h.tr h1, key h.who h4, key h.sb h2, key h.si h3⟩
end Go.Proofs.YtpkamfbjgdmmoaaGreat
end

section
namespace Go.Proofs.YtpkamfbjgdmmoaaGreat
open Go.RowKit Go.Maps Go.Shelf
set_option linter.unusedVariables false
set_option linter.unusedSimpArgs false

/-- What Deposit answers, and leaves. -/
def depE (ts : List Trk) (R : List Rfm) (A : Acc) (M : Cls Int) (a ref : Int) : Int :=
  if ongE R ref ≠ 0 then ongE R ref else if (refAt R ref).bk ≠ -1 then 5 else spendE A M a (trkAt ts (refAt R ref).tr).dep false
def depR (ts : List Trk) (R : List Rfm) (A : Acc) (M : Cls Int) (a ref : Int) : List Rfm := if depE ts R A M a ref = 0 then R.set ref.toNat { refAt R ref with bk := a } else R
def depA (ts : List Trk) (R : List Rfm) (A : Acc) (M : Cls Int) (a ref : Int) : Acc := if depE ts R A M a ref = 0 then reserveA A M a (trkAt ts (refAt R ref).tr).dep else A
theorem ongE_cases (R : List Rfm) (b : Int) : (ongE R b ≠ 0 ∧ (ongE R b = 4 ∨ ongE R b = 9)) ∨ (ongE R b = 0 ∧ ∃ k : Nat, b = k ∧ k < R.length ∧ (refAt R b).st = 1 ∧ ongV R b = refAt R b ∧ refAt R b ∈ R) := by
  by_cases h : ongE R b = 0
  · right
    have h0 := h
    unfold ongE at h
    by_cases q : refHas R b = true
    · rw [if_pos q] at h
      unfold refHas at q
      have q := of_decide_eq_true q
      refine ⟨h0, b.toNat, by omega, by omega, ?_, by unfold ongV; rw [if_pos h0], ?_⟩
      · by_cases q2 : (refAt R b).st = 1
        · exact q2
        · rw [if_neg q2] at h; cases h
      · have e : b = ((b.toNat : Nat) : Int) := by omega
        rw [e, refAt_is (by omega)]; exact List.getElem_mem _
    · rw [if_neg q] at h; cases h
  · left
    refine ⟨h, ?_⟩
    unfold ongE
    split
    · split
      · rename_i q1 q2; exact absurd (by unfold ongE; rw [if_pos q1, if_pos q2]) h
      · exact .inr rfl
    · exact .inl rfl
section
variable {r g vb N : Nat} {ts : List Trk} {R : List Rfm} {S : Vs} {A : Acc} {M : Cls Int} {Z : FP} {w : World}
set_option maxRecDepth 100000 in
set_option maxHeartbeats 4000000 in
attribute [local go_sem ↓] loadSt_R_hide in
theorem refer_Deposit (h : RvAt r g vb N ts R S A M Z w) (hi : Rin ts R) {a ref : Int} (ha : (Lit.int .i64 a).wf = true) (hr : (Lit.int .i64 ref).wf = true) :
    Calls Tryz.prog 15 #[.pointer (some ⟨r, 0, none⟩), .pointer (some ⟨g, 0, none⟩), .int .i64 a, .int .i64 ref] w fun e w' => e = .returned (.int .i64 (depE ts R A M a ref)) ∧ RvTo r g vb N ts (depR ts R A M a ref) S (depA ts R A M a ref) M Z w w' := by
  obtain ⟨FR, hre, -⟩ := h.re
  have hong := refer_ongoing hre hr
  rcases ongE_cases R ref with ⟨hne, -⟩ | ⟨h0, k, rfl, hk, hst, hv, hmem⟩
  · obtain ⟨E1, hE1⟩ : ∃ E, E = ongE R ref := ⟨_, rfl⟩
    obtain ⟨v, hv⟩ : ∃ v, v = ongV R ref := ⟨_, rfl⟩
    have eE : depE ts R A M a ref = E1 := by unfold depE; rw [if_pos hne, hE1]
    have eR : depR ts R A M a ref = R := by unfold depR; rw [eE, if_neg (by rw [hE1]; exact hne)]
    have eA : depA ts R A M a ref = A := by unfold depA; rw [eE, if_neg (by rw [hE1]; exact hne)]
    rw [← hE1, ← hv] at hong
    rw [eE, eR, eA]
    have q1 : (E1 != 0) = true := by rw [hE1]; simpa using hne
    have HH := Lib.hid h
    have HO := Lib.hid hong
    clear h hre hong hE1 hv eE eR eA hne hi ha hr
    go_enter Tryz.func15, Tryz.ntmps15
    go_wp2_with (first
      | (go_at_call 42; refine HO.out.mono ?_; rintro e w2 ⟨rfl, hb⟩; have H2 := Lib.hid hb; clear hb)
      | (refine wpl_allocS (s := rfS) rfl rfl rfl ?_)
      | (refine wpl_storeS (s := rfS) (t := v) (b := w2.heap.size) _ _ rfl rfl rfl rfl rfl (World.alloc_heap_new w2 _) (zeroS rfS) ?_; rw [newS])
      | fail)
    go_ret
    exact ⟨rfl, RvTo.of_below HH.out (H2.out.alloc H2.out.size _)⟩
  · obtain ⟨x, hx⟩ : ∃ x, x = refAt R k := ⟨_, rfl⟩
    rw [hv, h0, ← hx] at hong
    rw [← hx] at hmem hst
    obtain ⟨tk, htk, htl⟩ : ∃ tk : Nat, x.tr = tk ∧ tk < ts.length := ⟨x.tr.toNat, by have := hi.tr x hmem; omega, by have := hi.tr x hmem; omega⟩
    obtain ⟨t, ht⟩ : ∃ t, t = ts[tk] := ⟨_, rfl⟩
    have eD : trkAt ts x.tr = t := by rw [htk, trkAt_is htl, ht]
    by_cases hbk : x.bk = -1
    · obtain ⟨Es, hEs⟩ : ∃ E, E = spendE A M a t.dep false := ⟨_, rfl⟩
      have eE : depE ts R A M a k = Es := by unfold depE; rw [if_neg (by omega), ← hx, if_neg (by simp [hbk]), eD, hEs]
      -- behind ongoing
      have step : ∀ w2, Below w.heap.size w w2 → ∃ w3 b9, w3 = w2.alloc (rfS.obj x) ∧ b9 = w2.heap.size ∧ RfBox w3 b9 x ∧
          (∃ tb cap, w3.drew.cell? ⟨r, 0, none⟩ = some (.slice (some ⟨tb, 0, none⟩) ts.length cap) ∧ w3.drew.cell? ⟨tb, tk * 18 + 1, none⟩ = some (.int .i64 t.dep)) ∧ w3.drew.cell? ⟨b9, 1, none⟩ = some (.int .i64 tk) ∧ w3.cell? ⟨b9, 38, none⟩ = some (.int .i64 x.bk) ∧
          Calls Tryz.prog 39 #[.pointer (some ⟨g, 0, none⟩), .int .i64 a, .int .i64 t.dep] w3.drew fun e w4 => e = .returned (.int .i64 Es) ∧
            (Es ≠ 0 → RvTo r g vb N ts R S A M Z w w4) ∧ (Es = 0 → w4.cell? ⟨b9, 38, none⟩ = some (.int .i64 x.bk) ∧ w4.frozen? ⟨b9, 38, none⟩ = false ∧ (loadSt_R (.pointer (some ⟨b9, 0, none⟩))).run Tryz.prog (w4.setCell ⟨b9, 38, none⟩ (.int .i64 a)) = .ok (.agg (rfS.f { x with bk := a }).toArray) (w4.setCell ⟨b9, 38, none⟩ (.int .i64 a)) ∧
              Calls Tryz.prog 41 #[.pointer (some ⟨r, 0, none⟩), .int .i64 k, .agg (rfS.f { x with bk := a }).toArray] (w4.setCell ⟨b9, 38, none⟩ (.int .i64 a)) fun e w6 => e = .returned (.tuple #[]) ∧ RvTo r g vb N ts (R.set k { x with bk := a }) S (reserveA A M a t.dep) M Z w w6) := by
        intro w2 hb2
        have hb3 : Below w.heap.size w (w2.alloc (rfS.obj x)) := hb2.alloc hb2.size _
        have hbx : RfBox (w2.alloc (rfS.obj x)) w2.heap.size x := World.alloc_heap_new w2 _
        have h3 := h.below hb3
        have hs2 := hb2.size
        obtain ⟨FR3, hre3, -⟩ := h3.re
        obtain ⟨tb, cap, gb, c0, -, htb, -⟩ := hre3.cells
        have hrt := trk_at htb htl
        rw [← ht] at hrt
        obtain ⟨-, x1, -, -, -, -, x38, -⟩ := rf_at hbx.range
        rw [htk] at x1
        refine ⟨_, _, rfl, rfl, hbx, ⟨tb, cap, c0, hrt 1 _ rfl⟩, x1, x38, ?_⟩
        have hbl : w2.heap.size < (w2.alloc (rfS.obj x)).heap.size := hbx.lt
        have hbZ : ¬ Z w2.heap.size := fun hf => by have := h.lt hf; omega
        have h3d : RvAt r g vb N ts R S A M Z (w2.alloc (rfS.obj x)).drew := h3.below (Below.refl _ _).drew
        have X0 := RvToX.start (B := fun j => j = w2.heap.size) h3d (fun j hj => by subst hj; exact ⟨hbl, hbZ⟩)
        obtain ⟨FL, hld, lift⟩ := X0.ld
        refine (ledger_ReserveX hld ha t.dep).mono ?_
        rintro e w4 ⟨he, hto⟩
        obtain ⟨X4, hst4⟩ := lift _ _ _ hto
        have hb3d : Below w.heap.size w (w2.alloc (rfS.obj x)).drew := hb3.trans (Below.refl _ _).drew
        have hx4 : RfBox w4 w2.heap.size x := (hst4 _ hbl hbZ).trans hbx
        refine ⟨by rw [he, hEs], fun hne => ?_, fun hz => ?_⟩
        · have eA : reserveA A M a t.dep = A := by unfold reserveA; rw [if_neg (by rw [← hEs]; exact hne)]
          rw [eA] at X4
          exact X4.fin hb3d (fun j hj => by subst hj; exact hs2)
        · have hx5 : RfBox (w4.setCell ⟨w2.heap.size, 38, none⟩ (.int .i64 a)) w2.heap.size { x with bk := a } := hx4.set (rf_set_bk x a)
          obtain ⟨-, -, -, -, -, -, y38, -⟩ := rf_at hx4.range
          refine ⟨y38, hx4.frozen _, run_loadSt_R hx5.range, ?_⟩
          have X5 := X4.setCell (b := w2.heap.size) rfl 38 (.int .i64 a)
          obtain ⟨FR5, hre5, lift5⟩ := X5.re
          refine (refer_set hre5 hre5.size (R' := R.set k { x with bk := a }) (by omega) (by have := hi.len; omega) _ (by rw [if_pos hk])).mono ?_
          rintro e w6 ⟨he6, hto6⟩
          exact ⟨he6, (lift5 _ _ hto6).1.fin hb3d (fun j hj => by subst hj; exact hs2)⟩
      have eR : Es = 0 → depR ts R A M a k = R.set k { x with bk := a } := fun q => by unfold depR; rw [eE, if_pos q, ← hx, Int.toNat_natCast]
      have eA : Es = 0 → depA ts R A M a k = reserveA A M a t.dep := fun q => by unfold depA; rw [eE, if_pos q, ← hx, eD]
      have eR' : Es ≠ 0 → depR ts R A M a k = R := fun q => by unfold depR; rw [eE, if_neg q]
      have eA' : Es ≠ 0 → depA ts R A M a k = A := fun q => by unfold depA; rw [eE, if_neg q]
      obtain ⟨n, hn⟩ : ∃ n, n = ts.length := ⟨_, rfl⟩
      rw [← hn] at step htl
      have hkI : (tk : Int) < n := by omega
      rw [eE]
      have HST := Lib.hid step
      have HE := Lib.hid (And.intro eR (And.intro eA (And.intro eR' eA')))
      have HO := Lib.hid hong
      have HBK := Lib.hid hbk
      obtain ⟨dp, hdp⟩ : ∃ dp, dp = t.dep := ⟨_, rfl⟩
      rw [← hdp] at HST HE
      clear hdp h hre hong hi ha hr h0 hk hst hv hmem hx htk htl ht eD hbk hEs eE step eR eA eR' eA' hn
      go_enter Tryz.func15, Tryz.ntmps15
      go_upto_region 4 with (first
        | (go_at_call 42; refine HO.out.mono ?_; rintro e w2 ⟨rfl, hb⟩; have H2 := Lib.hid hb; clear hb)
        | (refine wpl_allocS (s := rfS) rfl rfl rfl ?_)
        | (refine wpl_storeS (s := rfS) (t := x) (b := w2.heap.size) _ _ rfl rfl rfl rfl rfl (World.alloc_heap_new w2 _) (zeroS rfS) ?_; rw [newS])
        | fail)
      obtain ⟨w3, b9, hw3, hb9, -, ⟨tb, cap, c0, cd⟩, c1, c38, hres⟩ := HST.out w2 H2.out
      rw [← hw3, ← hb9]
      rw [HBK.out] at c38
      have HRES := Lib.hid hres
      clear hw3 hb9 hres
      go_upto_region 8 with fail
      go_still_tail 11, (by kernel_rfl)
      change wpList _ _ _ _ _ w3.drew
      cases Decidable.em (Es = 0) with
      | inl q =>
        have HQ := Lib.hid q
        subst q
        go_upto_region 9 with (first
          | (go_at_call 39; refine HRES.out.mono ?_; rintro e w4 ⟨rfl, -, hok⟩; obtain ⟨d38, f38, lx, hset⟩ := hok rfl; have HSET := Lib.hid hset; clear hok hset)
          | fail)
        go_wp2_with (first
          | (go_at_call 41; refine HSET.out.mono ?_; rintro e w6 ⟨rfl, hto⟩; have H6 := Lib.hid hto; clear hto)
          | fail)
        go_ret
        refine ⟨rfl, ?_⟩
        rw [HE.out.1 (by first | rfl | trivial), HE.out.2.1 (by first | rfl | trivial)]
        exact H6.out
      | inr q =>
        have q1 : (Es != 0) = true := by simpa using q
        have HQ := Lib.hid q
        clear q
        go_upto_region 9 with (first
          | (go_at_call 39; refine HRES.out.mono ?_; rintro e w4 ⟨rfl, hto, -⟩; have H4 := Lib.hid (hto HQ.out); clear hto)
          | fail)
        go_wp2_with fail
        go_ret
        refine ⟨rfl, ?_⟩
        rw [HE.out.2.2.1 HQ.out, HE.out.2.2.2 HQ.out]
        exact H4.out
    · have eE : depE ts R A M a k = 5 := by unfold depE; rw [if_neg (by omega), ← hx, if_pos hbk]
      have eR : depR ts R A M a k = R := by unfold depR; rw [eE, if_neg (by decide)]
      have eA : depA ts R A M a k = A := by unfold depA; rw [eE, if_neg (by decide)]
      rw [eE, eR, eA]
      have q1 : (x.bk != -1) = true := by simpa using hbk
      have c38 : ∀ w2 : World, (w2.alloc (rfS.obj x)).cell? ⟨w2.heap.size, 38, none⟩ = some (.int .i64 x.bk) := fun w2 => (rf_at (atS rfS w2 x)).2.2.2.2.2.2.1
      obtain ⟨bk, hbk'⟩ : ∃ bk, bk = x.bk := ⟨_, rfl⟩
      rw [← hbk'] at q1 c38
      have HH := Lib.hid h
      have HO := Lib.hid hong
      have HC := Lib.hid c38
      clear h hre hong hi ha hr h0 hk hst hv hmem hx htk htl ht eD hbk eE eR eA hbk' c38
      go_enter Tryz.func15, Tryz.ntmps15
      go_wp2_with (first
        | (go_at_call 42; refine HO.out.mono ?_; rintro e w2 ⟨rfl, hb⟩; have H2 := Lib.hid hb; clear hb)
        | (refine wpl_allocS (s := rfS) rfl rfl rfl ?_)
        | (refine wpl_storeS (s := rfS) (t := x) (b := w2.heap.size) _ _ rfl rfl rfl rfl rfl (World.alloc_heap_new w2 _) (zeroS rfS) ?_; rw [newS]; have c38 := HC.out w2)
        | fail)
      go_ret
      exact ⟨rfl, RvTo.of_below HH.out (H2.out.alloc H2.out.size _)⟩
end
end Go.Proofs.YtpkamfbjgdmmoaaGreat
end

section
namespace Go.Proofs.YtpkamfbjgdmmoaaGreat
open Go.RowKit Go.Maps Go.Shelf
set_option linter.unusedVariables false
set_option linter.unusedSimpArgs false

/-- From w on: refer, ledger, voting; at b9 a referendum, in v events. -/
structure KS (r g vb N : Nat) (ts : List Trk) (Z : FP) (w : World) (b9 : Nat) (R : List Rfm) (S : Vs) (A : Acc) (M : Cls Int) (y : Rfm) (evs : List Ev) (v : Value) (wx : World) : Prop where
  at_ : ∃ Z1, RvAt r g vb N ts R S A M Z1 wx ∧ (∀ j, Z1 j → Z j ∨ w.heap.size ≤ j) ∧ ¬ Z1 b9 ∧ ∀ j, v.ownBlock = some j → ¬ Z1 j
  only : Only Z (fun _ => False) w wx
  bx : RfBox wx b9 y
  new : w.heap.size ≤ b9
  own : OwnR evR w.heap.size v evs wx
  ne : ∀ j, v.ownBlock = some j → j ≠ b9
section
variable {r g vb N : Nat} {ts : List Trk} {R R' : List Rfm} {S S' : Vs} {A A' : Acc} {M M' : Cls Int} {Z : FP} {w w2 wx w' : World} {b9 : Nat} {x y y' : Rfm} {evs : List Ev} {v : Value}
theorem KS.start (h : RvAt r g vb N ts R S A M Z w) (hb : Below w.heap.size w w2) (x : Rfm) : KS r g vb N ts Z w w2.heap.size R S A M x [] (.slice none 0 0) (w2.alloc (rfS.obj x)) := by
  have hb3 : Below w.heap.size w (w2.alloc (rfS.obj x)) := hb.alloc hb.size _
  have hs := hb.size
  exact ⟨⟨Z, h.below hb3, fun j hj => .inl hj, fun hf => by have := h.lt hf; omega, fun j hj => by cases hj⟩, Only.of_later hb3, World.alloc_heap_new w2 _, hs, OwnR.nil _ _, fun j hj => by cases hj⟩
theorem KS.size (h : KS r g vb N ts Z w b9 R S A M y evs v wx) : w.heap.size ≤ wx.heap.size := h.only.grow.size
theorem KS.fin (h : KS r g vb N ts Z w b9 R S A M y evs v wx) : RvTo r g vb N ts R S A M Z w wx ∧ OwnR evR w.heap.size v evs wx := by
  obtain ⟨Z1, h1, h2, -, -⟩ := h.at_
  exact ⟨⟨Z1, h1, h2, h.only⟩, h.own⟩
/-- A step of theirs. -/
theorem KS.step (h : KS r g vb N ts Z w b9 R S A M y evs v wx) (hk : ∀ Z1, RvAt r g vb N ts R S A M Z1 wx → RvTo r g vb N ts R' S' A' M' Z1 wx w') : KS r g vb N ts Z w b9 R' S' A' M' y evs v w' := by
  obtain ⟨Z1, h1, h2, h3, h4⟩ := h.at_
  obtain ⟨Z2, k1, k2, k3⟩ := hk Z1 h1
  have hs := h.size
  have hbl := h.bx.lt
  refine ⟨⟨Z2, k1, fun j hj => (k2 j hj).elim (h2 j) (fun e => .inr (by omega)), fun e => (k2 _ e).elim h3 (fun e => by omega), fun j hj e => (k2 _ e).elim (h4 j hj) (fun e => by have := (h.own.block hj).2; omega)⟩, only_cons h.only h2 k3, (k3.block _ hbl h3 (fun h => h)).trans h.bx, h.new, h.own.of (Nat.le_refl _) (fun j hj => k3.block j (h.own.block hj).2 (h4 j hj) (fun h => h)), h.ne⟩
theorem KS.below (h : KS r g vb N ts Z w b9 R S A M y evs v wx) (hb : Below wx.heap.size wx w') : KS r g vb N ts Z w b9 R S A M y evs v w' := h.step (fun Z1 h1 => RvTo.of_below h1 hb)
theorem KS.setCell (h : KS r g vb N ts Z w b9 R S A M y evs v wx) {i : Nat} {u : Value} (hi : (rfF y).set i u = rfF y') : KS r g vb N ts Z w b9 R S A M y' evs v (wx.setCell ⟨b9, i, none⟩ u) := by
  obtain ⟨Z1, h1, h2, h3, h4⟩ := h.at_
  have hg : Grow wx (wx.setCell ⟨b9, i, none⟩ u) := ⟨rfl, rfl, rfl, by simp [World.setCell]⟩
  have ho : ∀ j, j ≠ b9 → (wx.setCell ⟨b9, i, none⟩ u).heap[j]? = wx.heap[j]? := fun j hj => Below.heap_setCell _ _ _ j hj
  have hn := h.new
  exact ⟨⟨Z1, h1.keep hg (fun j hj => ho j (fun e => h3 (e ▸ hj))), h2, h3, h4⟩, ⟨h.only.grow.trans hg, fun j hj h5 h6 => (ho j (by omega)).trans (h.only.block j hj h5 h6)⟩, h.bx.set hi, h.new, h.own.of (Nat.le_refl _) (fun j hj => ho j (h.ne j hj)), h.ne⟩
/-- One event more, appended. -/
theorem KS.app (h : KS r g vb N ts Z w b9 R S A M y evs v wx) {V : World} (hV : Below wx.heap.size wx V) {ev : Ev} {v' : Value} (hO : OwnR evR w.heap.size v' (evs ++ [ev]) w') (hg : V.grownBy w' v.ownBlock) (hat : v'.ownBlock = v.ownBlock ∨ v'.ownBlock = some V.heap.size) : KS r g vb N ts Z w b9 R S A M y (evs ++ [ev]) v' w' := by
  obtain ⟨Z1, h1, h2, h3, h4⟩ := h.at_
  have hs := h.size
  have hsV := hV.size
  have hsg := hg.size
  have hgr : Grow wx w' := (Grow.of_below hV).trans ⟨hg.os, hg.tape, hg.output, hg.size⟩
  have ho : ∀ j, j < wx.heap.size → v.ownBlock ≠ some j → w'.heap[j]? = wx.heap[j]? := fun j hj hv => (hg.block j (by omega) (fun e => hv e.symm)).trans (hV.block j hj)
  have hbl := h.bx.lt
  have hZn : ∀ j, v'.ownBlock = some j → ¬ Z1 j := fun j hj => by
    rcases hat with e | e
    · exact h4 j (by rw [← e]; exact hj)
    · rw [hj] at e
      injection e with e
      exact fun hf => by have := h1.lt hf; omega
  have hnb : ∀ j, v'.ownBlock = some j → j ≠ b9 := fun j hj => by
    rcases hat with e | e
    · exact h.ne j (by rw [← e]; exact hj)
    · rw [hj] at e
      injection e with e
      omega
  exact ⟨⟨Z1, h1.keep hgr (fun j hj => ho j (h1.lt hj) (fun e => h4 j e hj)), h2, h3, hZn⟩, ⟨h.only.grow.trans hgr, fun j hj h5 h6 => (ho j (by omega) (fun e => by have := (h.own.block e).1; omega)).trans (h.only.block j hj h5 h6)⟩, (ho b9 hbl (fun e => h.ne b9 e rfl)).trans h.bx, h.new, hO, hnb⟩
theorem KS.drew (h : KS r g vb N ts Z w b9 R S A M y evs v wx) : KS r g vb N ts Z w b9 R S A M y evs v wx.drew := h.below (Below.refl _ _).drew
/-- The contracts. -/
theorem KS.slash (h : KS r g vb N ts Z w b9 R S A M y evs v wx) (a n : Int) : Calls Tryz.prog 67 #[.pointer (some ⟨g, 0, none⟩), .int .i64 a, .int .i64 n] wx fun e w' => e = .returned (.agg #[.int .i64 6, .int .i64 a, .int .i64 (heldM A a n)]) ∧ KS r g vb N ts Z w b9 R S (unheld A a n 0) M y evs v w' := by
  obtain ⟨Z1, h1, h2, h3, h4⟩ := h.at_
  obtain ⟨FL, hld, lift⟩ := h1.ld
  refine (refer_slash hld a n).mono ?_
  rintro e w' ⟨he, hto⟩
  refine ⟨he, ?_⟩
  have ht := lift _ _ _ hto
  have hs := h.size
  have hbl := h.bx.lt
  obtain ⟨Z2, k1, k2, k3⟩ := ht
  exact ⟨⟨Z2, k1, fun j hj => (k2 j hj).elim (h2 j) (fun e => .inr (by omega)), fun e => (k2 _ e).elim h3 (fun e => by omega), fun j hj e => (k2 _ e).elim (h4 j hj) (fun e => by have := (h.own.block hj).2; omega)⟩, only_cons h.only h2 k3, (k3.block _ hbl h3 (fun h => h)).trans h.bx, h.new, h.own.of (Nat.le_refl _) (fun j hj => k3.block j (h.own.block hj).2 (h4 j hj) (fun h => h)), h.ne⟩
/-- A step out of one footprint of theirs. -/
theorem KS.via (h : KS r g vb N ts Z w b9 R S A M y evs v wx) : ∃ Z1, RvAt r g vb N ts R S A M Z1 wx ∧ ∀ R' S' A' M' w', RvTo r g vb N ts R' S' A' M' Z1 wx w' → KS r g vb N ts Z w b9 R' S' A' M' y evs v w' := by
  obtain ⟨Z1, h1, h2, h3, h4⟩ := h.at_
  refine ⟨Z1, h1, fun R' S' A' M' w' ht => ?_⟩
  have hs := h.size
  have hbl := h.bx.lt
  obtain ⟨Z2, k1, k2, k3⟩ := ht
  exact ⟨⟨Z2, k1, fun j hj => (k2 j hj).elim (h2 j) (fun e => .inr (by omega)), fun e => (k2 _ e).elim h3 (fun e => by omega), fun j hj e => (k2 _ e).elim (h4 j hj) (fun e => by have := (h.own.block hj).2; omega)⟩, only_cons h.only h2 k3, (k3.block _ hbl h3 (fun h => h)).trans h.bx, h.new, h.own.of (Nat.le_refl _) (fun j hj => k3.block j (h.own.block hj).2 (h4 j hj) (fun h => h)), h.ne⟩
theorem KS.set (h : KS r g vb N ts Z w b9 R S A M y evs v wx) {k : Nat} (hk : k < R.length) (hl : R.length ≤ 12) (x : Rfm) : Calls Tryz.prog 41 #[.pointer (some ⟨r, 0, none⟩), .int .i64 k, .agg (rfS.f x).toArray] wx fun e w' => e = .returned (.tuple #[]) ∧ KS r g vb N ts Z w b9 (R.set k x) S A M y evs v w' := by
  obtain ⟨Z1, h1, lift⟩ := h.via
  obtain ⟨FR, hre, lift2⟩ := h1.re
  exact (refer_set hre hre.size (R' := R.set k x) (by omega) (by omega) x (by rw [if_pos hk])).mono fun e w' ⟨he, hto⟩ => ⟨he, lift _ _ _ _ _ (lift2 _ _ hto)⟩
theorem KS.en (h : KS r g vb N ts Z w b9 R S A M y evs v wx) {k : Nat} (hk : k < R.length) (hl : R.length ≤ 12) (st now : Int) :
    Calls Tryz.prog 60 #[.pointer (some ⟨r, 0, none⟩), .pointer (some ⟨vb, 0, none⟩), .int .i64 k, .pointer (some ⟨b9, 0, none⟩), .int .i64 st, .int .i64 now] wx fun e w' => e = .returned (.agg #[.int .i64 1, .int .i64 k, .int .i64 st]) ∧ KS r g vb N ts Z w b9 (R.set k (endX y st now (tallyOf S k))) (closeS S k st now) A M (endX y st now (tallyOf S k)) evs v w' := by
  obtain ⟨Z1, h1, h2, h3, h4⟩ := h.at_
  refine (refer_end h1 hk hl h.bx h3 st now).mono ?_
  rintro e w' ⟨he, Z2, k1, k2, k3, hy⟩
  have hs := h.size
  have hbl := h.bx.lt
  have hn := h.new
  refine ⟨he, ⟨Z2, k1, fun j hj => (k2 j hj).elim (h2 j) (fun e => .inr (by omega)), fun e => (k2 _ e).elim h3 (fun e => by omega), fun j hj e => (k2 _ e).elim (h4 j hj) (fun e => by have := (h.own.block hj).2; omega)⟩, ⟨h.only.grow.trans k3.grow, fun j hj h5 h6 => ?_⟩, hy, h.new, h.own.of (Nat.le_refl _) (fun j hj => k3.block j (h.own.block hj).2 (fun e => e.elim (h4 j hj) (h.ne j hj)) (fun h => h)), h.ne⟩
  exact (k3.block j (by omega) (fun e => e.elim (fun e => (h2 j e).elim h5 (fun e => by omega)) (fun e => by omega)) (fun h => h)).trans (h.only.block j hj h5 h6)
/-- The place's cells. -/
theorem KS.cells (h : KS r g vb N ts Z w b9 R S A M y evs v wx) : wx.cell? ⟨b9, 0, none⟩ = some (.int .i64 y.st) ∧ wx.cell? ⟨b9, 1, none⟩ = some (.int .i64 y.tr) ∧ wx.cell? ⟨b9, 36, none⟩ = some (.int .i64 y.who) ∧ wx.cell? ⟨b9, 37, none⟩ = some (.bool y.put) ∧ wx.cell? ⟨b9, 38, none⟩ = some (.int .i64 y.bk) ∧ wx.cell? ⟨b9, 40, none⟩ = some (.int .i64 y.un) ∧ (∀ i, wx.frozen? ⟨b9, i, none⟩ = false) ∧ (loadSt_R (.pointer (some ⟨b9, 0, none⟩))).run Tryz.prog wx = .ok (.agg (rfS.f y).toArray) wx := by
  obtain ⟨x0, x1, -, -, x36, x37, x38, x39, x40, x41⟩ := rf_at h.bx.range
  exact ⟨x0, x1, x36, x37, x38, x40, fun i => h.bx.frozen i, run_loadSt_R h.bx.range⟩
/-- The deposit of its track. -/
theorem KS.track (h : KS r g vb N ts Z w b9 R S A M y evs v wx) {tk : Nat} (hk : tk < ts.length) : ∃ tb cap, wx.cell? ⟨r, 0, none⟩ = some (.slice (some ⟨tb, 0, none⟩) ts.length cap) ∧ wx.cell? ⟨tb, tk * 18 + 1, none⟩ = some (.int .i64 ts[tk].dep) := by
  obtain ⟨Z1, h1, -, -, -⟩ := h.at_
  obtain ⟨FR, hre, -⟩ := h1.re
  obtain ⟨tb, cap, gb, c0, -, htb, -⟩ := hre.cells
  exact ⟨tb, cap, c0, (trk_at htb hk) 1 _ rfl⟩
end
end Go.Proofs.YtpkamfbjgdmmoaaGreat
end

section
namespace Go.Proofs.YtpkamfbjgdmmoaaGreat
open Go.RowKit Go.Maps Go.Shelf
set_option linter.unusedVariables false
set_option linter.unusedSimpArgs false

/-- What Cancel leaves. -/
def endR (R : List Rfm) (S : Vs) (ref st now : Int) : List Rfm := if ongE R ref = 0 then R.set ref.toNat (endX (refAt R ref) st now (tallyOf S ref)) else R
def endS (R : List Rfm) (S : Vs) (ref st now : Int) : Vs := if ongE R ref = 0 then closeS S ref st now else S
section
variable {r g vb N : Nat} {ts : List Trk} {R : List Rfm} {S : Vs} {A : Acc} {M : Cls Int} {Z : FP} {w : World}
end
end Go.Proofs.YtpkamfbjgdmmoaaGreat
end

section
namespace Go.Proofs.YtpkamfbjgdmmoaaGreat
open Go.RowKit Go.Maps Go.Shelf
set_option linter.unusedVariables false
set_option linter.unusedSimpArgs false

def appEv (args : Array Value) : Sem Value := Builtin.append_ #[48, 48] 48 args
theorem appEv_hide (args : Array Value) : Builtin.append_ #[48, 48] 48 args = appEv args := rfl
theorem run_appEv {w : World} {B ub : Nat} {v : Value} {xs : List Ev} {y : Ev} (hown : OwnR evR B v xs w) (hr : w.rangeAt ub 0 (evR.f y)) (hlen : xs.length ≤ 1000000) (hB : B ≤ w.heap.size) :
    ∃ v' w', (appEv #[v, .slice (some ⟨ub, 0, none⟩) 1 1]).run Tryz.prog w = .ok v' w' ∧ OwnR evR B v' (xs ++ [y]) w' ∧ w.grownBy w' v.ownBlock ∧ (v'.ownBlock = v.ownBlock ∨ v'.ownBlock = some w.heap.size) ∧ v' ≠ .slice none 0 0 := run_appR (r := evR) hown hr hlen hB 48
/-- What Kill leaves. -/
def killA1 (A : Acc) (x : Rfm) : Acc := if x.put then unheld A x.who 10 0 else A
def killA2 (A : Acc) (x : Rfm) (dep : Int) : Acc := if x.bk = -1 then killA1 A x else unheld (killA1 A x) x.bk dep 0
def killX (x : Rfm) (now : Int) (t : Tl) : Rfm := { endX x 6 now t with put := false, bk := -1 }
def killR (R : List Rfm) (S : Vs) (ref now : Int) : List Rfm := if ongE R ref = 0 then R.set ref.toNat (killX (refAt R ref) now (tallyOf S ref)) else R
def killA (ts : List Trk) (R : List Rfm) (A : Acc) (ref : Int) : Acc := if ongE R ref = 0 then killA2 A (refAt R ref) (trkAt ts (refAt R ref).tr).dep else A
section
variable {r g vb N : Nat} {ts : List Trk} {R : List Rfm} {S : Vs} {A : Acc} {M : Cls Int} {Z : FP} {w : World}
end
end Go.Proofs.YtpkamfbjgdmmoaaGreat
end

section
namespace Go.Proofs.YtpkamfbjgdmmoaaGreat
open Go.RowKit Go.Maps Go.Shelf
set_option linter.unusedVariables false
set_option linter.unusedSimpArgs false

/-- Whose deposits come back. -/
def subB (x : Rfm) (a : Int) : Bool := x.put && (x.who == a)
def bakB (x : Rfm) (a : Int) : Bool := x.bk == a
def rfdE (R : List Rfm) (a ref : Int) : Int :=
  if refHas R ref = false then 4 else if (refAt R ref).st = 1 then 9 else if a < 0 ∨ (subB (refAt R ref) a = false ∧ bakB (refAt R ref) a = false) then 8 else 0
def rfdX (x : Rfm) (a : Int) : Rfm := { x with put := if subB x a then false else x.put, bk := if bakB x a then -1 else x.bk }
def rfdA1 (A : Acc) (x : Rfm) (a : Int) : Acc := if subB x a then unheld A a 10 a else A
def rfdA2 (A : Acc) (x : Rfm) (a dep : Int) : Acc := if bakB x a then unheld (rfdA1 A x a) a dep a else rfdA1 A x a
def rfdR (R : List Rfm) (a ref : Int) : List Rfm := if rfdE R a ref = 0 then R.set ref.toNat (rfdX (refAt R ref) a) else R
def rfdA (ts : List Trk) (R : List Rfm) (A : Acc) (a ref : Int) : Acc := if rfdE R a ref = 0 then rfdA2 A (refAt R ref) a (trkAt ts (refAt R ref).tr).dep else A
section
variable {r g vb N : Nat} {ts : List Trk} {R : List Rfm} {S : Vs} {A : Acc} {M : Cls Int} {Z : FP} {w : World}
end
end Go.Proofs.YtpkamfbjgdmmoaaGreat
end

section
namespace Go.Proofs.YtpkamfbjgdmmoaaGreat
open Go.RowKit Go.Maps Go.Shelf
attribute [local go_sem] Oper.semAt_some
set_option linter.unusedVariables false
set_option linter.unusedSimpArgs false

def prOf_R (x : Int × Rfm) : List Value := .int .i64 x.1 :: rfF x.2
theorem pairInfo_R : (Tryz.prog.info? 226).map (fun i => (i.zero, i.size, i.bytes)) = some (some (.agg (prOf_R (0, rf0)).toArray), 46, 144) := by kernel_rfl
def pair_R : RowTy Tryz.prog (Int × Rfm) where
  T := 226
  S := 224
  k := 46
  f := prOf_R
  len := fun x => by simp [prOf_R, rfF_len]
  one := fun x u hu => by
    rcases List.mem_cons.1 hu with rfl | h
    · rfl
    · exact (rfF_lit _ u h).one
  pos := by decide
  small := by decide
  slice := Tryz.underlying224
  info := by
    obtain ⟨i0, hi, hz⟩ := Option.map_eq_some_iff.1 pairInfo_R
    simp only [Prod.mk.injEq] at hz
    obtain ⟨h1, h2, h3⟩ := hz
    exact ⟨i0, _, _, hi, h1, h2, rfl, h3, by decide⟩
  row := ⟨_, Tryz.underlying226, rfl⟩
theorem list32 : ∀ l : List Nat, l.length = 32 → ∃ a0 a1 a2 a3 a4 a5 a6 a7 a8 a9 b0 b1 b2 b3 b4 b5 b6 b7 b8 b9 c0 c1 c2 c3 c4 c5 c6 c7 c8 c9 d0 d1, l = [a0, a1, a2, a3, a4, a5, a6, a7, a8, a9, b0, b1, b2, b3, b4, b5, b6, b7, b8, b9, c0, c1, c2, c3, c4, c5, c6, c7, c8, c9, d0, d1]
  | [a0, a1, a2, a3, a4, a5, a6, a7, a8, a9, b0, b1, b2, b3, b4, b5, b6, b7, b8, b9, c0, c1, c2, c3, c4, c5, c6, c7, c8, c9, d0, d1], _ => ⟨_, _, _, _, _, _, _, _, _, _, _, _, _, _, _, _, _, _, _, _, _, _, _, _, _, _, _, _, _, _, _, _, rfl⟩
def buildPr (ps : Array (Nat × Value)) : Sem Value := Instr.build 226 ps
theorem buildPr_hide (ps : Array (Nat × Value)) : Instr.build 226 ps = buildPr ps := rfl
set_option maxRecDepth 100000 in
theorem run_buildPr (k : Int) (y : Rfm) (w : World) : (buildPr #[(0, .int .i64 k), (1, .agg (rfS.f y).toArray)]).run Tryz.prog w = .ok (.agg (prOf_R (k, y)).toArray) w := by
  obtain ⟨e0, e1, h, e3, e4, e5, e6, e7, e8, e9, f0, f1, f2, f3, ok⟩ := y
  obtain ⟨a0, a1, a2, a3, a4, a5, a6, a7, a8, a9, b0, b1, b2, b3, b4, b5, b6, b7, b8, b9, c0, c1, c2, c3, c4, c5, c6, c7, c8, c9, d0, d1, rfl⟩ := list32 h ok
  kernel_rfl
def bsPr (ps : Array (Nat × Value)) : Sem Value := Instr.buildSlice 224 1 ps
theorem bsPr_hide (ps : Array (Nat × Value)) : Instr.buildSlice 224 1 ps = bsPr ps := rfl
set_option maxRecDepth 100000 in
theorem run_bsPr (x : Int × Rfm) (w : World) : (bsPr #[(0, .agg (prOf_R x).toArray)]).run Tryz.prog w = .ok (.slice (some ⟨w.heap.size, 0, none⟩) 1 1) (w.alloc (.cells (prOf_R x).toArray 226)) := by
  obtain ⟨k, e0, e1, h, e3, e4, e5, e6, e7, e8, e9, f0, f1, f2, f3, ok⟩ := x
  obtain ⟨a0, a1, a2, a3, a4, a5, a6, a7, a8, a9, b0, b1, b2, b3, b4, b5, b6, b7, b8, b9, c0, c1, c2, c3, c4, c5, c6, c7, c8, c9, d0, d1, rfl⟩ := list32 h ok
  obtain ⟨i0, hi, hz⟩ := Option.map_eq_some_iff.1 pairInfo_R
  simp only [Prod.mk.injEq] at hz
  obtain ⟨h1, h2, h3⟩ := hz
  exact run_buildSlice w _ _ 1 _ _ i0 _ Tryz.underlying224 hi h1 (by rw [h2]; decide) (by rw [h2]; decide) (by rw [h2]; kernel_rfl)
def encs_R (x : Int × Rfm) : Array Value := #[.int .i64 x.1, .agg (rfS.f x.2).toArray]
set_option maxHeartbeats 4000000 in
set_option maxRecDepth 100000 in
attribute [local go_sem ↓] loadSt_R_hide buildPr_hide bsPr_hide in
theorem still_Now_R {m : Nat} (gf : Nat) (lbx : Array Value) (xs : List (Int × Rfm)) (w : World) (eg : ∀ args w, (callFunc gf args).run Tryz.prog w = .ok (.enter gf args) w) (hit : Iter Tryz.prog m gf lbx encs_R xs (fun k => k < w.heap.size) w) (hlen : xs.length ≤ 1000000) :
    Calls Tryz.prog 96 #[.func (.func gf) #[] lbx] w fun e w' => ∃ v, e = .returned (.func (.func 119) #[] #[.pointer (some ⟨w.heap.size, 0, none⟩)]) ∧ Boxed w' w.heap.size 224 v ∧ OwnR pair_R (w.heap.size + 1) v xs w' ∧ Below w.heap.size w w' := by
  refine (callsIn_wide (n := m + 2)).1 ?_
  refine callsIn_of_wp_marks Tryz.func96 rfl trivial ?_ rfl
  simp only [Tryz.ntmps96, List.size_toArray, List.length_cons, List.length_nil, Nat.reduceAdd, Nat.reduceSub, Array.replicate_succ, Array.replicate_zero, List.push_toArray, List.append_toArray, List.nil_append, List.cons_append]
  gi_wp2_with fail
  obtain ⟨w1, hw1⟩ : ∃ w1, w1 = w.alloc (.cells #[.slice none 0 0] 224) := ⟨_, rfl⟩
  rw [← hw1]
  obtain ⟨lb, hlb⟩ : ∃ lb, lb = w.heap.size := ⟨_, rfl⟩
  have hB : Below w.heap.size w w1 := by rw [hw1]; exact (Below.refl _ w).alloc (Nat.le_refl _) _
  have hsz : w1.heap.size = lb + 1 := by rw [hw1, hlb]; simp
  have x0 : Boxed w1 lb 224 (.slice none 0 0) := by rw [hw1, hlb]; exact Boxed.new w _ _
  have HB1 := Lib.hid hB
  have HIT := Lib.hid hit
  have HSZ := Lib.hid hsz
  have l1 : lb < w1.heap.size := by omega
  have l2 : w.heap.size ≤ lb := by omega
  have HEG := Lib.hid eg
  rw [← hlb]
  have HLB := Lib.hid hlb
  have HLN := Lib.hid hlen
  clear hw1 hit hB hsz hlb eg hlen
  refine range_outerAI (n := m) (gf := gf) (lb := lbx) rfl HEG.out HIT.out (Grow.of_below HB1.out) (fun k hk => ⟨hk, HB1.out.block k hk⟩) (fun _ => rfl)
    (fun k => k = lb) (by rintro k rfl; exact ⟨l1, fun h => by omega⟩) (ColI pair_R w1.heap.size lb) (fun _ _ _ _ => False) (ColI.stab l1) (fun c _ _ _ h => h.elim)
    ⟨_, x0, OwnR.nil _ _, fun k => ⟨fun h => h.elim, fun h => by cases h⟩, Nat.le_refl _⟩
    (fun x N => { tmps := #[.func (.func gf) #[] lbx, undef, .nilFunc, .pointer (some ⟨lb, 0, none⟩), .int .i64 x.1, .pointer (some ⟨N, 0, none⟩), .func (.func gf) #[] lbx, .int .i64 x.1, .agg (rfS.f x.2).toArray, undef, undef, undef, undef, undef, undef, undef], defers := [] })
    (fun x N W => W.heap[N]? = some (.cells (rfS.f x.2).toArray 56 (0, 0))) (fun x N W W' h e => e.trans h) ?assign ?body ?done ?stop
  case assign =>
    intro l x W K hK
    simp only [encs_R]
    gi_wp2_with (first
      | (refine wplIn_allocS (s := rfS) rfl rfl rfl ?_)
      | (refine wplIn_storeS (s := rfS) (t := x.2) (b := W.heap.size) _ _ rfl rfl rfl rfl rfl (World.alloc_heap_new W _) (zeroS rfS) ?_; rw [newS])
      | fail)
    exact hK _ ((Below.refl _ W).alloc (Nat.le_refl _) _) (by simp) (World.alloc_heap_new _ _)
  case body =>
    rintro l pre x Φ N W hpx ⟨v1, hI⟩ hl1 hΦ - hlN hNW hAt
    have hpl := hpx.length_le
    rw [List.length_append, List.length_singleton] at hpl
    have hpl2 : pre.length ≤ 1000000 := by have := HLN.out; omega
    obtain ⟨ao1, cap1, rfl⟩ := hI.own.lenOf
    obtain ⟨pl, hm⟩ : ∃ pl, pl = pre.length := ⟨_, rfl⟩
    rw [← hm] at hI
    have c0 := hI.bx.cell
    have hlW : lb < W.heap.size := by have := hI.sz; omega
    have HI := Lib.hid hI
    have HPH := Lib.hid hΦ
    have HM := Lib.hid hm
    have HPL := Lib.hid hpl2
    have hsW : w1.heap.size ≤ W.heap.size := hI.sz
    have lN : (loadSt_R (.pointer (some ⟨N, 0, none⟩))).run Tryz.prog W = .ok (.agg (rfS.f x.2).toArray) W := run_loadSt_R (rangeAt_whole (T := rfS.T) hAt)
    have bP := run_buildPr x.1 x.2 W
    have bS := run_bsPr x W
    clear hI hΦ hm hpl hpl2
    gi_wp2_with (first

      | (refine wplIn_appR (r := pair_R) (y := x) rfl rfl rfl rfl ((OwnR.of HI.out.own (Nat.le_refl _) (fun k hk => Below.heap_alloc _ _ _ (HI.out.own.block hk).2))) (rangeAt_whole (T := 226) (by exact World.alloc_heap_new _ _)) HPL.out (by have h := hsW; rw [World.size_alloc]; omega) ?_; intro v' w3 hO hg3 hat3 hne; have cB : w3.cell? ⟨lb, 0, none⟩ = some (.slice ao1 pl cap1) := (World.cell?_of_block (a := ⟨lb, 0, none⟩) ((hg3.block lb (by rw [World.size_alloc]; omega) (fun e => by have := (HI.out.own.block e.symm).1; omega)).trans (Below.heap_alloc _ _ _ hlW))).trans c0; have fB : w3.frozen? ⟨lb, 0, none⟩ = false := ((HI.out.bx.alloc _).kept hg3 (fun e => by have := (HI.out.own.block e.symm).1; omega)).frozen; obtain ⟨ao2, cap2, rfl⟩ := hO.lenOf; obtain ⟨m2, hm2⟩ : ∃ m2, m2 = (pre ++ [x]).length := ⟨_, rfl⟩; rw [← hm2] at hO hat3; rw [← hm2]; have HO := Lib.hid hO; have HG3 := Lib.hid hg3; have HAT := Lib.hid hat3; clear hO hg3 hat3 hm2 hne)
      | fail)
    exact ColC.step HI.out l1 rfl ((Below.refl _ W).alloc (Nat.le_refl _) _) HO.out HG3.out HAT.out
  case done =>
    rintro D Φ W3 ⟨v3, hC⟩ hon hD hnD hK
    have hiff := hC.iff
    have HC := Lib.hid hC
    have HON := Lib.hid hon
    have HKK := Lib.hid hK
    clear hC hon hK
    gi_wp2
    refine ⟨by simp, .inl ⟨_, _, rfl, run_takeDeferred HKK.out, ?_⟩⟩
    have hC := HC.out
    have hO2 := HON.out
    have hw2 := HB1.out
    have hsz := HSZ.out
    have hlb := HLB.out
    subst hlb
    refine ⟨_, by simp [results, Tryz.results96, go_sem] <;> rfl, v3, rfl, (put_other (by omega)).trans hC.bx, hC.own.of (by omega) (fun k hk => put_other (fun e => hnD ((hiff D).2 (by rw [← e]; exact hk)))), ?_⟩
    refine ⟨hO2.grow.os.trans hw2.os, hO2.grow.tape.trans hw2.tape, hO2.grow.output.trans hw2.output, by have h1 := hO2.grow.size; have h2 := hw2.size; simp [World.putObj]; omega, fun k hk => ?_⟩
    rw [put_other (by omega), hO2.block k (by omega) (by omega) (fun h => h)]
    exact hw2.block k (by omega)
  case stop =>
    rintro D Φ c pre W3 hpre h
    exact h.elim

set_option maxHeartbeats 4000000 in
set_option maxRecDepth 100000 in
attribute [local go_sem ↓] loadSt_R_hide in
theorem now1_iter_R (n : Nat) (bx : Nat) (v : Value) (xs : List (Int × Rfm)) (w : World) (hbx : Boxed w bx 224 v) (hr : RdR pair_R w v xs) (hl : xs.length ≤ 1000000) (G : FP) (hGb : G bx) (hGv : ∀ k, v.ownBlock = some k → G k) :
    Iter Tryz.prog n 119 #[.pointer (some ⟨bx, 0, none⟩)] encs_R xs G w := by
  intro lp B Ψ J Jx Φ0 W hgw hG hΨ hΦ0 hJ hJx hround h0
  have hc1 : W.cell? ⟨bx, 0, none⟩ = some v := (World.cell?_of_block (hG bx hGb).2).trans hbx.cell
  have hrW : RdR pair_R W v xs := hr.keep hgw.size (fun k hk => (hG k (hGv k hk)).2)
  obtain ⟨hs1, hs2, hs3⟩ := hJ _ _ _ h0
  obtain ⟨ao, cap, rfl⟩ := hr.lenOf
  have hkeep : ∀ wr, Only Ψ Φ0 W wr → RdR pair_R wr (.slice ao xs.length cap) xs := fun wr ho => hrW.keep ho.grow.size (fun k hk => ho.block k (by have := (hG k (hGv k hk)).1; have := hgw.size; omega) (fun h => (hΨ k h).2 (hGv k hk)) (fun h => hΦ0 k h (hGv k hk)))
  refine callsIn_of_wp Tryz.func119 rfl trivial ?_ rfl
  simp only [Tryz.ntmps119, List.size_toArray, List.length_cons, List.length_nil, Nat.reduceAdd, Nat.reduceSub, Array.replicate_succ, Array.replicate_zero, List.push_toArray, List.append_toArray, List.nil_append, List.cons_append]
  have HK := Lib.hid hkeep
  have HL := Lib.hid hl
  have HRD := Lib.hid hround
  have HJ := Lib.hid hJ
  have HH0 := Lib.hid h0
  have hbig : (xs.length : Int) ≤ 1000000 := by omega
  clear hr hrW hround hJ hJx hG hΨ hΦ0 hbx hGb hGv h0 hs3 hl hkeep
  gi_wp2_with fail
  gi_loopw [7] (fun r wr => ∃ (k : Nat) (Φ : FP), k ≤ xs.length ∧ r = .int .i64 k ∧ J (xs.take k) Φ wr ∧ Only Ψ Φ0 W wr ∧ (∀ j, Φ j → Φ0 j ∨ W.heap.size ≤ j)) (fun r wr => xs.length - (RowKit.intOf r).toNat)
  case atStart => exact ⟨0, Φ0, Nat.zero_le _, rfl, HH0.out, Only.refl _ _ _, fun j h => .inl h⟩
  case round =>
    obtain ⟨k, Φ, hk, rfl, hJ2, ho2, hn2⟩ := hrel
    by_cases hlt : k < xs.length
    · have hlt' : (k : Int) < xs.length := by omega
      obtain ⟨x, hx⟩ : ∃ x, x = xs[k] := ⟨_, rfl⟩
      obtain ⟨b, off, rfl, hrng, hrb⟩ := (HK.out wr ho2).at hlt
      rw [← hx] at hrng
      have htk : xs.take k ++ [x] = xs.take (k + 1) := by rw [hx]; exact take_snoc hlt
      have hpre : (xs.take k ++ [x]) <+: xs := by rw [htk]; exact List.take_prefix _ _
      obtain ⟨q1, q2, q3⟩ := HJ.out _ _ _ hJ2
      obtain ⟨W1, hW1⟩ : ∃ W1, W1 = wr.alloc (.cells (prOf_R x).toArray 226) := ⟨_, rfl⟩
      have hb1 : Below wr.heap.size wr W1 := by rw [hW1]; exact (Below.refl _ wr).alloc (Nat.le_refl _) _
      have hJ1 : J (xs.take k) Φ W1 := q3 W1 (Grow.of_below hb1) (fun j hj => hb1.block j (hj.elim (fun h => by omega) (fun h => (q1 j h).2)))
      have hcx : W1.heap[wr.heap.size]? = some (.cells (prOf_R x).toArray 226 (0, 0)) := by rw [hW1]; exact World.alloc_heap_new _ _
      obtain ⟨fn, tm, asg, bd, hyy, hR⟩ := HRD.out (xs.take k) x Φ W1 hpre hJ1
      simp only [encs_R] at hyy
      have d0 : W1.cell? ⟨wr.heap.size, 0, none⟩ = some (.int .i64 x.1) := by rw [World.cell?, hcx]; rfl
      have d1 : (loadSt_R (.pointer (some ⟨wr.heap.size, 1, none⟩))).run Tryz.prog W1 = .ok (.agg (rfS.f x.2).toArray) W1 := run_loadS (s := rfS) (fun j u hj => by
        have := (rangeAt_whole (T := pair_R.T) (cs := prOf_R x) hcx) (1 + j) u (by rw [prOf_R, Nat.add_comm, List.getElem?_cons_succ]; exact hj)
        rwa [Nat.zero_add] at this)
      have HRN := Lib.hid hrng
      have HT := Lib.hid htk
      have HPR := Lib.hid hpre
      have HO2 := Lib.hid ho2
      have HN2 := Lib.hid hn2
      have HR := Lib.hid hR
      have HW1 := Lib.hid hW1
      have HB1 := Lib.hid hb1
      clear htk hpre q1 q2 q3 hx hJ2 hJ1 ho2 hn2 hR hrng hW1 hb1 hcx
      gi_wp2_with (first
        | (refine wplIn_loadR (r := pair_R) (t := x) _ rfl rfl rfl HRN.out ?_)
        | (refine wplIn_allocR (r := pair_R) rfl rfl rfl ?_; intro C hC)
        | (refine wplIn_storeR (r := pair_R) (t := x) (C := C) _ _ rfl rfl rfl rfl rfl (World.alloc_heap_new wr _) hC ?_; rw [World.setRow_alloc_new]; rw [show wr.alloc (.cells (pair_R.f x).toArray pair_R.T) = W1 from HW1.out.symm])

        | fail)
      refine HR.out.mono ?_
      rintro e W' ⟨Φ', hn', ho', (⟨rfl, hJ'⟩ | ⟨rfl, hJ'⟩)⟩
      · have ho3 : Only Ψ Φ0 W W' := (HO2.out.trans (Φ' := Φ0) (Only.of_later HB1.out) (fun j h => .inl h)).trans ho' HN2.out
        have hn3 : ∀ j, Φ' j → Φ0 j ∨ W.heap.size ≤ j := fun j hj => (hn' j hj).elim (HN2.out j) (fun h => .inr (by have := HO2.out.grow.size; have := HB1.out.size; omega))
        gi_wp2
        exact ⟨⟨k + 1, Φ', hlt, by go_num, by rw [← HT.out]; exact hJ', ho3, hn3⟩, by simp [RowKit.intOf]; omega⟩
      · have ho3 : Only Ψ Φ0 W W' := (HO2.out.trans (Φ' := Φ0) (Only.of_later HB1.out) (fun j h => .inl h)).trans ho' HN2.out
        have hn3 : ∀ j, Φ' j → Φ0 j ∨ W.heap.size ≤ j := fun j hj => (hn' j hj).elim (HN2.out j) (fun h => .inr (by have := HO2.out.grow.size; have := HB1.out.size; omega))
        gi_wp2
        refine bodyPost_ret (results_none rfl _ _ _) rfl ?_
        exact ⟨⟨_, rfl⟩, Φ', hn3, ho3, .inr ⟨_, HPR.out, hJ'⟩⟩
    · have hkn : k = xs.length := by omega
      subst hkn
      rw [List.take_length] at hJ2
      gi_wp2
      refine bodyPost_end (results_none rfl _ _ _) rfl ?_
      exact ⟨⟨_, rfl⟩, Φ, hn2, ho2, .inl hJ2⟩
theorem still_Begun_R (f : Value) (w : World) (hf : ∃ g lb, f = .func g #[] lb) : Calls Tryz.prog 120 #[f] w fun e w' => e = .returned (.func (.func 139) #[] #[.pointer (some ⟨w.heap.size, 0, none⟩)]) ∧ w' = w.alloc (.cells #[f] 130) := by
  obtain ⟨g, lb, rfl⟩ := hf
  go_enter Tryz.func120, Tryz.ntmps120
  go_wp2
  go_ret
  exact ⟨rfl, rfl⟩
theorem enters_begun_R : ∀ args w, (callFunc 139 args).run Tryz.prog w = .ok (.enter 139 args) w := enters_of Tryz.func139 (by kernel_rfl) rfl
theorem enters_now_R : ∀ args w, (callFunc 119 args).run Tryz.prog w = .ok (.enter 119 args) w := enters_of Tryz.func119 (by kernel_rfl) rfl
set_option maxHeartbeats 4000000 in
set_option maxRecDepth 100000 in
/-- What Begun tells: what another way tells when the ranging begins. -/
theorem begun_iter_R {m : Nat} (n : Nat) (sb : Nat) (gf : Nat) (lbx : Array Value) (xs : List (Int × Rfm)) (G : FP) (w : World) (hsb : Boxed w sb 130 (.func (.func gf) #[] lbx)) (eg : ∀ args w, (callFunc gf args).run Tryz.prog w = .ok (.enter gf args) w) (hit : Iter Tryz.prog m gf lbx encs_R xs G w) (hGs : G sb) (hGl : ∀ k, G k → k < w.heap.size) (hlen : xs.length ≤ 1000000) :
    IterF Tryz.prog n 139 #[.pointer (some ⟨sb, 0, none⟩)] encs_R xs G w := by
  intro lp B Ψ J Jx Φ0 W hgw hG hΨ hJ hJx hround h0
  have hc1 : W.cell? ⟨sb, 0, none⟩ = some (.func (.func gf) #[] lbx) := (World.cell?_of_block (hG sb hGs).2).trans hsb.cell
  have hitW : Iter Tryz.prog m gf lbx encs_R xs (fun k => k < W.heap.size) W := hit.later hgw hG (fun k hk => Nat.lt_of_lt_of_le (hGl k hk) hgw.size)
  have hnow := still_Now_R gf lbx xs W eg hitW hlen
  obtain ⟨hs1, hs2, hs3⟩ := hJ _ _ _ h0
  have hwalk : ∀ v W1, Boxed W1 W.heap.size 224 v → OwnR pair_R (W.heap.size + 1) v xs W1 → Below W.heap.size W W1 →
      CallsIn Fence.wide n Tryz.prog 119 #[.func (.yield lp) #[] #[], .pointer (some ⟨W.heap.size, 0, none⟩)] W1 fun e W' => (∃ v, e = .returned v) ∧ Leaves Ψ Φ0 W (fun Φ' W' => J xs Φ' W' ∨ ∃ pre, pre <+: xs ∧ Jx pre Φ' W') W' := by
    intro v W1 hb ho hB
    have hJ1 : J [] Φ0 W1 := hs3 W1 (Grow.of_below hB) (fun k hk => hB.block k (hk.elim (fun h => by omega) (fun h => (hs1 k h).2)))
    have hi := now1_iter_R n W.heap.size v xs W1 hb ho.reads hlen (fun k => W.heap.size ≤ k ∧ k < W1.heap.size) ⟨Nat.le_refl _, hb.lt⟩ (fun k hk => ⟨by have := (ho.block hk).1; omega, (ho.block hk).2⟩)
    have hcall := hi lp B Ψ J Jx Φ0 W1 (Grow.refl _) (fun k hk => ⟨hk.2, rfl⟩) (fun k hk => ⟨hΨ k hk, fun h => by have := hΨ k hk; omega⟩) (fun k hk h => by have := (hs1 k hk).2; omega) hJ hJx hround hJ1
    refine (callsIn_wide.2 (callsIn_wide.1 hcall)).mono ?_
    rintro e W' ⟨he, Φ', hn, ho', hR⟩
    exact ⟨he, Φ', fun k hk => (hn k hk).imp id (fun h => by have := hB.size; omega), (Only.of_later hB).trans ho' (fun j h => .inl h), hR⟩
  have HW := Lib.hid hwalk
  have HN := Lib.hid hnow
  clear hwalk hnow hround hJ hJx hG hΨ hsb hit hitW h0 hs1 hs3 hGs hGl hlen eg
  refine callsIn_of_wp Tryz.func139 rfl trivial ?_ rfl
  simp only [Tryz.ntmps139, List.size_toArray, List.length_cons, List.length_nil, Nat.reduceAdd, Nat.reduceSub, Array.replicate_succ, Array.replicate_zero, List.push_toArray, List.append_toArray, List.nil_append, List.cons_append]
  have en := enters_now_R
  gi_wp2_with (first
    | (gi_at_call 96; refine (callsIn_wide.2 HN.out).mono ?_; rintro e W1 ⟨v, rfl, hb, ho, hB⟩; have H1 := Lib.hid (And.intro hb (And.intro ho hB)); clear hb ho hB)
    | (refine ⟨trivial, ?_⟩; gi_at_call 96; refine (callsIn_wide.2 HN.out).mono ?_; rintro e W1 ⟨v, rfl, hb, ho, hB⟩; have H1 := Lib.hid (And.intro hb (And.intro ho hB)); clear hb ho hB)
    | (gi_at_call 119; refine (callsIn_wide.2 (callsIn_wide.1 (HW.out _ _ H1.out.1 H1.out.2.1 H1.out.2.2))).mono ?_; rintro e W' ⟨⟨v', rfl⟩, hR⟩; have H2 := Lib.hid hR; clear hR)
    | (refine ⟨trivial, ?_⟩; gi_at_call 119; refine (callsIn_wide.2 (callsIn_wide.1 (HW.out _ _ H1.out.1 H1.out.2.1 H1.out.2.2))).mono ?_; rintro e W' ⟨⟨v', rfl⟩, hR⟩; have H2 := Lib.hid hR; clear hR)
    | fail)
  refine bodyPost_end (results_none rfl _ _ _) rfl ?_
  exact ⟨⟨_, rfl⟩, H2.out⟩
end Go.Proofs.YtpkamfbjgdmmoaaGreat
end
