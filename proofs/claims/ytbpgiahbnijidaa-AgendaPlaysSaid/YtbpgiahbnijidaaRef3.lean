/-
  The reference's Due; rows of tasks laid anew.
-/
import Derived.Test.YtbpgiahbnijidaaRef2
import Derived.Deep.RegionLaw
namespace Go.Proofs.Ytbpgiahbnijidaa
open Go.RowKit Go.Shelf
set_option linter.unusedVariables false
set_option linter.unusedSimpArgs false

/-- '[]api.Task{}'. -/
def buildNone : Sem Value := Instr.buildSlice 26 0 #[]
theorem buildSlice_none : Instr.buildSlice 26 0 #[] = buildNone := rfl
theorem run_buildNone (w : World) : buildNone.run Try.prog w = .ok (.slice (some ⟨w.heap.size, 0, none⟩) 0 0) (w.alloc (.cells #[] 32)) := by
  obtain ⟨i0, hi, hz⟩ := Option.map_eq_some_iff.1 infoT
  simp only [Prod.mk.injEq] at hz
  obtain ⟨hz0, hz1, hz2⟩ := hz
  unfold buildNone
  simp [Instr.buildSlice, run_underlying Try.underlying26, sizeOf, typeInfo, hi, newRow, Instr.fill]
  have e : ∀ f : Nat → Value, Array.map f (Array.range 0) = #[] := fun f => Array.eq_empty_of_size_eq_zero (by simp)
  rw [e]
theorem ownT_none {B b : Nat} {w : World} (h : w.heap[b]? = some (.cells #[] 32 (0, 0))) (hB : B ≤ b) : OwnT B (.slice (some ⟨b, 0, none⟩) 0 0) [] w :=
  ⟨rfl, .inr ⟨b, 0, #[], rfl, hB, h, Nat.le_refl _, by unfold maxLen; omega, rfl, rfl⟩⟩
/-- An append, at a step of a region that draws. -/
theorem step_app_T {ops : Array Oper} {o : Oper} {a : Act} {w : World} {K : Act → World → Prop} {Q : Exit → Act → World → Prop} {E : Prop}
    (hg : o.guard = none) (d x : Operand) (hop : o.op = Op.call { callee := Callee.builtin Builtin.append, args := #[d, x], argTypes := #[26, 26] })
    (B : Nat) (v u : Value) (xs ys : List Tk) (hd : a.eval d = v) (hx : a.eval x = u) (hown : OwnT B v xs w) (hr : RdT w u ys) (hlen : xs.length + ys.length ≤ 1000000) (hB : B ≤ w.heap.size)
    (hK : ∀ v' w', OwnT B v' (xs ++ ys) w' → w.grownBy w' v.ownBlock → Fresh w v v' → K (a.put o.dst v') w') :
    if Region.wanted o (yielded ops a.tmps) = true then Oper.wp Try.prog o a w K Q else E := by
  obtain ⟨i0, hi, hz⟩ := Option.map_eq_some_iff.1 infoT
  simp only [Prod.mk.injEq] at hz
  obtain ⟨hz0, hz1, hz2⟩ := hz
  obtain ⟨z, hzz, hzs⟩ := Option.map_eq_some_iff.1 hz0
  rcases hr with ⟨rfl, rfl⟩ | ⟨b, off, cap, rfl, hc, hcell⟩
  · have hrun := run_append_owned_none (P := Try.prog) (w := w) B 26 o.type 32 i0 36 Try.underlying26 hi v _ _ hown
    exact step_append_runT hg d x _ _ hop v _ hd hx hrun (hK v w (by rw [List.append_nil]; exact hown) ⟨rfl, rfl, rfl, Nat.le_refl _, fun _ _ _ => rfl⟩ (Fresh.same rfl))
  · obtain ⟨v', w', hrun, h1, h2, h3, h4⟩ := run_append_own_at (P := Try.prog) (w := w) B 26 o.type 32 i0 z 36 64 Try.underlying26 hi hzz hz1 hz2 hzs (by decide) v _ _ hown ⟨b, off, none⟩ ys.length cap (Tc ys) (Tc_len ys)
      (fun j u hj => by rw [Addr.add_mid]; exact hcell j u hj) (Tc_ones ys) (by unfold maxLen; omega) (by omega) hB
    refine step_append_runT hg d x _ _ hop v _ hd hx hrun (hK v' w' ?_ h2 (Fresh.of h4))
    unfold OwnT
    rw [Tc_append, List.length_append]
    exact h1
theorem rdT_take {B g n cap : Nat} {ts : List Tk} {w : World} (h : OwnT B (.slice (some ⟨g, 0, none⟩) n cap) ts w) {k : Nat} (hk : k ≤ ts.length) : RdT w (.slice (some ⟨g, 0, none⟩) k cap) (ts.take k) := by
  rcases h.2 with ⟨h1, -⟩ | ⟨g', cap', cur, h1, hB, hg, hn, hm, hs, ht⟩
  · cases h1
  · injection h1 with e1 e2 e3
    injection e1 with e1
    injection e1 with e1 _ _
    subst e1 e3
    have hlen : (ts.take k).length = k := by simp; omega
    refine .inr ⟨g, 0, cap, by rw [hlen], by rw [hlen]; omega, fun j u hj => ?_⟩
    rw [Nat.zero_add, World.cell?, hg]
    rw [← Tc_take, ← ht, List.take_take, List.getElem?_take] at hj
    split at hj
    · simpa using hj
    · cases hj
theorem rdT_drop {B g n cap : Nat} {ts : List Tk} {w : World} (h : OwnT B (.slice (some ⟨g, 0, none⟩) n cap) ts w) {k : Nat} (hk : k ≤ ts.length) : RdT w (.slice (some ⟨g, k * 36, none⟩) (n - k) (cap - k)) (ts.drop k) := by
  rcases h.2 with ⟨h1, -⟩ | ⟨g', cap', cur, h1, hB, hg, hn, hm, hs, ht⟩
  · cases h1
  · injection h1 with e1 e2 e3
    injection e1 with e1
    injection e1 with e1 _ _
    subst e1 e2 e3
    have hlen : (ts.drop k).length = ts.length - k := by simp
    refine .inr ⟨g, k * 36, cap - k, by rw [hlen], by rw [hlen]; omega, fun j u hj => ?_⟩
    rw [World.cell?, hg]
    rw [← Tc_drop, ← ht, List.getElem?_drop, List.getElem?_take] at hj
    split at hj
    · simpa using hj
    · cases hj
/-- Is the k-th taken? -/
def dueAt (ts : List Tk) (now most : Int) (k : Nat) : Bool := match ts[k]? with
  | some x => decide ((k : Int) < most) && decide (x.due ≤ now)
  | none => false
theorem dueAt_in {ts : List Tk} {now most : Int} {k : Nat} (h : k < ts.length) : dueAt ts now most k = (decide ((k : Int) < most) && decide (ts[k].due ≤ now)) := by simp [dueAt, h]
theorem dueAt_out {ts : List Tk} {now most : Int} {k : Nat} (h : ¬ k < ts.length) : dueAt ts now most k = false := by simp [dueAt, h]
theorem dueL_at {ts : List Tk} {now most : Int} {k : Nat} (hk : k ≤ ts.length) (h1 : ∀ j, j < k → dueAt ts now most j = true) (h2 : dueAt ts now most k = false) : dueL ts now most = ts.take k := by
  have hd : ∀ t ∈ ts.take k, t.due ≤ now := by
    intro t ht
    obtain ⟨j, hj, rfl⟩ := List.mem_iff_getElem.1 ht
    rw [List.length_take] at hj
    have := h1 j (by omega)
    rw [dueAt_in (by omega)] at this
    simp at this
    simpa using this.2
  have hm : ts.take k = [] ∨ ((ts.take k).length : Int) ≤ most := by
    by_cases h0 : k = 0
    · exact .inl (by simp [h0])
    · have := h1 (k - 1) (by omega)
      rw [dueAt_in (by omega)] at this
      simp at this
      right; rw [List.length_take]; omega
  by_cases hkl : k < ts.length
  · rw [dueAt_in hkl] at h2
    refine dueL_stop (x := ts[k]) (by rw [← List.take_succ_eq_append_getElem hkl]; exact List.take_prefix _ _) hd hm ?_
    have hlen : ((ts.take k).length : Int) = k := by rw [List.length_take]; omega
    rw [hlen]
    simp only [Bool.and_eq_false_iff, decide_eq_false_iff_not] at h2
    omega
  · have e : ts.take k = ts := List.take_of_length_le (by omega)
    rw [e] at hd hm ⊢
    exact dueL_all hd hm
/-- What two rows laid anew, and a store, leave. -/
theorem ref_end {B yb : Nat} {v v1 v2 : Value} {ts D E : List Tk} {w w2 w3 : World} (hA : RefA B yb v ts w) (hB : B ≤ w.heap.size) (hb2 : Below w.heap.size w w2) (ho1 : OwnT w.heap.size v1 D w2) (hg : (w2.alloc (.cells #[] 32)).grownBy w3 (some w2.heap.size)) (ho2 : OwnT w2.heap.size v2 E w3) :
    OwnT w.heap.size v1 D (w3.setCell ⟨yb, 0, none⟩ v2) ∧ LeftR B yb v E w (w3.setCell ⟨yb, 0, none⟩ v2) := by
  have hy := hA.at_.lt
  have hs2 := hb2.size
  have hs3 := hg.size
  rw [World.size_alloc] at hs3
  have hk2 : ∀ k, k < w2.heap.size → w3.heap[k]? = w2.heap[k]? := fun k hk => (hg.block k (by rw [World.size_alloc]; omega) (by intro e; injection e with e; omega)).trans (Below.heap_alloc _ _ _ hk)
  have hset : ∀ k, k ≠ yb → (w3.setCell ⟨yb, 0, none⟩ v2).heap[k]? = w3.heap[k]? := fun k hk => heap_setCell_other _ _ _ _ hk
  have b3 : Boxed w3 yb 28 v := (hk2 yb (by omega)).trans ((hb2.block yb hy).trans hA.at_)
  refine ⟨ho1.of (Nat.le_refl _) (fun k hk => ?_), v2, ⟨b3.set _, ho2.of (by omega) (fun k hk => hset k ?_), hA.lo⟩, ⟨⟨?_, ?_, ?_, ?_⟩, fun k hk h1 _ => ?_⟩, fun k hk => .inr ?_⟩
  · have h := ho1.block hk
    rw [hset k (by omega)]; exact hk2 k h.2
  · have h := ho2.block hk; omega
  · exact hg.os.trans hb2.os
  · exact hg.tape.trans hb2.tape
  · exact hg.output.trans hb2.output
  · simp [World.setCell]; omega
  · rw [hset k h1, hk2 k (by omega)]; exact hb2.block k hk
  · have h := ho2.block hk; omega
attribute [local go_sem ↓] loadAt_task buildSlice_none
set_option maxHeartbeats 8000000 in
set_option maxRecDepth 100000 in
theorem ref_Due (B yb : Nat) (v : Value) (ts : List Tk) (now most : Int) (w : World) (hA : RefA B yb v ts w) (hl : ts.length ≤ 12) (hB : B ≤ w.heap.size) :
    Calls Try.prog 18 #[.pointer (some ⟨yb, 0, none⟩), .int .i64 now, .int .i64 most] w fun e w' => ∃ v', e = .returned v' ∧ OwnT w.heap.size v' (dueL ts now most) w' ∧ LeftR B yb v (ts.drop (dueL ts now most).length) w w' := by
  obtain ⟨ao, cap, rfl⟩ := hA.own.reads.lenOf
  obtain ⟨n, hn⟩ : ∃ n, n = ts.length := ⟨_, rfl⟩
  rw [← hn] at hA hl ⊢
  have hn12 : (n : Int) ≤ 12 := by omega
  have cY := hA.at_.cell
  have HA := Lib.hid hA
  have HN := Lib.hid hn
  have HBB := Lib.hid hB
  clear hA hn hB
  go_enter Try.func18, Try.ntmps18
  go_wp2_with fail
  go_loopw [7] (fun i wr => ∃ (k : Nat), k ≤ n ∧ i = .int .i64 k ∧ wr = w ∧ ∀ j, j < k → dueAt ts now most j = true) (fun i _ => n - (intOf i).toNat)
  case atStart => exact ⟨0, by omega, rfl, rfl, fun j h => by omega⟩
  case round =>
    obtain ⟨k, hk, rfl, rfl, hd⟩ := hrel
    have HD := Lib.hid hd
    clear hd
    go_upto_region 2 with fail
    go_cut [32] (fun q wx => q = .bool (dueAt ts now most k) ∧ wx = wr)
    case first =>
      by_cases hlt : k < n
      · have hlt' : (k : Int) < n := by omega
        have hkl : k < ts.length := by rw [← HN.out]; exact hlt
        obtain ⟨b, off, rfl, hrg, -⟩ := HA.out.own.reads.at hkl
        obtain ⟨y, hy⟩ : ∃ y, y = (ts[k]).due := ⟨_, rfl⟩
        have cQ : wr.cell? ⟨b, off + k * 36 + 1, none⟩ = some (.int .i64 y) := by have := hrg 1 (.int .i64 y) (by simp [tc, hy]); simpa using this
        have hq := dueAt_in (now := now) (most := most) hkl
        rw [← hy] at hq
        have HQ := Lib.hid hq
        clear hrg hq hy
        by_cases c1 : (k : Int) < most
        · have e1 : decide ((k : Int) < most) = true := by simpa using c1
          go_wp2_with fail
          go_meet
          exact ⟨by rw [HQ.out, e1]; simp, by first | rfl | trivial⟩
        · have e1 : decide ((k : Int) < most) = false := by simpa using c1
          go_wp2_with fail
          go_meet
          exact ⟨by rw [HQ.out, e1]; simp, by first | rfl | trivial⟩
      · have hge : ¬ (k : Int) < n := by omega
        have hq := dueAt_out (now := now) (most := most) (show ¬ k < ts.length by rw [← HN.out]; exact hlt)
        have HQ := Lib.hid hq
        clear hq
        go_wp2_with fail
        go_meet
        exact ⟨by rw [HQ.out], by first | rfl | trivial⟩
    case rest =>
      obtain ⟨rfl, rfl⟩ := hcut
      obtain ⟨q, hq⟩ : ∃ q, q = dueAt ts now most k := ⟨_, rfl⟩
      rw [← hq]
      cases q with
      | true =>
        have hlt : k < n := by
          by_cases h : k < n
          · exact h
          · rw [dueAt_out (by rw [← HN.out]; exact h)] at hq; cases hq
        have hd2 : ∀ j, j < k + 1 → dueAt ts now most j = true := fun j h => by
          by_cases e : j = k
          · subst e; exact hq.symm
          · exact HD.out j (by omega)
        have HD2 := Lib.hid hd2
        clear hd2 hq
        go_wp2_with fail
        go_roundw
        case rel => exact ⟨k + 1, by omega, by go_num, by first | rfl | trivial, HD2.out⟩
        case measure => simp [intOf]; omega
      | false =>
        have hE := dueL_at (by rw [← HN.out]; exact hk) HD.out hq.symm
        have E3 := Lib.hid hE
        clear hE hq
        have hd12 : k ≤ 12 := by omega
        have RBN := run_buildNone
        have hB1 : Below wc.heap.size wc (wc.alloc (.cells #[] 32)) := (Below.refl _ wc).alloc (Nat.le_refl _) _
        have hO1 : OwnT wc.heap.size (.slice (some ⟨wc.heap.size, 0, none⟩) 0 0) [] (wc.alloc (.cells #[] 32)) := ownT_none (World.alloc_heap_new wc _) (Nat.le_refl _)
        have hA1 := HA.out.later hB1
        have cY1 : (wc.alloc (.cells #[] 32)).cell? ⟨yb, 0, none⟩ = some (.slice ao n cap) := hA1.at_.cell
        have hlk : (ts.take k).length = k := by rw [List.length_take]; have := HN.out; omega
        have hld : (ts.drop k).length = n - k := by rw [List.length_drop]; have := HN.out; omega
        have HB1 := Lib.hid hB1
        have HO1 := Lib.hid hO1
        have HA1 := Lib.hid hA1
        have HLK := Lib.hid hlk
        have HLD := Lib.hid hld
        clear hO1 hA1 hlk hld hB1
        rcases HA.out.own.2 with ⟨hv, h0⟩ | ⟨g, cap', cur, hv, hBg, -, hnc, -⟩
        · have hn0 : n = 0 := by rw [HN.out]; exact h0
          injection hv with e1 e2 e3
          subst e1 e3
          have hk0 : k = 0 := by omega
          have ht0 : ts = [] := List.eq_nil_of_length_eq_zero (by rw [← HN.out]; exact hn0)
          clear e2 h0
          subst hk0 hn0
          have hX2 : Below wc.heap.size wc ((wc.alloc (.cells #[] 32)).alloc (.cells #[] 32)) := HB1.out.alloc HB1.out.size _
          have cY2 : ((wc.alloc (.cells #[] 32)).alloc (.cells #[] 32)).cell? ⟨yb, 0, none⟩ = some (.slice none 0 0) := (HA.out.later hX2).at_.cell
          have fY2 := (HA.out.later hX2).at_.frozen
          have hO3 := ownT_none (B := (wc.alloc (.cells #[] 32)).heap.size) (World.alloc_heap_new (wc.alloc (.cells #[] 32)) (.cells #[] 32)) (Nat.le_refl _)
          obtain ⟨hE1, hE2⟩ := ref_end HA.out HBB.out HB1.out HO1.out ⟨rfl, rfl, rfl, Nat.le_refl _, fun _ _ _ => rfl⟩ hO3
          rw [World.size_alloc] at hE1 hE2
          have HE1 := Lib.hid hE1
          have HE2 := Lib.hid hE2
          have HT0 := Lib.hid ht0
          clear hX2 hO3 hE1 hE2 ht0
          go_wp2_with fail
          exact bodyPost_ret (v := .slice (some ⟨wc.heap.size, 0, none⟩) 0 0) (by simp [results, Try.results18, go_sem]) rfl ⟨_, rfl, by rw [E3.out]; exact HE1.out, by rw [E3.out, HLK.out, HT0.out]; exact HE2.out⟩
        · injection hv with e1 e2 e3
          subst e1 e3
          clear e2
          have hnc' : n ≤ cap := by rw [HN.out]; exact hnc
          have hkc : (k : Int) ≤ (cap : Int) := by omega
          have hkt : k ≤ ts.length := by rw [← HN.out]; exact hk
          have hR1 := (rdT_take HA1.out.own hkt)
          have HR1 := Lib.hid hR1
          have hRD := (rdT_drop HA.out.own hkt)
          clear hR1 hnc
          by_cases hkc2 : cap = k
          · have hnk : n - k = 0 := by omega
            have hdr : ts.drop k = [] := List.eq_nil_of_length_eq_zero (by rw [HLD.out]; exact hnk)
            have HRD := Lib.hid (show RdT wc (.slice (some ⟨g, 0, none⟩) 0 0) (ts.drop k) from .inr ⟨g, 0, 0, by rw [hdr]; rfl, by rw [hdr]; simp, by rw [hdr]; intro j u hj; simp [Tc] at hj⟩)
            have hnk2 : n = k := by omega
            have HDR := Lib.hid hdr
            clear hRD hdr hkt
            subst hkc2 hnk2
            go_wp2_with (first
              | (at_builtin; refine wp_app_T_at (B := wc.heap.size) (v := .slice (some ⟨wc.heap.size, 0, none⟩) 0 0) (u := (.slice (some ⟨g, 0, none⟩) n n)) (xs := []) (ys := ts.take n) rfl rfl rfl rfl HO1.out HR1.out (by rw [HLK.out]; simp; omega) HB1.out.size ?_; intro v1 w2 ho1 hb1 hs1 hg1 hn1 hf1; have HB2 := Lib.hid (HB1.out.trans hb1); have hX2 : Below wc.heap.size wc (w2.alloc (.cells #[] 32)) := HB2.out.alloc hs1 _; have cY2 : (w2.alloc (.cells #[] 32)).cell? ⟨yb, 0, none⟩ = some (.slice (some ⟨g, 0, none⟩) n n) := (HA.out.later hX2).at_.cell; have fY2 := (HA.out.later hX2).at_.frozen; have HX2 := Lib.hid hX2; have HO2 := Lib.hid (show OwnT wc.heap.size v1 (ts.take n) w2 from ho1); have HO3 := Lib.hid (ownT_none (B := w2.heap.size) (World.alloc_heap_new w2 (.cells #[] 32)) (Nat.le_refl _)); have HR2 := Lib.hid (HRD.out.below hX2); clear ho1 hb1 hs1 hg1 hn1 hf1 hX2)
              | fail)
            obtain ⟨hE1, hE2⟩ := ref_end HA.out HBB.out HB2.out HO2.out ⟨rfl, rfl, rfl, Nat.le_refl _, fun _ _ _ => rfl⟩ HO3.out
            exact bodyPost_ret (v := v1) (by simp [results, Try.results18, go_sem]) rfl ⟨v1, rfl, by rw [E3.out]; exact hE1, by rw [E3.out, HLK.out, HDR.out]; exact hE2⟩
          · have hkf : (cap = k) = False := by simp [hkc2]
            have HRD := Lib.hid hRD
            clear hRD hkt
            go_wp2_with (first
              | (at_builtin; refine wp_app_T_at (B := wc.heap.size) (v := .slice (some ⟨wc.heap.size, 0, none⟩) 0 0) (u := (.slice (some ⟨g, 0, none⟩) k cap)) (xs := []) (ys := ts.take k) rfl rfl rfl rfl HO1.out HR1.out (by rw [HLK.out]; simp; omega) HB1.out.size ?_; intro v1 w2 ho1 hb1 hs1 hg1 hn1 hf1; have HB2 := Lib.hid (HB1.out.trans hb1); have hX2 : Below wc.heap.size wc (w2.alloc (.cells #[] 32)) := HB2.out.alloc hs1 _; have cY2 : (w2.alloc (.cells #[] 32)).cell? ⟨yb, 0, none⟩ = some (.slice (some ⟨g, 0, none⟩) n cap) := (HA.out.later hX2).at_.cell; have HX2 := Lib.hid hX2; have HO2 := Lib.hid (show OwnT wc.heap.size v1 (ts.take k) w2 from ho1); have HO3 := Lib.hid (ownT_none (B := w2.heap.size) (World.alloc_heap_new w2 (.cells #[] 32)) (Nat.le_refl _)); have HR2 := Lib.hid (HRD.out.below hX2); clear ho1 hb1 hs1 hg1 hn1 hf1 hX2)
              | (at_builtin; refine wp_app_T_at (B := w2.heap.size) (v := .slice (some ⟨w2.heap.size, 0, none⟩) 0 0) (u := (.slice (some ⟨g, k * 36, none⟩) (n - k) (cap - k))) (xs := []) (ys := ts.drop k) rfl rfl rfl rfl HO3.out HR2.out (by rw [HLD.out]; simp; omega) (by simp) ?_; intro v2 w3 ho2 hb2 hs2 hg2 hn2 hf2; obtain ⟨a2, c2, hv2⟩ := ho2.reads.lenOf; obtain ⟨m2, hm2⟩ : ∃ m2, m2 = (([] : List Tk) ++ ts.drop k).length := ⟨_, rfl⟩; rw [← hm2] at hv2; subst hv2; clear hm2; obtain ⟨hE1, hE2⟩ := ref_end HA.out HBB.out HB2.out HO2.out hg2 ho2; have hX3 : Below wc.heap.size wc w3 := HX2.out.trans (hb2.mono HB2.out.size); have cY3 : w3.cell? ⟨yb, 0, none⟩ = some (.slice (some ⟨g, 0, none⟩) n cap) := (HA.out.later hX3).at_.cell; have fY3 := (HA.out.later hX3).at_.frozen; have HE1 := Lib.hid hE1; have HE2 := Lib.hid hE2; clear ho2 hb2 hs2 hg2 hn2 hf2 hE1 hE2 hX3)
              | fail)
            exact bodyPost_ret (v := v1) (by simp [results, Try.results18, go_sem]) rfl ⟨v1, rfl, by rw [E3.out]; exact HE1.out, by rw [E3.out, HLK.out]; exact HE2.out⟩
end Go.Proofs.Ytbpgiahbnijidaa
