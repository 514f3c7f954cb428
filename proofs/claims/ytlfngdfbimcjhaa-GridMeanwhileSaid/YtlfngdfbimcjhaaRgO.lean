/-
  The reference's Get, Set, Del.
-/
import Derived.Test.YtlfngdfbimcjhaaRgP
import Derived.Test.YtlfngdfbimcjhaaRowA
import Derived.Deep.RegionLaw
namespace Go.Proofs.Ytlfngdfbimcjhaa
open Go.RowKit Go.Maps Go.Shelf
set_option linter.unusedVariables false
set_option linter.unusedSimpArgs false

set_option maxHeartbeats 8000000 in
set_option maxRecDepth 100000 in
theorem ref_Get (yb : Nat) (v : Value) (M : Cls Int) (a b : Int) (w : World) (hA : RefG yb v M w) (hs : SrtC M) (hl : M.length ≤ 1000000) :
    Calls Try.prog 31 #[.pointer (some ⟨yb, 0, none⟩), .int .i64 a, .int .i64 b] w fun e w' => e = .returned (.tuple #[.int .i64 ((cget M a b).getD 0), .bool (cget M a b).isSome]) ∧ Below w.heap.size w w' := by
  obtain ⟨ao, cap, hv⟩ := hA.own.lenOf
  have HA := Lib.hid hA
  have HS := Lib.hid hs
  go_enter Try.func31, Try.ntmps31
  go_upto_region 2 with (first
    | (go_at_call 41; refine (ref_place yb v M a b _ HA.out hl).mono ?_; rintro e w1 ⟨k, rfl, hp, hb⟩; have HP := Lib.hid (And.intro hp hb); clear hp hb)
    | fail)
  obtain ⟨n, hn⟩ : ∃ n, n = M.length := ⟨_, rfl⟩
  have hA1 := HA.out.below HP.out.2
  rw [hv, ← hn] at hA1
  have cY := hA1.at_.cell
  obtain ⟨d, hd⟩ : ∃ d, d = isAt M (a, b) k := ⟨_, rfl⟩
  have hg := Plc.get HS.out HP.out.1
  have hg2 := Plc.isSome HS.out HP.out.1
  rw [← hd] at hg hg2 ⊢
  cases d with
  | true =>
    obtain ⟨hkl, -⟩ := isAt_true hd.symm
    have hlt' : (k : Int) < n := by omega
    obtain ⟨bb, off, rfl, hrg, -⟩ := hA1.own.reads.at hkl
    obtain ⟨x, hx⟩ : ∃ x, x = (M[k]).2 := ⟨_, rfl⟩
    have cV : w1.cell? ⟨bb, off + k * 3 + 2, none⟩ = some (.int .i64 x) := by have := hrg 2 (.int .i64 x) (by simp [cellR, prOf_P, ← hx]); simpa [cellR] using this
    rw [if_pos rfl, List.getElem?_eq_getElem hkl] at hg
    have hgx : (cget M a b).getD 0 = x := by rw [hg, hx]; rfl
    have HGX := Lib.hid (And.intro hgx hg2)
    clear hA1 hd hg hg2 hrg hx hgx hA hs hl hv hn
    go_wp2_with fail
    exact bodyPost_ret (v := .tuple #[.int .i64 x, .bool true]) (by simp [results, Try.results31, go_sem]) rfl ⟨by rw [HGX.out.1, HGX.out.2], HP.out.2⟩
  | false =>
    have hgx : (cget M a b).getD 0 = 0 := by rw [hg]; rfl
    have HGX := Lib.hid (And.intro hgx hg2)
    clear hA1 hd hg hg2 hgx hA hs hl hv hn
    go_wp2_with fail
    exact bodyPost_ret (v := .tuple #[.int .i64 0, .bool false]) (by simp [results, Try.results31, go_sem]) rfl ⟨by rw [HGX.out.1, HGX.out.2], HP.out.2⟩

/-- What a call on it leaves: the struct may have been written; its row is as it was, or new. -/
def RefTo (yb : Nat) (v : Value) (M' : Cls Int) (w w' : World) : Prop :=
  ∃ v', RefG yb v' M' w' ∧ Grow w w' ∧ (∀ k, k < w.heap.size → k ≠ yb → w'.heap[k]? = w.heap[k]?) ∧ ∀ k, v'.ownBlock = some k → v.ownBlock = some k ∨ w.heap.size ≤ k
theorem RefTo.same {yb : Nat} {v : Value} {M : Cls Int} {w w' : World} (h : RefG yb v M w) (hb : Below w.heap.size w w') : RefTo yb v M w w' :=
  ⟨v, h.below hb, Grow.of_below hb, fun k hk _ => hb.block k hk, fun k hk => .inl hk⟩
theorem RefTo.done {yb : Nat} {v v2 : Value} {M E : Cls Int} {w w3 : World} (hA : RefG yb v M w) (hb3 : Below w.heap.size w w3) (ho : OwnR cellR w.heap.size v2 E w3) : RefTo yb v E w (w3.setCell ⟨yb, 0, none⟩ v2) := by
  have hy := hA.at_.lt
  have b3 : Boxed w3 yb 28 v := (hb3.block yb hy).trans hA.at_
  refine ⟨v2, ⟨b3.set _, ho.of (Nat.zero_le _) (fun k hk => Below.heap_setCell _ _ _ k ?_)⟩, (Grow.of_below hb3).trans ⟨rfl, rfl, rfl, by simp [World.setCell]⟩, fun k hk hne => (Below.heap_setCell _ _ _ k hne).trans (hb3.block k hk), fun k hk => .inr (ho.block hk).1⟩
  have := (ho.block hk).1
  show k ≠ yb
  omega
set_option maxHeartbeats 8000000 in
set_option maxRecDepth 100000 in
theorem ref_Set (yb : Nat) (v : Value) (M : Cls Int) (a b u : Int) (w : World) (hA : RefG yb v M w) (hs : SrtC M) (hl : M.length ≤ 400000) :
    Calls Try.prog 29 #[.pointer (some ⟨yb, 0, none⟩), .int .i64 a, .int .i64 b, .int .i64 u] w fun e w' => e = .returned (.tuple #[]) ∧ RefTo yb v (cput M a b u) w w' := by
  obtain ⟨ao, cap, hv⟩ := hA.own.lenOf
  have HA := Lib.hid hA
  have HS := Lib.hid hs
  have HLN := Lib.hid hl
  go_enter Try.func29, Try.ntmps29
  go_upto_region 1 with (first
    | (go_at_call 41; refine (ref_place yb v M a b _ HA.out (by have := HLN.out; omega)).mono ?_; rintro e w1 ⟨k, rfl, hp, hb⟩; have HP := Lib.hid (And.intro hp hb); clear hp hb)
    | fail)
  have hcap : M.length ≤ cap := by
    rcases hA.own.reads with ⟨e, e0⟩ | ⟨b, off, c, e, hc, hb, hr⟩
    · rw [e0]; exact Nat.zero_le _
    · rw [hv] at e; injection e with e1 e2 e3; rw [e3]; exact hc
  obtain ⟨n, hn⟩ : ∃ n, n = M.length := ⟨_, rfl⟩
  have hB1 : Below w.heap.size w (w1.alloc (.cells #[] 48)) := HP.out.2.alloc HP.out.2.size _
  have hO1 : OwnR cellR w.heap.size (.slice (some ⟨w1.heap.size, 0, none⟩) 0 0) [] (w1.alloc (.cells #[] 48)) := OwnR.none (World.alloc_heap_new _ _) HP.out.2.size
  have hRd : ∀ w', Below w.heap.size w w' → RdR cellR w' (.slice ao n cap) M ∧ w'.cell? ⟨yb, 0, none⟩ = some (.slice ao n cap) ∧ w'.frozen? ⟨yb, 0, none⟩ = false := fun w' hb => by
    have h := HA.out.below hb
    rw [hv, ← hn] at h
    exact ⟨h.own.reads, h.at_.cell, h.at_.frozen⟩
  have cY1 := (hRd _ hB1).2.1
  obtain ⟨d, hd⟩ : ∃ d, d = isAt M (a, b) k := ⟨_, rfl⟩
  have hkn : k ≤ n := by rw [hn]; exact HP.out.1.le
  have hnc : n ≤ cap := by omega
  have hk1 : ∃ k1, k1 ≤ n ∧ cput M a b u = ([] ++ M.take k ++ [((a, b), u)]) ++ M.drop k1 ∧ k1 = if d = true then k + 1 else k := by
    cases d with
    | true =>
      obtain ⟨hkl, he⟩ := isAt_true hd.symm
      exact ⟨k + 1, by omega, by rw [Plc.put_old HS.out HP.out.1 hkl he]; simp, rfl⟩
    | false => exact ⟨k, hkn, by rw [Plc.put_new HS.out HP.out.1 hd.symm]; simp, rfl⟩
  obtain ⟨k1, hk1n, hput, hkd⟩ := hk1
  rw [← hd]
  have L1 : ([] : Cls Int).length + (M.take k).length ≤ 1000000 := by rw [List.length_take]; simp; omega
  have L2 : ([] ++ M.take k : Cls Int).length ≤ 1000000 := by rw [List.length_append, List.length_take]; simp; omega
  have L3 : ([] ++ M.take k ++ [((a, b), u)] : Cls Int).length + (M.drop k1).length ≤ 1000000 := by simp; omega
  have HB1 := Lib.hid hB1
  have HO1 := Lib.hid hO1
  have HRD := Lib.hid hRd
  have HPUT := Lib.hid hput
  have HLL := Lib.hid (And.intro L1 (And.intro L2 L3))
  have HNM := Lib.hid hn
  have hkM : k ≤ M.length := by omega
  have hk1M : k1 ≤ M.length := by omega
  have HKM := Lib.hid (And.intro hkM hk1M)
  have hn4 : n ≤ 400000 := by omega
  clear hA hs hl hv hB1 hO1 hRd hput L1 L2 L3 hn hd hcap hkM hk1M
  have hkd2 : (d = true ∧ k1 = k + 1) ∨ (d = false ∧ k1 = k) := by cases d <;> simp_all
  clear hkd
  rcases hkd2 with ⟨rfl, hkd⟩ | ⟨rfl, hkd⟩
  all_goals go_wp2_with (first
    | (refine wpl_noneR (r := cellR) rfl rfl ?_; dsimp only [cellR])
    | (refine wpl_sliceHi (r := cellR) (k := k) rfl rfl rfl rfl (by omega) ?_; intro u1 hu1; have HU1 := Lib.hid hu1; clear hu1)
    | (refine wpl_appsR (r := cellR) (u := u1) (ys := M.take k) rfl rfl rfl rfl HO1.out (by rw [HU1.out]; exact (HRD.out _ HB1.out).1.take HKM.out.1) HLL.out.1 HB1.out.size ?_; intro v2 w2 ho2 hg2 hf2; have hb2 := HB1.out.grown hg2 HB1.out.size (fun k hk => (HO1.out.block hk).1); have HO2 := Lib.hid ho2; have HB2 := Lib.hid hb2; clear ho2 hg2 hf2 hb2)
    | (refine wpl_appR (r := cellR) (y := ((a, b), u)) rfl rfl rfl rfl (OwnR.of HO2.out (Nat.le_refl _) (fun k hk => Below.heap_alloc _ _ _ (HO2.out.block hk).2)) (rangeAt_whole (T := 48) (by exact World.alloc_heap_new _ _)) HLL.out.2.1 (by have h := HB2.out.size; rw [World.size_alloc]; omega) ?_; intro v3 w3 ho3 hg3 hf3 hn3; have hb3 := Below.grown (HB2.out.alloc HB2.out.size _) hg3 (by have h := HB2.out.size; rw [World.size_alloc]; omega) (fun k hk => (HO2.out.block hk).1); have cY3 := (HRD.out _ hb3).2.1; have HO3 := Lib.hid ho3; have HB3 := Lib.hid hb3; clear ho3 hg3 hf3 hn3 hb3)
    | (refine wpl_sliceLo (r := cellR) (k := k1) rfl rfl rfl rfl (by omega) (by omega) ?_; intro u4 hu4; have HU4 := Lib.hid hu4; clear hu4)
    | (refine wpl_appsR (r := cellR) (u := u4) (ys := M.drop k1) rfl rfl rfl rfl HO3.out (by rw [HU4.out]; exact (HRD.out _ HB3.out).1.drop HKM.out.2) HLL.out.2.2 HB3.out.size ?_; intro v4 w4 ho4 hg4 hf4; have hb4 := Below.grown HB3.out hg4 HB3.out.size (fun k hk => (HO3.out.block hk).1); have cY4 := (HRD.out _ hb4).2.1; have fY4 := (HRD.out _ hb4).2.2; obtain ⟨a4, c4, hv4⟩ := ho4.lenOf; obtain ⟨m4, hm4⟩ : ∃ m4, m4 = (([] ++ M.take k ++ [((a, b), u)] : Cls Int) ++ M.drop k1).length := ⟨_, rfl⟩; rw [← hm4] at hv4; subst hv4; clear hm4; have HE := Lib.hid (RefTo.done HA.out hb4 ho4); clear ho4 hg4 hf4 hb4)
    | fail)
  all_goals exact bodyPost_end (results_none rfl _ _ _) rfl ⟨rfl, by rw [HPUT.out]; exact HE.out⟩

/-- '[]Cell{}'. -/
def buildNoneC : Sem Value := Instr.buildSlice 26 0 #[]
theorem buildSlice_noneC : Instr.buildSlice 26 0 #[] = buildNoneC := rfl
theorem run_buildNoneC (w : World) : buildNoneC.run Try.prog w = .ok (.slice (some ⟨w.heap.size, 0, none⟩) 0 0) (w.alloc (.cells #[] 48)) := run_noneR (r := cellR) w
attribute [local go_sem ↓] buildSlice_noneC
set_option maxHeartbeats 8000000 in
set_option maxRecDepth 100000 in
theorem ref_Del (yb : Nat) (v : Value) (M : Cls Int) (a b : Int) (w : World) (hA : RefG yb v M w) (hs : SrtC M) (hl : M.length ≤ 400000) :
    Calls Try.prog 30 #[.pointer (some ⟨yb, 0, none⟩), .int .i64 a, .int .i64 b] w fun e w' => e = .returned (.bool (cget M a b).isSome) ∧ RefTo yb v (cdel M a b) w w' := by
  obtain ⟨ao, cap, hv⟩ := hA.own.lenOf
  have HA := Lib.hid hA
  have HS := Lib.hid hs
  have HLN := Lib.hid hl
  go_enter Try.func30, Try.ntmps30
  go_upto_region 2 with (first
    | (go_at_call 41; refine (ref_place yb v M a b _ HA.out (by have := HLN.out; omega)).mono ?_; rintro e w1 ⟨k, rfl, hp, hb⟩; have HP := Lib.hid (And.intro hp hb); clear hp hb)
    | fail)
  have hSm := Plc.isSome HS.out HP.out.1
  obtain ⟨d, hd⟩ : ∃ d, d = isAt M (a, b) k := ⟨_, rfl⟩
  rw [← hd] at hSm ⊢
  have HSM := Lib.hid hSm
  clear hSm
  cases d with
  | false =>
    have hdel : cdel M a b = M := Plc.del_none HS.out HP.out.1 hd.symm
    have HDL := Lib.hid hdel
    clear hA hs hl hv hd hdel
    go_wp2_with fail
    exact bodyPost_ret (v := .bool false) (by simp [results, Try.results30, go_sem]) rfl ⟨by rw [HSM.out], by rw [HDL.out]; exact RefTo.same HA.out HP.out.2⟩
  | true =>
    obtain ⟨hkl, he⟩ := isAt_true hd.symm
    have hdel : cdel M a b = [] ++ M.take k ++ M.drop (k + 1) := by rw [Plc.del_old HS.out HP.out.1 hkl he]; simp
    have hw1 : IntKind.i64.wrap ((k : Int) + 1) = ((k + 1 : Nat) : Int) := by rw [IntWalk.i64_in _ (by omega)]; omega
    obtain ⟨k1, hk1⟩ : ∃ k1, k1 = k + 1 := ⟨_, rfl⟩
    rw [← hk1] at hdel hw1
    have hk1M : k1 ≤ M.length := by omega
    have hk10 : k1 ≠ 0 := by omega
    have hkM : k ≤ M.length := by omega
    have hkk : (k : Int) ≤ (k1 : Int) := by omega
    clear hk1
    have hcase : ∃ g off, ao = some ⟨g, off, none⟩ ∧ M.length ≤ cap := by
      rcases hA.own.reads with ⟨e, e0⟩ | ⟨b', off, c, e, hc, hb, hr⟩
      · rw [e0] at hkl; simp at hkl
      · rw [hv] at e; injection e with e1 e2 e3
        exact ⟨b', off, e1, by rw [e3]; exact hc⟩
    obtain ⟨g, off, rfl, hcap⟩ := hcase
    obtain ⟨n, hn⟩ : ∃ n, n = M.length := ⟨_, rfl⟩
    have hRd : ∀ w', Below w.heap.size w w' → RdR cellR w' (.slice (some ⟨g, off, none⟩) n cap) M ∧ w'.cell? ⟨yb, 0, none⟩ = some (.slice (some ⟨g, off, none⟩) n cap) ∧ w'.frozen? ⟨yb, 0, none⟩ = false := fun w' hb => by
      have h := HA.out.below hb
      rw [hv, ← hn] at h
      exact ⟨h.own.reads, h.at_.cell, h.at_.frozen⟩
    have hB1 : Below w.heap.size w (w1.alloc (.cells #[] 48)).drew := (HP.out.2.alloc HP.out.2.size _).drew
    have hO1 : OwnR cellR w.heap.size (.slice (some ⟨w1.heap.size, 0, none⟩) 0 0) [] (w1.alloc (.cells #[] 48)).drew := OwnR.none (World.alloc_heap_new w1 (.cells #[] 48)) HP.out.2.size
    have cY1 : (w1.alloc (.cells #[] 48)).cell? ⟨yb, 0, none⟩ = some (.slice (some ⟨g, off, none⟩) n cap) := (hRd _ hB1).2.1
    have cY0 : w1.cell? ⟨yb, 0, none⟩ = some (.slice (some ⟨g, off, none⟩) n cap) := (hRd _ HP.out.2).2.1
    have hkc : (k : Int) ≤ (cap : Int) := by omega
    have hk1n : (k1 : Int) ≤ (n : Int) := by omega
    have L1 : ([] : Cls Int).length + (M.take k).length ≤ 1000000 := by rw [List.length_take]; simp; omega
    have L2 : ([] ++ M.take k : Cls Int).length + (M.drop k1).length ≤ 1000000 := by simp; omega
    have RBN := run_buildNoneC
    have hR1 : RdR cellR (w1.alloc (.cells #[] 48)).drew (.slice (some ⟨g, off, none⟩) k cap) (M.take k) := by
      have := (hRd _ hB1).1.take (k := k) (by omega)
      simpa [sliced, Addr.add] using this
    have hR2 : ∀ w', Below w.heap.size w w' → RdR cellR w' (sliced (some ⟨g, off, none⟩) k1 n cap 3) (M.drop k1) := fun w' hb => (hRd _ hb).1.drop (k := k1) (by omega)
    have hn4 : (n : Int) ≤ 400000 := by omega
    have hnc2 : (n : Int) ≤ (cap : Int) := by omega
    have HB1 := Lib.hid hB1
    have HO1 := Lib.hid hO1
    have HRD := Lib.hid hRd
    have HR1 := Lib.hid hR1
    have HDL := Lib.hid hdel
    have HLL := Lib.hid (And.intro L1 L2)
    clear hA hs hl hv hd hB1 hO1 hRd hR1 hdel L1 L2 hkl he hcap hn hk1M hkM
    by_cases hkc2 : cap = k1
    · have HR2f := Lib.hid (show ∀ w', Below w.heap.size w w' → RdR cellR w' (.slice (some ⟨g, off, none⟩) (n - k1) (cap - k1)) (M.drop k1) from fun w' hb => by have := hR2 w' hb; simpa only [sliced, if_pos hkc2] using this)
      clear hR2
      subst hkc2
      go_upto_region 3 with fail
      go_region_law (first
        | (refine step_appsR (r := cellR) rfl _ _ rfl w.heap.size (.slice (some ⟨w1.heap.size, 0, none⟩) 0 0) (.slice (some ⟨g, off, none⟩) k cap) [] (M.take k) (by simp [Act.eval, Act.put]) (by simp [Act.eval, Act.put]) HO1.out HR1.out HLL.out.1 HB1.out.size ?_; intro v2 w2 ho2 hg2 hf2; have hb2 := HB1.out.grown hg2 HB1.out.size (fun k hk => (HO1.out.block hk).1); have cY2 := (HRD.out _ hb2).2.1; have HO2 := Lib.hid ho2; have HB2 := Lib.hid hb2; have HR2 := Lib.hid (HR2f.out _ hb2); clear ho2 hg2 hf2 hb2)
        | (refine step_appsR (r := cellR) rfl _ _ rfl w.heap.size v2 (.slice (some ⟨g, off, none⟩) (n - cap) (cap - cap)) ([] ++ M.take k) (M.drop cap) (by simp [Act.eval, Act.put]) (by simp [Act.eval, Act.put]) HO2.out HR2.out HLL.out.2 HB2.out.size ?_; intro v3 w3 ho3 hg3 hf3; obtain ⟨a3, c3, hv3⟩ := ho3.lenOf; obtain ⟨m3, hm3⟩ : ∃ m3, m3 = (([] : Cls Int) ++ M.take k ++ M.drop cap).length := ⟨_, rfl⟩; rw [← hm3] at hv3; subst hv3; clear hm3; have hb3 := HB2.out.grown hg3 HB2.out.size (fun k hk => (HO2.out.block hk).1); have cY3 := (HRD.out _ hb3).2.1; have fY3 := (HRD.out _ hb3).2.2; have HE := Lib.hid (RefTo.done HA.out hb3 ho3); clear ho3 hg3 hf3 hb3)
        | fail)
      all_goals go_wp2_with fail
      all_goals exact bodyPost_ret (v := .bool true) (by simp [results, Try.results30, go_sem]) rfl ⟨by rw [HSM.out], by rw [HDL.out]; exact HE.out⟩
    · have hkf : (cap = k1) = False := by simp [hkc2]
      have HR2f := Lib.hid (show ∀ w', Below w.heap.size w w' → RdR cellR w' (.slice (some ⟨g, off + k1 * 3, none⟩) (n - k1) (cap - k1)) (M.drop k1) from fun w' hb => by
          have := hR2 w' hb
          have hk3 : (k1 * 3 = 0) = False := by simp; omega
          simpa [sliced, hkc2, hk3, Addr.add] using this)
      clear hR2
      go_upto_region 3 with fail
      go_region_law (first
        | (refine step_appsR (r := cellR) rfl _ _ rfl w.heap.size (.slice (some ⟨w1.heap.size, 0, none⟩) 0 0) (.slice (some ⟨g, off, none⟩) k cap) [] (M.take k) (by simp [Act.eval, Act.put]) (by simp [Act.eval, Act.put]) HO1.out HR1.out HLL.out.1 HB1.out.size ?_; intro v2 w2 ho2 hg2 hf2; have hb2 := HB1.out.grown hg2 HB1.out.size (fun k hk => (HO1.out.block hk).1); have cY2 := (HRD.out _ hb2).2.1; have HO2 := Lib.hid ho2; have HB2 := Lib.hid hb2; have HR2 := Lib.hid (HR2f.out _ hb2); clear ho2 hg2 hf2 hb2)
        | (refine step_appsR (r := cellR) rfl _ _ rfl w.heap.size v2 (.slice (some ⟨g, off + k1 * 3, none⟩) (n - k1) (cap - k1)) ([] ++ M.take k) (M.drop k1) (by simp [Act.eval, Act.put]) (by simp [Act.eval, Act.put]) HO2.out HR2.out HLL.out.2 HB2.out.size ?_; intro v3 w3 ho3 hg3 hf3; obtain ⟨a3, c3, hv3⟩ := ho3.lenOf; obtain ⟨m3, hm3⟩ : ∃ m3, m3 = (([] : Cls Int) ++ M.take k ++ M.drop k1).length := ⟨_, rfl⟩; rw [← hm3] at hv3; subst hv3; clear hm3; have hb3 := HB2.out.grown hg3 HB2.out.size (fun k hk => (HO2.out.block hk).1); have cY3 := (HRD.out _ hb3).2.1; have fY3 := (HRD.out _ hb3).2.2; have HE := Lib.hid (RefTo.done HA.out hb3 ho3); clear ho3 hg3 hf3 hb3)
        | fail)
      all_goals go_wp2_with fail
      all_goals exact bodyPost_ret (v := .bool true) (by simp [results, Try.results30, go_sem]) rfl ⟨by rw [HSM.out], by rw [HDL.out]; exact HE.out⟩
end Go.Proofs.Ytlfngdfbimcjhaa
