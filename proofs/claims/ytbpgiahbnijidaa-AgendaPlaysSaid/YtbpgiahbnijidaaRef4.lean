/-
  The reference's Cancel.
-/
import Derived.Test.YtbpgiahbnijidaaRef3
namespace Go.Proofs.Ytbpgiahbnijidaa
open Go.RowKit Go.Shelf
set_option linter.unusedVariables false
set_option linter.unusedSimpArgs false

/-- What a row laid anew, and a store, leave. -/
theorem ref_end1 {B yb : Nat} {v v2 : Value} {ts E : List Tk} {w w3 : World} (hA : RefA B yb v ts w) (hB : B ≤ w.heap.size) (hb3 : Below w.heap.size w w3) (ho2 : OwnT w.heap.size v2 E w3) :
    LeftR B yb v E w (w3.setCell ⟨yb, 0, none⟩ v2) := by
  have hy := hA.at_.lt
  have hs3 := hb3.size
  have hset : ∀ k, k ≠ yb → (w3.setCell ⟨yb, 0, none⟩ v2).heap[k]? = w3.heap[k]? := fun k hk => heap_setCell_other _ _ _ _ hk
  have b3 : Boxed w3 yb 28 v := (hb3.block yb hy).trans hA.at_
  refine ⟨v2, ⟨b3.set _, ho2.of (by omega) (fun k hk => hset k ?_), hA.lo⟩, ⟨⟨hb3.os, hb3.tape, hb3.output, ?_⟩, fun k hk h1 _ => ?_⟩, fun k hk => .inr ?_⟩
  · have h := ho2.block hk; omega
  · simp [World.setCell]; omega
  · rw [hset k h1]; exact hb3.block k hk
  · have h := ho2.block hk; omega
attribute [local go_sem ↓] loadAt_task buildSlice_none
set_option maxHeartbeats 8000000 in
set_option maxRecDepth 100000 in
theorem ref_Cancel (B yb : Nat) (v : Value) (ts : List Tk) (name : Int) (w : World) (hA : RefA B yb v ts w) (hl : ts.length ≤ 12) (hB : B ≤ w.heap.size) :
    Calls Try.prog 15 #[.pointer (some ⟨yb, 0, none⟩), .int .i64 name] w fun e w' => e = .returned (.bool (decide (0 ≤ idxN ts name))) ∧ LeftR B yb v (delN ts name) w w' := by
  obtain ⟨ao, cap, rfl⟩ := hA.own.reads.lenOf
  obtain ⟨n, hn⟩ : ∃ n, n = ts.length := ⟨_, rfl⟩
  rw [← hn] at hA hl ⊢
  have hn12 : (n : Int) ≤ 12 := by omega
  have cY := hA.at_.cell
  have HA := Lib.hid hA
  have HN := Lib.hid hn
  have HBB := Lib.hid hB
  clear hA hn hB
  go_enter Try.func15, Try.ntmps15
  go_wp2_with fail
  go_loopw [5] (fun i wr => ∃ (k : Nat), k ≤ n ∧ i = .int .i64 k ∧ wr = w ∧ ∀ u ∈ ts.take k, u.name ≠ name) (fun i _ => n - (intOf i).toNat)
  case atStart => exact ⟨0, by omega, rfl, rfl, by simp⟩
  case round =>
    obtain ⟨k, hk, rfl, rfl, hno⟩ := hrel
    have HNO := Lib.hid hno
    clear hno
    by_cases hlt : k < n
    · have hlt' : (k : Int) < n := by omega
      have hkl : k < ts.length := by rw [← HN.out]; exact hlt
      have hcase : ∃ g, ao = some ⟨g, 0, none⟩ ∧ n ≤ cap := by
        rcases HA.out.own.2 with ⟨hv, h0⟩ | ⟨g, cap', cur, hv, hBg, -, hnc, -⟩
        · rw [← HN.out] at h0; omega
        · injection hv with e1 e2 e3
          exact ⟨g, e1, by rw [e3, HN.out]; exact hnc⟩
      obtain ⟨g, rfl, hnc⟩ := hcase
      obtain ⟨b, off, hbo, hrg, -⟩ := HA.out.own.reads.at hkl
      injection hbo with hbo
      injection hbo with e1 e2
      subst e1 e2
      obtain ⟨q, hq⟩ : ∃ q, q = (ts[k]).name := ⟨_, rfl⟩
      have cQ : wr.cell? ⟨g, k * 36, none⟩ = some (.int .i64 q) := by have := hrg 0 (.int .i64 q) (by simp [tc, hq]); simpa using this
      have HQ := Lib.hid hq
      clear hrg hq
      by_cases he : q = name
      · have ge : (q == name) = true := by simp [he]
        have hI : idxN ts name = (k : Nat) := by
          have hp : (ts.take k ++ [ts[k]]) <+: ts := by rw [← List.take_succ_eq_append_getElem hkl]; exact List.take_prefix _ _
          rw [idxN_at hp (by rw [← HQ.out, he]) HNO.out, List.length_take]
          congr 1
          omega
        have hE : delN ts name = ts.take k ++ ts.drop (k + 1) := by
          unfold delN
          rw [hI, if_pos (by omega)]
          rfl
        have hI2 : decide (0 ≤ idxN ts name) = true := by rw [hI]; simp
        have E1 := Lib.hid hE
        have E2 := Lib.hid hI2
        have hB1 : Below wr.heap.size wr (wr.alloc (.cells #[] 32)).drew := ((Below.refl _ wr).alloc (Nat.le_refl _) _).drew
        have hO1 : OwnT wr.heap.size (.slice (some ⟨wr.heap.size, 0, none⟩) 0 0) [] (wr.alloc (.cells #[] 32)).drew := ownT_none (World.alloc_heap_new wr (.cells #[] 32)) (Nat.le_refl _)
        have hA1 := HA.out.later hB1
        have cY1 : (wr.alloc (.cells #[] 32)).cell? ⟨yb, 0, none⟩ = some (.slice (some ⟨g, 0, none⟩) n cap) := hA1.at_.cell
        have hlk : (ts.take k).length = k := by rw [List.length_take]; have := HN.out; omega
        have hld : (ts.drop (k + 1)).length = n - (k + 1) := by rw [List.length_drop]; have := HN.out; omega
        have hkc : (k : Int) ≤ (cap : Int) := by omega
        have hR1 := rdT_take hA1.own (k := k) (by omega)
        have hRD := rdT_drop HA.out.own (k := k + 1) (by omega)
        have hw1 : IntKind.i64.wrap ((k : Int) + 1) = ((k + 1 : Nat) : Int) := n64_add k 1 (k + 1) rfl (by omega)
        obtain ⟨k1, hk1⟩ : ∃ k1, k1 = k + 1 := ⟨_, rfl⟩
        rw [← hk1] at hRD hld hw1 E1
        have hk1n : k1 ≤ n := by omega
        have hkk1 : k < k1 := by omega
        clear hk1
        have hk1c : (k1 : Int) ≤ (n : Int) := by omega
        have hnc2 : (n : Int) ≤ (cap : Int) := by omega
        have L1 : ([] : List Tk).length + (ts.take k).length ≤ 1000000 := by rw [hlk]; simp; omega
        have L2 : (([] : List Tk) ++ ts.take k).length + (ts.drop k1).length ≤ 1000000 := by rw [List.nil_append, hlk, hld]; omega
        have S1 := hB1.size
        have HB1 := Lib.hid hB1
        have HO1 := Lib.hid hO1
        have HR1 := Lib.hid hR1
        have HL1 := Lib.hid L1
        have HL2 := Lib.hid L2
        have HS1 := Lib.hid S1
        have RBN := run_buildNone
        clear hB1 hO1 hA1 hR1 hE hI hI2 he hlk L1 L2 S1 HQ hkl
        by_cases hkc2 : cap = k1
        · have hdr : ts.drop k1 = [] := List.eq_nil_of_length_eq_zero (by rw [hld]; omega)
          have HRD := Lib.hid (show RdT wr (.slice (some ⟨g, 0, none⟩) 0 0) (ts.drop k1) from .inr ⟨g, 0, 0, by rw [hdr]; rfl, by rw [hdr]; simp, by rw [hdr]; intro j u hj; simp [Tc] at hj⟩)
          clear hRD hdr hld
          subst hkc2
          go_upto_region 5 with fail
          go_region_law (first
            | (refine step_app_T rfl _ _ rfl wr.heap.size (.slice (some ⟨wr.heap.size, 0, none⟩) 0 0) (.slice (some ⟨g, 0, none⟩) k cap) [] (ts.take k) (by simp [Act.eval, Act.put]) (by simp [Act.eval, Act.put]) HO1.out HR1.out HL1.out HS1.out ?_; intro v1 w2 ho1 hg1 hf1; have hb2 := HB1.out.grown hg1 HS1.out (fun k hk => by have e : wr.heap.size = k := (by simpa [Value.ownBlock] using hk); omega); have cY2 : w2.cell? ⟨yb, 0, none⟩ = some (.slice (some ⟨g, 0, none⟩) n cap) := (HA.out.later hb2).at_.cell; have HO2 := Lib.hid ho1; have HR2 := Lib.hid (HRD.out.below hb2); have HB2 := Lib.hid hb2; have HS2 := Lib.hid hb2.size; clear ho1 hg1 hf1 hb2)
            | (refine step_app_T rfl _ _ rfl wr.heap.size v1 (.slice (some ⟨g, 0, none⟩) 0 0) ([] ++ ts.take k) (ts.drop cap) (by simp [Act.eval, Act.put]) (by simp [Act.eval, Act.put]) HO2.out HR2.out HL2.out HS2.out ?_; intro v2 w3 ho2 hg2 hf2; obtain ⟨a2, c2, hv2⟩ := ho2.reads.lenOf; obtain ⟨m2, hm2⟩ : ∃ m2, m2 = (([] : List Tk) ++ ts.take k ++ ts.drop cap).length := ⟨_, rfl⟩; rw [← hm2] at hv2; subst hv2; clear hm2; have hb3 := HB2.out.grown hg2 HS2.out (fun k hk => (HO2.out.block hk).1); have hE := ref_end1 HA.out HBB.out hb3 ho2; have cY3 : w3.cell? ⟨yb, 0, none⟩ = some (.slice (some ⟨g, 0, none⟩) n cap) := (HA.out.later hb3).at_.cell; have fY3 := (HA.out.later hb3).at_.frozen; have HE := Lib.hid hE; clear ho2 hg2 hf2 hE hb3)
            | fail)
          all_goals go_wp2_with fail
          all_goals exact bodyPost_ret (v := .bool true) (by simp [results, Try.results15, go_sem]) rfl ⟨by rw [E2.out], by rw [E1.out]; exact HE.out⟩
        · have hkf : (cap = k1) = False := by simp [hkc2]
          have HRD := Lib.hid hRD
          clear hRD hld
          go_upto_region 5 with fail
          go_region_law (first
            | (refine step_app_T rfl _ _ rfl wr.heap.size (.slice (some ⟨wr.heap.size, 0, none⟩) 0 0) (.slice (some ⟨g, 0, none⟩) k cap) [] (ts.take k) (by simp [Act.eval, Act.put]) (by simp [Act.eval, Act.put]) HO1.out HR1.out HL1.out HS1.out ?_; intro v1 w2 ho1 hg1 hf1; have hb2 := HB1.out.grown hg1 HS1.out (fun k hk => by have e : wr.heap.size = k := (by simpa [Value.ownBlock] using hk); omega); have cY2 : w2.cell? ⟨yb, 0, none⟩ = some (.slice (some ⟨g, 0, none⟩) n cap) := (HA.out.later hb2).at_.cell; have HO2 := Lib.hid ho1; have HR2 := Lib.hid (HRD.out.below hb2); have HB2 := Lib.hid hb2; have HS2 := Lib.hid hb2.size; clear ho1 hg1 hf1 hb2)
            | (refine step_app_T rfl _ _ rfl wr.heap.size v1 (.slice (some ⟨g, k1 * 36, none⟩) (n - k1) (cap - k1)) ([] ++ ts.take k) (ts.drop k1) (by simp [Act.eval, Act.put]) (by simp [Act.eval, Act.put]) HO2.out HR2.out HL2.out HS2.out ?_; intro v2 w3 ho2 hg2 hf2; obtain ⟨a2, c2, hv2⟩ := ho2.reads.lenOf; obtain ⟨m2, hm2⟩ : ∃ m2, m2 = (([] : List Tk) ++ ts.take k ++ ts.drop k1).length := ⟨_, rfl⟩; rw [← hm2] at hv2; subst hv2; clear hm2; have hb3 := HB2.out.grown hg2 HS2.out (fun k hk => (HO2.out.block hk).1); have hE := ref_end1 HA.out HBB.out hb3 ho2; have cY3 : w3.cell? ⟨yb, 0, none⟩ = some (.slice (some ⟨g, 0, none⟩) n cap) := (HA.out.later hb3).at_.cell; have fY3 := (HA.out.later hb3).at_.frozen; have HE := Lib.hid hE; clear ho2 hg2 hf2 hE hb3)
            | fail)
          all_goals go_wp2_with fail
          all_goals exact bodyPost_ret (v := .bool true) (by simp [results, Try.results15, go_sem]) rfl ⟨by rw [E2.out], by rw [E1.out]; exact HE.out⟩
      · have ge : (q == name) = false := by simp [he]
        have hno2 : ∀ u ∈ ts.take (k + 1), u.name ≠ name := by
          intro u hu
          rw [List.take_succ_eq_append_getElem hkl] at hu
          rcases List.mem_append.1 hu with h | h
          · exact HNO.out u h
          · rw [List.mem_singleton] at h; rw [h, ← HQ.out]; exact he
        have HN2 := Lib.hid hno2
        clear hno2 he
        go_wp2_with fail
        exact ⟨⟨k + 1, by omega, by go_num, by first | rfl | trivial, HN2.out⟩, by simp [intOf]; omega⟩
    · have hkn : k = n := by omega
      have hno3 : ∀ u ∈ ts, u.name ≠ name := fun u hu => by
        have h := HNO.out
        rw [hkn, HN.out, List.take_length] at h
        exact h u hu
      have hge : ¬ (k : Int) < n := by omega
      have hI : idxN ts name = -1 := idxN_none hno3
      have hE : delN ts name = ts := by unfold delN; rw [hI]; rfl
      have hI2 : decide (0 ≤ idxN ts name) = false := by rw [hI]; rfl
      have E1 := Lib.hid hE
      have E2 := Lib.hid hI2
      clear hlt hkn hno3 hE hI hI2
      go_wp2_with fail
      exact bodyPost_ret (v := .bool false) (by simp [results, Try.results15, go_sem]) rfl ⟨by rw [E2.out], by rw [E1.out]; exact LeftR.same HA.out (Below.refl _ _)⟩
end Go.Proofs.Ytbpgiahbnijidaa
