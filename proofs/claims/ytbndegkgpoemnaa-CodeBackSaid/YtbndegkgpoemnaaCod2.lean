/-
  slices.Equal of rows of numbers.
-/
import Derived.Test.YtbndegkgpoemnaaVal3
import Derived.BigRegion
import Derived.RegionTactic
namespace Go.Proofs.Ytbndegkgpoemnaa
open Go.RowKit
set_option linter.unusedVariables false
set_option linter.unusedSimpArgs false

/-- Numbers that are only read. -/
def RdN (w : World) (v : Value) (l : List Int) : Prop := ∃ ao cap, v = .slice ao l.length cap ∧ ∀ i (hi : i < l.length), ∃ b off, ao = some ⟨b, off, none⟩ ∧ w.cell? ⟨b, off + i, none⟩ = some (.int .i64 l[i]) ∧ b < w.heap.size
theorem RdN.below {w w' : World} {v : Value} {l : List Int} (h : RdN w v l) (hb : Below w.heap.size w w') : RdN w' v l := by
  obtain ⟨ao, cap, e, h2⟩ := h
  refine ⟨ao, cap, e, fun i hi => ?_⟩
  obtain ⟨b, off, e1, e2, e3⟩ := h2 i hi
  exact ⟨b, off, e1, (World.cell?_of_block (a := ⟨b, off + i, none⟩) (hb.block b e3)).trans e2, Nat.lt_of_lt_of_le e3 hb.size⟩
theorem OwnN.reads {B : Nat} {v : Value} {l : List Int} {w : World} (h : OwnN B v l w) : RdN w v l := by
  have h0 := h
  obtain ⟨hl, h2⟩ := h
  rcases h2 with ⟨rfl, e⟩ | ⟨g, cap, cur, rfl, _, hg, _, _, hs, ht⟩
  · exact ⟨none, 0, by rw [e], fun i hi => by omega⟩
  · refine ⟨some ⟨g, 0, none⟩, cap, rfl, fun i hi => ⟨g, 0, rfl, ?_, (h0.block rfl).2⟩⟩
    rw [World.cell?, hg]
    have h1 : (Is l)[i]? = some (.int .i64 l[i]) := by simp [Is, hi]
    rw [← ht, List.getElem?_take_of_lt (by omega)] at h1
    simpa using h1
theorem take_eq_succ {l1 l2 : List Int} {k : Nat} (h1 : k < l1.length) (h2 : k < l2.length) (h : l1.take k = l2.take k) (e : l1[k] = l2[k]) : l1.take (k + 1) = l2.take (k + 1) := by
  rw [List.take_succ_eq_append_getElem h1, List.take_succ_eq_append_getElem h2, h, e]
set_option maxHeartbeats 4000000 in
set_option maxRecDepth 100000 in
theorem slices_Equal (v1 v2 : Value) (l1 l2 : List Int) (w : World) (h1 : RdN w v1 l1) (h2 : RdN w v2 l2) (hl : l1.length ≤ 900) :
    Calls Try.prog 50 #[v1, v2] w fun e w' => e = .returned (.bool (decide (l1 = l2))) ∧ Below w.heap.size w w' := by
  have g1 := h1
  have g2 := h2
  obtain ⟨a1, c1, rfl, -⟩ := g1
  obtain ⟨a2, c2, rfl, -⟩ := g2
  obtain ⟨n, hn⟩ : ∃ n, n = l1.length := ⟨_, rfl⟩
  obtain ⟨m, hm⟩ : ∃ m, m = l2.length := ⟨_, rfl⟩
  rw [← hn] at h1 hl ⊢
  rw [← hm] at h2 ⊢
  have H1 := Lib.hid h1
  have H2 := Lib.hid h2
  have HN := Lib.hid hn
  have HM := Lib.hid hm
  clear h1 h2 hn hm
  go_enter Try.func50, Try.ntmps50
  by_cases hnm : n = m
  · subst hnm
    go_wp2_with fail
    go_loopw [13] (fun i wr => ∃ (k : Nat), k ≤ n ∧ i = .int .i64 k ∧ Below w.heap.size w wr ∧ l1.take k = l2.take k) (fun i _ => n - (intOf i).toNat)
    case atStart => exact ⟨0, by omega, rfl, Below.refl _ _, rfl⟩
    case round =>
      obtain ⟨k, hk, rfl, hb, ht⟩ := hrel
      have HB := Lib.hid hb
      have HT := Lib.hid ht
      by_cases hlt : k < n
      · have hlt' : (k : Int) < n := by omega
        have hk1 : k < l1.length := by rw [← HN.out]; exact hlt
        have hk2 : k < l2.length := by rw [← HM.out]; exact hlt
        obtain ⟨ao1, cp1, e1, r1⟩ := H1.out.below hb
        obtain ⟨b1, o1, ea1, d1, -⟩ := r1 k hk1
        clear r1
        injection e1 with x1 x2 x3
        subst x1
        obtain ⟨ao2, cp2, e2, r2⟩ := H2.out.below hb
        obtain ⟨b2, o2, ea2, d2, -⟩ := r2 k hk2
        clear r2
        injection e2 with y1 y2 y3
        subst y1
        subst ea1 ea2
        obtain ⟨p, hp⟩ : ∃ p, p = l1[k] := ⟨_, rfl⟩
        obtain ⟨q, hq⟩ : ∃ q, q = l2[k] := ⟨_, rfl⟩
        rw [← hp] at d1
        rw [← hq] at d2
        clear x2 x3 y2 y3 hb ht
        by_cases he : p = q
        · have ge : (p == q) = true := by simp [he]
          have hnx := take_eq_succ hk1 hk2 HT.out (by rw [← hp, ← hq]; exact he)
          have HNX := Lib.hid hnx
          clear hnx hp hq he hk1 hk2
          go_wp2_with fail
          go_region
          go_wp2_with fail
          exact ⟨⟨k + 1, by omega, by go_num, HB.out.drew, HNX.out⟩, by simp [intOf]; omega⟩
        · have ge : (p == q) = false := by simp [he]
          have hd : decide (l1 = l2) = false := by
            apply decide_eq_false
            intro e
            subst e
            exact he (hp.trans hq.symm)
          have HD := Lib.hid hd
          clear hd hp hq he hk1 hk2
          go_wp2_with fail
          go_region
          go_wp2_with fail
          exact bodyPost_ret (v := .bool false) (by simp [results, Try.results50, go_sem]) rfl ⟨by rw [HD.out], HB.out.drew⟩
      · have hkn : k = n := by omega
        have hd : decide (l1 = l2) = true := by
          apply decide_eq_true
          have h := HT.out
          have e1 : l1.take k = l1 := List.take_of_length_le (by have := HN.out; omega)
          have e2 : l2.take k = l2 := List.take_of_length_le (by have := HM.out; omega)
          rw [e1, e2] at h
          exact h
        have HD := Lib.hid hd
        have hge : ¬ (k : Int) < n := by omega
        clear hd hb ht hkn hlt
        go_wp2_with fail
        exact bodyPost_ret (v := .bool true) (by simp [results, Try.results50, go_sem]) rfl ⟨by rw [HD.out], HB.out⟩
  · have hd : decide (l1 = l2) = false := by
      apply decide_eq_false
      intro e
      exact hnm (by rw [HN.out, HM.out, e])
    have HD := Lib.hid hd
    have ge : ((n : Int) == (m : Int)) = false := by simp; omega
    clear hd
    go_wp2_with fail
    exact bodyPost_ret (v := .bool false) (by simp [results, Try.results50, go_sem]) rfl ⟨by rw [HD.out], Below.refl _ _⟩
end Go.Proofs.Ytbndegkgpoemnaa
