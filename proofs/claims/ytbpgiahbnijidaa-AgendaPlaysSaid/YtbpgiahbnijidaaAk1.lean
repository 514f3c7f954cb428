/-
  An agenda of one's own, as the laws use it; known.
-/
import Derived.Test.YtbpgiahbnijidaaTskB
namespace Go.Proofs.Ytbpgiahbnijidaa
open Go.RowKit Go.Shelf
set_option linter.unusedVariables false
set_option linter.unusedSimpArgs false

def mkT (a b : Int) : Tk := ⟨a, b, 0, List.replicate 32 0, 0, by simp⟩
def buildTk (parts : Array (Nat × Value)) : Sem Value := Instr.build 32 parts
theorem build_tk (parts : Array (Nat × Value)) : Instr.build 32 parts = buildTk parts := rfl
theorem run_build2 (a b : Int) (w : World) : (buildTk #[(0, .int .i64 a), (1, .int .i64 b)]).run Try.prog w = .ok (.agg (tc (mkT a b)).toArray) w := by kernel_rfl
theorem run_build1 (a : Int) (w : World) : (buildTk #[(0, .int .i64 a)]).run Try.prog w = .ok (.agg (tc (mkT a 0)).toArray) w := by kernel_rfl

/-- An agenda made since w0. -/
def AgSt (w0 : World) (g : Nat) (ts : List Tk) (w : World) : Prop := ∃ v, AgA w0.heap.size g v ts w ∧ Below w0.heap.size w0 w
section
variable {w0 w : World} {g : Nat} {ts : List Tk} {v : Value}
theorem AgSt.new (w : World) : AgSt w w.heap.size [] (w.alloc (.cells #[.slice none 0 0] 57)) := ⟨_, AgA.new w, (Below.refl _ _).alloc (Nat.le_refl _) _⟩
theorem AgSt.later (h : AgSt w0 g ts w) {w' : World} (hb : Below w.heap.size w w') : AgSt w0 g ts w' := by
  obtain ⟨v, hA, hB⟩ := h
  exact ⟨v, hA.later hb, hB.trans (hb.mono hB.size)⟩
theorem AgSt.left (hA : AgA w0.heap.size g v ts w) (hB : Below w0.heap.size w0 w) {ts' : List Tk} {w' : World} (h : Left2 w0.heap.size g v ts' w w') : AgSt w0 g ts' w' := by
  obtain ⟨v2, hA2, ho, -⟩ := h
  refine ⟨v2, hA2, hB.trans (ho.below hB.size (fun k hk => ?_) (fun k hk => hk.elim))⟩
  rcases hk with rfl | hk
  · exact hA.lo
  · exact (hA.own.block hk).1
theorem st_new (w : World) : Calls Try.prog 11 #[] w fun e w' => e = .returned (.pointer (some ⟨w.heap.size, 0, none⟩)) ∧ AgSt w w.heap.size [] w' :=
  (agenda_New w).mono fun e w' ⟨he, hw⟩ => ⟨he, by rw [hw]; exact AgSt.new w⟩
theorem st_put (t : Tk) (h : AgSt w0 g ts w) (hS : Srt ts) (hl : ts.length ≤ 12) : Calls Try.prog 12 #[.pointer (some ⟨g, 0, none⟩), .agg (tc t).toArray] w fun e w' => e = .returned (.int .i64 (putE ts t)) ∧ AgSt w0 g (putL ts t) w' := by
  obtain ⟨v, hA, hB⟩ := h
  exact (agenda_Put _ g v ts t w hA hS hl hB.size).mono fun e w' ⟨he, hl⟩ => ⟨he, AgSt.left hA hB hl⟩
theorem st_cancel (name : Int) (h : AgSt w0 g ts w) (hl : ts.length ≤ 12) : Calls Try.prog 14 #[.pointer (some ⟨g, 0, none⟩), .int .i64 name] w fun e w' => e = .returned (.bool (decide (0 ≤ idxN ts name))) ∧ AgSt w0 g (delN ts name) w' := by
  obtain ⟨v, hA, hB⟩ := h
  exact (agenda_Cancel _ g v ts name w hA hl hB.size).mono fun e w' ⟨he, hl⟩ => ⟨he, AgSt.left hA hB hl⟩
theorem st_len (h : AgSt w0 g ts w) : Calls Try.prog 20 #[.pointer (some ⟨g, 0, none⟩)] w fun e w' => e = .returned (.int .i64 (ts.length : Nat)) ∧ w' = w := by
  obtain ⟨v, hA, hB⟩ := h
  exact agenda_Len _ g v ts w hA
theorem st_due (now most : Int) (h : AgSt w0 g ts w) (hl : ts.length ≤ 12) : Calls Try.prog 17 #[.pointer (some ⟨g, 0, none⟩), .int .i64 now, .int .i64 most] w fun e w' => ∃ v', e = .returned v' ∧ RdT w' v' (dueL ts now most) ∧ AgSt w0 g (ts.drop (dueL ts now most).length) w' := by
  obtain ⟨v, hA, hB⟩ := h
  exact (agenda_Due _ g v ts now most w hA hl hB.size).mono fun e w' ⟨v', he, ho, hl⟩ => ⟨v', he, ho.reads, AgSt.left hA hB hl⟩
end
theorem srt_nil : Srt [] := List.Pairwise.nil
theorem srt_one (t : Tk) : Srt [t] := List.pairwise_singleton _ t
theorem k1 : putE [] (mkT 1 5) = 0 ∧ putL [] (mkT 1 5) = [mkT 1 5] := by decide +kernel
theorem k2 : putE [mkT 1 5] (mkT 2 3) = 0 ∧ putL [mkT 1 5] (mkT 2 3) = [mkT 2 3, mkT 1 5] := by decide +kernel
theorem k3 : dueL [mkT 2 3, mkT 1 5] 9 1 = [mkT 2 3] := by decide +kernel
attribute [local go_sem ↓] build_tk
set_option maxHeartbeats 4000000 in
set_option maxRecDepth 100000 in
theorem law_known (w : World) : Calls Try.prog 21 #[] w fun e w' => e = .returned (.bool true) ∧ Below w.heap.size w w' := by
  have RB := run_build2
  obtain ⟨e1, l1⟩ := k1
  obtain ⟨e2, l2⟩ := k2
  obtain ⟨T1, hT1⟩ : ∃ T, T = mkT 1 5 := ⟨_, rfl⟩
  obtain ⟨T2, hT2⟩ : ∃ T, T = mkT 2 3 := ⟨_, rfl⟩
  have B1 := run_build2 1 5
  have B2 := run_build2 2 3
  have hk3 := k3
  have hn : T2.name = 2 := by rw [hT2]; rfl
  rw [← hT1] at e1 l1 B1 e2 l2 hk3
  rw [← hT2] at e2 l2 B2 hk3
  have E1 := Lib.hid e1
  have L1 := Lib.hid l1
  have E2 := Lib.hid e2
  have L2 := Lib.hid l2
  have K3 := Lib.hid hk3
  clear e1 l1 e2 l2 hT1 hT2 hk3 RB
  go_enter Try.func21, Try.ntmps21
  go_wp2_with (first
    | (go_at_call 11; refine (st_new _).mono ?_; rintro e w1 ⟨rfl, hs⟩; have HS := Lib.hid hs; clear hs)
    | (go_at_call 12; refine (st_put T1 HS.out srt_nil (by simp)).mono ?_; rw [E1.out, L1.out]; rintro e w2 ⟨rfl, hs⟩; have HS2 := Lib.hid hs; clear hs HS)
    | (go_at_call 12; refine (st_put T2 HS2.out (srt_one _) (by simp)).mono ?_; rw [E2.out, L2.out]; rintro e w3 ⟨rfl, hs⟩; have HS3 := Lib.hid hs; clear hs HS2)
    | (go_at_call 17; refine (st_due 9 1 HS3.out (by simp)).mono ?_; rw [K3.out]; rintro e w4 ⟨v4, rfl, hr, hs⟩; obtain ⟨ao, cap, rfl⟩ := hr.lenOf; obtain ⟨rb, off, rfl, hrg, -⟩ := hr.at (i := 0) (by simp); have cN : w4.cell? ⟨rb, off, none⟩ = some (.int .i64 2) := (by have := hrg 0 (.int .i64 2) (by simp [tc, hn]); simpa using this); have HS4 := Lib.hid hs; clear hs HS3 hr hrg)
    | (go_at_call 20; refine (st_len HS4.out).mono ?_; rintro e w5 ⟨rfl, rfl⟩)
    | fail)
  exact bodyPost_ret (v := .bool true) (by simp [results, Try.results21, go_sem]) rfl ⟨rfl, (by obtain ⟨_, _, hB⟩ := HS4.out; exact hB)⟩
end Go.Proofs.Ytbpgiahbnijidaa
