/-
  agenda's New, Len, Cancel.
-/
import Derived.Test.YtbpgiahbnijidaaTsk9
namespace Go.Proofs.Ytbpgiahbnijidaa
open Go.RowKit Go.Shelf
set_option linter.unusedVariables false
set_option linter.unusedSimpArgs false

theorem agenda_New (w : World) : Calls Try.prog 11 #[] w fun e w' => e = .returned (.pointer (some ⟨w.heap.size, 0, none⟩)) ∧ w' = w.alloc (.cells #[.slice none 0 0] 57) := by
  go_enter Try.func11, Try.ntmps11
  go_wp2
  go_ret
  exact ⟨rfl, rfl⟩
theorem AgA.new (w : World) : AgA w.heap.size w.heap.size (.slice none 0 0) [] (w.alloc (.cells #[.slice none 0 0] 57)) :=
  ⟨heap_alloc_new w _, OwnT.nil _ _, by simp [Value.ownBlock], Nat.le_refl _⟩
theorem agenda_Len (B g : Nat) (v : Value) (ts : List Tk) (w : World) (hA : AgA B g v ts w) : Calls Try.prog 20 #[.pointer (some ⟨g, 0, none⟩)] w fun e w' => e = .returned (.int .i64 (ts.length : Nat)) ∧ w' = w := by
  obtain ⟨ao, cap, rfl⟩ := hA.own.reads.lenOf
  have hc : w.cell? ⟨g, 0, none⟩ = some (.slice ao ts.length cap) := by rw [World.cell?, hA.at_]; rfl
  clear hA
  go_enter Try.func20, Try.ntmps20
  go_wp2
  go_ret
  exact ⟨rfl, rfl⟩
/-- What is left when the task of a name is taken away. -/
def delN (ts : List Tk) (name : Int) : List Tk := if 0 ≤ idxN ts name then delAt ts (idxN ts name).toNat ((idxN ts name).toNat + 1) else ts
theorem idxN_lt {ts : List Tk} {name : Int} : idxN ts name < ts.length ∧ -1 ≤ idxN ts name := by
  unfold idxN
  split
  · rename_i i h
    have := (List.findIdx?_eq_some_iff_getElem.1 h).1
    omega
  · omega
set_option maxHeartbeats 8000000 in
set_option maxRecDepth 100000 in
theorem agenda_Cancel (B g : Nat) (v : Value) (ts : List Tk) (name : Int) (w : World) (hA : AgA B g v ts w) (hl : ts.length ≤ 12) (hB : B ≤ w.heap.size) :
    Calls Try.prog 14 #[.pointer (some ⟨g, 0, none⟩), .int .i64 name] w fun e w' => e = .returned (.bool (decide (0 ≤ idxN ts name))) ∧ Left2 B g v (delN ts name) w w' := by
  obtain ⟨ao, cap, rfl⟩ := hA.own.reads.lenOf
  obtain ⟨n, hn⟩ : ∃ n, n = ts.length := ⟨_, rfl⟩
  obtain ⟨ix, hix⟩ : ∃ ix, ix = idxN ts name := ⟨_, rfl⟩
  have hlt := @idxN_lt ts name
  rw [← hix] at hlt ⊢
  rw [← hn] at hA ⊢
  have HA := Lib.hid hA
  have HIX := Lib.hid hix
  have HL := Lib.hid hl
  have HN := Lib.hid hn
  have hd : delN ts name = if 0 ≤ ix then delAt ts ix.toNat (ix.toNat + 1) else ts := by unfold delN; rw [← hix]
  have HD := Lib.hid hd
  have hn12 : (n : Int) ≤ 12 := by omega
  have hixn : ix < n := by omega
  clear hA hix hl hn hlt hd
  go_enter Try.func14, Try.ntmps14
  by_cases c : ix < 0
  · have hdec : decide (0 ≤ ix) = false := by simp; omega
    have HE := Lib.hid hdec
    have hd2 : delN ts name = ts := by rw [HD.out, if_neg (by omega)]
    have HD2 := Lib.hid hd2
    clear hdec hd2
    go_wp2_with (first | (go_at_call 23; refine (agenda_find g _ ts name _ HA.out.at_ HA.out.own.reads (by have := HL.out; omega)).mono ?_; rw [← HIX.out]; rintro e w2 ⟨rfl, hb2⟩; have HB2 := Lib.hid hb2; clear hb2) | fail)
    refine bodyPost_ret (v := .bool false) (by simp [results, Try.results14, go_sem]) rfl ⟨by rw [HE.out], by rw [HD2.out]; exact Left2.same HA.out HB2.out⟩
  · obtain ⟨i, rfl⟩ : ∃ i : Nat, ix = (i : Int) := ⟨ix.toNat, by omega⟩
    have hdec : decide (0 ≤ (i : Int)) = true := by simp
    have HE := Lib.hid hdec
    have hd2 : delN ts name = delAt ts i (i + 1) := by rw [HD.out, if_pos (by omega)]; rfl
    have HD2 := Lib.hid hd2
    have hi1 : IntKind.i64.wrap ((i : Int) + 1) = ((i + 1 : Nat) : Int) := by rw [IntWalk.i64_in _ (by omega)]; omega
    obtain ⟨i1, hi⟩ : ∃ i1, i1 = i + 1 := ⟨_, rfl⟩
    rw [← hi] at hi1
    have HI1 := Lib.hid hi
    obtain ⟨m, hm⟩ : ∃ m, m = (delAt ts i i1).length := ⟨_, rfl⟩
    have HM := Lib.hid hm
    have hil : i < n := by omega
    clear hdec hd2 hi hm
    go_wp2_with (first
      | (go_at_call 23; refine (agenda_find g _ ts name _ HA.out.at_ HA.out.own.reads (by have := HL.out; omega)).mono ?_; rw [← HIX.out]; rintro e w2 ⟨rfl, hb2⟩; have HA2 := Lib.hid (HA.out.later hb2); have hc2 : w2.cell? ⟨g, 0, none⟩ = some (.slice ao n cap) := (by rw [World.cell?, HA2.out.at_]; rfl); have HB2 := Lib.hid hb2; clear hb2)
      | (go_at_call 28; refine (delete_ts B _ ts i i1 _ HA2.out.own (by have := HI1.out; omega) (by have := HI1.out; have := HN.out; omega) (by have := HL.out; omega)).mono ?_; rintro e wn ⟨v', rfl, hO, hg8, hob⟩; have HFR := Lib.hid (Fresh.same (w := w2) hob); have hA9 : wn.heap[g]? = some (.cells #[.slice ao n cap] 57 (0, 0)) := (hg8.block g HA2.out.lt (fun e => HA2.out.ne e.symm)).trans HA2.out.at_; obtain ⟨ao', cap', hv'⟩ := hO.reads.lenOf; rw [← HM.out] at hv'; subst hv'; have hc9 : wn.cell? ⟨g, 0, none⟩ = some (.slice ao n cap) := (by rw [World.cell?, hA9]; rfl); have hf9 : wn.frozen? ⟨g, 0, none⟩ = false := (by simp [World.frozen?, hA9]); have HO9 := Lib.hid hO; have HG9 := Lib.hid hg8; have HA9 := Lib.hid hA9; clear hO hg8 hA9 hob)
      | fail)
    refine bodyPost_ret (v := .bool true) (by simp [results, Try.results14, go_sem]) rfl ⟨by rw [HE.out], ?_⟩
    rw [HD2.out, ← HI1.out]
    exact left2_store HA.out HB2.out HG9.out HO9.out HA9.out HFR.out
end Go.Proofs.Ytbpgiahbnijidaa
