/-
  All cells of a table, as a way (as long as nothing is done meanwhile).
-/
import Derived.Test.YtfgkaookgfghoaaGreatGrW
namespace Go.Proofs.YtfgkaookgfghoaaGreat
open Go.RowKit Go.Maps Go.Shelf
attribute [local go_sem] Oper.semAt_some
set_option linter.unusedVariables false
set_option linter.unusedSimpArgs false

theorem marks_leave {F : Fence} {n : Nat} {P : Program} {fn : Func} {tmps : Array Value} {R : Ending → World → Prop} : ∀ (Ds : List Nat) (w : World), Ds.Nodup → (∀ D ∈ Ds, w.heap[D]? = some (.deferred (some []))) →
    (∀ w', Grow w w' → (∀ k, k ∉ Ds → w'.heap[k]? = w.heap[k]?) → LeavesIn F n P fn tmps R [] .returning w') → LeavesInM F n P fn tmps R (Ds.map fun D => { target := .collected D, args := #[] }) .returning w
  | [], w, _, _, h => h w (Grow.refl w) (fun _ _ => rfl)
  | D :: Ds, w, hn, hd, h => by
    have hn' := List.nodup_cons.1 hn
    refine ⟨by simp, .inl ⟨D, _, rfl, run_takeDeferred (hd D (by simp)), ?_⟩⟩
    refine marks_leave Ds _ hn'.2 (fun D' hD' => ?_) (fun w' hg hk => h w' ((put_grow w D _).trans hg) (fun k hk' => ?_))
    · rw [put_other (fun e => hn'.1 (by rw [← e]; exact hD'))]
      exact hd D' (List.mem_cons_of_mem _ hD')
    · simp only [List.mem_cons, not_or] at hk'
      rw [hk k hk'.2, put_other hk'.1]
theorem RoundIn.inAny {n m l lp : Nat} {P : Program} {fn : FuncId} {tm : Array Value} {asg bd : Code} {W : World} {R : Ending → World → Prop} (h : RoundIn Fence.wide n P lp fn tm asg bd W R) : RoundIn (Fence.wide.inRound l) m P lp fn tm asg bd W R :=
  ⟨trivial, fun c cs _ => h.2 c cs (room_wide _)⟩
/-- The loops behind. -/
def Marks (lo : Nat) (ds : List Deferred) (Φ : FP) (w : World) : Prop :=
  ∃ Ds : List Nat, ds = Ds.map (fun D => { target := .collected D, args := #[] }) ∧ Ds.Nodup ∧ ∀ D ∈ Ds, lo ≤ D ∧ ¬ Φ D ∧ w.heap[D]? = some (.deferred (some []))
theorem Marks.nil (lo : Nat) (Φ : FP) (w : World) : Marks lo [] Φ w := ⟨[], rfl, List.nodup_nil, fun D h => by cases h⟩
theorem Marks.lt {lo : Nat} {ds : List Deferred} {Φ : FP} {w : World} (h : Marks lo ds Φ w) : True := trivial
theorem Marks.step {lo : Nat} {ds : List Deferred} {Φ Φ' : FP} {w w' : World} (h : Marks lo ds Φ w) {D : Nat} (hlo : lo ≤ D) (hD : w.heap.size ≤ D) (hnD : ¬ Φ' D) (hK : w'.heap[D]? = some (.deferred (some [])))
    (hk : ∀ k, k < w.heap.size → lo ≤ k → ¬ Φ k → w'.heap[k]? = w.heap[k]?) (hΦ : ∀ k, Φ' k → Φ k ∨ w.heap.size ≤ k) : Marks lo ({ target := .collected D, args := #[] } :: ds) Φ' w' := by
  obtain ⟨Ds, rfl, hn, hd⟩ := h
  have hlt : ∀ D' ∈ Ds, D' < w.heap.size := fun D' hD' => (Array.getElem?_eq_some_iff.1 (hd D' hD').2.2).1
  refine ⟨D :: Ds, rfl, List.nodup_cons.2 ⟨fun hm => by have := hlt D hm; omega, hn⟩, fun D' hD' => ?_⟩
  rcases List.mem_cons.1 hD' with rfl | hm
  · exact ⟨hlo, hnD, hK⟩
  · obtain ⟨h1, h2, h3⟩ := hd D' hm
    exact ⟨h1, fun hp => (hΦ D' hp).elim h2 (fun h => by have := hlt D' hm; omega), (hk D' (hlt D' hm) h1 h2).trans h3⟩
/-- One row's cells. -/
def cellsOf (M : Cls Int) (a : Int) : Cls Int := (rowOf M a).map (fun x => ((a, x.1), x.2))
def upTo (M : Cls Int) (ks : List Int) : Cls Int := ks.flatMap (cellsOf M)
theorem upTo_snoc (M : Cls Int) (ks : List Int) (a : Int) : upTo M (ks ++ [a]) = upTo M ks ++ cellsOf M a := by simp [upTo]
theorem cellsOf_take {M : Cls Int} {a : Int} {pre : List (Int × Int)} {x : Int × Int} (h : pre ++ [x] <+: rowOf M a) : pre.map (fun y => ((a, y.1), y.2)) ++ [((a, x.1), x.2)] <+: cellsOf M a := by
  obtain ⟨t, ht⟩ := h
  refine ⟨t.map (fun y => ((a, y.1), y.2)), ?_⟩
  unfold cellsOf
  rw [← ht]
  simp
/-- .. where it was left. -/
def CelX (Φ0 : FP) (base : Nat) (a : Int) (Jx : Cls Int → FP → World → Prop) (done : Cls Int) (c : Code) (pre : List (Int × Int)) (Φ : FP) (W' : World) : Prop :=
  c = .ret ∧ ∃ Φo, Jx (done ++ pre.map (fun y => ((a, y.1), y.2))) Φo W' ∧ (∀ k, Φo k → Φ0 k ∨ base ≤ k) ∧ (∀ k, Φ k ↔ Φo k ∧ base ≤ k) ∧ base ≤ W'.heap.size
theorem CelX.stab {B base : Nat} {Φ0 : FP} {a : Int} {J : Cls Int → FP → World → Prop} {done : Cls Int} (hJ : Stab B J) (hB : B ≤ base) (c : Code) : Stab base (CelX Φ0 base a J done c) := by
  rintro pre Φ W' ⟨hcc, Φo, hj, ho, hi, hs⟩
  obtain ⟨h1, h2, h3⟩ := hJ _ _ _ hj
  refine ⟨fun k hk => ⟨((hi k).1 hk).2, (h1 k ((hi k).1 hk).1).2⟩, hs, fun W'' hg hk => ⟨hcc, Φo, h3 W'' hg (fun k hk' => ?_), ho, hi, Nat.le_trans hs hg.size⟩⟩
  rcases hk' with h | h
  · exact hk k (.inl (by omega))
  · by_cases hb : k < base
    · exact hk k (.inl hb)
    · exact hk k (.inr ((hi k).2 ⟨h, by omega⟩))

end Go.Proofs.YtfgkaookgfghoaaGreat
