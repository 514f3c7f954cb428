/-
  The law's known: what is locked stays.
-/
import Derived.Test.YtfgkaookgfghoaaGreatLd8
namespace Go.Proofs.YtfgkaookgfghoaaGreat
open Go.RowKit Go.Maps Go.Shelf
set_option linter.unusedVariables false
set_option linter.unusedSimpArgs false

theorem ledger_New_ok {v : Value} {l : List Int} {w : World} (hr : RdI w v l) (hm : l.length ≤ maxLen) (hok : newOk l) : Calls Tryz.prog 10 #[v] w fun e w' => ∃ g gl, e = .returned (.tuple #[.pointer (some ⟨g, 0, none⟩), .int .i64 0]) ∧ LdAt w.heap.size g gl (accL l) [] w' ∧ Below w.heap.size w w' := by
  refine (ledger_New v l w hr hm).mono ?_
  rintro e w' ⟨hb, ⟨-, g, rfl, gl, hl⟩ | ⟨hno, -⟩⟩
  · exact ⟨g, gl, rfl, hl, hb⟩
  · exact absurd hok hno
theorem ledger_New_bad {v : Value} {l : List Int} {w : World} (hr : RdI w v l) (hm : l.length ≤ maxLen) (hok : ¬ newOk l) : Calls Tryz.prog 10 #[v] w fun e w' => e = .returned (.tuple #[.pointer none, .int .i64 1]) ∧ Below w.heap.size w w' := by
  refine (ledger_New v l w hr hm).mono ?_
  rintro e w' ⟨hb, ⟨hyes, -⟩ | ⟨-, rfl⟩⟩
  · exact absurd hyes hok
  · exact ⟨rfl, hb⟩
/-- A slice literal's numbers. -/
theorem RdI.lit (w : World) (T : TypeId) (l : List Int) (n : Nat) (hn : l.length = n) : RdI (w.alloc (.cells (l.map (fun n => Value.int .i64 n)).toArray T)) (.slice (some ⟨w.heap.size, 0, none⟩) n n) l := by
  subst hn
  refine .inr ⟨⟨w.heap.size, 0, none⟩, _, rfl, Nat.le_refl _, fun i hi => ?_⟩
  have h := World.alloc_heap_new w (.cells (l.map (fun n => Value.int .i64 n)).toArray T)
  have e : (⟨w.heap.size, 0, none⟩ : Addr).add i = ⟨w.heap.size, i, none⟩ := by rw [Addr.add_mid]; simp
  rw [e]
  refine cell_of h ?_
  simp [hi, List.getD_eq_getElem?_getD]
def M1 : Cls Int := lockM [] 0 1 3
theorem newOk_one {n : Int} (h : isBal n) : newOk [n] := by
  refine ⟨by simp, fun k hk => ?_, ?_⟩
  · have e : k = 0 := by simpa using hk
    subst e; exact h
  · have : sumTo (accL [n]) 10 = n := by simp [sumTo, both, accL]
    rw [this]; exact h.2
theorem known1 : newOk [5] := newOk_one (by decide)
theorem known2 : transE (accL [5]) M1 0 1 3 = 7 := by decide +kernel
theorem known2a : transA (accL [5]) M1 0 1 3 = accL [5] := by unfold transA; rw [known2]; rfl
theorem known3 : transE (accL [5]) M1 0 1 2 = 0 := by decide +kernel
def A52 : Acc := transA (accL [5]) M1 0 1 2
theorem known4 : (accOf A52 0).1 = 3 := by decide +kernel
theorem known5 : sumTo A52 10 = 5 := by decide +kernel
end Go.Proofs.YtfgkaookgfghoaaGreat
