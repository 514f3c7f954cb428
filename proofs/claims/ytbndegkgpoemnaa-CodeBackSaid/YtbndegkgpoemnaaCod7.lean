/-
  IsExt: extrinsics' places.
-/
import Derived.Test.YtbndegkgpoemnaaCod6
import Derived.BigRegion
import Derived.RegionTactic
import Derived.Deep.WholeRow
namespace Go.Proofs.Ytbndegkgpoemnaa
open Go.RowKit
set_option linter.unusedVariables false
set_option linter.unusedSimpArgs false

def exWith (e : Ex) (hd : List Int) (h : hd.length = 7) : Ex := ⟨hd, h, e.sum, e.h32, e.vote, e.ck, e.ct, e.cn, e.ca, e.cc, e.m⟩
def exZero : Ex := ⟨[0, 0, 0, 0, 0, 0, 0], rfl, List.replicate 32 0, by simp, ⟨0, false, 0, 0, 0, 0⟩, 0, 0, 0, none, 0, 0⟩
def loadE (v : Value) : Sem Value := Instr.loadAt 30 v
theorem load_e (v : Value) : Instr.loadAt 30 v = loadE v := rfl
def storeE (p v : Value) : Sem Unit := Instr.storeAt 30 p v
theorem store_e (p v : Value) : Instr.storeAt 30 p v = storeE p v := rfl
def allocE (h : Bool) (v : Value) : Sem Value := Instr.alloc 30 h v
theorem alloc_e (h : Bool) (v : Value) : Instr.alloc 30 h v = allocE h v := rfl
def buildE (parts : Array (Nat × Value)) : Sem Value := Instr.build 30 parts
theorem build_e (parts : Array (Nat × Value)) : Instr.build 30 parts = buildE parts := rfl
theorem run_buildE (w : World) : (buildE #[]).run Try.prog w = .ok (.agg (ec exZero).toArray) w := by kernel_rfl
theorem zeroE : ((Try.prog.info? 30).bind (·.zero)) = some (.agg (ec exZero).toArray) := by kernel_rfl
theorem sizeE : (Try.prog.info? 30).map (·.size) = some 49 := by kernel_rfl
theorem run_allocE (v : Value) (w : World) : (allocE true v).run Try.prog w = .ok (.pointer (some ⟨w.heap.size, 0, none⟩)) (w.alloc (.cells (ec exZero).toArray 30)) := by
  obtain ⟨i0, hi, hz0⟩ := Option.bind_eq_some_iff.1 zeroE
  unfold allocE
  simp [Instr.alloc, zeroValue, typeInfo, hi, hz0, newVar, newRow, Value.cells, go_sem]
theorem ec_one (e : Ex) : ∀ u ∈ ec e, u.oneCell' = true := by
  intro u hu
  simp only [ec, Is, Bs, vtc, callc, List.mem_append, List.mem_map, List.mem_cons, List.not_mem_nil, or_false] at hu
  rcases hu with ⟨x, -, rfl⟩ | ⟨x, -, rfl⟩ | (rfl | rfl | rfl | rfl | rfl | rfl) | (rfl | rfl | rfl | rfl) <;> rfl
theorem run_loadE {w : World} {b : Nat} {e : Ex} (h : w.heap[b]? = some (.cells (ec e).toArray 30 (0, 0))) : (loadE (.pointer (some ⟨b, 0, none⟩))).run Try.prog w = .ok (.agg (ec e).toArray) w :=
  run_loadAt_mid w b 0 30 (ec e) _ (rangeAt_sub (A := []) (C := []) h (by simp) rfl) Try.underlying30 rfl (by rw [ec_len]; exact sizeE)
theorem run_storeE {w : World} {b : Nat} {e e0 : Ex} (h : w.heap[b]? = some (.cells (ec e0).toArray 30 (0, 0))) : (storeE (.pointer (some ⟨b, 0, none⟩)) (.agg (ec e).toArray)).run Try.prog w = .ok () (w.setRow b (ec e).toArray) := by
  simp only [storeE, Instr.storeAt, Instr.sureAddr, Sem.run_bind, Sem.run_pure, Result.andThen_ok, run_storeVar_row w b 30 30 _ (ec e).toArray h (by rw [List.size_toArray, ec_len]; exact sizeE) (by simp [ec_len]) (by rw [Array.all_eq_true_iff_forall_mem]; intro u hu; exact ec_one e u (by simpa using hu))]
theorem ec_set {e : Ex} {i : Nat} {x : Int} (hi : i < 7) : (ec e).toArray.setIfInBounds i (.int .i64 x) = (ec (exWith e (e.hd.set i x) (by simp [e.h7]))).toArray := by
  have hl : i < e.hd.length := by rw [e.h7]; exact hi
  apply Array.ext'
  simp only [Array.toList_setIfInBounds, ec, exWith, Is]
  rw [List.set_append_left _ _ (by simpa using hl), List.map_set]
  rfl
end Go.Proofs.Ytbndegkgpoemnaa
