/-
  Contracts of compact's laws: what is known.
-/
import Derived.Test.YtbndegkgpoemnaaCom7
namespace Go.Proofs.Ytbndegkgpoemnaa
open Go.RowKit
set_option linter.unusedVariables false

theorem put69 : numsL [69] = [21, 1] := by decide
theorem take5 : takeL [3, 0, 0, 0, 64] = some (1073741824, 5) := by decide

theorem add_at (b o i : Nat) : (⟨b, o, none⟩ : Addr).add i = ⟨b, o + i, none⟩ := by
  unfold Addr.add; split
  · rename_i h; subst h; rfl
  · rfl
theorem rdI_lit (w : World) (l : List Int) (c : Array Value) (t : TypeId) (hc : ∀ i, i < l.length → c[i]? = some (.int .i64 (l.getD i 0))) :
    RdI (w.alloc (.cells c t)) (.slice (some ⟨w.heap.size, 0, none⟩) l.length l.length) l :=
  .inr ⟨_, _, rfl, Nat.le_refl _, fun i hi => by rw [add_at, Nat.zero_add, World.cell?_alloc_new]; exact hc i hi⟩
theorem rdB_lit (w : World) (l : List Nat) (c : Array Value) (t : TypeId) (hc : ∀ i, i < l.length → c[i]? = some (.int .u8 ((l.getD i 0 : Nat) : Int))) :
    RdB (w.alloc (.cells c t)) (.slice (some ⟨w.heap.size, 0, none⟩) l.length l.length) l :=
  .inr ⟨_, _, rfl, Nat.le_refl _, fun i hi => by rw [add_at, Nat.zero_add, World.cell?_alloc_new]; exact hc i hi⟩
theorem rdB_nil (w : World) : RdB w (.slice none 0 0) [] := .inl ⟨rfl, rfl⟩

/-- A string of bytes. -/
def strN (l : List Nat) : ByteArray := ⟨(l.map UInt8.ofNat).toArray⟩
theorem strN_toList (l : List Nat) : (strN l).toList = l.map UInt8.ofNat := ByteArray.toList_mk _
theorem strN_eq {a b : List Nat} (ha : ∀ x ∈ a, x < 256) (hb : ∀ x ∈ b, x < 256) : (strN a).toList = (strN b).toList ↔ a = b := by
  rw [strN_toList, strN_toList]
  refine ⟨fun h => ?_, fun h => by rw [h]⟩
  have := congrArg (List.map UInt8.toNat) h
  simp only [List.map_map] at this
  have e : ∀ l : List Nat, (∀ x ∈ l, x < 256) → l.map (UInt8.toNat ∘ UInt8.ofNat) = l := fun l hl => by
    conv => rhs; rw [← List.map_id l]
    exact List.map_congr_left fun x hx => by simp; exact hl x hx
  rw [e a ha, e b hb] at this
  exact this
theorem run_str {w : World} {v : Value} {l : List Nat} (h : RdB w v l) (hb : ∀ b ∈ l, b < 256) :
    (convert 31 9 v).run Try.prog w = .ok (.string (strN l)) w := by
  rcases h with ⟨rfl, rfl⟩ | ⟨a, cap, rfl, hcap, hcell⟩
  · exact run_convert_bytes_nil w _ 5 (by kernel_rfl) (by kernel_rfl) 0 0 _ (by kernel_rfl)
  · have := run_convert_bytes_back (P := Try.prog) w 31 9 5 a cap (l.map UInt8.ofNat) (by kernel_rfl) (by kernel_rfl) (by kernel_rfl) (fun j hj => by
      have hj' : j < l.length := by simpa using hj
      rw [hcell j hj']
      have hbj := hb l[j] (List.getElem_mem hj')
      simp [hj']
      omega)
    rw [List.length_map] at this
    exact this

end Go.Proofs.Ytbndegkgpoemnaa
