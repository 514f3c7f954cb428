/-
  Contracts of compact's laws: what is known.
-/
import Derived.Test.YtioleibcekobeaaCom7
namespace Go.Proofs.Ytioleibcekobeaa
open Go.RowKit
set_option linter.unusedVariables false

theorem put69 : numsL [69] = [21, 1] := by decide
theorem take5 : takeL [3, 0, 0, 0, 64] = some (1073741824, 5) := by decide

theorem add_at (b o i : Nat) : (⟨b, o, none⟩ : Addr).add i = ⟨b, o + i, none⟩ := by
  unfold Addr.add; split
  · rename_i h; subst h; rfl
  · rfl
theorem rdI_lit (w : World) (l : List Int) (c : Array Value) (t : TypeId) (hc : ∀ i, i < l.length → c[i]? = some (.int .i64 (l.getD i 0))) :
    RdI (w.alloc (.cells c t)) (.slice (some ⟨w.heap.size, 0, none⟩) l.length l.length) l :=
  .inr ⟨_, _, rfl, Nat.le_refl _, fun i hi => by rw [add_at, Nat.zero_add, World.cell?_alloc_new]; exact hc i hi⟩
theorem rdB_lit (w : World) (l : List Nat) (c : Array Value) (t : TypeId) (hc : ∀ i, i < l.length → c[i]? = some (.int .u8 ((l.getD i 0 : Nat) : Int))) :
    RdB (w.alloc (.cells c t)) (.slice (some ⟨w.heap.size, 0, none⟩) l.length l.length) l :=
  .inr ⟨_, _, rfl, Nat.le_refl _, fun i hi => by rw [add_at, Nat.zero_add, World.cell?_alloc_new]; exact hc i hi⟩
theorem rdB_nil (w : World) : RdB w (.slice none 0 0) [] := .inl ⟨rfl, rfl⟩

/-- A string of bytes. -/
def strN (l : List Nat) : ByteArray := ⟨(l.map UInt8.ofNat).toArray⟩
theorem strN_toList (l : List Nat) : (strN l).toList = l.map UInt8.ofNat := ByteArray.toList_mk _
theorem strN_eq {a b : List Nat} (ha : ∀ x ∈ a, x < 256) (hb : ∀ x ∈ b, x < 256) : (strN a).toList = (strN b).toList ↔ a = b := by
  rw [strN_toList, strN_toList]
  refine ⟨fun h => ?_, fun h => by rw [h]⟩
  have := congrArg (List.map UInt8.toNat) h
  simp only [List.map_map] at this
  have e : ∀ l : List Nat, (∀ x ∈ l, x < 256) → l.map (UInt8.toNat ∘ UInt8.ofNat) = l := fun l hl => by
    conv => rhs; rw [← List.map_id l]
    exact List.map_congr_left fun x hx => by simp; exact hl x hx
  rw [e a ha, e b hb] at this
  exact this
theorem run_str {w : World} {v : Value} {l : List Nat} (h : RdB w v l) (hb : ∀ b ∈ l, b < 256) :
    (convert 24 9 v).run Try.prog w = .ok (.string (strN l)) w := by
  rcases h with ⟨rfl, rfl⟩ | ⟨a, cap, rfl, hcap, hcell⟩
  · exact run_convert_bytes_nil w _ 5 (by kernel_rfl) (by kernel_rfl) 0 0 _ (by kernel_rfl)
  · have := run_convert_bytes_back (P := Try.prog) w 24 9 5 a cap (l.map UInt8.ofNat) (by kernel_rfl) (by kernel_rfl) (by kernel_rfl) (fun j hj => by
      have hj' : j < l.length := by simpa using hj
      rw [hcell j hj']
      have hbj := hb l[j] (List.getElem_mem hj')
      simp [hj']
      omega)
    rw [List.length_map] at this
    exact this

set_option maxHeartbeats 1000000 in
theorem known_calls (w : World) :
    Calls Try.prog 20 #[] w fun e w' => e = .returned (.bool true) ∧ Below w.heap.size w w' := by
  go_enter Try.func20, Try.ntmps20
  go_wp2_with (first | (go_at_call 13; refine (compact_Put _ _ [] [69] _ (rdB_nil _) (rdI_lit w [69] _ _ (by intro i hi; match i, hi with | 0, _ => rfl)) (by simp) (by simp)).mono ?_; rw [put69, List.nil_append]; rintro e w1 ⟨v1, rfl, ho1, hb1, hs1⟩; have hr1 := ho1.reads; have hb21 : ∀ b ∈ ([21, 1] : List Nat), b < 256 := by decide) | (go_at_call 15; refine (compact_Take _ [3, 0, 0, 0, 64] _ (rdB_lit _ _ _ _ (by intro i hi; match i, hi with | 0, _ => rfl | 1, _ => rfl | 2, _ => rfl | 3, _ => rfl | 4, _ => rfl)) (by decide)).mono ?_; rw [take5]; rintro e w2 ⟨rfl, rfl⟩; simp only [takeV]; have hr2 := hr1.below ((Below.refl _ w1).alloc (Nat.le_refl _) (.cells #[.int .u8 3, .int .u8 0, .int .u8 0, .int .u8 0, .int .u8 64] 5)); have hstr := run_str hr2 hb21; have hst : ((strN [21, 1]).toList == [21, 1]) = true := by rw [strN_toList]; rfl) | fail)
  go_ret
  exact ⟨rfl, ((Below.refl _ _).alloc (Nat.le_refl _) _).trans (hb1.mono (by simp)) |>.alloc (by simp at hs1; omega) _⟩

end Go.Proofs.Ytioleibcekobeaa
