/-
  A slice of tasks that comes in, read as a list.
-/
import Derived.Test.YtbpgiahbnijidaaOrd1
import Derived.Test.YtbpgiahbnijidaaFlats
namespace Go.Proofs.Ytbpgiahbnijidaa
open Go.ChangeShapes Go.WideShapes Go.ChangeAt Go.RowKit Go.Deep
set_option linter.unusedVariables false
set_option linter.unusedSimpArgs false

instance : Inhabited Tk := ⟨mkT 0 0⟩
theorem fits_task {cs : List Value} (f : Fits (some .i64 :: some .i64 :: some .i64 :: (List.replicate 32 (some .u8) ++ [some .i64])) cs) : ∃ T : Tk, cs = tc T := by
  obtain ⟨a, c1, rfl, -, f⟩ := fits_int f
  obtain ⟨b, c2, rfl, -, f⟩ := fits_int f
  obtain ⟨c, c3, rfl, -, f⟩ := fits_int f
  obtain ⟨l, c4, rfl, hl, f⟩ := fits_u8a 32 f
  obtain ⟨k, c5, rfl, -, f⟩ := fits_int f
  obtain rfl := fits_nil f
  exact ⟨⟨a, b, c, l, k, hl⟩, rfl⟩
section
variable {H : Type} {enc : TypeId × Value → H} {w : World} {base : Nat} {held : Bool}
theorem open_RdTk {v : Value} {d : DataW H} {p : List MemPlace} {r : Reach} {b0 : Nat}
    (hv : Value.okWide Try.prog w r b0 26 v) (h : DataW.Trod enc Try.prog w base (fun _ => true) held 26 v d p) : ∃ l : List Tk, (RdT w v l ∨ l = [] ∧ ∃ ao cap, v = .slice ao 0 cap) ∧ l.length ≤ maxLen := by
  have hl : leaves Try.prog 4 32 = some (some .i64 :: some .i64 :: some .i64 :: (List.replicate 32 (some .u8) ++ [some .i64])) := by kernel_rfl
  obtain ⟨ls, hls⟩ : ∃ ls, ls = (some IntKind.i64 :: some .i64 :: some .i64 :: (List.replicate 32 (some .u8) ++ [some .i64])) := ⟨_, rfl⟩
  have hll : ls.length = 36 := by rw [hls]; rfl
  rw [← hls] at hl
  rcases open_flats (e := 32) 4 Try.underlying26 hl (by rw [hll]; kernel_rfl) hv h with rfl | ⟨a, len, cap, C, rfl, hle, hm, hC⟩
  · exact ⟨[], .inr ⟨rfl, none, 0, rfl⟩, by simp⟩
  · obtain ⟨T, hT⟩ := choose_lt (α := Tk) (p := fun i x => C i = tc x) (fun i hi => fits_task (by have := (hC i hi).1; rwa [hls] at this))
    rw [hll] at hC
    have hlen : ((List.range len).map T).length = len := by simp
    by_cases h0 : len = 0
    · subst h0
      exact ⟨[], .inr ⟨rfl, _, _, rfl⟩, by simp⟩
    · have g0 := (hC 0 (by omega)).2 0 (by omega)
      rw [hT 0 (by omega)] at g0
      have hsp := World.cell?_spot (show w.cell? (a.add (0 * 36 + 0)) = some (.int .i64 (T 0).name) by rw [g0]; simp [tc])
      obtain ⟨blk, off, spot⟩ := a
      have hspot : spot = none := by simpa [Addr.add] using hsp
      subst hspot
      refine ⟨(List.range len).map T, .inl (.inr ⟨blk, off, cap, by rw [hlen], by rw [hlen]; exact hle, fun j u hj => ?_⟩), by rw [hlen]; omega⟩
      have hjl := (List.getElem?_eq_some_iff.1 hj).1
      rw [Tc_len, hlen] at hjl
      have hi : j / 36 < len := by omega
      have hj36 : j % 36 < 36 := Nat.mod_lt _ (by omega)
      have hc := (hC (j / 36) (by omega)).2 (j % 36) hj36
      rw [hT (j / 36) (by omega)] at hc
      have hat := Tc_at (ts := (List.range len).map T) (i := j / 36) (by rw [hlen]; exact hi) hj36
      rw [show j / 36 * 36 + j % 36 = j by omega] at hat hc
      rw [hat] at hj
      simp only [List.getElem_map, List.getElem_range] at hj
      rw [hj] at hc
      have e : w.cell? ⟨blk, off + j, none⟩ = w.cell? (Addr.add ⟨blk, off, none⟩ j) := by
        by_cases hj0 : j = 0
        · subst hj0; simp [Addr.add]
        · simp [Addr.add, hj0]
      rw [e]; exact hc
end
end Go.Proofs.Ytbpgiahbnijidaa
