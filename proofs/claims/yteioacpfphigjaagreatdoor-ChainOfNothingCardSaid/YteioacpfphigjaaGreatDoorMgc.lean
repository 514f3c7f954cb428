/-
  Joined texts.
-/
import Derived.IntWalk
import Derived.Test.YteioacpfphigjaaGreatDoorChecked
import Derived.WalkKit
import Derived.Below
import Derived.Lib.Hide
import Derived.Deep.WholeRow
import Derived.BigRegion
import Derived.RegionTactic
import Derived.Shelf.Abstract
import Derived.Shelf.RegionOpen
import Derived.TacticsInMore
import Derived.LoopNIn
import Derived.LoopIn
import Derived.Test.YteioacpfphigjaaGreatDoorMgb

section
namespace Go.Proofs.YteioacpfphigjaaGreatDoor
open Go.RowKit

theorem held_cases (x : Int) : (x < 0 ∧ heldI x = 0) ∨ (1000000000 < x ∧ heldI x = 1000000000) ∨ (0 ≤ x ∧ x ≤ 1000000000 ∧ heldI x = x) := by unfold heldI; omega

theorem ratio_bd {a b : Int} (h0 : 0 ≤ a) (h2 : 0 ≤ b) : 0 ≤ ratioI a b ∧ ratioI a b ≤ 1000000000 := by
  unfold ratioI; split
  · omega
  · have := Int.ediv_nonneg (show 0 ≤ a * 1000000000 by omega) h2; omega
theorem ratio_iff {a b t : Int} (hb : 0 < b) (ht : t ≤ 1000000000) : t ≤ ratioI a b ↔ t * b ≤ a * 1000000000 := by
  unfold ratioI; rw [if_neg (by omega), ← Int.le_ediv_iff_mul_le hb]; omega
theorem ratio_self {n : Int} (h : 0 ≤ n) : ratioI n n = if 0 < n then 1000000000 else 0 := by
  unfold ratioI
  by_cases hn : n = 0
  · subst hn; simp
  · have : n * 1000000000 / n = 1000000000 := Int.mul_ediv_cancel_left _ hn
    rw [if_neg hn, if_pos (by omega), this]; omega

theorem held_mono {x y : Int} (h : x ≤ y) : heldI x ≤ heldI y := by unfold heldI; omega

theorem lin_bd {a b c h : Int} (hb : b ≤ a) (hc : 0 < c) (h0 : 0 ≤ h) (h1 : h ≤ c) : 0 ≤ (a - b) * h / c ∧ (a - b) * h / c ≤ a - b := by
  have m0 := Int.mul_nonneg (show 0 ≤ a - b by omega) h0
  have m1 := Int.mul_le_mul_of_nonneg_left h1 (show 0 ≤ a - b by omega)
  exact ⟨Int.ediv_nonneg m0 (by omega), Int.ediv_le_of_le_mul hc m1⟩

theorem div_anti {A y z : Int} (hA : 0 ≤ A) (hy : 0 < y) (h : y ≤ z) : A / z ≤ A / y := by
  apply Int.le_ediv_of_mul_le hy
  have h1 := Int.ediv_nonneg hA (show 0 ≤ z by omega)
  have h2 := Int.mul_le_mul_of_nonneg_left h h1
  have h3 := Int.ediv_mul_le A (show z ≠ 0 by omega)
  omega

theorem is_kind {k a b c d : Int} (h : isB k a b c d = true) : k = 1 ∨ k = 2 ∨ k = 3 := by
  by_cases k1 : k = 1
  · exact .inl k1
  by_cases k2 : k = 2
  · exact .inr (.inl k2)
  by_cases k3 : k = 3
  · exact .inr (.inr k3)
  · simp [isB, k1, k2, k3] at h

theorem at_bd {k a b c d : Int} (h : isB k a b c d = true) (x : Int) : 0 ≤ atI k a b c d x ∧ atI k a b c d x ≤ 1000000000 := by
  obtain ⟨y0, y1⟩ := held_bd x
  rcases is_kind h with rfl | rfl | rfl
  · obtain ⟨⟨a0, a1⟩, ⟨b0, b1⟩, ⟨c0, c1⟩, -⟩ := is1_out h
    by_cases hx : c ≤ heldI x
    · rw [at1_end hx]; omega
    · have := lin_bd (h := heldI x) b1 (show 0 < c by omega) y0 (by omega)
      rw [at1_mid (by omega)]; omega
  · obtain ⟨⟨a0, a1⟩, ⟨b0, b1⟩, ⟨c0, c1⟩, d0, d1⟩ := is2_out h
    have q0 := Int.ediv_nonneg y0 (show 0 ≤ d by omega)
    have m0 := Int.mul_nonneg (show 0 ≤ c by omega) q0
    rw [at2_eq]; omega
  · rw [at3_eq]; exact held_bd _

theorem at_falls {k a b c d : Int} (h : isB k a b c d = true) {x y : Int} (hxy : x ≤ y) : atI k a b c d y ≤ atI k a b c d x := by
  obtain ⟨x0, x1⟩ := held_bd x
  obtain ⟨y0, y1⟩ := held_bd y
  have hm := held_mono hxy
  rcases is_kind h with rfl | rfl | rfl
  · obtain ⟨⟨a0, a1⟩, ⟨b0, b1⟩, ⟨c0, c1⟩, -⟩ := is1_out h
    by_cases hx : c ≤ heldI x
    · rw [at1_end hx, at1_end (by omega)]; omega
    · have l1 := lin_bd (h := heldI x) b1 (show 0 < c by omega) x0 (by omega)
      rw [at1_mid (show heldI x < c by omega)]
      by_cases hy : c ≤ heldI y
      · rw [at1_end hy]; omega
      · rw [at1_mid (show heldI y < c by omega)]
        have := Int.ediv_le_ediv (show 0 < c by omega) (Int.mul_le_mul_of_nonneg_left hm (show 0 ≤ a - b by omega))
        omega
  · obtain ⟨⟨a0, a1⟩, ⟨b0, b1⟩, ⟨c0, c1⟩, d0, d1⟩ := is2_out h
    have q := Int.ediv_le_ediv (show 0 < d by omega) hm
    have m := Int.mul_le_mul_of_nonneg_left q (show 0 ≤ c by omega)
    rw [at2_eq, at2_eq]; omega
  · obtain ⟨⟨a0, a1⟩, ⟨b0, b1⟩, ⟨c0, c1⟩, -⟩ := is3_out h
    have q := div_anti (A := a * 1000000000) (by omega) (show 0 < heldI x + b by omega) (show heldI x + b ≤ heldI y + b by omega)
    rw [at3_eq, at3_eq]; exact held_mono (by omega)

/-- A curve lies in the first block behind w0's; what was there in w0 is as it was. -/
structure CBoxed (w0 : World) (k a b' c d : Int) (w : World) : Prop where
  c0 : w.cell? ⟨w0.heap.size, 0, none⟩ = some (.int .i64 k)
  c1 : w.cell? ⟨w0.heap.size, 1, none⟩ = some (.int .i64 a)
  c2 : w.cell? ⟨w0.heap.size, 2, none⟩ = some (.int .i64 b')
  c3 : w.cell? ⟨w0.heap.size, 3, none⟩ = some (.int .i64 c)
  c4 : w.cell? ⟨w0.heap.size, 4, none⟩ = some (.int .i64 d)
  lt : w0.heap.size < w.heap.size
  old : Below w0.heap.size w0 w

theorem CBoxed.all {w0 : World} {k a b' c d : Int} {w : World} (h : CBoxed w0 k a b' c d w) : w.cell? ⟨w0.heap.size, 0, none⟩ = some (.int .i64 k) ∧ w.cell? ⟨w0.heap.size, 1, none⟩ = some (.int .i64 a) ∧ w.cell? ⟨w0.heap.size, 2, none⟩ = some (.int .i64 b') ∧ w.cell? ⟨w0.heap.size, 3, none⟩ = some (.int .i64 c) ∧ w.cell? ⟨w0.heap.size, 4, none⟩ = some (.int .i64 d) := ⟨h.c0, h.c1, h.c2, h.c3, h.c4⟩
theorem CBoxed.below {w0 : World} {k a b' c d : Int} {w w' : World} (h : CBoxed w0 k a b' c d w) (hb : Below w.heap.size w w') : CBoxed w0 k a b' c d w' := by
  obtain ⟨hc, _⟩ := bcell hb
  exact ⟨(hc _ _ h.lt).trans h.c0, (hc _ _ h.lt).trans h.c1, (hc _ _ h.lt).trans h.c2, (hc _ _ h.lt).trans h.c3, (hc _ _ h.lt).trans h.c4, Nat.lt_of_lt_of_le h.lt hb.size, h.old.trans (hb.mono h.old.size)⟩
theorem CBoxed.drew {w0 : World} {k a b' c d : Int} {w : World} (h : CBoxed w0 k a b' c d w) : CBoxed w0 k a b' c d w.drew := ⟨h.c0, h.c1, h.c2, h.c3, h.c4, h.lt, h.old.drew⟩
theorem CBoxed.new {k a b' c d : Int} {w : World} {t : TypeId} : CBoxed w k a b' c d (w.alloc (.cells #[.int .i64 k, .int .i64 a, .int .i64 b', .int .i64 c, .int .i64 d] t)) := by
  constructor
  case old => exact (Below.refl _ _).alloc (Nat.le_refl _) _
  all_goals simp

end Go.Proofs.YteioacpfphigjaaGreatDoor
end

section
namespace Go.Proofs.YteioacpfphigjaaGreatDoor
open Go.RowKit
set_option linter.unusedVariables false

/-- A track's numbers, in their order. -/
structure Trk where
  most : Int
  dep : Int
  prep : Int
  dec : Int
  conf : Int
  en : Int
  ak : Int
  aa : Int
  ab : Int
  ac : Int
  ad : Int
  sk : Int
  sa : Int
  sb : Int
  sc : Int
  sd : Int
  cap : Int
  rank : Int

abbrev Trk.cells (t : Trk) : Array Value := #[.int .i64 t.most, .int .i64 t.dep, .int .i64 t.prep, .int .i64 t.dec, .int .i64 t.conf, .int .i64 t.en, .int .i64 t.ak, .int .i64 t.aa, .int .i64 t.ab, .int .i64 t.ac, .int .i64 t.ad, .int .i64 t.sk, .int .i64 t.sa, .int .i64 t.sb, .int .i64 t.sc, .int .i64 t.sd, .int .i64 t.cap, .int .i64 t.rank]
abbrev Trk.val (t : Trk) : Value := .agg t.cells

def trackB (t : Trk) : Bool :=
  withinB t.most 1 12 && withinB t.dep 0 1073741824 && withinB t.cap 0 1073741824 && withinB t.prep 0 1000 && withinB t.conf 0 1000 && withinB t.en 0 1000 && withinB t.dec 1 1000 &&
    isB t.ak t.aa t.ab t.ac t.ad && isB t.sk t.sa t.sb t.sc t.sd && withinB t.rank 0 2

/-- A track lies in the first block behind w0's. -/
structure KBox (w0 : World) (t : Trk) (w : World) : Prop where
  c0 : w.cell? ⟨w0.heap.size, 0, none⟩ = some (.int .i64 t.most)
  c1 : w.cell? ⟨w0.heap.size, 1, none⟩ = some (.int .i64 t.dep)
  c2 : w.cell? ⟨w0.heap.size, 2, none⟩ = some (.int .i64 t.prep)
  c3 : w.cell? ⟨w0.heap.size, 3, none⟩ = some (.int .i64 t.dec)
  c4 : w.cell? ⟨w0.heap.size, 4, none⟩ = some (.int .i64 t.conf)
  c5 : w.cell? ⟨w0.heap.size, 5, none⟩ = some (.int .i64 t.en)
  c6 : w.cell? ⟨w0.heap.size, 6, none⟩ = some (.int .i64 t.ak)
  c7 : w.cell? ⟨w0.heap.size, 7, none⟩ = some (.int .i64 t.aa)
  c8 : w.cell? ⟨w0.heap.size, 8, none⟩ = some (.int .i64 t.ab)
  c9 : w.cell? ⟨w0.heap.size, 9, none⟩ = some (.int .i64 t.ac)
  c10 : w.cell? ⟨w0.heap.size, 10, none⟩ = some (.int .i64 t.ad)
  c11 : w.cell? ⟨w0.heap.size, 11, none⟩ = some (.int .i64 t.sk)
  c12 : w.cell? ⟨w0.heap.size, 12, none⟩ = some (.int .i64 t.sa)
  c13 : w.cell? ⟨w0.heap.size, 13, none⟩ = some (.int .i64 t.sb)
  c14 : w.cell? ⟨w0.heap.size, 14, none⟩ = some (.int .i64 t.sc)
  c15 : w.cell? ⟨w0.heap.size, 15, none⟩ = some (.int .i64 t.sd)
  c16 : w.cell? ⟨w0.heap.size, 16, none⟩ = some (.int .i64 t.cap)
  c17 : w.cell? ⟨w0.heap.size, 17, none⟩ = some (.int .i64 t.rank)
  lt : w0.heap.size < w.heap.size
  old : Below w0.heap.size w0 w
theorem KBox.below {w0 : World} {t : Trk} {w w' : World} (h : KBox w0 t w) (hb : Below w.heap.size w w') : KBox w0 t w' := by
  obtain ⟨hc, _⟩ := bcell hb
  exact ⟨(hc _ _ h.lt).trans h.c0, (hc _ _ h.lt).trans h.c1, (hc _ _ h.lt).trans h.c2, (hc _ _ h.lt).trans h.c3, (hc _ _ h.lt).trans h.c4, (hc _ _ h.lt).trans h.c5, (hc _ _ h.lt).trans h.c6, (hc _ _ h.lt).trans h.c7, (hc _ _ h.lt).trans h.c8, (hc _ _ h.lt).trans h.c9,
    (hc _ _ h.lt).trans h.c10, (hc _ _ h.lt).trans h.c11, (hc _ _ h.lt).trans h.c12, (hc _ _ h.lt).trans h.c13, (hc _ _ h.lt).trans h.c14, (hc _ _ h.lt).trans h.c15, (hc _ _ h.lt).trans h.c16, (hc _ _ h.lt).trans h.c17, Nat.lt_of_lt_of_le h.lt hb.size, h.old.trans (hb.mono h.old.size)⟩
theorem KBox.new {t : Trk} {w : World} {T : TypeId} : KBox w t (w.alloc (.cells t.cells T)) := by
  constructor
  case old => exact (Below.refl _ _).alloc (Nat.le_refl _) _
  all_goals simp

theorem track_blocks (n l : Int) (w : World) :
    Calls Tryz.prog 190 #[.int .i64 n, .int .i64 l] w fun e w' => e = .returned (.bool (withinB n l 1000)) ∧ w = w' := by
  go_enter Tryz.func190, Tryz.ntmps190
  go_wp2_with (go_at_call 64; refine (cvWithin _ _ _ _).mono ?_; rintro e w' ⟨rfl, rfl⟩)
  go_ret
  exact ⟨rfl, rfl⟩

set_option maxHeartbeats 4000000 in
theorem track_Is (t : Trk) (w : World) :
    Calls Tryz.prog 127 #[t.val] w fun e w' => e = .returned (.bool (trackB t)) ∧ Below w.heap.size w w' := by
  go_enter Tryz.func127, Tryz.ntmps127
  go_wp2_with (first | (go_at_call 64; refine (cvWithin _ _ _ _).mono ?_; rintro e w' ⟨rfl, rfl⟩) | (go_at_call 61; refine (cvBalance _ _).mono ?_; rintro e w' ⟨rfl, rfl⟩) | (go_at_call 190; refine (track_blocks _ _ _).mono ?_; rintro e w' ⟨rfl, rfl⟩) | (go_at_call 191; refine (per_Is _ _ _ _ _ _).mono ?_; rintro e w1 ⟨rfl, hb1⟩; first | (have B2 := B1.below hb1; clear hb1; have y17 := B2.c17) | (have B1 := (KBox.new (t := t)).below hb1; clear hb1; have x11 := B1.c11; have x12 := B1.c12; have x13 := B1.c13; have x14 := B1.c14; have x15 := B1.c15; have x16 := B1.c16; have x17 := B1.c17)) | fail)
  all_goals
    go_ret
    exact ⟨cvRet_bool (by simp [trackB, *]), (by first | exact B2.old | exact B1.old | exact below_new (Below.refl _ _) _)⟩

/-- A tally that may be asked. -/
def Fits10 (x y s issued : Int) : Prop := 0 ≤ x ∧ 0 ≤ y ∧ x + y ≤ 8589934592 ∧ 0 ≤ s ∧ s ≤ 8589934592 ∧ 0 ≤ issued ∧ issued ≤ 8589934592

theorem track_Shares (x y s i : Int) (w : World) (h : Fits10 x y s i) :
    Calls Tryz.prog 225 #[tally x y s, .int .i64 i] w fun e w' => e = .returned (.tuple #[.int .i64 (ratioI x (x + y)), .int .i64 (ratioI s i)]) ∧ Below w.heap.size w w' := by
  obtain ⟨x0, y0, xy, s0, s1, i0, i1⟩ := h
  have W1 : IntKind.i64.wrap (x + y) = x + y := IntWalk.i64_in _ (by omega)
  go_enter Tryz.func225, Tryz.ntmps225
  go_wp2_with fail
  go_quiet ((go_at_call 224; exact Calls.quiet_of_same ((per_Ratio _ _ _ (by omega) (by omega) (by omega) (by omega)).mono fun e w' h => ⟨h.1, h.2.symm⟩)))
  go_wp2
  go_ret2
  exact ⟨rfl, below_dn (below_new (Below.refl _ _) _) _⟩

end Go.Proofs.YteioacpfphigjaaGreatDoor
end

section
namespace Go.Proofs.YteioacpfphigjaaGreatDoor
open Go.RowKit
set_option linter.unusedVariables false
set_option linter.unusedSimpArgs false

def trkL (t : Trk) : List Value := t.cells.toList
theorem trkL_ones (t : Trk) : ∀ u ∈ trkL t, u.oneCell' = true := by
  intro u hu
  simp only [trkL, Trk.cells, List.mem_cons, List.not_mem_nil, or_false] at hu
  rcases hu with rfl | rfl | rfl | rfl | rfl | rfl | rfl | rfl | rfl | rfl | rfl | rfl | rfl | rfl | rfl | rfl | rfl | rfl <;> rfl
def trk0 : Trk := ⟨0, 0, 0, 0, 0, 0, 0, 0, 0, 0, 0, 0, 0, 0, 0, 0, 0, 0⟩
theorem trackSize : (Tryz.prog.info? 108).map (fun i => (i.size, i.bytes)) = some (18, 144) := by kernel_rfl
theorem trackZero : (Tryz.prog.info? 108).bind (fun i => i.zero.map (fun z => decide ((match z with | .agg a => a.size | _ => 0) = 18))) = some true := by kernel_rfl
theorem trackInfo : ∃ i0 z b, Tryz.prog.info? 108 = some i0 ∧ i0.zero = some (.agg z) ∧ i0.size = 18 ∧ z.size = 18 ∧ i0.bytes = b ∧ b ≤ 8000 := by
  obtain ⟨i0, hi, hz⟩ := Option.map_eq_some_iff.1 trackSize
  simp only [Prod.mk.injEq] at hz
  have h := trackZero
  rw [hi] at h
  simp only [Option.bind_some, Option.map_eq_some_iff] at h
  obtain ⟨z, h1, h2⟩ := h
  have h3 := of_decide_eq_true h2
  cases z with
  | agg a => exact ⟨i0, a, _, hi, h1, hz.1, h3, hz.2, by decide⟩
  | _ => cases h3
def trkR : RowTy Tryz.prog Trk where
  T := 108
  S := 65
  k := 18
  f := trkL
  len := fun _ => rfl
  one := trkL_ones
  pos := by decide
  small := by decide
  slice := Tryz.underlying65
  info := trackInfo
  row := ⟨_, Tryz.underlying108, rfl⟩
end Go.Proofs.YteioacpfphigjaaGreatDoor
end

section
namespace Go.Proofs.YteioacpfphigjaaGreatDoor
open Go.RowKit
set_option linter.unusedVariables false
set_option linter.unusedSimpArgs false

theorem bound_Within (n a b : Int) (w : World) : Calls Tryz.prog 64 #[.int .i64 n, .int .i64 a, .int .i64 b] w fun e w' => e = .returned (.bool (decide (a ≤ n ∧ n ≤ b))) ∧ w' = w := by
  go_enter Tryz.func64, Tryz.ntmps64
  by_cases c : a ≤ n
  · by_cases d : n ≤ b
    · go_wp2
      exact bodyPost_ret (v := .bool true) (by simp [results, Tryz.results64, go_sem]) rfl ⟨by simp [c, d], rfl⟩
    · have hd : decide (n ≤ b) = false := by simpa using d
      go_wp2
      exact bodyPost_ret (v := .bool false) (by simp [results, Tryz.results64, go_sem]) rfl ⟨by simp <;> omega, rfl⟩
  · have hc : decide (a ≤ n) = false := by simpa using c
    go_wp2
    exact bodyPost_ret (v := .bool false) (by simp [results, Tryz.results64, go_sem]) rfl ⟨by simp <;> omega, rfl⟩
theorem bound_Below (n b : Int) (w : World) : Calls Tryz.prog 136 #[.int .i64 n, .int .i64 b] w fun e w' => e = .returned (.bool (decide (0 ≤ n ∧ n < b))) ∧ w' = w := by
  go_enter Tryz.func136, Tryz.ntmps136
  by_cases c : 0 ≤ n
  · by_cases d : n < b
    · go_wp2
      exact bodyPost_ret (v := .bool true) (by simp [results, Tryz.results136, go_sem]) rfl ⟨by simp [c, d], rfl⟩
    · have hd : decide (n < b) = false := by simpa using d
      go_wp2
      exact bodyPost_ret (v := .bool false) (by simp [results, Tryz.results136, go_sem]) rfl ⟨by simp <;> omega, rfl⟩
  · have hc : decide (0 ≤ n) = false := by simpa using c
    go_wp2
    exact bodyPost_ret (v := .bool false) (by simp [results, Tryz.results136, go_sem]) rfl ⟨by simp <;> omega, rfl⟩
theorem bound_Account (n : Int) (w : World) : Calls Tryz.prog 60 #[.int .i64 n] w fun e w' => e = .returned (.bool (decide (0 ≤ n ∧ n < 10))) ∧ w' = w := by
  go_enter Tryz.func60, Tryz.ntmps60
  go_wp2_with (first | (go_at_call 136; refine (bound_Below n 10 _).mono ?_; rintro e w' ⟨rfl, rfl⟩) | fail)
  exact bodyPost_ret (v := .bool (decide (0 ≤ n ∧ n < 10))) (by simp [results, Tryz.results60, go_sem]) rfl ⟨rfl, rfl⟩
theorem bound_Balance (n : Int) (w : World) : Calls Tryz.prog 61 #[.int .i64 n] w fun e w' => e = .returned (.bool (decide (0 ≤ n ∧ n ≤ 1073741824))) ∧ w' = w := by
  go_enter Tryz.func61, Tryz.ntmps61
  go_wp2_with (first | (go_at_call 64; refine (bound_Within n 0 1073741824 _).mono ?_; rintro e w' ⟨rfl, rfl⟩) | fail)
  exact bodyPost_ret (v := .bool (decide (0 ≤ n ∧ n ≤ 1073741824))) (by simp [results, Tryz.results61, go_sem]) rfl ⟨rfl, rfl⟩
theorem code_isRef (n : Int) (w : World) : Calls Tryz.prog 65 #[.int .i64 n] w fun e w' => e = .returned (.bool (decide (0 ≤ n ∧ n < 12))) ∧ w' = w := by
  go_enter Tryz.func65, Tryz.ntmps65
  go_wp2_with (first | (go_at_call 136; refine (bound_Below n 12 _).mono ?_; rintro e w' ⟨rfl, rfl⟩) | fail)
  exact bodyPost_ret (v := .bool (decide (0 ≤ n ∧ n < 12))) (by simp [results, Tryz.results65, go_sem]) rfl ⟨rfl, rfl⟩
theorem code_isTrack (n : Int) (w : World) : Calls Tryz.prog 63 #[.int .i64 n] w fun e w' => e = .returned (.bool (decide (0 ≤ n ∧ n < 4))) ∧ w' = w := by
  go_enter Tryz.func63, Tryz.ntmps63
  go_wp2_with (first | (go_at_call 136; refine (bound_Below n 4 _).mono ?_; rintro e w' ⟨rfl, rfl⟩) | fail)
  exact bodyPost_ret (v := .bool (decide (0 ≤ n ∧ n < 4))) (by simp [results, Tryz.results63, go_sem]) rfl ⟨rfl, rfl⟩
end Go.Proofs.YteioacpfphigjaaGreatDoor
end

section
namespace Go.Proofs.YteioacpfphigjaaGreatDoor
open Go.RowKit Go.Maps
set_option linter.unusedVariables false
set_option linter.unusedSimpArgs false

/-- Tracks, and a table of referenda, which lie in the blocks of F. -/
def ReAt (F : FP) (r : Nat) (ts : List Trk) (w : World) : Prop :=
  ∃ tb cap gp, w.heap[r]? = some (.cells #[.slice (some ⟨tb, 0, none⟩) ts.length cap, gp] 147 (0, 0)) ∧ w.rangeAt tb 0 (trkR.all ts) ∧ F r ∧ F tb ∧ tb < w.heap.size ∧ ts.length ≤ 100
section
variable {F : FP} {r : Nat} {ts : List Trk} {w w' : World}
theorem ReAt.keep (h : ReAt F r ts w) (hs : w.heap.size ≤ w'.heap.size) (hk : ∀ k, F k → k < w.heap.size → w'.heap[k]? = w.heap[k]?) : ReAt F r ts w' := by
  obtain ⟨tb, cap, gp, h1, h2, h3, h4, h5, h6⟩ := h
  exact ⟨tb, cap, gp, (hk r h3 (Array.getElem?_eq_some_iff.1 h1).1).trans h1, rangeAt_block h2 (hk tb h4 h5), h3, h4, Nat.lt_of_lt_of_le h5 hs, h6⟩
theorem ReAt.below (h : ReAt F r ts w) (hb : Below w.heap.size w w') : ReAt F r ts w' := h.keep hb.size (fun k _ hk => hb.block k hk)
theorem ReAt.mono {F' : FP} (h : ReAt F r ts w) (hF : ∀ k, F k → F' k) : ReAt F' r ts w := by
  obtain ⟨tb, cap, gp, h1, h2, h3, h4, h5⟩ := h
  exact ⟨tb, cap, gp, h1, h2, hF _ h3, hF _ h4, h5⟩
end
set_option maxRecDepth 100000 in
set_option maxHeartbeats 4000000 in
theorem refer_Track {F : FP} {r : Nat} {ts : List Trk} {w : World} (h : ReAt F r ts w) {k : Nat} (hk : k < ts.length) :
    Calls Tryz.prog 117 #[.pointer (some ⟨r, 0, none⟩), .int .i64 k] w fun e w' => e = .returned (.tuple #[.agg (trkR.f ts[k]).toArray, .bool true]) ∧ Below w.heap.size w w' := by
  obtain ⟨tb, cap, gp, h1, h2, h3, h4, h5, h6⟩ := h
  obtain ⟨n, hn⟩ : ∃ n, n = ts.length := ⟨_, rfl⟩
  rw [← hn] at h1
  have c0 : w.cell? ⟨r, 0, none⟩ = some (.slice (some ⟨tb, 0, none⟩) n cap) := by rw [World.cell?, h1]; rfl
  have hr : w.rangeAt tb (k * 18) (trkR.f ts[k]) := fun j u hj => by
    have hj18 : j < 18 := by have := (List.getElem?_eq_some_iff.1 hj).1; rwa [trkR.len] at this
    have := h2 (k * 18 + j) u (by rw [show k * 18 + j = k * trkR.k + j from rfl, trkR.all_at hk hj18]; exact hj)
    rwa [Nat.zero_add] at this
  obtain ⟨t, ht⟩ : ∃ t, t = ts[k] := ⟨_, rfl⟩
  rw [← ht] at hr ⊢
  have hrlt : r < w.heap.size := (Array.getElem?_eq_some_iff.1 h1).1
  have hkn : (k : Int) < n := by omega
  have hk0 : (0 : Int) ≤ k := by omega
  have hd : decide ((0 : Int) ≤ (k : Int) ∧ (k : Int) < (n : Int)) = true := decide_eq_true ⟨hk0, hkn⟩
  have hkn' : k < n := by omega
  have HD := Lib.hid hd
  have c0' : ∀ C, (w.alloc (.cells C 108)).cell? ⟨r, 0, none⟩ = some (.slice (some ⟨tb, 0, none⟩) n cap) := fun C => (World.cell?_of_block (Below.heap_alloc _ _ _ hrlt)).trans c0
  have hr' : ∀ C, (w.alloc (.cells C 108)).rangeAt tb (k * 18) (trkR.f t) := fun C => rangeAt_block hr (Below.heap_alloc _ _ _ h5)
  have HR := Lib.hid hr'
  have HC := Lib.hid c0'
  clear h1 h2 h3 h4 ht hn hd hr hr' c0' hk h6 c0
  go_enter Tryz.func117, Tryz.ntmps117
  go_wp2_with (first
    | (refine wpl_allocR (r := trkR) (ty := 108) rfl rfl rfl ?_; intro C hC; have c1 := HC.out C)
    | (go_at_call 136; refine (bound_Below _ _ _).mono ?_; rw [HD.out]; rintro e w' ⟨rfl, hw⟩; rw [hw]; clear hw w')
    | (refine wpl_loadR (r := trkR) (t := t) _ rfl rfl rfl (HR.out C) ?_)
    | (refine wpl_storeR (r := trkR) (ty := 108) (t := t) (C := C) _ _ rfl rfl rfl rfl rfl (World.alloc_heap_new w _) hC ?_; rw [World.setRow_alloc_new])
    | fail)
  exact bodyPost_ret (v := .tuple #[.agg (trkR.f t).toArray, .bool true]) (by exact results_R2 (r := trkR) (t := t) (b := w.heap.size) Tryz.results117 rfl rfl (rangeAt_whole (T := 108) (World.alloc_heap_new _ _))) rfl ⟨rfl, (Below.refl _ w).alloc (Nat.le_refl _) _⟩
set_option maxRecDepth 100000 in
set_option maxHeartbeats 4000000 in
theorem refer_Track_no {F : FP} {r : Nat} {ts : List Trk} {w : World} (h : ReAt F r ts w) {k : Int} (hk : ¬ (0 ≤ k ∧ k < ts.length)) :
    Calls Tryz.prog 117 #[.pointer (some ⟨r, 0, none⟩), .int .i64 k] w fun e w' => e = .returned (.tuple #[.agg (trkR.f trk0).toArray, .bool false]) ∧ Below w.heap.size w w' := by
  obtain ⟨tb, cap, gp, h1, h2, h3, h4, h5, h6⟩ := h
  obtain ⟨n, hn⟩ : ∃ n, n = ts.length := ⟨_, rfl⟩
  rw [← hn] at h1 hk
  have c0 : w.cell? ⟨r, 0, none⟩ = some (.slice (some ⟨tb, 0, none⟩) n cap) := by rw [World.cell?, h1]; rfl
  have hrlt : r < w.heap.size := (Array.getElem?_eq_some_iff.1 h1).1
  have hd : decide ((0 : Int) ≤ k ∧ k < (n : Int)) = false := decide_eq_false hk
  have HD := Lib.hid hd
  have c0' : ∀ C, (w.alloc (.cells C 108)).cell? ⟨r, 0, none⟩ = some (.slice (some ⟨tb, 0, none⟩) n cap) := fun C => (World.cell?_of_block (Below.heap_alloc _ _ _ hrlt)).trans c0
  have HC := Lib.hid c0'
  clear h1 h2 h3 h4 hn hd c0' hk h6 c0
  go_enter Tryz.func117, Tryz.ntmps117
  go_wp2_with (first
    | (refine wpl_allocR (r := trkR) (ty := 108) rfl rfl rfl ?_; intro C hC; have c1 := HC.out C)
    | (go_at_call 136; refine (bound_Below _ _ _).mono ?_; rw [HD.out]; rintro e w' ⟨rfl, hw⟩; rw [hw]; clear hw w')
    | (refine wpl_storeR (r := trkR) (ty := 108) (t := trk0) (C := C) _ _ rfl rfl rfl rfl rfl (World.alloc_heap_new w _) hC ?_; rw [World.setRow_alloc_new])
    | fail)
  exact bodyPost_ret (v := .tuple #[.agg (trkR.f trk0).toArray, .bool false]) (by exact results_R2 (r := trkR) (t := trk0) (b := w.heap.size) Tryz.results117 rfl rfl (rangeAt_whole (T := 108) (World.alloc_heap_new _ _))) rfl ⟨rfl, (Below.refl _ w).alloc (Nat.le_refl _) _⟩
end Go.Proofs.YteioacpfphigjaaGreatDoor
end

section
namespace Go.Proofs.YteioacpfphigjaaGreatDoor
open Go.RowKit Go.Maps
set_option linter.unusedVariables false
set_option linter.unusedSimpArgs false

theorem gridNew (w : World) : Calls Tryz.prog 130 #[] w fun e w' => ∃ b, e = .returned (.pointer (some ⟨b, 0, none⟩)) ∧ Below w.heap.size w w' := by
  go_enter Tryz.func130, Tryz.ntmps130
  go_wp2
  go_ret
  exact ⟨_, rfl, (Below.refl _ w).alloc (Nat.le_refl _) _⟩
theorem gridNew_d (w : World) : Calls Tryz.prog 131 #[] w fun e w' => ∃ b, e = .returned (.pointer (some ⟨b, 0, none⟩)) ∧ Below w.heap.size w w' := by
  go_enter Tryz.func131, Tryz.ntmps131
  go_wp2
  go_ret
  exact ⟨_, rfl, (Below.refl _ w).alloc (Nat.le_refl _) _⟩
theorem gridNew_w (w : World) : Calls Tryz.prog 132 #[] w fun e w' => ∃ b, e = .returned (.pointer (some ⟨b, 0, none⟩)) ∧ Below w.heap.size w w' := by
  go_enter Tryz.func132, Tryz.ntmps132
  go_wp2
  go_ret
  exact ⟨_, rfl, (Below.refl _ w).alloc (Nat.le_refl _) _⟩
theorem gridNew_p (w : World) : Calls Tryz.prog 133 #[] w fun e w' => ∃ b, e = .returned (.pointer (some ⟨b, 0, none⟩)) ∧ Below w.heap.size w w' := by
  go_enter Tryz.func133, Tryz.ntmps133
  go_wp2
  go_ret
  exact ⟨_, rfl, (Below.refl _ w).alloc (Nat.le_refl _) _⟩
theorem gridNew_r (w : World) : Calls Tryz.prog 129 #[] w fun e w' => ∃ b, e = .returned (.pointer (some ⟨b, 0, none⟩)) ∧ Below w.heap.size w w' := by
  go_enter Tryz.func129, Tryz.ntmps129
  go_wp2
  go_ret
  exact ⟨_, rfl, (Below.refl _ w).alloc (Nat.le_refl _) _⟩
set_option maxRecDepth 100000 in
set_option maxHeartbeats 4000000 in
theorem voting_New (w : World) : Calls Tryz.prog 54 #[] w fun e w' => ∃ b, e = .returned (.pointer (some ⟨b, 0, none⟩)) ∧ Below w.heap.size w w' := by
  go_enter Tryz.func54, Tryz.ntmps54
  go_wp2_with (first
    | (go_at_call 130; refine (gridNew _).mono ?_; rintro e w1 ⟨b1, rfl, hb⟩; have H1 := Lib.hid hb; clear hb)
    | (go_at_call 131; refine (gridNew_d _).mono ?_; rintro e w2 ⟨b2, rfl, hb⟩; have H2 := Lib.hid hb; clear hb)
    | (go_at_call 132; refine (gridNew_w _).mono ?_; rintro e w3 ⟨b3, rfl, hb⟩; have H3 := Lib.hid hb; clear hb)
    | (go_at_call 133; refine (gridNew_p _).mono ?_; rintro e w4 ⟨b4, rfl, hb⟩; have H4 := Lib.hid hb; clear hb)
    | fail)
  go_ret
  have h1 := H1.out
  have h2 := h1.trans (H2.out.mono h1.size)
  have h3 := h2.trans (H3.out.mono h2.size)
  have h4 := h3.trans (H4.out.mono h3.size)
  exact ⟨_, rfl, h4.alloc h4.size _⟩
end Go.Proofs.YteioacpfphigjaaGreatDoor
end

section
namespace Go.Proofs.YteioacpfphigjaaGreatDoor
open Go.RowKit Go.Maps
set_option linter.unusedVariables false
set_option linter.unusedSimpArgs false

/-- Tracks that may be. -/
def newB (ts : List Trk) : Bool := decide (1 ≤ ts.length ∧ ts.length ≤ 4) && ts.all trackB
theorem slices_CloneT {v : Value} {ts : List Trk} {w : World} {b cap : Nat} (hr : w.rangeAt b 0 (trkR.all ts)) (hb : b < w.heap.size) (hc : ts.length ≤ cap) (hl : ts.length ≤ 1000) :
    Calls Tryz.prog 128 #[.slice (some ⟨b, 0, none⟩) ts.length cap] w fun e w' => ∃ g c, e = .returned (.slice (some ⟨g, 0, none⟩) ts.length c) ∧ w.heap.size ≤ g ∧ OwnR trkR w.heap.size (.slice (some ⟨g, 0, none⟩) ts.length c) ts w' ∧ Below w.heap.size w w' := by
  have NS : ∀ (a : Addr) (n c : Nat) (w : World), (binOp .eql 65 (.slice (some a) n c) (.slice none 0 0)).run Tryz.prog w = .ok (.bool false) w := fun a n c w => by
    have h1 : ∀ d, (Op.equalIn (d + 1) 65 (.slice (some a) n c) (.slice none 0 0)).run Tryz.prog w = .ok false w := fun d => by simp [Op.equalIn, run_underlying Tryz.underlying65]
    have h2 := h1 9999
    rw [show (9999 + 1 : Nat) = 10000 from rfl] at h2
    simp only [binOp]
    simp [Op.equal, Op.maxDepth, h2]
  obtain ⟨n, hn⟩ : ∃ n, n = ts.length := ⟨_, rfl⟩
  have hrd : RdR trkR w (.slice (some ⟨b, 0, none⟩) n cap) ts := by rw [hn]; exact .inr ⟨b, 0, cap, rfl, hc, hb, hr⟩
  have hown : OwnR trkR w.heap.size (.slice (some ⟨w.heap.size, 0, none⟩) 0 0) [] (w.alloc (.cells #[] 108)) := OwnR.none (r := trkR) (World.alloc_heap_new w _) (Nat.le_refl _)
  have HRD := Lib.hid (hrd.below ((Below.refl _ w).alloc (Nat.le_refl _) (.cells #[] 108)))
  have HO := Lib.hid hown
  have HL := Lib.hid hl
  rw [← hn]
  have HN := Lib.hid hn
  clear hr hb hc hl hrd hown hn
  go_enter Tryz.func128, Tryz.ntmps128
  go_wp2_with (first
    | (refine wpl_noneR (r := trkR) rfl rfl ?_)
    | (refine wpl_appsR (r := trkR) (u := .slice (some ⟨b, 0, none⟩) n cap) (v := .slice (some ⟨w.heap.size, 0, none⟩) 0 0) (xs := []) (ys := ts) rfl rfl rfl rfl HO.out HRD.out (by have := HL.out; simp; omega) (by simp) ?_; intro v1 w1 ho hg hat; have H1 := Lib.hid (And.intro ho (And.intro hg hat)); clear ho hg hat)
    | fail)
  have ho := H1.out.1
  rw [List.nil_append] at ho
  have hb1 : Below w.heap.size w w1 := Below.grown ((Below.refl _ w).alloc (Nat.le_refl _) _) H1.out.2.1 (by simp) (fun k hk => by have hk' : some w.heap.size = some k := hk; injection hk' with hk'; omega)
  rcases ho.2 with ⟨rfl, h0⟩ | ⟨g, c, cur, rfl, h1, -⟩
  · exfalso
    rcases H1.out.2.2 with e | e <;> cases e
  · rw [← HN.out] at ho ⊢
    exact bodyPost_ret (v := .slice (some ⟨g, 0, none⟩) n c) (by simp [results, Tryz.results128, go_sem]) rfl ⟨g, c, rfl, h1, ho, hb1⟩
theorem track_IsR (t : Trk) (w : World) : Calls Tryz.prog 127 #[.agg (trkR.f t).toArray] w fun e w' => e = .returned (.bool (trackB t)) ∧ Below w.heap.size w w' := track_Is t w
set_option maxRecDepth 100000 in
set_option maxHeartbeats 4000000 in
theorem refer_New {ts : List Trk} {w : World} {b cap : Nat} (hr : w.rangeAt b 0 (trkR.all ts)) (hb : b < w.heap.size) (hc : ts.length ≤ cap) (hl : ts.length ≤ 100) :
    Calls Tryz.prog 53 #[.slice (some ⟨b, 0, none⟩) ts.length cap] w fun e w' => Below w.heap.size w w' ∧ ((newB ts = true ∧ ∃ r, e = .returned (.tuple #[.pointer (some ⟨r, 0, none⟩), .int .i64 0]) ∧ ReAt (fun k => w.heap.size ≤ k) r ts w') ∨ (newB ts = false ∧ e = .returned (.tuple #[.pointer none, .int .i64 1]))) := by
  obtain ⟨n, hn⟩ : ∃ n, n = ts.length := ⟨_, rfl⟩
  rw [← hn] at hc hl ⊢
  have HR := Lib.hid (And.intro hr (And.intro hb (And.intro hc hn)))
  clear hr hb hc
  by_cases hlen : 1 ≤ n ∧ n ≤ 4
  · have hd : decide ((1 : Int) ≤ (n : Int) ∧ (n : Int) ≤ 4) = true := decide_eq_true (by omega)
    have HD := Lib.hid hd
    have hn4 : n ≤ 4 := hlen.2
    have HLN := Lib.hid (And.intro hlen hn)
    clear hd hlen hn
    go_enter Tryz.func53, Tryz.ntmps53
    go_wp2_with (first
      | (go_at_call 64; refine (bound_Within _ _ _ _).mono ?_; rw [HD.out]; rintro e w' ⟨rfl, hw⟩; rw [hw]; clear hw w')
      | fail)
    go_loopw [12] (fun i wr => ∃ k : Nat, k ≤ n ∧ i = .int .i64 k ∧ (ts.take k).all trackB = true ∧ Below w.heap.size w wr) (fun i _ => n - (intOf i).toNat)
    case atStart => exact ⟨0, by omega, rfl, by simp, Below.refl _ _⟩
    case round =>
      obtain ⟨k, hk, rfl, hall, hbl⟩ := hrel
      by_cases hlt : k < n
      · have hlt' : (k : Int) < n := by omega
        have hkl : k < ts.length := by rw [← HLN.out.2]; exact hlt
        have hrk : wr.rangeAt b (k * 18) (trkR.f ts[k]) := fun j u hj => by
          have hj18 : j < 18 := by have := (List.getElem?_eq_some_iff.1 hj).1; rwa [trkR.len] at this
          have := rangeAt_block HR.out.1 (hbl.block b HR.out.2.1) (k * 18 + j) u (by rw [show k * 18 + j = k * trkR.k + j from rfl, trkR.all_at hkl hj18]; exact hj)
          rwa [Nat.zero_add] at this
        have hts : (ts.take (k + 1)).all trackB = ((ts.take k).all trackB && trackB ts[k]) := by rw [List.take_succ_eq_append_getElem hkl, List.all_append]; simp
        have hna : trackB ts[k] = false → ts.all trackB = false := fun h => by
          rw [Bool.eq_false_iff]
          intro hall
          rw [List.all_eq_true] at hall
          rw [hall _ (List.getElem_mem hkl)] at h
          cases h
        obtain ⟨t, ht⟩ : ∃ t, t = ts[k] := ⟨_, rfl⟩
        rw [← ht] at hrk hts hna
        obtain ⟨W1, hW1⟩ : ∃ W1, W1 = wr.alloc (.cells (trkR.f t).toArray 108) := ⟨_, rfl⟩
        have hr1 : W1.rangeAt wr.heap.size 0 (trkR.f t) := by rw [hW1]; exact rangeAt_whole (T := 108) (World.alloc_heap_new _ _)
        have hb1 : Below w.heap.size w W1 := by rw [hW1]; exact hbl.alloc hbl.size _
        have his := track_IsR t W1
        obtain ⟨q, hq⟩ : ∃ q, q = trackB t := ⟨_, rfl⟩
        rw [← hq] at his hts hna
        have HRK := Lib.hid hrk
        have HA := Lib.hid (And.intro hall (And.intro hts hna))
        have HB := Lib.hid hbl
        have HW1 := Lib.hid hW1
        have HR1 := Lib.hid hr1
        have HB1 := Lib.hid hb1
        have HIS := Lib.hid his
        clear hrk hts hna ht hW1 hr1 hb1 his hq hall hbl hkl
        cases q
        · go_wp2_with (first
            | (refine wpl_allocR (r := trkR) (ty := 108) rfl rfl rfl ?_; intro C hC)
            | (refine wpl_loadR (r := trkR) (t := t) (b := b) (k := k * 18) _ rfl rfl rfl HRK.out ?_)
            | (refine wpl_loadR (r := trkR) (t := t) (b := wr.heap.size) (k := 0) _ rfl rfl rfl HR1.out ?_)
            | (refine wpl_storeR (r := trkR) (ty := 108) (t := t) (C := C) _ _ rfl rfl rfl rfl rfl (World.alloc_heap_new wr _) hC ?_; rw [World.setRow_alloc_new]; rw [show wr.alloc (.cells (trkR.f t).toArray 108) = W1 from HW1.out.symm])
            | (go_at_call 127; refine HIS.out.mono ?_; rintro e w2 ⟨rfl, hb⟩; have H2 := Lib.hid hb; clear hb)
            | fail)
          exact bodyPost_ret (v := .tuple #[.pointer none, .int .i64 1]) (by simp [results, Tryz.results53, go_sem]) rfl ⟨HB1.out.trans (H2.out.mono HB1.out.size), .inr ⟨by unfold newB; rw [HA.out.2.2 (by first | rfl | trivial), Bool.and_false], rfl⟩⟩
        · go_wp2_with (first
            | (refine wpl_allocR (r := trkR) (ty := 108) rfl rfl rfl ?_; intro C hC)
            | (refine wpl_loadR (r := trkR) (t := t) (b := b) (k := k * 18) _ rfl rfl rfl HRK.out ?_)
            | (refine wpl_loadR (r := trkR) (t := t) (b := wr.heap.size) (k := 0) _ rfl rfl rfl HR1.out ?_)
            | (refine wpl_storeR (r := trkR) (ty := 108) (t := t) (C := C) _ _ rfl rfl rfl rfl rfl (World.alloc_heap_new wr _) hC ?_; rw [World.setRow_alloc_new]; rw [show wr.alloc (.cells (trkR.f t).toArray 108) = W1 from HW1.out.symm])
            | (go_at_call 127; refine HIS.out.mono ?_; rintro e w2 ⟨rfl, hb⟩; have H2 := Lib.hid hb; clear hb)
            | fail)
          go_roundw
          case rel => exact ⟨k + 1, by omega, by go_num, by rw [HA.out.2.1, HA.out.1]; rfl, HB1.out.trans (H2.out.mono HB1.out.size)⟩
          case measure => simp [intOf]; omega
      · have hge : ¬ (k : Int) < n := by omega
        have hkn : k = n := by omega
        subst hkn
        have hfull : ts.all trackB = true := by rw [HLN.out.2, List.take_length] at hall; exact hall
        have hcl := slices_CloneT (v := .nilFunc) (rangeAt_block HR.out.1 (hbl.block b HR.out.2.1)) (Nat.lt_of_lt_of_le HR.out.2.1 hbl.size) (by rw [← HR.out.2.2.2]; exact HR.out.2.2.1) (by have := HLN.out; omega) (ts := ts) (cap := cap)
        rw [← HLN.out.2] at hcl
        have hnb : newB ts = true := by unfold newB; rw [hfull, ← HLN.out.2, decide_eq_true HLN.out.1]; rfl
        have HCL := Lib.hid hcl
        have HBL := Lib.hid hbl
        have HNB := Lib.hid hnb
        clear hall hbl hfull hcl hnb hk hlt
        go_wp2_with (first
          | (go_at_call 128; refine HCL.out.mono ?_; rintro e w3 ⟨g, c, rfl, hg, ho, hb⟩; have H3 := Lib.hid (And.intro hg (And.intro ho hb)); clear hg ho hb)
          | (go_at_call 129; refine (gridNew_r _).mono ?_; rintro e w4 ⟨gb, rfl, hb⟩; have H4 := Lib.hid hb; clear hb)
          | fail)
        have hb3 := HBL.out.trans (H3.out.2.2.mono HBL.out.size)
        have hb4 := hb3.trans (H4.out.mono hb3.size)
        obtain ⟨W5, hW5⟩ : ∃ W5, W5 = w4.alloc (.cells #[.slice (some ⟨g, 0, none⟩) k c, .pointer (some ⟨gb, 0, none⟩)] 147) := ⟨_, rfl⟩
        have hb5 : Below w4.heap.size w4 W5 := by rw [hW5]; exact (Below.refl _ w4).alloc (Nat.le_refl _) _
        have hown := H3.out.2.1
        have hglt : g < w3.heap.size := (hown.block rfl).2
        have hrg : w3.rangeAt g 0 (trkR.all ts) := by
          rcases hown.reads with ⟨e, -⟩ | ⟨b', o', c', e, -, -, hr⟩
          · cases e
          · injection e with e1 e2 e3
            injection e1 with e1
            injection e1 with e4 e5
            subst e4 e5
            exact hr
        have hre : ReAt (fun j => w.heap.size ≤ j) w4.heap.size ts W5 := by
          refine ⟨g, c, .pointer (some ⟨gb, 0, none⟩), by rw [hW5, ← HLN.out.2]; exact World.alloc_heap_new _ _, rangeAt_block hrg ((hb5.block g (by have := H4.out.size; omega)).trans (H4.out.block g hglt)), hb4.size, Nat.le_trans HBL.out.size H3.out.1, by have := H4.out.size; have := hb5.size; omega, by have := HLN.out; omega⟩
        rw [← hW5]
        exact bodyPost_ret (v := .tuple #[.pointer (some ⟨w4.heap.size, 0, none⟩), .int .i64 0]) (by simp [results, Tryz.results53, go_sem]) rfl ⟨hb4.trans (hb5.mono hb4.size), .inl ⟨HNB.out, _, rfl, hre⟩⟩
  · have hd : decide ((1 : Int) ≤ (n : Int) ∧ (n : Int) ≤ 4) = false := decide_eq_false (by omega)
    have HD := Lib.hid hd
    have hnb : newB ts = false := by unfold newB; rw [← hn, decide_eq_false hlen]; rfl
    have HNB := Lib.hid hnb
    clear hd hlen hn hnb
    go_enter Tryz.func53, Tryz.ntmps53
    go_wp2_with (first
      | (go_at_call 64; refine (bound_Within _ _ _ _).mono ?_; rw [HD.out]; rintro e w' ⟨rfl, hw⟩; rw [hw]; clear hw w')
      | fail)
    exact bodyPost_ret (v := .tuple #[.pointer none, .int .i64 1]) (by simp [results, Tryz.results53, go_sem]) rfl ⟨Below.refl _ _, .inr ⟨HNB.out, rfl⟩⟩
end Go.Proofs.YteioacpfphigjaaGreatDoor
end

section
namespace Go.Proofs.YteioacpfphigjaaGreatDoor
open Go.RowKit Go.Maps
set_option linter.unusedVariables false
set_option linter.unusedSimpArgs false

/-- Tracks, and referenda of which there are none. -/
def ReG (F : FP) (r gb : Nat) (ts : List Trk) (w : World) : Prop :=
  ∃ tb cap, w.heap[r]? = some (.cells #[.slice (some ⟨tb, 0, none⟩) ts.length cap, .pointer (some ⟨gb, 0, none⟩)] 147 (0, 0)) ∧ w.rangeAt tb 0 (trkR.all ts) ∧ F r ∧ F tb ∧ F gb ∧ tb < w.heap.size ∧ ts.length ≤ 100 ∧ w.heap[gb]? = some (.cells #[.map none, .map none, .int .i64 0] 305 (0, 0))
theorem ReG.keep {F : FP} {r gb : Nat} {ts : List Trk} {w w' : World} (h : ReG F r gb ts w) (hs : w.heap.size ≤ w'.heap.size) (hk : ∀ k, F k → k < w.heap.size → w'.heap[k]? = w.heap[k]?) : ReG F r gb ts w' := by
  obtain ⟨tb, cap, h1, h2, h3, h4, h5, h6, h7, h8⟩ := h
  exact ⟨tb, cap, (hk r h3 (Array.getElem?_eq_some_iff.1 h1).1).trans h1, rangeAt_block h2 (hk tb h4 h6), h3, h4, h5, Nat.lt_of_lt_of_le h6 hs, h7, (hk gb h5 (Array.getElem?_eq_some_iff.1 h8).1).trans h8⟩
theorem ReG.below {F : FP} {r gb : Nat} {ts : List Trk} {w w' : World} (h : ReG F r gb ts w) (hb : Below w.heap.size w w') : ReG F r gb ts w' := h.keep hb.size (fun k _ hk => hb.block k hk)
theorem gridNew_R (w : World) : Calls Tryz.prog 129 #[] w fun e w' => ∃ b, e = .returned (.pointer (some ⟨b, 0, none⟩)) ∧ Below w.heap.size w w' ∧ w.heap.size ≤ b ∧ w'.heap[b]? = some (.cells #[.map none, .map none, .int .i64 0] 305 (0, 0)) := by
  go_enter Tryz.func129, Tryz.ntmps129
  go_wp2
  go_ret
  exact ⟨_, rfl, (Below.refl _ w).alloc (Nat.le_refl _) _, Nat.le_refl _, World.alloc_heap_new _ _⟩
set_option maxRecDepth 100000 in
set_option maxHeartbeats 4000000 in
theorem refer_NewG {ts : List Trk} {w : World} {b cap : Nat} (hr : w.rangeAt b 0 (trkR.all ts)) (hb : b < w.heap.size) (hc : ts.length ≤ cap) (hl : ts.length ≤ 100) :
    Calls Tryz.prog 53 #[.slice (some ⟨b, 0, none⟩) ts.length cap] w fun e w' => Below w.heap.size w w' ∧ ((newB ts = true ∧ ∃ r gb, e = .returned (.tuple #[.pointer (some ⟨r, 0, none⟩), .int .i64 0]) ∧ ReG (fun k => w.heap.size ≤ k) r gb ts w') ∨ (newB ts = false ∧ e = .returned (.tuple #[.pointer none, .int .i64 1]))) := by
  obtain ⟨n, hn⟩ : ∃ n, n = ts.length := ⟨_, rfl⟩
  rw [← hn] at hc hl ⊢
  have HR := Lib.hid (And.intro hr (And.intro hb (And.intro hc hn)))
  clear hr hb hc
  by_cases hlen : 1 ≤ n ∧ n ≤ 4
  · have hd : decide ((1 : Int) ≤ (n : Int) ∧ (n : Int) ≤ 4) = true := decide_eq_true (by omega)
    have HD := Lib.hid hd
    have hn4 : n ≤ 4 := hlen.2
    have HLN := Lib.hid (And.intro hlen hn)
    clear hd hlen hn
    go_enter Tryz.func53, Tryz.ntmps53
    go_wp2_with (first
      | (go_at_call 64; refine (bound_Within _ _ _ _).mono ?_; rw [HD.out]; rintro e w' ⟨rfl, hw⟩; rw [hw]; clear hw w')
      | fail)
    go_loopw [12] (fun i wr => ∃ k : Nat, k ≤ n ∧ i = .int .i64 k ∧ (ts.take k).all trackB = true ∧ Below w.heap.size w wr) (fun i _ => n - (intOf i).toNat)
    case atStart => exact ⟨0, by omega, rfl, by simp, Below.refl _ _⟩
    case round =>
      obtain ⟨k, hk, rfl, hall, hbl⟩ := hrel
      by_cases hlt : k < n
      · have hlt' : (k : Int) < n := by omega
        have hkl : k < ts.length := by rw [← HLN.out.2]; exact hlt
        have hrk : wr.rangeAt b (k * 18) (trkR.f ts[k]) := fun j u hj => by
          have hj18 : j < 18 := by have := (List.getElem?_eq_some_iff.1 hj).1; rwa [trkR.len] at this
          have := rangeAt_block HR.out.1 (hbl.block b HR.out.2.1) (k * 18 + j) u (by rw [show k * 18 + j = k * trkR.k + j from rfl, trkR.all_at hkl hj18]; exact hj)
          rwa [Nat.zero_add] at this
        have hts : (ts.take (k + 1)).all trackB = ((ts.take k).all trackB && trackB ts[k]) := by rw [List.take_succ_eq_append_getElem hkl, List.all_append]; simp
        have hna : trackB ts[k] = false → ts.all trackB = false := fun h => by
          rw [Bool.eq_false_iff]
          intro hall
          rw [List.all_eq_true] at hall
          rw [hall _ (List.getElem_mem hkl)] at h
          cases h
        obtain ⟨t, ht⟩ : ∃ t, t = ts[k] := ⟨_, rfl⟩
        rw [← ht] at hrk hts hna
        obtain ⟨W1, hW1⟩ : ∃ W1, W1 = wr.alloc (.cells (trkR.f t).toArray 108) := ⟨_, rfl⟩
        have hr1 : W1.rangeAt wr.heap.size 0 (trkR.f t) := by rw [hW1]; exact rangeAt_whole (T := 108) (World.alloc_heap_new _ _)
        have hb1 : Below w.heap.size w W1 := by rw [hW1]; exact hbl.alloc hbl.size _
        have his := track_IsR t W1
        obtain ⟨q, hq⟩ : ∃ q, q = trackB t := ⟨_, rfl⟩
        rw [← hq] at his hts hna
        have HRK := Lib.hid hrk
        have HA := Lib.hid (And.intro hall (And.intro hts hna))
        have HB := Lib.hid hbl
        have HW1 := Lib.hid hW1
        have HR1 := Lib.hid hr1
        have HB1 := Lib.hid hb1
        have HIS := Lib.hid his
        clear hrk hts hna ht hW1 hr1 hb1 his hq hall hbl hkl
        cases q
        · go_wp2_with (first
            | (refine wpl_allocR (r := trkR) (ty := 108) rfl rfl rfl ?_; intro C hC)
            | (refine wpl_loadR (r := trkR) (t := t) (b := b) (k := k * 18) _ rfl rfl rfl HRK.out ?_)
            | (refine wpl_loadR (r := trkR) (t := t) (b := wr.heap.size) (k := 0) _ rfl rfl rfl HR1.out ?_)
            | (refine wpl_storeR (r := trkR) (ty := 108) (t := t) (C := C) _ _ rfl rfl rfl rfl rfl (World.alloc_heap_new wr _) hC ?_; rw [World.setRow_alloc_new]; rw [show wr.alloc (.cells (trkR.f t).toArray 108) = W1 from HW1.out.symm])
            | (go_at_call 127; refine HIS.out.mono ?_; rintro e w2 ⟨rfl, hb⟩; have H2 := Lib.hid hb; clear hb)
            | fail)
          exact bodyPost_ret (v := .tuple #[.pointer none, .int .i64 1]) (by simp [results, Tryz.results53, go_sem]) rfl ⟨HB1.out.trans (H2.out.mono HB1.out.size), .inr ⟨by unfold newB; rw [HA.out.2.2 (by first | rfl | trivial), Bool.and_false], rfl⟩⟩
        · go_wp2_with (first
            | (refine wpl_allocR (r := trkR) (ty := 108) rfl rfl rfl ?_; intro C hC)
            | (refine wpl_loadR (r := trkR) (t := t) (b := b) (k := k * 18) _ rfl rfl rfl HRK.out ?_)
            | (refine wpl_loadR (r := trkR) (t := t) (b := wr.heap.size) (k := 0) _ rfl rfl rfl HR1.out ?_)
            | (refine wpl_storeR (r := trkR) (ty := 108) (t := t) (C := C) _ _ rfl rfl rfl rfl rfl (World.alloc_heap_new wr _) hC ?_; rw [World.setRow_alloc_new]; rw [show wr.alloc (.cells (trkR.f t).toArray 108) = W1 from HW1.out.symm])
            | (go_at_call 127; refine HIS.out.mono ?_; rintro e w2 ⟨rfl, hb⟩; have H2 := Lib.hid hb; clear hb)
            | fail)
          go_roundw
          case rel => exact ⟨k + 1, by omega, by go_num, by rw [HA.out.2.1, HA.out.1]; rfl, HB1.out.trans (H2.out.mono HB1.out.size)⟩
          case measure => simp [intOf]; omega
      · have hge : ¬ (k : Int) < n := by omega
        have hkn : k = n := by omega
        subst hkn
        have hfull : ts.all trackB = true := by rw [HLN.out.2, List.take_length] at hall; exact hall
        have hcl := slices_CloneT (v := .nilFunc) (rangeAt_block HR.out.1 (hbl.block b HR.out.2.1)) (Nat.lt_of_lt_of_le HR.out.2.1 hbl.size) (by rw [← HR.out.2.2.2]; exact HR.out.2.2.1) (by have := HLN.out; omega) (ts := ts) (cap := cap)
        rw [← HLN.out.2] at hcl
        have hnb : newB ts = true := by unfold newB; rw [hfull, ← HLN.out.2, decide_eq_true HLN.out.1]; rfl
        have HCL := Lib.hid hcl
        have HBL := Lib.hid hbl
        have HNB := Lib.hid hnb
        clear hall hbl hfull hcl hnb hk hlt
        go_wp2_with (first
          | (go_at_call 128; refine HCL.out.mono ?_; rintro e w3 ⟨g, c, rfl, hg, ho, hb⟩; have H3 := Lib.hid (And.intro hg (And.intro ho hb)); clear hg ho hb)
          | (go_at_call 129; refine (gridNew_R _).mono ?_; rintro e w4 ⟨gb, rfl, hb, hgl, hgb⟩; have H4 := Lib.hid hb; have G4 := Lib.hid (And.intro hgl hgb); clear hb hgl hgb)
          | fail)
        have hb3 := HBL.out.trans (H3.out.2.2.mono HBL.out.size)
        have hb4 := hb3.trans (H4.out.mono hb3.size)
        obtain ⟨W5, hW5⟩ : ∃ W5, W5 = w4.alloc (.cells #[.slice (some ⟨g, 0, none⟩) k c, .pointer (some ⟨gb, 0, none⟩)] 147) := ⟨_, rfl⟩
        have hb5 : Below w4.heap.size w4 W5 := by rw [hW5]; exact (Below.refl _ w4).alloc (Nat.le_refl _) _
        have hown := H3.out.2.1
        have hglt : g < w3.heap.size := (hown.block rfl).2
        have hrg : w3.rangeAt g 0 (trkR.all ts) := by
          rcases hown.reads with ⟨e, -⟩ | ⟨b', o', c', e, -, -, hr⟩
          · cases e
          · injection e with e1 e2 e3
            injection e1 with e1
            injection e1 with e4 e5
            subst e4 e5
            exact hr
        have hre : ReG (fun j => w.heap.size ≤ j) w4.heap.size gb ts W5 := by
          refine ⟨g, c, by rw [hW5, ← HLN.out.2]; exact World.alloc_heap_new _ _, rangeAt_block hrg ((hb5.block g (by have := H4.out.size; omega)).trans (H4.out.block g hglt)), hb4.size, Nat.le_trans HBL.out.size H3.out.1, Nat.le_trans hb3.size G4.out.1, by have := H4.out.size; have := hb5.size; omega, by have := HLN.out; omega, (hb5.block gb (Array.getElem?_eq_some_iff.1 G4.out.2).1).trans G4.out.2⟩
        rw [← hW5]
        exact bodyPost_ret (v := .tuple #[.pointer (some ⟨w4.heap.size, 0, none⟩), .int .i64 0]) (by simp [results, Tryz.results53, go_sem]) rfl ⟨hb4.trans (hb5.mono hb4.size), .inl ⟨HNB.out, _, _, rfl, hre⟩⟩
  · have hd : decide ((1 : Int) ≤ (n : Int) ∧ (n : Int) ≤ 4) = false := decide_eq_false (by omega)
    have HD := Lib.hid hd
    have hnb : newB ts = false := by unfold newB; rw [← hn, decide_eq_false hlen]; rfl
    have HNB := Lib.hid hnb
    clear hd hlen hn hnb
    go_enter Tryz.func53, Tryz.ntmps53
    go_wp2_with (first
      | (go_at_call 64; refine (bound_Within _ _ _ _).mono ?_; rw [HD.out]; rintro e w' ⟨rfl, hw⟩; rw [hw]; clear hw w')
      | fail)
    exact bodyPost_ret (v := .tuple #[.pointer none, .int .i64 1]) (by simp [results, Tryz.results53, go_sem]) rfl ⟨Below.refl _ _, .inr ⟨HNB.out, rfl⟩⟩
end Go.Proofs.YteioacpfphigjaaGreatDoor
end

section
namespace Go.Proofs.YteioacpfphigjaaGreatDoor
open Go.RowKit Go.Maps Go.Sort Go.Shelf
set_option linter.unusedVariables false
set_option linter.unusedSimpArgs false

set_option maxHeartbeats 1000000 in
theorem rising_R_nil (w : World) : Calls Tryz.prog 255 #[.map none] w fun e w' => e = .returned (.slice none 0 0) ∧ Below w.heap.size w w' := by
  refine (callsIn_wide (n := 6)).1 ?_
  have hseq : SeqGives Fence.wide 2 Tryz.prog 277 #[.pointer (some ⟨w.heap.size, 0, none⟩)] encZ (fun ss : List Int => ss = []) 0 (w.alloc (.cells #[.map none] 325)) :=
    AnyZI.keys_gives_nil (ρ := Tryz.keysR_ren) { Tryz.keysR with } Fence.wide _ trivial rfl w.heap.size _ (by simp) (by simp)
  have cK : ∀ mb W, CallsIn Fence.wide 5 Tryz.prog 267 #[.map mb] W fun e w' => e = .returned (.func (.func 277) #[] #[.pointer (some ⟨W.heap.size, 0, none⟩)]) ∧ w' = W.alloc (.cells #[.map mb] 325) := fun mb W => AnyZI.keys_in Tryz.keysR Fence.wide 5 trivial rfl mb W
  have cS := AnyZI.sorted_in Tryz.sortedA Fence.wide 5 trivial trivial trivial trivial rfl (by omega) (sortsA _) (enters_of Tryz.func274 (by kernel_rfl) rfl) 277 #[.pointer (some ⟨w.heap.size, 0, none⟩)] trivial (enters_of Tryz.func277 (by kernel_rfl) rfl) _ 0 (Nat.zero_le _) (by omega) _ hseq
  change CallsIn _ _ Tryz.prog 263 _ _ _ at cS
  have hfK : Fence.wide.fn 267 := trivial
  have hfS : Fence.wide.fn 263 := trivial
  refine callsIn_of_wp Tryz.func255 rfl trivial ?_ rfl
  simp only [Tryz.ntmps255, List.size_toArray, List.length_cons, List.length_nil, Nat.reduceAdd, Nat.reduceSub, Array.replicate_succ, Array.replicate_zero, List.push_toArray, List.append_toArray, List.nil_append, List.cons_append]
  gi_wp2_with (first
    | (gi_at_call 267; refine (cK _ _).mono ?_; rintro e w' ⟨rfl, rfl⟩)
    | (gi_at_call 263; refine cS.mono ?_; rintro e w' ⟨v, ss, rfl, rfl, hrow, hnil, hb⟩; obtain rfl : v = .slice none 0 0 := hnil.2 rfl)
    | fail)
  go_ret
  exact ⟨rfl, ((Below.refl _ w).alloc (Nat.le_refl _) _).trans (hb.mono (by simp))⟩

theorem enters_row1_R : ∀ args w, (callFunc 254 args).run Tryz.prog w = .ok (.enter 254 args) w := enters_of Tryz.func254 (by kernel_rfl) rfl
theorem grid_row_R (p : Option Addr) (s : Int) (w : World) : Calls Tryz.prog 223 #[.pointer p, .int .i64 s] w fun e w' => e = .returned (.func (.func 254) #[] #[.pointer (some ⟨w.heap.size, 0, none⟩), .pointer (some ⟨w.heap.size + 1, 0, none⟩)]) ∧ w' = (w.alloc (.cells #[.pointer p] 145)).alloc (.cells #[.int .i64 s] 3) := by
  go_enter Tryz.func223, Tryz.ntmps223
  go_wp2
  go_ret
  exact ⟨rfl, rfl⟩
attribute [local go_sem] Oper.semAt_some
set_option maxHeartbeats 4000000 in
set_option maxRecDepth 100000 in
theorem rowR_iter (n : Nat) (bx ba g : Nat) (s : Int) (w : World) (hbx : w.cell? ⟨bx, 0, none⟩ = some (.pointer (some ⟨g, 0, none⟩))) (hba : w.cell? ⟨ba, 0, none⟩ = some (.int .i64 s)) (hg : w.heap[g]? = some (.cells #[.map none, .map none, .int .i64 0] 305 (0, 0)))
    (hs : (Lit.int .i64 s).wf = true) (G : FP) (hGb : G bx) (hGa : G ba) (hGg : G g) :
    Iter Tryz.prog n 254 #[.pointer (some ⟨bx, 0, none⟩), .pointer (some ⟨ba, 0, none⟩)] (fun x : Empty => x.elim) [] G w := by
  intro lp B Ψ J Jx Φ0 W hgw hG hΨ hΦ0 hJ hJx hround h0
  have hc1 : W.cell? ⟨bx, 0, none⟩ = some (.pointer (some ⟨g, 0, none⟩)) := (World.cell?_of_block (hG bx hGb).2).trans hbx
  have hc2 : W.cell? ⟨ba, 0, none⟩ = some (.int .i64 s) := (World.cell?_of_block (hG ba hGa).2).trans hba
  have hc3 : W.cell? ⟨g, 0, none⟩ = some (.map none) := by rw [World.cell?, (hG g hGg).2, hg]; rfl
  have hlm : (Instr.lookup 303 (.map none) (.int .i64 s) false).run Tryz.prog W.drew = .ok (.map none) W.drew := nil_look Tryz.underlying303 (Tryz.zeroValue325 W.drew) hs false
  have mixed : Tryz.prog.follows .mixedOrders = true := by kernel_rfl
  obtain ⟨hs1, hs2, hs3⟩ := hJ _ _ _ h0
  refine callsIn_of_wp Tryz.func254 rfl trivial ?_ rfl
  simp only [Tryz.ntmps254, List.size_toArray, List.length_cons, List.length_nil, Nat.reduceAdd, Nat.reduceSub, Array.replicate_succ, Array.replicate_zero, List.push_toArray, List.append_toArray, List.nil_append, List.cons_append]
  have HH0 := Lib.hid h0
  have HS3 := Lib.hid hs3
  clear hround hJ hJx hG hΨ hΦ0 hbx hba hg hGb hGa hGg h0 hs3
  gi_wp2_with fail
  refine region_meet (R := fun a wc => a = { tmps := #[.func (.yield lp) #[] #[], .pointer (some ⟨bx, 0, none⟩), .pointer (some ⟨ba, 0, none⟩), undef, undef, undef, .pointer (some ⟨g, 0, none⟩), .bool false, .pointer (some ⟨g, 0, none⟩), .pointer (some ⟨g, 0, none⟩), .pointer (some ⟨g, 0, none⟩), .map none, .int .i64 s, .map none, .slice none 0 0, .int .i64 0, .int .i64 0, undef, undef, undef, undef, undef, undef, undef, undef, undef, undef, undef, undef, undef, undef, undef, undef], defers := [] } ∧ Below W.drew.heap.size W.drew wc) ?h1 ?h2
  case h1 =>
    go_region_with (first | (go_at_call 255; refine (rising_R_nil _).mono ?_; rintro e wc ⟨rfl, hbc⟩; have HBC := Lib.hid hbc; clear hbc) | fail)
    all_goals exact ⟨rfl, HBC.out⟩
  case h2 =>
    rintro _ wc ⟨rfl, hbc⟩
    have hbc' : Below W.heap.size W wc := ((Below.refl _ W).drew).trans (show Below W.heap.size W.drew wc from hbc)
    have hJc : J [] Φ0 wc := HS3.out wc (Grow.of_below hbc') (fun k hk => hbc'.block k (hk.elim (fun h => by omega) (fun h => (hs1 k h).2)))
    have HO1 := Lib.hid (Only.of_later (Ψ := Ψ) (Φ := Φ0) hbc')
    have HJC := Lib.hid hJc
    clear hbc hbc' hJc hc1 hc2 hc3 hlm
    gi_wp2_with fail
    gi_loopw [16] (fun r wr => r = .int .i64 0 ∧ wr = wc) (fun _ _ => 0)
    case atStart => exact ⟨rfl, rfl⟩
    case round =>
      obtain ⟨rfl, rfl⟩ := hrel
      gi_wp2
      refine bodyPost_end (results_none rfl _ _ _) rfl ?_
      exact ⟨⟨_, rfl⟩, Φ0, fun j h => .inl h, HO1.out, .inl HJC.out⟩
end Go.Proofs.YteioacpfphigjaaGreatDoor
end

section
namespace Go.Proofs.YteioacpfphigjaaGreatDoor
open Go.RowKit
set_option linter.unusedVariables false

/-- AN ITERATOR's PROMISE, whatever the body does with its data once it has begun: function gf, which has captured lb, tells xs, one behind the other, to whatever body, till that says no; its data lie in the blocks of G, as they lay in w. -/
def IterF {α : Type} (P : Program) (n : Nat) (gf : Nat) (lb : Array Value) (encs : α → Array Value) (xs : List α) (G : FP) (w : World) : Prop :=
  ∀ (l B : Nat) (Ψ : FP) (J Jx : List α → FP → World → Prop) (Φ0 : FP) (W : World), Grow w W → (∀ k, G k → k < w.heap.size ∧ W.heap[k]? = w.heap[k]?) → (∀ k, Ψ k → k < B) → Stab B J → Stab B Jx →
    (∀ pre x Φ W1, (pre ++ [x]) <+: xs → J pre Φ W1 → RoundOk P n l encs Ψ J Jx pre x Φ W1) → J [] Φ0 W →
    CallsIn Fence.wide (n + 1) P gf (#[.func (.yield l) #[] #[]] ++ lb) W fun e W' => (∃ v, e = .returned v) ∧ Leaves Ψ Φ0 W (fun Φ' W' => J xs Φ' W' ∨ ∃ pre, pre <+: xs ∧ Jx pre Φ' W') W'

section
variable {P : Program} {α : Type}
/-- **A LOOP OVER AN ITERATOR, in a function's own frame.** -/
theorem range_outerF {n : Nat} {g : Operand} {ps : Array Tmp} {assign body : Code} {Q : Exit → Act → World → Prop} {a : Act} {w : World} {gf : Nat} {lb : Array Value} (hg : a.eval g = .func (.func gf) #[] lb) (eg : ∀ args w, (callFunc gf args).run P w = .ok (.enter gf args) w)
    {encs : α → Array Value} {xs : List α} {G : FP} {w0 : World} (hit : IterF P n gf lb encs xs G w0) (hg0 : Grow w0 w) (hG : ∀ k, G k → k < w0.heap.size ∧ w.heap[k]? = w0.heap[k]?) (hps : ∀ x, (encs x).size = ps.size)
    (Ψ : FP) (hΨ : ∀ k, Ψ k → k < w.heap.size) (I : List α → FP → World → Prop) (Ix : Code → List α → FP → World → Prop) (hI : Stab w.heap.size I) (hIx : ∀ c, Stab w.heap.size (Ix c)) (h0 : I [] (fun _ => False) w) (a₁ : α → Act)
    (hassign : ∀ (l : Nat) (x : α) (W : World) (K : Act → World → Prop), K (a₁ x) W → assign.wpIn (Fence.wide.inRound l) n P (Exit.then K (fun _ _ _ => False)) { tmps := (ps.zip (encs x)).foldl (fun t (p, v) => t.setIfInBounds p v) a.tmps, defers := [] } W)
    (hbody : ∀ (l : Nat) (pre : List α) (x : α) (Φ : FP) (W : World), (pre ++ [x]) <+: xs → I pre Φ W → w.heap.size < l → (∀ k, Φ k → l + 1 ≤ k) → (∃ r, W.heap[l]? = some (.loop r)) → body.wpIn (Fence.wide.inRound l) n P (bodyI Ψ Φ I Ix (pre ++ [x]) W) (a₁ x) W)
    (hdone : ∀ (D : Nat) (Φ : FP) (W : World), I xs Φ W → Only Ψ (fun _ => False) w W → w.heap.size ≤ D → ¬ Φ D → W.heap[D]? = some (.deferred (some [])) → Q .normal { a with defers := { target := .collected D, args := #[] } :: a.defers } W)
    (hstop : ∀ (D : Nat) (Φ : FP) (c : Code) (pre : List α) (W : World), pre <+: xs → Ix c pre Φ W → Only Ψ (fun _ => False) w W → w.heap.size ≤ D → ¬ Φ D → W.heap[D]? = some (.deferred (some [])) → c.wpIn Fence.wide (n + 2) P Q { a with defers := { target := .collected D, args := #[] } :: a.defers } W) :
    (Code.rangeFunc g ps assign body).wpIn Fence.wide (n + 2) P Q a w := by
  refine wpIn_rangeFunc ?_
  intro fn hfn
  obtain ⟨W1, hW1⟩ : ∃ W1, (w.alloc (.deferred (some []))).alloc (.loop (recOf fn a.tmps ps assign body w.heap.size .ready none)) = W1 := ⟨_, rfl⟩
  have hL1 : W1.heap[w.heap.size + 1]? = some (.loop (recOf fn a.tmps ps assign body w.heap.size .ready none)) := by
    rw [← hW1]; have := World.alloc_heap_new (w.alloc (.deferred (some []))) (.loop (recOf fn a.tmps ps assign body w.heap.size .ready none)); rwa [World.size_alloc] at this
  have hK1 : W1.heap[w.heap.size]? = some (.deferred (some [])) := by
    rw [← hW1]; exact (Below.heap_alloc _ _ _ (by simp)).trans (World.alloc_heap_new w _)
  have hB1 : Below w.heap.size w W1 := by rw [← hW1]; exact ((Below.refl _ w).alloc (Nat.le_refl _) _).alloc (by simp) _
  have hsz : W1.heap.size = w.heap.size + 2 := by rw [← hW1]; simp
  have hi1 : I [] (fun _ => False) W1 := (hI _ _ _ h0).2.2 _ (Grow.of_below hB1) (fun k hk => hk.elim (fun h => hB1.block k h) (fun h => h.elim))
  refine ⟨w.heap.size + 1, [{ target := .collected w.heap.size, args := #[] }], W1, { target := .fn (.func gf) lb, args := #[.func (.yield (w.heap.size + 1)) #[] #[]] }, W1, gf,
    #[.func (.yield (w.heap.size + 1)) #[] #[]] ++ lb, W1, ?_, ?_, ?_, ?_, fun h => by simp [Fence.wide] at h, ?_⟩
  · rw [← hW1]; exact run_enterLoop_outer _ _ _ _ _
  · simp only [resolve, hg]
    simp [go_sem]
  · intro f' hf'; simp [Target.leads] at hf'; subst hf'; trivial
  · simp [invoke, go_sem, eg]
  · have hD : ∀ d, some w.heap.size = some d → w.heap.size ≤ d ∧ d < w.heap.size + 1 := fun d hd => by cases hd; omega
    refine (hit (w.heap.size + 1) (w.heap.size + 2) (fun k => Ψ k ∨ k = w.heap.size + 1) (InvJ I (w.heap.size + 1) (some w.heap.size) (recOf fn a.tmps ps assign body w.heap.size .ready none))
      (fun pre Φ W => ∃ c, InvJ (Ix c) (w.heap.size + 1) (some w.heap.size) (recOf fn a.tmps ps assign body w.heap.size .done (some c)) pre Φ W) (fun _ => False) W1 (hg0.trans (Grow.of_below hB1))
      (fun k hk => ⟨(hG k hk).1, (hB1.block k (Nat.lt_of_lt_of_le (hG k hk).1 hg0.size)).trans (hG k hk).2⟩) (fun k hk => ?_) (InvJ.stab hI (by omega) (fun d hd => (hD d hd).2)) ?_ ?_ ⟨hi1, fun _ h => h.elim, hL1, fun d hd => by cases hd; exact hK1⟩).mono ?_
    · rcases hk with h | h
      · have := hΨ k h; omega
      · omega
    · rintro pre Φ W ⟨c, hc⟩
      obtain ⟨h1, h2, h3⟩ := InvJ.stab (hIx c) (by omega) (fun d hd => (hD d hd).2) _ _ _ hc
      exact ⟨h1, h2, fun W' hg' hk => ⟨c, h3 W' hg' hk⟩⟩
    · intro pre x Φ W hpx hJ
      exact round_of_body hI hIx (by omega) hΨ hps hD a₁ hJ (fun W K hK => hassign _ x W K hK) (fun W hi hΦ hr => hbody _ pre x Φ W hpx hi (by omega) hΦ hr)
    · have fine : ∀ W2, Only (fun k => Ψ k ∨ k = w.heap.size + 1) (fun _ => False) W1 W2 → ∀ r, Only Ψ (fun _ => False) w (W2.putObj (w.heap.size + 1) (.loop r)) := fun W2 ho r =>
        ⟨((Grow.of_below hB1).trans ho.grow).trans (put_grow _ _ _), fun k hk h1 h2 => (put_other (by omega)).trans ((ho.block k (by omega) (fun h => h.elim h1 (by omega)) h2).trans (hB1.block k hk))⟩
      rintro e W2 ⟨⟨v, rfl⟩, Φ', hn, ho, (⟨hi, hΦ, hl, hk⟩ | ⟨pre, hpre, c, hi, hΦ, hl, hk⟩)⟩
      · have hnD : ¬ Φ' w.heap.size := fun h => by have := hΦ _ h; omega
        refine ⟨none, _, run_endLoop (P := P) hl (by simp [recOf]), hdone _ Φ' _ ?_ (fine W2 ho _) (Nat.le_refl _) hnD ((put_other (by omega)).trans (hk _ rfl))⟩
        exact (hI _ _ _ hi).2.2 _ (put_grow _ _ _) (fun k hk' => put_other (hk'.elim (fun h => by omega) (fun h => by have := hΦ k h; omega)))
      · have hnD : ¬ Φ' w.heap.size := fun h => by have := hΦ _ h; omega
        refine ⟨some c, _, run_endLoop (P := P) hl (by simp [recOf]), hstop _ Φ' c pre _ hpre ?_ (fine W2 ho _) (Nat.le_refl _) hnD ((put_other (by omega)).trans (hk _ rfl))⟩
        exact (hIx c _ _ _ hi).2.2 _ (put_grow _ _ _) (fun k hk' => put_other (hk'.elim (fun h => by omega) (fun h => by have := hΦ k h; omega)))

/-- **A LOOP OVER AN ITERATOR, in a round of another loop.** -/
theorem range_innerF {n l₀ : Nat} {r₀ : Loop} {g : Operand} {ps : Array Tmp} {assign body : Code} {Q : Exit → Act → World → Prop} {a : Act} {w : World} {gf : Nat} {lb : Array Value} (hr0 : w.heap[l₀]? = some (.loop r₀)) (hg : a.eval g = .func (.func gf) #[] lb) (eg : ∀ args w, (callFunc gf args).run P w = .ok (.enter gf args) w)
    {encs : α → Array Value} {xs : List α} {G : FP} {w0 : World} (hit : IterF P n gf lb encs xs G w0) (hg0 : Grow w0 w) (hG : ∀ k, G k → k < w0.heap.size ∧ w.heap[k]? = w0.heap[k]?) (hps : ∀ x, (encs x).size = ps.size)
    (Ψ : FP) (hΨ : ∀ k, Ψ k → k < w.heap.size) (I : List α → FP → World → Prop) (Ix : Code → List α → FP → World → Prop) (hI : Stab w.heap.size I) (hIx : ∀ c, Stab w.heap.size (Ix c)) (h0 : I [] (fun _ => False) w) (a₁ : α → Act)
    (hassign : ∀ (l : Nat) (x : α) (W : World) (K : Act → World → Prop), K (a₁ x) W → assign.wpIn (Fence.wide.inRound l) n P (Exit.then K (fun _ _ _ => False)) { tmps := (ps.zip (encs x)).foldl (fun t (p, v) => t.setIfInBounds p v) a.tmps, defers := [] } W)
    (hbody : ∀ (l : Nat) (pre : List α) (x : α) (Φ : FP) (W : World), (pre ++ [x]) <+: xs → I pre Φ W → w.heap.size ≤ l → (∀ k, Φ k → l + 1 ≤ k) → (∃ r, W.heap[l]? = some (.loop r)) → body.wpIn (Fence.wide.inRound l) n P (bodyI Ψ Φ I Ix (pre ++ [x]) W) (a₁ x) W)
    (hdone : ∀ (Φ : FP) (W : World), I xs Φ W → Only Ψ (fun _ => False) w W → Q .normal { a with defers := [] ++ a.defers } W)
    (hstop : ∀ (Φ : FP) (c : Code) (pre : List α) (W : World), pre <+: xs → Ix c pre Φ W → Only Ψ (fun _ => False) w W → c.wpIn (Fence.wide.inRound l₀) (n + 2) P Q { a with defers := [] ++ a.defers } W) :
    (Code.rangeFunc g ps assign body).wpIn (Fence.wide.inRound l₀) (n + 2) P Q a w := by
  refine wpIn_rangeFunc ?_
  intro fn hfn
  obtain ⟨W1, hW1⟩ : ∃ W1, w.alloc (.loop (recOf fn a.tmps ps assign body r₀.defers .ready none)) = W1 := ⟨_, rfl⟩
  have hL1 : W1.heap[w.heap.size]? = some (.loop (recOf fn a.tmps ps assign body r₀.defers .ready none)) := by
    rw [← hW1]; exact World.alloc_heap_new w _
  have hB1 : Below w.heap.size w W1 := by rw [← hW1]; exact (Below.refl _ w).alloc (Nat.le_refl _) _
  have hsz : W1.heap.size = w.heap.size + 1 := by rw [← hW1]; simp
  have hi1 : I [] (fun _ => False) W1 := (hI _ _ _ h0).2.2 _ (Grow.of_below hB1) (fun k hk => hk.elim (fun h => hB1.block k h) (fun h => h.elim))
  refine ⟨w.heap.size, [], W1, { target := .fn (.func gf) lb, args := #[.func (.yield w.heap.size) #[] #[]] }, W1, gf,
    #[.func (.yield w.heap.size) #[] #[]] ++ lb, W1, ?_, ?_, ?_, ?_, fun h => by simp [Fence.wide] at h, ?_⟩
  · rw [← hW1]; exact run_enterLoop_inner hr0 _ _ _ _ _
  · simp only [resolve, hg]
    simp [go_sem]
  · intro f' hf'; simp [Target.leads] at hf'; subst hf'; trivial
  · simp [invoke, go_sem, eg]
  · have hD : ∀ d, (none : Option Nat) = some d → w.heap.size ≤ d ∧ d < w.heap.size := fun d hd => by cases hd
    refine CallsIn.inRound l₀ ((hit w.heap.size (w.heap.size + 1) (fun k => Ψ k ∨ k = w.heap.size) (InvJ I w.heap.size none (recOf fn a.tmps ps assign body r₀.defers .ready none))
      (fun pre Φ W => ∃ c, InvJ (Ix c) w.heap.size none (recOf fn a.tmps ps assign body r₀.defers .done (some c)) pre Φ W) (fun _ => False) W1 (hg0.trans (Grow.of_below hB1))
      (fun k hk => ⟨(hG k hk).1, (hB1.block k (Nat.lt_of_lt_of_le (hG k hk).1 hg0.size)).trans (hG k hk).2⟩) (fun k hk => ?_) (InvJ.stab hI (by omega) (fun d hd => (hD d hd).2)) ?_ ?_ ⟨hi1, fun _ h => h.elim, hL1, fun d hd => by cases hd⟩).mono ?_)
    · rcases hk with h | h
      · have := hΨ k h; omega
      · omega
    · rintro pre Φ W ⟨c, hc⟩
      obtain ⟨h1, h2, h3⟩ := InvJ.stab (hIx c) (by omega) (fun d hd => (hD d hd).2) _ _ _ hc
      exact ⟨h1, h2, fun W' hg' hk => ⟨c, h3 W' hg' hk⟩⟩
    · intro pre x Φ W hpx hJ
      exact round_of_body hI hIx (by omega) hΨ hps hD a₁ hJ (fun W K hK => hassign _ x W K hK) (fun W hi hΦ hr => hbody _ pre x Φ W hpx hi (by omega) hΦ hr)
    · have fine : ∀ W2, Only (fun k => Ψ k ∨ k = w.heap.size) (fun _ => False) W1 W2 → ∀ r, Only Ψ (fun _ => False) w (W2.putObj w.heap.size (.loop r)) := fun W2 ho r =>
        ⟨((Grow.of_below hB1).trans ho.grow).trans (put_grow _ _ _), fun k hk h1 h2 => (put_other (by omega)).trans ((ho.block k (by omega) (fun h => h.elim h1 (by omega)) h2).trans (hB1.block k hk))⟩
      rintro e W2 ⟨⟨v, rfl⟩, Φ', hn, ho, (⟨hi, hΦ, hl, hk⟩ | ⟨pre, hpre, c, hi, hΦ, hl, hk⟩)⟩
      · refine ⟨none, _, run_endLoop (P := P) hl (by simp [recOf]), hdone Φ' _ ?_ (fine W2 ho _)⟩
        exact (hI _ _ _ hi).2.2 _ (put_grow _ _ _) (fun k hk' => put_other (hk'.elim (fun h => by omega) (fun h => by have := hΦ k h; omega)))
      · refine ⟨some c, _, run_endLoop (P := P) hl (by simp [recOf]), hstop Φ' c pre _ hpre ?_ (fine W2 ho _)⟩
        exact (hIx c _ _ _ hi).2.2 _ (put_grow _ _ _) (fun k hk' => put_other (hk'.elim (fun h => by omega) (fun h => by have := hΦ k h; omega)))
end
end Go.Proofs.YteioacpfphigjaaGreatDoor
end

section
namespace Go.Proofs.YteioacpfphigjaaGreatDoor
open Go.RowKit
set_option linter.unusedVariables false

section
variable {P : Program} {α : Type}
/-- One round, out of its body's walk: the record turns busy, then ready, or done. -/
theorem round_of_bodyA {n l : Nat} {fn : FuncId} {encs : α → Array Value} {ps : Array Tmp} {assign body : Code} {tm : Array Value} {dfr : Nat} {Ψ : FP} {I : List α → FP → World → Prop} {Ix : Code → List α → FP → World → Prop} {B : Nat} (hI : Stab B I) (hIx : ∀ c, Stab B (Ix c))
    (hBJ : B ≤ l) (hΨ : ∀ k, Ψ k → k < B) (hps : ∀ x, (encs x).size = ps.size) {D : Option Nat} (hD : ∀ d, D = some d → B ≤ d ∧ d < l) (aOf : α → Nat → Act) (At : α → Nat → World → Prop) (hAt : ∀ x N W W', At x N W → W'.heap[N]? = W.heap[N]? → At x N W') {pre : List α} {x : α} {Φ : FP} {W : World}
    (hJ : InvJ I l D (recOf fn tm ps assign body dfr .ready none) pre Φ W)
    (hassign : ∀ (W : World) (K : Act → World → Prop), (∀ W', Below W.heap.size W W' → W.heap.size < W'.heap.size → At x W.heap.size W' → K (aOf x W.heap.size) W') → assign.wpIn (Fence.wide.inRound l) n P (Exit.then K (fun _ _ _ => False)) { tmps := (ps.zip (encs x)).foldl (fun t (p, v) => t.setIfInBounds p v) tm, defers := [] } W)
    (hbody : ∀ N W, I pre Φ W → (∀ k, Φ k → l + 1 ≤ k ∧ k < N) → (∃ r, W.heap[l]? = some (.loop r)) → l < N → N < W.heap.size → At x N W → body.wpIn (Fence.wide.inRound l) n P (bodyI Ψ Φ I Ix (pre ++ [x]) W) (aOf x N) W) :
    RoundOk P n l encs (fun k => Ψ k ∨ k = l) (InvJ I l D (recOf fn tm ps assign body dfr .ready none))
      (fun pre Φ W => ∃ c, InvJ (Ix c) l D (recOf fn tm ps assign body dfr .done (some c)) pre Φ W) pre x Φ W := by
  obtain ⟨hi, hΦ, hl, hDW⟩ := hJ
  have hlt : l < W.heap.size := (Array.getElem?_eq_some_iff.1 hl).1
  have hy := run_yield (P := P) (args := encs x) hl (hps x)
  refine ⟨fn, _, assign, body, hy, roundIn_of_wpIn trivial (hassign W _ fun V hV hVs hVA => ?_)⟩
  have hlV : V.heap[l]? = some (.loop (recOf fn tm ps assign body dfr .ready none)) := (hV.block l hlt).trans hl
  refine ⟨_, run_beginRound hlV rfl, ?_⟩
  obtain ⟨W2, hW2⟩ : ∃ W2, W2 = V.putObj l (.loop { recOf fn tm ps assign body dfr .ready none with state := .busy }) := ⟨_, rfl⟩
  rw [← hW2]
  have hl2 : W2.heap[l]? = some (.loop (recOf fn tm ps assign body dfr .busy none)) := by rw [hW2]; exact World.putObj_heap_same (Nat.lt_of_lt_of_le hlt hV.size)
  have hnl : ∀ k, Φ k → k ≠ l := fun k hk e => by have := hΦ k hk; omega
  have ho2 : ∀ k, k ≠ l → k < W.heap.size → W2.heap[k]? = W.heap[k]? := fun k hk hkW => by rw [hW2]; exact (put_other hk).trans (hV.block k hkW)
  have hIW := hI _ _ _ hi
  have hi2 : I pre Φ W2 := hIW.2.2 _ (by rw [hW2]; exact (Grow.of_below hV).trans (put_grow _ _ _)) (fun k hk => ho2 k (hk.elim (fun h => by omega) (fun h => hnl k h)) (hk.elim (fun h => by omega) (fun h => (hIW.1 k h).2)))
  have hA2 : At x W.heap.size W2 := hAt _ _ _ _ hVA (by rw [hW2]; exact put_other (by omega))
  have hsz : W2.heap.size = V.heap.size := by rw [hW2]; simp [World.putObj]
  have hg2 : Grow W W2 := by rw [hW2]; exact (Grow.of_below hV).trans (put_grow _ _ _)
  have hWV : W.heap.size ≤ W2.heap.size := by rw [hsz]; exact hV.size
  clear hW2
  refine wpIn_mono (hbody _ _ hi2 (fun k hk => ⟨hΦ k hk, (hIW.1 k hk).2⟩) ⟨_, hl2⟩ hlt (by rw [hsz]; exact hVs) hA2) ?_
  have fin : ∀ (jump : Option Code) (Φ' : FP) (W3 : World) (R : List α → FP → World → Prop), Only Ψ Φ W2 W3 → (∀ k, Φ' k → Φ k ∨ W2.heap.size ≤ k) → Stab B R → R (pre ++ [x]) Φ' W3 →
      ∃ W4, (Instr.endRound l jump).run P W3 = .ok (.bool jump.isNone) W4 ∧ (∀ k, Φ' k → Φ k ∨ W.heap.size ≤ k) ∧ Only (fun k => Ψ k ∨ k = l) Φ W W4 ∧
        InvJ R l D (recOf fn tm ps assign body dfr (if jump.isNone then .ready else .done) jump) (pre ++ [x]) Φ' W4 := by
    intro jump Φ' W3 R ho hn hS hR
    have hl3 : W3.heap[l]? = some (.loop (recOf fn tm ps assign body dfr .busy none)) := (ho.block l (by omega) (fun h => by have := hΨ l h; omega) (fun h => hnl l h rfl)).trans hl2
    have hlt3 : l < W3.heap.size := (Array.getElem?_eq_some_iff.1 hl3).1
    have hn : ∀ k, Φ' k → Φ k ∨ W.heap.size ≤ k := fun k hk => (hn k hk).imp id (fun h => Nat.le_trans hWV h)
    have hΦ' : ∀ k, Φ' k → l + 1 ≤ k := fun k hk => (hn k hk).elim (hΦ k) (fun h => by omega)
    refine ⟨_, run_endRound (P := P) jump hl3, hn, ⟨(hg2.trans ho.grow).trans (put_grow _ _ _), fun k hk h1 h2 => ?_⟩, (hS _ _ _ hR).2.2 _ (put_grow _ _ _) (fun k hk => put_other ?_), hΦ', World.putObj_heap_same hlt3, fun d hd => ?_⟩
    · have hkl : k ≠ l := fun e => h1 (.inr e)
      exact (put_other hkl).trans ((ho.block k (by omega) (fun h => h1 (.inl h)) h2).trans (ho2 k hkl hk))
    · rcases hk with h | h
      · omega
      · have := hΦ' k h; omega
    · obtain ⟨d1, d2⟩ := hD d hd
      exact (put_other (by omega)).trans ((ho.block d (by omega) (fun h => by have := hΨ d h; omega) (fun h => by have := hΦ d h; omega)).trans ((ho2 d (by omega) (by omega)).trans (hDW d hd)))
  rintro e a3 W3 hp
  cases e with
  | normal =>
    obtain ⟨Φ', hn, ho, hR⟩ := hp
    obtain ⟨W4, hr, h1, h2, h3⟩ := fin none Φ' W3 I ho hn hI hR
    exact ⟨_, _, hr, Φ', h1, h2, .inl ⟨rfl, h3⟩⟩
  | ret =>
    obtain ⟨Φ', hn, ho, hR⟩ := hp
    obtain ⟨W4, hr, h1, h2, h3⟩ := fin (some .ret) Φ' W3 (Ix .ret) ho hn (hIx _) hR
    exact ⟨_, _, hr, Φ', h1, h2, .inr ⟨rfl, .ret, h3⟩⟩
  | exit id =>
    obtain ⟨Φ', hn, ho, hR⟩ := hp
    obtain ⟨W4, hr, h1, h2, h3⟩ := fin (some (.exit id)) Φ' W3 (Ix (.exit id)) ho hn (hIx _) hR
    exact ⟨_, _, hr, Φ', h1, h2, .inr ⟨rfl, .exit id, h3⟩⟩
  | goto t =>
    obtain ⟨Φ', hn, ho, hR⟩ := hp
    obtain ⟨W4, hr, h1, h2, h3⟩ := fin (some (.goto t)) Φ' W3 (Ix (.goto t)) ho hn (hIx _) hR
    exact ⟨_, _, hr, Φ', h1, h2, .inr ⟨rfl, .goto t, h3⟩⟩
  | panic ch => exact hp.elim
  | outgrown => exact hp.elim

/-- **A LOOP OVER AN ITERATOR, in a function's own frame.** -/
theorem range_outerA {n : Nat} {g : Operand} {ps : Array Tmp} {assign body : Code} {Q : Exit → Act → World → Prop} {a : Act} {w : World} {gf : Nat} {lb : Array Value} (hg : a.eval g = .func (.func gf) #[] lb) (eg : ∀ args w, (callFunc gf args).run P w = .ok (.enter gf args) w)
    {encs : α → Array Value} {xs : List α} {G : FP} {w0 : World} (hit : IterF P n gf lb encs xs G w0) (hg0 : Grow w0 w) (hG : ∀ k, G k → k < w0.heap.size ∧ w.heap[k]? = w0.heap[k]?) (hps : ∀ x, (encs x).size = ps.size)
    (Ψ : FP) (hΨ : ∀ k, Ψ k → k < w.heap.size) (I : List α → FP → World → Prop) (Ix : Code → List α → FP → World → Prop) (hI : Stab w.heap.size I) (hIx : ∀ c, Stab w.heap.size (Ix c)) (h0 : I [] (fun _ => False) w) (aOf : α → Nat → Act) (At : α → Nat → World → Prop) (hAt : ∀ x N W W', At x N W → W'.heap[N]? = W.heap[N]? → At x N W')
    (hassign : ∀ (l : Nat) (x : α) (W : World) (K : Act → World → Prop), (∀ W', Below W.heap.size W W' → W.heap.size < W'.heap.size → At x W.heap.size W' → K (aOf x W.heap.size) W') → assign.wpIn (Fence.wide.inRound l) n P (Exit.then K (fun _ _ _ => False)) { tmps := (ps.zip (encs x)).foldl (fun t (p, v) => t.setIfInBounds p v) a.tmps, defers := [] } W)
    (hbody : ∀ (l : Nat) (pre : List α) (x : α) (Φ : FP) (N : Nat) (W : World), (pre ++ [x]) <+: xs → I pre Φ W → w.heap.size < l → (∀ k, Φ k → l + 1 ≤ k ∧ k < N) → (∃ r, W.heap[l]? = some (.loop r)) → l < N → N < W.heap.size → At x N W → body.wpIn (Fence.wide.inRound l) n P (bodyI Ψ Φ I Ix (pre ++ [x]) W) (aOf x N) W)
    (hdone : ∀ (D : Nat) (Φ : FP) (W : World), I xs Φ W → Only Ψ (fun _ => False) w W → w.heap.size ≤ D → ¬ Φ D → W.heap[D]? = some (.deferred (some [])) → Q .normal { a with defers := { target := .collected D, args := #[] } :: a.defers } W)
    (hstop : ∀ (D : Nat) (Φ : FP) (c : Code) (pre : List α) (W : World), pre <+: xs → Ix c pre Φ W → Only Ψ (fun _ => False) w W → w.heap.size ≤ D → ¬ Φ D → W.heap[D]? = some (.deferred (some [])) → c.wpIn Fence.wide (n + 2) P Q { a with defers := { target := .collected D, args := #[] } :: a.defers } W) :
    (Code.rangeFunc g ps assign body).wpIn Fence.wide (n + 2) P Q a w := by
  refine wpIn_rangeFunc ?_
  intro fn hfn
  obtain ⟨W1, hW1⟩ : ∃ W1, (w.alloc (.deferred (some []))).alloc (.loop (recOf fn a.tmps ps assign body w.heap.size .ready none)) = W1 := ⟨_, rfl⟩
  have hL1 : W1.heap[w.heap.size + 1]? = some (.loop (recOf fn a.tmps ps assign body w.heap.size .ready none)) := by
    rw [← hW1]; have := World.alloc_heap_new (w.alloc (.deferred (some []))) (.loop (recOf fn a.tmps ps assign body w.heap.size .ready none)); rwa [World.size_alloc] at this
  have hK1 : W1.heap[w.heap.size]? = some (.deferred (some [])) := by
    rw [← hW1]; exact (Below.heap_alloc _ _ _ (by simp)).trans (World.alloc_heap_new w _)
  have hB1 : Below w.heap.size w W1 := by rw [← hW1]; exact ((Below.refl _ w).alloc (Nat.le_refl _) _).alloc (by simp) _
  have hsz : W1.heap.size = w.heap.size + 2 := by rw [← hW1]; simp
  have hi1 : I [] (fun _ => False) W1 := (hI _ _ _ h0).2.2 _ (Grow.of_below hB1) (fun k hk => hk.elim (fun h => hB1.block k h) (fun h => h.elim))
  refine ⟨w.heap.size + 1, [{ target := .collected w.heap.size, args := #[] }], W1, { target := .fn (.func gf) lb, args := #[.func (.yield (w.heap.size + 1)) #[] #[]] }, W1, gf,
    #[.func (.yield (w.heap.size + 1)) #[] #[]] ++ lb, W1, ?_, ?_, ?_, ?_, fun h => by simp [Fence.wide] at h, ?_⟩
  · rw [← hW1]; exact run_enterLoop_outer _ _ _ _ _
  · simp only [resolve, hg]
    simp [go_sem]
  · intro f' hf'; simp [Target.leads] at hf'; subst hf'; trivial
  · simp [invoke, go_sem, eg]
  · have hD : ∀ d, some w.heap.size = some d → w.heap.size ≤ d ∧ d < w.heap.size + 1 := fun d hd => by cases hd; omega
    refine (hit (w.heap.size + 1) (w.heap.size + 2) (fun k => Ψ k ∨ k = w.heap.size + 1) (InvJ I (w.heap.size + 1) (some w.heap.size) (recOf fn a.tmps ps assign body w.heap.size .ready none))
      (fun pre Φ W => ∃ c, InvJ (Ix c) (w.heap.size + 1) (some w.heap.size) (recOf fn a.tmps ps assign body w.heap.size .done (some c)) pre Φ W) (fun _ => False) W1 (hg0.trans (Grow.of_below hB1))
      (fun k hk => ⟨(hG k hk).1, (hB1.block k (Nat.lt_of_lt_of_le (hG k hk).1 hg0.size)).trans (hG k hk).2⟩) (fun k hk => ?_) (InvJ.stab hI (by omega) (fun d hd => (hD d hd).2)) ?_ ?_ ⟨hi1, fun _ h => h.elim, hL1, fun d hd => by cases hd; exact hK1⟩).mono ?_
    · rcases hk with h | h
      · have := hΨ k h; omega
      · omega
    · rintro pre Φ W ⟨c, hc⟩
      obtain ⟨h1, h2, h3⟩ := InvJ.stab (hIx c) (by omega) (fun d hd => (hD d hd).2) _ _ _ hc
      exact ⟨h1, h2, fun W' hg' hk => ⟨c, h3 W' hg' hk⟩⟩
    · intro pre x Φ W hpx hJ
      exact round_of_bodyA hI hIx (by omega) hΨ hps hD aOf At hAt hJ (fun W K hK => hassign _ x W K hK) (fun N W hi hΦ hr h1 h2 h3 => hbody _ pre x Φ N W hpx hi (by omega) hΦ hr h1 h2 h3)
    · have fine : ∀ W2, Only (fun k => Ψ k ∨ k = w.heap.size + 1) (fun _ => False) W1 W2 → ∀ r, Only Ψ (fun _ => False) w (W2.putObj (w.heap.size + 1) (.loop r)) := fun W2 ho r =>
        ⟨((Grow.of_below hB1).trans ho.grow).trans (put_grow _ _ _), fun k hk h1 h2 => (put_other (by omega)).trans ((ho.block k (by omega) (fun h => h.elim h1 (by omega)) h2).trans (hB1.block k hk))⟩
      rintro e W2 ⟨⟨v, rfl⟩, Φ', hn, ho, (⟨hi, hΦ, hl, hk⟩ | ⟨pre, hpre, c, hi, hΦ, hl, hk⟩)⟩
      · have hnD : ¬ Φ' w.heap.size := fun h => by have := hΦ _ h; omega
        refine ⟨none, _, run_endLoop (P := P) hl (by simp [recOf]), hdone _ Φ' _ ?_ (fine W2 ho _) (Nat.le_refl _) hnD ((put_other (by omega)).trans (hk _ rfl))⟩
        exact (hI _ _ _ hi).2.2 _ (put_grow _ _ _) (fun k hk' => put_other (hk'.elim (fun h => by omega) (fun h => by have := hΦ k h; omega)))
      · have hnD : ¬ Φ' w.heap.size := fun h => by have := hΦ _ h; omega
        refine ⟨some c, _, run_endLoop (P := P) hl (by simp [recOf]), hstop _ Φ' c pre _ hpre ?_ (fine W2 ho _) (Nat.le_refl _) hnD ((put_other (by omega)).trans (hk _ rfl))⟩
        exact (hIx c _ _ _ hi).2.2 _ (put_grow _ _ _) (fun k hk' => put_other (hk'.elim (fun h => by omega) (fun h => by have := hΦ k h; omega)))

end
end Go.Proofs.YteioacpfphigjaaGreatDoor
end

section
namespace Go.Proofs.YteioacpfphigjaaGreatDoor
open Go.RowKit
set_option linter.unusedVariables false
section
variable {P : Program} {α : Type}
theorem range_outerAI {n : Nat} {g : Operand} {ps : Array Tmp} {assign body : Code} {Q : Exit → Act → World → Prop} {a : Act} {w : World} {gf : Nat} {lb : Array Value} (hg : a.eval g = .func (.func gf) #[] lb) (eg : ∀ args w, (callFunc gf args).run P w = .ok (.enter gf args) w)
    {encs : α → Array Value} {xs : List α} {G : FP} {w0 : World} (hit : Iter P n gf lb encs xs G w0) (hg0 : Grow w0 w) (hG : ∀ k, G k → k < w0.heap.size ∧ w.heap[k]? = w0.heap[k]?) (hps : ∀ x, (encs x).size = ps.size)
    (Ψ : FP) (hΨ : ∀ k, Ψ k → k < w.heap.size ∧ ¬ G k) (I : List α → FP → World → Prop) (Ix : Code → List α → FP → World → Prop) (hI : Stab w.heap.size I) (hIx : ∀ c, Stab w.heap.size (Ix c)) (h0 : I [] (fun _ => False) w) (aOf : α → Nat → Act) (At : α → Nat → World → Prop) (hAt : ∀ x N W W', At x N W → W'.heap[N]? = W.heap[N]? → At x N W')
    (hassign : ∀ (l : Nat) (x : α) (W : World) (K : Act → World → Prop), (∀ W', Below W.heap.size W W' → W.heap.size < W'.heap.size → At x W.heap.size W' → K (aOf x W.heap.size) W') → assign.wpIn (Fence.wide.inRound l) n P (Exit.then K (fun _ _ _ => False)) { tmps := (ps.zip (encs x)).foldl (fun t (p, v) => t.setIfInBounds p v) a.tmps, defers := [] } W)
    (hbody : ∀ (l : Nat) (pre : List α) (x : α) (Φ : FP) (N : Nat) (W : World), (pre ++ [x]) <+: xs → I pre Φ W → w.heap.size < l → (∀ k, Φ k → l + 1 ≤ k ∧ k < N) → (∃ r, W.heap[l]? = some (.loop r)) → l < N → N < W.heap.size → At x N W → body.wpIn (Fence.wide.inRound l) n P (bodyI Ψ Φ I Ix (pre ++ [x]) W) (aOf x N) W)
    (hdone : ∀ (D : Nat) (Φ : FP) (W : World), I xs Φ W → Only Ψ (fun _ => False) w W → w.heap.size ≤ D → ¬ Φ D → W.heap[D]? = some (.deferred (some [])) → Q .normal { a with defers := { target := .collected D, args := #[] } :: a.defers } W)
    (hstop : ∀ (D : Nat) (Φ : FP) (c : Code) (pre : List α) (W : World), pre <+: xs → Ix c pre Φ W → Only Ψ (fun _ => False) w W → w.heap.size ≤ D → ¬ Φ D → W.heap[D]? = some (.deferred (some [])) → c.wpIn Fence.wide (n + 2) P Q { a with defers := { target := .collected D, args := #[] } :: a.defers } W) :
    (Code.rangeFunc g ps assign body).wpIn Fence.wide (n + 2) P Q a w := by
  refine wpIn_rangeFunc ?_
  intro fn hfn
  obtain ⟨W1, hW1⟩ : ∃ W1, (w.alloc (.deferred (some []))).alloc (.loop (recOf fn a.tmps ps assign body w.heap.size .ready none)) = W1 := ⟨_, rfl⟩
  have hL1 : W1.heap[w.heap.size + 1]? = some (.loop (recOf fn a.tmps ps assign body w.heap.size .ready none)) := by
    rw [← hW1]; have := World.alloc_heap_new (w.alloc (.deferred (some []))) (.loop (recOf fn a.tmps ps assign body w.heap.size .ready none)); rwa [World.size_alloc] at this
  have hK1 : W1.heap[w.heap.size]? = some (.deferred (some [])) := by
    rw [← hW1]; exact (Below.heap_alloc _ _ _ (by simp)).trans (World.alloc_heap_new w _)
  have hB1 : Below w.heap.size w W1 := by rw [← hW1]; exact ((Below.refl _ w).alloc (Nat.le_refl _) _).alloc (by simp) _
  have hsz : W1.heap.size = w.heap.size + 2 := by rw [← hW1]; simp
  have hi1 : I [] (fun _ => False) W1 := (hI _ _ _ h0).2.2 _ (Grow.of_below hB1) (fun k hk => hk.elim (fun h => hB1.block k h) (fun h => h.elim))
  refine ⟨w.heap.size + 1, [{ target := .collected w.heap.size, args := #[] }], W1, { target := .fn (.func gf) lb, args := #[.func (.yield (w.heap.size + 1)) #[] #[]] }, W1, gf,
    #[.func (.yield (w.heap.size + 1)) #[] #[]] ++ lb, W1, ?_, ?_, ?_, ?_, fun h => by simp [Fence.wide] at h, ?_⟩
  · rw [← hW1]; exact run_enterLoop_outer _ _ _ _ _
  · simp only [resolve, hg]
    simp [go_sem]
  · intro f' hf'; simp [Target.leads] at hf'; subst hf'; trivial
  · simp [invoke, go_sem, eg]
  · have hD : ∀ d, some w.heap.size = some d → w.heap.size ≤ d ∧ d < w.heap.size + 1 := fun d hd => by cases hd; omega
    refine (hit (w.heap.size + 1) (w.heap.size + 2) (fun k => Ψ k ∨ k = w.heap.size + 1) (InvJ I (w.heap.size + 1) (some w.heap.size) (recOf fn a.tmps ps assign body w.heap.size .ready none))
      (fun pre Φ W => ∃ c, InvJ (Ix c) (w.heap.size + 1) (some w.heap.size) (recOf fn a.tmps ps assign body w.heap.size .done (some c)) pre Φ W) (fun _ => False) W1 (hg0.trans (Grow.of_below hB1))
      (fun k hk => ⟨(hG k hk).1, (hB1.block k (Nat.lt_of_lt_of_le (hG k hk).1 hg0.size)).trans (hG k hk).2⟩) (fun k hk => ?_) (fun _ h => h.elim) (InvJ.stab hI (by omega) (fun d hd => (hD d hd).2)) ?_ ?_ ⟨hi1, fun _ h => h.elim, hL1, fun d hd => by cases hd; exact hK1⟩).mono ?_
    · rcases hk with h | h
      · exact ⟨by have := (hΨ k h).1; omega, (hΨ k h).2⟩
      · exact ⟨by omega, fun hg' => by have := (hG k hg').1; have := hg0.size; omega⟩
    · rintro pre Φ W ⟨c, hc⟩
      obtain ⟨h1, h2, h3⟩ := InvJ.stab (hIx c) (by omega) (fun d hd => (hD d hd).2) _ _ _ hc
      exact ⟨h1, h2, fun W' hg' hk => ⟨c, h3 W' hg' hk⟩⟩
    · intro pre x Φ W hpx hJ
      exact round_of_bodyA hI hIx (by omega) (fun k hk => (hΨ k hk).1) hps hD aOf At hAt hJ (fun W K hK => hassign _ x W K hK) (fun N W hi hΦ hr h1 h2 h3 => hbody _ pre x Φ N W hpx hi (by omega) hΦ hr h1 h2 h3)
    · have fine : ∀ W2, Only (fun k => Ψ k ∨ k = w.heap.size + 1) (fun _ => False) W1 W2 → ∀ r, Only Ψ (fun _ => False) w (W2.putObj (w.heap.size + 1) (.loop r)) := fun W2 ho r =>
        ⟨((Grow.of_below hB1).trans ho.grow).trans (put_grow _ _ _), fun k hk h1 h2 => (put_other (by omega)).trans ((ho.block k (by omega) (fun h => h.elim h1 (by omega)) h2).trans (hB1.block k hk))⟩
      rintro e W2 ⟨⟨v, rfl⟩, Φ', hn, ho, (⟨hi, hΦ, hl, hk⟩ | ⟨pre, hpre, c, hi, hΦ, hl, hk⟩)⟩
      · have hnD : ¬ Φ' w.heap.size := fun h => by have := hΦ _ h; omega
        refine ⟨none, _, run_endLoop (P := P) hl (by simp [recOf]), hdone _ Φ' _ ?_ (fine W2 ho _) (Nat.le_refl _) hnD ((put_other (by omega)).trans (hk _ rfl))⟩
        exact (hI _ _ _ hi).2.2 _ (put_grow _ _ _) (fun k hk' => put_other (hk'.elim (fun h => by omega) (fun h => by have := hΦ k h; omega)))
      · have hnD : ¬ Φ' w.heap.size := fun h => by have := hΦ _ h; omega
        refine ⟨some c, _, run_endLoop (P := P) hl (by simp [recOf]), hstop _ Φ' c pre _ hpre ?_ (fine W2 ho _) (Nat.le_refl _) hnD ((put_other (by omega)).trans (hk _ rfl))⟩
        exact (hIx c _ _ _ hi).2.2 _ (put_grow _ _ _) (fun k hk' => put_other (hk'.elim (fun h => by omega) (fun h => by have := hΦ k h; omega)))

end
end Go.Proofs.YteioacpfphigjaaGreatDoor
end

section
namespace Go.Proofs.YteioacpfphigjaaGreatDoor
open Go.RowKit Go.Shelf
attribute [local go_sem] Oper.semAt_some
set_option linter.unusedVariables false
set_option linter.unusedSimpArgs false

/-- What a loop that collects holds: its row in a box. -/
structure ColC {P : Program} {α : Type} (r : RowTy P α) (N0 lb : Nat) (pre : List α) (Φ : FP) (W : World) (v : Value) : Prop where
  bx : Boxed W lb r.S v
  own : OwnR r N0 v pre W
  iff : ∀ k, Φ k ↔ v.ownBlock = some k
  sz : N0 ≤ W.heap.size
def ColI {P : Program} {α : Type} (r : RowTy P α) (N0 lb : Nat) (pre : List α) (Φ : FP) (W : World) : Prop := ∃ v, ColC r N0 lb pre Φ W v
theorem ColI.stab {P : Program} {α : Type} {r : RowTy P α} {N0 lb : Nat} (h1 : lb < N0) : Stab N0 (ColI r N0 lb) := by
  rintro pre Φ W ⟨v, h⟩
  exact ⟨fun k hk => h.own.block ((h.iff k).1 hk), h.sz, fun W' hg hk => ⟨v, (hk lb (.inl h1)).trans h.bx, h.own.of (Nat.le_refl _) (fun k e => hk k (.inr ((h.iff k).2 e))), h.iff, Nat.le_trans h.sz hg.size⟩⟩
/-- One more was collected: appended, stored. -/
theorem ColC.step {P : Program} {α : Type} {r : RowTy P α} {N0 lb : Nat} {pre : List α} {x : α} {Φ Ψ : FP} {W V w3 : World} {v v' : Value} (h : ColC r N0 lb pre Φ W v) (hlb : lb < N0) (hΨ : Ψ lb) (hV : Below W.heap.size W V) (ho : OwnR r N0 v' (pre ++ [x]) w3) (hg : V.grownBy w3 v.ownBlock) (hat : v'.ownBlock = v.ownBlock ∨ v'.ownBlock = some V.heap.size) :
    Leaves Ψ Φ W (fun Φ' W' => ColI r N0 lb (pre ++ [x]) Φ' W') (w3.setCell ⟨lb, 0, none⟩ v') := by
  have hsz := h.sz
  have hVs := hV.size
  have hgs := hg.size
  have hb3 : Boxed w3 lb r.S v := (hg.block lb (by omega) (fun e => by have := (h.own.block e.symm).1; omega)).trans ((hV.block lb (by omega)).trans h.bx)
  have hkeep : ∀ k, k ≠ lb → (w3.setCell ⟨lb, 0, none⟩ v').heap[k]? = w3.heap[k]? := fun k hk => Below.heap_setCell _ _ _ k hk
  refine ⟨fun k => v'.ownBlock = some k, fun k hk => ?_, ⟨⟨hg.os.trans hV.os, hg.tape.trans hV.tape, hg.output.trans hV.output, by simp [World.setCell]; omega⟩, fun k hk h1 h2 => ?_⟩, v', hb3.set _, ho.of (Nat.le_refl _) (fun k hk => hkeep k (by have := (ho.block hk).1; omega)), fun k => Iff.rfl, by simp [World.setCell]; omega⟩
  · rcases hat with e | e
    · exact .inl ((h.iff k).2 (by rw [← e]; exact hk))
    · rw [hk] at e
      injection e with e
      exact .inr (by omega)
  · rw [hkeep k (fun e => h1 (by rw [e]; exact hΨ)), hg.block k (by omega) (fun e => h2 ((h.iff k).2 e.symm))]
    exact hV.block k hk

def prOf_I (x : Int × Int) : List Value := [.int .i64 x.1, .int .i64 x.2]
theorem pairInfo_I : (Tryz.prog.info? 369).map (fun i => (i.zero, i.size, i.bytes)) = some (some (.agg #[.int .i64 0, .int .i64 0]), 2, 16) := by kernel_rfl
def pair_I : RowTy Tryz.prog (Int × Int) where
  T := 369
  S := 367
  k := 2
  f := prOf_I
  len := fun _ => rfl
  one := fun x u hu => by
    simp only [prOf_I, List.mem_cons, List.not_mem_nil, or_false] at hu
    rcases hu with rfl | rfl <;> rfl
  pos := by decide
  small := by decide
  slice := Tryz.underlying367
  info := by
    obtain ⟨i0, hi, hz⟩ := Option.map_eq_some_iff.1 pairInfo_I
    simp only [Prod.mk.injEq] at hz
    obtain ⟨h1, h2, h3⟩ := hz
    exact ⟨i0, _, _, hi, h1, h2, rfl, h3, by decide⟩
  row := ⟨_, Tryz.underlying369, rfl⟩
def encs_I (x : Int × Int) : Array Value := #[.int .i64 x.1, .int .i64 x.2]
set_option maxHeartbeats 4000000 in
set_option maxRecDepth 100000 in
theorem still_Now_I {m : Nat} (gf : Nat) (lbx : Array Value) (xs : List (Int × Int)) (w : World) (eg : ∀ args w, (callFunc gf args).run Tryz.prog w = .ok (.enter gf args) w) (hit : Iter Tryz.prog m gf lbx encs_I xs (fun k => k < w.heap.size) w) (hlen : xs.length ≤ 1000000) :
    Calls Tryz.prog 206 #[.func (.func gf) #[] lbx] w fun e w' => ∃ v, e = .returned (.func (.func 245) #[] #[.pointer (some ⟨w.heap.size, 0, none⟩)]) ∧ Boxed w' w.heap.size 367 v ∧ OwnR pair_I (w.heap.size + 1) v xs w' ∧ Below w.heap.size w w' := by
  refine (callsIn_wide (n := m + 2)).1 ?_
  refine callsIn_of_wp_marks Tryz.func206 rfl trivial ?_ rfl
  simp only [Tryz.ntmps206, List.size_toArray, List.length_cons, List.length_nil, Nat.reduceAdd, Nat.reduceSub, Array.replicate_succ, Array.replicate_zero, List.push_toArray, List.append_toArray, List.nil_append, List.cons_append]
  gi_wp2_with fail
  obtain ⟨w1, hw1⟩ : ∃ w1, w1 = w.alloc (.cells #[.slice none 0 0] 367) := ⟨_, rfl⟩
  rw [← hw1]
  obtain ⟨lb, hlb⟩ : ∃ lb, lb = w.heap.size := ⟨_, rfl⟩
  have hB : Below w.heap.size w w1 := by rw [hw1]; exact (Below.refl _ w).alloc (Nat.le_refl _) _
  have hsz : w1.heap.size = lb + 1 := by rw [hw1, hlb]; simp
  have x0 : Boxed w1 lb 367 (.slice none 0 0) := by rw [hw1, hlb]; exact Boxed.new w _ _
  have HB1 := Lib.hid hB
  have HIT := Lib.hid hit
  have HSZ := Lib.hid hsz
  have l1 : lb < w1.heap.size := by omega
  have l2 : w.heap.size ≤ lb := by omega
  have HEG := Lib.hid eg
  rw [← hlb]
  have HLB := Lib.hid hlb
  have HLN := Lib.hid hlen
  clear hw1 hit hB hsz hlb eg hlen
  refine range_outer (n := m) (gf := gf) (lb := lbx) rfl HEG.out HIT.out (Grow.of_below HB1.out) (fun k hk => ⟨hk, HB1.out.block k hk⟩) (fun _ => rfl)
    (fun k => k = lb) (by rintro k rfl; exact ⟨l1, fun h => by omega⟩) (ColI pair_I w1.heap.size lb) (fun _ _ _ _ => False) (ColI.stab l1) (fun c _ _ _ h => h.elim)
    ⟨_, x0, OwnR.nil _ _, fun k => ⟨fun h => h.elim, fun h => by cases h⟩, Nat.le_refl _⟩
    (fun x => { tmps := #[.func (.func gf) #[] lbx, undef, .nilFunc, .pointer (some ⟨lb, 0, none⟩), .int .i64 x.1, .int .i64 x.2, .func (.func gf) #[] lbx, .int .i64 x.1, .int .i64 x.2, undef, undef, undef, undef, undef, undef, undef], defers := [] }) ?assign ?body ?done ?stop
  case assign =>
    intro l x W K hK
    simp only [encs_I]
    gi_wp2
    exact hK
  case body =>
    rintro l pre x Φ W hpx ⟨v1, hI⟩ hl1 hΦ -
    have hpl := hpx.length_le
    rw [List.length_append, List.length_singleton] at hpl
    have hpl2 : pre.length ≤ 1000000 := by have := HLN.out; omega
    obtain ⟨ao1, cap1, rfl⟩ := hI.own.lenOf
    obtain ⟨pl, hm⟩ : ∃ pl, pl = pre.length := ⟨_, rfl⟩
    rw [← hm] at hI
    have c0 := hI.bx.cell
    have hlW : lb < W.heap.size := by have := hI.sz; omega
    have HI := Lib.hid hI
    have HPH := Lib.hid hΦ
    have HM := Lib.hid hm
    have HPL := Lib.hid hpl2
    have hsW : w1.heap.size ≤ W.heap.size := hI.sz

    clear hI hΦ hm hpl hpl2
    gi_wp2_with (first

      | (refine wplIn_appR (r := pair_I) (y := x) rfl rfl rfl rfl ((OwnR.of HI.out.own (Nat.le_refl _) (fun k hk => Below.heap_alloc _ _ _ (HI.out.own.block hk).2))) (rangeAt_whole (T := 369) (by exact World.alloc_heap_new _ _)) HPL.out (by have h := hsW; rw [World.size_alloc]; omega) ?_; intro v' w3 hO hg3 hat3 hne; have cB : w3.cell? ⟨lb, 0, none⟩ = some (.slice ao1 pl cap1) := (World.cell?_of_block (a := ⟨lb, 0, none⟩) ((hg3.block lb (by rw [World.size_alloc]; omega) (fun e => by have := (HI.out.own.block e.symm).1; omega)).trans (Below.heap_alloc _ _ _ hlW))).trans c0; have fB : w3.frozen? ⟨lb, 0, none⟩ = false := ((HI.out.bx.alloc _).kept hg3 (fun e => by have := (HI.out.own.block e.symm).1; omega)).frozen; obtain ⟨ao2, cap2, rfl⟩ := hO.lenOf; obtain ⟨m2, hm2⟩ : ∃ m2, m2 = (pre ++ [x]).length := ⟨_, rfl⟩; rw [← hm2] at hO hat3; rw [← hm2]; have HO := Lib.hid hO; have HG3 := Lib.hid hg3; have HAT := Lib.hid hat3; clear hO hg3 hat3 hm2 hne)
      | fail)
    exact ColC.step HI.out l1 rfl ((Below.refl _ W).alloc (Nat.le_refl _) _) HO.out HG3.out HAT.out
  case done =>
    rintro D Φ W3 ⟨v3, hC⟩ hon hD hnD hK
    have hiff := hC.iff
    have HC := Lib.hid hC
    have HON := Lib.hid hon
    have HKK := Lib.hid hK
    clear hC hon hK
    gi_wp2
    refine ⟨by simp, .inl ⟨_, _, rfl, run_takeDeferred HKK.out, ?_⟩⟩
    have hC := HC.out
    have hO2 := HON.out
    have hw2 := HB1.out
    have hsz := HSZ.out
    have hlb := HLB.out
    subst hlb
    refine ⟨_, by simp [results, Tryz.results206, go_sem] <;> rfl, v3, rfl, (put_other (by omega)).trans hC.bx, hC.own.of (by omega) (fun k hk => put_other (fun e => hnD ((hiff D).2 (by rw [← e]; exact hk)))), ?_⟩
    refine ⟨hO2.grow.os.trans hw2.os, hO2.grow.tape.trans hw2.tape, hO2.grow.output.trans hw2.output, by have h1 := hO2.grow.size; have h2 := hw2.size; simp [World.putObj]; omega, fun k hk => ?_⟩
    rw [put_other (by omega), hO2.block k (by omega) (by omega) (fun h => h)]
    exact hw2.block k (by omega)
  case stop =>
    rintro D Φ c pre W3 hpre h
    exact h.elim

def prOf_P (x : (Int × Int) × Int) : List Value := [.int .i64 x.1.1, .int .i64 x.1.2, .int .i64 x.2]
def encs_P (x : (Int × Int) × Int) : Array Value := #[.agg #[.int .i64 x.1.1, .int .i64 x.1.2], .int .i64 x.2]
end Go.Proofs.YteioacpfphigjaaGreatDoor
end

section
namespace Go.Proofs.YteioacpfphigjaaGreatDoor
open Go.RowKit Go.Shelf
attribute [local go_sem] Oper.semAt_some
set_option linter.unusedVariables false
set_option linter.unusedSimpArgs false

theorem Iter.later {P : Program} {α : Type} {n gf : Nat} {lb : Array Value} {encs : α → Array Value} {xs : List α} {G G' : FP} {w W : World} (h : Iter P n gf lb encs xs G w) (hg : Grow w W) (hG : ∀ k, G k → k < w.heap.size ∧ W.heap[k]? = w.heap[k]?) (hs : ∀ k, G k → G' k) : Iter P n gf lb encs xs G' W := by
  intro l B Ψ J Jx Φ0 W2 hg2 hG2 hΨ hΦ0 hJ hJx hr h0
  exact h l B Ψ J Jx Φ0 W2 (hg.trans hg2) (fun k hk => ⟨(hG k hk).1, (hG2 k (hs k hk)).2.trans (hG k hk).2⟩) (fun k hk => ⟨(hΨ k hk).1, fun h => (hΨ k hk).2 (hs k h)⟩) (fun k hk h => hΦ0 k hk (hs k h)) hJ hJx hr h0
theorem take_snoc {α : Type} {xs : List α} {k : Nat} (h : k < xs.length) : xs.take k ++ [xs[k]] = xs.take (k + 1) := by rw [List.take_succ_eq_append_getElem h]

set_option maxHeartbeats 4000000 in
set_option maxRecDepth 100000 in
theorem now1_iter_I (n : Nat) (bx : Nat) (v : Value) (xs : List (Int × Int)) (w : World) (hbx : Boxed w bx 367 v) (hr : RdR pair_I w v xs) (hl : xs.length ≤ 1000000) (G : FP) (hGb : G bx) (hGv : ∀ k, v.ownBlock = some k → G k) :
    Iter Tryz.prog n 245 #[.pointer (some ⟨bx, 0, none⟩)] encs_I xs G w := by
  intro lp B Ψ J Jx Φ0 W hgw hG hΨ hΦ0 hJ hJx hround h0
  have hc1 : W.cell? ⟨bx, 0, none⟩ = some v := (World.cell?_of_block (hG bx hGb).2).trans hbx.cell
  have hrW : RdR pair_I W v xs := hr.keep hgw.size (fun k hk => (hG k (hGv k hk)).2)
  obtain ⟨hs1, hs2, hs3⟩ := hJ _ _ _ h0
  obtain ⟨ao, cap, rfl⟩ := hr.lenOf
  have hkeep : ∀ wr, Only Ψ Φ0 W wr → RdR pair_I wr (.slice ao xs.length cap) xs := fun wr ho => hrW.keep ho.grow.size (fun k hk => ho.block k (by have := (hG k (hGv k hk)).1; have := hgw.size; omega) (fun h => (hΨ k h).2 (hGv k hk)) (fun h => hΦ0 k h (hGv k hk)))
  refine callsIn_of_wp Tryz.func245 rfl trivial ?_ rfl
  simp only [Tryz.ntmps245, List.size_toArray, List.length_cons, List.length_nil, Nat.reduceAdd, Nat.reduceSub, Array.replicate_succ, Array.replicate_zero, List.push_toArray, List.append_toArray, List.nil_append, List.cons_append]
  have HK := Lib.hid hkeep
  have HL := Lib.hid hl
  have HRD := Lib.hid hround
  have HJ := Lib.hid hJ
  have HH0 := Lib.hid h0
  have hbig : (xs.length : Int) ≤ 1000000 := by omega
  clear hr hrW hround hJ hJx hG hΨ hΦ0 hbx hGb hGv h0 hs3 hl hkeep
  gi_wp2_with fail
  gi_loopw [7] (fun r wr => ∃ (k : Nat) (Φ : FP), k ≤ xs.length ∧ r = .int .i64 k ∧ J (xs.take k) Φ wr ∧ Only Ψ Φ0 W wr ∧ (∀ j, Φ j → Φ0 j ∨ W.heap.size ≤ j)) (fun r wr => xs.length - (RowKit.intOf r).toNat)
  case atStart => exact ⟨0, Φ0, Nat.zero_le _, rfl, HH0.out, Only.refl _ _ _, fun j h => .inl h⟩
  case round =>
    obtain ⟨k, Φ, hk, rfl, hJ2, ho2, hn2⟩ := hrel
    by_cases hlt : k < xs.length
    · have hlt' : (k : Int) < xs.length := by omega
      obtain ⟨x, hx⟩ : ∃ x, x = xs[k] := ⟨_, rfl⟩
      obtain ⟨b, off, rfl, hrng, hrb⟩ := (HK.out wr ho2).at hlt
      rw [← hx] at hrng
      have htk : xs.take k ++ [x] = xs.take (k + 1) := by rw [hx]; exact take_snoc hlt
      have hpre : (xs.take k ++ [x]) <+: xs := by rw [htk]; exact List.take_prefix _ _
      obtain ⟨q1, q2, q3⟩ := HJ.out _ _ _ hJ2
      obtain ⟨W1, hW1⟩ : ∃ W1, W1 = wr.alloc (.cells (prOf_I x).toArray 369) := ⟨_, rfl⟩
      have hb1 : Below wr.heap.size wr W1 := by rw [hW1]; exact (Below.refl _ wr).alloc (Nat.le_refl _) _
      have hJ1 : J (xs.take k) Φ W1 := q3 W1 (Grow.of_below hb1) (fun j hj => hb1.block j (hj.elim (fun h => by omega) (fun h => (q1 j h).2)))
      have hcx : W1.heap[wr.heap.size]? = some (.cells (prOf_I x).toArray 369 (0, 0)) := by rw [hW1]; exact World.alloc_heap_new _ _
      obtain ⟨fn, tm, asg, bd, hyy, hR⟩ := HRD.out (xs.take k) x Φ W1 hpre hJ1
      simp only [encs_I] at hyy
      have d0 : W1.cell? ⟨wr.heap.size, 0, none⟩ = some (.int .i64 x.1) := by rw [World.cell?, hcx]; rfl
      have d1 : W1.cell? ⟨wr.heap.size, 1, none⟩ = some (.int .i64 x.2) := by rw [World.cell?, hcx]; rfl
      have HRN := Lib.hid hrng
      have HT := Lib.hid htk
      have HPR := Lib.hid hpre
      have HO2 := Lib.hid ho2
      have HN2 := Lib.hid hn2
      have HR := Lib.hid hR
      have HW1 := Lib.hid hW1
      have HB1 := Lib.hid hb1
      clear htk hpre q1 q2 q3 hx hJ2 hJ1 ho2 hn2 hR hrng hW1 hb1 hcx
      gi_wp2_with (first
        | (refine wplIn_loadR (r := pair_I) (t := x) _ rfl rfl rfl HRN.out ?_)
        | (refine wplIn_allocR (r := pair_I) rfl rfl rfl ?_; intro C hC)
        | (refine wplIn_storeR (r := pair_I) (t := x) (C := C) _ _ rfl rfl rfl rfl rfl (World.alloc_heap_new wr _) hC ?_; rw [World.setRow_alloc_new]; rw [show wr.alloc (.cells (pair_I.f x).toArray pair_I.T) = W1 from HW1.out.symm])

        | fail)
      refine HR.out.mono ?_
      rintro e W' ⟨Φ', hn', ho', (⟨rfl, hJ'⟩ | ⟨rfl, hJ'⟩)⟩
      · have ho3 : Only Ψ Φ0 W W' := (HO2.out.trans (Φ' := Φ0) (Only.of_later HB1.out) (fun j h => .inl h)).trans ho' HN2.out
        have hn3 : ∀ j, Φ' j → Φ0 j ∨ W.heap.size ≤ j := fun j hj => (hn' j hj).elim (HN2.out j) (fun h => .inr (by have := HO2.out.grow.size; have := HB1.out.size; omega))
        gi_wp2
        exact ⟨⟨k + 1, Φ', hlt, by go_num, by rw [← HT.out]; exact hJ', ho3, hn3⟩, by simp [RowKit.intOf]; omega⟩
      · have ho3 : Only Ψ Φ0 W W' := (HO2.out.trans (Φ' := Φ0) (Only.of_later HB1.out) (fun j h => .inl h)).trans ho' HN2.out
        have hn3 : ∀ j, Φ' j → Φ0 j ∨ W.heap.size ≤ j := fun j hj => (hn' j hj).elim (HN2.out j) (fun h => .inr (by have := HO2.out.grow.size; have := HB1.out.size; omega))
        gi_wp2
        refine bodyPost_ret (results_none rfl _ _ _) rfl ?_
        exact ⟨⟨_, rfl⟩, Φ', hn3, ho3, .inr ⟨_, HPR.out, hJ'⟩⟩
    · have hkn : k = xs.length := by omega
      subst hkn
      rw [List.take_length] at hJ2
      gi_wp2
      refine bodyPost_end (results_none rfl _ _ _) rfl ?_
      exact ⟨⟨_, rfl⟩, Φ, hn2, ho2, .inl hJ2⟩
theorem still_Begun_I (f : Value) (w : World) (hf : ∃ g lb, f = .func g #[] lb) : Calls Tryz.prog 259 #[f] w fun e w' => e = .returned (.func (.func 269) #[] #[.pointer (some ⟨w.heap.size, 0, none⟩)]) ∧ w' = w.alloc (.cells #[f] 91) := by
  obtain ⟨g, lb, rfl⟩ := hf
  go_enter Tryz.func259, Tryz.ntmps259
  go_wp2
  go_ret
  exact ⟨rfl, rfl⟩
theorem enters_begun_I : ∀ args w, (callFunc 269 args).run Tryz.prog w = .ok (.enter 269 args) w := enters_of Tryz.func269 (by kernel_rfl) rfl
theorem enters_now_I : ∀ args w, (callFunc 245 args).run Tryz.prog w = .ok (.enter 245 args) w := enters_of Tryz.func245 (by kernel_rfl) rfl
set_option maxHeartbeats 4000000 in
set_option maxRecDepth 100000 in
/-- What Begun tells: what another way tells when the ranging begins. -/
theorem begun_iter_I {m : Nat} (n : Nat) (sb : Nat) (gf : Nat) (lbx : Array Value) (xs : List (Int × Int)) (G : FP) (w : World) (hsb : Boxed w sb 91 (.func (.func gf) #[] lbx)) (eg : ∀ args w, (callFunc gf args).run Tryz.prog w = .ok (.enter gf args) w) (hit : Iter Tryz.prog m gf lbx encs_I xs G w) (hGs : G sb) (hGl : ∀ k, G k → k < w.heap.size) (hlen : xs.length ≤ 1000000) :
    IterF Tryz.prog n 269 #[.pointer (some ⟨sb, 0, none⟩)] encs_I xs G w := by
  intro lp B Ψ J Jx Φ0 W hgw hG hΨ hJ hJx hround h0
  have hc1 : W.cell? ⟨sb, 0, none⟩ = some (.func (.func gf) #[] lbx) := (World.cell?_of_block (hG sb hGs).2).trans hsb.cell
  have hitW : Iter Tryz.prog m gf lbx encs_I xs (fun k => k < W.heap.size) W := hit.later hgw hG (fun k hk => Nat.lt_of_lt_of_le (hGl k hk) hgw.size)
  have hnow := still_Now_I gf lbx xs W eg hitW hlen
  obtain ⟨hs1, hs2, hs3⟩ := hJ _ _ _ h0
  have hwalk : ∀ v W1, Boxed W1 W.heap.size 367 v → OwnR pair_I (W.heap.size + 1) v xs W1 → Below W.heap.size W W1 →
      CallsIn Fence.wide n Tryz.prog 245 #[.func (.yield lp) #[] #[], .pointer (some ⟨W.heap.size, 0, none⟩)] W1 fun e W' => (∃ v, e = .returned v) ∧ Leaves Ψ Φ0 W (fun Φ' W' => J xs Φ' W' ∨ ∃ pre, pre <+: xs ∧ Jx pre Φ' W') W' := by
    intro v W1 hb ho hB
    have hJ1 : J [] Φ0 W1 := hs3 W1 (Grow.of_below hB) (fun k hk => hB.block k (hk.elim (fun h => by omega) (fun h => (hs1 k h).2)))
    have hi := now1_iter_I n W.heap.size v xs W1 hb ho.reads hlen (fun k => W.heap.size ≤ k ∧ k < W1.heap.size) ⟨Nat.le_refl _, hb.lt⟩ (fun k hk => ⟨by have := (ho.block hk).1; omega, (ho.block hk).2⟩)
    have hcall := hi lp B Ψ J Jx Φ0 W1 (Grow.refl _) (fun k hk => ⟨hk.2, rfl⟩) (fun k hk => ⟨hΨ k hk, fun h => by have := hΨ k hk; omega⟩) (fun k hk h => by have := (hs1 k hk).2; omega) hJ hJx hround hJ1
    refine (callsIn_wide.2 (callsIn_wide.1 hcall)).mono ?_
    rintro e W' ⟨he, Φ', hn, ho', hR⟩
    exact ⟨he, Φ', fun k hk => (hn k hk).imp id (fun h => by have := hB.size; omega), (Only.of_later hB).trans ho' (fun j h => .inl h), hR⟩
  have HW := Lib.hid hwalk
  have HN := Lib.hid hnow
  clear hwalk hnow hround hJ hJx hG hΨ hsb hit hitW h0 hs1 hs3 hGs hGl hlen eg
  refine callsIn_of_wp Tryz.func269 rfl trivial ?_ rfl
  simp only [Tryz.ntmps269, List.size_toArray, List.length_cons, List.length_nil, Nat.reduceAdd, Nat.reduceSub, Array.replicate_succ, Array.replicate_zero, List.push_toArray, List.append_toArray, List.nil_append, List.cons_append]
  have en := enters_now_I
  gi_wp2_with (first
    | (gi_at_call 206; refine (callsIn_wide.2 HN.out).mono ?_; rintro e W1 ⟨v, rfl, hb, ho, hB⟩; have H1 := Lib.hid (And.intro hb (And.intro ho hB)); clear hb ho hB)
    | (refine ⟨trivial, ?_⟩; gi_at_call 206; refine (callsIn_wide.2 HN.out).mono ?_; rintro e W1 ⟨v, rfl, hb, ho, hB⟩; have H1 := Lib.hid (And.intro hb (And.intro ho hB)); clear hb ho hB)
    | (gi_at_call 245; refine (callsIn_wide.2 (callsIn_wide.1 (HW.out _ _ H1.out.1 H1.out.2.1 H1.out.2.2))).mono ?_; rintro e W' ⟨⟨v', rfl⟩, hR⟩; have H2 := Lib.hid hR; clear hR)
    | (refine ⟨trivial, ?_⟩; gi_at_call 245; refine (callsIn_wide.2 (callsIn_wide.1 (HW.out _ _ H1.out.1 H1.out.2.1 H1.out.2.2))).mono ?_; rintro e W' ⟨⟨v', rfl⟩, hR⟩; have H2 := Lib.hid hR; clear hR)
    | fail)
  refine bodyPost_end (results_none rfl _ _ _) rfl ?_
  exact ⟨⟨_, rfl⟩, H2.out⟩

end Go.Proofs.YteioacpfphigjaaGreatDoor
end
