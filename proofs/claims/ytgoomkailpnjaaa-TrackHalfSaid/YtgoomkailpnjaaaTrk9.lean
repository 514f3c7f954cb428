/-
  The law on tracks with a threshold of one half.
-/
import Derived.Test.YtgoomkailpnjaaaTrk5
namespace Go.Proofs.Ytgoomkailpnjaaa
open Go.RowKit
set_option linter.unusedVariables false

/-- A store of a track, and a load of the block that was made last, under names that the walk's rules don't open. -/
def storeTrack (p v : Value) : Sem Unit := Instr.storeAt 47 p v
theorem storeAt_track (p v : Value) : Instr.storeAt 47 p v = storeTrack p v := rfl
theorem store_track_new (w : World) (n : Nat) (c c' : Array Value) (hn : w.heap.size = n) (hc : c.size = 18) (hc' : c'.size = 18) (h1 : c'.all (·.oneCell') = true) :
    (storeTrack (.pointer (some ⟨n, 0, none⟩)) (.agg c')).run Try.prog (w.alloc (.cells c 47)) = .ok () (w.alloc (.cells c' 47)) := by
  subst hn
  exact run_storeAt_new w _ c c' (by rw [hc']; kernel_rfl) (by rw [hc, hc']) h1
theorem load_track_new (w : World) (n : Nat) (c : Array Value) (hn : w.heap.size = n) (hc : c.size = 18) :
    (loadTrack (.pointer (some ⟨n, 0, none⟩))).run Try.prog (w.alloc (.cells c 47)) = .ok (.agg c) (w.alloc (.cells c 47)) := by
  subst hn
  have : (w.alloc (.cells c 47)).rangeAt w.heap.size 0 c.toList := (RBox.new (l := c.toList) (T := 47) (Below.refl _ w)).rng
  exact run_loadAt_mid _ _ 0 47 c.toList _ this Try.underlying47 rfl (by rw [Array.length_toList, hc]; kernel_rfl)
attribute [local go_sem ↓] loadAt_track storeAt_track
attribute [local go_sem] store_track_new load_track_new Value.oneCell'

/-- The law's track: a threshold of one half, and one of nothing. -/
def halfTrk : Trk := ⟨1, 0, 0, 10, 0, 0, 1, 500000000, 500000000, 1, 0, 1, 0, 0, 1, 0, 0, 0⟩
theorem half_may : trackB halfTrk = true := by decide

theorem pass_half {a n e : Int} (a0 : 0 ≤ a) (n0 : 0 ≤ n) : passB halfTrk a n 0 5 e = (decide (n ≤ a) && decide (0 < a)) := by
  have h1 : atI 1 500000000 500000000 1 0 (placeI halfTrk e) = 500000000 := by
    by_cases h : 1 ≤ heldI (placeI halfTrk e)
    · rw [at1_end h]
    · have := held_bd (placeI halfTrk e)
      rw [at1_mid (by omega)]; simp
  have h2 : atI 1 0 0 1 0 (placeI halfTrk e) = 0 := by
    by_cases h : 1 ≤ heldI (placeI halfTrk e)
    · rw [at1_end h]
    · rw [at1_mid (by omega)]; simp
  have h3 : ratioI 0 5 = 0 := by decide
  show (decide (atI 1 500000000 500000000 1 0 (placeI halfTrk e) ≤ ratioI a (a + n)) && decide (atI 1 0 0 1 0 (placeI halfTrk e) ≤ ratioI 0 5)) = _
  rw [h1, h2, h3]
  by_cases hz : a + n = 0
  · have : a = 0 := by omega
    have : n = 0 := by omega
    subst a n; decide
  · have := ratio_iff (a := a) (b := a + n) (t := 500000000) (by omega) (by omega)
    rw [Bool.eq_iff_iff]
    simp only [Bool.and_eq_true, decide_eq_true_eq]
    constructor
    · intro h; have := this.1 h.1; omega
    · intro h; exact ⟨this.2 (by omega), by omega⟩

set_option maxHeartbeats 1000000 in
theorem trackHalf_yes (a n e : Int) (w : World) (a0 : 0 ≤ a) (a1 : a ≤ 4294967296) (n0 : 0 ≤ n) (n1 : n ≤ 4294967296) (e0 : 0 ≤ e) (e1 : e ≤ 1073741824) :
    Calls Try.prog 17 #[.int .i64 a, .int .i64 n, .int .i64 e] w fun e w' => e = .returned (.bool true) ∧ Below w.heap.size w w' := by
  have g1 : decide (a < 0) = false := by simp; omega
  have g2 : decide (4294967296 < a) = false := by simp; omega
  have g3 : decide (n < 0) = false := by simp; omega
  have g4 : decide (4294967296 < n) = false := by simp; omega
  have g5 : decide (e < 0) = false := by simp; omega
  have g6 : decide (1073741824 < e) = false := by simp; omega
  have PH := pass_half (e := e) a0 n0
  have h : Fits10 a n 0 5 := by unfold Fits10; omega
  have hq : decide (n ≤ a) = true ∧ decide (0 < a) = true ∨ decide (n ≤ a) = true ∧ decide (0 < a) = false ∨ decide (n ≤ a) = false := by cases decide (n ≤ a) <;> cases decide (0 < a) <;> simp
  have HQ := Lib.hid hq
  have HP := Lib.hid PH
  clear hq PH
  go_enter Try.func17, Try.ntmps17
  go_wp2_with fail
  refine (track_Passing halfTrk _ _ _ _ _ _ h half_may e0).mono ?_
  rintro e' w1 ⟨rfl, hb1⟩
  have L := Below.trans (show Below w.heap.size w _ from (by repeat (first | exact Below.refl _ _ | refine below_new ?_ _ | refine Below.setCell ?_ (Nat.le_refl _) _ | refine Below.setCell ?_ (Nat.le_succ _) _ | refine Below.setCell ?_ (Nat.le_trans (Nat.le_succ _) (Nat.le_succ _)) _))) (hb1.mono (by simp; omega))
  have PH := HP.out
  rcases HQ.out with ⟨q1, q2⟩ | ⟨q1, q2⟩ | q1
  all_goals
    go_wp2_with (first | (go_at_call 36; refine (known10 _).mono ?_; rintro e w6 ⟨rfl, hb6⟩) | fail)
    go_ret
    exact ⟨rfl, L.trans (hb6.mono L.size)⟩

theorem trackHalf_1 (a n e : Int) (w : World) (g1 : decide (a < 0) = true) :
    Calls Try.prog 17 #[.int .i64 a, .int .i64 n, .int .i64 e] w fun e w' => e = .returned (.bool true) ∧ Below w.heap.size w w' := by
  go_enter Try.func17, Try.ntmps17
  go_wp2_with fail
  go_ret
  exact ⟨rfl, Below.refl _ _⟩

theorem trackHalf_2 (a n e : Int) (w : World) (g1 : decide (a < 0) = false) (g2 : decide (4294967296 < a) = true) :
    Calls Try.prog 17 #[.int .i64 a, .int .i64 n, .int .i64 e] w fun e w' => e = .returned (.bool true) ∧ Below w.heap.size w w' := by
  go_enter Try.func17, Try.ntmps17
  go_wp2_with fail
  go_ret
  exact ⟨rfl, Below.refl _ _⟩

theorem trackHalf_3 (a n e : Int) (w : World) (g1 : decide (a < 0) = false) (g2 : decide (4294967296 < a) = false) (g3 : decide (n < 0) = true) :
    Calls Try.prog 17 #[.int .i64 a, .int .i64 n, .int .i64 e] w fun e w' => e = .returned (.bool true) ∧ Below w.heap.size w w' := by
  go_enter Try.func17, Try.ntmps17
  go_wp2_with fail
  go_ret
  exact ⟨rfl, Below.refl _ _⟩

theorem trackHalf_4 (a n e : Int) (w : World) (g1 : decide (a < 0) = false) (g2 : decide (4294967296 < a) = false) (g3 : decide (n < 0) = false) (g4 : decide (4294967296 < n) = true) :
    Calls Try.prog 17 #[.int .i64 a, .int .i64 n, .int .i64 e] w fun e w' => e = .returned (.bool true) ∧ Below w.heap.size w w' := by
  go_enter Try.func17, Try.ntmps17
  go_wp2_with fail
  go_ret
  exact ⟨rfl, Below.refl _ _⟩

theorem trackHalf_5 (a n e : Int) (w : World) (g1 : decide (a < 0) = false) (g2 : decide (4294967296 < a) = false) (g3 : decide (n < 0) = false) (g4 : decide (4294967296 < n) = false) (g5 : decide (e < 0) = true) :
    Calls Try.prog 17 #[.int .i64 a, .int .i64 n, .int .i64 e] w fun e w' => e = .returned (.bool true) ∧ Below w.heap.size w w' := by
  go_enter Try.func17, Try.ntmps17
  go_wp2_with fail
  go_ret
  exact ⟨rfl, Below.refl _ _⟩

theorem trackHalf_6 (a n e : Int) (w : World) (g1 : decide (a < 0) = false) (g2 : decide (4294967296 < a) = false) (g3 : decide (n < 0) = false) (g4 : decide (4294967296 < n) = false) (g5 : decide (e < 0) = false) (g6 : decide (1073741824 < e) = true) :
    Calls Try.prog 17 #[.int .i64 a, .int .i64 n, .int .i64 e] w fun e w' => e = .returned (.bool true) ∧ Below w.heap.size w w' := by
  go_enter Try.func17, Try.ntmps17
  go_wp2_with fail
  go_ret
  exact ⟨rfl, Below.refl _ _⟩

theorem trackHalf_one (a n e : Int) (w : World) :
    Calls Try.prog 17 #[.int .i64 a, .int .i64 n, .int .i64 e] w fun e w' => e = .returned (.bool true) ∧ Below w.heap.size w w' := by
  cases g1 : decide (a < 0)
  case true => exact trackHalf_1 a n e w  g1
  cases g2 : decide (4294967296 < a)
  case true => exact trackHalf_2 a n e w g1 g2
  cases g3 : decide (n < 0)
  case true => exact trackHalf_3 a n e w g1 g2 g3
  cases g4 : decide (4294967296 < n)
  case true => exact trackHalf_4 a n e w g1 g2 g3 g4
  cases g5 : decide (e < 0)
  case true => exact trackHalf_5 a n e w g1 g2 g3 g4 g5
  cases g6 : decide (1073741824 < e)
  case true => exact trackHalf_6 a n e w g1 g2 g3 g4 g5 g6
  simp only [decide_eq_false_iff_not, Int.not_lt] at g1 g2 g3 g4 g5 g6
  exact trackHalf_yes a n e w g1 g2 g3 g4 g5 g6

end Go.Proofs.Ytgoomkailpnjaaa
