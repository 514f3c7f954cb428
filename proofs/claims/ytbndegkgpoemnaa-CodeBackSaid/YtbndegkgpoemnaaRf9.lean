/-
  The reference's names, num. Printed by mkrf9.py.
-/
import Derived.Test.YtbndegkgpoemnaaRf7
import Derived.Deep.DeepCutAuto
import Derived.Deep.CutBlock
namespace Go.Proofs.Ytbndegkgpoemnaa
open Go.RowKit
set_option linter.unusedVariables false
set_option linter.unusedSimpArgs false

/-- The letters of what a kind names. -/
def namesOf (k : Int) : List Nat :=
  if k = 1 then [84, 78] else if k = 2 then [67] else if k = 3 then [83] else if k = 4 then [75, 83, 78] else if k = 7 then [82, 86] else if k = 9 then [75, 84, 76, 78] else if k = 10 ∨ k = 11 then [75] else [82]
/-- Does a kind name a letter? -/
def namesB (k f : Int) : Bool := (namesOf k).any fun x => (x : Int) == f
set_option maxHeartbeats 8000000 in
set_option maxRecDepth 100000 in
theorem ref_names (k f : Int) (hk : k = 1 ∨ k = 2 ∨ k = 3 ∨ k = 4 ∨ k = 5 ∨ k = 6 ∨ k = 7 ∨ k = 8 ∨ k = 9 ∨ k = 10 ∨ k = 11) (w : World) :
    Calls Try.prog 48 #[.int .i64 k, .int .u8 f] w fun e w' => e = .returned (.bool (namesB k f)) ∧ Below w.heap.size w w' := by
  obtain ⟨r, hr⟩ : ∃ r, r = namesB k f := ⟨_, rfl⟩
  rw [← hr]
  have HR := Lib.hid hr
  clear hr
  rcases hk with rfl | rfl | rfl | rfl | rfl | rfl | rfl | rfl | rfl | rfl | rfl
  · have hall : ∀ b : Bool, b = (((84 : Int) == f) || ((78 : Int) == f)) → b = r := fun b h => by rw [HR.out, h]; simp [namesB, namesOf, Bool.or_assoc]
    have HA := Lib.hid hall
    clear hall
    go_enter Try.func48, Try.ntmps48
    go_wp2_with fail
    go_loopw [6] (fun i wr => ∃ j : Nat, i = .int .i64 j ∧ j ≤ 2 ∧ (∀ q, q < j → (([84, 78] : List Int).getD q 0 == f) = false) ∧ Below w.heap.size w wr) (fun i _ => (3 - intOf i).toNat)
    case atStart => exact ⟨0, by simp, by omega, fun q hq => by omega, by first | exact (Below.refl _ w).alloc (Nat.le_refl _) _ | exact ((Below.refl _ w).alloc (Nat.le_refl _) _).drew⟩
    case round =>
      obtain ⟨j, rfl, hj, hno, hb⟩ := hrel
      have HB := Lib.hid hb
      have HN := Lib.hid hno
      clear hb hno
      have h3 : j = 0 ∨ j = 1 ∨ j = 2 := by omega
      rcases h3 with rfl | rfl | rfl
      · by_cases hf : f = 84
        · have g1 : ((84 : Int) == f) = true := by simp [hf]
          have HG := Lib.hid g1
          have gE : (((({ data := #[84, 78] } : ByteArray)[0]'(by decide)).toNat : Int) == f) = true := g1
          clear g1
          go_wp2_with fail
          exact bodyPost_ret (v := .bool true) (by simp [results, Try.results48, go_sem]) rfl ⟨by rw [HA.out true (by simp [HG.out])], HB.out⟩
        · have g1 : ((84 : Int) == f) = false := by simp; omega
          have HG := Lib.hid g1
          have gE : (((({ data := #[84, 78] } : ByteArray)[0]'(by decide)).toNat : Int) == f) = false := g1
          clear g1
          go_wp2_with fail
          go_roundw
          case rel => exact ⟨1, by simp, by omega, fun p hp => by
            by_cases hpq : p = 0
            · subst hpq; exact HG.out
            · exact HN.out p (by omega), HB.out⟩
          case measure => simp [intOf]
      · by_cases hf : f = 78
        · have g1 : ((78 : Int) == f) = true := by simp [hf]
          have HG := Lib.hid g1
          have gE : (((({ data := #[84, 78] } : ByteArray)[1]'(by decide)).toNat : Int) == f) = true := g1
          clear g1
          go_wp2_with fail
          exact bodyPost_ret (v := .bool true) (by simp [results, Try.results48, go_sem]) rfl ⟨by rw [HA.out true (by rw [show ((84 : Int) == f) = false from HN.out 0 (by omega)]; simp [HG.out])], HB.out⟩
        · have g1 : ((78 : Int) == f) = false := by simp; omega
          have HG := Lib.hid g1
          have gE : (((({ data := #[84, 78] } : ByteArray)[1]'(by decide)).toNat : Int) == f) = false := g1
          clear g1
          go_wp2_with fail
          go_roundw
          case rel => exact ⟨2, by simp, by omega, fun p hp => by
            by_cases hpq : p = 1
            · subst hpq; exact HG.out
            · exact HN.out p (by omega), HB.out⟩
          case measure => simp [intOf]
      · go_wp2_with fail
        exact bodyPost_ret (v := .bool false) (by simp [results, Try.results48, go_sem]) rfl ⟨by rw [HA.out false (by rw [show ((84 : Int) == f) = false from HN.out 0 (by omega)]; rw [show ((78 : Int) == f) = false from HN.out 1 (by omega)]; rfl)], HB.out⟩
  · have hall : ∀ b : Bool, b = (((67 : Int) == f)) → b = r := fun b h => by rw [HR.out, h]; simp [namesB, namesOf, Bool.or_assoc]
    have HA := Lib.hid hall
    clear hall
    go_enter Try.func48, Try.ntmps48
    go_wp2_with fail
    go_loopw [6] (fun i wr => ∃ j : Nat, i = .int .i64 j ∧ j ≤ 1 ∧ (∀ q, q < j → (([67] : List Int).getD q 0 == f) = false) ∧ Below w.heap.size w wr) (fun i _ => (2 - intOf i).toNat)
    case atStart => exact ⟨0, by simp, by omega, fun q hq => by omega, by first | exact (Below.refl _ w).alloc (Nat.le_refl _) _ | exact ((Below.refl _ w).alloc (Nat.le_refl _) _).drew⟩
    case round =>
      obtain ⟨j, rfl, hj, hno, hb⟩ := hrel
      have HB := Lib.hid hb
      have HN := Lib.hid hno
      clear hb hno
      have h3 : j = 0 ∨ j = 1 := by omega
      rcases h3 with rfl | rfl
      · by_cases hf : f = 67
        · have g1 : ((67 : Int) == f) = true := by simp [hf]
          have HG := Lib.hid g1
          have gE : (((({ data := #[67] } : ByteArray)[0]'(by decide)).toNat : Int) == f) = true := g1
          clear g1
          go_wp2_with fail
          exact bodyPost_ret (v := .bool true) (by simp [results, Try.results48, go_sem]) rfl ⟨by rw [HA.out true (by simp [HG.out])], HB.out⟩
        · have g1 : ((67 : Int) == f) = false := by simp; omega
          have HG := Lib.hid g1
          have gE : (((({ data := #[67] } : ByteArray)[0]'(by decide)).toNat : Int) == f) = false := g1
          clear g1
          go_wp2_with fail
          go_roundw
          case rel => exact ⟨1, by simp, by omega, fun p hp => by
            by_cases hpq : p = 0
            · subst hpq; exact HG.out
            · exact HN.out p (by omega), HB.out⟩
          case measure => simp [intOf]
      · go_wp2_with fail
        exact bodyPost_ret (v := .bool false) (by simp [results, Try.results48, go_sem]) rfl ⟨by rw [HA.out false (by rw [show ((67 : Int) == f) = false from HN.out 0 (by omega)])], HB.out⟩
  · have hall : ∀ b : Bool, b = (((83 : Int) == f)) → b = r := fun b h => by rw [HR.out, h]; simp [namesB, namesOf, Bool.or_assoc]
    have HA := Lib.hid hall
    clear hall
    go_enter Try.func48, Try.ntmps48
    go_wp2_with fail
    go_loopw [6] (fun i wr => ∃ j : Nat, i = .int .i64 j ∧ j ≤ 1 ∧ (∀ q, q < j → (([83] : List Int).getD q 0 == f) = false) ∧ Below w.heap.size w wr) (fun i _ => (2 - intOf i).toNat)
    case atStart => exact ⟨0, by simp, by omega, fun q hq => by omega, by first | exact (Below.refl _ w).alloc (Nat.le_refl _) _ | exact ((Below.refl _ w).alloc (Nat.le_refl _) _).drew⟩
    case round =>
      obtain ⟨j, rfl, hj, hno, hb⟩ := hrel
      have HB := Lib.hid hb
      have HN := Lib.hid hno
      clear hb hno
      have h3 : j = 0 ∨ j = 1 := by omega
      rcases h3 with rfl | rfl
      · by_cases hf : f = 83
        · have g1 : ((83 : Int) == f) = true := by simp [hf]
          have HG := Lib.hid g1
          have gE : (((({ data := #[83] } : ByteArray)[0]'(by decide)).toNat : Int) == f) = true := g1
          clear g1
          go_wp2_with fail
          exact bodyPost_ret (v := .bool true) (by simp [results, Try.results48, go_sem]) rfl ⟨by rw [HA.out true (by simp [HG.out])], HB.out⟩
        · have g1 : ((83 : Int) == f) = false := by simp; omega
          have HG := Lib.hid g1
          have gE : (((({ data := #[83] } : ByteArray)[0]'(by decide)).toNat : Int) == f) = false := g1
          clear g1
          go_wp2_with fail
          go_roundw
          case rel => exact ⟨1, by simp, by omega, fun p hp => by
            by_cases hpq : p = 0
            · subst hpq; exact HG.out
            · exact HN.out p (by omega), HB.out⟩
          case measure => simp [intOf]
      · go_wp2_with fail
        exact bodyPost_ret (v := .bool false) (by simp [results, Try.results48, go_sem]) rfl ⟨by rw [HA.out false (by rw [show ((83 : Int) == f) = false from HN.out 0 (by omega)])], HB.out⟩
  · have hall : ∀ b : Bool, b = (((75 : Int) == f) || ((83 : Int) == f) || ((78 : Int) == f)) → b = r := fun b h => by rw [HR.out, h]; simp [namesB, namesOf, Bool.or_assoc]
    have HA := Lib.hid hall
    clear hall
    go_enter Try.func48, Try.ntmps48
    go_wp2_with fail
    go_loopw [6] (fun i wr => ∃ j : Nat, i = .int .i64 j ∧ j ≤ 3 ∧ (∀ q, q < j → (([75, 83, 78] : List Int).getD q 0 == f) = false) ∧ Below w.heap.size w wr) (fun i _ => (4 - intOf i).toNat)
    case atStart => exact ⟨0, by simp, by omega, fun q hq => by omega, by first | exact (Below.refl _ w).alloc (Nat.le_refl _) _ | exact ((Below.refl _ w).alloc (Nat.le_refl _) _).drew⟩
    case round =>
      obtain ⟨j, rfl, hj, hno, hb⟩ := hrel
      have HB := Lib.hid hb
      have HN := Lib.hid hno
      clear hb hno
      have h3 : j = 0 ∨ j = 1 ∨ j = 2 ∨ j = 3 := by omega
      rcases h3 with rfl | rfl | rfl | rfl
      · by_cases hf : f = 75
        · have g1 : ((75 : Int) == f) = true := by simp [hf]
          have HG := Lib.hid g1
          have gE : (((({ data := #[75, 83, 78] } : ByteArray)[0]'(by decide)).toNat : Int) == f) = true := g1
          clear g1
          go_wp2_with fail
          exact bodyPost_ret (v := .bool true) (by simp [results, Try.results48, go_sem]) rfl ⟨by rw [HA.out true (by simp [HG.out])], HB.out⟩
        · have g1 : ((75 : Int) == f) = false := by simp; omega
          have HG := Lib.hid g1
          have gE : (((({ data := #[75, 83, 78] } : ByteArray)[0]'(by decide)).toNat : Int) == f) = false := g1
          clear g1
          go_wp2_with fail
          go_roundw
          case rel => exact ⟨1, by simp, by omega, fun p hp => by
            by_cases hpq : p = 0
            · subst hpq; exact HG.out
            · exact HN.out p (by omega), HB.out⟩
          case measure => simp [intOf]
      · by_cases hf : f = 83
        · have g1 : ((83 : Int) == f) = true := by simp [hf]
          have HG := Lib.hid g1
          have gE : (((({ data := #[75, 83, 78] } : ByteArray)[1]'(by decide)).toNat : Int) == f) = true := g1
          clear g1
          go_wp2_with fail
          exact bodyPost_ret (v := .bool true) (by simp [results, Try.results48, go_sem]) rfl ⟨by rw [HA.out true (by rw [show ((75 : Int) == f) = false from HN.out 0 (by omega)]; simp [HG.out])], HB.out⟩
        · have g1 : ((83 : Int) == f) = false := by simp; omega
          have HG := Lib.hid g1
          have gE : (((({ data := #[75, 83, 78] } : ByteArray)[1]'(by decide)).toNat : Int) == f) = false := g1
          clear g1
          go_wp2_with fail
          go_roundw
          case rel => exact ⟨2, by simp, by omega, fun p hp => by
            by_cases hpq : p = 1
            · subst hpq; exact HG.out
            · exact HN.out p (by omega), HB.out⟩
          case measure => simp [intOf]
      · by_cases hf : f = 78
        · have g1 : ((78 : Int) == f) = true := by simp [hf]
          have HG := Lib.hid g1
          have gE : (((({ data := #[75, 83, 78] } : ByteArray)[2]'(by decide)).toNat : Int) == f) = true := g1
          clear g1
          go_wp2_with fail
          exact bodyPost_ret (v := .bool true) (by simp [results, Try.results48, go_sem]) rfl ⟨by rw [HA.out true (by rw [show ((75 : Int) == f) = false from HN.out 0 (by omega)]; rw [show ((83 : Int) == f) = false from HN.out 1 (by omega)]; simp [HG.out])], HB.out⟩
        · have g1 : ((78 : Int) == f) = false := by simp; omega
          have HG := Lib.hid g1
          have gE : (((({ data := #[75, 83, 78] } : ByteArray)[2]'(by decide)).toNat : Int) == f) = false := g1
          clear g1
          go_wp2_with fail
          go_roundw
          case rel => exact ⟨3, by simp, by omega, fun p hp => by
            by_cases hpq : p = 2
            · subst hpq; exact HG.out
            · exact HN.out p (by omega), HB.out⟩
          case measure => simp [intOf]
      · go_wp2_with fail
        exact bodyPost_ret (v := .bool false) (by simp [results, Try.results48, go_sem]) rfl ⟨by rw [HA.out false (by rw [show ((75 : Int) == f) = false from HN.out 0 (by omega)]; rw [show ((83 : Int) == f) = false from HN.out 1 (by omega)]; rw [show ((78 : Int) == f) = false from HN.out 2 (by omega)]; rfl)], HB.out⟩
  · have hall : ∀ b : Bool, b = (((82 : Int) == f)) → b = r := fun b h => by rw [HR.out, h]; simp [namesB, namesOf, Bool.or_assoc]
    have HA := Lib.hid hall
    clear hall
    go_enter Try.func48, Try.ntmps48
    go_wp2_with fail
    go_loopw [6] (fun i wr => ∃ j : Nat, i = .int .i64 j ∧ j ≤ 1 ∧ (∀ q, q < j → (([82] : List Int).getD q 0 == f) = false) ∧ Below w.heap.size w wr) (fun i _ => (2 - intOf i).toNat)
    case atStart => exact ⟨0, by simp, by omega, fun q hq => by omega, by first | exact (Below.refl _ w).alloc (Nat.le_refl _) _ | exact ((Below.refl _ w).alloc (Nat.le_refl _) _).drew⟩
    case round =>
      obtain ⟨j, rfl, hj, hno, hb⟩ := hrel
      have HB := Lib.hid hb
      have HN := Lib.hid hno
      clear hb hno
      have h3 : j = 0 ∨ j = 1 := by omega
      rcases h3 with rfl | rfl
      · by_cases hf : f = 82
        · have g1 : ((82 : Int) == f) = true := by simp [hf]
          have HG := Lib.hid g1
          have gE : (((({ data := #[82] } : ByteArray)[0]'(by decide)).toNat : Int) == f) = true := g1
          clear g1
          go_wp2_with fail
          exact bodyPost_ret (v := .bool true) (by simp [results, Try.results48, go_sem]) rfl ⟨by rw [HA.out true (by simp [HG.out])], HB.out⟩
        · have g1 : ((82 : Int) == f) = false := by simp; omega
          have HG := Lib.hid g1
          have gE : (((({ data := #[82] } : ByteArray)[0]'(by decide)).toNat : Int) == f) = false := g1
          clear g1
          go_wp2_with fail
          go_roundw
          case rel => exact ⟨1, by simp, by omega, fun p hp => by
            by_cases hpq : p = 0
            · subst hpq; exact HG.out
            · exact HN.out p (by omega), HB.out⟩
          case measure => simp [intOf]
      · go_wp2_with fail
        exact bodyPost_ret (v := .bool false) (by simp [results, Try.results48, go_sem]) rfl ⟨by rw [HA.out false (by rw [show ((82 : Int) == f) = false from HN.out 0 (by omega)])], HB.out⟩
  · have hall : ∀ b : Bool, b = (((82 : Int) == f)) → b = r := fun b h => by rw [HR.out, h]; simp [namesB, namesOf, Bool.or_assoc]
    have HA := Lib.hid hall
    clear hall
    go_enter Try.func48, Try.ntmps48
    go_wp2_with fail
    go_loopw [6] (fun i wr => ∃ j : Nat, i = .int .i64 j ∧ j ≤ 1 ∧ (∀ q, q < j → (([82] : List Int).getD q 0 == f) = false) ∧ Below w.heap.size w wr) (fun i _ => (2 - intOf i).toNat)
    case atStart => exact ⟨0, by simp, by omega, fun q hq => by omega, by first | exact (Below.refl _ w).alloc (Nat.le_refl _) _ | exact ((Below.refl _ w).alloc (Nat.le_refl _) _).drew⟩
    case round =>
      obtain ⟨j, rfl, hj, hno, hb⟩ := hrel
      have HB := Lib.hid hb
      have HN := Lib.hid hno
      clear hb hno
      have h3 : j = 0 ∨ j = 1 := by omega
      rcases h3 with rfl | rfl
      · by_cases hf : f = 82
        · have g1 : ((82 : Int) == f) = true := by simp [hf]
          have HG := Lib.hid g1
          have gE : (((({ data := #[82] } : ByteArray)[0]'(by decide)).toNat : Int) == f) = true := g1
          clear g1
          go_wp2_with fail
          exact bodyPost_ret (v := .bool true) (by simp [results, Try.results48, go_sem]) rfl ⟨by rw [HA.out true (by simp [HG.out])], HB.out⟩
        · have g1 : ((82 : Int) == f) = false := by simp; omega
          have HG := Lib.hid g1
          have gE : (((({ data := #[82] } : ByteArray)[0]'(by decide)).toNat : Int) == f) = false := g1
          clear g1
          go_wp2_with fail
          go_roundw
          case rel => exact ⟨1, by simp, by omega, fun p hp => by
            by_cases hpq : p = 0
            · subst hpq; exact HG.out
            · exact HN.out p (by omega), HB.out⟩
          case measure => simp [intOf]
      · go_wp2_with fail
        exact bodyPost_ret (v := .bool false) (by simp [results, Try.results48, go_sem]) rfl ⟨by rw [HA.out false (by rw [show ((82 : Int) == f) = false from HN.out 0 (by omega)])], HB.out⟩
  · have hall : ∀ b : Bool, b = (((82 : Int) == f) || ((86 : Int) == f)) → b = r := fun b h => by rw [HR.out, h]; simp [namesB, namesOf, Bool.or_assoc]
    have HA := Lib.hid hall
    clear hall
    go_enter Try.func48, Try.ntmps48
    go_wp2_with fail
    go_loopw [6] (fun i wr => ∃ j : Nat, i = .int .i64 j ∧ j ≤ 2 ∧ (∀ q, q < j → (([82, 86] : List Int).getD q 0 == f) = false) ∧ Below w.heap.size w wr) (fun i _ => (3 - intOf i).toNat)
    case atStart => exact ⟨0, by simp, by omega, fun q hq => by omega, by first | exact (Below.refl _ w).alloc (Nat.le_refl _) _ | exact ((Below.refl _ w).alloc (Nat.le_refl _) _).drew⟩
    case round =>
      obtain ⟨j, rfl, hj, hno, hb⟩ := hrel
      have HB := Lib.hid hb
      have HN := Lib.hid hno
      clear hb hno
      have h3 : j = 0 ∨ j = 1 ∨ j = 2 := by omega
      rcases h3 with rfl | rfl | rfl
      · by_cases hf : f = 82
        · have g1 : ((82 : Int) == f) = true := by simp [hf]
          have HG := Lib.hid g1
          have gE : (((({ data := #[82, 86] } : ByteArray)[0]'(by decide)).toNat : Int) == f) = true := g1
          clear g1
          go_wp2_with fail
          exact bodyPost_ret (v := .bool true) (by simp [results, Try.results48, go_sem]) rfl ⟨by rw [HA.out true (by simp [HG.out])], HB.out⟩
        · have g1 : ((82 : Int) == f) = false := by simp; omega
          have HG := Lib.hid g1
          have gE : (((({ data := #[82, 86] } : ByteArray)[0]'(by decide)).toNat : Int) == f) = false := g1
          clear g1
          go_wp2_with fail
          go_roundw
          case rel => exact ⟨1, by simp, by omega, fun p hp => by
            by_cases hpq : p = 0
            · subst hpq; exact HG.out
            · exact HN.out p (by omega), HB.out⟩
          case measure => simp [intOf]
      · by_cases hf : f = 86
        · have g1 : ((86 : Int) == f) = true := by simp [hf]
          have HG := Lib.hid g1
          have gE : (((({ data := #[82, 86] } : ByteArray)[1]'(by decide)).toNat : Int) == f) = true := g1
          clear g1
          go_wp2_with fail
          exact bodyPost_ret (v := .bool true) (by simp [results, Try.results48, go_sem]) rfl ⟨by rw [HA.out true (by rw [show ((82 : Int) == f) = false from HN.out 0 (by omega)]; simp [HG.out])], HB.out⟩
        · have g1 : ((86 : Int) == f) = false := by simp; omega
          have HG := Lib.hid g1
          have gE : (((({ data := #[82, 86] } : ByteArray)[1]'(by decide)).toNat : Int) == f) = false := g1
          clear g1
          go_wp2_with fail
          go_roundw
          case rel => exact ⟨2, by simp, by omega, fun p hp => by
            by_cases hpq : p = 1
            · subst hpq; exact HG.out
            · exact HN.out p (by omega), HB.out⟩
          case measure => simp [intOf]
      · go_wp2_with fail
        exact bodyPost_ret (v := .bool false) (by simp [results, Try.results48, go_sem]) rfl ⟨by rw [HA.out false (by rw [show ((82 : Int) == f) = false from HN.out 0 (by omega)]; rw [show ((86 : Int) == f) = false from HN.out 1 (by omega)]; rfl)], HB.out⟩
  · have hall : ∀ b : Bool, b = (((82 : Int) == f)) → b = r := fun b h => by rw [HR.out, h]; simp [namesB, namesOf, Bool.or_assoc]
    have HA := Lib.hid hall
    clear hall
    go_enter Try.func48, Try.ntmps48
    go_wp2_with fail
    go_loopw [6] (fun i wr => ∃ j : Nat, i = .int .i64 j ∧ j ≤ 1 ∧ (∀ q, q < j → (([82] : List Int).getD q 0 == f) = false) ∧ Below w.heap.size w wr) (fun i _ => (2 - intOf i).toNat)
    case atStart => exact ⟨0, by simp, by omega, fun q hq => by omega, by first | exact (Below.refl _ w).alloc (Nat.le_refl _) _ | exact ((Below.refl _ w).alloc (Nat.le_refl _) _).drew⟩
    case round =>
      obtain ⟨j, rfl, hj, hno, hb⟩ := hrel
      have HB := Lib.hid hb
      have HN := Lib.hid hno
      clear hb hno
      have h3 : j = 0 ∨ j = 1 := by omega
      rcases h3 with rfl | rfl
      · by_cases hf : f = 82
        · have g1 : ((82 : Int) == f) = true := by simp [hf]
          have HG := Lib.hid g1
          have gE : (((({ data := #[82] } : ByteArray)[0]'(by decide)).toNat : Int) == f) = true := g1
          clear g1
          go_wp2_with fail
          exact bodyPost_ret (v := .bool true) (by simp [results, Try.results48, go_sem]) rfl ⟨by rw [HA.out true (by simp [HG.out])], HB.out⟩
        · have g1 : ((82 : Int) == f) = false := by simp; omega
          have HG := Lib.hid g1
          have gE : (((({ data := #[82] } : ByteArray)[0]'(by decide)).toNat : Int) == f) = false := g1
          clear g1
          go_wp2_with fail
          go_roundw
          case rel => exact ⟨1, by simp, by omega, fun p hp => by
            by_cases hpq : p = 0
            · subst hpq; exact HG.out
            · exact HN.out p (by omega), HB.out⟩
          case measure => simp [intOf]
      · go_wp2_with fail
        exact bodyPost_ret (v := .bool false) (by simp [results, Try.results48, go_sem]) rfl ⟨by rw [HA.out false (by rw [show ((82 : Int) == f) = false from HN.out 0 (by omega)])], HB.out⟩
  · have hall : ∀ b : Bool, b = (((75 : Int) == f) || ((84 : Int) == f) || ((76 : Int) == f) || ((78 : Int) == f)) → b = r := fun b h => by rw [HR.out, h]; simp [namesB, namesOf, Bool.or_assoc]
    have HA := Lib.hid hall
    clear hall
    go_enter Try.func48, Try.ntmps48
    go_wp2_with fail
    go_loopw [6] (fun i wr => ∃ j : Nat, i = .int .i64 j ∧ j ≤ 4 ∧ (∀ q, q < j → (([75, 84, 76, 78] : List Int).getD q 0 == f) = false) ∧ Below w.heap.size w wr) (fun i _ => (5 - intOf i).toNat)
    case atStart => exact ⟨0, by simp, by omega, fun q hq => by omega, by first | exact (Below.refl _ w).alloc (Nat.le_refl _) _ | exact ((Below.refl _ w).alloc (Nat.le_refl _) _).drew⟩
    case round =>
      obtain ⟨j, rfl, hj, hno, hb⟩ := hrel
      have HB := Lib.hid hb
      have HN := Lib.hid hno
      clear hb hno
      have h3 : j = 0 ∨ j = 1 ∨ j = 2 ∨ j = 3 ∨ j = 4 := by omega
      rcases h3 with rfl | rfl | rfl | rfl | rfl
      · by_cases hf : f = 75
        · have g1 : ((75 : Int) == f) = true := by simp [hf]
          have HG := Lib.hid g1
          have gE : (((({ data := #[75, 84, 76, 78] } : ByteArray)[0]'(by decide)).toNat : Int) == f) = true := g1
          clear g1
          go_wp2_with fail
          exact bodyPost_ret (v := .bool true) (by simp [results, Try.results48, go_sem]) rfl ⟨by rw [HA.out true (by simp [HG.out])], HB.out⟩
        · have g1 : ((75 : Int) == f) = false := by simp; omega
          have HG := Lib.hid g1
          have gE : (((({ data := #[75, 84, 76, 78] } : ByteArray)[0]'(by decide)).toNat : Int) == f) = false := g1
          clear g1
          go_wp2_with fail
          go_roundw
          case rel => exact ⟨1, by simp, by omega, fun p hp => by
            by_cases hpq : p = 0
            · subst hpq; exact HG.out
            · exact HN.out p (by omega), HB.out⟩
          case measure => simp [intOf]
      · by_cases hf : f = 84
        · have g1 : ((84 : Int) == f) = true := by simp [hf]
          have HG := Lib.hid g1
          have gE : (((({ data := #[75, 84, 76, 78] } : ByteArray)[1]'(by decide)).toNat : Int) == f) = true := g1
          clear g1
          go_wp2_with fail
          exact bodyPost_ret (v := .bool true) (by simp [results, Try.results48, go_sem]) rfl ⟨by rw [HA.out true (by rw [show ((75 : Int) == f) = false from HN.out 0 (by omega)]; simp [HG.out])], HB.out⟩
        · have g1 : ((84 : Int) == f) = false := by simp; omega
          have HG := Lib.hid g1
          have gE : (((({ data := #[75, 84, 76, 78] } : ByteArray)[1]'(by decide)).toNat : Int) == f) = false := g1
          clear g1
          go_wp2_with fail
          go_roundw
          case rel => exact ⟨2, by simp, by omega, fun p hp => by
            by_cases hpq : p = 1
            · subst hpq; exact HG.out
            · exact HN.out p (by omega), HB.out⟩
          case measure => simp [intOf]
      · by_cases hf : f = 76
        · have g1 : ((76 : Int) == f) = true := by simp [hf]
          have HG := Lib.hid g1
          have gE : (((({ data := #[75, 84, 76, 78] } : ByteArray)[2]'(by decide)).toNat : Int) == f) = true := g1
          clear g1
          go_wp2_with fail
          exact bodyPost_ret (v := .bool true) (by simp [results, Try.results48, go_sem]) rfl ⟨by rw [HA.out true (by rw [show ((75 : Int) == f) = false from HN.out 0 (by omega)]; rw [show ((84 : Int) == f) = false from HN.out 1 (by omega)]; simp [HG.out])], HB.out⟩
        · have g1 : ((76 : Int) == f) = false := by simp; omega
          have HG := Lib.hid g1
          have gE : (((({ data := #[75, 84, 76, 78] } : ByteArray)[2]'(by decide)).toNat : Int) == f) = false := g1
          clear g1
          go_wp2_with fail
          go_roundw
          case rel => exact ⟨3, by simp, by omega, fun p hp => by
            by_cases hpq : p = 2
            · subst hpq; exact HG.out
            · exact HN.out p (by omega), HB.out⟩
          case measure => simp [intOf]
      · by_cases hf : f = 78
        · have g1 : ((78 : Int) == f) = true := by simp [hf]
          have HG := Lib.hid g1
          have gE : (((({ data := #[75, 84, 76, 78] } : ByteArray)[3]'(by decide)).toNat : Int) == f) = true := g1
          clear g1
          go_wp2_with fail
          exact bodyPost_ret (v := .bool true) (by simp [results, Try.results48, go_sem]) rfl ⟨by rw [HA.out true (by rw [show ((75 : Int) == f) = false from HN.out 0 (by omega)]; rw [show ((84 : Int) == f) = false from HN.out 1 (by omega)]; rw [show ((76 : Int) == f) = false from HN.out 2 (by omega)]; simp [HG.out])], HB.out⟩
        · have g1 : ((78 : Int) == f) = false := by simp; omega
          have HG := Lib.hid g1
          have gE : (((({ data := #[75, 84, 76, 78] } : ByteArray)[3]'(by decide)).toNat : Int) == f) = false := g1
          clear g1
          go_wp2_with fail
          go_roundw
          case rel => exact ⟨4, by simp, by omega, fun p hp => by
            by_cases hpq : p = 3
            · subst hpq; exact HG.out
            · exact HN.out p (by omega), HB.out⟩
          case measure => simp [intOf]
      · go_wp2_with fail
        exact bodyPost_ret (v := .bool false) (by simp [results, Try.results48, go_sem]) rfl ⟨by rw [HA.out false (by rw [show ((75 : Int) == f) = false from HN.out 0 (by omega)]; rw [show ((84 : Int) == f) = false from HN.out 1 (by omega)]; rw [show ((76 : Int) == f) = false from HN.out 2 (by omega)]; rw [show ((78 : Int) == f) = false from HN.out 3 (by omega)]; rfl)], HB.out⟩
  · have hall : ∀ b : Bool, b = (((75 : Int) == f)) → b = r := fun b h => by rw [HR.out, h]; simp [namesB, namesOf, Bool.or_assoc]
    have HA := Lib.hid hall
    clear hall
    go_enter Try.func48, Try.ntmps48
    go_wp2_with fail
    go_loopw [6] (fun i wr => ∃ j : Nat, i = .int .i64 j ∧ j ≤ 1 ∧ (∀ q, q < j → (([75] : List Int).getD q 0 == f) = false) ∧ Below w.heap.size w wr) (fun i _ => (2 - intOf i).toNat)
    case atStart => exact ⟨0, by simp, by omega, fun q hq => by omega, by first | exact (Below.refl _ w).alloc (Nat.le_refl _) _ | exact ((Below.refl _ w).alloc (Nat.le_refl _) _).drew⟩
    case round =>
      obtain ⟨j, rfl, hj, hno, hb⟩ := hrel
      have HB := Lib.hid hb
      have HN := Lib.hid hno
      clear hb hno
      have h3 : j = 0 ∨ j = 1 := by omega
      rcases h3 with rfl | rfl
      · by_cases hf : f = 75
        · have g1 : ((75 : Int) == f) = true := by simp [hf]
          have HG := Lib.hid g1
          have gE : (((({ data := #[75] } : ByteArray)[0]'(by decide)).toNat : Int) == f) = true := g1
          clear g1
          go_wp2_with fail
          exact bodyPost_ret (v := .bool true) (by simp [results, Try.results48, go_sem]) rfl ⟨by rw [HA.out true (by simp [HG.out])], HB.out⟩
        · have g1 : ((75 : Int) == f) = false := by simp; omega
          have HG := Lib.hid g1
          have gE : (((({ data := #[75] } : ByteArray)[0]'(by decide)).toNat : Int) == f) = false := g1
          clear g1
          go_wp2_with fail
          go_roundw
          case rel => exact ⟨1, by simp, by omega, fun p hp => by
            by_cases hpq : p = 0
            · subst hpq; exact HG.out
            · exact HN.out p (by omega), HB.out⟩
          case measure => simp [intOf]
      · go_wp2_with fail
        exact bodyPost_ret (v := .bool false) (by simp [results, Try.results48, go_sem]) rfl ⟨by rw [HA.out false (by rw [show ((75 : Int) == f) = false from HN.out 0 (by omega)])], HB.out⟩
  · have hall : ∀ b : Bool, b = (((75 : Int) == f)) → b = r := fun b h => by rw [HR.out, h]; simp [namesB, namesOf, Bool.or_assoc]
    have HA := Lib.hid hall
    clear hall
    go_enter Try.func48, Try.ntmps48
    go_wp2_with fail
    go_loopw [6] (fun i wr => ∃ j : Nat, i = .int .i64 j ∧ j ≤ 1 ∧ (∀ q, q < j → (([75] : List Int).getD q 0 == f) = false) ∧ Below w.heap.size w wr) (fun i _ => (2 - intOf i).toNat)
    case atStart => exact ⟨0, by simp, by omega, fun q hq => by omega, by first | exact (Below.refl _ w).alloc (Nat.le_refl _) _ | exact ((Below.refl _ w).alloc (Nat.le_refl _) _).drew⟩
    case round =>
      obtain ⟨j, rfl, hj, hno, hb⟩ := hrel
      have HB := Lib.hid hb
      have HN := Lib.hid hno
      clear hb hno
      have h3 : j = 0 ∨ j = 1 := by omega
      rcases h3 with rfl | rfl
      · by_cases hf : f = 75
        · have g1 : ((75 : Int) == f) = true := by simp [hf]
          have HG := Lib.hid g1
          have gE : (((({ data := #[75] } : ByteArray)[0]'(by decide)).toNat : Int) == f) = true := g1
          clear g1
          go_wp2_with fail
          exact bodyPost_ret (v := .bool true) (by simp [results, Try.results48, go_sem]) rfl ⟨by rw [HA.out true (by simp [HG.out])], HB.out⟩
        · have g1 : ((75 : Int) == f) = false := by simp; omega
          have HG := Lib.hid g1
          have gE : (((({ data := #[75] } : ByteArray)[0]'(by decide)).toNat : Int) == f) = false := g1
          clear g1
          go_wp2_with fail
          go_roundw
          case rel => exact ⟨1, by simp, by omega, fun p hp => by
            by_cases hpq : p = 0
            · subst hpq; exact HG.out
            · exact HN.out p (by omega), HB.out⟩
          case measure => simp [intOf]
      · go_wp2_with fail
        exact bodyPost_ret (v := .bool false) (by simp [results, Try.results48, go_sem]) rfl ⟨by rw [HA.out false (by rw [show ((75 : Int) == f) = false from HN.out 0 (by omega)])], HB.out⟩
end Go.Proofs.Ytbndegkgpoemnaa
