/-
  Digests as strings, compared.
-/
import Derived.Test.YtcfcfijmfgnpfaaGreatDoorPj2
import Derived.Laws.BytesArg
namespace Go.Proofs.YtcfcfijmfgnpfaaGreatDoor
open Go.RowKit Go.Maps
set_option linter.unusedVariables false
set_option linter.unusedSimpArgs false

def cvS (v : Value) : Sem Value := convert 75 9 v
theorem cvS_hide (v : Value) : convert 75 9 v = cvS v := rfl
def geS (x y : Value) : Sem Value := binOp .geq 9 x y
theorem geS_hide (x y : Value) : binOp .geq 9 x y = geS x y := rfl
theorem u8s_lt {a b : Nat} (ha : a < 256) (hb : b < 256) : (UInt8.ofNat a < UInt8.ofNat b) ↔ a < b := by
  rw [UInt8.lt_iff_toNat_lt]
  simp [UInt8.toNat_ofNat, Nat.mod_eq_of_lt ha, Nat.mod_eq_of_lt hb]
theorem u8s_eq {a b : Nat} (ha : a < 256) (hb : b < 256) : (UInt8.ofNat a = UInt8.ofNat b) ↔ a = b := by
  constructor
  · intro h
    have := congrArg UInt8.toNat h
    simpa [UInt8.toNat_ofNat, Nat.mod_eq_of_lt ha, Nat.mod_eq_of_lt hb] using this
  · rintro rfl; rfl
theorem bytesLess_lex : ∀ {a b : List Nat}, (∀ x ∈ a, x < 256) → (∀ x ∈ b, x < 256) → Op.bytesLess (a.map UInt8.ofNat) (b.map UInt8.ofNat) = lexN a b
  | [], [], _, _ => by simp [Op.bytesLess, lexN]
  | _ :: _, [], _, _ => by simp [Op.bytesLess, lexN]
  | [], _ :: _, _, _ => by simp [Op.bytesLess, lexN]
  | a :: x, b :: y, ha, hb => by
    have h1 := ha a List.mem_cons_self
    have h2 := hb b List.mem_cons_self
    have ih := bytesLess_lex (a := x) (b := y) (fun z hz => ha z (List.mem_cons_of_mem _ hz)) (fun z hz => hb z (List.mem_cons_of_mem _ hz))
    simp only [List.map_cons, Op.bytesLess, lexN, ih]
    have e1 : decide (UInt8.ofNat a < UInt8.ofNat b) = decide (a < b) := by simp only [u8s_lt h1 h2]
    have e2 : (UInt8.ofNat a == UInt8.ofNat b) = decide (a = b) := by
      rw [Bool.eq_iff_iff]; simp [u8s_eq h1 h2]
    rw [e1, e2]
theorem run_cvS {w : World} {b off : Nat} {d : Dg} (h : w.rangeAt b off (Bs d.s)) : (cvS (.slice (some ⟨b, off, none⟩) 32 32)).run Tryz.prog w = .ok (.string (strN d.s)) w := by
  have q := run_convert_bytes_arg (P := Tryz.prog) w 75 5 Tryz.underlying75 Tryz.underlying5 b off 32 32 (d.s.map fun n : Nat => (n : Int)) (by simp [d.len]) (fun i hi => by
    have h1 : i < d.s.length := by rw [d.len]; exact hi
    refine h i _ ?_
    simp [Bs, List.getD_eq_getElem?_getD, List.getElem?_eq_getElem h1]) 9 Tryz.underlying9
  have e : strOfNums (d.s.map fun n : Nat => (n : Int)) = strN d.s := by
    unfold strOfNums strN
    rw [List.map_map]
    simp only [Function.comp_def, Int.toNat_natCast]
  rw [e] at q
  exact q
theorem run_geS {x y : Dg} (h : dlt x y) (w : World) : (geS (.string (strN x.s)) (.string (strN y.s))).run Tryz.prog w = .ok (.bool false) w := by
  have q : (geS (.string (strN x.s)) (.string (strN y.s))).run Tryz.prog w = .ok (.bool (!Op.bytesLess (strN x.s).toList (strN y.s).toList)) w := by kernel_rfl
  rw [q, strN_toList, strN_toList, bytesLess_lex x.lt y.lt, h]
  rfl
end Go.Proofs.YtcfcfijmfgnpfaaGreatDoor
