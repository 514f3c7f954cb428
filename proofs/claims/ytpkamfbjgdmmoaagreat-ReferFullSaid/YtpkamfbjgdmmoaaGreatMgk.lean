/-
  Joined texts.
-/
import Derived.Shelf.SlIterI.Nil
import Derived.Shelf.SortM.Plain
import Derived.Shelf.SortM.SortNone
import Derived.Ground.GgzProg
import Derived.Ground.SlgmProg
import Derived.Shelf.SlGeneric
import Derived.Test.YtpkamfbjgdmmoaaGreatProg
import Derived.Test.YtpkamfbjgdmmoaaGreatMgj

section
namespace Go.Proofs.YtpkamfbjgdmmoaaGreat
open Go.RowKit Go.Maps Go.Shelf
set_option linter.unusedVariables false
set_option linter.unusedSimpArgs false

/-- Whose deposits come back. -/
def subB (x : Rfm) (a : Int) : Bool := x.put && (x.who == a)
def bakB (x : Rfm) (a : Int) : Bool := x.bk == a
def rfdE (R : List Rfm) (a ref : Int) : Int :=
  if refHas R ref = false then 4 else if (refAt R ref).st = 1 then 9 else if a < 0 ∨ (subB (refAt R ref) a = false ∧ bakB (refAt R ref) a = false) then 8 else 0
def rfdX (x : Rfm) (a : Int) : Rfm := { x with put := if subB x a then false else x.put, bk := if bakB x a then -1 else x.bk }
def rfdA1 (A : Acc) (x : Rfm) (a : Int) : Acc := if subB x a then unheld A a 10 a else A
def rfdA2 (A : Acc) (x : Rfm) (a dep : Int) : Acc := if bakB x a then unheld (rfdA1 A x a) a dep a else rfdA1 A x a
def rfdR (R : List Rfm) (a ref : Int) : List Rfm := if rfdE R a ref = 0 then R.set ref.toNat (rfdX (refAt R ref) a) else R
def rfdA (ts : List Trk) (R : List Rfm) (A : Acc) (a ref : Int) : Acc := if rfdE R a ref = 0 then rfdA2 A (refAt R ref) a (trkAt ts (refAt R ref).tr).dep else A
section
variable {r g vb N : Nat} {ts : List Trk} {R : List Rfm} {S : Vs} {A : Acc} {M : Cls Int} {Z : FP} {w : World}
set_option maxRecDepth 100000 in
set_option maxHeartbeats 4000000 in
attribute [local go_sem ↓] loadSt_R_hide in
theorem refund_4f (h : RvAt r g vb N ts R S A M Z w) {x : Rfm} {a ref : Int} (hong : Calls Tryz.prog 21 #[.pointer (some ⟨r, 0, none⟩), .int .i64 ref] w fun e w' => e = .returned (.tuple #[.agg (rfS.f x).toArray, .bool false]) ∧ Below w.heap.size w w') (hp : x.put = false)  :
    Calls Tryz.prog 23 #[.pointer (some ⟨r, 0, none⟩), .pointer (some ⟨g, 0, none⟩), .int .i64 a, .int .i64 ref] w fun e w' => e = .returned (.int .i64 4) ∧ RvTo r g vb N ts R S A M Z w w' := by
  have hks : ∀ w2, Below w.heap.size w w2 → KS r g vb N ts Z w w2.heap.size R S A M x [] (.slice none 0 0) (w2.alloc (rfS.obj x)) := fun w2 hb => KS.start h hb x
  obtain ⟨bk, hbk⟩ : ∃ bk, bk = x.bk := ⟨_, rfl⟩
  obtain ⟨who, hwho⟩ : ∃ who, who = x.who := ⟨_, rfl⟩
  obtain ⟨st, hst⟩ : ∃ st, st = x.st := ⟨_, rfl⟩
  have HX := Lib.hid (show x.st = st ∧ x.who = who ∧ x.put = false ∧ x.bk = bk from ⟨hst.symm, hwho.symm, hp, hbk.symm⟩)
  have HK := Lib.hid hks
  have HO := Lib.hid hong
  clear h hong hks hp hbk hwho hst
  go_enter Tryz.func23, Tryz.ntmps23
  go_upto_region 4 with (first
    | (go_at_call 21; refine HO.out.mono ?_; rintro e w2 ⟨rfl, hb⟩; have H2 := Lib.hid hb; clear hb)
    | (refine wpl_allocS (s := rfS) rfl rfl rfl ?_)
    | (refine wpl_storeS (s := rfS) (t := x) (b := w2.heap.size) _ _ rfl rfl rfl rfl rfl (World.alloc_heap_new w2 _) (zeroS rfS) ?_; rw [newS])
    | fail)
  obtain ⟨w3, hw3⟩ : ∃ w3, w3 = w2.alloc (rfS.obj x) := ⟨_, rfl⟩
  obtain ⟨b9, hb9⟩ : ∃ b9, b9 = w2.heap.size := ⟨_, rfl⟩
  have k3 := HK.out w2 H2.out
  rw [← hw3, ← hb9] at k3 ⊢
  have K3 := Lib.hid k3
  obtain ⟨c0, c1, c36, c37, c38, c40, fz, ld⟩ := k3.cells
  rw [HX.out.1] at c0
  rw [HX.out.2.1] at c36
  rw [HX.out.2.2.1] at c37
  rw [HX.out.2.2.2] at c38
  clear k3 hw3 hb9 c1 c40 ld
  go_quiet (fail)
  go_wp2_with fail
  go_ret
  exact ⟨rfl, (K3.out.below (below_dn (Below.refl _ _) _)).fin.1⟩
set_option maxRecDepth 100000 in
set_option maxHeartbeats 4000000 in
attribute [local go_sem ↓] loadSt_R_hide in
theorem refund_9t (h : RvAt r g vb N ts R S A M Z w) {x : Rfm} {a ref : Int} (hong : Calls Tryz.prog 21 #[.pointer (some ⟨r, 0, none⟩), .int .i64 ref] w fun e w' => e = .returned (.tuple #[.agg (rfS.f x).toArray, .bool true]) ∧ Below w.heap.size w w') (hp : x.put = true) (h9 : x.st = 1) :
    Calls Tryz.prog 23 #[.pointer (some ⟨r, 0, none⟩), .pointer (some ⟨g, 0, none⟩), .int .i64 a, .int .i64 ref] w fun e w' => e = .returned (.int .i64 9) ∧ RvTo r g vb N ts R S A M Z w w' := by
  have hks : ∀ w2, Below w.heap.size w w2 → KS r g vb N ts Z w w2.heap.size R S A M x [] (.slice none 0 0) (w2.alloc (rfS.obj x)) := fun w2 hb => KS.start h hb x
  obtain ⟨bk, hbk⟩ : ∃ bk, bk = x.bk := ⟨_, rfl⟩
  obtain ⟨who, hwho⟩ : ∃ who, who = x.who := ⟨_, rfl⟩
  obtain ⟨st, hst⟩ : ∃ st, st = x.st := ⟨_, rfl⟩
  have HX := Lib.hid (show x.st = st ∧ x.who = who ∧ x.put = true ∧ x.bk = bk from ⟨hst.symm, hwho.symm, hp, hbk.symm⟩)
  have q9 : (st == 1) = true := by rw [hst]; simpa using h9
  have HK := Lib.hid hks
  have HO := Lib.hid hong
  clear h hong hks hp hbk hwho hst h9
  go_enter Tryz.func23, Tryz.ntmps23
  go_upto_region 4 with (first
    | (go_at_call 21; refine HO.out.mono ?_; rintro e w2 ⟨rfl, hb⟩; have H2 := Lib.hid hb; clear hb)
    | (refine wpl_allocS (s := rfS) rfl rfl rfl ?_)
    | (refine wpl_storeS (s := rfS) (t := x) (b := w2.heap.size) _ _ rfl rfl rfl rfl rfl (World.alloc_heap_new w2 _) (zeroS rfS) ?_; rw [newS])
    | fail)
  obtain ⟨w3, hw3⟩ : ∃ w3, w3 = w2.alloc (rfS.obj x) := ⟨_, rfl⟩
  obtain ⟨b9, hb9⟩ : ∃ b9, b9 = w2.heap.size := ⟨_, rfl⟩
  have k3 := HK.out w2 H2.out
  rw [← hw3, ← hb9] at k3 ⊢
  have K3 := Lib.hid k3
  obtain ⟨c0, c1, c36, c37, c38, c40, fz, ld⟩ := k3.cells
  rw [HX.out.1] at c0
  rw [HX.out.2.1] at c36
  rw [HX.out.2.2.1] at c37
  rw [HX.out.2.2.2] at c38
  clear k3 hw3 hb9 c1 c40 ld
  go_quiet (fail)
  go_wp2_with fail
  go_ret
  exact ⟨rfl, (K3.out.below (below_dn (Below.refl _ _) _)).fin.1⟩
set_option maxRecDepth 100000 in
set_option maxHeartbeats 4000000 in
attribute [local go_sem ↓] loadSt_R_hide in
theorem refund_9f (h : RvAt r g vb N ts R S A M Z w) {x : Rfm} {a ref : Int} (hong : Calls Tryz.prog 21 #[.pointer (some ⟨r, 0, none⟩), .int .i64 ref] w fun e w' => e = .returned (.tuple #[.agg (rfS.f x).toArray, .bool true]) ∧ Below w.heap.size w w') (hp : x.put = false) (h9 : x.st = 1) :
    Calls Tryz.prog 23 #[.pointer (some ⟨r, 0, none⟩), .pointer (some ⟨g, 0, none⟩), .int .i64 a, .int .i64 ref] w fun e w' => e = .returned (.int .i64 9) ∧ RvTo r g vb N ts R S A M Z w w' := by
  have hks : ∀ w2, Below w.heap.size w w2 → KS r g vb N ts Z w w2.heap.size R S A M x [] (.slice none 0 0) (w2.alloc (rfS.obj x)) := fun w2 hb => KS.start h hb x
  obtain ⟨bk, hbk⟩ : ∃ bk, bk = x.bk := ⟨_, rfl⟩
  obtain ⟨who, hwho⟩ : ∃ who, who = x.who := ⟨_, rfl⟩
  obtain ⟨st, hst⟩ : ∃ st, st = x.st := ⟨_, rfl⟩
  have HX := Lib.hid (show x.st = st ∧ x.who = who ∧ x.put = false ∧ x.bk = bk from ⟨hst.symm, hwho.symm, hp, hbk.symm⟩)
  have q9 : (st == 1) = true := by rw [hst]; simpa using h9
  have HK := Lib.hid hks
  have HO := Lib.hid hong
  clear h hong hks hp hbk hwho hst h9
  go_enter Tryz.func23, Tryz.ntmps23
  go_upto_region 4 with (first
    | (go_at_call 21; refine HO.out.mono ?_; rintro e w2 ⟨rfl, hb⟩; have H2 := Lib.hid hb; clear hb)
    | (refine wpl_allocS (s := rfS) rfl rfl rfl ?_)
    | (refine wpl_storeS (s := rfS) (t := x) (b := w2.heap.size) _ _ rfl rfl rfl rfl rfl (World.alloc_heap_new w2 _) (zeroS rfS) ?_; rw [newS])
    | fail)
  obtain ⟨w3, hw3⟩ : ∃ w3, w3 = w2.alloc (rfS.obj x) := ⟨_, rfl⟩
  obtain ⟨b9, hb9⟩ : ∃ b9, b9 = w2.heap.size := ⟨_, rfl⟩
  have k3 := HK.out w2 H2.out
  rw [← hw3, ← hb9] at k3 ⊢
  have K3 := Lib.hid k3
  obtain ⟨c0, c1, c36, c37, c38, c40, fz, ld⟩ := k3.cells
  rw [HX.out.1] at c0
  rw [HX.out.2.1] at c36
  rw [HX.out.2.2.1] at c37
  rw [HX.out.2.2.2] at c38
  clear k3 hw3 hb9 c1 c40 ld
  go_quiet (fail)
  go_wp2_with fail
  go_ret
  exact ⟨rfl, (K3.out.below (below_dn (Below.refl _ _) _)).fin.1⟩
set_option maxRecDepth 100000 in
set_option maxHeartbeats 4000000 in
attribute [local go_sem ↓] loadSt_R_hide in
theorem refund_8at (h : RvAt r g vb N ts R S A M Z w) {x : Rfm} {a ref : Int} (hong : Calls Tryz.prog 21 #[.pointer (some ⟨r, 0, none⟩), .int .i64 ref] w fun e w' => e = .returned (.tuple #[.agg (rfS.f x).toArray, .bool true]) ∧ Below w.heap.size w w') (hp : x.put = true) (h9 : x.st ≠ 1) (ha : a < 0) :
    Calls Tryz.prog 23 #[.pointer (some ⟨r, 0, none⟩), .pointer (some ⟨g, 0, none⟩), .int .i64 a, .int .i64 ref] w fun e w' => e = .returned (.int .i64 8) ∧ RvTo r g vb N ts R S A M Z w w' := by
  have hks : ∀ w2, Below w.heap.size w w2 → KS r g vb N ts Z w w2.heap.size R S A M x [] (.slice none 0 0) (w2.alloc (rfS.obj x)) := fun w2 hb => KS.start h hb x
  obtain ⟨bk, hbk⟩ : ∃ bk, bk = x.bk := ⟨_, rfl⟩
  obtain ⟨who, hwho⟩ : ∃ who, who = x.who := ⟨_, rfl⟩
  obtain ⟨st, hst⟩ : ∃ st, st = x.st := ⟨_, rfl⟩
  have HX := Lib.hid (show x.st = st ∧ x.who = who ∧ x.put = true ∧ x.bk = bk from ⟨hst.symm, hwho.symm, hp, hbk.symm⟩)
  have q9 : (st == 1) = false := by rw [hst]; simpa using h9
  have qa : decide (a < 0) = true := decide_eq_true ha
  have HK := Lib.hid hks
  have HO := Lib.hid hong
  clear h hong hks hp hbk hwho hst h9 ha
  go_enter Tryz.func23, Tryz.ntmps23
  go_upto_region 4 with (first
    | (go_at_call 21; refine HO.out.mono ?_; rintro e w2 ⟨rfl, hb⟩; have H2 := Lib.hid hb; clear hb)
    | (refine wpl_allocS (s := rfS) rfl rfl rfl ?_)
    | (refine wpl_storeS (s := rfS) (t := x) (b := w2.heap.size) _ _ rfl rfl rfl rfl rfl (World.alloc_heap_new w2 _) (zeroS rfS) ?_; rw [newS])
    | fail)
  obtain ⟨w3, hw3⟩ : ∃ w3, w3 = w2.alloc (rfS.obj x) := ⟨_, rfl⟩
  obtain ⟨b9, hb9⟩ : ∃ b9, b9 = w2.heap.size := ⟨_, rfl⟩
  have k3 := HK.out w2 H2.out
  rw [← hw3, ← hb9] at k3 ⊢
  have K3 := Lib.hid k3
  obtain ⟨c0, c1, c36, c37, c38, c40, fz, ld⟩ := k3.cells
  rw [HX.out.1] at c0
  rw [HX.out.2.1] at c36
  rw [HX.out.2.2.1] at c37
  rw [HX.out.2.2.2] at c38
  clear k3 hw3 hb9 c1 c40 ld
  go_quiet (fail)
  go_wp2_with fail
  go_ret
  exact ⟨rfl, (K3.out.below (below_dn (Below.refl _ _) _)).fin.1⟩
set_option maxRecDepth 100000 in
set_option maxHeartbeats 4000000 in
attribute [local go_sem ↓] loadSt_R_hide in
theorem refund_8af (h : RvAt r g vb N ts R S A M Z w) {x : Rfm} {a ref : Int} (hong : Calls Tryz.prog 21 #[.pointer (some ⟨r, 0, none⟩), .int .i64 ref] w fun e w' => e = .returned (.tuple #[.agg (rfS.f x).toArray, .bool true]) ∧ Below w.heap.size w w') (hp : x.put = false) (h9 : x.st ≠ 1) (ha : a < 0) :
    Calls Tryz.prog 23 #[.pointer (some ⟨r, 0, none⟩), .pointer (some ⟨g, 0, none⟩), .int .i64 a, .int .i64 ref] w fun e w' => e = .returned (.int .i64 8) ∧ RvTo r g vb N ts R S A M Z w w' := by
  have hks : ∀ w2, Below w.heap.size w w2 → KS r g vb N ts Z w w2.heap.size R S A M x [] (.slice none 0 0) (w2.alloc (rfS.obj x)) := fun w2 hb => KS.start h hb x
  obtain ⟨bk, hbk⟩ : ∃ bk, bk = x.bk := ⟨_, rfl⟩
  obtain ⟨who, hwho⟩ : ∃ who, who = x.who := ⟨_, rfl⟩
  obtain ⟨st, hst⟩ : ∃ st, st = x.st := ⟨_, rfl⟩
  have HX := Lib.hid (show x.st = st ∧ x.who = who ∧ x.put = false ∧ x.bk = bk from ⟨hst.symm, hwho.symm, hp, hbk.symm⟩)
  have q9 : (st == 1) = false := by rw [hst]; simpa using h9
  have qa : decide (a < 0) = true := decide_eq_true ha
  have HK := Lib.hid hks
  have HO := Lib.hid hong
  clear h hong hks hp hbk hwho hst h9 ha
  go_enter Tryz.func23, Tryz.ntmps23
  go_upto_region 4 with (first
    | (go_at_call 21; refine HO.out.mono ?_; rintro e w2 ⟨rfl, hb⟩; have H2 := Lib.hid hb; clear hb)
    | (refine wpl_allocS (s := rfS) rfl rfl rfl ?_)
    | (refine wpl_storeS (s := rfS) (t := x) (b := w2.heap.size) _ _ rfl rfl rfl rfl rfl (World.alloc_heap_new w2 _) (zeroS rfS) ?_; rw [newS])
    | fail)
  obtain ⟨w3, hw3⟩ : ∃ w3, w3 = w2.alloc (rfS.obj x) := ⟨_, rfl⟩
  obtain ⟨b9, hb9⟩ : ∃ b9, b9 = w2.heap.size := ⟨_, rfl⟩
  have k3 := HK.out w2 H2.out
  rw [← hw3, ← hb9] at k3 ⊢
  have K3 := Lib.hid k3
  obtain ⟨c0, c1, c36, c37, c38, c40, fz, ld⟩ := k3.cells
  rw [HX.out.1] at c0
  rw [HX.out.2.1] at c36
  rw [HX.out.2.2.1] at c37
  rw [HX.out.2.2.2] at c38
  clear k3 hw3 hb9 c1 c40 ld
  go_quiet (fail)
  go_wp2_with fail
  go_ret
  exact ⟨rfl, (K3.out.below (below_dn (Below.refl _ _) _)).fin.1⟩
set_option maxRecDepth 100000 in
set_option maxHeartbeats 4000000 in
attribute [local go_sem ↓] loadSt_R_hide in
theorem refund_8bt (h : RvAt r g vb N ts R S A M Z w) {x : Rfm} {a ref : Int} (hong : Calls Tryz.prog 21 #[.pointer (some ⟨r, 0, none⟩), .int .i64 ref] w fun e w' => e = .returned (.tuple #[.agg (rfS.f x).toArray, .bool true]) ∧ Below w.heap.size w w') (hp : x.put = true) (h9 : x.st ≠ 1) (hn : 0 ≤ a ∧ x.who ≠ a ∧ x.bk ≠ a) :
    Calls Tryz.prog 23 #[.pointer (some ⟨r, 0, none⟩), .pointer (some ⟨g, 0, none⟩), .int .i64 a, .int .i64 ref] w fun e w' => e = .returned (.int .i64 8) ∧ RvTo r g vb N ts R S A M Z w w' := by
  have hks : ∀ w2, Below w.heap.size w w2 → KS r g vb N ts Z w w2.heap.size R S A M x [] (.slice none 0 0) (w2.alloc (rfS.obj x)) := fun w2 hb => KS.start h hb x
  obtain ⟨bk, hbk⟩ : ∃ bk, bk = x.bk := ⟨_, rfl⟩
  obtain ⟨who, hwho⟩ : ∃ who, who = x.who := ⟨_, rfl⟩
  obtain ⟨st, hst⟩ : ∃ st, st = x.st := ⟨_, rfl⟩
  have HX := Lib.hid (show x.st = st ∧ x.who = who ∧ x.put = true ∧ x.bk = bk from ⟨hst.symm, hwho.symm, hp, hbk.symm⟩)
  have q9 : (st == 1) = false := by rw [hst]; simpa using h9
  have qa : decide (a < 0) = false := decide_eq_false (by omega)
  have qb : (bk == a) = false := by rw [hbk]; simpa using hn.2.2
  have qw : (who == a) = false := by rw [hwho]; simpa using hn.2.1
  have HK := Lib.hid hks
  have HO := Lib.hid hong
  clear h hong hks hp hbk hwho hst h9 hn
  go_enter Tryz.func23, Tryz.ntmps23
  go_upto_region 4 with (first
    | (go_at_call 21; refine HO.out.mono ?_; rintro e w2 ⟨rfl, hb⟩; have H2 := Lib.hid hb; clear hb)
    | (refine wpl_allocS (s := rfS) rfl rfl rfl ?_)
    | (refine wpl_storeS (s := rfS) (t := x) (b := w2.heap.size) _ _ rfl rfl rfl rfl rfl (World.alloc_heap_new w2 _) (zeroS rfS) ?_; rw [newS])
    | fail)
  obtain ⟨w3, hw3⟩ : ∃ w3, w3 = w2.alloc (rfS.obj x) := ⟨_, rfl⟩
  obtain ⟨b9, hb9⟩ : ∃ b9, b9 = w2.heap.size := ⟨_, rfl⟩
  have k3 := HK.out w2 H2.out
  rw [← hw3, ← hb9] at k3 ⊢
  have K3 := Lib.hid k3
  obtain ⟨c0, c1, c36, c37, c38, c40, fz, ld⟩ := k3.cells
  rw [HX.out.1] at c0
  rw [HX.out.2.1] at c36
  rw [HX.out.2.2.1] at c37
  rw [HX.out.2.2.2] at c38
  clear k3 hw3 hb9 c1 c40 ld
  go_quiet (fail)
  go_wp2_with fail
  go_ret
  exact ⟨rfl, (K3.out.below (below_dn (Below.refl _ _) _)).fin.1⟩
set_option maxRecDepth 100000 in
set_option maxHeartbeats 4000000 in
attribute [local go_sem ↓] loadSt_R_hide in
theorem refund_8bf (h : RvAt r g vb N ts R S A M Z w) {x : Rfm} {a ref : Int} (hong : Calls Tryz.prog 21 #[.pointer (some ⟨r, 0, none⟩), .int .i64 ref] w fun e w' => e = .returned (.tuple #[.agg (rfS.f x).toArray, .bool true]) ∧ Below w.heap.size w w') (hp : x.put = false) (h9 : x.st ≠ 1) (hn : 0 ≤ a ∧ x.bk ≠ a) :
    Calls Tryz.prog 23 #[.pointer (some ⟨r, 0, none⟩), .pointer (some ⟨g, 0, none⟩), .int .i64 a, .int .i64 ref] w fun e w' => e = .returned (.int .i64 8) ∧ RvTo r g vb N ts R S A M Z w w' := by
  have hks : ∀ w2, Below w.heap.size w w2 → KS r g vb N ts Z w w2.heap.size R S A M x [] (.slice none 0 0) (w2.alloc (rfS.obj x)) := fun w2 hb => KS.start h hb x
  obtain ⟨bk, hbk⟩ : ∃ bk, bk = x.bk := ⟨_, rfl⟩
  obtain ⟨who, hwho⟩ : ∃ who, who = x.who := ⟨_, rfl⟩
  obtain ⟨st, hst⟩ : ∃ st, st = x.st := ⟨_, rfl⟩
  have HX := Lib.hid (show x.st = st ∧ x.who = who ∧ x.put = false ∧ x.bk = bk from ⟨hst.symm, hwho.symm, hp, hbk.symm⟩)
  have q9 : (st == 1) = false := by rw [hst]; simpa using h9
  have qa : decide (a < 0) = false := decide_eq_false (by omega)
  have qb : (bk == a) = false := by rw [hbk]; simpa using hn.2
  have HK := Lib.hid hks
  have HO := Lib.hid hong
  clear h hong hks hp hbk hwho hst h9 hn
  go_enter Tryz.func23, Tryz.ntmps23
  go_upto_region 4 with (first
    | (go_at_call 21; refine HO.out.mono ?_; rintro e w2 ⟨rfl, hb⟩; have H2 := Lib.hid hb; clear hb)
    | (refine wpl_allocS (s := rfS) rfl rfl rfl ?_)
    | (refine wpl_storeS (s := rfS) (t := x) (b := w2.heap.size) _ _ rfl rfl rfl rfl rfl (World.alloc_heap_new w2 _) (zeroS rfS) ?_; rw [newS])
    | fail)
  obtain ⟨w3, hw3⟩ : ∃ w3, w3 = w2.alloc (rfS.obj x) := ⟨_, rfl⟩
  obtain ⟨b9, hb9⟩ : ∃ b9, b9 = w2.heap.size := ⟨_, rfl⟩
  have k3 := HK.out w2 H2.out
  rw [← hw3, ← hb9] at k3 ⊢
  have K3 := Lib.hid k3
  obtain ⟨c0, c1, c36, c37, c38, c40, fz, ld⟩ := k3.cells
  rw [HX.out.1] at c0
  rw [HX.out.2.1] at c36
  rw [HX.out.2.2.1] at c37
  rw [HX.out.2.2.2] at c38
  clear k3 hw3 hb9 c1 c40 ld
  go_quiet (fail)
  go_wp2_with fail
  go_ret
  exact ⟨rfl, (K3.out.below (below_dn (Below.refl _ _) _)).fin.1⟩
set_option maxRecDepth 100000 in
set_option maxHeartbeats 4000000 in
attribute [local go_sem ↓] loadSt_R_hide in
theorem refund_ok_tw (h : RvAt r g vb N ts R S A M Z w) {x : Rfm} {a ref : Int} (hong : Calls Tryz.prog 21 #[.pointer (some ⟨r, 0, none⟩), .int .i64 ref] w fun e w' => e = .returned (.tuple #[.agg (rfS.f x).toArray, .bool true]) ∧ Below w.heap.size w w') (hp : x.put = true) (h9 : x.st ≠ 1) (ha : 0 ≤ a) (hw : x.who = a) (hb : x.bk ≠ a) (hl : R.length ≤ 12) {k : Nat} (hk : k < R.length) (hr : ref = k) {tk : Nat} (htk : x.tr = tk) (htl : tk < ts.length) :
    Calls Tryz.prog 23 #[.pointer (some ⟨r, 0, none⟩), .pointer (some ⟨g, 0, none⟩), .int .i64 a, .int .i64 ref] w fun e w' => e = .returned (.int .i64 0) ∧ RvTo r g vb N ts (R.set k ({ x with put := false } : Rfm)) S (unheld A a 10 a) M Z w w' := by
  have hks : ∀ w2, Below w.heap.size w w2 → KS r g vb N ts Z w w2.heap.size R S A M x [] (.slice none 0 0) (w2.alloc (rfS.obj x)) := fun w2 hb => KS.start h hb x
  obtain ⟨bk, hbk⟩ : ∃ bk, bk = x.bk := ⟨_, rfl⟩
  obtain ⟨who, hwho⟩ : ∃ who, who = x.who := ⟨_, rfl⟩
  obtain ⟨st, hst⟩ : ∃ st, st = x.st := ⟨_, rfl⟩
  subst hr
  have HX := Lib.hid (show x.st = st ∧ x.who = who ∧ x.put = true ∧ x.bk = bk from ⟨hst.symm, hwho.symm, hp, hbk.symm⟩)
  have q9 : (st == 1) = false := by rw [hst]; simpa using h9
  have qa : decide (a < 0) = false := decide_eq_false (by omega)
  have qb : (bk == a) = false := by rw [hbk]; simpa using hb
  have qw : (who == a) = true := by rw [hwho]; simpa using hw
  have HK := Lib.hid hks
  have HO := Lib.hid hong
  have HL := Lib.hid (And.intro hk (And.intro hl htk))
  clear h hong hks hp hbk hwho hst h9 ha hw hb hl hk htk htl
  go_enter Tryz.func23, Tryz.ntmps23
  go_upto_region 4 with (first
    | (go_at_call 21; refine HO.out.mono ?_; rintro e w2 ⟨rfl, hb⟩; have H2 := Lib.hid hb; clear hb)
    | (refine wpl_allocS (s := rfS) rfl rfl rfl ?_)
    | (refine wpl_storeS (s := rfS) (t := x) (b := w2.heap.size) _ _ rfl rfl rfl rfl rfl (World.alloc_heap_new w2 _) (zeroS rfS) ?_; rw [newS])
    | fail)
  obtain ⟨w3, hw3⟩ : ∃ w3, w3 = w2.alloc (rfS.obj x) := ⟨_, rfl⟩
  obtain ⟨b9, hb9⟩ : ∃ b9, b9 = w2.heap.size := ⟨_, rfl⟩
  have k3 := HK.out w2 H2.out
  rw [← hw3, ← hb9] at k3 ⊢
  have K3 := Lib.hid k3
  obtain ⟨c0, c1, c36, c37, c38, c40, fz, ld⟩ := k3.cells
  rw [HX.out.1] at c0
  rw [HX.out.2.1] at c36
  rw [HX.out.2.2.1] at c37
  rw [HX.out.2.2.2] at c38
  clear k3 hw3 hb9 c1 c40 ld
  go_quiet (fail)
  have k4 := K3.out.below (below_dn (Below.refl _ _) nq)
  obtain ⟨w4, hw4⟩ : ∃ w4, w4 = w3.drewN nq := ⟨_, rfl⟩
  rw [← hw4] at k4 ⊢
  have K4 := Lib.hid k4
  obtain ⟨c0, c1, c36, c37, c38, c40, fz, ld⟩ := k4.cells
  rw [HX.out.1] at c0
  rw [HX.out.2.1] at c36
  rw [HX.out.2.2.1] at c37
  rw [HX.out.2.2.2] at c38
  rw [HL.out.2.2] at c1
  clear k4 hw4 ld
  go_upto_region 13 with (first
    | (go_at_call 66; refine (K4.out.release _ _).mono ?_; rintro e w5 ⟨rfl, hk⟩; have K5 := Lib.hid hk; clear hk)
    | fail)
  obtain ⟨c0, c1, c36, c37, c38, c40, fz, ld⟩ := K5.out.cells
  go_upto_region 14 with fail
  have k6 := K5.out.setCell (rf_set_put x false)
  obtain ⟨w6, hw6⟩ : ∃ w6, w6 = w5.setCell ⟨b9, 37, none⟩ (.bool false) := ⟨_, rfl⟩
  rw [← hw6] at k6 ⊢
  have K6 := Lib.hid k6
  obtain ⟨c0, c1, c36, c37, c38, c40, fz, ld⟩ := k6.cells
  rw [show ({ x with put := false } : Rfm).tr = tk from HL.out.2.2] at c1
  clear k6 hw6
  have hset := K6.out.set HL.out.1 HL.out.2.1 ({ x with put := false } : Rfm)
  have HSET := Lib.hid hset
  clear hset
  go_wp2_with (first
    | (go_at_call 41; refine HSET.out.mono ?_; rintro e wz ⟨rfl, hk⟩; have KZ := Lib.hid hk; clear hk)
    | fail)
  go_ret
  exact ⟨rfl, KZ.out.fin.1⟩
set_option maxRecDepth 100000 in
set_option maxHeartbeats 4000000 in
attribute [local go_sem ↓] loadSt_R_hide in
theorem refund_ok_twb (h : RvAt r g vb N ts R S A M Z w) {x : Rfm} {a ref : Int} (hong : Calls Tryz.prog 21 #[.pointer (some ⟨r, 0, none⟩), .int .i64 ref] w fun e w' => e = .returned (.tuple #[.agg (rfS.f x).toArray, .bool true]) ∧ Below w.heap.size w w') (hp : x.put = true) (h9 : x.st ≠ 1) (ha : 0 ≤ a) (hw : x.who = a) (hb : x.bk = a) (hl : R.length ≤ 12) {k : Nat} (hk : k < R.length) (hr : ref = k) {tk : Nat} (htk : x.tr = tk) (htl : tk < ts.length) :
    Calls Tryz.prog 23 #[.pointer (some ⟨r, 0, none⟩), .pointer (some ⟨g, 0, none⟩), .int .i64 a, .int .i64 ref] w fun e w' => e = .returned (.int .i64 0) ∧ RvTo r g vb N ts (R.set k ({ ({ x with put := false } : Rfm) with bk := -1 } : Rfm)) S (unheld (unheld A a 10 a) a (ts[tk]).dep a) M Z w w' := by
  have hks : ∀ w2, Below w.heap.size w w2 → KS r g vb N ts Z w w2.heap.size R S A M x [] (.slice none 0 0) (w2.alloc (rfS.obj x)) := fun w2 hb => KS.start h hb x
  obtain ⟨bk, hbk⟩ : ∃ bk, bk = x.bk := ⟨_, rfl⟩
  obtain ⟨who, hwho⟩ : ∃ who, who = x.who := ⟨_, rfl⟩
  obtain ⟨st, hst⟩ : ∃ st, st = x.st := ⟨_, rfl⟩
  subst hr
  have HX := Lib.hid (show x.st = st ∧ x.who = who ∧ x.put = true ∧ x.bk = bk from ⟨hst.symm, hwho.symm, hp, hbk.symm⟩)
  have q9 : (st == 1) = false := by rw [hst]; simpa using h9
  have qa : decide (a < 0) = false := decide_eq_false (by omega)
  have qb : (bk == a) = true := by rw [hbk]; simpa using hb
  have qw : (who == a) = true := by rw [hwho]; simpa using hw
  obtain ⟨dp, hdp⟩ : ∃ dp, dp = (ts[tk]).dep := ⟨_, rfl⟩
  rw [← hdp]
  obtain ⟨n, hn⟩ : ∃ n, n = ts.length := ⟨_, rfl⟩
  have hkI : (tk : Int) < n := by omega
  have htr : ∀ (b9 : Nat) (R' : List Rfm) (S' : Vs) (A' : Acc) (y : Rfm) (evs : List Ev) (v : Value) (wx : World), KS r g vb N ts Z w b9 R' S' A' M y evs v wx → ∃ tb cap, wx.cell? ⟨r, 0, none⟩ = some (.slice (some ⟨tb, 0, none⟩) n cap) ∧ wx.cell? ⟨tb, tk * 18 + 1, none⟩ = some (.int .i64 dp) := fun b9 R' S' A' y evs v wx h3 => by rw [hdp, hn]; exact h3.track htl
  have HTR := Lib.hid htr
  have HK := Lib.hid hks
  have HO := Lib.hid hong
  have HL := Lib.hid (And.intro hk (And.intro hl htk))
  clear h hong hks hp hbk hwho hst h9 ha hw hb hl hk htk htl hdp hn htr
  go_enter Tryz.func23, Tryz.ntmps23
  go_upto_region 4 with (first
    | (go_at_call 21; refine HO.out.mono ?_; rintro e w2 ⟨rfl, hb⟩; have H2 := Lib.hid hb; clear hb)
    | (refine wpl_allocS (s := rfS) rfl rfl rfl ?_)
    | (refine wpl_storeS (s := rfS) (t := x) (b := w2.heap.size) _ _ rfl rfl rfl rfl rfl (World.alloc_heap_new w2 _) (zeroS rfS) ?_; rw [newS])
    | fail)
  obtain ⟨w3, hw3⟩ : ∃ w3, w3 = w2.alloc (rfS.obj x) := ⟨_, rfl⟩
  obtain ⟨b9, hb9⟩ : ∃ b9, b9 = w2.heap.size := ⟨_, rfl⟩
  have k3 := HK.out w2 H2.out
  rw [← hw3, ← hb9] at k3 ⊢
  have K3 := Lib.hid k3
  obtain ⟨c0, c1, c36, c37, c38, c40, fz, ld⟩ := k3.cells
  rw [HX.out.1] at c0
  rw [HX.out.2.1] at c36
  rw [HX.out.2.2.1] at c37
  rw [HX.out.2.2.2] at c38
  clear k3 hw3 hb9 c1 c40 ld
  go_quiet (fail)
  have k4 := K3.out.below (below_dn (Below.refl _ _) nq)
  obtain ⟨w4, hw4⟩ : ∃ w4, w4 = w3.drewN nq := ⟨_, rfl⟩
  rw [← hw4] at k4 ⊢
  have K4 := Lib.hid k4
  obtain ⟨c0, c1, c36, c37, c38, c40, fz, ld⟩ := k4.cells
  rw [HX.out.1] at c0
  rw [HX.out.2.1] at c36
  rw [HX.out.2.2.1] at c37
  rw [HX.out.2.2.2] at c38
  rw [HL.out.2.2] at c1
  clear k4 hw4 ld
  go_upto_region 13 with (first
    | (go_at_call 66; refine (K4.out.release _ _).mono ?_; rintro e w5 ⟨rfl, hk⟩; have K5 := Lib.hid hk; clear hk)
    | fail)
  obtain ⟨c0, c1, c36, c37, c38, c40, fz, ld⟩ := K5.out.cells
  go_upto_region 14 with fail
  have k6 := K5.out.setCell (rf_set_put x false)
  obtain ⟨w6, hw6⟩ : ∃ w6, w6 = w5.setCell ⟨b9, 37, none⟩ (.bool false) := ⟨_, rfl⟩
  rw [← hw6] at k6 ⊢
  have K6 := Lib.hid k6
  obtain ⟨c0, c1, c36, c37, c38, c40, fz, ld⟩ := k6.cells
  rw [show ({ x with put := false } : Rfm).tr = tk from HL.out.2.2] at c1
  clear k6 hw6
  obtain ⟨tb, cap, cr, cd⟩ := HTR.out _ _ _ _ _ _ _ _ K6.out
  go_upto_region 15 with fail
  go_still_tail 11, (by kernel_rfl)
  change wpList _ _ _ _ _ w6.drew
  go_upto_region 16 with (first
    | (go_at_call 66; refine (K6.out.drew.release _ _).mono ?_; rintro e w7 ⟨rfl, hk⟩; have K7 := Lib.hid hk; clear hk)
    | fail)
  obtain ⟨c0, c1, c36, c37, c38, c40, fz, ld⟩ := K7.out.cells
  go_upto_region 17 with fail
  have k8 := K7.out.setCell (rf_set_bk ({ x with put := false } : Rfm) (-1))
  obtain ⟨w8, hw8⟩ : ∃ w8, w8 = w7.setCell ⟨b9, 38, none⟩ (.int .i64 (-1)) := ⟨_, rfl⟩
  rw [← hw8] at k8 ⊢
  have K8 := Lib.hid k8
  obtain ⟨c0, c1, c36, c37, c38, c40, fz, ld⟩ := k8.cells
  clear k8 hw8
  have hset := K8.out.set HL.out.1 HL.out.2.1 ({ ({ x with put := false } : Rfm) with bk := -1 } : Rfm)
  have HSET := Lib.hid hset
  clear hset
  go_wp2_with (first
    | (go_at_call 41; refine HSET.out.mono ?_; rintro e wz ⟨rfl, hk⟩; have KZ := Lib.hid hk; clear hk)
    | fail)
  go_ret
  exact ⟨rfl, KZ.out.fin.1⟩
set_option maxRecDepth 100000 in
set_option maxHeartbeats 4000000 in
attribute [local go_sem ↓] loadSt_R_hide in
theorem refund_ok_tb (h : RvAt r g vb N ts R S A M Z w) {x : Rfm} {a ref : Int} (hong : Calls Tryz.prog 21 #[.pointer (some ⟨r, 0, none⟩), .int .i64 ref] w fun e w' => e = .returned (.tuple #[.agg (rfS.f x).toArray, .bool true]) ∧ Below w.heap.size w w') (hp : x.put = true) (h9 : x.st ≠ 1) (ha : 0 ≤ a) (hw : x.who ≠ a) (hb : x.bk = a) (hl : R.length ≤ 12) {k : Nat} (hk : k < R.length) (hr : ref = k) {tk : Nat} (htk : x.tr = tk) (htl : tk < ts.length) :
    Calls Tryz.prog 23 #[.pointer (some ⟨r, 0, none⟩), .pointer (some ⟨g, 0, none⟩), .int .i64 a, .int .i64 ref] w fun e w' => e = .returned (.int .i64 0) ∧ RvTo r g vb N ts (R.set k ({ x with bk := -1 } : Rfm)) S (unheld (A) a (ts[tk]).dep a) M Z w w' := by
  have hks : ∀ w2, Below w.heap.size w w2 → KS r g vb N ts Z w w2.heap.size R S A M x [] (.slice none 0 0) (w2.alloc (rfS.obj x)) := fun w2 hb => KS.start h hb x
  obtain ⟨bk, hbk⟩ : ∃ bk, bk = x.bk := ⟨_, rfl⟩
  obtain ⟨who, hwho⟩ : ∃ who, who = x.who := ⟨_, rfl⟩
  obtain ⟨st, hst⟩ : ∃ st, st = x.st := ⟨_, rfl⟩
  subst hr
  have HX := Lib.hid (show x.st = st ∧ x.who = who ∧ x.put = true ∧ x.bk = bk from ⟨hst.symm, hwho.symm, hp, hbk.symm⟩)
  have q9 : (st == 1) = false := by rw [hst]; simpa using h9
  have qa : decide (a < 0) = false := decide_eq_false (by omega)
  have qb : (bk == a) = true := by rw [hbk]; simpa using hb
  have qw : (who == a) = false := by rw [hwho]; simpa using hw
  obtain ⟨dp, hdp⟩ : ∃ dp, dp = (ts[tk]).dep := ⟨_, rfl⟩
  rw [← hdp]
  obtain ⟨n, hn⟩ : ∃ n, n = ts.length := ⟨_, rfl⟩
  have hkI : (tk : Int) < n := by omega
  have htr : ∀ (b9 : Nat) (R' : List Rfm) (S' : Vs) (A' : Acc) (y : Rfm) (evs : List Ev) (v : Value) (wx : World), KS r g vb N ts Z w b9 R' S' A' M y evs v wx → ∃ tb cap, wx.cell? ⟨r, 0, none⟩ = some (.slice (some ⟨tb, 0, none⟩) n cap) ∧ wx.cell? ⟨tb, tk * 18 + 1, none⟩ = some (.int .i64 dp) := fun b9 R' S' A' y evs v wx h3 => by rw [hdp, hn]; exact h3.track htl
  have HTR := Lib.hid htr
  have HK := Lib.hid hks
  have HO := Lib.hid hong
  have HL := Lib.hid (And.intro hk (And.intro hl htk))
  clear h hong hks hp hbk hwho hst h9 ha hw hb hl hk htk htl hdp hn htr
  go_enter Tryz.func23, Tryz.ntmps23
  go_upto_region 4 with (first
    | (go_at_call 21; refine HO.out.mono ?_; rintro e w2 ⟨rfl, hb⟩; have H2 := Lib.hid hb; clear hb)
    | (refine wpl_allocS (s := rfS) rfl rfl rfl ?_)
    | (refine wpl_storeS (s := rfS) (t := x) (b := w2.heap.size) _ _ rfl rfl rfl rfl rfl (World.alloc_heap_new w2 _) (zeroS rfS) ?_; rw [newS])
    | fail)
  obtain ⟨w3, hw3⟩ : ∃ w3, w3 = w2.alloc (rfS.obj x) := ⟨_, rfl⟩
  obtain ⟨b9, hb9⟩ : ∃ b9, b9 = w2.heap.size := ⟨_, rfl⟩
  have k3 := HK.out w2 H2.out
  rw [← hw3, ← hb9] at k3 ⊢
  have K3 := Lib.hid k3
  obtain ⟨c0, c1, c36, c37, c38, c40, fz, ld⟩ := k3.cells
  rw [HX.out.1] at c0
  rw [HX.out.2.1] at c36
  rw [HX.out.2.2.1] at c37
  rw [HX.out.2.2.2] at c38
  clear k3 hw3 hb9 c1 c40 ld
  go_quiet (fail)
  have k4 := K3.out.below (below_dn (Below.refl _ _) nq)
  obtain ⟨w4, hw4⟩ : ∃ w4, w4 = w3.drewN nq := ⟨_, rfl⟩
  rw [← hw4] at k4 ⊢
  have K4 := Lib.hid k4
  obtain ⟨c0, c1, c36, c37, c38, c40, fz, ld⟩ := k4.cells
  rw [HX.out.1] at c0
  rw [HX.out.2.1] at c36
  rw [HX.out.2.2.1] at c37
  rw [HX.out.2.2.2] at c38
  rw [HL.out.2.2] at c1
  clear k4 hw4 ld
  obtain ⟨tb, cap, cr, cd⟩ := HTR.out _ _ _ _ _ _ _ _ K4.out
  go_upto_region 15 with fail
  go_still_tail 11, (by kernel_rfl)
  change wpList _ _ _ _ _ w4.drew
  go_upto_region 16 with (first
    | (go_at_call 66; refine (K4.out.drew.release _ _).mono ?_; rintro e w7 ⟨rfl, hk⟩; have K7 := Lib.hid hk; clear hk)
    | fail)
  obtain ⟨c0, c1, c36, c37, c38, c40, fz, ld⟩ := K7.out.cells
  go_upto_region 17 with fail
  have k8 := K7.out.setCell (rf_set_bk x (-1))
  obtain ⟨w8, hw8⟩ : ∃ w8, w8 = w7.setCell ⟨b9, 38, none⟩ (.int .i64 (-1)) := ⟨_, rfl⟩
  rw [← hw8] at k8 ⊢
  have K8 := Lib.hid k8
  obtain ⟨c0, c1, c36, c37, c38, c40, fz, ld⟩ := k8.cells
  clear k8 hw8
  have hset := K8.out.set HL.out.1 HL.out.2.1 ({ x with bk := -1 } : Rfm)
  have HSET := Lib.hid hset
  clear hset
  go_wp2_with (first
    | (go_at_call 41; refine HSET.out.mono ?_; rintro e wz ⟨rfl, hk⟩; have KZ := Lib.hid hk; clear hk)
    | fail)
  go_ret
  exact ⟨rfl, KZ.out.fin.1⟩
set_option maxRecDepth 100000 in
set_option maxHeartbeats 4000000 in
attribute [local go_sem ↓] loadSt_R_hide in
theorem refund_ok_fb (h : RvAt r g vb N ts R S A M Z w) {x : Rfm} {a ref : Int} (hong : Calls Tryz.prog 21 #[.pointer (some ⟨r, 0, none⟩), .int .i64 ref] w fun e w' => e = .returned (.tuple #[.agg (rfS.f x).toArray, .bool true]) ∧ Below w.heap.size w w') (hp : x.put = false) (h9 : x.st ≠ 1) (ha : 0 ≤ a) (hb : x.bk = a) (hl : R.length ≤ 12) {k : Nat} (hk : k < R.length) (hr : ref = k) {tk : Nat} (htk : x.tr = tk) (htl : tk < ts.length) :
    Calls Tryz.prog 23 #[.pointer (some ⟨r, 0, none⟩), .pointer (some ⟨g, 0, none⟩), .int .i64 a, .int .i64 ref] w fun e w' => e = .returned (.int .i64 0) ∧ RvTo r g vb N ts (R.set k ({ x with bk := -1 } : Rfm)) S (unheld (A) a (ts[tk]).dep a) M Z w w' := by
  have hks : ∀ w2, Below w.heap.size w w2 → KS r g vb N ts Z w w2.heap.size R S A M x [] (.slice none 0 0) (w2.alloc (rfS.obj x)) := fun w2 hb => KS.start h hb x
  obtain ⟨bk, hbk⟩ : ∃ bk, bk = x.bk := ⟨_, rfl⟩
  obtain ⟨who, hwho⟩ : ∃ who, who = x.who := ⟨_, rfl⟩
  obtain ⟨st, hst⟩ : ∃ st, st = x.st := ⟨_, rfl⟩
  subst hr
  have HX := Lib.hid (show x.st = st ∧ x.who = who ∧ x.put = false ∧ x.bk = bk from ⟨hst.symm, hwho.symm, hp, hbk.symm⟩)
  have q9 : (st == 1) = false := by rw [hst]; simpa using h9
  have qa : decide (a < 0) = false := decide_eq_false (by omega)
  have qb : (bk == a) = true := by rw [hbk]; simpa using hb
  obtain ⟨dp, hdp⟩ : ∃ dp, dp = (ts[tk]).dep := ⟨_, rfl⟩
  rw [← hdp]
  obtain ⟨n, hn⟩ : ∃ n, n = ts.length := ⟨_, rfl⟩
  have hkI : (tk : Int) < n := by omega
  have htr : ∀ (b9 : Nat) (R' : List Rfm) (S' : Vs) (A' : Acc) (y : Rfm) (evs : List Ev) (v : Value) (wx : World), KS r g vb N ts Z w b9 R' S' A' M y evs v wx → ∃ tb cap, wx.cell? ⟨r, 0, none⟩ = some (.slice (some ⟨tb, 0, none⟩) n cap) ∧ wx.cell? ⟨tb, tk * 18 + 1, none⟩ = some (.int .i64 dp) := fun b9 R' S' A' y evs v wx h3 => by rw [hdp, hn]; exact h3.track htl
  have HTR := Lib.hid htr
  have HK := Lib.hid hks
  have HO := Lib.hid hong
  have HL := Lib.hid (And.intro hk (And.intro hl htk))
  clear h hong hks hp hbk hwho hst h9 ha hb hl hk htk htl hdp hn htr
  go_enter Tryz.func23, Tryz.ntmps23
  go_upto_region 4 with (first
    | (go_at_call 21; refine HO.out.mono ?_; rintro e w2 ⟨rfl, hb⟩; have H2 := Lib.hid hb; clear hb)
    | (refine wpl_allocS (s := rfS) rfl rfl rfl ?_)
    | (refine wpl_storeS (s := rfS) (t := x) (b := w2.heap.size) _ _ rfl rfl rfl rfl rfl (World.alloc_heap_new w2 _) (zeroS rfS) ?_; rw [newS])
    | fail)
  obtain ⟨w3, hw3⟩ : ∃ w3, w3 = w2.alloc (rfS.obj x) := ⟨_, rfl⟩
  obtain ⟨b9, hb9⟩ : ∃ b9, b9 = w2.heap.size := ⟨_, rfl⟩
  have k3 := HK.out w2 H2.out
  rw [← hw3, ← hb9] at k3 ⊢
  have K3 := Lib.hid k3
  obtain ⟨c0, c1, c36, c37, c38, c40, fz, ld⟩ := k3.cells
  rw [HX.out.1] at c0
  rw [HX.out.2.1] at c36
  rw [HX.out.2.2.1] at c37
  rw [HX.out.2.2.2] at c38
  clear k3 hw3 hb9 c1 c40 ld
  go_quiet (fail)
  have k4 := K3.out.below (below_dn (Below.refl _ _) nq)
  obtain ⟨w4, hw4⟩ : ∃ w4, w4 = w3.drewN nq := ⟨_, rfl⟩
  rw [← hw4] at k4 ⊢
  have K4 := Lib.hid k4
  obtain ⟨c0, c1, c36, c37, c38, c40, fz, ld⟩ := k4.cells
  rw [HX.out.1] at c0
  rw [HX.out.2.1] at c36
  rw [HX.out.2.2.1] at c37
  rw [HX.out.2.2.2] at c38
  rw [HL.out.2.2] at c1
  clear k4 hw4 ld
  obtain ⟨tb, cap, cr, cd⟩ := HTR.out _ _ _ _ _ _ _ _ K4.out
  go_upto_region 15 with fail
  go_still_tail 11, (by kernel_rfl)
  change wpList _ _ _ _ _ w4.drew
  go_upto_region 16 with (first
    | (go_at_call 66; refine (K4.out.drew.release _ _).mono ?_; rintro e w7 ⟨rfl, hk⟩; have K7 := Lib.hid hk; clear hk)
    | fail)
  obtain ⟨c0, c1, c36, c37, c38, c40, fz, ld⟩ := K7.out.cells
  go_upto_region 17 with fail
  have k8 := K7.out.setCell (rf_set_bk x (-1))
  obtain ⟨w8, hw8⟩ : ∃ w8, w8 = w7.setCell ⟨b9, 38, none⟩ (.int .i64 (-1)) := ⟨_, rfl⟩
  rw [← hw8] at k8 ⊢
  have K8 := Lib.hid k8
  obtain ⟨c0, c1, c36, c37, c38, c40, fz, ld⟩ := k8.cells
  clear k8 hw8
  have hset := K8.out.set HL.out.1 HL.out.2.1 ({ x with bk := -1 } : Rfm)
  have HSET := Lib.hid hset
  clear hset
  go_wp2_with (first
    | (go_at_call 41; refine HSET.out.mono ?_; rintro e wz ⟨rfl, hk⟩; have KZ := Lib.hid hk; clear hk)
    | fail)
  go_ret
  exact ⟨rfl, KZ.out.fin.1⟩
theorem refer_Refund (h : RvAt r g vb N ts R S A M Z w) (hi : Rin ts R) {a ref : Int} (hr : (Lit.int .i64 ref).wf = true) :
    Calls Tryz.prog 23 #[.pointer (some ⟨r, 0, none⟩), .pointer (some ⟨g, 0, none⟩), .int .i64 a, .int .i64 ref] w fun e w' => e = .returned (.int .i64 (rfdE R a ref)) ∧ RvTo r g vb N ts (rfdR R a ref) S (rfdA ts R A a ref) M Z w w' := by
  obtain ⟨FR, hre, -⟩ := h.re
  have hget := refer_Get hre hr
  obtain ⟨x, hx⟩ : ∃ x, x = refAt R ref := ⟨_, rfl⟩
  have same : ∀ E, rfdE R a ref = E → E ≠ 0 → rfdR R a ref = R ∧ rfdA ts R A a ref = A := fun E h1 h2 => ⟨by unfold rfdR; rw [if_neg (by rw [h1]; exact h2)], by unfold rfdA; rw [if_neg (by rw [h1]; exact h2)]⟩
  by_cases hok : refHas R ref = true
  · have hk := of_decide_eq_true hok
    rw [hok, ← hx] at hget
    obtain ⟨k, hrk⟩ : ∃ k : Nat, ref = k := ⟨ref.toNat, by omega⟩
    have hkl : k < R.length := by omega
    have hmem : x ∈ R := by rw [hx, hrk, refAt_is hkl]; exact List.getElem_mem _
    obtain ⟨tk, htk, htl⟩ : ∃ tk : Nat, x.tr = tk ∧ tk < ts.length := ⟨x.tr.toNat, by have := hi.tr x hmem; omega, by have := hi.tr x hmem; omega⟩
    have eE : rfdE R a ref = if x.st = 1 then 9 else if a < 0 ∨ (subB x a = false ∧ bakB x a = false) then 8 else 0 := by unfold rfdE; rw [if_neg (by rw [hok]; decide), ← hx]
    by_cases h9 : x.st = 1
    · have e : rfdE R a ref = 9 := by rw [eE, if_pos h9]
      obtain ⟨e1, e2⟩ := same 9 e (by decide)
      rw [e, e1, e2]
      cases hp : x.put with
      | true => exact refund_9t h hget hp h9
      | false => exact refund_9f h hget hp h9
    · rw [if_neg h9] at eE
      by_cases ha : a < 0
      · have e : rfdE R a ref = 8 := by rw [eE, if_pos (.inl ha)]
        obtain ⟨e1, e2⟩ := same 8 e (by decide)
        rw [e, e1, e2]
        cases hp : x.put with
        | true => exact refund_8at h hget hp h9 ha
        | false => exact refund_8af h hget hp h9 ha
      · by_cases hb : x.bk = a
        · have hB : bakB x a = true := by unfold bakB; rw [hb]; simp
          have e : rfdE R a ref = 0 := by rw [eE, if_neg (fun q => q.elim ha (fun q => by rw [hB] at q; cases q.2))]
          have eR : rfdR R a ref = R.set k (rfdX x a) := by unfold rfdR; rw [if_pos e, ← hx, hrk, Int.toNat_natCast]
          have eA : rfdA ts R A a ref = rfdA2 A x a (ts[tk]).dep := by unfold rfdA; rw [if_pos e, ← hx, htk, trkAt_is htl]
          rw [e, eR, eA]
          cases hp : x.put with
          | true =>
            by_cases hw : x.who = a
            · have hS : subB x a = true := by unfold subB; rw [hp, hw]; simp
              unfold rfdA2 rfdA1 rfdX
              rw [hB, hS]
              exact refund_ok_twb h hget hp h9 (by omega) hw hb hi.len hkl hrk htk htl
            · have hS : subB x a = false := by unfold subB; rw [hp]; simpa using hw
              unfold rfdA2 rfdA1 rfdX
              rw [hB, hS]
              exact refund_ok_tb h hget hp h9 (by omega) hw hb hi.len hkl hrk htk htl
          | false =>
            have hS : subB x a = false := by unfold subB; rw [hp]; rfl
            unfold rfdA2 rfdA1 rfdX
            rw [hB, hS]
            exact refund_ok_fb h hget hp h9 (by omega) hb hi.len hkl hrk htk htl
        · have hB : bakB x a = false := by unfold bakB; simpa using hb
          cases hp : x.put with
          | true =>
            by_cases hw : x.who = a
            · have hS : subB x a = true := by unfold subB; rw [hp, hw]; simp
              have e : rfdE R a ref = 0 := by rw [eE, if_neg (fun q => q.elim ha (fun q => by rw [hS] at q; cases q.1))]
              have eR : rfdR R a ref = R.set k (rfdX x a) := by unfold rfdR; rw [if_pos e, ← hx, hrk, Int.toNat_natCast]
              have eA : rfdA ts R A a ref = rfdA2 A x a (ts[tk]).dep := by unfold rfdA; rw [if_pos e, ← hx, htk, trkAt_is htl]
              rw [e, eR, eA]
              unfold rfdA2 rfdA1 rfdX
              rw [hB, hS]
              exact refund_ok_tw h hget hp h9 (by omega) hw hb hi.len hkl hrk htk htl
            · have hS : subB x a = false := by unfold subB; rw [hp]; simpa using hw
              have e : rfdE R a ref = 8 := by rw [eE, if_pos (.inr ⟨hS, hB⟩)]
              obtain ⟨e1, e2⟩ := same 8 e (by decide)
              rw [e, e1, e2]
              exact refund_8bt h hget hp h9 ⟨by omega, hw, hb⟩
          | false =>
            have hS : subB x a = false := by unfold subB; rw [hp]; rfl
            have e : rfdE R a ref = 8 := by rw [eE, if_pos (.inr ⟨hS, hB⟩)]
            obtain ⟨e1, e2⟩ := same 8 e (by decide)
            rw [e, e1, e2]
            exact refund_8bf h hget hp h9 ⟨by omega, hb⟩
  · have hok' : refHas R ref = false := by simpa using hok
    have e : rfdE R a ref = 4 := by unfold rfdE; rw [if_pos hok']
    obtain ⟨e1, e2⟩ := same 4 e (by decide)
    have ex : x = rf0 := by
      rw [hx]
      unfold refAt
      unfold refHas at hok'
      have := of_decide_eq_false hok'
      split
      · rw [List.getElem?_eq_none (by omega)]; rfl
      · rfl
    rw [hok', ← hx] at hget
    rw [e, e1, e2]
    exact refund_4f h hget (by rw [ex]; rfl)
end
end Go.Proofs.YtpkamfbjgdmmoaaGreat
end

section
namespace Go.Proofs.YtpkamfbjgdmmoaaGreat
open Go.RowKit Go.Maps Go.Shelf
attribute [local go_sem] Oper.semAt_some
set_option linter.unusedVariables false
set_option linter.unusedSimpArgs false

def prOf_R (x : Int × Rfm) : List Value := .int .i64 x.1 :: rfF x.2
theorem pairInfo_R : (Tryz.prog.info? 226).map (fun i => (i.zero, i.size, i.bytes)) = some (some (.agg (prOf_R (0, rf0)).toArray), 46, 144) := by kernel_rfl
def pair_R : RowTy Tryz.prog (Int × Rfm) where
  T := 226
  S := 224
  k := 46
  f := prOf_R
  len := fun x => by simp [prOf_R, rfF_len]
  one := fun x u hu => by
    rcases List.mem_cons.1 hu with rfl | h
    · rfl
    · exact (rfF_lit _ u h).one
  pos := by decide
  small := by decide
  slice := Tryz.underlying224
  info := by
    obtain ⟨i0, hi, hz⟩ := Option.map_eq_some_iff.1 pairInfo_R
    simp only [Prod.mk.injEq] at hz
    obtain ⟨h1, h2, h3⟩ := hz
    exact ⟨i0, _, _, hi, h1, h2, rfl, h3, by decide⟩
  row := ⟨_, Tryz.underlying226, rfl⟩
theorem list32 : ∀ l : List Nat, l.length = 32 → ∃ a0 a1 a2 a3 a4 a5 a6 a7 a8 a9 b0 b1 b2 b3 b4 b5 b6 b7 b8 b9 c0 c1 c2 c3 c4 c5 c6 c7 c8 c9 d0 d1, l = [a0, a1, a2, a3, a4, a5, a6, a7, a8, a9, b0, b1, b2, b3, b4, b5, b6, b7, b8, b9, c0, c1, c2, c3, c4, c5, c6, c7, c8, c9, d0, d1]
  | [a0, a1, a2, a3, a4, a5, a6, a7, a8, a9, b0, b1, b2, b3, b4, b5, b6, b7, b8, b9, c0, c1, c2, c3, c4, c5, c6, c7, c8, c9, d0, d1], _ => ⟨_, _, _, _, _, _, _, _, _, _, _, _, _, _, _, _, _, _, _, _, _, _, _, _, _, _, _, _, _, _, _, _, rfl⟩
def buildPr (ps : Array (Nat × Value)) : Sem Value := Instr.build 226 ps
theorem buildPr_hide (ps : Array (Nat × Value)) : Instr.build 226 ps = buildPr ps := rfl
set_option maxRecDepth 100000 in
theorem run_buildPr (k : Int) (y : Rfm) (w : World) : (buildPr #[(0, .int .i64 k), (1, .agg (rfS.f y).toArray)]).run Tryz.prog w = .ok (.agg (prOf_R (k, y)).toArray) w := by
  obtain ⟨e0, e1, h, e3, e4, e5, e6, e7, e8, e9, f0, f1, f2, f3, ok⟩ := y
  obtain ⟨a0, a1, a2, a3, a4, a5, a6, a7, a8, a9, b0, b1, b2, b3, b4, b5, b6, b7, b8, b9, c0, c1, c2, c3, c4, c5, c6, c7, c8, c9, d0, d1, rfl⟩ := list32 h ok
  kernel_rfl
def bsPr (ps : Array (Nat × Value)) : Sem Value := Instr.buildSlice 224 1 ps
theorem bsPr_hide (ps : Array (Nat × Value)) : Instr.buildSlice 224 1 ps = bsPr ps := rfl
set_option maxRecDepth 100000 in
theorem run_bsPr (x : Int × Rfm) (w : World) : (bsPr #[(0, .agg (prOf_R x).toArray)]).run Tryz.prog w = .ok (.slice (some ⟨w.heap.size, 0, none⟩) 1 1) (w.alloc (.cells (prOf_R x).toArray 226)) := by
  obtain ⟨k, e0, e1, h, e3, e4, e5, e6, e7, e8, e9, f0, f1, f2, f3, ok⟩ := x
  obtain ⟨a0, a1, a2, a3, a4, a5, a6, a7, a8, a9, b0, b1, b2, b3, b4, b5, b6, b7, b8, b9, c0, c1, c2, c3, c4, c5, c6, c7, c8, c9, d0, d1, rfl⟩ := list32 h ok
  obtain ⟨i0, hi, hz⟩ := Option.map_eq_some_iff.1 pairInfo_R
  simp only [Prod.mk.injEq] at hz
  obtain ⟨h1, h2, h3⟩ := hz
  exact run_buildSlice w _ _ 1 _ _ i0 _ Tryz.underlying224 hi h1 (by rw [h2]; decide) (by rw [h2]; decide) (by rw [h2]; kernel_rfl)
def encs_R (x : Int × Rfm) : Array Value := #[.int .i64 x.1, .agg (rfS.f x.2).toArray]
set_option maxHeartbeats 4000000 in
set_option maxRecDepth 100000 in
attribute [local go_sem ↓] loadSt_R_hide buildPr_hide bsPr_hide in
theorem still_Now_R {m : Nat} (gf : Nat) (lbx : Array Value) (xs : List (Int × Rfm)) (w : World) (eg : ∀ args w, (callFunc gf args).run Tryz.prog w = .ok (.enter gf args) w) (hit : Iter Tryz.prog m gf lbx encs_R xs (fun k => k < w.heap.size) w) (hlen : xs.length ≤ 1000000) :
    Calls Tryz.prog 96 #[.func (.func gf) #[] lbx] w fun e w' => ∃ v, e = .returned (.func (.func 119) #[] #[.pointer (some ⟨w.heap.size, 0, none⟩)]) ∧ Boxed w' w.heap.size 224 v ∧ OwnR pair_R (w.heap.size + 1) v xs w' ∧ Below w.heap.size w w' := by
  refine (callsIn_wide (n := m + 2)).1 ?_
  refine callsIn_of_wp_marks Tryz.func96 rfl trivial ?_ rfl
  simp only [Tryz.ntmps96, List.size_toArray, List.length_cons, List.length_nil, Nat.reduceAdd, Nat.reduceSub, Array.replicate_succ, Array.replicate_zero, List.push_toArray, List.append_toArray, List.nil_append, List.cons_append]
  gi_wp2_with fail
  obtain ⟨w1, hw1⟩ : ∃ w1, w1 = w.alloc (.cells #[.slice none 0 0] 224) := ⟨_, rfl⟩
  rw [← hw1]
  obtain ⟨lb, hlb⟩ : ∃ lb, lb = w.heap.size := ⟨_, rfl⟩
  have hB : Below w.heap.size w w1 := by rw [hw1]; exact (Below.refl _ w).alloc (Nat.le_refl _) _
  have hsz : w1.heap.size = lb + 1 := by rw [hw1, hlb]; simp
  have x0 : Boxed w1 lb 224 (.slice none 0 0) := by rw [hw1, hlb]; exact Boxed.new w _ _
  have HB1 := Lib.hid hB
  have HIT := Lib.hid hit
  have HSZ := Lib.hid hsz
  have l1 : lb < w1.heap.size := by omega
  have l2 : w.heap.size ≤ lb := by omega
  have HEG := Lib.hid eg
  rw [← hlb]
  have HLB := Lib.hid hlb
  have HLN := Lib.hid hlen
  clear hw1 hit hB hsz hlb eg hlen
  refine range_outerAI (n := m) (gf := gf) (lb := lbx) rfl HEG.out HIT.out (Grow.of_below HB1.out) (fun k hk => ⟨hk, HB1.out.block k hk⟩) (fun _ => rfl)
    (fun k => k = lb) (by rintro k rfl; exact ⟨l1, fun h => by omega⟩) (ColI pair_R w1.heap.size lb) (fun _ _ _ _ => False) (ColI.stab l1) (fun c _ _ _ h => h.elim)
    ⟨_, x0, OwnR.nil _ _, fun k => ⟨fun h => h.elim, fun h => by cases h⟩, Nat.le_refl _⟩
    (fun x N => { tmps := #[.func (.func gf) #[] lbx, undef, .nilFunc, .pointer (some ⟨lb, 0, none⟩), .int .i64 x.1, .pointer (some ⟨N, 0, none⟩), .func (.func gf) #[] lbx, .int .i64 x.1, .agg (rfS.f x.2).toArray, undef, undef, undef, undef, undef, undef, undef], defers := [] })
    (fun x N W => W.heap[N]? = some (.cells (rfS.f x.2).toArray 56 (0, 0))) (fun x N W W' h e => e.trans h) ?assign ?body ?done ?stop
  case assign =>
    intro l x W K hK
    simp only [encs_R]
    gi_wp2_with (first
      | (refine wplIn_allocS (s := rfS) rfl rfl rfl ?_)
      | (refine wplIn_storeS (s := rfS) (t := x.2) (b := W.heap.size) _ _ rfl rfl rfl rfl rfl (World.alloc_heap_new W _) (zeroS rfS) ?_; rw [newS])
      | fail)
    exact hK _ ((Below.refl _ W).alloc (Nat.le_refl _) _) (by simp) (World.alloc_heap_new _ _)
  case body =>
    rintro l pre x Φ N W hpx ⟨v1, hI⟩ hl1 hΦ - hlN hNW hAt
    have hpl := hpx.length_le
    rw [List.length_append, List.length_singleton] at hpl
    have hpl2 : pre.length ≤ 1000000 := by have := HLN.out; omega
    obtain ⟨ao1, cap1, rfl⟩ := hI.own.lenOf
    obtain ⟨pl, hm⟩ : ∃ pl, pl = pre.length := ⟨_, rfl⟩
    rw [← hm] at hI
    have c0 := hI.bx.cell
    have hlW : lb < W.heap.size := by have := hI.sz; omega
    have HI := Lib.hid hI
    have HPH := Lib.hid hΦ
    have HM := Lib.hid hm
    have HPL := Lib.hid hpl2
    have hsW : w1.heap.size ≤ W.heap.size := hI.sz
    have lN : (loadSt_R (.pointer (some ⟨N, 0, none⟩))).run Tryz.prog W = .ok (.agg (rfS.f x.2).toArray) W := run_loadSt_R (rangeAt_whole (T := rfS.T) hAt)
    have bP := run_buildPr x.1 x.2 W
    have bS := run_bsPr x W
    clear hI hΦ hm hpl hpl2
    gi_wp2_with (first

      | (refine wplIn_appR (r := pair_R) (y := x) rfl rfl rfl rfl ((OwnR.of HI.out.own (Nat.le_refl _) (fun k hk => Below.heap_alloc _ _ _ (HI.out.own.block hk).2))) (rangeAt_whole (T := 226) (by exact World.alloc_heap_new _ _)) HPL.out (by have h := hsW; rw [World.size_alloc]; omega) ?_; intro v' w3 hO hg3 hat3 hne; have cB : w3.cell? ⟨lb, 0, none⟩ = some (.slice ao1 pl cap1) := (World.cell?_of_block (a := ⟨lb, 0, none⟩) ((hg3.block lb (by rw [World.size_alloc]; omega) (fun e => by have := (HI.out.own.block e.symm).1; omega)).trans (Below.heap_alloc _ _ _ hlW))).trans c0; have fB : w3.frozen? ⟨lb, 0, none⟩ = false := ((HI.out.bx.alloc _).kept hg3 (fun e => by have := (HI.out.own.block e.symm).1; omega)).frozen; obtain ⟨ao2, cap2, rfl⟩ := hO.lenOf; obtain ⟨m2, hm2⟩ : ∃ m2, m2 = (pre ++ [x]).length := ⟨_, rfl⟩; rw [← hm2] at hO hat3; rw [← hm2]; have HO := Lib.hid hO; have HG3 := Lib.hid hg3; have HAT := Lib.hid hat3; clear hO hg3 hat3 hm2 hne)
      | fail)
    exact ColC.step HI.out l1 rfl ((Below.refl _ W).alloc (Nat.le_refl _) _) HO.out HG3.out HAT.out
  case done =>
    rintro D Φ W3 ⟨v3, hC⟩ hon hD hnD hK
    have hiff := hC.iff
    have HC := Lib.hid hC
    have HON := Lib.hid hon
    have HKK := Lib.hid hK
    clear hC hon hK
    gi_wp2
    refine ⟨by simp, .inl ⟨_, _, rfl, run_takeDeferred HKK.out, ?_⟩⟩
    have hC := HC.out
    have hO2 := HON.out
    have hw2 := HB1.out
    have hsz := HSZ.out
    have hlb := HLB.out
    subst hlb
    refine ⟨_, by simp [results, Tryz.results96, go_sem] <;> rfl, v3, rfl, (put_other (by omega)).trans hC.bx, hC.own.of (by omega) (fun k hk => put_other (fun e => hnD ((hiff D).2 (by rw [← e]; exact hk)))), ?_⟩
    refine ⟨hO2.grow.os.trans hw2.os, hO2.grow.tape.trans hw2.tape, hO2.grow.output.trans hw2.output, by have h1 := hO2.grow.size; have h2 := hw2.size; simp [World.putObj]; omega, fun k hk => ?_⟩
    rw [put_other (by omega), hO2.block k (by omega) (by omega) (fun h => h)]
    exact hw2.block k (by omega)
  case stop =>
    rintro D Φ c pre W3 hpre h
    exact h.elim

set_option maxHeartbeats 4000000 in
set_option maxRecDepth 100000 in
attribute [local go_sem ↓] loadSt_R_hide in
theorem now1_iter_R (n : Nat) (bx : Nat) (v : Value) (xs : List (Int × Rfm)) (w : World) (hbx : Boxed w bx 224 v) (hr : RdR pair_R w v xs) (hl : xs.length ≤ 1000000) (G : FP) (hGb : G bx) (hGv : ∀ k, v.ownBlock = some k → G k) :
    Iter Tryz.prog n 119 #[.pointer (some ⟨bx, 0, none⟩)] encs_R xs G w := by
  intro lp B Ψ J Jx Φ0 W hgw hG hΨ hΦ0 hJ hJx hround h0
  have hc1 : W.cell? ⟨bx, 0, none⟩ = some v := (World.cell?_of_block (hG bx hGb).2).trans hbx.cell
  have hrW : RdR pair_R W v xs := hr.keep hgw.size (fun k hk => (hG k (hGv k hk)).2)
  obtain ⟨hs1, hs2, hs3⟩ := hJ _ _ _ h0
  obtain ⟨ao, cap, rfl⟩ := hr.lenOf
  have hkeep : ∀ wr, Only Ψ Φ0 W wr → RdR pair_R wr (.slice ao xs.length cap) xs := fun wr ho => hrW.keep ho.grow.size (fun k hk => ho.block k (by have := (hG k (hGv k hk)).1; have := hgw.size; omega) (fun h => (hΨ k h).2 (hGv k hk)) (fun h => hΦ0 k h (hGv k hk)))
  refine callsIn_of_wp Tryz.func119 rfl trivial ?_ rfl
  simp only [Tryz.ntmps119, List.size_toArray, List.length_cons, List.length_nil, Nat.reduceAdd, Nat.reduceSub, Array.replicate_succ, Array.replicate_zero, List.push_toArray, List.append_toArray, List.nil_append, List.cons_append]
  have HK := Lib.hid hkeep
  have HL := Lib.hid hl
  have HRD := Lib.hid hround
  have HJ := Lib.hid hJ
  have HH0 := Lib.hid h0
  have hbig : (xs.length : Int) ≤ 1000000 := by omega
  clear hr hrW hround hJ hJx hG hΨ hΦ0 hbx hGb hGv h0 hs3 hl hkeep
  gi_wp2_with fail
  gi_loopw [7] (fun r wr => ∃ (k : Nat) (Φ : FP), k ≤ xs.length ∧ r = .int .i64 k ∧ J (xs.take k) Φ wr ∧ Only Ψ Φ0 W wr ∧ (∀ j, Φ j → Φ0 j ∨ W.heap.size ≤ j)) (fun r wr => xs.length - (RowKit.intOf r).toNat)
  case atStart => exact ⟨0, Φ0, Nat.zero_le _, rfl, HH0.out, Only.refl _ _ _, fun j h => .inl h⟩
  case round =>
    obtain ⟨k, Φ, hk, rfl, hJ2, ho2, hn2⟩ := hrel
    by_cases hlt : k < xs.length
    · have hlt' : (k : Int) < xs.length := by omega
      obtain ⟨x, hx⟩ : ∃ x, x = xs[k] := ⟨_, rfl⟩
      obtain ⟨b, off, rfl, hrng, hrb⟩ := (HK.out wr ho2).at hlt
      rw [← hx] at hrng
      have htk : xs.take k ++ [x] = xs.take (k + 1) := by rw [hx]; exact take_snoc hlt
      have hpre : (xs.take k ++ [x]) <+: xs := by rw [htk]; exact List.take_prefix _ _
      obtain ⟨q1, q2, q3⟩ := HJ.out _ _ _ hJ2
      obtain ⟨W1, hW1⟩ : ∃ W1, W1 = wr.alloc (.cells (prOf_R x).toArray 226) := ⟨_, rfl⟩
      have hb1 : Below wr.heap.size wr W1 := by rw [hW1]; exact (Below.refl _ wr).alloc (Nat.le_refl _) _
      have hJ1 : J (xs.take k) Φ W1 := q3 W1 (Grow.of_below hb1) (fun j hj => hb1.block j (hj.elim (fun h => by omega) (fun h => (q1 j h).2)))
      have hcx : W1.heap[wr.heap.size]? = some (.cells (prOf_R x).toArray 226 (0, 0)) := by rw [hW1]; exact World.alloc_heap_new _ _
      obtain ⟨fn, tm, asg, bd, hyy, hR⟩ := HRD.out (xs.take k) x Φ W1 hpre hJ1
      simp only [encs_R] at hyy
      have d0 : W1.cell? ⟨wr.heap.size, 0, none⟩ = some (.int .i64 x.1) := by rw [World.cell?, hcx]; rfl
      have d1 : (loadSt_R (.pointer (some ⟨wr.heap.size, 1, none⟩))).run Tryz.prog W1 = .ok (.agg (rfS.f x.2).toArray) W1 := run_loadS (s := rfS) (fun j u hj => by
        have := (rangeAt_whole (T := pair_R.T) (cs := prOf_R x) hcx) (1 + j) u (by rw [prOf_R, Nat.add_comm, List.getElem?_cons_succ]; exact hj)
        rwa [Nat.zero_add] at this)
      have HRN := Lib.hid hrng
      have HT := Lib.hid htk
      have HPR := Lib.hid hpre
      have HO2 := Lib.hid ho2
      have HN2 := Lib.hid hn2
      have HR := Lib.hid hR
      have HW1 := Lib.hid hW1
      have HB1 := Lib.hid hb1
      clear htk hpre q1 q2 q3 hx hJ2 hJ1 ho2 hn2 hR hrng hW1 hb1 hcx
      gi_wp2_with (first
        | (refine wplIn_loadR (r := pair_R) (t := x) _ rfl rfl rfl HRN.out ?_)
        | (refine wplIn_allocR (r := pair_R) rfl rfl rfl ?_; intro C hC)
        | (refine wplIn_storeR (r := pair_R) (t := x) (C := C) _ _ rfl rfl rfl rfl rfl (World.alloc_heap_new wr _) hC ?_; rw [World.setRow_alloc_new]; rw [show wr.alloc (.cells (pair_R.f x).toArray pair_R.T) = W1 from HW1.out.symm])

        | fail)
      refine HR.out.mono ?_
      rintro e W' ⟨Φ', hn', ho', (⟨rfl, hJ'⟩ | ⟨rfl, hJ'⟩)⟩
      · have ho3 : Only Ψ Φ0 W W' := (HO2.out.trans (Φ' := Φ0) (Only.of_later HB1.out) (fun j h => .inl h)).trans ho' HN2.out
        have hn3 : ∀ j, Φ' j → Φ0 j ∨ W.heap.size ≤ j := fun j hj => (hn' j hj).elim (HN2.out j) (fun h => .inr (by have := HO2.out.grow.size; have := HB1.out.size; omega))
        gi_wp2
        exact ⟨⟨k + 1, Φ', hlt, by go_num, by rw [← HT.out]; exact hJ', ho3, hn3⟩, by simp [RowKit.intOf]; omega⟩
      · have ho3 : Only Ψ Φ0 W W' := (HO2.out.trans (Φ' := Φ0) (Only.of_later HB1.out) (fun j h => .inl h)).trans ho' HN2.out
        have hn3 : ∀ j, Φ' j → Φ0 j ∨ W.heap.size ≤ j := fun j hj => (hn' j hj).elim (HN2.out j) (fun h => .inr (by have := HO2.out.grow.size; have := HB1.out.size; omega))
        gi_wp2
        refine bodyPost_ret (results_none rfl _ _ _) rfl ?_
        exact ⟨⟨_, rfl⟩, Φ', hn3, ho3, .inr ⟨_, HPR.out, hJ'⟩⟩
    · have hkn : k = xs.length := by omega
      subst hkn
      rw [List.take_length] at hJ2
      gi_wp2
      refine bodyPost_end (results_none rfl _ _ _) rfl ?_
      exact ⟨⟨_, rfl⟩, Φ, hn2, ho2, .inl hJ2⟩
theorem still_Begun_R (f : Value) (w : World) (hf : ∃ g lb, f = .func g #[] lb) : Calls Tryz.prog 120 #[f] w fun e w' => e = .returned (.func (.func 139) #[] #[.pointer (some ⟨w.heap.size, 0, none⟩)]) ∧ w' = w.alloc (.cells #[f] 130) := by
  obtain ⟨g, lb, rfl⟩ := hf
  go_enter Tryz.func120, Tryz.ntmps120
  go_wp2
  go_ret
  exact ⟨rfl, rfl⟩
theorem enters_begun_R : ∀ args w, (callFunc 139 args).run Tryz.prog w = .ok (.enter 139 args) w := enters_of Tryz.func139 (by kernel_rfl) rfl
theorem enters_now_R : ∀ args w, (callFunc 119 args).run Tryz.prog w = .ok (.enter 119 args) w := enters_of Tryz.func119 (by kernel_rfl) rfl
set_option maxHeartbeats 4000000 in
set_option maxRecDepth 100000 in
/-- What Begun tells: what another way tells when the ranging begins. -/
theorem begun_iter_R {m : Nat} (n : Nat) (sb : Nat) (gf : Nat) (lbx : Array Value) (xs : List (Int × Rfm)) (G : FP) (w : World) (hsb : Boxed w sb 130 (.func (.func gf) #[] lbx)) (eg : ∀ args w, (callFunc gf args).run Tryz.prog w = .ok (.enter gf args) w) (hit : Iter Tryz.prog m gf lbx encs_R xs G w) (hGs : G sb) (hGl : ∀ k, G k → k < w.heap.size) (hlen : xs.length ≤ 1000000) :
    IterF Tryz.prog n 139 #[.pointer (some ⟨sb, 0, none⟩)] encs_R xs G w := by
  intro lp B Ψ J Jx Φ0 W hgw hG hΨ hJ hJx hround h0
  have hc1 : W.cell? ⟨sb, 0, none⟩ = some (.func (.func gf) #[] lbx) := (World.cell?_of_block (hG sb hGs).2).trans hsb.cell
  have hitW : Iter Tryz.prog m gf lbx encs_R xs (fun k => k < W.heap.size) W := hit.later hgw hG (fun k hk => Nat.lt_of_lt_of_le (hGl k hk) hgw.size)
  have hnow := still_Now_R gf lbx xs W eg hitW hlen
  obtain ⟨hs1, hs2, hs3⟩ := hJ _ _ _ h0
  have hwalk : ∀ v W1, Boxed W1 W.heap.size 224 v → OwnR pair_R (W.heap.size + 1) v xs W1 → Below W.heap.size W W1 →
      CallsIn Fence.wide n Tryz.prog 119 #[.func (.yield lp) #[] #[], .pointer (some ⟨W.heap.size, 0, none⟩)] W1 fun e W' => (∃ v, e = .returned v) ∧ Leaves Ψ Φ0 W (fun Φ' W' => J xs Φ' W' ∨ ∃ pre, pre <+: xs ∧ Jx pre Φ' W') W' := by
    intro v W1 hb ho hB
    have hJ1 : J [] Φ0 W1 := hs3 W1 (Grow.of_below hB) (fun k hk => hB.block k (hk.elim (fun h => by omega) (fun h => (hs1 k h).2)))
    have hi := now1_iter_R n W.heap.size v xs W1 hb ho.reads hlen (fun k => W.heap.size ≤ k ∧ k < W1.heap.size) ⟨Nat.le_refl _, hb.lt⟩ (fun k hk => ⟨by have := (ho.block hk).1; omega, (ho.block hk).2⟩)
    have hcall := hi lp B Ψ J Jx Φ0 W1 (Grow.refl _) (fun k hk => ⟨hk.2, rfl⟩) (fun k hk => ⟨hΨ k hk, fun h => by have := hΨ k hk; omega⟩) (fun k hk h => by have := (hs1 k hk).2; omega) hJ hJx hround hJ1
    refine (callsIn_wide.2 (callsIn_wide.1 hcall)).mono ?_
    rintro e W' ⟨he, Φ', hn, ho', hR⟩
    exact ⟨he, Φ', fun k hk => (hn k hk).imp id (fun h => by have := hB.size; omega), (Only.of_later hB).trans ho' (fun j h => .inl h), hR⟩
  have HW := Lib.hid hwalk
  have HN := Lib.hid hnow
  clear hwalk hnow hround hJ hJx hG hΨ hsb hit hitW h0 hs1 hs3 hGs hGl hlen eg
  refine callsIn_of_wp Tryz.func139 rfl trivial ?_ rfl
  simp only [Tryz.ntmps139, List.size_toArray, List.length_cons, List.length_nil, Nat.reduceAdd, Nat.reduceSub, Array.replicate_succ, Array.replicate_zero, List.push_toArray, List.append_toArray, List.nil_append, List.cons_append]
  have en := enters_now_R
  gi_wp2_with (first
    | (gi_at_call 96; refine (callsIn_wide.2 HN.out).mono ?_; rintro e W1 ⟨v, rfl, hb, ho, hB⟩; have H1 := Lib.hid (And.intro hb (And.intro ho hB)); clear hb ho hB)
    | (refine ⟨trivial, ?_⟩; gi_at_call 96; refine (callsIn_wide.2 HN.out).mono ?_; rintro e W1 ⟨v, rfl, hb, ho, hB⟩; have H1 := Lib.hid (And.intro hb (And.intro ho hB)); clear hb ho hB)
    | (gi_at_call 119; refine (callsIn_wide.2 (callsIn_wide.1 (HW.out _ _ H1.out.1 H1.out.2.1 H1.out.2.2))).mono ?_; rintro e W' ⟨⟨v', rfl⟩, hR⟩; have H2 := Lib.hid hR; clear hR)
    | (refine ⟨trivial, ?_⟩; gi_at_call 119; refine (callsIn_wide.2 (callsIn_wide.1 (HW.out _ _ H1.out.1 H1.out.2.1 H1.out.2.2))).mono ?_; rintro e W' ⟨⟨v', rfl⟩, hR⟩; have H2 := Lib.hid hR; clear hR)
    | fail)
  refine bodyPost_end (results_none rfl _ _ _) rfl ?_
  exact ⟨⟨_, rfl⟩, H2.out⟩
end Go.Proofs.YtpkamfbjgdmmoaaGreat
end

section
namespace Go.Proofs.YtpkamfbjgdmmoaaGreat
open Go.RowKit Go.Maps Go.Shelf
set_option linter.unusedVariables false
set_option linter.unusedSimpArgs false

/-- A digest. -/
structure Hsh where
  l : List Nat
  ok : l.length = 32
deriving DecidableEq
theorem hshInfo : (Tryz.prog.info? 43).map (fun i => (i.zero, i.size)) = some (some (.agg (hsB hs0).toArray), 32) := by kernel_rfl
def hshS : StTy Tryz.prog Hsh where
  T := 43
  k := 32
  f := fun x => hsB x.l
  zero := ⟨hs0, rfl⟩
  len := fun x => by rw [hsB_len, x.ok]
  lit := fun x u hu => by
    obtain ⟨b, -, rfl⟩ := List.mem_map.1 hu
    trivial
  inj := fun x y h => by cases x; cases y; simp only [Hsh.mk.injEq]; exact hsB_inj h
  info := by
    obtain ⟨i0, hi, hz⟩ := Option.map_eq_some_iff.1 hshInfo
    simp only [Prod.mk.injEq] at hz
    exact ⟨i0, hi, hz.1, hz.2⟩
  row := ⟨_, Tryz.underlying43, rfl⟩
def loadSt_H (v : Value) : Sem Value := Instr.loadAt 43 v
theorem loadSt_H_hide (v : Value) : Instr.loadAt 43 v = loadSt_H v := rfl
def buildRf (ps : Array (Nat × Value)) : Sem Value := Instr.build 56 ps
theorem buildRf_hide (ps : Array (Nat × Value)) : Instr.build 56 ps = buildRf ps := rfl
/-- A new referendum. -/
def newX (t : Int) (h : Hsh) (af now a : Int) : Rfm := ⟨1, t, h.l, af, now, a, true, -1, -1, -1, 0, 0, 0, 0, h.ok⟩
set_option maxRecDepth 100000 in
theorem run_buildRf (t : Int) (h : Hsh) (af now a : Int) (w : World) : (buildRf #[(0, .int .i64 1), (1, .int .i64 t), (2, .agg (hsB h.l).toArray), (3, .int .i64 af), (4, .int .i64 now), (5, .int .i64 a), (6, .bool true), (7, .int .i64 (-1)), (8, .int .i64 (-1)), (9, .int .i64 (-1))]).run Tryz.prog w = .ok (.agg (rfS.f (newX t h af now a)).toArray) w := by
  obtain ⟨l, ok⟩ := h
  obtain ⟨a0, a1, a2, a3, a4, a5, a6, a7, a8, a9, b0, b1, b2, b3, b4, b5, b6, b7, b8, b9, c0, c1, c2, c3, c4, c5, c6, c7, c8, c9, d0, d1, rfl⟩ := list32 l ok
  kernel_rfl
/-- What Submit answers, and leaves. -/
def subE (ts : List Trk) (R : List Rfm) (S : Vs) (A : Acc) (M : Cls Int) (a t af : Int) : Int :=
  if ¬ (0 ≤ t ∧ t < ts.length) ∨ ¬ isAcc a ∨ ¬ (0 ≤ af ∧ af ≤ 1000) then 1 else if 12 ≤ R.length then 3 else if plHas S.P R.length then 5 else spendE A M a 10 false
def subN (ts : List Trk) (R : List Rfm) (S : Vs) (A : Acc) (M : Cls Int) (a t af : Int) : Int := if subE ts R S A M a t af = 0 then R.length else 0
def subR (ts : List Trk) (R : List Rfm) (S : Vs) (A : Acc) (M : Cls Int) (a t af : Int) (h : Hsh) (now : Int) : List Rfm := if subE ts R S A M a t af = 0 then R ++ [newX t h af now a] else R
def subS (ts : List Trk) (R : List Rfm) (S : Vs) (A : Acc) (M : Cls Int) (a t af : Int) : Vs := if subE ts R S A M a t af = 0 then openS S R.length t else S
def subA (ts : List Trk) (R : List Rfm) (S : Vs) (A : Acc) (M : Cls Int) (a t af : Int) : Acc := if subE ts R S A M a t af = 0 then reserveA A M a 10 else A
section
variable {r g vb N : Nat} {ts : List Trk} {R : List Rfm} {S : Vs} {A : Acc} {M : Cls Int} {Z : FP} {w : World}
/-- Behind the track's copy. -/
structure SubK (r g vb N : Nat) (ts : List Trk) (Z : FP) (w : World) (h : Hsh) (R : List Rfm) (S : Vs) (A : Acc) (M : Cls Int) (w3 wx : World) : Prop where
  x : RvToX r g vb N ts R S A M Z (fun _ => False) w3 wx
  b : Below w.heap.size w w3
  hl : w.heap.size < w3.heap.size
  hz : ¬ Z w.heap.size
  hx : wx.rangeAt w.heap.size 0 (hsB h.l)
theorem SubK.start (h0 : RvAt r g vb N ts R S A M Z w) (h : Hsh) {w3 : World} (hb : Below (w.heap.size + 1) (w.alloc (.cells (hsB h.l).toArray 43)) w3) : SubK r g vb N ts Z w h R S A M w3 w3 := by
  have hb0 : Below w.heap.size w (w.alloc (.cells (hsB h.l).toArray 43)) := (Below.refl _ w).alloc (Nat.le_refl _) _
  have hb3 : Below w.heap.size w w3 := hb0.trans (hb.mono (Nat.le_succ _))
  have hs := hb.size
  rw [World.size_alloc] at hs
  refine ⟨RvToX.start (h0.below hb3) (fun j hj => hj.elim), hb3, by omega, fun hf => by have := h0.lt hf; omega, rangeAt_block (rangeAt_whole (T := 43) (World.alloc_heap_new w _)) (hb.block _ (by omega))⟩
theorem SubK.fin {h0 : Hsh} {w3 wx : World} (h : SubK r g vb N ts Z w h0 R S A M w3 wx) : RvTo r g vb N ts R S A M Z w wx := h.x.fin h.b (fun j hj => hj.elim)
theorem SubK.len {h0 : Hsh} {w3 wx : World} (h : SubK r g vb N ts Z w h0 R S A M w3 wx) : ∃ gb, wx.cell? ⟨r, 1, none⟩ = some (.pointer (some ⟨gb, 0, none⟩)) ∧ Calls Tryz.prog 37 #[.pointer (some ⟨gb, 0, none⟩)] wx fun e w' => e = .returned (.int .i64 R.length) ∧ w' = wx := by
  obtain ⟨FR, hre, -⟩ := h.x.re
  obtain ⟨tb, cap, gb, FG, h1, h2, h3, h4, h5, h6, h7, h8, h9⟩ := hre
  have := grid_Len_R h4
  rw [tabR_len] at this
  exact ⟨gb, by rw [World.cell?, h1]; rfl, this⟩
theorem SubK.poll {h0 : Hsh} {w3 wx : World} (h : SubK r g vb N ts Z w h0 R S A M w3 wx) (k : Int) : Calls Tryz.prog 38 #[.pointer (some ⟨vb, 0, none⟩), .int .i64 k] wx fun e w' => e = .returned (.bool (decide (plHas S.P k))) ∧ SubK r g vb N ts Z w h0 R S A M w3 w' := by
  obtain ⟨F, hvo, lift⟩ := h.x.vo
  refine (refer_hasPoll hvo k).mono ?_
  rintro e w' ⟨he, hto⟩
  obtain ⟨x', st⟩ := lift _ _ hto
  exact ⟨he, x', h.b, h.hl, h.hz, rangeAt_block h.hx (st _ h.hl h.hz)⟩
theorem SubK.res {h0 : Hsh} {w3 wx : World} (h : SubK r g vb N ts Z w h0 R S A M w3 wx) {a : Int} (ha : (Lit.int .i64 a).wf = true) (n : Int) : Calls Tryz.prog 39 #[.pointer (some ⟨g, 0, none⟩), .int .i64 a, .int .i64 n] wx fun e w' => e = .returned (.int .i64 (spendE A M a n false)) ∧ SubK r g vb N ts Z w h0 R S (reserveA A M a n) M w3 w' := by
  obtain ⟨FL, hld, lift⟩ := h.x.ld
  refine (ledger_ReserveX hld ha n).mono ?_
  rintro e w' ⟨he, hto⟩
  obtain ⟨x', st⟩ := lift _ _ _ hto
  exact ⟨he, x', h.b, h.hl, h.hz, rangeAt_block h.hx (st _ h.hl h.hz)⟩
theorem SubK.open {h0 : Hsh} {w3 wx : World} (h : SubK r g vb N ts Z w h0 R S A M w3 wx) (k t : Int) : Calls Tryz.prog 40 #[.pointer (some ⟨vb, 0, none⟩), .int .i64 k, .int .i64 t] wx fun e w' => (∃ E, e = .returned (.int .i64 E)) ∧ SubK r g vb N ts Z w h0 R (openS S k t) A M w3 w' := by
  obtain ⟨F, hvo, lift⟩ := h.x.vo
  refine (hvo.Open k t).mono ?_
  rintro e w' ⟨he, hto⟩
  obtain ⟨x', st⟩ := lift _ _ hto
  exact ⟨⟨_, he⟩, x', h.b, h.hl, h.hz, rangeAt_block h.hx (st _ h.hl h.hz)⟩
theorem SubK.put {h0 : Hsh} {w3 wx : World} (h : SubK r g vb N ts Z w h0 R S A M w3 wx) (hl : R.length ≤ 12) (y : Rfm) : Calls Tryz.prog 41 #[.pointer (some ⟨r, 0, none⟩), .int .i64 R.length, .agg (rfS.f y).toArray] wx fun e w' => e = .returned (.tuple #[]) ∧ RvTo r g vb N ts (R ++ [y]) S A M Z w w' := by
  obtain ⟨FR, hre, lift⟩ := h.x.re
  refine (refer_set hre hre.size (R' := R ++ [y]) (Nat.le_refl _) (by omega) y (by rw [if_neg (by omega)])).mono ?_
  rintro e w' ⟨he, hto⟩
  exact ⟨he, (lift _ _ hto).1.fin h.b (fun j hj => hj.elim)⟩
theorem SubK.load {h0 : Hsh} {w3 wx : World} (h : SubK r g vb N ts Z w h0 R S A M w3 wx) : (loadSt_H (.pointer (some ⟨w.heap.size, 0, none⟩))).run Tryz.prog wx = .ok (.agg (hsB h0.l).toArray) wx := run_loadS (s := hshS) h.hx
set_option maxRecDepth 100000 in
set_option maxHeartbeats 4000000 in
attribute [local go_sem ↓] loadSt_R_hide loadSt_H_hide buildRf_hide in
theorem submit_no (h : RvAt r g vb N ts R S A M Z w) (hi : Rin ts R) {t : Int} (ht : ¬ (0 ≤ t ∧ t < ts.length)) (h0 : Hsh) (a af now : Int) : Calls Tryz.prog 14 #[.pointer (some ⟨r, 0, none⟩), .pointer (some ⟨g, 0, none⟩), .pointer (some ⟨vb, 0, none⟩), .int .i64 a, .int .i64 t, .agg (hsB h0.l).toArray, .int .i64 af, .int .i64 now] w fun e w' => e = .returned (.tuple #[.int .i64 0, .int .i64 1]) ∧ RvTo r g vb N ts R S A M Z w w' := by
  obtain ⟨W1, hW1⟩ : ∃ W1, W1 = w.alloc (.cells (hsB h0.l).toArray 43) := ⟨_, rfl⟩
  obtain ⟨hb, hhb⟩ : ∃ hb, hb = w.heap.size := ⟨_, rfl⟩
  have hB1 : Below w.heap.size w W1 := by rw [hW1]; exact (Below.refl _ w).alloc (Nat.le_refl _) _
  have hs1 : W1.heap.size = hb + 1 := by rw [hW1, hhb]; simp
  obtain ⟨FR, hre, -⟩ := (h.below hB1).re
  have htk := refer_Track_no (hre.at (by have := hi.tlen; omega)) ht
  have fin : ∀ w2, Below W1.heap.size W1 w2 → RvTo r g vb N ts R S A M Z w (w2.alloc (.cells (trkR.f trk0).toArray 26)) := fun w2 hb2 => RvTo.of_below h (hB1.trans ((hb2.mono (by omega)).trans ((Below.refl _ w2).alloc (by have := hb2.size; omega) _)))
  have HF := Lib.hid fin
  have HT := Lib.hid htk
  have HW1 := Lib.hid (And.intro hW1 hhb)
  clear h hi ht hre htk fin hB1 hs1 hW1 hhb
  go_enter Tryz.func14, Tryz.ntmps14
  go_upto_region 1 with fail
  rw [← HW1.out.1, ← HW1.out.2]
  go_wp2_with (first
    | (go_at_call 30; refine HT.out.mono ?_; rintro e w2 ⟨rfl, hb2⟩; have H2 := Lib.hid hb2; clear hb2)
    | (refine wpl_allocR (r := trkR) (ty := 26) rfl rfl rfl ?_; intro C hC; have HC := Lib.hid hC; clear hC)
    | (refine wpl_storeR (r := trkR) (ty := 26) (t := trk0) (C := C) _ _ rfl rfl rfl rfl rfl (World.alloc_heap_new w2 _) HC.out ?_; rw [World.setRow_alloc_new])
    | fail)
  exact bodyPost_ret (v := .tuple #[.int .i64 0, .int .i64 1]) (by simp [results, Tryz.results14, go_sem]) rfl ⟨rfl, HF.out _ H2.out⟩
set_option maxRecDepth 100000 in
set_option maxHeartbeats 4000000 in
attribute [local go_sem ↓] loadSt_R_hide loadSt_H_hide buildRf_hide in
theorem submit_acc (h : RvAt r g vb N ts R S A M Z w) (hi : Rin ts R) {k : Nat} (hk : k < ts.length) (h0 : Hsh) {a : Int} (af now : Int) (hac : ¬ isAcc a) : Calls Tryz.prog 14 #[.pointer (some ⟨r, 0, none⟩), .pointer (some ⟨g, 0, none⟩), .pointer (some ⟨vb, 0, none⟩), .int .i64 a, .int .i64 k, .agg (hsB h0.l).toArray, .int .i64 af, .int .i64 now] w fun e w' => e = .returned (.tuple #[.int .i64 0, .int .i64 1]) ∧ RvTo r g vb N ts R S A M Z w w' := by
  obtain ⟨W1, hW1⟩ : ∃ W1, W1 = w.alloc (.cells (hsB h0.l).toArray 43) := ⟨_, rfl⟩
  obtain ⟨hb, hhb⟩ : ∃ hb, hb = w.heap.size := ⟨_, rfl⟩
  have hB1 : Below w.heap.size w W1 := by rw [hW1]; exact (Below.refl _ w).alloc (Nat.le_refl _) _
  have hs1 : W1.heap.size = hb + 1 := by rw [hW1, hhb]; simp
  obtain ⟨FR, hre, -⟩ := (h.below hB1).re
  obtain ⟨tr, htr⟩ : ∃ tr, tr = ts[k] := ⟨_, rfl⟩
  have htk := refer_Track (hre.at (by have := hi.tlen; omega)) hk
  rw [← htr] at htk
  have hst : ∀ w2, Below W1.heap.size W1 w2 → SubK r g vb N ts Z w h0 R S A M (w2.alloc (.cells (trkR.f tr).toArray 26)) (w2.alloc (.cells (trkR.f tr).toArray 26)) := fun w2 hb2 => SubK.start h h0 (by rw [← hW1, ← hhb, ← hs1]; exact hb2.alloc hb2.size _)
  have HST := Lib.hid hst
  have HT := Lib.hid htk
  have HLN := Lib.hid hi.len
  have HA := Lib.hid (show decide (0 ≤ a ∧ a < 10) = false from decide_eq_false (by unfold isAcc at hac; exact hac))
  have HW1 := Lib.hid (And.intro hW1 hhb)
  clear h hi hk hre htk hst hB1 hs1 hW1 hhb htr hac
  go_enter Tryz.func14, Tryz.ntmps14
  go_upto_region 1 with fail
  rw [← HW1.out.1, ← HW1.out.2]
  go_upto_region 2 with (first
    | (go_at_call 30; refine HT.out.mono ?_; rintro e w2 ⟨rfl, hb2⟩; have H2 := Lib.hid hb2; clear hb2)
    | (refine wpl_allocR (r := trkR) (ty := 26) rfl rfl rfl ?_; intro C hC; have HC := Lib.hid hC; clear hC)
    | (refine wpl_storeR (r := trkR) (ty := 26) (t := tr) (C := C) _ _ rfl rfl rfl rfl rfl (World.alloc_heap_new w2 _) HC.out ?_; rw [World.setRow_alloc_new])
    | fail)
  have k3 := HST.out w2 H2.out
  obtain ⟨w3, hw3⟩ : ∃ w3, w3 = w2.alloc (.cells (trkR.f tr).toArray 26) := ⟨_, rfl⟩
  rw [show w2.alloc (.cells (trkR.f tr).toArray 26) = w3 from hw3.symm] at k3
  first | rw [← hw3] | rw [show w2.alloc (.cells (trkR.f tr).toArray trkR.T) = w3 from hw3.symm]
  obtain ⟨gb, cg, hlen⟩ := k3.len
  have K3 := Lib.hid k3
  have HLEN := Lib.hid hlen
  clear k3 hw3 hlen
  go_wp2_with (first
    | (go_at_call 35; refine (bound_Account _ _).mono ?_; rw [HA.out]; rintro e w' ⟨rfl, hw⟩; rw [hw]; clear hw w')
    | fail)
  exact bodyPost_ret (v := .tuple #[.int .i64 0, .int .i64 1]) (by simp [results, Tryz.results14, go_sem]) rfl ⟨rfl, K3.out.fin⟩
set_option maxRecDepth 100000 in
set_option maxHeartbeats 4000000 in
attribute [local go_sem ↓] loadSt_R_hide loadSt_H_hide buildRf_hide in
theorem submit_aft (h : RvAt r g vb N ts R S A M Z w) (hi : Rin ts R) {k : Nat} (hk : k < ts.length) (h0 : Hsh) {a : Int} (af now : Int) (hac : isAcc a) (haf : ¬ (0 ≤ af ∧ af ≤ 1000)) : Calls Tryz.prog 14 #[.pointer (some ⟨r, 0, none⟩), .pointer (some ⟨g, 0, none⟩), .pointer (some ⟨vb, 0, none⟩), .int .i64 a, .int .i64 k, .agg (hsB h0.l).toArray, .int .i64 af, .int .i64 now] w fun e w' => e = .returned (.tuple #[.int .i64 0, .int .i64 1]) ∧ RvTo r g vb N ts R S A M Z w w' := by
  obtain ⟨W1, hW1⟩ : ∃ W1, W1 = w.alloc (.cells (hsB h0.l).toArray 43) := ⟨_, rfl⟩
  obtain ⟨hb, hhb⟩ : ∃ hb, hb = w.heap.size := ⟨_, rfl⟩
  have hB1 : Below w.heap.size w W1 := by rw [hW1]; exact (Below.refl _ w).alloc (Nat.le_refl _) _
  have hs1 : W1.heap.size = hb + 1 := by rw [hW1, hhb]; simp
  obtain ⟨FR, hre, -⟩ := (h.below hB1).re
  obtain ⟨tr, htr⟩ : ∃ tr, tr = ts[k] := ⟨_, rfl⟩
  have htk := refer_Track (hre.at (by have := hi.tlen; omega)) hk
  rw [← htr] at htk
  have hst : ∀ w2, Below W1.heap.size W1 w2 → SubK r g vb N ts Z w h0 R S A M (w2.alloc (.cells (trkR.f tr).toArray 26)) (w2.alloc (.cells (trkR.f tr).toArray 26)) := fun w2 hb2 => SubK.start h h0 (by rw [← hW1, ← hhb, ← hs1]; exact hb2.alloc hb2.size _)
  have HST := Lib.hid hst
  have HT := Lib.hid htk
  have HLN := Lib.hid hi.len
  have HA := Lib.hid (show decide (0 ≤ a ∧ a < 10) = true from decide_eq_true (by unfold isAcc at hac; exact hac))
  have HW := Lib.hid (show decide (0 ≤ af ∧ af ≤ 1000) = false from decide_eq_false haf)
  have HW1 := Lib.hid (And.intro hW1 hhb)
  clear h hi hk hre htk hst hB1 hs1 hW1 hhb htr hac haf
  go_enter Tryz.func14, Tryz.ntmps14
  go_upto_region 1 with fail
  rw [← HW1.out.1, ← HW1.out.2]
  go_upto_region 2 with (first
    | (go_at_call 30; refine HT.out.mono ?_; rintro e w2 ⟨rfl, hb2⟩; have H2 := Lib.hid hb2; clear hb2)
    | (refine wpl_allocR (r := trkR) (ty := 26) rfl rfl rfl ?_; intro C hC; have HC := Lib.hid hC; clear hC)
    | (refine wpl_storeR (r := trkR) (ty := 26) (t := tr) (C := C) _ _ rfl rfl rfl rfl rfl (World.alloc_heap_new w2 _) HC.out ?_; rw [World.setRow_alloc_new])
    | fail)
  have k3 := HST.out w2 H2.out
  obtain ⟨w3, hw3⟩ : ∃ w3, w3 = w2.alloc (.cells (trkR.f tr).toArray 26) := ⟨_, rfl⟩
  rw [show w2.alloc (.cells (trkR.f tr).toArray 26) = w3 from hw3.symm] at k3
  first | rw [← hw3] | rw [show w2.alloc (.cells (trkR.f tr).toArray trkR.T) = w3 from hw3.symm]
  obtain ⟨gb, cg, hlen⟩ := k3.len
  have K3 := Lib.hid k3
  have HLEN := Lib.hid hlen
  clear k3 hw3 hlen
  go_wp2_with (first
    | (go_at_call 35; refine (bound_Account _ _).mono ?_; rw [HA.out]; rintro e w' ⟨rfl, hw⟩; rw [hw]; clear hw w')
    | (go_at_call 36; refine (bound_Within _ _ _ _).mono ?_; rw [HW.out]; rintro e w' ⟨rfl, hw⟩; rw [hw]; clear hw w')
    | fail)
  exact bodyPost_ret (v := .tuple #[.int .i64 0, .int .i64 1]) (by simp [results, Tryz.results14, go_sem]) rfl ⟨rfl, K3.out.fin⟩
set_option maxRecDepth 100000 in
set_option maxHeartbeats 4000000 in
attribute [local go_sem ↓] loadSt_R_hide loadSt_H_hide buildRf_hide in
theorem submit_full (h : RvAt r g vb N ts R S A M Z w) (hi : Rin ts R) {k : Nat} (hk : k < ts.length) (h0 : Hsh) {a : Int} (af now : Int) (hac : isAcc a) (haf : 0 ≤ af ∧ af ≤ 1000) (hfu : 12 ≤ R.length) : Calls Tryz.prog 14 #[.pointer (some ⟨r, 0, none⟩), .pointer (some ⟨g, 0, none⟩), .pointer (some ⟨vb, 0, none⟩), .int .i64 a, .int .i64 k, .agg (hsB h0.l).toArray, .int .i64 af, .int .i64 now] w fun e w' => e = .returned (.tuple #[.int .i64 0, .int .i64 3]) ∧ RvTo r g vb N ts R S A M Z w w' := by
  obtain ⟨W1, hW1⟩ : ∃ W1, W1 = w.alloc (.cells (hsB h0.l).toArray 43) := ⟨_, rfl⟩
  obtain ⟨hb, hhb⟩ : ∃ hb, hb = w.heap.size := ⟨_, rfl⟩
  have hB1 : Below w.heap.size w W1 := by rw [hW1]; exact (Below.refl _ w).alloc (Nat.le_refl _) _
  have hs1 : W1.heap.size = hb + 1 := by rw [hW1, hhb]; simp
  obtain ⟨FR, hre, -⟩ := (h.below hB1).re
  obtain ⟨tr, htr⟩ : ∃ tr, tr = ts[k] := ⟨_, rfl⟩
  have htk := refer_Track (hre.at (by have := hi.tlen; omega)) hk
  rw [← htr] at htk
  have hst : ∀ w2, Below W1.heap.size W1 w2 → SubK r g vb N ts Z w h0 R S A M (w2.alloc (.cells (trkR.f tr).toArray 26)) (w2.alloc (.cells (trkR.f tr).toArray 26)) := fun w2 hb2 => SubK.start h h0 (by rw [← hW1, ← hhb, ← hs1]; exact hb2.alloc hb2.size _)
  have HST := Lib.hid hst
  have HT := Lib.hid htk
  have HLN := Lib.hid hi.len
  have HA := Lib.hid (show decide (0 ≤ a ∧ a < 10) = true from decide_eq_true (by unfold isAcc at hac; exact hac))
  have HW := Lib.hid (show decide (0 ≤ af ∧ af ≤ 1000) = true from decide_eq_true haf)
  have hg : decide ((12 : Int) ≤ (R.length : Int)) = true := decide_eq_true (by omega)
  have HW1 := Lib.hid (And.intro hW1 hhb)
  clear h hi hk hre htk hst hB1 hs1 hW1 hhb htr hac haf hfu
  go_enter Tryz.func14, Tryz.ntmps14
  go_upto_region 1 with fail
  rw [← HW1.out.1, ← HW1.out.2]
  go_upto_region 2 with (first
    | (go_at_call 30; refine HT.out.mono ?_; rintro e w2 ⟨rfl, hb2⟩; have H2 := Lib.hid hb2; clear hb2)
    | (refine wpl_allocR (r := trkR) (ty := 26) rfl rfl rfl ?_; intro C hC; have HC := Lib.hid hC; clear hC)
    | (refine wpl_storeR (r := trkR) (ty := 26) (t := tr) (C := C) _ _ rfl rfl rfl rfl rfl (World.alloc_heap_new w2 _) HC.out ?_; rw [World.setRow_alloc_new])
    | fail)
  have k3 := HST.out w2 H2.out
  obtain ⟨w3, hw3⟩ : ∃ w3, w3 = w2.alloc (.cells (trkR.f tr).toArray 26) := ⟨_, rfl⟩
  rw [show w2.alloc (.cells (trkR.f tr).toArray 26) = w3 from hw3.symm] at k3
  first | rw [← hw3] | rw [show w2.alloc (.cells (trkR.f tr).toArray trkR.T) = w3 from hw3.symm]
  obtain ⟨gb, cg, hlen⟩ := k3.len
  have K3 := Lib.hid k3
  have HLEN := Lib.hid hlen
  clear k3 hw3 hlen
  go_wp2_with (first
    | (go_at_call 35; refine (bound_Account _ _).mono ?_; rw [HA.out]; rintro e w' ⟨rfl, hw⟩; rw [hw]; clear hw w')
    | (go_at_call 36; refine (bound_Within _ _ _ _).mono ?_; rw [HW.out]; rintro e w' ⟨rfl, hw⟩; rw [hw]; clear hw w')
    | (go_at_call 37; refine HLEN.out.mono ?_; rintro e w' ⟨rfl, hw⟩; rw [hw]; clear hw w')
    | fail)
  exact bodyPost_ret (v := .tuple #[.int .i64 0, .int .i64 3]) (by simp [results, Tryz.results14, go_sem]) rfl ⟨rfl, K3.out.fin⟩
set_option maxRecDepth 100000 in
set_option maxHeartbeats 4000000 in
attribute [local go_sem ↓] loadSt_R_hide loadSt_H_hide buildRf_hide in
theorem submit_poll (h : RvAt r g vb N ts R S A M Z w) (hi : Rin ts R) {k : Nat} (hk : k < ts.length) (h0 : Hsh) {a : Int} (af now : Int) (hac : isAcc a) (haf : 0 ≤ af ∧ af ≤ 1000) (hfu : R.length < 12) (hpo : plHas S.P R.length) : Calls Tryz.prog 14 #[.pointer (some ⟨r, 0, none⟩), .pointer (some ⟨g, 0, none⟩), .pointer (some ⟨vb, 0, none⟩), .int .i64 a, .int .i64 k, .agg (hsB h0.l).toArray, .int .i64 af, .int .i64 now] w fun e w' => e = .returned (.tuple #[.int .i64 0, .int .i64 5]) ∧ RvTo r g vb N ts R S A M Z w w' := by
  obtain ⟨W1, hW1⟩ : ∃ W1, W1 = w.alloc (.cells (hsB h0.l).toArray 43) := ⟨_, rfl⟩
  obtain ⟨hb, hhb⟩ : ∃ hb, hb = w.heap.size := ⟨_, rfl⟩
  have hB1 : Below w.heap.size w W1 := by rw [hW1]; exact (Below.refl _ w).alloc (Nat.le_refl _) _
  have hs1 : W1.heap.size = hb + 1 := by rw [hW1, hhb]; simp
  obtain ⟨FR, hre, -⟩ := (h.below hB1).re
  obtain ⟨tr, htr⟩ : ∃ tr, tr = ts[k] := ⟨_, rfl⟩
  have htk := refer_Track (hre.at (by have := hi.tlen; omega)) hk
  rw [← htr] at htk
  have hst : ∀ w2, Below W1.heap.size W1 w2 → SubK r g vb N ts Z w h0 R S A M (w2.alloc (.cells (trkR.f tr).toArray 26)) (w2.alloc (.cells (trkR.f tr).toArray 26)) := fun w2 hb2 => SubK.start h h0 (by rw [← hW1, ← hhb, ← hs1]; exact hb2.alloc hb2.size _)
  have HST := Lib.hid hst
  have HT := Lib.hid htk
  have HLN := Lib.hid hi.len
  have HA := Lib.hid (show decide (0 ≤ a ∧ a < 10) = true from decide_eq_true (by unfold isAcc at hac; exact hac))
  have HW := Lib.hid (show decide (0 ≤ af ∧ af ≤ 1000) = true from decide_eq_true haf)
  have hg : decide ((12 : Int) ≤ (R.length : Int)) = false := decide_eq_false (by omega)
  have HP := Lib.hid (show decide (plHas S.P R.length) = true from decide_eq_true hpo)
  have HW1 := Lib.hid (And.intro hW1 hhb)
  clear h hi hk hre htk hst hB1 hs1 hW1 hhb htr hac haf hfu hpo
  go_enter Tryz.func14, Tryz.ntmps14
  go_upto_region 1 with fail
  rw [← HW1.out.1, ← HW1.out.2]
  go_upto_region 2 with (first
    | (go_at_call 30; refine HT.out.mono ?_; rintro e w2 ⟨rfl, hb2⟩; have H2 := Lib.hid hb2; clear hb2)
    | (refine wpl_allocR (r := trkR) (ty := 26) rfl rfl rfl ?_; intro C hC; have HC := Lib.hid hC; clear hC)
    | (refine wpl_storeR (r := trkR) (ty := 26) (t := tr) (C := C) _ _ rfl rfl rfl rfl rfl (World.alloc_heap_new w2 _) HC.out ?_; rw [World.setRow_alloc_new])
    | fail)
  have k3 := HST.out w2 H2.out
  obtain ⟨w3, hw3⟩ : ∃ w3, w3 = w2.alloc (.cells (trkR.f tr).toArray 26) := ⟨_, rfl⟩
  rw [show w2.alloc (.cells (trkR.f tr).toArray 26) = w3 from hw3.symm] at k3
  first | rw [← hw3] | rw [show w2.alloc (.cells (trkR.f tr).toArray trkR.T) = w3 from hw3.symm]
  obtain ⟨gb, cg, hlen⟩ := k3.len
  have K3 := Lib.hid k3
  have HLEN := Lib.hid hlen
  clear k3 hw3 hlen
  go_wp2_with (first
    | (go_at_call 35; refine (bound_Account _ _).mono ?_; rw [HA.out]; rintro e w' ⟨rfl, hw⟩; rw [hw]; clear hw w')
    | (go_at_call 36; refine (bound_Within _ _ _ _).mono ?_; rw [HW.out]; rintro e w' ⟨rfl, hw⟩; rw [hw]; clear hw w')
    | (go_at_call 37; refine HLEN.out.mono ?_; rintro e w' ⟨rfl, hw⟩; rw [hw]; clear hw w')
    | (go_at_call 38; refine (K3.out.poll _).mono ?_; rw [HP.out]; rintro e w4 ⟨rfl, hk⟩; have K4 := Lib.hid hk; clear hk)
    | fail)
  exact bodyPost_ret (v := .tuple #[.int .i64 0, .int .i64 5]) (by simp [results, Tryz.results14, go_sem]) rfl ⟨rfl, K4.out.fin⟩
set_option maxRecDepth 100000 in
set_option maxHeartbeats 4000000 in
attribute [local go_sem ↓] loadSt_R_hide loadSt_H_hide buildRf_hide in
theorem submit_fund (h : RvAt r g vb N ts R S A M Z w) (hi : Rin ts R) {k : Nat} (hk : k < ts.length) (h0 : Hsh) {a : Int} (af now : Int) (ha : (Lit.int .i64 a).wf = true) (hac : isAcc a) (haf : 0 ≤ af ∧ af ≤ 1000) (hfu : R.length < 12) (hpo : ¬ plHas S.P R.length) {E : Int} (hE : spendE A M a 10 false = E) (hne : E ≠ 0) : Calls Tryz.prog 14 #[.pointer (some ⟨r, 0, none⟩), .pointer (some ⟨g, 0, none⟩), .pointer (some ⟨vb, 0, none⟩), .int .i64 a, .int .i64 k, .agg (hsB h0.l).toArray, .int .i64 af, .int .i64 now] w fun e w' => e = .returned (.tuple #[.int .i64 0, .int .i64 E]) ∧ RvTo r g vb N ts R S A M Z w w' := by
  obtain ⟨W1, hW1⟩ : ∃ W1, W1 = w.alloc (.cells (hsB h0.l).toArray 43) := ⟨_, rfl⟩
  obtain ⟨hb, hhb⟩ : ∃ hb, hb = w.heap.size := ⟨_, rfl⟩
  have hB1 : Below w.heap.size w W1 := by rw [hW1]; exact (Below.refl _ w).alloc (Nat.le_refl _) _
  have hs1 : W1.heap.size = hb + 1 := by rw [hW1, hhb]; simp
  obtain ⟨FR, hre, -⟩ := (h.below hB1).re
  obtain ⟨tr, htr⟩ : ∃ tr, tr = ts[k] := ⟨_, rfl⟩
  have htk := refer_Track (hre.at (by have := hi.tlen; omega)) hk
  rw [← htr] at htk
  have hst : ∀ w2, Below W1.heap.size W1 w2 → SubK r g vb N ts Z w h0 R S A M (w2.alloc (.cells (trkR.f tr).toArray 26)) (w2.alloc (.cells (trkR.f tr).toArray 26)) := fun w2 hb2 => SubK.start h h0 (by rw [← hW1, ← hhb, ← hs1]; exact hb2.alloc hb2.size _)
  have HST := Lib.hid hst
  have HT := Lib.hid htk
  have HLN := Lib.hid hi.len
  have HA := Lib.hid (show decide (0 ≤ a ∧ a < 10) = true from decide_eq_true (by unfold isAcc at hac; exact hac))
  have HW := Lib.hid (show decide (0 ≤ af ∧ af ≤ 1000) = true from decide_eq_true haf)
  have hg : decide ((12 : Int) ≤ (R.length : Int)) = false := decide_eq_false (by omega)
  have HP := Lib.hid (show decide (plHas S.P R.length) = false from decide_eq_false hpo)
  have HWA := Lib.hid ha
  have HRA := Lib.hid (show reserveA A M a 10 = A by unfold reserveA; rw [if_neg (by rw [hE]; exact hne)])
  have HE := Lib.hid hE
  have qE : (E != 0) = true := by simpa using hne
  have HW1 := Lib.hid (And.intro hW1 hhb)
  clear h hi hk hre htk hst hB1 hs1 hW1 hhb htr ha hac haf hfu hpo hE hne
  go_enter Tryz.func14, Tryz.ntmps14
  go_upto_region 1 with fail
  rw [← HW1.out.1, ← HW1.out.2]
  go_upto_region 2 with (first
    | (go_at_call 30; refine HT.out.mono ?_; rintro e w2 ⟨rfl, hb2⟩; have H2 := Lib.hid hb2; clear hb2)
    | (refine wpl_allocR (r := trkR) (ty := 26) rfl rfl rfl ?_; intro C hC; have HC := Lib.hid hC; clear hC)
    | (refine wpl_storeR (r := trkR) (ty := 26) (t := tr) (C := C) _ _ rfl rfl rfl rfl rfl (World.alloc_heap_new w2 _) HC.out ?_; rw [World.setRow_alloc_new])
    | fail)
  have k3 := HST.out w2 H2.out
  obtain ⟨w3, hw3⟩ : ∃ w3, w3 = w2.alloc (.cells (trkR.f tr).toArray 26) := ⟨_, rfl⟩
  rw [show w2.alloc (.cells (trkR.f tr).toArray 26) = w3 from hw3.symm] at k3
  first | rw [← hw3] | rw [show w2.alloc (.cells (trkR.f tr).toArray trkR.T) = w3 from hw3.symm]
  obtain ⟨gb, cg, hlen⟩ := k3.len
  have K3 := Lib.hid k3
  have HLEN := Lib.hid hlen
  clear k3 hw3 hlen
  go_wp2_with (first
    | (go_at_call 35; refine (bound_Account _ _).mono ?_; rw [HA.out]; rintro e w' ⟨rfl, hw⟩; rw [hw]; clear hw w')
    | (go_at_call 36; refine (bound_Within _ _ _ _).mono ?_; rw [HW.out]; rintro e w' ⟨rfl, hw⟩; rw [hw]; clear hw w')
    | (go_at_call 37; refine HLEN.out.mono ?_; rintro e w' ⟨rfl, hw⟩; rw [hw]; clear hw w')
    | (go_at_call 38; refine (K3.out.poll _).mono ?_; rw [HP.out]; rintro e w4 ⟨rfl, hk⟩; have K4 := Lib.hid hk; clear hk)
    | (go_at_call 39; refine (K4.out.res HWA.out _).mono ?_; rw [HE.out]; rintro e w5 ⟨rfl, hk⟩; have K5 := Lib.hid hk; clear hk)
    | fail)
  exact bodyPost_ret (v := .tuple #[.int .i64 0, .int .i64 E]) (by simp [results, Tryz.results14, go_sem]) rfl ⟨rfl, by have := K5.out.fin; rwa [HRA.out] at this⟩
set_option maxRecDepth 100000 in
set_option maxHeartbeats 4000000 in
attribute [local go_sem ↓] loadSt_R_hide loadSt_H_hide buildRf_hide in
theorem submit_ok (h : RvAt r g vb N ts R S A M Z w) (hi : Rin ts R) {k : Nat} (hk : k < ts.length) (h0 : Hsh) {a : Int} (af now : Int) (ha : (Lit.int .i64 a).wf = true) (hac : isAcc a) (haf : 0 ≤ af ∧ af ≤ 1000) (hfu : R.length < 12) (hpo : ¬ plHas S.P R.length) (hE : spendE A M a 10 false = 0) : Calls Tryz.prog 14 #[.pointer (some ⟨r, 0, none⟩), .pointer (some ⟨g, 0, none⟩), .pointer (some ⟨vb, 0, none⟩), .int .i64 a, .int .i64 k, .agg (hsB h0.l).toArray, .int .i64 af, .int .i64 now] w fun e w' => e = .returned (.tuple #[.int .i64 R.length, .int .i64 0]) ∧ RvTo r g vb N ts (R ++ [newX k h0 af now a]) (openS S R.length k) (reserveA A M a 10) M Z w w' := by
  obtain ⟨W1, hW1⟩ : ∃ W1, W1 = w.alloc (.cells (hsB h0.l).toArray 43) := ⟨_, rfl⟩
  obtain ⟨hb, hhb⟩ : ∃ hb, hb = w.heap.size := ⟨_, rfl⟩
  have hB1 : Below w.heap.size w W1 := by rw [hW1]; exact (Below.refl _ w).alloc (Nat.le_refl _) _
  have hs1 : W1.heap.size = hb + 1 := by rw [hW1, hhb]; simp
  obtain ⟨FR, hre, -⟩ := (h.below hB1).re
  obtain ⟨tr, htr⟩ : ∃ tr, tr = ts[k] := ⟨_, rfl⟩
  have htk := refer_Track (hre.at (by have := hi.tlen; omega)) hk
  rw [← htr] at htk
  have hst : ∀ w2, Below W1.heap.size W1 w2 → SubK r g vb N ts Z w h0 R S A M (w2.alloc (.cells (trkR.f tr).toArray 26)) (w2.alloc (.cells (trkR.f tr).toArray 26)) := fun w2 hb2 => SubK.start h h0 (by rw [← hW1, ← hhb, ← hs1]; exact hb2.alloc hb2.size _)
  have HST := Lib.hid hst
  have HT := Lib.hid htk
  have HLN := Lib.hid hi.len
  have HA := Lib.hid (show decide (0 ≤ a ∧ a < 10) = true from decide_eq_true (by unfold isAcc at hac; exact hac))
  have HW := Lib.hid (show decide (0 ≤ af ∧ af ≤ 1000) = true from decide_eq_true haf)
  have hg : decide ((12 : Int) ≤ (R.length : Int)) = false := decide_eq_false (by omega)
  have HP := Lib.hid (show decide (plHas S.P R.length) = false from decide_eq_false hpo)
  have HWA := Lib.hid ha
  have HE := Lib.hid hE
  have HBR := Lib.hid (run_buildRf k h0 af now a)
  have HW1 := Lib.hid (And.intro hW1 hhb)
  clear h hi hk hre htk hst hB1 hs1 hW1 hhb htr ha hac haf hfu hpo hE
  go_enter Tryz.func14, Tryz.ntmps14
  go_upto_region 1 with fail
  rw [← HW1.out.1, ← HW1.out.2]
  go_upto_region 2 with (first
    | (go_at_call 30; refine HT.out.mono ?_; rintro e w2 ⟨rfl, hb2⟩; have H2 := Lib.hid hb2; clear hb2)
    | (refine wpl_allocR (r := trkR) (ty := 26) rfl rfl rfl ?_; intro C hC; have HC := Lib.hid hC; clear hC)
    | (refine wpl_storeR (r := trkR) (ty := 26) (t := tr) (C := C) _ _ rfl rfl rfl rfl rfl (World.alloc_heap_new w2 _) HC.out ?_; rw [World.setRow_alloc_new])
    | fail)
  have k3 := HST.out w2 H2.out
  obtain ⟨w3, hw3⟩ : ∃ w3, w3 = w2.alloc (.cells (trkR.f tr).toArray 26) := ⟨_, rfl⟩
  rw [show w2.alloc (.cells (trkR.f tr).toArray 26) = w3 from hw3.symm] at k3
  first | rw [← hw3] | rw [show w2.alloc (.cells (trkR.f tr).toArray trkR.T) = w3 from hw3.symm]
  obtain ⟨gb, cg, hlen⟩ := k3.len
  have K3 := Lib.hid k3
  have HLEN := Lib.hid hlen
  clear k3 hw3 hlen
  go_wp2_with (first
    | (go_at_call 35; refine (bound_Account _ _).mono ?_; rw [HA.out]; rintro e w' ⟨rfl, hw⟩; rw [hw]; clear hw w')
    | (go_at_call 36; refine (bound_Within _ _ _ _).mono ?_; rw [HW.out]; rintro e w' ⟨rfl, hw⟩; rw [hw]; clear hw w')
    | (go_at_call 37; refine HLEN.out.mono ?_; rintro e w' ⟨rfl, hw⟩; rw [hw]; clear hw w')
    | (go_at_call 38; refine (K3.out.poll _).mono ?_; rw [HP.out]; rintro e w4 ⟨rfl, hk⟩; have K4 := Lib.hid hk; clear hk)
    | (go_at_call 39; refine (K4.out.res HWA.out _).mono ?_; rw [HE.out]; rintro e w5 ⟨rfl, hk⟩; have K5 := Lib.hid hk; clear hk)
    | (go_at_call 40; refine (K5.out.open _ _).mono ?_; rintro e w6 ⟨⟨E6, rfl⟩, hk⟩; have K6 := Lib.hid hk; have l6 := K6.out.load; rw [← HW1.out.2] at l6; have b6 := HBR.out w6; clear hk)
    | (go_at_call 41; refine (K6.out.put HLN.out _).mono ?_; rintro e w7 ⟨rfl, hk⟩; have K7 := Lib.hid hk; clear hk)
    | fail)
  exact bodyPost_ret (v := .tuple #[.int .i64 R.length, .int .i64 0]) (by simp [results, Tryz.results14, go_sem]) rfl ⟨rfl, K7.out⟩
theorem refer_Submit (h : RvAt r g vb N ts R S A M Z w) (hi : Rin ts R) {a : Int} (ha : (Lit.int .i64 a).wf = true) (t : Int) (h0 : Hsh) (af now : Int) : Calls Tryz.prog 14 #[.pointer (some ⟨r, 0, none⟩), .pointer (some ⟨g, 0, none⟩), .pointer (some ⟨vb, 0, none⟩), .int .i64 a, .int .i64 t, .agg (hsB h0.l).toArray, .int .i64 af, .int .i64 now] w fun e w' => e = .returned (.tuple #[.int .i64 (subN ts R S A M a t af), .int .i64 (subE ts R S A M a t af)]) ∧ RvTo r g vb N ts (subR ts R S A M a t af h0 now) (subS ts R S A M a t af) (subA ts R S A M a t af) M Z w w' := by
  have bad : ∀ E, subE ts R S A M a t af = E → E ≠ 0 → subN ts R S A M a t af = 0 ∧ subR ts R S A M a t af h0 now = R ∧ subS ts R S A M a t af = S ∧ subA ts R S A M a t af = A := fun E h1 h2 => by
    have hn : ¬ subE ts R S A M a t af = 0 := by rw [h1]; exact h2
    exact ⟨by unfold subN; rw [if_neg hn], by unfold subR; rw [if_neg hn], by unfold subS; rw [if_neg hn], by unfold subA; rw [if_neg hn]⟩
  by_cases ht : 0 ≤ t ∧ t < ts.length
  · obtain ⟨k, rfl⟩ := Int.eq_ofNat_of_zero_le ht.1
    have hk : k < ts.length := by omega
    by_cases hac : isAcc a
    · by_cases haf : 0 ≤ af ∧ af ≤ 1000
      · have hc : ¬ (¬ (0 ≤ (k : Int) ∧ (k : Int) < ts.length) ∨ ¬ isAcc a ∨ ¬ (0 ≤ af ∧ af ≤ 1000)) := fun q => q.elim (fun q => q ht) (fun q => q.elim (fun q => q hac) (fun q => q haf))
        by_cases hfu : 12 ≤ R.length
        · have e : subE ts R S A M a k af = 3 := by unfold subE; rw [if_neg hc, if_pos hfu]
          obtain ⟨e1, e2, e3, e4⟩ := bad 3 e (by decide)
          rw [e, e1, e2, e3, e4]
          exact submit_full h hi hk h0 af now hac haf hfu
        · by_cases hpo : plHas S.P R.length
          · have e : subE ts R S A M a k af = 5 := by unfold subE; rw [if_neg hc, if_neg hfu, if_pos hpo]
            obtain ⟨e1, e2, e3, e4⟩ := bad 5 e (by decide)
            rw [e, e1, e2, e3, e4]
            exact submit_poll h hi hk h0 af now hac haf (by omega) hpo
          · have e0 : subE ts R S A M a k af = spendE A M a 10 false := by unfold subE; rw [if_neg hc, if_neg hfu, if_neg hpo]
            by_cases hE : spendE A M a 10 false = 0
            · have e : subE ts R S A M a k af = 0 := by rw [e0, hE]
              have e1 : subN ts R S A M a k af = R.length := by unfold subN; rw [if_pos e]
              have e2 : subR ts R S A M a k af h0 now = R ++ [newX k h0 af now a] := by unfold subR; rw [if_pos e]
              have e3 : subS ts R S A M a k af = openS S R.length k := by unfold subS; rw [if_pos e]
              have e4 : subA ts R S A M a k af = reserveA A M a 10 := by unfold subA; rw [if_pos e]
              rw [e, e1, e2, e3, e4]
              exact submit_ok h hi hk h0 af now ha hac haf (by omega) hpo hE
            · obtain ⟨e1, e2, e3, e4⟩ := bad _ e0 hE
              rw [e0, e1, e2, e3, e4]
              exact submit_fund h hi hk h0 af now ha hac haf (by omega) hpo rfl hE
      · have e : subE ts R S A M a k af = 1 := by unfold subE; rw [if_pos (.inr (.inr haf))]
        obtain ⟨e1, e2, e3, e4⟩ := bad 1 e (by decide)
        rw [e, e1, e2, e3, e4]
        exact submit_aft h hi hk h0 af now hac haf
    · have e : subE ts R S A M a k af = 1 := by unfold subE; rw [if_pos (.inr (.inl hac))]
      obtain ⟨e1, e2, e3, e4⟩ := bad 1 e (by decide)
      rw [e, e1, e2, e3, e4]
      exact submit_acc h hi hk h0 af now hac
  · have e : subE ts R S A M a t af = 1 := by unfold subE; rw [if_pos (.inl ht)]
    obtain ⟨e1, e2, e3, e4⟩ := bad 1 e (by decide)
    rw [e, e1, e2, e3, e4]
    exact submit_no h hi ht h0 a af now
end
end Go.Proofs.YtpkamfbjgdmmoaaGreat
end

section
namespace Go.Proofs
open Go.Shelf
def Tryz.keysR_ren : Go.Shelf.Ren := ⟨fun | 7 => 151 | 10 => 160 | n => n, fun | 23 => 200 | 26 => 3 | 3 => 56 | 28 => 250 | 0 => 0 | 27 => 249 | 33 => 72 | 4 => 4 | n => n, fun | n => n⟩
theorem Tryz.keysR : Go.Proofs.SlLaysZI.n7 Tryz.prog Tryz.keysR_ren := {
  mixed := by kernel_rfl
  f7 := ⟨Tryz.f151.name, by decide, Tryz.func151.trans (congrArg some (by kernel_rfl))⟩
  f10 := ⟨Tryz.f160.name, by decide, Tryz.func160.trans (congrArg some (by kernel_rfl))⟩
  t0 := Tryz.underlying0
  a0 := Tryz.isAgg0
  z0 := Tryz.sizeOf0
  v0 := Tryz.zeroValue0
  t4 := Tryz.underlying4
  a4 := Tryz.isAgg4
  z4 := Tryz.sizeOf4
  v4 := Tryz.zeroValue4
  t23 := Tryz.underlying200
  a23 := Tryz.isAgg200
  z23 := Tryz.sizeOf200
  v23 := Tryz.zeroValue200
  t26 := Tryz.underlying3
  a26 := Tryz.isAgg3
  z26 := Tryz.sizeOf3
  v26 := Tryz.zeroValue3
  t27 := Tryz.underlying249
  a27 := Tryz.isAgg249
  z27 := Tryz.sizeOf249
  v27 := Tryz.zeroValue249
  t28 := Tryz.underlying250
  a28 := Tryz.isAgg250
  z28 := Tryz.sizeOf250
  v28 := Tryz.zeroValue250
  t33 := Tryz.underlying72
  a33 := Tryz.isAgg72
  z33 := Tryz.sizeOf72
  v33 := Tryz.zeroValue72 }
end Go.Proofs
end
