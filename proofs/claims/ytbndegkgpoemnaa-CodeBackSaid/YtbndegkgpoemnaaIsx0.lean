/-
  IsExt of any extrinsic. Printed by mkisx.py (the parts).
-/
import Derived.Test.YtbndegkgpoemnaaCod8
import Derived.Test.YtbndegkgpoemnaaCnv2
import Derived.Test.YtbndegkgpoemnaaEnc
import Derived.Deep.DeepCutAuto
import Derived.Deep.CutBlock
namespace Go.Proofs.Ytbndegkgpoemnaa
open Go.RowKit
set_option linter.unusedVariables false
set_option linter.unusedSimpArgs false

theorem setCells_mid {b : Nat} {t : TypeId} : ∀ (vs A M C : List Value) (w : World), w.heap[b]? = some (.cells (A ++ (M ++ C)).toArray t (0, 0)) → M.length = vs.length → (w.setCells b A.length vs).heap[b]? = some (.cells (A ++ (vs ++ C)).toArray t (0, 0))
  | [], A, M, C, w, h, hl => by
    cases M with
    | nil => exact h
    | cons => simp at hl
  | v :: vs, A, M, C, w, h, hl => by
    cases M with
    | nil => simp at hl
    | cons m M =>
      have e : (A ++ (m :: M ++ C)).toArray.setIfInBounds A.length v = ((A ++ [v]) ++ (M ++ C)).toArray := by apply Array.ext'; simp
      have h1 : (w.setCell ⟨b, A.length, none⟩ v).heap[b]? = some (.cells ((A ++ [v]) ++ (M ++ C)).toArray t (0, 0)) := by
        rw [← e]; exact heap_setCell_same _ _ _ _ _ _ h
      have h2 := setCells_mid vs (A ++ [v]) M C _ h1 (by simpa using hl)
      simpa [World.setCells] using h2
theorem setCells_other {b k : Nat} (hk : k ≠ b) : ∀ (vs : List Value) (o : Nat) (w : World), (w.setCells b o vs).heap[k]? = w.heap[k]?
  | [], o, w => rfl
  | v :: vs, o, w => (setCells_other hk vs (o + 1) _).trans (heap_setCell_other _ _ _ _ hk)
theorem setCells_below {B b : Nat} (hb : B ≤ b) : ∀ (vs : List Value) (o : Nat) (w : World), Below B w (w.setCells b o vs)
  | [], o, w => Below.refl _ _
  | v :: vs, o, w => by
    have h1 : Below B w (w.setCell ⟨b, o, none⟩ v) := ⟨rfl, rfl, rfl, by simp [World.setCell], fun k hk => heap_setCell_other _ _ _ _ (by show k ≠ b; omega)⟩
    exact h1.trans (setCells_below hb vs (o + 1) _)
theorem PairE.mid {w : World} {b0 b1 : Nat} {e u : Ex} {W : World} (h : PairE w b0 b1 e u W) {A M C vs : List Value} (u' : Ex) (e1 : ec u = A ++ (M ++ C)) (e2 : ec u' = A ++ (vs ++ C)) (hl : M.length = vs.length) {o : Nat} (ho : A.length = o) : PairE w b0 b1 e u' (W.setCells b1 o vs) := by
  subst ho
  refine ⟨h.old.trans (setCells_below h.l1 _ _ _), h.ne, h.l0, h.l1, (setCells_other h.ne.symm _ _ _).trans h.c0, ?_⟩
  have h1 := h.c1
  rw [e1] at h1
  rw [e2]
  exact setCells_mid vs A M C W h1 hl
def zH : List Value := Bs (List.replicate 32 0)
def zV : List Value := vtc ⟨0, false, 0, 0, 0, 0⟩
def zC : List Value := [.int .i64 0, .int .i64 0, .int .i64 0, .slice none 0 0]
def exH (e : Ex) : Ex := ⟨e.hd, e.h7, List.replicate 32 0, by simp, e.vote, e.ck, e.ct, e.cn, e.ca, e.cc, e.m⟩
def exV (e : Ex) : Ex := ⟨e.hd, e.h7, e.sum, e.h32, ⟨0, false, 0, 0, 0, 0⟩, e.ck, e.ct, e.cn, e.ca, e.cc, e.m⟩
def exC (e : Ex) : Ex := ⟨e.hd, e.h7, e.sum, e.h32, e.vote, 0, 0, 0, none, 0, 0⟩
theorem PairE.setH {w : World} {b0 b1 : Nat} {e u : Ex} {W : World} (h : PairE w b0 b1 e u W) : PairE w b0 b1 e (exH u) (W.setCells b1 7 zH) :=
  h.mid (A := Is u.hd) (M := Bs u.sum) (C := vtc u.vote ++ callc u) (vs := zH) (exH u) (by simp only [ec]) (by simp only [ec, exH, zH, callc]) (by simp [Bs, zH, u.h32]) (o := 7) (by simp [Is, u.h7])
theorem PairE.setV {w : World} {b0 b1 : Nat} {e u : Ex} {W : World} (h : PairE w b0 b1 e u W) : PairE w b0 b1 e (exV u) (W.setCells b1 39 zV) :=
  h.mid (A := Is u.hd ++ Bs u.sum) (M := vtc u.vote) (C := callc u) _ (by simp [ec]) (by simp [ec, exV, zV, callc]) (by simp [vtc, zV]) (by simp [Is, Bs, u.h7, u.h32])
theorem PairE.setC {w : World} {b0 b1 : Nat} {e u : Ex} {W : World} (h : PairE w b0 b1 e u W) : PairE w b0 b1 e (exC u) (W.setCells b1 45 zC) :=
  h.mid (A := Is u.hd ++ (Bs u.sum ++ vtc u.vote)) (M := callc u) (C := []) _ (by simp [ec]) (by simp [ec, exC, zC, callc]) (by simp [callc, zC]) (by simp [Is, Bs, vtc, u.h7, u.h32])
def storeH (p v : Value) : Sem Unit := Instr.storeAt 23 p v
theorem store_h (p v : Value) : Instr.storeAt 23 p v = storeH p v := rfl
def storeV (p v : Value) : Sem Unit := Instr.storeAt 25 p v
theorem store_v (p v : Value) : Instr.storeAt 25 p v = storeV p v := rfl
def storeC (p v : Value) : Sem Unit := Instr.storeAt 28 p v
theorem store_c (p v : Value) : Instr.storeAt 28 p v = storeC p v := rfl
def buildH (parts : Array (Nat × Value)) : Sem Value := Instr.build 23 parts
theorem build_h (parts : Array (Nat × Value)) : Instr.build 23 parts = buildH parts := rfl
def buildV (parts : Array (Nat × Value)) : Sem Value := Instr.build 25 parts
theorem build_v (parts : Array (Nat × Value)) : Instr.build 25 parts = buildV parts := rfl
def buildC (parts : Array (Nat × Value)) : Sem Value := Instr.build 28 parts
theorem build_c (parts : Array (Nat × Value)) : Instr.build 28 parts = buildC parts := rfl
theorem run_buildH (w : World) : (buildH #[]).run Try.prog w = .ok (.agg zH.toArray) w := by kernel_rfl
theorem run_buildV (w : World) : (buildV #[]).run Try.prog w = .ok (.agg zV.toArray) w := by kernel_rfl
theorem run_buildC (w : World) : (buildC #[]).run Try.prog w = .ok (.agg zC.toArray) w := by kernel_rfl
theorem there_ec {w : World} {b : Nat} {u : Ex} (h : w.heap[b]? = some (.cells (ec u).toArray 30 (0, 0))) {o n : Nat} (hn : o + n ≤ 49) : w.there b o n := fun j hj =>
  ⟨by
    have hl := ec_len u
    rw [World.cell?, h]
    have : o + j < (ec u).length := by omega
    simp [this], frozen_of_row _ _ _ _ _ h⟩
theorem run_storeH {w : World} {b : Nat} {u : Ex} (h : w.heap[b]? = some (.cells (ec u).toArray 30 (0, 0))) : (storeH (.pointer (some ⟨b, 7, none⟩)) (.agg zH.toArray)).run Try.prog w = .ok () (w.setCells b 7 zH) :=
  run_storeAt_mid w b 7 23 zH.toArray (there_ec h (by simp [zH, Bs])) (by kernel_rfl) (by kernel_rfl)
theorem run_storeV {w : World} {b : Nat} {u : Ex} (h : w.heap[b]? = some (.cells (ec u).toArray 30 (0, 0))) : (storeV (.pointer (some ⟨b, 39, none⟩)) (.agg zV.toArray)).run Try.prog w = .ok () (w.setCells b 39 zV) :=
  run_storeAt_mid w b 39 25 zV.toArray (there_ec h (by simp [zV, vtc])) (by kernel_rfl) (by kernel_rfl)
theorem run_storeC {w : World} {b : Nat} {u : Ex} (h : w.heap[b]? = some (.cells (ec u).toArray 30 (0, 0))) : (storeC (.pointer (some ⟨b, 45, none⟩)) (.agg zC.toArray)).run Try.prog w = .ok () (w.setCells b 45 zC) :=
  run_storeAt_mid w b 45 28 zC.toArray (there_ec h (by simp [zC])) (by kernel_rfl) (by kernel_rfl)
/-- What is left of an extrinsic without what its kind names. -/
def wiped (k who to' n r tr lv : Int) (e : Ex) : Ex :=
  ⟨[k, who, if k = 1 ∨ k = 9 then 0 else to', if k = 1 ∨ k = 4 ∨ k = 9 then 0 else n, if k = 5 ∨ k = 6 ∨ k = 7 ∨ k = 8 then 0 else r, if k = 4 ∨ k = 9 ∨ k = 10 ∨ k = 11 then 0 else tr, if k = 9 then 0 else lv], rfl,
    if k = 3 ∨ k = 4 then List.replicate 32 0 else e.sum, by split <;> simp [e.h32], if k = 7 then ⟨0, false, 0, 0, 0, 0⟩ else e.vote,
    if k = 2 then 0 else e.ck, if k = 2 then 0 else e.ct, if k = 2 then 0 else e.cn, if k = 2 then none else e.ca, if k = 2 then 0 else e.cc, if k = 2 then 0 else e.m⟩
/-- May what a kind names be? -/
def fieldsOk (k to' n r tr lv : Int) (cOk vOk : Bool) : Bool :=
  if k = 1 then decide (0 ≤ to' ∧ to' < 10) && decide (0 ≤ n ∧ n ≤ 1073741824)
  else if k = 2 then cOk
  else if k = 3 then true
  else if k = 4 then decide (0 ≤ tr ∧ tr < 4) && decide (0 ≤ n ∧ n ≤ 1000)
  else if k = 7 then decide (0 ≤ r ∧ r < 12) && vOk
  else if k = 9 then decide (0 ≤ tr ∧ tr < 4) && (decide (0 ≤ to' ∧ to' < 10) && (decide (0 ≤ lv ∧ lv ≤ 6) && decide (0 ≤ n ∧ n ≤ 1073741824)))
  else if k = 10 ∨ k = 11 then decide (0 ≤ tr ∧ tr < 4)
  else decide (0 ≤ r ∧ r < 12)
end Go.Proofs.Ytbndegkgpoemnaa
