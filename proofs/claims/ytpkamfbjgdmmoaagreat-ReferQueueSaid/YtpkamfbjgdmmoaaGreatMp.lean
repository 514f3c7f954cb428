/-
  What else is wanted.
-/
import Derived.WalkKit
import Derived.Lib.Hide
import Derived.Below
import Derived.OwnWalkIn
import Derived.Maps.OwnIn
import Derived.Maps.AppendAt
import Derived.Deep.MidRow
import Derived.Deep.WholeRow
import Derived.Great.BuildSlice
import Derived.RangeFuncBox
import Derived.Laws.Tables
import Derived.Deep.Matrix
import Derived.Test.YtpkamfbjgdmmoaaGreatMsm

section
namespace Go.Proofs.YtpkamfbjgdmmoaaGreat
open Go.RowKit
set_option linter.unusedVariables false
set_option linter.unusedSimpArgs false

section
variable {P : Program} {α : Type} (r : RowTy P α)
theorem RowTy.all_nil : r.all [] = [] := rfl
variable {r} {w w' : World} {v : Value} {xs : List α} {B : Nat}
section
variable {F : Fence} {nF : Nat} {ops : Array Oper} {rest : List Oper} {o : Oper} {a : Act} {Q : Exit → Act → World → Prop}
end
end
end Go.Proofs.YtpkamfbjgdmmoaaGreat
end

section
namespace Go.Proofs.YtpkamfbjgdmmoaaGreat
open Go.ChangeShapes Go.WideShapes Go.ChangeAt Go.RowKit Go.Deep
set_option linter.unusedVariables false

section
variable {H : Type} {enc : TypeId × Value → H} {P : Program} {w : World} {base : Nat} {held : Bool}
theorem open_RdI0 {t e : TypeId} {k : IntKind} {v : Value} {d : DataW H} {p : List MemPlace} (ht : P.underlying t = some (.slice e)) (he : P.underlying e = some (.int k)) (hc : P.cellsOf e = 1)
    (h : ∃ fuel, DataW.trod enc P w base (fun _ => true) held fuel t [v] = some (d, p)) : (v = .slice none 0 0) ∨
      ∃ (a : Addr) (len cap : Nat) (zs : List Int), v = .slice (some a) len cap ∧ len ≤ cap ∧ cap ≤ maxLen ∧ zs.length = cap ∧ (∀ i, i < cap → w.cell? (a.add i) = some (.int k (zs.getD i 0))) ∧ (∀ n ∈ zs, (Lit.int k n).wf = true) := by
  obtain ⟨fuel, hf⟩ := h
  rcases open_ints ht he hc hf with ⟨hcs, -⟩ | ⟨a, len, cap, zs, hcs, hb, hl, hm, hz, -, hcell, hwz⟩
  · exact .inl (by simpa using hcs)
  · simp only [if_true] at hz
    exact .inr ⟨a, len, cap, zs, by simpa using hcs, hl, hm, hz, fun i hi => hcell i (by omega), hwz⟩
theorem cells_sliceI {v : Value} {r : Reach} {b0 : Nat} {t e : TypeId} (ht : P.underlying t = some (.slice e)) (hv : Value.okWide P w r b0 t v) : v.cells.toList = [v] := by
  unfold Value.okWide at hv
  rw [ht] at hv
  simp only [Cell.okWide, Cell.ok, ht] at hv
  cases v <;> simp [Value.cells] at hv ⊢
theorem open_RdI {t e : TypeId} {v : Value} {d : DataW H} {p : List MemPlace} {r : Reach} {b0 : Nat} (ht : P.underlying t = some (.slice e)) (he : P.underlying e = some (.int .i64)) (hc : P.cellsOf e = 1)
    (hv : Value.okWide P w r b0 t v) (h : DataW.Trod enc P w base (fun _ => true) held t v d p) : ∃ l : List Int, RdI w v l ∧ (∀ n ∈ l, (Lit.int .i64 n).wf = true) ∧ l.length ≤ maxLen := by
  obtain ⟨fuel, hf⟩ := h
  rw [cells_sliceI ht hv] at hf
  rcases open_RdI0 ht he hc ⟨fuel, hf⟩ with rfl | ⟨a, len, cap, zs, rfl, hl, hm, hz, hcell, hw⟩
  · exact ⟨[], .inl ⟨rfl, rfl⟩, by simp, by simp⟩
  · have hlen : (zs.take len).length = len := by simp; omega
    refine ⟨zs.take len, .inr ⟨a, cap, by rw [hlen], by rw [hlen]; exact hl, fun i hi => ?_⟩, fun n hn => hw n (List.mem_of_mem_take hn), by rw [hlen]; omega⟩
    rw [hlen] at hi
    rw [hcell i (by omega)]
    have hiz : i < zs.length := by omega
    simp [hiz, hi]
end
end Go.Proofs.YtpkamfbjgdmmoaaGreat
end

section
namespace Go.Proofs.YtpkamfbjgdmmoaaGreat
open Go.RowKit Go.Maps Go.Shelf
attribute [local go_sem] Oper.semAt_some
set_option linter.unusedVariables false
set_option linter.unusedSimpArgs false

theorem lendP1_same (was is : Wgt) (P : Nat → Pl) (x : Int × Bal) (k : Nat) : (lendP1 was is P x k).st = (P k).st ∧ (lendP1 was is P x k).tr = (P k).tr ∧ (lendP1 was is P x k).en = (P k).en := by
  unfold lendP1
  split
  · by_cases h : k = x.1.toNat
    · subst h; rw [putP_same]; exact ⟨rfl, rfl, rfl⟩
    · rw [putP_other _ _ h]; exact ⟨rfl, rfl, rfl⟩
  · exact ⟨rfl, rfl, rfl⟩
theorem lendP_same (was is : Wgt) : ∀ (l : List (Int × Bal)) (P : Nat → Pl) (k : Nat), (lendP was is P l k).st = (P k).st ∧ (lendP was is P l k).tr = (P k).tr ∧ (lendP was is P l k).en = (P k).en
  | [], P, k => ⟨rfl, rfl, rfl⟩
  | x :: l, P, k => by
    obtain ⟨h1, h2, h3⟩ := lendP_same was is l (lendP1 was is P x) k
    obtain ⟨k1, k2, k3⟩ := lendP1_same was is P x k
    exact ⟨h1.trans k1, h2.trans k2, h3.trans k3⟩
/-- What lending changes. -/
def lendG (S : Vs) (who t dv dc : Int) : Wgt := ⟨wrap64 (((cget S.G who t).getD ⟨0, 0⟩).v + dv), wrap64 (((cget S.G who t).getD ⟨0, 0⟩).c + dc)⟩
def lendS (S : Vs) (who t dv dc : Int) : Vs := { S with G := cput S.G who t (lendG S who t dv dc), P := lendP ((cget S.G who t).getD ⟨0, 0⟩) (lendG S who t dv dc) S.P (ballots S who t) }
end Go.Proofs.YtpkamfbjgdmmoaaGreat
end

section
namespace Go.Proofs.YtpkamfbjgdmmoaaGreat
open Go.RowKit Go.Maps
set_option linter.unusedVariables false
set_option linter.unusedSimpArgs false

/-- Delegate. -/
def delE (S : Vs) (A : Acc) (a t who l n : Int) : Int :=
  if ¬ isAcc a ∨ ¬ (0 ≤ t ∧ t < 4) ∨ ¬ isAcc who ∨ who = a ∨ ¬ (0 ≤ l ∧ l ≤ 6) ∨ ¬ isBal n then 1 else if (cget S.D a t).isSome = true then 5 else if 0 < (ballots S a t).length then 9 else if (A a.toNat).1 < n then 6 else 0
def delS (S : Vs) (A : Acc) (a t who l n : Int) : Vs := if delE S A a t who l n = 0 then lendS { S with D := cput S.D a t ⟨who, l, n⟩ } who t (votesI n l) n else S
def delM (S : Vs) (A : Acc) (M : Cls Int) (a t who l n : Int) : Cls Int := if delE S A a t who l n = 0 then raiseM M a t n else M
/-- Undelegate. -/
def undE (S : Vs) (a t : Int) : Int := if ¬ isAcc a ∨ ¬ (0 ≤ t ∧ t < 4) then 1 else if (cget S.D a t).isSome = false then 4 else 0
def undD (S : Vs) (a t : Int) : Dlg := (cget S.D a t).getD dlgS.zero
def undS1 (S : Vs) (a t : Int) : Vs := lendS { S with D := cdel S.D a t } (undD S a t).to t (wrap64 (-(votesI (undD S a t).n (undD S a t).l))) (wrap64 (-(undD S a t).n))
def undS (S : Vs) (a t now : Int) : Vs := if undE S a t = 0 then { undS1 S a t with Q := joinQ S.Q a t (wrap64 (now + periodI (undD S a t).l 8)) (undD S a t).n now } else S
/-- Unlock. -/
def unlE (a t : Int) : Int := if ¬ isAcc a ∨ ¬ (0 ≤ t ∧ t < 4) then 1 else 0
def unlQ (S : Vs) (a t now : Int) : Cls Wgt := if ((cget S.Q a t).getD ⟨0, 0⟩).v ≤ now then cdel S.Q a t else S.Q
def unlS (S : Vs) (a t now : Int) : Vs := if unlE a t = 0 then { S with Q := unlQ S a t now } else S
def maxCap (l : List (Int × Bal)) (n : Int) : Int := l.foldl (fun m x => max m (capB x.2)) n
def unlN (S : Vs) (a t now : Int) : Int := maxCap (ballots S a t) (max (undD S a t).n ((cget (unlQ S a t now) a t).getD ⟨0, 0⟩).c)
def unlM (S : Vs) (M : Cls Int) (a t now : Int) : Cls Int := if unlE a t = 0 then lockM M a t (unlN S a t now) else M
end Go.Proofs.YtpkamfbjgdmmoaaGreat
end

section
namespace Go.Proofs.YtpkamfbjgdmmoaaGreat
open Go.RowKit Go.Maps Go.Shelf
set_option linter.unusedVariables false
set_option linter.unusedSimpArgs false

def M1 : Cls Int := lockM [] 0 1 3
end Go.Proofs.YtpkamfbjgdmmoaaGreat
end
